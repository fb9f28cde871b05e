/- The program's wheel in memory. -/
import Derived.Test.YtbjhoncojegjiaaDoorWheelN
import Derived.Test.YtbjhoncojegjiaaDoorWheelD
import Derived.Test.YtbjhoncojegjiaaDoorGrow
import Derived.Laws.Tables
namespace Go.Proofs.YtbjhoncojegjiaaDoor
open Go.ChangeShapes Go.WideShapes Go.ChangeAt Go.RowKit
set_option linter.unusedVariables false

/-- The cells of a wheel: now, how many are set, to which tick each is (0: it is not), the slots. -/
def WCells (w : World) (H : Nat) (m : Bool) (now len : Int) (y : Nat → Int) (sl : Nat → Value) : Prop :=
  ∃ cur, w.heap[H]? = some (.cells cur 52 (0, 0)) ∧ cur.size = 515 ∧ cur[0]? = some (.bool m) ∧ cur[1]? = some (.int .i64 now) ∧ cur[2]? = some (.int .i64 len) ∧ (∀ i, i < 256 → cur[3 + i]? = some (.int .i64 (y i))) ∧ (∀ k, k < 256 → cur[259 + k]? = some (sl k))
section
variable {w w' : World} {H : Nat} {m : Bool} {now len : Int} {y : Nat → Int} {sl : Nat → Value}
theorem WCells.same (h : WCells w H m now len y sl) (hs : w'.heap[H]? = w.heap[H]?) : WCells w' H m now len y sl := by
  obtain ⟨cur, h1, h2⟩ := h
  exact ⟨cur, hs.trans h1, h2⟩
theorem WCells.lt (h : WCells w H m now len y sl) : H < w.heap.size := by obtain ⟨cur, h1, _⟩ := h; exact lt_of_block h1
theorem WCells.made (h : WCells w H m now len y sl) : w.cell? ⟨H, 0, none⟩ = some (.bool m) := by obtain ⟨cur, h1, _, h3, _⟩ := h; exact cell_in h1 h3
theorem WCells.now_ (h : WCells w H m now len y sl) : w.cell? ⟨H, 1, none⟩ = some (.int .i64 now) ∧ w.frozen? ⟨H, 1, none⟩ = false := by obtain ⟨cur, h1, _, _, h3, _⟩ := h; exact ⟨cell_in h1 h3, free_in h1 _⟩
theorem WCells.len_ (h : WCells w H m now len y sl) : w.cell? ⟨H, 2, none⟩ = some (.int .i64 len) ∧ w.frozen? ⟨H, 2, none⟩ = false := by obtain ⟨cur, h1, _, _, _, h3, _⟩ := h; exact ⟨cell_in h1 h3, free_in h1 _⟩
theorem WCells.tick (h : WCells w H m now len y sl) {i : Nat} (hi : i < 256) : w.cell? ⟨H, 3 + i, none⟩ = some (.int .i64 (y i)) ∧ w.frozen? ⟨H, 3 + i, none⟩ = false := by obtain ⟨cur, h1, _, _, _, _, h3, _⟩ := h; exact ⟨cell_in h1 (h3 i hi), free_in h1 _⟩
theorem WCells.slot (h : WCells w H m now len y sl) {k : Nat} (hk : k < 256) : w.cell? ⟨H, 259 + k, none⟩ = some (sl k) ∧ w.frozen? ⟨H, 259 + k, none⟩ = false := by obtain ⟨cur, h1, _, _, _, _, _, h3⟩ := h; exact ⟨cell_in h1 (h3 k hk), free_in h1 _⟩
theorem WCells.set_now (h : WCells w H m now len y sl) (v : Int) : WCells (w.setCell ⟨H, 1, none⟩ (.int .i64 v)) H m v len y sl := by
  obtain ⟨cur, h1, h2, h3, h4, h5, h6, h7⟩ := h
  refine ⟨_, set_at h1, by simpa using h2, ?_, ?_, ?_, fun i hi => ?_, fun k hk => ?_⟩ <;> rw [Array.getElem?_setIfInBounds]
  · rw [if_neg (by omega)]; exact h3
  · rw [if_pos rfl, if_pos (by omega)]
  · rw [if_neg (by omega)]; exact h5
  · rw [if_neg (by omega)]; exact h6 i hi
  · rw [if_neg (by omega)]; exact h7 k hk
theorem WCells.set_len (h : WCells w H m now len y sl) (v : Int) : WCells (w.setCell ⟨H, 2, none⟩ (.int .i64 v)) H m now v y sl := by
  obtain ⟨cur, h1, h2, h3, h4, h5, h6, h7⟩ := h
  refine ⟨_, set_at h1, by simpa using h2, ?_, ?_, ?_, fun i hi => ?_, fun k hk => ?_⟩ <;> rw [Array.getElem?_setIfInBounds]
  · rw [if_neg (by omega)]; exact h3
  · rw [if_neg (by omega)]; exact h4
  · rw [if_pos rfl, if_pos (by omega)]
  · rw [if_neg (by omega)]; exact h6 i hi
  · rw [if_neg (by omega)]; exact h7 k hk
theorem WCells.set_tick (h : WCells w H m now len y sl) {i : Nat} (hi : i < 256) (v : Int) : WCells (w.setCell ⟨H, 3 + i, none⟩ (.int .i64 v)) H m now len (updR y i v) sl := by
  obtain ⟨cur, h1, h2, h3, h4, h5, h6, h7⟩ := h
  refine ⟨_, set_at h1, by simpa using h2, ?_, ?_, ?_, fun j hj => ?_, fun k hk => ?_⟩ <;> rw [Array.getElem?_setIfInBounds]
  · rw [if_neg (by omega)]; exact h3
  · rw [if_neg (by omega)]; exact h4
  · rw [if_neg (by omega)]; exact h5
  · by_cases e : j = i
    · subst e; rw [updR_at, if_pos rfl, if_pos (by omega)]
    · rw [updR_ne _ _ e, if_neg (by omega)]; exact h6 j hj
  · rw [if_neg (by omega)]; exact h7 k hk
theorem WCells.set_slot (h : WCells w H m now len y sl) {k : Nat} (hk : k < 256) (v : Value) : WCells (w.setCell ⟨H, 259 + k, none⟩ v) H m now len y (updR sl k v) := by
  obtain ⟨cur, h1, h2, h3, h4, h5, h6, h7⟩ := h
  refine ⟨_, set_at h1, by simpa using h2, ?_, ?_, ?_, fun j hj => ?_, fun j hj => ?_⟩ <;> rw [Array.getElem?_setIfInBounds]
  · rw [if_neg (by omega)]; exact h3
  · rw [if_neg (by omega)]; exact h4
  · rw [if_neg (by omega)]; exact h5
  · rw [if_neg (by omega)]; exact h6 j hj
  · by_cases e : j = k
    · subst e; rw [updR_at, if_pos rfl, if_pos (by omega)]
    · rw [updR_ne _ _ e, if_neg (by omega)]; exact h7 j hj
end
/-- A new wheel's cells. -/
def whN (N : Nat) (m : Bool) (now : Int) : Array Value := (([.bool m, .int .i64 now, .int .i64 0] : List Value) ++ List.replicate N (Value.int .i64 0) ++ List.replicate N (Value.slice none 0 0)).toArray
def whArr (m : Bool) (now : Int) : Array Value := whN 256 m now
theorem whN_cells (N : Nat) (m : Bool) (now : Int) : (whN N m now).size = 3 + N + N ∧ (whN N m now)[0]? = some (.bool m) ∧ (whN N m now)[1]? = some (.int .i64 now) ∧ (whN N m now)[2]? = some (.int .i64 0) ∧ (∀ i, i < N → (whN N m now)[3 + i]? = some (.int .i64 0)) ∧ (∀ k, k < N → (whN N m now)[3 + N + k]? = some (.slice none 0 0)) := by
  refine ⟨by simp [whN]; omega, by simp [whN], by simp [whN], by simp [whN], fun i hi => ?_, fun k hk => ?_⟩
  · simp only [whN, List.getElem?_toArray]
    rw [List.getElem?_append_left (by simp; omega), List.getElem?_append_right (by simp), List.getElem?_replicate, if_pos (by simp; omega)]
  · simp only [whN, List.getElem?_toArray]
    rw [List.getElem?_append_right (by simp; omega), List.getElem?_replicate, if_pos (by simp; omega)]
theorem whArr_cells {w : World} {H : Nat} {m : Bool} {now : Int} (h : w.heap[H]? = some (.cells (whArr m now) 52 (0, 0))) : WCells w H m now 0 (fun _ => 0) (fun _ => .slice none 0 0) := by
  obtain ⟨h1, h2, h3, h4, h5, h6⟩ := whN_cells 256 m now
  exact ⟨_, h, h1, h2, h3, h4, h5, h6⟩
set_option maxRecDepth 100000 in
theorem built_new (now : Int) : Tryd.prog.built 52 [(0, .bool true), (1, .int .i64 now)] = some (whArr true now) := by kernel_rfl
set_option maxRecDepth 100000 in
theorem built_zero : Tryd.prog.built 52 [] = some (whArr false 0) := by kernel_rfl
theorem wpList_build2 {P : Program} {ops : Array Oper} {rest : List Oper} {o : Oper} {a : Act} {w : World} {Q : Exit → Act → World → Prop} (hg : o.guard = none) (t : TypeId) (parts : Array (Nat × Operand)) (ho : o.op = .build t parts)
    (ps : List (Nat × Value)) (hp : (parts.map fun (i, x) => (i, a.eval x)).toList = ps) (cells : Array Value) (hb : P.built t ps = some cells)
    (h : wpList P ops Q rest (a.put o.dst (.agg cells)) w) : wpList P ops Q (o :: rest) a w :=
  wpList_build hg t parts ho (by rw [hp, hb]; rfl) (by rw [hp, hb]; exact h)
def nI (l : List Nat) : List Int := l.map (fun i : Nat => (i : Int))
def natCells (l : List Nat) : List Value := (nI l).map (Value.int .i64)
/-- The slots' rows: each has its list; no two share a block. -/
structure WRows (w : World) (H : Nat) (sl : Nat → Value) (L : Nat → List Nat) : Prop where
  row : ∀ k, k < 256 → w.ownsRow 0 3 1 (sl k) (L k).length (natCells (L k))
  ne : ∀ k, k < 256 → (sl k).ownBlock ≠ some H
  apart : ∀ j k, j < 256 → k < 256 → j ≠ k → ∀ g, (sl j).ownBlock = some g → (sl k).ownBlock ≠ some g
/-- The wheel's own blocks. -/
def WOwn (H : Nat) (sl : Nat → Value) (b : Nat) : Prop := b = H ∨ ∃ k, k < 256 ∧ (sl k).ownBlock = some b
theorem owns_same {w w' : World} {base e sz n : Nat} {v : Value} {xs : List Value} (h : w.ownsRow base e sz v n xs) (hs : ∀ g, v.ownBlock = some g → w'.heap[g]? = w.heap[g]?) : w'.ownsRow base e sz v n xs := by
  refine ⟨h.1, ?_⟩
  rcases h.2 with h2 | ⟨g, c, cur, hv, hb, hg, h3⟩
  · exact .inl h2
  · exact .inr ⟨g, c, cur, hv, hb, (hs g (by rw [hv]; rfl)).trans hg, h3⟩
theorem owns_lt {w : World} {base e sz n : Nat} {v : Value} {xs : List Value} (h : w.ownsRow base e sz v n xs) {g : Nat} (hg : v.ownBlock = some g) : g < w.heap.size := by
  obtain ⟨_, cs, h1⟩ := owns_block h g hg
  exact lt_of_block h1
section
variable {w w' : World} {H : Nat} {sl : Nat → Value} {L : Nat → List Nat}
theorem WRows.same (h : WRows w H sl L) (hs : ∀ k g, k < 256 → (sl k).ownBlock = some g → w'.heap[g]? = w.heap[g]?) : WRows w' H sl L :=
  ⟨fun k hk => owns_same (h.row k hk) (hs k · hk), h.ne, h.apart⟩
/-- A cell of the wheel's block is written: the rows stay. -/
theorem WRows.setH (h : WRows w H sl L) (j : Nat) (v : Value) : WRows (w.setCell ⟨H, j, none⟩ v) H sl L :=
  h.same fun k g hk hg => Below.heap_setCell _ _ _ _ (fun e => h.ne k hk (by rw [hg, show g = H from e]))
/-- One slot's row is another one, of its own block or of a new one. -/
theorem WRows.upd (h : WRows w H sl L) {k : Nat} (hk : k < 256) {v : Value} {l : List Nat} (hrow : w'.ownsRow 0 3 1 v l.length (natCells l))
    (hb : ∀ g, v.ownBlock = some g → (sl k).ownBlock = some g ∨ w.heap.size ≤ g) (hH : H < w.heap.size)
    (hs : ∀ b, b < w.heap.size → (sl k).ownBlock ≠ some b → b ≠ H → w'.heap[b]? = w.heap[b]?) : WRows w' H (updR sl k v) (updR L k l) := by
  refine ⟨fun j hj => ?_, fun j hj => ?_, fun i j hi hj hij g h1 => ?_⟩
  · by_cases e : j = k
    · subst e; rw [updR_at, updR_at]; exact hrow
    · rw [updR_ne _ _ e, updR_ne _ _ e]
      exact owns_same (h.row j hj) fun g hg => hs g (owns_lt (h.row j hj) hg) (fun e2 => h.apart j k hj hk e g hg e2) (fun e2 => h.ne j hj (by rw [hg, e2]))
  · by_cases e : j = k
    · subst e
      rw [updR_at]
      intro e2
      rcases hb H e2 with h1 | h1
      · exact h.ne j hj h1
      · omega
    · rw [updR_ne _ _ e]; exact h.ne j hj
  · by_cases e1 : i = k
    · subst e1
      rw [updR_at] at h1
      rw [updR_ne _ _ (Ne.symm hij)]
      intro e2
      rcases hb g h1 with h3 | h3
      · exact h.apart _ _ hi hj hij g h3 e2
      · have := owns_lt (h.row j hj) e2; omega
    · rw [updR_ne _ _ e1] at h1
      by_cases e2 : j = k
      · subst e2
        rw [updR_at]
        intro e3
        rcases hb g e3 with h3 | h3
        · exact h.apart _ _ hi hj hij g h1 h3
        · have := owns_lt (h.row i hi) h1; omega
      · rw [updR_ne _ _ e2]; exact h.apart i j hi hj hij g h1
end
end Go.Proofs.YtbjhoncojegjiaaDoor
