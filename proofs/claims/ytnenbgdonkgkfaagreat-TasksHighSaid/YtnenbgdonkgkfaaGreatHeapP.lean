/- A heap in memory. -/
import Derived.Test.YtnenbgdonkgkfaaGreatHeapM
import Derived.Test.YtnenbgdonkgkfaaGreatCells
import Derived.BigRegion
import Derived.Deep.RegionLaw
namespace Go.Proofs.YtnenbgdonkgkfaaGreat
open Go.ChangeShapes Go.WideShapes Go.ChangeAt Go.RowKit
set_option linter.unusedVariables false

theorem upd_setIf (cur : Array Value) (j : Nat) (u : Value) (i : Nat) : (cur.setIfInBounds j u)[i]? = if i = j ∧ i < cur.size then some u else cur[i]? := by
  rw [Array.getElem?_setIfInBounds]
  by_cases h : i = j
  · subst h
    by_cases hi : i < cur.size <;> simp [hi]
  · rw [if_neg (fun e => h e.symm), if_neg (fun e => h e.1)]
/-- Who is at each place. -/
def WhoAt (w : World) (G room : Nat) (f : Nat → En) : Prop := ∃ cur, w.heap[G]? = some (.cells cur 97 (0, 0)) ∧ cur.size = room * 2 ∧ ∀ i, i < room → cur[i * 2]? = some (.int .i64 ((f i).1 : Nat)) ∧ cur[i * 2 + 1]? = some (.int .i64 (f i).2)
/-- At which place each number is. -/
def WherAt (w : World) (G room : Nat) (x : Nat → Int) : Prop := ∃ cur, w.heap[G]? = some (.cells cur 3 (0, 0)) ∧ cur.size = room ∧ ∀ i, i < room → cur[i]? = some (.int .i64 (x i))
section
variable {w w' : World} {G room : Nat} {f : Nat → En} {x : Nat → Int}
theorem WhoAt.same (h : WhoAt w G room f) (hs : w'.heap[G]? = w.heap[G]?) : WhoAt w' G room f := by
  obtain ⟨cur, h1, h2⟩ := h
  exact ⟨cur, hs.trans h1, h2⟩
theorem WherAt.same (h : WherAt w G room x) (hs : w'.heap[G]? = w.heap[G]?) : WherAt w' G room x := by
  obtain ⟨cur, h1, h2⟩ := h
  exact ⟨cur, hs.trans h1, h2⟩
theorem WhoAt.lt (h : WhoAt w G room f) : G < w.heap.size := by obtain ⟨cur, h1, _⟩ := h; exact lt_of_block h1
theorem WherAt.lt (h : WherAt w G room x) : G < w.heap.size := by obtain ⟨cur, h1, _⟩ := h; exact lt_of_block h1
theorem WhoAt.at_ (h : WhoAt w G room f) {i : Nat} (hi : i < room) : w.cell? ⟨G, i * 2, none⟩ = some (.int .i64 ((f i).1 : Nat)) ∧ w.cell? ⟨G, i * 2 + 1, none⟩ = some (.int .i64 (f i).2) ∧ w.frozen? ⟨G, i * 2, none⟩ = false ∧ w.frozen? ⟨G, i * 2 + 1, none⟩ = false := by
  obtain ⟨cur, h1, _, h3⟩ := h
  exact ⟨cell_in h1 (h3 i hi).1, cell_in h1 (h3 i hi).2, free_in h1 _, free_in h1 _⟩
theorem WherAt.at_ (h : WherAt w G room x) {i : Nat} (hi : i < room) : w.cell? ⟨G, i, none⟩ = some (.int .i64 (x i)) ∧ w.frozen? ⟨G, i, none⟩ = false := by
  obtain ⟨cur, h1, _, h3⟩ := h
  exact ⟨cell_in h1 (h3 i hi), free_in h1 _⟩
theorem WhoAt.set (h : WhoAt w G room f) {i : Nat} (hi : i < room) (id : Nat) (d : Int) : WhoAt ((w.setCell ⟨G, i * 2, none⟩ (.int .i64 id)).setCell ⟨G, i * 2 + 1, none⟩ (.int .i64 d)) G room (upd f i (id, d)) := by
  obtain ⟨cur, h1, h2, h3⟩ := h
  refine ⟨_, set_at (set_at h1), by simp [h2], fun k hk => ?_⟩
  obtain ⟨a, b⟩ := h3 k hk
  simp only [upd_setIf, Array.size_setIfInBounds, h2]
  by_cases e : k = i
  · subst e
    rw [upd_at]
    exact ⟨by rw [if_neg (by omega), if_pos (by omega)], by rw [if_pos (by omega)]⟩
  · rw [upd_ne _ _ e]
    exact ⟨by rw [if_neg (by omega), if_neg (by omega)]; exact a, by rw [if_neg (by omega), if_neg (by omega)]; exact b⟩
theorem WhoAt.due (h : WhoAt w G room f) {i : Nat} (hi : i < room) (d : Int) : WhoAt (w.setCell ⟨G, i * 2 + 1, none⟩ (.int .i64 d)) G room (upd f i ((f i).1, d)) := by
  obtain ⟨cur, h1, h2, h3⟩ := h
  refine ⟨_, set_at h1, by simp [h2], fun k hk => ?_⟩
  obtain ⟨a, b⟩ := h3 k hk
  simp only [upd_setIf, h2]
  by_cases e : k = i
  · subst e
    rw [upd_at]
    exact ⟨by rw [if_neg (by omega)]; exact a, by rw [if_pos (by omega)]⟩
  · rw [upd_ne _ _ e]
    exact ⟨by rw [if_neg (by omega)]; exact a, by rw [if_neg (by omega)]; exact b⟩
theorem WherAt.set (h : WherAt w G room x) {i : Nat} (hi : i < room) (v : Int) : WherAt (w.setCell ⟨G, i, none⟩ (.int .i64 v)) G room (upd x i v) := by
  obtain ⟨cur, h1, h2, h3⟩ := h
  refine ⟨_, set_at h1, by simp [h2], fun k hk => ?_⟩
  simp only [upd_setIf, h2]
  by_cases e : k = i
  · subst e
    rw [upd_at, if_pos (by omega)]
  · rw [upd_ne _ _ e, if_neg (by omega)]; exact h3 k hk
end
/-- What lies below lo, and from hi on, stays. -/
structure Mv (lo hi : Nat) (w w' : World) : Prop where
  below : Below lo w w'
  above : SameIn w w' hi w.heap.size
section
variable {lo hi : Nat} {a b c w w' : World}
theorem Mv.refl (w : World) : Mv lo hi w w := ⟨Below.refl _ _, SameIn.refl _ _ _⟩
theorem Mv.trans (h : Mv lo hi a b) (k : Mv lo hi b c) : Mv lo hi a c := ⟨h.below.trans k.below, fun i h1 h2 => (k.above i h1 (Nat.lt_of_lt_of_le h2 h.below.size)).trans (h.above i h1 h2)⟩
theorem Mv.of_below (h : Below w.heap.size w w') (hl : lo ≤ w.heap.size) : Mv lo hi w w' := ⟨h.mono hl, SameIn.of_below h (Nat.le_refl _)⟩
theorem Mv.drew (h : Mv lo hi a b) : Mv lo hi a b.drew := ⟨h.below.drew, h.above⟩
theorem Mv.set (h : Mv lo hi a b) {G : Nat} (h1 : lo ≤ G) (h2 : G < hi) (j : Nat) (u : Value) : Mv lo hi a (b.setCell ⟨G, j, none⟩ u) :=
  ⟨h.below.setCell h1 u, fun i i1 i2 => (Below.heap_setCell _ _ _ _ (by show i ≠ G; omega)).trans (h.above i i1 i2)⟩
theorem Mv.block (h : Mv lo hi a b) {G : Nat} {o : Obj} (hb : a.heap[G]? = some o) (hG : hi ≤ G) : b.heap[G]? = some o := (h.above G hG (lt_of_block hb)).trans hb
end
/-- A heap, its two rows. -/
structure HpAt (w : World) (lo hi H W X room n : Nat) (f : Nat → En) (x : Nat → Int) : Prop where
  box : w.heap[H]? = some (.cells #[.slice (some ⟨W, 0, none⟩) n room, .slice (some ⟨X, 0, none⟩) room room] 104 (0, 0))
  who : WhoAt w W room f
  whr : WherAt w X room x
  ne : H ≠ W ∧ H ≠ X ∧ W ≠ X
  rng : lo ≤ H ∧ lo ≤ W ∧ lo ≤ X ∧ H < hi ∧ W < hi ∧ X < hi
  hiS : hi ≤ w.heap.size
  small : room ≤ 1024
section
variable {w w' : World} {lo hi H W X room n : Nat} {f : Nat → En} {x : Nat → Int}
theorem HpAt.keep (h : HpAt w lo hi H W X room n f x) (hs : SameIn w w' lo hi) (hz : w.heap.size ≤ w'.heap.size) : HpAt w' lo hi H W X room n f x :=
  ⟨(hs H h.rng.1 h.rng.2.2.2.1).trans h.box, h.who.same (hs W h.rng.2.1 h.rng.2.2.2.2.1), h.whr.same (hs X h.rng.2.2.1 h.rng.2.2.2.2.2), h.ne, h.rng, Nat.le_trans h.hiS hz, h.small⟩
theorem HpAt.later (h : HpAt w lo hi H W X room n f x) (hb : Below w.heap.size w w') : HpAt w' lo hi H W X room n f x := h.keep (SameIn.of_below hb h.hiS) hb.size
theorem HpAt.drew (h : HpAt w lo hi H W X room n f x) : HpAt w.drew lo hi H W X room n f x := h.later (Below.refl _ _).drew
theorem HpAt.cells (h : HpAt w lo hi H W X room n f x) : w.cell? ⟨H, 0, none⟩ = some (.slice (some ⟨W, 0, none⟩) n room) ∧ w.cell? ⟨H, 1, none⟩ = some (.slice (some ⟨X, 0, none⟩) room room) ∧ w.frozen? ⟨H, 0, none⟩ = false ∧ w.frozen? ⟨H, 1, none⟩ = false :=
  ⟨cell_in h.box rfl, cell_in h.box rfl, free_in h.box _, free_in h.box _⟩
theorem set_other (w : World) {G K : Nat} (j : Nat) (u : Value) (h : K ≠ G) : (w.setCell ⟨G, j, none⟩ u).heap[K]? = w.heap[K]? := Below.heap_setCell _ _ _ _ h
theorem HpAt.set (h : HpAt w lo hi H W X room n f x) {i : Nat} (hk : i < room) (id : Nat) (d : Int) : HpAt ((w.setCell ⟨W, i * 2, none⟩ (.int .i64 id)).setCell ⟨W, i * 2 + 1, none⟩ (.int .i64 d)) lo hi H W X room n (upd f i (id, d)) x :=
  ⟨by rw [set_other _ _ _ h.ne.1, set_other _ _ _ h.ne.1]; exact h.box, h.who.set hk id d, h.whr.same (by rw [set_other _ _ _ h.ne.2.2.symm, set_other _ _ _ h.ne.2.2.symm]), h.ne, h.rng, by simpa using h.hiS, h.small⟩
theorem HpAt.due (h : HpAt w lo hi H W X room n f x) {i : Nat} (hk : i < room) (d : Int) : HpAt (w.setCell ⟨W, i * 2 + 1, none⟩ (.int .i64 d)) lo hi H W X room n (upd f i ((f i).1, d)) x :=
  ⟨by rw [set_other _ _ _ h.ne.1]; exact h.box, h.who.due hk d, h.whr.same (by rw [set_other _ _ _ h.ne.2.2.symm]), h.ne, h.rng, by simpa using h.hiS, h.small⟩
theorem HpAt.put (h : HpAt w lo hi H W X room n f x) {i : Nat} (hk : i < room) (v : Int) : HpAt (w.setCell ⟨X, i, none⟩ (.int .i64 v)) lo hi H W X room n f (upd x i v) :=
  ⟨by rw [set_other _ _ _ h.ne.2.1]; exact h.box, h.who.same (by rw [set_other _ _ _ h.ne.2.2]), h.whr.set hk v, h.ne, h.rng, by simpa using h.hiS, h.small⟩
theorem HpAt.len (h : HpAt w lo hi H W X room n f x) (m : Nat) : HpAt (w.setCell ⟨H, 0, none⟩ (.slice (some ⟨W, 0, none⟩) m room)) lo hi H W X room m f x :=
  ⟨by rw [set_at h.box]; rfl, h.who.same (by rw [set_other _ _ _ h.ne.1.symm]), h.whr.same (by rw [set_other _ _ _ h.ne.2.1.symm]), h.ne, h.rng, by simpa using h.hiS, h.small⟩
end
set_option maxRecDepth 100000 in
set_option maxHeartbeats 2000000 in
theorem put_any (X room i : Nat) (x : Nat → Int) (v : Int) (w : World) (h : WherAt w X room x) (hi : i < room) : Calls Tryz.prog 74 #[.slice (some ⟨X, 0, none⟩) room room, .int .i64 i, .int .i64 v] w fun e w' => e = .returned (.tuple #[]) ∧ w' = w.setCell ⟨X, i, none⟩ (.int .i64 v) := by
  obtain ⟨c0, c1⟩ := h.at_ hi
  have i0 : (0 : Int) ≤ (i : Int) := by omega
  have i1 : (i : Int) < (room : Int) := by omega
  have i2 : decide ((i : Int) < (room : Int)) = true := decide_eq_true i1
  clear h
  go_enter Tryz.func74, Tryz.ntmps74
  go_wp2
  go_end0
  exact ⟨rfl, rfl⟩
end Go.Proofs.YtnenbgdonkgkfaaGreat
