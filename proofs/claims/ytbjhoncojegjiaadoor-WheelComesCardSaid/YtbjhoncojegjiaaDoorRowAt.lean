/- A row of ints, by a function. -/
import Derived.Test.YtbjhoncojegjiaaDoorBase
import Derived.BigRegion
namespace Go.Proofs.YtbjhoncojegjiaaDoor
open Go.ChangeShapes Go.WideShapes Go.ChangeAt Go.RowKit
set_option linter.unusedVariables false

def updR {α : Type} (f : Nat → α) (i : Nat) (e : α) : Nat → α := fun j => if j = i then e else f j
theorem updR_at {α : Type} (f : Nat → α) (i : Nat) (e : α) : updR f i e i = e := by simp [updR]
theorem updR_ne {α : Type} (f : Nat → α) {i j : Nat} (e : α) (h : j ≠ i) : updR f i e j = f j := by simp [updR, h]
/-- The first n ints of a block (it may be longer). -/
def RowAt (w : World) (G n : Nat) (x : Nat → Int) : Prop := ∃ cur, w.heap[G]? = some (.cells cur 3 (0, 0)) ∧ n ≤ cur.size ∧ ∀ i, i < n → cur[i]? = some (.int .i64 (x i))
section
variable {w w' : World} {G n : Nat} {x : Nat → Int}
theorem RowAt.same (h : RowAt w G n x) (hs : w'.heap[G]? = w.heap[G]?) : RowAt w' G n x := by
  obtain ⟨cur, h1, h2⟩ := h
  exact ⟨cur, hs.trans h1, h2⟩
theorem RowAt.lt (h : RowAt w G n x) : G < w.heap.size := by obtain ⟨cur, h1, _⟩ := h; exact lt_of_block h1
theorem RowAt.at_ (h : RowAt w G n x) {i : Nat} (hi : i < n) : w.cell? ⟨G, i, none⟩ = some (.int .i64 (x i)) ∧ w.frozen? ⟨G, i, none⟩ = false := by
  obtain ⟨cur, h1, _, h3⟩ := h
  exact ⟨cell_in h1 (h3 i hi), free_in h1 _⟩
theorem RowAt.set (h : RowAt w G n x) {i : Nat} (hi : i < n) (v : Int) : RowAt (w.setCell ⟨G, i, none⟩ (.int .i64 v)) G n (updR x i v) := by
  obtain ⟨cur, h1, h2, h3⟩ := h
  refine ⟨_, set_at h1, by simpa using h2, fun k hk => ?_⟩
  rw [Array.getElem?_setIfInBounds]
  by_cases e : k = i
  · subst e
    rw [updR_at, if_pos rfl, if_pos (by omega)]
  · rw [updR_ne _ _ e, if_neg (fun h => e h.symm)]; exact h3 k hk
theorem RowAt.of_owns {B cap : Nat} {ao : Option Addr} {l : List Int} (h : w.ownsRow B 3 1 (.slice ao n cap) n (l.flatMap intCells)) (hn : n = l.length) (h0 : 0 < n) : ∃ G, ao = some ⟨G, 0, none⟩ ∧ B ≤ G ∧ RowAt w G n (fun j => l.getD j 0) := by
  rcases h.2 with ⟨_, h2⟩ | ⟨G, cap', cur, hv, hb, hg, h1, h2, h3, h4⟩
  · omega
  · cases hv
    refine ⟨G, rfl, hb, cur, hg, by omega, fun i hi => ?_⟩
    have hx : l[i]? = some l[i] := List.getElem?_eq_getElem (by omega)
    have a0 := flat_at intCells 1 (fun _ => rfl) l i 0 _ hx (by omega)
    rw [← h4, List.getElem?_take_of_lt (by omega)] at a0
    rw [show i * 1 + 0 = i by omega] at a0
    show cur[i]? = some (.int .i64 (l.getD i 0))
    rw [List.getD_eq_getElem?_getD, hx]
    simpa [intCells] using a0
end
/-- What lies in neither of two blocks stays. -/
structure But2 (a b : Nat) (w w' : World) : Prop where
  os : w'.os = w.os
  tape : w'.tape = w.tape
  output : w'.output = w.output
  size : w.heap.size ≤ w'.heap.size
  block : ∀ k, k < w.heap.size → k ≠ a → k ≠ b → w'.heap[k]? = w.heap[k]?
section
variable {a b : Nat} {w w' w'' : World}
theorem But2.refl (w : World) : But2 a b w w := ⟨rfl, rfl, rfl, Nat.le_refl _, fun _ _ _ _ => rfl⟩
theorem But2.of_below (h : Below w.heap.size w w') : But2 a b w w' := ⟨h.os, h.tape, h.output, h.size, fun k hk _ _ => h.block k hk⟩
theorem But2.trans (h : But2 a b w w') (k : But2 a b w' w'') : But2 a b w w'' := ⟨k.os.trans h.os, k.tape.trans h.tape, k.output.trans h.output, Nat.le_trans h.size k.size, fun i hi h1 h2 => (k.block i (Nat.lt_of_lt_of_le hi h.size) h1 h2).trans (h.block i hi h1 h2)⟩
theorem But2.drew (h : But2 a b w w') : But2 a b w w'.drew := ⟨h.os, h.tape, h.output, h.size, h.block⟩
theorem But2.alloc (h : But2 a b w w') (o : Obj) : But2 a b w (w'.alloc o) := h.trans (But2.of_below (below1 _ _))
theorem But2.then (h : But2 a b w w') (k : Below w.heap.size w' w'') : But2 a b w w'' := ⟨k.os.trans h.os, k.tape.trans h.tape, k.output.trans h.output, Nat.le_trans h.size k.size, fun i hi h1 h2 => (k.block i hi).trans (h.block i hi h1 h2)⟩
theorem But2.set1 (h : But2 a b w w') (j : Nat) (u : Value) : But2 a b w (w'.setCell ⟨a, j, none⟩ u) := ⟨h.os, h.tape, h.output, by simpa using h.size, fun k hk h1 h2 => (Below.heap_setCell _ _ _ _ h1).trans (h.block k hk h1 h2)⟩
theorem But2.set2 (h : But2 a b w w') (j : Nat) (u : Value) : But2 a b w (w'.setCell ⟨b, j, none⟩ u) := ⟨h.os, h.tape, h.output, by simpa using h.size, fun k hk h1 h2 => (Below.heap_setCell _ _ _ _ h2).trans (h.block k hk h1 h2)⟩
end
end Go.Proofs.YtbjhoncojegjiaaDoor
