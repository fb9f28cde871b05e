/- Worlds that are alike but for one block. -/
import Derived.Test.YtiojmekoemlmkaaMemA
namespace Go.Proofs.Ytiojmekoemlmkaa
open Go.ChangeShapes Go.WideShapes Go.ChangeAt Go.RowKit
set_option linter.unusedVariables false

/-- All stays but block X. -/
structure But (X : Nat) (w w' : World) : Prop where
  os : w'.os = w.os
  tape : w'.tape = w.tape
  output : w'.output = w.output
  size : w.heap.size ≤ w'.heap.size
  block : ∀ k, k < w.heap.size → k ≠ X → w'.heap[k]? = w.heap[k]?
theorem But.refl (X : Nat) (w : World) : But X w w := ⟨rfl, rfl, rfl, Nat.le_refl _, fun _ _ _ => rfl⟩
theorem But.trans {X : Nat} {a b c : World} (h : But X a b) (k : But X b c) : But X a c :=
  ⟨k.os.trans h.os, k.tape.trans h.tape, k.output.trans h.output, Nat.le_trans h.size k.size, fun i hi hx => (k.block i (Nat.lt_of_lt_of_le hi h.size) hx).trans (h.block i hi hx)⟩
theorem But.below {X : Nat} {w w' : World} (h : But X w w') {B : Nat} (hX : B ≤ X) (hB : B ≤ w.heap.size) : Below B w w' :=
  ⟨h.os, h.tape, h.output, h.size, fun k hk => h.block k (by omega) (by omega)⟩
theorem But.of_below {X : Nat} {w w' : World} (h : Below w.heap.size w w') : But X w w' := ⟨h.os, h.tape, h.output, h.size, fun k hk _ => h.block k hk⟩
theorem But.alloc {X : Nat} {a w : World} (h : But X a w) (o : Obj) : But X a (w.alloc o) := h.trans (But.of_below (below1 _ _))
theorem But.drew {X : Nat} {a w : World} (h : But X a w) : But X a w.drew := h.trans (But.of_below (Below.refl _ _).drew)
theorem But.set {X : Nat} {a w : World} (h : But X a w) (j : Nat) (u : Value) : But X a (w.setCell ⟨X, j, none⟩ u) :=
  h.trans ⟨rfl, rfl, rfl, by simp [World.setCell], fun k _ hx => Below.heap_setCell _ _ _ _ hx⟩
theorem But.same {X : Nat} {w w' : World} (h : But X w w') {lo hi : Nat} (hX : X < lo ∨ hi ≤ X) (hh : hi ≤ w.heap.size) : SameIn w w' lo hi := fun b h1 h2 => h.block b (by omega) (by omega)
theorem But.at {X : Nat} {w w' : World} (h : But X w w') {b : Nat} {o : Obj} (hb : w.heap[b]? = some o) (hx : b ≠ X) : w'.heap[b]? = some o :=
  (h.block b (by by_cases g : b < w.heap.size; exact g; rw [Array.getElem?_eq_none (by omega)] at hb; cases hb) hx).trans hb

end Go.Proofs.Ytiojmekoemlmkaa
