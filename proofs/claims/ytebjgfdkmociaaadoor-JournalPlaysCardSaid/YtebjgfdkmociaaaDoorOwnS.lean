/- Things with blocks of their own. -/
import Derived.Test.YtebjgfdkmociaaaDoorBase
namespace Go.Proofs.YtebjgfdkmociaaaDoor
open Go.ChangeShapes Go.WideShapes Go.ChangeAt Go.RowKit
set_option linter.unusedVariables false

/-- What is not one's own stays; what is one's own was, or is new. -/
structure GrowS (S S' : Nat → Prop) (w w' : World) : Prop where
  os : w'.os = w.os
  tape : w'.tape = w.tape
  output : w'.output = w.output
  size : w.heap.size ≤ w'.heap.size
  block : ∀ k, k < w.heap.size → ¬ S k → w'.heap[k]? = w.heap[k]?
  own : ∀ k, S' k → S k ∨ w.heap.size ≤ k
theorem GrowS.below {S S' : Nat → Prop} {w w' : World} {B : Nat} (h : GrowS S S' w w') (hS : ∀ k, S k → B ≤ k) (hB : B ≤ w.heap.size) : Below B w w' ∧ ∀ k, S' k → B ≤ k :=
  ⟨⟨h.os, h.tape, h.output, h.size, fun k hk => h.block k (by omega) (fun hs => by have := hS k hs; omega)⟩, fun k hk => (h.own k hk).elim (hS k) (fun h1 => Nat.le_trans hB h1)⟩
theorem GrowS.not {S S' : Nat → Prop} {w w' : World} {A : Nat} (h : GrowS S S' w w') (hA : A < w.heap.size) (hS : ¬ S A) : ¬ S' A := fun hs => by
  rcases h.own A hs with h1 | h1
  · exact hS h1
  · omega
theorem GrowS.trans {S S' S'' : Nat → Prop} {a b c : World} (h : GrowS S S' a b) (k : GrowS S' S'' b c) : GrowS S S'' a c :=
  ⟨k.os.trans h.os, k.tape.trans h.tape, k.output.trans h.output, Nat.le_trans h.size k.size, fun j hj hS => (k.block j (Nat.lt_of_lt_of_le hj h.size) (fun h1 => (h.own j h1).elim hS (fun h2 => by omega))).trans (h.block j hj hS), fun j hj => (k.own j hj).elim (h.own j) (fun h2 => .inr (Nat.le_trans h.size h2))⟩
theorem GrowS.of_below {S : Nat → Prop} {w w' : World} (h : Below w.heap.size w w') : GrowS S S w w' := ⟨h.os, h.tape, h.output, h.size, fun k hk _ => h.block k hk, fun k hk => .inl hk⟩
theorem GrowS.step {S S' : Nat → Prop} {w0 w w' : World} (h : GrowS S S' w w') (hb : Below w0.heap.size w0 w) (hS : ∀ k, S k → w0.heap.size ≤ k) : Below w0.heap.size w0 w' ∧ ∀ k, S' k → w0.heap.size ≤ k := ⟨hb.trans (h.below hS hb.size).1, (h.below hS hb.size).2⟩
/-- A slice of no block has no room. -/
def NilCap {A : Type} (ao : Option A) (cap : Nat) : Prop := ao = none → cap = 0
end Go.Proofs.YtebjgfdkmociaaaDoor
