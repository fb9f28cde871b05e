/- What is asked of the program's ring; knows. -/
import Derived.Test.YtoebbbghllkdgaaRingR
namespace Go.Proofs.Ytoebbbghllkdgaa
open Go.ChangeShapes Go.WideShapes Go.ChangeAt Go.RowKit
set_option linter.unusedVariables false

def roomV (room : Int) : Int := min (max room 0) 4096
/-- The contracts of a ring of α's: its own blocks are S; n is its room; l is what is in. -/
structure RingOk (α : Type) (emb : α → Value) (z : α) (fN fP fO fL fR : Nat) where
  Rg : World → Nat → (Nat → Prop) → Int → List α → Prop
  keep : ∀ {w w' : World} {H : Nat} {S : Nat → Prop} {n : Int} {l : List α}, Rg w H S n l → (∀ k, S k → w'.heap[k]? = w.heap[k]?) → w.heap.size ≤ w'.heap.size → Rg w' H S n l
  lt : ∀ {w : World} {H : Nat} {S : Nat → Prop} {n : Int} {l : List α}, Rg w H S n l → ∀ k, S k → k < w.heap.size
  bd : ∀ {w : World} {H : Nat} {S : Nat → Prop} {n : Int} {l : List α}, Rg w H S n l → 0 ≤ n ∧ n ≤ 4096 ∧ (l.length : Int) ≤ n
  new : ∀ (room : Int) (w : World), Calls Try.prog fN #[.int .i64 room] w fun e w' => ∃ (H : Nat) (S : Nat → Prop), e = .returned (.pointer (some ⟨H, 0, none⟩)) ∧ Rg w' H S (roomV room) [] ∧ (∀ k, S k → w.heap.size ≤ k) ∧ Below w.heap.size w w'
  push : ∀ (w : World) (H : Nat) (S : Nat → Prop) (n : Int) (l : List α) (x : α), Rg w H S n l → Calls Try.prog fP #[.pointer (some ⟨H, 0, none⟩), emb x] w fun e w' => ∃ S', e = .returned (.bool (freeV n l)) ∧ Rg w' H S' n (pushV n l x) ∧ GrowS S S' w w'
  pop : ∀ (w : World) (H : Nat) (S : Nat → Prop) (n : Int) (l : List α), Rg w H S n l → Calls Try.prog fO #[.pointer (some ⟨H, 0, none⟩)] w fun e w' => ∃ S', e = .returned (.tuple #[emb (popV z l), .bool (anyV l)]) ∧ Rg w' H S' n l.tail ∧ GrowS S S' w w'
  len : ∀ (w : World) (H : Nat) (S : Nat → Prop) (n : Int) (l : List α), Rg w H S n l → Calls Try.prog fL #[.pointer (some ⟨H, 0, none⟩)] w fun e w' => e = .returned (.int .i64 (l.length : Nat)) ∧ Below w.heap.size w w'
  room : ∀ (w : World) (H : Nat) (S : Nat → Prop) (n : Int) (l : List α), Rg w H S n l → Calls Try.prog fR #[.pointer (some ⟨H, 0, none⟩)] w fun e w' => e = .returned (.int .i64 n) ∧ Below w.heap.size w w'
theorem RingOk.later {α : Type} {emb : α → Value} {z : α} {fN fP fO fL fR : Nat} (O : RingOk α emb z fN fP fO fL fR) {w w' : World} {H : Nat} {S : Nat → Prop} {n : Int} {l : List α} (h : O.Rg w H S n l) (hb : Below w.heap.size w w') : O.Rg w' H S n l := O.keep h (fun k hk => hb.block k (O.lt h k hk)) hb.size
/-- Of ints. -/
abbrev RingIntB := RingOk Int (fun x => .int .i64 x) 0 22 45 46 47 48
structure RingInt extends RingIntB where
  at' : ∀ (w : World) (H : Nat) (S : Nat → Prop) (n : Int) (l : List Int) (i : Int), Rg w H S n l → Calls Try.prog 51 #[.pointer (some ⟨H, 0, none⟩), .int .i64 i] w fun e w' => e = .returned (.tuple #[.int .i64 (atL l i), .bool (inL l i)]) ∧ Below w.heap.size w w'
  set : ∀ (w : World) (H : Nat) (S : Nat → Prop) (n : Int) (l : List Int) (i x : Int), Rg w H S n l → Calls Try.prog 50 #[.pointer (some ⟨H, 0, none⟩), .int .i64 i, .int .i64 x] w fun e w' => ∃ S', e = .returned (.bool (inL l i)) ∧ Rg w' H S' n (setL l i x) ∧ GrowS S S' w w'
  clear : ∀ (w : World) (H : Nat) (S : Nat → Prop) (n : Int) (l : List Int), Rg w H S n l → Calls Try.prog 44 #[.pointer (some ⟨H, 0, none⟩)] w fun e w' => ∃ S', e = .returned (.tuple #[]) ∧ Rg w' H S' n [] ∧ GrowS S S' w w'
  all : ∀ (w : World) (H : Nat) (S : Nat → Prop) (n : Int) (l : List Int), Rg w H S n l → Calls Try.prog 53 #[.pointer (some ⟨H, 0, none⟩)] w fun e w' => ∃ ao cap, e = .returned (.slice ao l.length cap) ∧ Lies w' 0 w'.heap.size (.slice ao l.length cap) l.length 1 (l.flatMap intCells) ∧ Below w.heap.size w w'
end Go.Proofs.Ytoebbbghllkdgaa
