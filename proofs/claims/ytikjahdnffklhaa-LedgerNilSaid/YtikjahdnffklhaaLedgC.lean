/- What is asked of the program's ledger; knows. -/
import Derived.Test.YtikjahdnffklhaaLedgR
import Derived.Test.YtikjahdnffklhaaRead
namespace Go.Proofs.Ytikjahdnffklhaa
open Go.ChangeShapes Go.WideShapes Go.ChangeAt Go.RowKit
set_option linter.unusedVariables false

/-- The contracts of a ledger: its own blocks are S; of n partitions; L is what was charged. -/
structure LedgerOk where
  Lg : World → Nat → (Nat → Prop) → Int → List Wn → Prop
  keep : ∀ {w w' : World} {H : Nat} {S : Nat → Prop} {n : Int} {L : List Wn}, Lg w H S n L → (∀ k, S k → w'.heap[k]? = w.heap[k]?) → w.heap.size ≤ w'.heap.size → Lg w' H S n L
  lt : ∀ {w : World} {H : Nat} {S : Nat → Prop} {n : Int} {L : List Wn}, Lg w H S n L → ∀ k, S k → k < w.heap.size
  bd : ∀ {w : World} {H : Nat} {S : Nat → Prop} {n : Int} {L : List Wn}, Lg w H S n L → 0 ≤ n ∧ n ≤ 6 ∧ ∀ x ∈ L, EntOk n x
  new : ∀ (parts : Int) (w : World), Calls Try.prog 8 #[.int .i64 parts] w fun e w' => ∃ (H : Nat) (S : Nat → Prop), e = .returned (.pointer (some ⟨H, 0, none⟩)) ∧ Lg w' H S (partsV parts) [] ∧ (∀ k, S k → w.heap.size ≤ k) ∧ Below w.heap.size w w'
  charge : ∀ (w : World) (H : Nat) (S : Nat → Prop) (n : Int) (L : List Wn) (k p q : Int), Lg w H S n L → L.length ≤ 1000 → Calls Try.prog 11 #[.pointer (some ⟨H, 0, none⟩), .int .i64 k, .int .i64 p, .int .i64 q] w fun e w' => ∃ S', e = .returned (.int .i64 (errV n k p q)) ∧ Lg w' H S' n (chV n L k p q) ∧ GrowS S S' w w'
  of : ∀ (w : World) (H : Nat) (S : Nat → Prop) (n : Int) (L : List Wn) (k p : Int), Lg w H S n L → L.length ≤ 1000 → Calls Try.prog 14 #[.pointer (some ⟨H, 0, none⟩), .int .i64 k, .int .i64 p] w fun e w' => e = .returned (.int .i64 (ofV L k p)) ∧ Below w.heap.size w w'
  got : ∀ (w : World) (H : Nat) (S : Nat → Prop) (n : Int) (L : List Wn) (p : Int), Lg w H S n L → L.length ≤ 1000 → Calls Try.prog 15 #[.pointer (some ⟨H, 0, none⟩), .int .i64 p] w fun e w' => e = .returned (.int .i64 (gotV L p)) ∧ Below w.heap.size w w'
  gave : ∀ (w : World) (H : Nat) (S : Nat → Prop) (n : Int) (L : List Wn) (p q : Int), Lg w H S n L → L.length ≤ 1000 → Calls Try.prog 16 #[.pointer (some ⟨H, 0, none⟩), .int .i64 p, .int .i64 q] w fun e w' => e = .returned (.int .i64 (gaveV L p q)) ∧ Below w.heap.size w w'
  total : ∀ (w : World) (H : Nat) (S : Nat → Prop) (n : Int) (L : List Wn), Lg w H S n L → L.length ≤ 1000 → Calls Try.prog 17 #[.pointer (some ⟨H, 0, none⟩)] w fun e w' => e = .returned (.int .i64 (L.length : Nat)) ∧ Below w.heap.size w w'
theorem LedgerOk.later (O : LedgerOk) {w w' : World} {H : Nat} {S : Nat → Prop} {n : Int} {L : List Wn} (h : O.Lg w H S n L) (hb : Below w.heap.size w w') : O.Lg w' H S n L := O.keep h (fun k hk => hb.block k (O.lt h k hk)) hb.size
set_option maxRecDepth 100000 in
set_option maxHeartbeats 8000000 in
theorem num15_any (k : Int) (w : World) : Calls Try.prog 10 #[.int .i64 k] w fun e w' => e = .returned (.int .i64 k) ∧ w' = w := by
  go_enter Try.func10, Try.ntmps10
  go_wp2
  go_ret
  exact ⟨rfl, rfl⟩
set_option maxRecDepth 100000 in
set_option maxHeartbeats 8000000 in
theorem knows15_of (O : LedgerOk) (w : World) : Calls Try.prog 7 #[] w fun e w' => e = .returned (.bool true) ∧ Below w.heap.size w w' := by
  have HN := Lib.hid (O.new 3 w)
  have HE := Lib.hid (show errV (partsV 3) 1 0 2 = 0 ∧ chV (partsV 3) [] 1 0 2 = ([⟨1, 0, 2⟩] : List Wn) from ⟨rfl, rfl⟩)
  have A1 := Lib.hid (show ofV ([⟨1, 0, 2⟩] : List Wn) 1 0 = 1 from rfl)
  have A2 := Lib.hid (show gotV ([⟨1, 0, 2⟩] : List Wn) 2 = 1 from rfl)
  have A3 := Lib.hid (show gaveV ([⟨1, 0, 2⟩] : List Wn) 0 2 = 1 from rfl)
  have A4 := Lib.hid (show ((([⟨1, 0, 2⟩] : List Wn).length : Nat) : Int) = 1 from rfl)
  go_enter Try.func7, Try.ntmps7
  go_wp2_with (first
    | (go_at_call 17; have _z := hb8; refine (O.total _ H S4 _ ([⟨1, 0, 2⟩] : List Wn) (O.later h4.out hb8.out) (by decide)).mono ?_; rintro e w9 ⟨rfl, b9⟩; rw [A4.out]; have hb9 := Lib.hid (hb8.out.trans (b9.mono hb8.out.size)); clear b9)
    | (go_at_call 16; have _z := hb7; refine (O.gave _ H S4 _ ([⟨1, 0, 2⟩] : List Wn) 0 2 (O.later h4.out hb7.out) (by decide)).mono ?_; rintro e w8 ⟨rfl, b8⟩; rw [A3.out]; have hb8 := Lib.hid (hb7.out.trans (b8.mono hb7.out.size)); clear b8)
    | (go_at_call 15; have _z := hb6; refine (O.got _ H S4 _ ([⟨1, 0, 2⟩] : List Wn) 2 (O.later h4.out hb6.out) (by decide)).mono ?_; rintro e w7 ⟨rfl, b7⟩; rw [A2.out]; have hb7 := Lib.hid (hb6.out.trans (b7.mono hb6.out.size)); clear b7)
    | (go_at_call 14; have _z := h4; refine (O.of _ H S4 _ ([⟨1, 0, 2⟩] : List Wn) 1 0 h4.out (by decide)).mono ?_; rintro e w6 ⟨rfl, b6⟩; rw [A1.out]; have hb6 := Lib.hid b6; clear b6)
    | (go_at_call 10; refine (num15_any _ _).mono ?_; rintro e w5 ⟨rfl, hw5⟩; rw [hw5]; clear hw5)
    | (go_at_call 11; have _z := h3; refine (O.charge _ H S3 _ [] 1 0 2 h3.out (by decide)).mono ?_; rintro e w4 ⟨S4, rfl, h4', g4'⟩; rw [HE.out.2] at h4'; rw [HE.out.1]; have h4 := Lib.hid h4'; have g4 := Lib.hid (g4'.step b3.out s3.out); clear h4' g4')
    | (go_at_call 8; refine HN.out.mono ?_; rintro e w3 ⟨H, S3, rfl, h3', s3', b3'⟩; have h3 := Lib.hid h3'; have s3 := Lib.hid s3'; have b3 := Lib.hid b3'; clear h3' s3' b3')
    | fail "no arm")
  go_ret
  exact ⟨rfl, g4.out.1.trans (hb9.out.mono g4.out.1.size)⟩
end Go.Proofs.Ytikjahdnffklhaa
