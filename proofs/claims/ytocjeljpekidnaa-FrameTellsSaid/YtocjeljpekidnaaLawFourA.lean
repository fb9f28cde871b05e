/- The walk of the statement that each tick of a table is as the document says. -/
import Derived.Test.YtocjeljpekidnaaFrameO
import Derived.Test.YtocjeljpekidnaaFrameL
namespace Go.Proofs.Ytocjeljpekidnaa
open Go.ChangeShapes Go.WideShapes Go.ChangeAt Go.RowKit
set_option linter.unusedVariables false

set_option maxRecDepth 100000 in
set_option maxHeartbeats 2000000 in
theorem FrameTells_not (n m : Int) (la : Option Addr) (ln lc : Nat) (p t k : Int) (w : World) (l : List Wn) (hln : l.length = ln) (hl : Lies w 0 w.heap.size (.slice la ln lc) ln 3 (l.flatMap Wn.cells)) (hin : ∀ x ∈ l, x.In) (hr : rightB n m l = false) :
    Calls Try.prog 3 #[.int .i64 n, .int .i64 m, .slice la ln lc, .int .i64 p, .int .i64 t, .int .i64 k] w fun e w' => e = .returned (.bool true) ∧ Below w.heap.size w w' := by
  have CR := Lib.hid (rNew_no n m la ln lc w 0 w.heap.size l hln hl (Nat.le_refl _) hin hr)
  clear hln hl hin hr
  by_cases hlong : 60 < ln
  · have t1 : decide ((60 : Int) < (ln : Int)) = true := by simp; omega
    have t2 : decide (60 < ln) = true := by simp; omega
    go_enter Try.func3, Try.ntmps3
    go_wp2_with (first
      | (go_at_call 5; refine CR.out.mono ?_; rintro e w1 ⟨rfl, hb1⟩)
      | (go_at_call 6; refine (knows4_any _).mono ?_; rintro e w2 ⟨rfl, hb2⟩))
    go_ret
    exact ⟨rfl, bel_then hb1 (Nat.le_refl _) hb2⟩
  · have t1 : decide ((60 : Int) < (ln : Int)) = false := by simp; omega
    have t2 : decide (60 < ln) = false := by simp; omega
    go_enter Try.func3, Try.ntmps3
    go_wp2_with (first
      | (go_at_call 5; refine CR.out.mono ?_; rintro e w1 ⟨rfl, hb1⟩)
      | (go_at_call 6; refine (knows4_any _).mono ?_; rintro e w2 ⟨rfl, hb2⟩))
    go_ret
    exact ⟨rfl, bel_then hb1 (Nat.le_refl _) hb2⟩
set_option maxRecDepth 100000 in
set_option maxHeartbeats 2000000 in
theorem FrameTells_is (n : Nat) (m : Int) (la : Option Addr) (ln lc : Nat) (p t k : Int) (w : World) (l : List Wn) (hln : l.length = ln) (hl : Lies w 0 w.heap.size (.slice la ln lc) ln 3 (l.flatMap Wn.cells)) (hin : ∀ x ∈ l, x.In) (hr : rightB n m l = true)
    (t0 : -9223372036854775808 ≤ t) (t1 : t ≤ 9223372036854775807) (k0 : -9223372036854775808 ≤ k) (k1 : k ≤ 9223372036854775807) :
    Calls Try.prog 3 #[.int .i64 n, .int .i64 m, .slice la ln lc, .int .i64 p, .int .i64 t, .int .i64 k] w fun e w' => e = .returned (.bool true) ∧ Below w.heap.size w w' := by
  have CR := Lib.hid (rNew_yes n m la ln lc w 0 w.heap.size l hln hl (Nat.le_refl _) hin hr)
  have CO := Lib.hid (fun (W : World) (hb : Below w.heap.size w W) => own4_yes n m la ln lc W 0 w.heap.size l hln (hl.keep (SameIn.of_below hb (Nat.le_refl _))) hb.size hin hr)
  have hlong : ln ≤ 32 := by have := (rightB_t hr).1; omega
  have q1 : decide ((60 : Int) < (ln : Int)) = false := by simp; omega
  have q2 : decide (60 < ln) = false := by simp; omega
  clear hln hl hin hr
  go_enter Try.func3, Try.ntmps3
  go_wp2_with (first
    | (go_at_call 5; refine CR.out.mono ?_; rintro e w1 ⟨g1, la1, lc1, rfl, ht, hb1⟩; have R := Lib.hid ht; have HB1 := Lib.hid hb1; clear ht hb1)
    | (go_at_call 6; refine (knows4_any _).mono ?_; rintro e w2 ⟨rfl, hb2⟩; have HB2 := Lib.hid hb2; clear hb2)
    | (go_at_call 7; refine (CO.out _ (bel_then HB1.out (Nat.le_refl _) HB2.out)).mono ?_; rintro e w3 ⟨g2, la2, lc2, rfl, ht, hb3⟩; have H := Lib.hid ht
       have HB3 := Lib.hid (bel_then HB2.out (Nat.le_refl _) hb3); clear ht hb3)
    | (go_at_call 8; refine (tOwner_any (H.out.keep (by first | assumption | exact Below.refl w3.heap.size _) (Nat.le_refl _)) (by first | exact Nat.le_refl _ | exact Below.size (by assumption)) _ t0 t1).mono ?_; rintro e w4 ⟨rfl, hb4⟩; have hbn : Below w3.heap.size w3 w4 := (by first | exact bel_then (by assumption) (Nat.le_refl _) hb4 | exact hb4))
    | (go_at_call 10; refine (tNext_any (H.out.keep (by first | assumption | exact Below.refl w3.heap.size _) (Nat.le_refl _)) (by first | exact Nat.le_refl _ | exact Below.size (by assumption)) _ _ t0 t1).mono ?_; rintro e w4 ⟨rfl, hb4⟩; have hbn : Below w3.heap.size w3 w4 := (by first | exact bel_then (by assumption) (Nat.le_refl _) hb4 | exact hb4))
    | (go_at_call 12; refine (tOffered_any (H.out.keep (by first | assumption | exact Below.refl w3.heap.size _) (Nat.le_refl _)) (by first | exact Nat.le_refl _ | exact Below.size (by assumption)) _).mono ?_; rintro e w4 ⟨rfl, hb4⟩; have hbn : Below w3.heap.size w3 w4 := (by first | exact bel_then (by assumption) (Nat.le_refl _) hb4 | exact hb4))
    | (go_at_call 14; refine (tCount_any (H.out.keep (by first | assumption | exact Below.refl w3.heap.size _) (Nat.le_refl _)) (by first | exact Nat.le_refl _ | exact Below.size (by assumption)) _ _ _ t0 t1).mono ?_; rintro e w4 ⟨rfl, hb4⟩; have hbn : Below w3.heap.size w3 w4 := (by first | exact bel_then (by assumption) (Nat.le_refl _) hb4 | exact hb4))
    | (go_at_call 9; refine (rOwner_any (R.out.keep (bel_then HB3.out (Nat.le_refl _) (by assumption)) (Nat.le_refl _)) (bel_then HB3.out (Nat.le_refl _) (by assumption)).size _ t0 t1).mono ?_; rintro e w4 ⟨rfl, hb4⟩; have hbn : Below w3.heap.size w3 w4 := bel_then (by assumption) (Nat.le_refl _) hb4)
    | (go_at_call 11; refine (rNext_any (R.out.keep (bel_then HB3.out (Nat.le_refl _) (by assumption)) (Nat.le_refl _)) (bel_then HB3.out (Nat.le_refl _) (by assumption)).size _ _ t0 t1).mono ?_; rintro e w4 ⟨rfl, hb4⟩; have hbn : Below w3.heap.size w3 w4 := bel_then (by assumption) (Nat.le_refl _) hb4)
    | (go_at_call 13; refine (rOffered_any (R.out.keep (bel_then HB3.out (Nat.le_refl _) (by assumption)) (Nat.le_refl _)) (bel_then HB3.out (Nat.le_refl _) (by assumption)).size _).mono ?_; rintro e w4 ⟨rfl, hb4⟩; have hbn : Below w3.heap.size w3 w4 := bel_then (by assumption) (Nat.le_refl _) hb4)
    | (go_at_call 15; refine (rCount_any (R.out.keep (bel_then HB3.out (Nat.le_refl _) (by assumption)) (Nat.le_refl _)) (bel_then HB3.out (Nat.le_refl _) (by assumption)).size _ _ _ t0 t1 k0 k1).mono ?_; rintro e w4 ⟨rfl, hb4⟩; have hbn : Below w3.heap.size w3 w4 := bel_then (by assumption) (Nat.le_refl _) hb4))
  go_ret
  exact ⟨rfl, bel_then (bel_then HB1.out (Nat.le_refl _) HB3.out) (Nat.le_refl _) (by assumption)⟩
theorem FrameTells_walk (n m : Int) (la : Option Addr) (ln lc : Nat) (p t k : Int) (w : World) (l : List Wn) (hn : I64 n) (hm : I64 m) (hln : l.length = ln) (hl : Lies w 0 w.heap.size (.slice la ln lc) ln 3 (l.flatMap Wn.cells)) (hin : ∀ x ∈ l, x.In) (hp : I64 p) (ht : I64 t) (hk : I64 k) :
    Calls Try.prog 3 #[.int .i64 n, .int .i64 m, .slice la ln lc, .int .i64 p, .int .i64 t, .int .i64 k] w fun e w' => e = .returned (.bool true) ∧ Below w.heap.size w w' := by
  cases hr : rightB n m l with
  | false => exact FrameTells_not n m la ln lc p t k w l hln hl hin hr
  | true =>
    obtain ⟨F, rfl⟩ := Int.eq_ofNat_of_zero_le (show 0 ≤ n by have := (rightB_t hr).1; omega)
    exact FrameTells_is F m la ln lc p t k w l hln hl hin hr ht.1 ht.2 hk.1 hk.2
end Go.Proofs.Ytocjeljpekidnaa
