/- The walk of the statement that the supply grows as it must. -/
import Derived.Test.YtefngnbkbcdkbaaLawEightA
namespace Go.Proofs.Ytefngnbkbcdkbaa
open Go.ChangeShapes Go.WideShapes Go.ChangeAt Go.RowKit
set_option linter.unusedVariables false

set_option maxRecDepth 100000 in
set_option maxHeartbeats 2000000 in
theorem SupplyGrows_not (n m : Int) (la : Option Addr) (ln lc : Nat) (p a b : Int) (w : World) (l : List Wn) (hln : l.length = ln) (hl : Lies w 0 w.heap.size (.slice la ln lc) ln 3 (l.flatMap Wn.cells)) (hin : ∀ x ∈ l, x.In) (hr : rightB n m l = true → p < 0 ∨ 5 < p ∨ a < 0 ∨ b < 0 ∨ 1099511627776 < a ∨ 1099511627776 < b) :
    Calls Try.prog 4 #[.int .i64 n, .int .i64 m, .slice la ln lc, .int .i64 p, .int .i64 a, .int .i64 b] w fun e w' => e = .returned (.bool true) ∧ Below w.heap.size w w' := by
  have CR := Lib.hid (rRight_any n m la ln lc w 0 w.heap.size l hln hl (Nat.le_refl _) hin)
  clear hln hl hin
  by_cases hlong : 60 < ln
  · have t1 : decide ((60 : Int) < (ln : Int)) = true := by simp; omega
    have t2 : decide (60 < ln) = true := by simp; omega
    clear hr
    go_enter Try.func4, Try.ntmps4
    go_wp2_with (first | (go_at_call 8; refine (knows8_any _).mono ?_; rintro e w2 ⟨rfl, hb2⟩))
    go_ret
    exact ⟨rfl, hb2⟩
  · have t1 : decide ((60 : Int) < (ln : Int)) = false := by simp; omega
    have t2 : decide (60 < ln) = false := by simp; omega
    cases hq : rightB n m l with
    | false =>
      have HQ := Lib.hid hq
      clear hr hq
      go_enter Try.func4, Try.ntmps4
      go_wp2_with (first
        | (go_at_call 7; refine CR.out.mono ?_; rintro e w1 ⟨rfl, hb1⟩; rw [HQ.out])
        | (go_at_call 8; refine (knows8_any _).mono ?_; rintro e w2 ⟨rfl, hb2⟩))
      go_ret
      exact ⟨rfl, bel_then hb1 (Nat.le_refl _) hb2⟩
    | true =>
      have HQ := Lib.hid hq
      have hr2 := hr hq
      clear hr hq
      rcases (show p < 0 ∨ (0 ≤ p ∧ 5 < p) ∨ (0 ≤ p ∧ p ≤ 5 ∧ a < 0) ∨ (0 ≤ p ∧ p ≤ 5 ∧ 0 ≤ a ∧ b < 0) ∨ (0 ≤ p ∧ p ≤ 5 ∧ 0 ≤ a ∧ 0 ≤ b ∧ 1099511627776 < a) ∨ (0 ≤ p ∧ p ≤ 5 ∧ 0 ≤ a ∧ 0 ≤ b ∧ a ≤ 1099511627776 ∧ 1099511627776 < b) by omega) with c0 | ⟨c0, c1⟩ | ⟨c0, c1, c2⟩ | ⟨c0, c1, c2, c3⟩ | ⟨c0, c1, c2, c3, c4⟩ | ⟨c0, c1, c2, c3, c4, c5⟩
      all_goals
        (clear hr2
         go_enter Try.func4, Try.ntmps4
         go_wp2_with (first
           | (go_at_call 7; refine CR.out.mono ?_; rintro e w1 ⟨rfl, hb1⟩; rw [HQ.out])
           | (go_at_call 8; refine (knows8_any _).mono ?_; rintro e w2 ⟨rfl, hb2⟩))
         go_ret
         exact ⟨rfl, bel_then hb1 (Nat.le_refl _) hb2⟩)
set_option maxRecDepth 100000 in
set_option maxHeartbeats 2000000 in
theorem SupplyGrows_is (F : Nat) (m : Int) (la : Option Addr) (ln lc : Nat) (p : Int) (a b : Nat) (w : World) (l : List Wn) (hln : l.length = ln) (hl : Lies w 0 w.heap.size (.slice la ln lc) ln 3 (l.flatMap Wn.cells)) (hin : ∀ x ∈ l, x.In) (hr : rightB F m l = true)
    (p0 : 0 ≤ p) (p1 : p ≤ 5) (a1 : a ≤ 1099511627776) (b1 : b ≤ 1099511627776) :
    Calls Try.prog 4 #[.int .i64 F, .int .i64 m, .slice la ln lc, .int .i64 p, .int .i64 a, .int .i64 b] w fun e w' => e = .returned (.bool true) ∧ Below w.heap.size w w' := by
  have CR := Lib.hid (rRight_any F m la ln lc w 0 w.heap.size l hln hl (Nat.le_refl _) hin)
  rw [hr] at CR
  have CO := Lib.hid (fun (W : World) (hb : Below w.heap.size w W) => own4_yes F m la ln lc W 0 w.heap.size l hln (hl.keep (SameIn.of_below hb (Nat.le_refl _))) hb.size hin hr)
  obtain ⟨⟨f1, f2, m0, m8, _⟩, _⟩ := rightB_t hr
  have hlong : ln ≤ 32 := by have := (rightB_t hr).1; omega
  have q1 : decide ((60 : Int) < (ln : Int)) = false := by simp; omega
  have q2 : decide (60 < ln) = false := by simp; omega
  have ag := isO_again F m l p
  have hF : 1 ≤ F := by omega
  have g1 := leastV_next ag hF a
  have g2 := leastV_frame ag hF a
  have g3 := leastV_two ag hF a b
  have g4 := leastV_bd (f := isO F m l p) (F := F) a
  have g5 := leastV_bd (f := isO F m l p) (F := F) b
  have g6 : cnt (isO F m l p) 0 F ≤ F := off_le
  have g7 := leastV_bd (f := isO F m l p) (F := F) (a + b)
  have k0 : Hid (heldN 0 = 0) := Lib.hid rfl
  have k1 : Hid (heldN (a : Int) = a) := Lib.hid (heldN_nat (by omega))
  have k2 : Hid (heldN ((a : Int) + 1) = a + 1) := Lib.hid (heldN_eq (by omega) (by omega))
  have k3 : Hid (heldN ((a : Int) + (F : Int)) = a + F) := Lib.hid (heldN_eq (by omega) (by omega))
  have k4 : Hid (heldN ((a : Int) + (b : Int)) = a + b) := Lib.hid (heldN_eq (by omega) (by omega))
  have k5 : Hid (heldN (b : Int) = b) := Lib.hid (heldN_nat (by omega))
  have HO : Hid ((offeredV F m l p : Int) = (cnt (isO F m l p) 0 F : Int)) := Lib.hid rfl
  clear hln hl hin hr ag
  obtain ⟨f, hf⟩ : ∃ f, f = isO F m l p := ⟨_, rfl⟩
  rw [← hf] at HO g1 g2 g3 g4 g5 g6 g7
  have HF := Lib.hid hf
  clear hf
  have z0 : leastV f F 0 = 0 := leastV_zero
  have H0 : Hid (leastV f F (heldN 0) = 0) := Lib.hid (by rw [k0.out, z0])
  obtain ⟨X, hX⟩ : ∃ X, X = leastV f F a := ⟨_, rfl⟩
  obtain ⟨Y, hY⟩ : ∃ X, X = leastV f F (a + 1) := ⟨_, rfl⟩
  obtain ⟨Z, hZ⟩ : ∃ X, X = leastV f F (a + F) := ⟨_, rfl⟩
  obtain ⟨V, hV⟩ : ∃ X, X = leastV f F (a + b) := ⟨_, rfl⟩
  obtain ⟨U, hU⟩ : ∃ X, X = leastV f F b := ⟨_, rfl⟩
  have HX : Hid (leastV f F (heldN (a : Int)) = X) := Lib.hid (by rw [k1.out, hX])
  have HY : Hid (leastV f F (heldN ((a : Int) + 1)) = Y) := Lib.hid (by rw [k2.out, hY])
  have HZ : Hid (leastV f F (heldN ((a : Int) + (F : Int))) = Z) := Lib.hid (by rw [k3.out, hZ])
  have HV : Hid (leastV f F (heldN ((a : Int) + (b : Int))) = V) := Lib.hid (by rw [k4.out, hV])
  have HU : Hid (leastV f F (heldN (b : Int)) = U) := Lib.hid (by rw [k5.out, hU])
  rw [← hX, ← hY] at g1
  rw [← hX, ← hZ] at g2
  rw [← hX, ← hV, ← hU] at g3
  rw [← hX] at g4
  rw [← hU] at g5
  rw [← hV] at g7
  generalize cnt f 0 F = O at *
  clear hX hY hZ hV hU z0 k0 k1 k2 k3 k4 k5
  obtain ⟨g1a, g1b⟩ := g1
  have d1 : decide ((0 : Int) ≤ (Y : Int) - (X : Int)) = true := by rw [decide_eq_true_eq]; omega
  have d2 : decide ((Y : Int) - (X : Int) ≤ 1) = true := by rw [decide_eq_true_eq]; omega
  have d3 : decide ((X : Int) + (U : Int) ≤ (V : Int)) = true := by rw [decide_eq_true_eq]; omega
  have d4 : ((Z : Int) == (X : Int) + (O : Int)) = true := by rw [beq_iff_eq]; omega
  have d5 : (Z : Int) = (X : Int) + (O : Int) := by omega
  go_enter Try.func4, Try.ntmps4
  go_wp2_with (first
    | (go_at_call 7; refine CR.out.mono ?_; rintro e w1 ⟨rfl, hb1⟩; have HB1 := Lib.hid hb1; clear hb1)
    | (go_at_call 8; refine (knows8_any _).mono ?_; rintro e w2 ⟨rfl, hb2⟩; have HB2 := Lib.hid hb2; clear hb2)
    | (go_at_call 9; refine (CO.out _ (bel_then HB1.out (Nat.le_refl _) HB2.out)).mono ?_; rintro e w3 ⟨g2, la2, lc2, rfl, ht, hb3⟩; have H := Lib.hid ht
       have HB3 := Lib.hid (bel_then (bel_then HB1.out (Nat.le_refl _) HB2.out) (Nat.le_refl _) hb3); clear ht hb3)
    | (go_at_call 10; refine (sOf_yes H.out (Nat.le_refl _) p p0 (by omega)).mono ?_; rintro e w4 ⟨s, R, rfl, hs, hb4⟩; rw [← HF.out] at hs; have HS := Lib.hid hs; have HB4 := Lib.hid hb4; clear hs hb4)
    | (go_at_call 11; refine (sLeast_any (HS.out.keep (SameIn.of_below (by first | exact Below.refl w4.heap.size _ | assumption) (Nat.le_refl _))) (by first | exact Nat.le_refl _ | exact Below.size (by assumption)) _).mono ?_; rintro e w5 ⟨rfl, hb5⟩; (first | rw [H0.out] | rw [HY.out] | rw [HZ.out] | rw [HV.out] | rw [HX.out] | rw [HU.out]); have hbn : Below w4.heap.size w4 w5 := (by first | exact bel_then (by assumption) (Nat.le_refl _) hb5 | exact hb5))
    | (go_at_call 14; refine (tOffered_any (H.out.keep (bel_then HB4.out (Nat.le_refl _) (by assumption)) (Nat.le_refl _)) (Nat.le_trans HB4.out.size (Below.size (by assumption))) _).mono ?_; rintro e w5 ⟨rfl, hb5⟩; rw [HO.out]; have hbn : Below w4.heap.size w4 w5 := (by exact bel_then (by assumption) (Nat.le_refl _) hb5)))
  go_ret
  exact ⟨rfl, bel_then HB3.out (Nat.le_refl _) (bel_then HB4.out (Nat.le_refl _) (by assumption))⟩
theorem SupplyGrows_walk (n m : Int) (la : Option Addr) (ln lc : Nat) (p a b : Int) (w : World) (l : List Wn) (hn : I64 n) (hm : I64 m) (hln : l.length = ln) (hl : Lies w 0 w.heap.size (.slice la ln lc) ln 3 (l.flatMap Wn.cells)) (hin : ∀ x ∈ l, x.In) (hp : I64 p) (ha : I64 a) (hb : I64 b) :
    Calls Try.prog 4 #[.int .i64 n, .int .i64 m, .slice la ln lc, .int .i64 p, .int .i64 a, .int .i64 b] w fun e w' => e = .returned (.bool true) ∧ Below w.heap.size w w' := by
  by_cases h : rightB n m l = true ∧ 0 ≤ p ∧ p ≤ 5 ∧ 0 ≤ a ∧ 0 ≤ b ∧ a ≤ 1099511627776 ∧ b ≤ 1099511627776
  · obtain ⟨hr, h1, h2, h3, h4, h5, h6⟩ := h
    obtain ⟨F, rfl⟩ := Int.eq_ofNat_of_zero_le (show 0 ≤ n by have := (rightB_t hr).1; omega)
    obtain ⟨A, rfl⟩ := Int.eq_ofNat_of_zero_le h3
    obtain ⟨B, rfl⟩ := Int.eq_ofNat_of_zero_le h4
    exact SupplyGrows_is F m la ln lc p A B w l hln hl hin hr h1 h2 (by omega) (by omega)
  · exact SupplyGrows_not n m la ln lc p a b w l hln hl hin fun hr => by
      by_cases h1 : 0 ≤ p ∧ p ≤ 5 ∧ 0 ≤ a ∧ 0 ≤ b ∧ a ≤ 1099511627776 ∧ b ≤ 1099511627776
      · exact absurd ⟨hr, h1⟩ h
      · omega
end Go.Proofs.Ytefngnbkbcdkbaa
