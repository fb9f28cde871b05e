/- The walk of the statement that behind its wait the supply is enough. -/
import Derived.Test.YtefngnbkbcdkbaaLawEightA
namespace Go.Proofs.Ytefngnbkbcdkbaa
open Go.ChangeShapes Go.WideShapes Go.ChangeAt Go.RowKit
set_option linter.unusedVariables false

theorem wait_there {f : Int → Bool} {F work : Nat} : ∀ {N : Nat}, work ≤ leastV f F N → ∃ n, n ≤ N ∧ IsWait f F work n
  | N, h => by
    induction N using Nat.strongRecOn with
    | _ N ih =>
      rcases Classical.em (∃ m, m < N ∧ work ≤ leastV f F m) with ⟨m, h1, h2⟩ | h1
      · obtain ⟨n, h3, h4⟩ := ih m h1 h2
        exact ⟨n, by omega, h4⟩
      · exact ⟨N, Nat.le_refl _, h, fun m hm => Nat.lt_of_not_le fun h2 => h1 ⟨m, hm, h2⟩⟩
theorem leastV_none {f : Int → Bool} {F : Nat} (ag : Again f F) (f1 : 1 ≤ F) (h : cnt f 0 F = 0) (n : Nat) : leastV f F n = 0 := by
  have h1 := leastV_frame ag f1 0
  rw [leastV_zero, h, Nat.zero_add] at h1
  have h2 := leastV_le_of ag f1 (Nat.le_of_lt (Nat.mod_lt n (show 0 < F by omega)))
  rw [leastV_split ag f1 n, h]
  omega
set_option maxRecDepth 100000 in
set_option maxHeartbeats 2000000 in
theorem SupplyWaits_not (n m : Int) (la : Option Addr) (ln lc : Nat) (p a : Int) (w : World) (l : List Wn) (hln : l.length = ln) (hl : Lies w 0 w.heap.size (.slice la ln lc) ln 3 (l.flatMap Wn.cells)) (hin : ∀ x ∈ l, x.In) (hr : rightB n m l = true → p < 0 ∨ 5 < p ∨ 1073741824 < a) :
    Calls Try.prog 5 #[.int .i64 n, .int .i64 m, .slice la ln lc, .int .i64 p, .int .i64 a] w fun e w' => e = .returned (.bool true) ∧ Below w.heap.size w w' := by
  have CR := Lib.hid (rRight_any n m la ln lc w 0 w.heap.size l hln hl (Nat.le_refl _) hin)
  clear hln hl hin
  by_cases hlong : 60 < ln
  · have t1 : decide ((60 : Int) < (ln : Int)) = true := by simp; omega
    have t2 : decide (60 < ln) = true := by simp; omega
    clear hr
    go_enter Try.func5, Try.ntmps5
    go_wp2_with (first | (go_at_call 8; refine (knows8_any _).mono ?_; rintro e w2 ⟨rfl, hb2⟩))
    go_ret
    exact ⟨rfl, hb2⟩
  · have t1 : decide ((60 : Int) < (ln : Int)) = false := by simp; omega
    have t2 : decide (60 < ln) = false := by simp; omega
    cases hq : rightB n m l with
    | false =>
      have HQ := Lib.hid hq
      clear hr hq
      go_enter Try.func5, Try.ntmps5
      go_wp2_with (first
        | (go_at_call 7; refine CR.out.mono ?_; rintro e w1 ⟨rfl, hb1⟩; rw [HQ.out])
        | (go_at_call 8; refine (knows8_any _).mono ?_; rintro e w2 ⟨rfl, hb2⟩))
      go_ret
      exact ⟨rfl, bel_then hb1 (Nat.le_refl _) hb2⟩
    | true =>
      have HQ := Lib.hid hq
      have hr2 := hr hq
      clear hr hq
      rcases (show p < 0 ∨ (0 ≤ p ∧ 5 < p) ∨ (0 ≤ p ∧ p ≤ 5 ∧ 1073741824 < a) by omega) with c0 | ⟨c0, c1⟩ | ⟨c0, c1, c2⟩
      all_goals
        (clear hr2
         go_enter Try.func5, Try.ntmps5
         go_wp2_with (first
           | (go_at_call 7; refine CR.out.mono ?_; rintro e w1 ⟨rfl, hb1⟩; rw [HQ.out])
           | (go_at_call 8; refine (knows8_any _).mono ?_; rintro e w2 ⟨rfl, hb2⟩))
         go_ret
         exact ⟨rfl, bel_then hb1 (Nat.le_refl _) hb2⟩)
set_option maxRecDepth 100000 in
set_option maxHeartbeats 2000000 in
theorem SupplyWaits_is (F : Nat) (m : Int) (la : Option Addr) (ln lc : Nat) (p a : Int) (w : World) (l : List Wn) (hln : l.length = ln) (hl : Lies w 0 w.heap.size (.slice la ln lc) ln 3 (l.flatMap Wn.cells)) (hin : ∀ x ∈ l, x.In) (hr : rightB F m l = true)
    (p0 : 0 ≤ p) (p1 : p ≤ 5) (a1 : a ≤ 1073741824) :
    Calls Try.prog 5 #[.int .i64 F, .int .i64 m, .slice la ln lc, .int .i64 p, .int .i64 a] w fun e w' => e = .returned (.bool true) ∧ Below w.heap.size w w' := by
  have CR := Lib.hid (rRight_any F m la ln lc w 0 w.heap.size l hln hl (Nat.le_refl _) hin)
  rw [hr] at CR
  have CO := Lib.hid (fun (W : World) (hb : Below w.heap.size w W) => own4_yes F m la ln lc W 0 w.heap.size l hln (hl.keep (SameIn.of_below hb (Nat.le_refl _))) hb.size hin hr)
  obtain ⟨⟨f1, f2, m0, m8, _⟩, _⟩ := rightB_t hr
  have hlong : ln ≤ 32 := by have := (rightB_t hr).1; omega
  have q1 : decide ((60 : Int) < (ln : Int)) = false := by simp; omega
  have q2 : decide (60 < ln) = false := by simp; omega
  have ag := isO_again F m l p
  have hF : 1 ≤ F := by omega
  have hag := ag
  have HO : Hid ((offeredV F m l p : Int) = (cnt (isO F m l p) 0 F : Int)) := Lib.hid rfl
  clear hln hl hin hr ag
  obtain ⟨f, hf⟩ : ∃ f, f = isO F m l p := ⟨_, rfl⟩
  rw [← hf] at HO hag
  have HF := Lib.hid hf
  clear hf
  by_cases hno : 1 ≤ a ∧ cnt f 0 F = 0
  · have HZ := Lib.hid (leastV_none hag hF hno.2)
    have HO2 : Hid ((offeredV F m l p : Int) = 0) := Lib.hid (by rw [HO.out, hno.2]; rfl)
    have h1 := hno.1
    have d1 : decide (0 < a) = true := by rw [decide_eq_true_eq]; omega
    clear hno hag
    go_enter Try.func5, Try.ntmps5
    go_wp2_with (first
      | (go_at_call 7; refine CR.out.mono ?_; rintro e w1 ⟨rfl, hb1⟩; have HB1 := Lib.hid hb1; clear hb1)
      | (go_at_call 8; refine (knows8_any _).mono ?_; rintro e w2 ⟨rfl, hb2⟩; have HB2 := Lib.hid hb2; clear hb2)
      | (go_at_call 9; refine (CO.out _ (bel_then HB1.out (Nat.le_refl _) HB2.out)).mono ?_; rintro e w3 ⟨g2, la2, lc2, rfl, ht, hb3⟩; have H := Lib.hid ht
         have HB3 := Lib.hid (bel_then (bel_then HB1.out (Nat.le_refl _) HB2.out) (Nat.le_refl _) hb3); clear ht hb3)
      | (go_at_call 10; refine (sOf_yes H.out (Nat.le_refl _) p p0 (by omega)).mono ?_; rintro e w4 ⟨s, R, rfl, hs, hb4⟩; rw [← HF.out] at hs; have HS := Lib.hid hs; have HB4 := Lib.hid hb4; clear hs hb4)
      | (go_at_call 15; refine (sWait_any HS.out (Nat.le_refl _) _).mono ?_; rintro e w5 ⟨n, b, rfl, hw1, hw0, hb5⟩
         obtain rfl : b = false := (by cases b with | false => rfl | true => have := (hw1 rfl).1.1; rw [HZ.out] at this; omega)
         obtain rfl : n = 0 := (hw0 rfl).1
         have HB5 := Lib.hid hb5; clear hw1 hw0 hb5)
      | (go_at_call 14; refine (tOffered_any (H.out.keep (bel_then HB4.out (Nat.le_refl _) HB5.out) (Nat.le_refl _)) (Nat.le_trans HB4.out.size HB5.out.size) _).mono ?_; rintro e w6 ⟨rfl, hb6⟩; rw [HO2.out]; have hbn : Below w4.heap.size w4 w6 := (bel_then HB5.out (Nat.le_refl _) hb6)))
    go_ret
    exact ⟨rfl, bel_then HB3.out (Nat.le_refl _) (bel_then HB4.out (Nat.le_refl _) hbn)⟩
  · have hex : ∃ n, IsWait f F a.toNat n := by
      rcases (show a ≤ 0 ∨ 1 ≤ cnt f 0 F by omega) with h | h
      · exact ⟨0, by rw [show a.toNat = 0 by omega]; exact Nat.zero_le _, fun m hm => by omega⟩
      · rcases (show a.toNat = 0 ∨ 1 ≤ a.toNat by omega) with h2 | h2
        · exact ⟨0, by rw [h2]; exact Nat.zero_le _, fun m hm => by omega⟩
        · obtain ⟨n, _, hn⟩ := wait_there (wait_bound hag hF h2 h).2
          exact ⟨n, hn⟩
    obtain ⟨N, hN⟩ := hex
    have HN := Lib.hid hN
    have HNO := Lib.hid hno
    clear hno hag
    have hA : a ≤ (leastV f F N : Int) := by have := hN.1; omega
    rcases Nat.eq_zero_or_pos N with h0 | h0
    · subst h0
      have H0 : Hid (leastV f F (heldN ((0 : Nat) : Int)) = leastV f F 0) := Lib.hid rfl
      have hz : leastV f F 0 = 0 := leastV_zero
      rw [hz] at hA
      have HZ0 : Hid (leastV f F (heldN 0) = 0) := Lib.hid hz
      clear hN hz H0
      have d1 : decide (a ≤ 0) = true := by rw [decide_eq_true_eq]; omega
      go_enter Try.func5, Try.ntmps5
      go_wp2_with (first
        | (go_at_call 7; refine CR.out.mono ?_; rintro e w1 ⟨rfl, hb1⟩; have HB1 := Lib.hid hb1; clear hb1)
        | (go_at_call 8; refine (knows8_any _).mono ?_; rintro e w2 ⟨rfl, hb2⟩; have HB2 := Lib.hid hb2; clear hb2)
        | (go_at_call 9; refine (CO.out _ (bel_then HB1.out (Nat.le_refl _) HB2.out)).mono ?_; rintro e w3 ⟨g2, la2, lc2, rfl, ht, hb3⟩; have H := Lib.hid ht
           have HB3 := Lib.hid (bel_then (bel_then HB1.out (Nat.le_refl _) HB2.out) (Nat.le_refl _) hb3); clear ht hb3)
        | (go_at_call 10; refine (sOf_yes H.out (Nat.le_refl _) p p0 (by omega)).mono ?_; rintro e w4 ⟨s, R, rfl, hs, hb4⟩; rw [← HF.out] at hs; have HS := Lib.hid hs; have HB4 := Lib.hid hb4; clear hs hb4)
        | (go_at_call 15; refine (sWait_any HS.out (Nat.le_refl _) _).mono ?_; rintro e w5 ⟨n, b, rfl, hw1, hw0, hb5⟩
           obtain rfl : b = true := (by cases b with | true => rfl | false => have := (hw0 rfl).2; have := HNO.out; omega)
           obtain rfl : n = 0 := (hw1 rfl).1.one HN.out
           have HB5 := Lib.hid hb5; clear hw1 hw0 hb5)
        | (go_at_call 11; refine (sLeast_any (HS.out.keep (SameIn.of_below HB5.out (Nat.le_refl _))) HB5.out.size _).mono ?_; rintro e w6 ⟨rfl, hb6⟩; rw [HZ0.out]; have hbn : Below w4.heap.size w4 w6 := (bel_then HB5.out (Nat.le_refl _) hb6)))
      go_ret
      exact ⟨rfl, bel_then HB3.out (Nat.le_refl _) (bel_then HB4.out (Nat.le_refl _) hbn)⟩
    · obtain ⟨M, rfl⟩ : ∃ M, N = M + 1 := ⟨N - 1, by omega⟩
      have hB : (leastV f F M : Int) < a := by have := hN.2 M (by omega); omega
      have hb1 := leastV_bd (f := f) (F := F) M
      have hb2 := leastV_bd (f := f) (F := F) (M + 1)
      have HA : Hid (M + 1 ≤ 281474976710912 → leastV f F (heldN ((M + 1 : Nat) : Int)) = leastV f F (M + 1)) := Lib.hid fun h => by rw [heldN_nat (by omega)]
      have HC : Hid (M + 1 ≤ 281474976710912 → leastV f F (heldN (((M + 1 : Nat) : Int) - 1)) = leastV f F M) := Lib.hid fun h => by rw [heldN_eq (k := M) (by omega) (by omega)]
      have HA2 : Hid (M + 1 ≤ 281474976710912 → leastV f F (heldN ((M : Int) + 1)) = leastV f F (M + 1)) := Lib.hid fun h => by rw [heldN_eq (k := M + 1) (by omega) (by omega)]
      have HC2 : Hid (M + 1 ≤ 281474976710912 → leastV f F (heldN (M : Int)) = leastV f F M) := Lib.hid fun h => by rw [heldN_nat (by omega)]
      clear hN
      generalize leastV f F (M + 1) = U at *
      generalize leastV f F M = V at *
      have d1 : decide (a ≤ (U : Int)) = true := by rw [decide_eq_true_eq]; omega
      have d2 : decide ((V : Int) < a) = true := by rw [decide_eq_true_eq]; omega
      go_enter Try.func5, Try.ntmps5
      go_wp2_with (first
        | (go_at_call 7; refine CR.out.mono ?_; rintro e w1 ⟨rfl, hb1⟩; have HB1 := Lib.hid hb1; clear hb1)
        | (go_at_call 8; refine (knows8_any _).mono ?_; rintro e w2 ⟨rfl, hb2⟩; have HB2 := Lib.hid hb2; clear hb2)
        | (go_at_call 9; refine (CO.out _ (bel_then HB1.out (Nat.le_refl _) HB2.out)).mono ?_; rintro e w3 ⟨g2, la2, lc2, rfl, ht, hb3⟩; have H := Lib.hid ht
           have HB3 := Lib.hid (bel_then (bel_then HB1.out (Nat.le_refl _) HB2.out) (Nat.le_refl _) hb3); clear ht hb3)
        | (go_at_call 10; refine (sOf_yes H.out (Nat.le_refl _) p p0 (by omega)).mono ?_; rintro e w4 ⟨s, R, rfl, hs, hb4⟩; rw [← HF.out] at hs; have HS := Lib.hid hs; have HB4 := Lib.hid hb4; clear hs hb4)
        | (go_at_call 15; refine (sWait_any HS.out (Nat.le_refl _) _).mono ?_; rintro e w5 ⟨n, b, rfl, hw1, hw0, hb5⟩
           obtain rfl : b = true := (by cases b with | true => rfl | false => have := (hw0 rfl).2; have := HNO.out; omega)
           obtain rfl : n = M + 1 := (hw1 rfl).1.one HN.out
           have hM := (hw1 rfl).2
           have HB5 := Lib.hid hb5; clear hw1 hw0 hb5)
        | (go_at_call 11; refine (sLeast_any (HS.out.keep (SameIn.of_below (by first | exact HB5.out | assumption) (Nat.le_refl _))) (by first | exact HB5.out.size | exact Below.size (by assumption)) _).mono ?_; rintro e w6 ⟨rfl, hb6⟩; (first | rw [HC.out hM] | rw [HA.out hM] | rw [HA2.out hM] | rw [HC2.out hM]); have hbn : Below w4.heap.size w4 w6 := (by first | exact bel_then (by assumption) (Nat.le_refl _) hb6 | exact bel_then HB5.out (Nat.le_refl _) hb6)))
      go_ret
      exact ⟨rfl, bel_then HB3.out (Nat.le_refl _) (bel_then HB4.out (Nat.le_refl _) (by assumption))⟩
theorem SupplyWaits_walk (n m : Int) (la : Option Addr) (ln lc : Nat) (p a : Int) (w : World) (l : List Wn) (hn : I64 n) (hm : I64 m) (hln : l.length = ln) (hl : Lies w 0 w.heap.size (.slice la ln lc) ln 3 (l.flatMap Wn.cells)) (hin : ∀ x ∈ l, x.In) (hp : I64 p) (ha : I64 a) :
    Calls Try.prog 5 #[.int .i64 n, .int .i64 m, .slice la ln lc, .int .i64 p, .int .i64 a] w fun e w' => e = .returned (.bool true) ∧ Below w.heap.size w w' := by
  by_cases h : rightB n m l = true ∧ 0 ≤ p ∧ p ≤ 5 ∧ a ≤ 1073741824
  · obtain ⟨hr, h1, h2, h3⟩ := h
    obtain ⟨F, rfl⟩ := Int.eq_ofNat_of_zero_le (show 0 ≤ n by have := (rightB_t hr).1; omega)
    exact SupplyWaits_is F m la ln lc p a w l hln hl hin hr h1 h2 h3
  · exact SupplyWaits_not n m la ln lc p a w l hln hl hin fun hr => by
      by_cases h1 : 0 ≤ p ∧ p ≤ 5 ∧ a ≤ 1073741824
      · exact absurd ⟨hr, h1⟩ h
      · omega
end Go.Proofs.Ytefngnbkbcdkbaa
