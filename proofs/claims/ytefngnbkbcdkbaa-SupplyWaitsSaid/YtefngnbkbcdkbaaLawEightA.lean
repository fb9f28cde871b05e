/- What must come of supplies; the walk of the statement that no ticks have fewer open ones than the supply says. -/
import Derived.Test.YtefngnbkbcdkbaaSupplyW
import Derived.Test.YtefngnbkbcdkbaaFrameO
import Derived.Test.YtefngnbkbcdkbaaFrameR
namespace Go.Proofs.Ytefngnbkbcdkbaa
open Go.ChangeShapes Go.WideShapes Go.ChangeAt Go.RowKit
set_option linter.unusedVariables false

def f8 : Int → Bool := isO 10 1 [⟨2, 4, 0⟩] 0
theorem sure8 : leastV f8 10 7 = 0 ∧ leastV f8 10 10 = 3 ∧ worstV f8 10 7 = 6 ∧ cnt f8 0 10 = 3 ∧ (1 ≤ leastV f8 10 8 ∧ ∀ m, m < 8 → leastV f8 10 m < 1) ∧ rightB 10 1 [⟨2, 4, 0⟩] = true := by decide +kernel
set_option maxRecDepth 100000 in
set_option maxHeartbeats 2000000 in
theorem knows8_any (w : World) : Calls Try.prog 8 #[] w fun e w' => e = .returned (.bool true) ∧ Below w.heap.size w w' := by
  obtain ⟨k1, k2, k3, k4, k5, k6⟩ := sure8
  have K1 : Hid (leastV f8 10 (heldN 7) = 0) := Lib.hid k1
  have K2 : Hid (leastV f8 10 (heldN 10) = 3) := Lib.hid k2
  have K3 : Hid (worstV f8 10 (heldN 7) = 6) := Lib.hid k3
  have K4 := Lib.hid k4
  have K5 : Hid (IsWait f8 10 1 8) := Lib.hid k5
  have HB0 := Lib.hid (below1 w (.cells #[.int .i64 2, .int .i64 4, .int .i64 0] 51))
  have CN := Lib.hid (tNew_yes 10 1 (some ⟨w.heap.size, 0, none⟩) 1 1 (w.alloc (.cells #[.int .i64 2, .int .i64 4, .int .i64 0] 51)) w.heap.size (w.heap.size + 1) [⟨2, 4, 0⟩] rfl
    (one_lies (cs := #[.int .i64 2, .int .i64 4, .int .i64 0]) (heap_alloc_new w _) rfl) (by simp) (fun x hx => by simp at hx; subst hx; simp [Wn.In, I64]) k6)
  clear k1 k2 k3 k4 k5 k6
  go_enter Try.func8, Try.ntmps8
  go_wp2_with (first
    | (go_at_call 17; refine CN.out.mono ?_; rintro e w1 ⟨g, la, lc, rfl, ht, hb1⟩; have H := Lib.hid ht; have HB1 := Lib.hid hb1; clear ht hb1)
    | (go_at_call 10; refine (sOf_yes H.out (Nat.le_refl _) 0 (by omega) (by omega)).mono ?_; rintro e w2 ⟨s, R, rfl, hs, hb2⟩; have HS : Hid (SupL w2 w1.heap.size w2.heap.size s R 10 f8) := Lib.hid hs; have HB2 := Lib.hid hb2; clear hs hb2)
    | (go_at_call 15; refine (sWait_any HS.out (Nat.le_refl _) 1).mono ?_; rintro e w3 ⟨n, b, rfl, hw1, hw0, hb3⟩
       obtain rfl : b = true := (by cases b with | true => rfl | false => exact absurd (hw0 rfl).2.2 (by rw [K4.out]; omega))
       obtain rfl : n = 8 := (hw1 rfl).1.one K5.out
       have HB3 := Lib.hid hb3; clear hw1 hw0 hb3)
    | (go_at_call 16; refine (sRate_any (HS.out.keep (SameIn.of_below HB3.out (Nat.le_refl _))) HB3.out.size).mono ?_; rintro e w4 ⟨rfl, d, rfl⟩; rw [K4.out]; have hbn : Below w2.heap.size w2 (w3.drewN d) := below_drewN d HB3.out)
    | (go_at_call 11; refine (sLeast_any (HS.out.keep (SameIn.of_below (by assumption) (Nat.le_refl _))) (Below.size (by assumption)) _).mono ?_; rintro e w4 ⟨rfl, hb4⟩; (first | rw [K1.out] | rw [K2.out]); have hbn2 : Below w2.heap.size w2 w4 := (bel_then (by assumption) (Nat.le_refl _) hb4))
    | (go_at_call 13; refine (sWorst_any (HS.out.keep (SameIn.of_below (by assumption) (Nat.le_refl _))) (Below.size (by assumption)) _).mono ?_; rintro e w4 ⟨rfl, hb4⟩; rw [K3.out]; have hbn3 : Below w2.heap.size w2 w4 := (bel_then (by assumption) (Nat.le_refl _) hb4)))
  go_ret
  exact ⟨rfl, bel_then (bel_then (bel_then HB0.out (Nat.le_refl _) HB1.out) (Nat.le_refl _) HB2.out) (Nat.le_refl _) (by assumption)⟩
theorem countT_cnt {F : Nat} {m : Int} {l : List Wn} {p t : Int} {k : Nat} (h : k ≤ 4611686018427387904) : countT F m l p t k = cnt (isO F m l p) t k := by
  unfold countT
  rw [show (min (max (k : Int) 0) 4611686018427387904).toNat = k by omega]
  rfl
theorem heldN_eq {n : Int} {k : Nat} (h : n = k) (hk : k ≤ 1125899906842624) : heldN n = k := by subst h; unfold heldN; omega
theorem heldN_nat {k : Nat} (h : k ≤ 1125899906842624) : heldN k = k := by unfold heldN; omega
set_option maxRecDepth 100000 in
set_option maxHeartbeats 2000000 in
theorem SupplyLeast_not (n m : Int) (la : Option Addr) (ln lc : Nat) (p t k : Int) (w : World) (l : List Wn) (hln : l.length = ln) (hl : Lies w 0 w.heap.size (.slice la ln lc) ln 3 (l.flatMap Wn.cells)) (hin : ∀ x ∈ l, x.In) (hr : rightB n m l = true → p < 0 ∨ 5 < p ∨ k < 0 ∨ 2000 < k) :
    Calls Try.prog 3 #[.int .i64 n, .int .i64 m, .slice la ln lc, .int .i64 p, .int .i64 t, .int .i64 k] w fun e w' => e = .returned (.bool true) ∧ Below w.heap.size w w' := by
  have CR := Lib.hid (rRight_any n m la ln lc w 0 w.heap.size l hln hl (Nat.le_refl _) hin)
  clear hln hl hin
  by_cases hlong : 60 < ln
  · have t1 : decide ((60 : Int) < (ln : Int)) = true := by simp; omega
    have t2 : decide (60 < ln) = true := by simp; omega
    clear hr
    go_enter Try.func3, Try.ntmps3
    go_wp2_with (first | (go_at_call 8; refine (knows8_any _).mono ?_; rintro e w2 ⟨rfl, hb2⟩))
    go_ret
    exact ⟨rfl, hb2⟩
  · have t1 : decide ((60 : Int) < (ln : Int)) = false := by simp; omega
    have t2 : decide (60 < ln) = false := by simp; omega
    cases hq : rightB n m l with
    | false =>
      have HQ := Lib.hid hq
      clear hr hq
      go_enter Try.func3, Try.ntmps3
      go_wp2_with (first
        | (go_at_call 7; refine CR.out.mono ?_; rintro e w1 ⟨rfl, hb1⟩; rw [HQ.out])
        | (go_at_call 8; refine (knows8_any _).mono ?_; rintro e w2 ⟨rfl, hb2⟩))
      go_ret
      exact ⟨rfl, bel_then hb1 (Nat.le_refl _) hb2⟩
    | true =>
      have HQ := Lib.hid hq
      have hr2 := hr hq
      clear hr hq
      rcases (show p < 0 ∨ (0 ≤ p ∧ 5 < p) ∨ (0 ≤ p ∧ p ≤ 5 ∧ k < 0) ∨ (0 ≤ p ∧ p ≤ 5 ∧ 0 ≤ k ∧ 2000 < k) by omega) with h | ⟨h, h3⟩ | ⟨h, h3, h4⟩ | ⟨h, h3, h4, h5⟩
      all_goals
        (clear hr2
         go_enter Try.func3, Try.ntmps3
         go_wp2_with (first
           | (go_at_call 7; refine CR.out.mono ?_; rintro e w1 ⟨rfl, hb1⟩; rw [HQ.out])
           | (go_at_call 8; refine (knows8_any _).mono ?_; rintro e w2 ⟨rfl, hb2⟩))
         go_ret
         exact ⟨rfl, bel_then hb1 (Nat.le_refl _) hb2⟩)
set_option maxRecDepth 100000 in
set_option maxHeartbeats 2000000 in
theorem SupplyLeast_is (F : Nat) (m : Int) (la : Option Addr) (ln lc : Nat) (p t : Int) (k : Nat) (w : World) (l : List Wn) (hln : l.length = ln) (hl : Lies w 0 w.heap.size (.slice la ln lc) ln 3 (l.flatMap Wn.cells)) (hin : ∀ x ∈ l, x.In) (hr : rightB F m l = true)
    (t0 : -9223372036854775808 ≤ t) (t1 : t ≤ 9223372036854775807) (p0 : 0 ≤ p) (p1 : p ≤ 5) (k1 : k ≤ 2000) :
    Calls Try.prog 3 #[.int .i64 F, .int .i64 m, .slice la ln lc, .int .i64 p, .int .i64 t, .int .i64 k] w fun e w' => e = .returned (.bool true) ∧ Below w.heap.size w w' := by
  have CR := Lib.hid (rRight_any F m la ln lc w 0 w.heap.size l hln hl (Nat.le_refl _) hin)
  rw [hr] at CR
  have CO := Lib.hid (fun (W : World) (hb : Below w.heap.size w W) => own4_yes F m la ln lc W 0 w.heap.size l hln (hl.keep (SameIn.of_below hb (Nat.le_refl _))) hb.size hin hr)
  obtain ⟨⟨f1, f2, m0, m8, _⟩, _⟩ := rightB_t hr
  have hlong : ln ≤ 32 := by have := (rightB_t hr).1; omega
  have q1 : decide ((60 : Int) < (ln : Int)) = false := by simp; omega
  have q2 : decide (60 < ln) = false := by simp; omega
  have ag := isO_again F m l p
  have hF : 1 ≤ F := by omega
  have hle := leastV_le ag hF t k
  obtain ⟨h1, h2, _⟩ := worstV_is (f := isO F m l p) hF k
  have HC1 := Lib.hid (countT_cnt (F := F) (m := m) (l := l) (p := p) (t := t) (k := k) (by omega))
  have HC2 := Lib.hid ((countT_cnt (F := F) (m := m) (l := l) (p := p) (t := (worstV (isO F m l p) F k : Nat)) (k := k) (by omega)).trans (congrArg Int.ofNat h2))
  have HK := Lib.hid (heldN_nat (k := k) (by omega))
  have hwb := h1
  clear hln hl hin hr h1 h2 ag
  obtain ⟨f, hf⟩ : ∃ f, f = isO F m l p := ⟨_, rfl⟩
  rw [← hf] at HC1 HC2 hle hwb
  have HF := Lib.hid hf
  clear hf
  obtain ⟨L, hL⟩ : ∃ L, L = leastV f F k := ⟨_, rfl⟩
  obtain ⟨x, hx⟩ : ∃ x, x = worstV f F k := ⟨_, rfl⟩
  obtain ⟨c, hc⟩ : ∃ c, c = cnt f t k := ⟨_, rfl⟩
  have HC3 : Hid (countT F m l p (x : Int) (k : Int) = (L : Int)) := Lib.hid (by rw [hx, hL]; exact HC2.out)
  have HC4 : Hid (countT F m l p t (k : Int) = (c : Int)) := Lib.hid (by rw [hc]; exact HC1.out)
  have HL := Lib.hid hL; have HX := Lib.hid hx
  have hcl : L ≤ c := by omega
  have hxb : x < F := by omega
  clear hL hx hc HC1 HC2 hle hwb
  have d1 : decide ((L : Int) ≤ (c : Int)) = true := by rw [decide_eq_true_eq]; omega
  have d2 : decide (L ≤ c) = true := by rw [decide_eq_true_eq]; omega
  go_enter Try.func3, Try.ntmps3
  go_wp2_with (first
    | (go_at_call 7; refine CR.out.mono ?_; rintro e w1 ⟨rfl, hb1⟩; have HB1 := Lib.hid hb1; clear hb1)
    | (go_at_call 8; refine (knows8_any _).mono ?_; rintro e w2 ⟨rfl, hb2⟩; have HB2 := Lib.hid hb2; clear hb2)
    | (go_at_call 9; refine (CO.out _ (bel_then HB1.out (Nat.le_refl _) HB2.out)).mono ?_; rintro e w3 ⟨g2, la2, lc2, rfl, ht, hb3⟩; have H := Lib.hid ht
       have HB3 := Lib.hid (bel_then (bel_then HB1.out (Nat.le_refl _) HB2.out) (Nat.le_refl _) hb3); clear ht hb3)
    | (go_at_call 10; refine (sOf_yes H.out (Nat.le_refl _) p p0 (by omega)).mono ?_; rintro e w4 ⟨s, R, rfl, hs, hb4⟩; rw [← HF.out] at hs; have HS := Lib.hid hs; have HB4 := Lib.hid hb4; clear hs hb4)
    | (go_at_call 11; refine (sLeast_any HS.out (Nat.le_refl _) _).mono ?_; rintro e w5 ⟨rfl, hb5⟩; rw [HK.out, ← HL.out]; have HB5 := Lib.hid hb5; have hbn := bel_then HB4.out (Nat.le_refl _) hb5; clear hb5)
    | (go_at_call 13; refine (sWorst_any (HS.out.keep (SameIn.of_below (by assumption) (Nat.le_refl _))) (Below.size (by assumption)) _).mono ?_; rintro e w7 ⟨rfl, hb7⟩; rw [HK.out, ← HX.out]; have hbn2 := bel_then hbn6 (Nat.le_refl _) hb7)
    | (go_at_call 12; refine (tCount_any (H.out.keep hbn2 (Nat.le_refl _)) hbn2.size _ _ _ (by omega) (by omega)).mono ?_; rintro e w8 ⟨rfl, hb8⟩; rw [HC3.out]; have hbn8 := bel_then hbn2 (Nat.le_refl _) hb8)
    | (go_at_call 12; refine (tCount_any (H.out.keep hbn (Nat.le_refl _)) hbn.size _ _ _ t0 t1).mono ?_; rintro e w6 ⟨rfl, hb6⟩; rw [HC4.out]; have hbn6 := bel_then hbn (Nat.le_refl _) hb6; have hbs : Below w4.heap.size w4 w6 := bel_then HB5.out (Nat.le_refl _) hb6))
  go_ret
  exact ⟨rfl, bel_then HB3.out (Nat.le_refl _) hbn8⟩
theorem SupplyLeast_walk (n m : Int) (la : Option Addr) (ln lc : Nat) (p t k : Int) (w : World) (l : List Wn) (hn : I64 n) (hm : I64 m) (hln : l.length = ln) (hl : Lies w 0 w.heap.size (.slice la ln lc) ln 3 (l.flatMap Wn.cells)) (hin : ∀ x ∈ l, x.In) (hp : I64 p) (ht : I64 t) (hk : I64 k) :
    Calls Try.prog 3 #[.int .i64 n, .int .i64 m, .slice la ln lc, .int .i64 p, .int .i64 t, .int .i64 k] w fun e w' => e = .returned (.bool true) ∧ Below w.heap.size w w' := by
  by_cases h : rightB n m l = true ∧ 0 ≤ p ∧ p ≤ 5 ∧ 0 ≤ k ∧ k ≤ 2000
  · obtain ⟨hr, h1, h2, h3, h4⟩ := h
    obtain ⟨F, rfl⟩ := Int.eq_ofNat_of_zero_le (show 0 ≤ n by have := (rightB_t hr).1; omega)
    obtain ⟨K, rfl⟩ := Int.eq_ofNat_of_zero_le h3
    exact SupplyLeast_is F m la ln lc p t K w l hln hl hin hr ht.1 ht.2 h1 h2 (by omega)
  · exact SupplyLeast_not n m la ln lc p t k w l hln hl hin fun hr => by
      by_cases h1 : 0 ≤ p ∧ p ≤ 5 ∧ 0 ≤ k ∧ k ≤ 2000
      · exact absurd ⟨hr, h1⟩ h
      · omega
end Go.Proofs.Ytefngnbkbcdkbaa
