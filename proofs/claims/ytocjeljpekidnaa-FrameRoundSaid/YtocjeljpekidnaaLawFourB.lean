/- The walk of the statement that a tick and the one a frame later are alike. -/
import Derived.Test.YtocjeljpekidnaaFrameO
import Derived.Test.YtocjeljpekidnaaFrameL
namespace Go.Proofs.Ytocjeljpekidnaa
open Go.ChangeShapes Go.WideShapes Go.ChangeAt Go.RowKit
set_option linter.unusedVariables false

theorem countT_of {F : Nat} {m : Int} {l : List Wn} {p t : Int} {k : Nat} (h : k ≤ 1000) : countT F m l p t k = cnt (isO F m l p) t k := by
  unfold countT
  rw [show (min (max (k : Int) 0) 4611686018427387904).toNat = k by omega]
  rfl
set_option maxRecDepth 100000 in
set_option maxHeartbeats 2000000 in
theorem FrameRound_not (n m : Int) (la : Option Addr) (ln lc : Nat) (p t k : Int) (w : World) (l : List Wn) (hln : l.length = ln) (hl : Lies w 0 w.heap.size (.slice la ln lc) ln 3 (l.flatMap Wn.cells)) (hin : ∀ x ∈ l, x.In) (hr : rightB n m l = true → t < -2305843009213693952 ∨ 2305843009213693952 < t ∨ k < 0 ∨ 600 < k) :
    Calls Try.prog 4 #[.int .i64 n, .int .i64 m, .slice la ln lc, .int .i64 p, .int .i64 t, .int .i64 k] w fun e w' => e = .returned (.bool true) ∧ Below w.heap.size w w' := by
  have CR := Lib.hid (rRight_any n m la ln lc w 0 w.heap.size l hln hl (Nat.le_refl _) hin)
  clear hln hl hin
  by_cases hlong : 60 < ln
  · have t1 : decide ((60 : Int) < (ln : Int)) = true := by simp; omega
    have t2 : decide (60 < ln) = true := by simp; omega
    clear hr
    go_enter Try.func4, Try.ntmps4
    go_wp2_with (first | (go_at_call 6; refine (knows4_any _).mono ?_; rintro e w2 ⟨rfl, hb2⟩))
    go_ret
    exact ⟨rfl, hb2⟩
  · have t1 : decide ((60 : Int) < (ln : Int)) = false := by simp; omega
    have t2 : decide (60 < ln) = false := by simp; omega
    cases hq : rightB n m l with
    | false =>
      have HQ := Lib.hid hq
      clear hr hq
      go_enter Try.func4, Try.ntmps4
      go_wp2_with (first
        | (go_at_call 16; refine CR.out.mono ?_; rintro e w1 ⟨rfl, hb1⟩; rw [HQ.out])
        | (go_at_call 6; refine (knows4_any _).mono ?_; rintro e w2 ⟨rfl, hb2⟩))
      go_ret
      exact ⟨rfl, bel_then hb1 (Nat.le_refl _) hb2⟩
    | true =>
      have HQ := Lib.hid hq
      have hr2 := hr hq
      clear hr hq
      rcases (show t < -2305843009213693952 ∨ (-2305843009213693952 ≤ t ∧ 2305843009213693952 < t) ∨ (-2305843009213693952 ≤ t ∧ t ≤ 2305843009213693952 ∧ k < 0) ∨ (-2305843009213693952 ≤ t ∧ t ≤ 2305843009213693952 ∧ 0 ≤ k ∧ 600 < k) by omega) with h | ⟨h, h3⟩ | ⟨h, h3, h4⟩ | ⟨h, h3, h4, h5⟩
      all_goals
        (clear hr2
         go_enter Try.func4, Try.ntmps4
         go_wp2_with (first
           | (go_at_call 16; refine CR.out.mono ?_; rintro e w1 ⟨rfl, hb1⟩; rw [HQ.out])
           | (go_at_call 6; refine (knows4_any _).mono ?_; rintro e w2 ⟨rfl, hb2⟩))
         go_ret
         exact ⟨rfl, bel_then hb1 (Nat.le_refl _) hb2⟩)
set_option maxRecDepth 100000 in
set_option maxHeartbeats 4000000 in
theorem FrameRound_is (F : Nat) (m : Int) (la : Option Addr) (ln lc : Nat) (p t : Int) (k : Nat) (w : World) (l : List Wn) (hln : l.length = ln) (hl : Lies w 0 w.heap.size (.slice la ln lc) ln 3 (l.flatMap Wn.cells)) (hin : ∀ x ∈ l, x.In) (hr : rightB F m l = true)
    (t0 : -2305843009213693952 ≤ t) (t1 : t ≤ 2305843009213693952) (k1 : k ≤ 600) :
    Calls Try.prog 4 #[.int .i64 F, .int .i64 m, .slice la ln lc, .int .i64 p, .int .i64 t, .int .i64 k] w fun e w' => e = .returned (.bool true) ∧ Below w.heap.size w w' := by
  have CR := Lib.hid (rRight_any F m la ln lc w 0 w.heap.size l hln hl (Nat.le_refl _) hin)
  rw [hr] at CR
  have CO := Lib.hid (fun (W : World) (hb : Below w.heap.size w W) => own4_yes F m la ln lc W 0 w.heap.size l hln (hl.keep (SameIn.of_below hb (Nat.le_refl _))) hb.size hin hr)
  obtain ⟨⟨f1, f2, m0, m8, _⟩, _⟩ := rightB_t hr
  have hlong : ln ≤ 32 := by have := (rightB_t hr).1; omega
  have q1 : decide ((60 : Int) < (ln : Int)) = false := by simp; omega
  have q2 : decide (60 < ln) = false := by simp; omega
  have HA := Lib.hid (owner_again F m l t)
  have HC1 : Hid (countT F m l p t F = offeredV F m l p) := Lib.hid (by rw [countT_of (by omega)]; exact congrArg Int.ofNat (countV_frame F m l p t))
  have HC4 := Lib.hid (countT_of (F := F) (m := m) (l := l) (p := p) (t := t) (k := k) (by omega))
  have hmin : min t 4611686018427387904 = t := by omega
  have HI : Hid (∀ z, isO F m l p z = ((owner F m l z).2 == 2 && (owner F m l z).1 == p)) := Lib.hid fun _ => rfl
  have hnx := nextI_is (isO_again F m l p) t
  clear hln hl hin hr
  cases hn : nextV F m l p t with
  | none =>
    have HN : Hid (nextT F m l p t = (0, false)) := Lib.hid (nextT_none (by rw [hmin]; exact hn))
    have HB : Hid (offeredV F m l p = 0) := Lib.hid (by
      have h : nextI (isO F m l p) t F = none := hn
      rw [h] at hnx
      have h2 : offeredV F m l p = cnt (isO F m l p) 0 F := rfl
      have : ¬ 0 < cnt (isO F m l p) 0 F := by simpa using hnx.symm
      omega)
    clear hn hnx hmin
    go_enter Try.func4, Try.ntmps4
    go_wp2_with (first
      | (go_at_call 16; refine CR.out.mono ?_; rintro e w1 ⟨rfl, hb1⟩; have HB1 := Lib.hid hb1; clear hb1)
      | (go_at_call 6; refine (knows4_any _).mono ?_; rintro e w2 ⟨rfl, hb2⟩; have HB2 := Lib.hid hb2; clear hb2)
      | (go_at_call 7; refine (CO.out _ (bel_then HB1.out (Nat.le_refl _) HB2.out)).mono ?_; rintro e w3 ⟨g2, la2, lc2, rfl, ht, hb3⟩; have H := Lib.hid ht
         have HB3 := Lib.hid (bel_then (bel_then HB1.out (Nat.le_refl _) HB2.out) (Nat.le_refl _) hb3); clear ht hb3)
      | (go_at_call 8; refine (tOwner_any (H.out.keep (by first | assumption | exact Below.refl w3.heap.size _) (Nat.le_refl _)) (by first | exact Nat.le_refl _ | exact Below.size (by assumption)) _ (by omega) (by omega)).mono ?_; rintro e w4 ⟨rfl, hb4⟩; (try rw [HA.out]); have hbn : Below w3.heap.size w3 w4 := (by first | exact bel_then (by assumption) (Nat.le_refl _) hb4 | exact hb4))
      | (go_at_call 12; refine (tOffered_any (H.out.keep (by first | assumption | exact Below.refl w3.heap.size _) (Nat.le_refl _)) (by first | exact Nat.le_refl _ | exact Below.size (by assumption)) _).mono ?_; rintro e w4 ⟨rfl, hb4⟩; rw [HB.out]; have hbn : Below w3.heap.size w3 w4 := (by first | exact bel_then (by assumption) (Nat.le_refl _) hb4 | exact hb4))
      | (go_at_call 14; refine (tCount_any (H.out.keep (by first | assumption | exact Below.refl w3.heap.size _) (Nat.le_refl _)) (by first | exact Nat.le_refl _ | exact Below.size (by assumption)) _ _ _ (by omega) (by omega)).mono ?_; rintro e w4 ⟨rfl, hb4⟩; (first | rw [HC1.out]); have hbn : Below w3.heap.size w3 w4 := (by first | exact bel_then (by assumption) (Nat.le_refl _) hb4 | exact hb4)))
    go_loopw [18, 19] (fun s j wr => ∃ (q c : Nat), q ≤ k ∧ c ≤ q ∧ j = .int .i64 q ∧ s = .int .i64 c ∧ Hid (c = cnt (isO F m l p) t q) ∧ Below w3.heap.size w3 wr) (fun _ j _ => k - (intOf j).toNat)
    case atStart => exact ⟨0, 0, by omega, by omega, rfl, rfl, Lib.hid rfl, by assumption⟩
    case round =>
      obtain ⟨q, c, hq, hcq, rfl, rfl, HS, hb⟩ := hrel
      by_cases hlt : q < k
      · have tk : decide ((q : Int) < (k : Int)) = true := by simpa using hlt
        have CW := Lib.hid (tOwner_any (H.out.keep hb (Nat.le_refl _)) hb.size (t + q) (by omega) (by omega))
        have HV := Lib.hid (HI.out (t + q))
        generalize owner F m l (t + q) = o at CW HV
        obtain ⟨u, kd⟩ := o
        simp only at CW HV
        cases x1 : (u == p) with
        | false =>
          have HW : Hid (c = cnt (isO F m l p) t (q + 1)) := Lib.hid (by rw [cnt_no (by rw [HV.out, x1, Bool.and_false]), ← HS.out])
          go_wp2_with (first | (go_at_call 8; refine CW.out.mono ?_; rintro e w4 ⟨rfl, hb4⟩))
          go_roundw
          case rel => exact ⟨q + 1, c, by omega, by omega, by go_num, by go_num, HW, bel_then hb (Nat.le_refl _) hb4⟩
          case measure => simp [intOf]; omega
        | true =>
          cases x2 : (kd == 2) with
          | false =>
            have HW : Hid (c = cnt (isO F m l p) t (q + 1)) := Lib.hid (by rw [cnt_no (by rw [HV.out, x2, Bool.false_and]), ← HS.out])
            go_wp2_with (first | (go_at_call 8; refine CW.out.mono ?_; rintro e w4 ⟨rfl, hb4⟩))
            go_roundw
            case rel => exact ⟨q + 1, c, by omega, by omega, by go_num, by go_num, HW, bel_then hb (Nat.le_refl _) hb4⟩
            case measure => simp [intOf]; omega
          | true =>
            have HW : Hid (c + 1 = cnt (isO F m l p) t (q + 1)) := Lib.hid (by rw [cnt_yes (by rw [HV.out, x1, x2]; rfl), ← HS.out])
            go_wp2_with (first | (go_at_call 8; refine CW.out.mono ?_; rintro e w4 ⟨rfl, hb4⟩))
            go_roundw
            case rel => exact ⟨q + 1, c + 1, by omega, by omega, by go_num, by go_num, HW, bel_then hb (Nat.le_refl _) hb4⟩
            case measure => simp [intOf]; omega
      · have tk : decide ((q : Int) < (k : Int)) = false := by simp; omega
        have hqk : q = k := by omega
        have HC5 : Hid (countT F m l p t k = c) := Lib.hid (by rw [HC4.out, HS.out, hqk])
        clear hqk
        go_wp2_with (first
          | (go_at_call 10; refine (tNext_any (H.out.keep (by first | assumption | exact Below.refl w3.heap.size _) (Nat.le_refl _)) (by first | exact Nat.le_refl _ | exact Below.size (by assumption)) _ _ (by omega) (by omega)).mono ?_; rintro e w4 ⟨rfl, hb4⟩; rw [HN.out]; have hbn : Below w3.heap.size w3 w4 := (by first | exact bel_then (by assumption) (Nat.le_refl _) hb4 | exact hb4))
          | (go_at_call 12; refine (tOffered_any (H.out.keep (by first | assumption | exact Below.refl w3.heap.size _) (Nat.le_refl _)) (by first | exact Nat.le_refl _ | exact Below.size (by assumption)) _).mono ?_; rintro e w4 ⟨rfl, hb4⟩; rw [HB.out]; have hbn : Below w3.heap.size w3 w4 := (by first | exact bel_then (by assumption) (Nat.le_refl _) hb4 | exact hb4))
          | (go_at_call 14; refine (tCount_any (H.out.keep (by first | assumption | exact Below.refl w3.heap.size _) (Nat.le_refl _)) (by first | exact Nat.le_refl _ | exact Below.size (by assumption)) _ _ _ (by omega) (by omega)).mono ?_; rintro e w4 ⟨rfl, hb4⟩; (first | rw [HC5.out]); have hbn : Below w3.heap.size w3 w4 := (by first | exact bel_then (by assumption) (Nat.le_refl _) hb4 | exact hb4)))
        go_ret
        exact ⟨rfl, bel_then HB3.out (Nat.le_refl _) (by assumption)⟩
  | some i =>
    obtain ⟨i1, i2, i3⟩ := nextI_some hn
    have HN : Hid (nextT F m l p t = (t + i, true)) := Lib.hid (by rw [nextT_some (by rw [hmin]; exact hn), hmin])
    have hB : 0 < offeredV F m l p := by
      have h : nextI (isO F m l p) t F = some i := hn
      rw [h] at hnx
      have h2 : 0 < cnt (isO F m l p) 0 F := by simpa using hnx.symm
      exact h2
    have HC2 : Hid (countT F m l p t i = 0) := Lib.hid (by rw [countT_of (by omega), i3]; rfl)
    have HC3 : Hid (countT F m l p (t + i) 1 = 1) := Lib.hid (by
      rw [show (1 : Int) = ((1 : Nat) : Int) from rfl, countT_of (by omega), cnt_yes (by rw [show t + (i : Int) + ((0 : Nat) : Int) = t + i by omega]; exact i2)]; rfl)
    clear hn hnx hmin i2 i3
    have t3 : decide ((0 : Int) < (offeredV F m l p : Int)) = true := by simp; omega
    have t4 : decide (0 < offeredV F m l p) = true := by simp; omega
    have e1 : t + (i : Int) - t = i := by omega
    have E1 := Lib.hid e1
    clear e1
    go_enter Try.func4, Try.ntmps4
    go_wp2_with (first
      | (go_at_call 16; refine CR.out.mono ?_; rintro e w1 ⟨rfl, hb1⟩; have HB1 := Lib.hid hb1; clear hb1)
      | (go_at_call 6; refine (knows4_any _).mono ?_; rintro e w2 ⟨rfl, hb2⟩; have HB2 := Lib.hid hb2; clear hb2)
      | (go_at_call 7; refine (CO.out _ (bel_then HB1.out (Nat.le_refl _) HB2.out)).mono ?_; rintro e w3 ⟨g2, la2, lc2, rfl, ht, hb3⟩; have H := Lib.hid ht
         have HB3 := Lib.hid (bel_then (bel_then HB1.out (Nat.le_refl _) HB2.out) (Nat.le_refl _) hb3); clear ht hb3)
      | (go_at_call 8; refine (tOwner_any (H.out.keep (by first | assumption | exact Below.refl w3.heap.size _) (Nat.le_refl _)) (by first | exact Nat.le_refl _ | exact Below.size (by assumption)) _ (by omega) (by omega)).mono ?_; rintro e w4 ⟨rfl, hb4⟩; (try rw [HA.out]); have hbn : Below w3.heap.size w3 w4 := (by first | exact bel_then (by assumption) (Nat.le_refl _) hb4 | exact hb4))
      | (go_at_call 12; refine (tOffered_any (H.out.keep (by first | assumption | exact Below.refl w3.heap.size _) (Nat.le_refl _)) (by first | exact Nat.le_refl _ | exact Below.size (by assumption)) _).mono ?_; rintro e w4 ⟨rfl, hb4⟩; have hbn : Below w3.heap.size w3 w4 := (by first | exact bel_then (by assumption) (Nat.le_refl _) hb4 | exact hb4))
      | (go_at_call 14; refine (tCount_any (H.out.keep (by first | assumption | exact Below.refl w3.heap.size _) (Nat.le_refl _)) (by first | exact Nat.le_refl _ | exact Below.size (by assumption)) _ _ _ (by omega) (by omega)).mono ?_; rintro e w4 ⟨rfl, hb4⟩; (first | rw [HC1.out]); have hbn : Below w3.heap.size w3 w4 := (by first | exact bel_then (by assumption) (Nat.le_refl _) hb4 | exact hb4)))
    go_loopw [18, 19] (fun s j wr => ∃ (q c : Nat), q ≤ k ∧ c ≤ q ∧ j = .int .i64 q ∧ s = .int .i64 c ∧ Hid (c = cnt (isO F m l p) t q) ∧ Below w3.heap.size w3 wr) (fun _ j _ => k - (intOf j).toNat)
    case atStart => exact ⟨0, 0, by omega, by omega, rfl, rfl, Lib.hid rfl, by assumption⟩
    case round =>
      obtain ⟨q, c, hq, hcq, rfl, rfl, HS, hb⟩ := hrel
      by_cases hlt : q < k
      · have tk : decide ((q : Int) < (k : Int)) = true := by simpa using hlt
        have CW := Lib.hid (tOwner_any (H.out.keep hb (Nat.le_refl _)) hb.size (t + q) (by omega) (by omega))
        have HV := Lib.hid (HI.out (t + q))
        generalize owner F m l (t + q) = o at CW HV
        obtain ⟨u, kd⟩ := o
        simp only at CW HV
        cases x1 : (u == p) with
        | false =>
          have HW : Hid (c = cnt (isO F m l p) t (q + 1)) := Lib.hid (by rw [cnt_no (by rw [HV.out, x1, Bool.and_false]), ← HS.out])
          go_wp2_with (first | (go_at_call 8; refine CW.out.mono ?_; rintro e w4 ⟨rfl, hb4⟩))
          go_roundw
          case rel => exact ⟨q + 1, c, by omega, by omega, by go_num, by go_num, HW, bel_then hb (Nat.le_refl _) hb4⟩
          case measure => simp [intOf]; omega
        | true =>
          cases x2 : (kd == 2) with
          | false =>
            have HW : Hid (c = cnt (isO F m l p) t (q + 1)) := Lib.hid (by rw [cnt_no (by rw [HV.out, x2, Bool.false_and]), ← HS.out])
            go_wp2_with (first | (go_at_call 8; refine CW.out.mono ?_; rintro e w4 ⟨rfl, hb4⟩))
            go_roundw
            case rel => exact ⟨q + 1, c, by omega, by omega, by go_num, by go_num, HW, bel_then hb (Nat.le_refl _) hb4⟩
            case measure => simp [intOf]; omega
          | true =>
            have HW : Hid (c + 1 = cnt (isO F m l p) t (q + 1)) := Lib.hid (by rw [cnt_yes (by rw [HV.out, x1, x2]; rfl), ← HS.out])
            go_wp2_with (first | (go_at_call 8; refine CW.out.mono ?_; rintro e w4 ⟨rfl, hb4⟩))
            go_roundw
            case rel => exact ⟨q + 1, c + 1, by omega, by omega, by go_num, by go_num, HW, bel_then hb (Nat.le_refl _) hb4⟩
            case measure => simp [intOf]; omega
      · have tk : decide ((q : Int) < (k : Int)) = false := by simp; omega
        have hqk : q = k := by omega
        have HC5 : Hid (countT F m l p t k = c) := Lib.hid (by rw [HC4.out, HS.out, hqk])
        clear hqk
        go_wp2_with (first
          | (go_at_call 10; refine (tNext_any (H.out.keep (by first | assumption | exact Below.refl w3.heap.size _) (Nat.le_refl _)) (by first | exact Nat.le_refl _ | exact Below.size (by assumption)) _ _ (by omega) (by omega)).mono ?_; rintro e w4 ⟨rfl, hb4⟩; rw [HN.out]; have hbn : Below w3.heap.size w3 w4 := (by first | exact bel_then (by assumption) (Nat.le_refl _) hb4 | exact hb4))
          | (go_at_call 12; refine (tOffered_any (H.out.keep (by first | assumption | exact Below.refl w3.heap.size _) (Nat.le_refl _)) (by first | exact Nat.le_refl _ | exact Below.size (by assumption)) _).mono ?_; rintro e w4 ⟨rfl, hb4⟩; have hbn : Below w3.heap.size w3 w4 := (by first | exact bel_then (by assumption) (Nat.le_refl _) hb4 | exact hb4))
          | (go_at_call 14; refine (tCount_any (H.out.keep (by first | assumption | exact Below.refl w3.heap.size _) (Nat.le_refl _)) (by first | exact Nat.le_refl _ | exact Below.size (by assumption)) _ _ _ (by omega) (by omega)).mono ?_; rintro e w4 ⟨rfl, hb4⟩; (first | rw [HC5.out] | rw [HC2.out] | rw [HC3.out] | (rw [E1.out]; rw [HC2.out])); have hbn : Below w3.heap.size w3 w4 := (by first | exact bel_then (by assumption) (Nat.le_refl _) hb4 | exact hb4)))
        go_ret
        exact ⟨rfl, bel_then HB3.out (Nat.le_refl _) (by assumption)⟩
theorem FrameRound_walk (n m : Int) (la : Option Addr) (ln lc : Nat) (p t k : Int) (w : World) (l : List Wn) (hn : I64 n) (hm : I64 m) (hln : l.length = ln) (hl : Lies w 0 w.heap.size (.slice la ln lc) ln 3 (l.flatMap Wn.cells)) (hin : ∀ x ∈ l, x.In) (hp : I64 p) (ht : I64 t) (hk : I64 k) :
    Calls Try.prog 4 #[.int .i64 n, .int .i64 m, .slice la ln lc, .int .i64 p, .int .i64 t, .int .i64 k] w fun e w' => e = .returned (.bool true) ∧ Below w.heap.size w w' := by
  by_cases h : rightB n m l = true ∧ -2305843009213693952 ≤ t ∧ t ≤ 2305843009213693952 ∧ 0 ≤ k ∧ k ≤ 600
  · obtain ⟨hr, h1, h2, h3, h4⟩ := h
    obtain ⟨F, rfl⟩ := Int.eq_ofNat_of_zero_le (show 0 ≤ n by have := (rightB_t hr).1; omega)
    obtain ⟨K, rfl⟩ := Int.eq_ofNat_of_zero_le h3
    exact FrameRound_is F m la ln lc p t K w l hln hl hin hr h1 h2 (by omega)
  · exact FrameRound_not n m la ln lc p t k w l hln hl hin fun hr => by
      by_cases h1 : -2305843009213693952 ≤ t ∧ t ≤ 2305843009213693952 ∧ 0 ≤ k ∧ k ≤ 600
      · exact absurd ⟨hr, h1⟩ h
      · omega
end Go.Proofs.Ytocjeljpekidnaa
