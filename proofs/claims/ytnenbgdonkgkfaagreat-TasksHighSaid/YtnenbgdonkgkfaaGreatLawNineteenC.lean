/- TasksHigh, out of the contracts. -/
import Derived.Test.YtnenbgdonkgkfaaGreatTaskDo
import Derived.Test.YtnenbgdonkgkfaaGreatTaskK
import Derived.Test.YtnenbgdonkgkfaaGreatTks
import Derived.Deep.CutRange
import Derived.Deep.CutBlock
namespace Go.Proofs.YtnenbgdonkgkfaaGreat
open Go.ChangeShapes Go.WideShapes Go.ChangeAt Go.RowKit
set_option linter.unusedVariables false

theorem below_drewC {B : Nat} {a w : World} (d : Nat) (h : Below B a w) : Below B a (w.drewN d) := ⟨h.os, h.tape, h.output, h.size, h.block⟩
set_option maxRecDepth 100000 in
set_option maxHeartbeats 16000000 in
theorem TasksHigh_of (O : TasksOk) (a0 : Option Addr) (n0 c0 : Nat) (a1 : Option Addr) (n1 c1 : Nat) (w : World) (ts : List Tk) (l1 : List Ac) (hn0 : ts.length = n0) (hl0 : Lies w 0 w.heap.size (.slice a0 n0 c0) n0 6 (ts.flatMap Tk.cells)) (hi0 : ∀ x ∈ ts, x.In) (hs0 : n0 * 48 ≤ 140737488355328) (hn1 : l1.length = n1) (hl1 : Lies w 0 w.heap.size (.slice a1 n1 c1) n1 7 (l1.flatMap Ac.cells)) (ho1 : ∀ x ∈ l1, x.Ok w) :
    Calls Tryz.prog 4 #[.slice a0 n0 c0, .slice a1 n1 c1] w fun e w' => e = .returned (.bool true) ∧ Below w.heap.size w w' := by
  have HK := Lib.hid (knows19_of O)
  have HLA : Hid (∀ Y, Below w.heap.size w Y → Calls Tryz.prog 5 #[.slice a1 n1 c1] Y fun e w' => e = .returned (.bool (lightV l1)) ∧ Below Y.heap.size Y w') := Lib.hid (fun Y hY => light_any Y a1 n1 c1 l1 hn1 ((hl1.keep (SameIn.of_below hY (Nat.le_refl _))).wider (Nat.le_refl _) hY.size) (fun x hx => ((ho1 x hx).keep (SameIn.of_below hY (Nat.le_refl _))).wider (Nat.le_refl _) hY.size))
  have KA := Lib.hid (acts19_read hn1 hl1 ho1)
  have KT := Lib.hid (tks_read hn0 hl0)
  have HLI : Hid (∀ Y, Below w.heap.size w Y → Lies Y 0 Y.heap.size (.slice a0 n0 c0) n0 6 (ts.flatMap Tk.cells)) := Lib.hid (fun Y hY => (hl0.keep (SameIn.of_below hY (Nat.le_refl _))).wider (Nat.le_refl _) hY.size)
  have HNN := Lib.hid hn0
  have HN1 := Lib.hid hn1
  have HIN := Lib.hid hi0
  have hown := own19_of O w a0 n0 c0 ts hn0 hl0 hi0 hs0
  clear hl0 hi0 hs0 hl1 ho1
  cases hok : okN ts with
  | false =>
    have HOWN := Lib.hid (hown.mono (fun e w' h => And.intro (h.2.1 hok) h.2.2))
    clear hown hok
    by_cases hbig : 20 < n0
    · have t0 : decide ((20 : Int) < (n0 : Int)) = true := decide_eq_true (by omega)
      clear hbig hn0 hn1
      go_enter Tryz.func4, Tryz.ntmps4
      go_wp2_with (first
        | (go_at_call 6; have _z := hb1; refine (HK.out _).mono ?_; rintro e w3 ⟨rfl, b3⟩; have hb3 := Lib.hid (hb1.out.trans (b3.mono hb1.out.size)); clear b3)
        | (go_at_call 7; refine HOWN.out.mono ?_; rintro e w1 ⟨rfl, b1⟩; have hb1 := Lib.hid b1; clear b1)
        | fail "no arm")
      go_ret
      exact ⟨rfl, hb3.out⟩
    · have t0 : decide ((20 : Int) < (n0 : Int)) = false := decide_eq_false (by omega)
      cases hlv : lightV l1 with
      | false =>
        have HLV := Lib.hid hlv
        clear hbig hn0 hn1 hlv
        go_enter Tryz.func4, Tryz.ntmps4
        go_wp2_with (first
          | (go_at_call 6; have _z := hb2; refine (HK.out _).mono ?_; rintro e w3 ⟨rfl, b3⟩; have hb3 := Lib.hid (hb2.out.trans (b3.mono hb2.out.size)); clear b3)
          | (go_at_call 5; have _z := hb1; refine (HLA.out _ hb1.out).mono ?_; rintro e w2 ⟨rfl, b2⟩; rw [HLV.out]; have hb2 := Lib.hid (hb1.out.trans (b2.mono hb1.out.size)); clear b2)
          | (go_at_call 7; refine HOWN.out.mono ?_; rintro e w1 ⟨rfl, b1⟩; have hb1 := Lib.hid b1; clear b1)
          | fail "no arm")
        go_ret
        exact ⟨rfl, hb3.out⟩
      | true =>
        have HLV := Lib.hid hlv
        clear hbig hn0 hn1 hlv
        go_enter Tryz.func4, Tryz.ntmps4
        go_wp2_with (first
          | (go_at_call 6; have _z := hb2; refine (HK.out _).mono ?_; rintro e w3 ⟨rfl, b3⟩; have hb3 := Lib.hid (hb2.out.trans (b3.mono hb2.out.size)); clear b3)
          | (go_at_call 5; have _z := hb1; refine (HLA.out _ hb1.out).mono ?_; rintro e w2 ⟨rfl, b2⟩; rw [HLV.out]; have hb2 := Lib.hid (hb1.out.trans (b2.mono hb1.out.size)); clear b2)
          | (go_at_call 7; refine HOWN.out.mono ?_; rintro e w1 ⟨rfl, b1⟩; have hb1 := Lib.hid b1; clear b1)
          | fail "no arm")
        go_ret
        exact ⟨rfl, hb3.out⟩
  | true =>
    have HOK := Lib.hid hok
    have HOWN := Lib.hid (hown.mono (fun e w' h => And.intro (h.1 hok) h.2.2))
    have hn6 : n0 ≤ 6 := by
      unfold okN at hok
      rw [Bool.and_eq_true, decide_eq_true_eq] at hok
      have := HNN.out
      omega
    have t0 : decide ((20 : Int) < (n0 : Int)) = false := decide_eq_false (by omega)
    clear hown hok
    cases hlv : lightV l1 with
    | false =>
      have HLV := Lib.hid hlv
      clear hn0 hn1 hlv
      go_enter Tryz.func4, Tryz.ntmps4
      go_wp2_with (first
        | (go_at_call 6; have _z := hb2; refine (HK.out _).mono ?_; rintro e w3 ⟨rfl, b3⟩; have hb3 := Lib.hid (hb2.out.trans (b3.mono hb2.out.size)); clear b3)
        | (go_at_call 5; have _z := hb1; refine (HLA.out _ hb1.out).mono ?_; rintro e w2 ⟨rfl, b2⟩; rw [HLV.out]; have hb2 := Lib.hid (hb1.out.trans (b2.mono hb1.out.size)); clear b2)
        | (go_at_call 7; refine HOWN.out.mono ?_; rintro e w1 ⟨⟨H, S, rfl, q1, q2⟩, b1⟩; clear q1 q2; have hb1 := Lib.hid b1; clear b1)
        | fail "no arm")
      go_ret
      exact ⟨rfl, hb3.out⟩
    | true =>
      have HLV := Lib.hid hlv
      have HL70 := Lib.hid (light_bd hlv)
      have hs1 : n1 ≤ 120 := by have := HL70.out.1; omega
      clear hn0 hn1 hlv
      go_enter Tryz.func4, Tryz.ntmps4
      go_wp2_with (first
        | (go_at_call 8; have _z := hb3; refine (rtnew_any w _ a0 n0 c0 ts HNN.out (HLI.out _ hb3.out)).mono ?_; rintro e w4 ⟨f1, f2, b4⟩; obtain ⟨rb, R, rfl, r4', R4'⟩ := f1 HOK.out; clear f2; have r4 := Lib.hid r4'; have R4 := Lib.hid R4'; have b4' := Lib.hid b4; clear f1 b4 r4' R4')
        | (go_at_call 6; have _z := hb2; refine (HK.out _).mono ?_; rintro e w3 ⟨rfl, b3⟩; have hb3 := Lib.hid (hb2.out.trans (b3.mono hb2.out.size)); have hb13 := Lib.hid (hb2'.out.trans (b3.mono hb2'.out.size)); clear b3)
        | (go_at_call 5; have _z := hb1; refine (HLA.out _ hb1.out).mono ?_; rintro e w2 ⟨rfl, b2⟩; rw [HLV.out]; have hb2' := Lib.hid b2; have hb2 := Lib.hid (hb1.out.trans (b2.mono hb1.out.size)); clear b2)
        | (go_at_call 7; refine HOWN.out.mono ?_; rintro e w1 ⟨⟨H, S, rfl, h1', S1'⟩, b1⟩; have h1 := Lib.hid h1'; have S1 := Lib.hid S1'; have hb1 := Lib.hid b1; clear b1 h1' S1')
        | fail "no arm")
      have HT3 : Hid (Both w w4 (O.Tb H ts false (fun _ => none)) (TrG w rb ts false (fun _ => none)) S R) := Lib.hid (by
        have hz := (O.own H ts false (fun _ => none)).lt h1.out
        have hs := hb13.out.size
        exact ⟨(O.own _ _ _ _).later h1.out (hb13.out.trans (b4'.out.mono hs)), r4.out, O.own _ _ _ _, tr_own _ _ _ _ _, fun k hs' hr => by have := hz k hs'; have := R4.out k hr; omega, S1.out, fun k hk => Nat.le_trans hb3.out.size (R4.out k hk), hb3.out.trans (b4'.out.mono hb3.out.size)⟩)
      have HH0 : Hid (HiOk ts false (fun _ => none)) := Lib.hid (fun h => by cases h)
      clear h1 S1 hb3 hb2 hb2' hb1 r4 R4 b4' hb13
      go_loopw [7] (fun s wr => ∃ (k : Nat) (S R : Nat → Prop) (hm : Bool) (js : Js), k ≤ n1 ∧ s = .int .i64 k ∧ Hid (Both w wr (O.Tb H ts hm js) (TrG w rb ts hm js) S R) ∧ Hid (HiOk ts hm js)) (fun s _ => n1 - (intOf s).toNat)
      case atStart => exact ⟨0, _, _, _, _, Nat.zero_le _, rfl, HT3, HH0⟩
      case round =>
        clear HT3 HH0
        obtain ⟨k, S, R, hm, js, hk, rfl, HT, HH⟩ := hrel
        by_cases hlt : k < n1
        · have d0 : decide ((k : Int) < (n1 : Int)) = true := decide_eq_true (by omega)
          have d1 : (0 : Int) ≤ (k : Int) := by omega
          have d2 : (k : Int) < (n1 : Int) := by omega
          obtain ⟨b, off, oa, oc, ea, ⟨k0, k1, k2, k3, k4, k5, k6⟩, hb, hlo⟩ := KA.out wr HT.out.b k hlt
          subst ea
          have HO70 : Hid ((acAt l1 k).ops.length ≤ 70) := Lib.hid (HL70.out.2 k (by have := HN1.out; omega))
          obtain ⟨x, hx⟩ : ∃ x, x = acAt l1 k := ⟨_, rfl⟩
          rw [← hx] at k0 k1 k2 k3 k4 k5 k6 hlo HO70
          obtain ⟨kd, kk, tk, arr, work, done, ov, ops⟩ := x
          dsimp only at k0 k1 k2 k3 k4 k5 k6 hlo HO70
          obtain ⟨m, hm'⟩ : ∃ m, m = ops.length := ⟨_, rfl⟩
          rw [← hm'] at k6 hlo HO70
          have HMO := Lib.hid hm'.symm
          have HLO := Lib.hid hlo
          clear hx hb hlo hm'
          go_wp2_with (first
            | (go_at_call 9; refine (do19_of O w wr H rb S R ts hm js HT.out HH.out kd kk tk arr work done oa m oc ops HMO.out HLO.out HO70.out).mono ?_; rintro e w5 ⟨rfl, S5, R5, hm5, js5, t5', hh5⟩; have t5 := Lib.hid t5'; have HH5 := Lib.hid hh5; clear t5' hh5)
            | fail "no arm")
          have HBD := Lib.hid (O.bd t5.out.h)
          clear k0 k1 k2 k3 k4 k5 k6
          go_loopw [8] (fun s wr2 => ∃ i : Nat, i ≤ n0 ∧ s = .int .i64 i ∧ Hid (Both w wr2 (O.Tb H ts hm5 js5) (TrG w rb ts hm5 js5) S5 R5)) (fun s _ => n0 - (intOf s).toNat)
          case atStart => exact ⟨0, Nat.zero_le _, rfl, t5⟩
          case round =>
            obtain ⟨i, hi', rfl, HT6⟩ := hrel
            by_cases hli : i < n0
            · have g0 : decide ((i : Int) < (n0 : Int)) = true := decide_eq_true (by omega)
              have g1 : (0 : Int) ≤ (i : Int) := by omega
              have g2 : (i : Int) < (n0 : Int) := by omega
              obtain ⟨tv, htv⟩ : ∃ tv, tv = thereT ts js5 (i : Int) := ⟨_, rfl⟩
              have HCP : Hid (∀ Y, O.Tb H ts hm5 js5 Y S5 → Calls Tryz.prog 12 #[.pointer (some ⟨H, 0, none⟩), .int .i64 (i : Int)] Y fun e w' => ∃ c0 c1 c2 c3 ao n cap, e = .returned (.tuple #[.agg #[.int .i64 c0, .int .i64 c1, .int .i64 c2, .int .i64 c3, .slice ao n cap], .bool tv]) ∧ Below Y.heap.size Y w') := Lib.hid (fun Y h => (O.get Y H S5 ts hm5 js5 (i : Int) h).mono (fun e w' ⟨ao, cap, he, _, hb⟩ => by subst he; rw [htv]; exact ⟨_, _, _, _, ao, _, cap, rfl, hb⟩))
              have HHI : Hid (tv = true → hm5 = true → (tkAt ts i).hi = true) := Lib.hid (fun h1 h2 => by
                rw [htv] at h1
                obtain ⟨q, j, e, hq, hj⟩ := there_nat h1
                have : i = q := by omega
                subst this
                exact HH5.out h2 i j hj)
              obtain ⟨bt, oft, eat, ⟨y0, _⟩, _⟩ := KT.out _ HT6.out.b i hli
              have KTQ : Hid (∀ Y, Below w.heap.size w Y → Y.cell? ⟨bt, oft + i * 6, none⟩ = some (.bool (tkAt ts i).hi)) := Lib.hid (fun Y hY => by
                obtain ⟨bt', oft', eat', ⟨y0, _⟩, _⟩ := KT.out Y hY i hli
                cases eat.symm.trans eat'
                exact y0)
              clear htv y0
              subst eat
              obtain ⟨th, hth⟩ : ∃ th, th = (tkAt ts i).hi := ⟨_, rfl⟩
              rw [← hth] at KTQ HHI
              clear hth
              cases tv with
              | false =>
                go_wp2_with (first
                  | (go_at_call 12; refine (HCP.out _ HT6.out.h).mono ?_; rintro e w7 ⟨x0, x1, x2, x3, ao, xn, cap, rfl, b7⟩; have t7 := Lib.hid ((HT6.out.later b7).later (below1 w7 (.cells #[.int .i64 x0, .int .i64 x1, .int .i64 x2, .int .i64 x3, .slice ao xn cap] 40))); clear b7)
                  | fail "no arm")
                go_roundw
                case rel => exact ⟨i + 1, by omega, by go_num, t7⟩
                case measure => simp [intOf]; omega
              | true =>
                cases hm5 with
                | false =>
                  go_wp2_with (first
                    | (go_at_call 18; have _z := t7; refine (O.high _ H S5 ts false js5 t7.out.h).mono ?_; rintro e w8 ⟨rfl, b8⟩; have t8 := Lib.hid (t7.out.later b8); clear b8)
                    | (go_at_call 12; refine (HCP.out _ HT6.out.h).mono ?_; rintro e w7 ⟨x0, x1, x2, x3, ao, xn, cap, rfl, b7⟩; have t7 := Lib.hid ((HT6.out.later b7).later (below1 w7 (.cells #[.int .i64 x0, .int .i64 x1, .int .i64 x2, .int .i64 x3, .slice ao xn cap] 40))); clear b7)
                    | fail "no arm")
                  go_roundw
                  case rel => exact ⟨i + 1, by omega, by go_num, t8⟩
                  case measure => simp [intOf]; omega
                | true =>
                  have hth1 : th = true := HHI.out rfl rfl
                  subst hth1
                  go_wp2_with (first
                    | (go_at_call 18; have _z := t7; refine (O.high _ H S5 ts true js5 t7.out.h).mono ?_; rintro e w8 ⟨rfl, b8⟩; have t8 := Lib.hid (t7.out.later b8); have j8 := KTQ.out _ t8.out.b; clear b8)
                    | (go_at_call 12; refine (HCP.out _ HT6.out.h).mono ?_; rintro e w7 ⟨x0, x1, x2, x3, ao, xn, cap, rfl, b7⟩; have t7 := Lib.hid ((HT6.out.later b7).later (below1 w7 (.cells #[.int .i64 x0, .int .i64 x1, .int .i64 x2, .int .i64 x3, .slice ao xn cap] 40))); clear b7)
                    | fail "no arm")
                  go_roundw
                  case rel => exact ⟨i + 1, by omega, by go_num, t8⟩
                  case measure => simp [intOf]; omega
            · have g0 : decide ((i : Int) < (n0 : Int)) = false := decide_eq_false (by omega)
              go_wp2_with fail
              go_roundw
              case rel => exact ⟨k + 1, S5, R5, hm5, js5, by omega, by go_num, HT6, HH5⟩
              case measure => simp [intOf]; omega
        · have d0 : decide ((k : Int) < (n1 : Int)) = false := decide_eq_false (by omega)
          go_wp2_with fail
          go_ret
          exact ⟨rfl, HT.out.b⟩
end Go.Proofs.YtnenbgdonkgkfaaGreat
