/- The walk of the statement on what is just, of a program whose verdicts are as they are asked to be. -/
import Derived.Test.YtdbbdlobahalkaaLawElevenA
import Derived.Test.YtdbbdlobahalkaaAdmitProg
import Derived.Test.YtdbbdlobahalkaaAdmitX
import Derived.Test.YtdbbdlobahalkaaNames
import Derived.Test.YtdbbdlobahalkaaRead
namespace Go.Proofs.Ytdbbdlobahalkaa
open Go.ChangeShapes Go.WideShapes Go.ChangeAt Go.RowKit
set_option linter.unusedVariables false

set_option maxRecDepth 100000 in
set_option maxHeartbeats 8000000 in
theorem AdmitJust_of (CJ : JudgeOk) (CSL : SlackOk) (wa pa ca : Option Addr) (wc pc cc : Nat) (p t : Int) (high : Bool) (w : World) (c : Cf) (pvs : List Pv) (h : SysL w w.heap.size c pvs wa pa ca wc pc cc) (hin : c.In) :
    Calls Try.prog 3 #[.agg #[.int .i64 c.frame, .int .i64 c.margin, .slice wa c.ws.length wc, .slice pa c.ps.length pc, .slice ca c.cs.length cc], .int .i64 p, .int .i64 t, .bool high] w fun e w' => e = .returned (.bool true) ∧ Below w.heap.size w w' := by
  obtain ⟨V, hV⟩ : ∃ V, V = w.alloc (.cells #[.int .i64 c.frame, .int .i64 c.margin, .slice wa c.ws.length wc, .slice pa c.ps.length pc, .slice ca c.cs.length cc] 26) := ⟨_, rfl⟩
  have hB1 : Below w.heap.size w V := by rw [hV]; exact below1 _ _
  have ks : ∀ W : World, Below V.heap.size V W → W.cell? ⟨w.heap.size, 0, none⟩ = some (.int .i64 c.frame) ∧ W.cell? ⟨w.heap.size, 1, none⟩ = some (.int .i64 c.margin) ∧ W.cell? ⟨w.heap.size, 2, none⟩ = some (.slice wa c.ws.length wc) ∧ W.cell? ⟨w.heap.size, 3, none⟩ = some (.slice pa c.ps.length pc) ∧ W.cell? ⟨w.heap.size, 4, none⟩ = some (.slice ca c.cs.length cc) := fun W g => by
    rw [hV] at g
    exact boxK5 _ _ _ _ _ _ _ W g
  have SV : SysL V w.heap.size c pvs wa pa ca wc pc cc := h.keep (SameIn.of_below hB1 (Nat.le_refl _))
  have CN := Lib.hid (near_sys hin.1 SV hB1.size)
  have HF64 := Lib.hid hin.1; have HIN := Lib.hid hin.2.2.1
  have hFe : ∃ F : Nat, (checkV c).1 = 0 → c.frame = (F : Int) := by
    by_cases hz : (checkV c).1 = 0
    · obtain ⟨F, hF⟩ := frame_nat hz; exact ⟨F, fun _ => hF⟩
    · exact ⟨0, fun g => absurd g hz⟩
  obtain ⟨F, hFe⟩ := hFe
  have HFE := Lib.hid hFe
  have KS := Lib.hid ks; have HB1 := Lib.hid hB1; have HS := Lib.hid SV; have HV := Lib.hid hV; have HSZ := Lib.hid hB1.size
  clear ks hB1 SV hV h hin
  cases hn : nearB c with
  | false =>
    have HN := Lib.hid hn; clear hn hFe
    go_enter Try.func3, Try.ntmps3
    go_wp2_with (first
      | (go_at_call 5; rw [← HV.out]; refine CN.out.mono ?_; rintro e w1 ⟨rfl, hb1⟩; rw [HN.out])
      | (go_at_call 6; refine (knows11_any CJ CSL _).mono ?_; rintro e w2 ⟨rfl, hb2⟩))
    go_ret
    exact ⟨rfl, HB1.out.trans ((bel_thenD hb1 (Nat.le_refl _) hb2).mono HB1.out.size)⟩
  | true =>
    have hli : lightB c = true := by unfold nearB at hn; rw [Bool.and_eq_true] at hn; exact hn.1
    have HF := Lib.hid (light_bounds hli)
    have HN := Lib.hid hn; clear hn hli
    by_cases hq : (checkV c).1 = 0 ∧ ¬ 0 ≤ (allV c).1
    · obtain ⟨hz, hl⟩ := hq
      obtain ⟨c0, c1⟩ := cutT_in t
      have hcut : (t < 0 ∧ cutT t = 0) ∨ (0 ≤ t ∧ t ≤ 1099511627776 ∧ cutT t = t) ∨ (0 ≤ t ∧ 1099511627776 < t ∧ cutT t = 1099511627776) := by unfold cutT; omega
      obtain ⟨T, hT⟩ : ∃ T, T = cutT t := ⟨_, rfl⟩
      rw [← hT] at hcut c0 c1
      have HC := Lib.hid hcut
      obtain ⟨j2, k0, k1, k2, k3, j1, kk, hd⟩ := just_cases hz (hFe hz) hl p high c0 c1
      have HJC : Hid ((judgeV c F).1.cells = #[.int .i64 k0, .int .i64 k1, .bool k2, .int .i64 k3]) := Lib.hid (by rw [j1]; rfl)
      have HFV : Hid ((judgeV c F).2 = 0) := Lib.hid j2
      have HD := Lib.hid hd
      have t1 : (k0 == 2) = false := by simpa using kk
      clear hz hl hcut hT j1 j2 hd hFe
      go_enter Try.func3, Try.ntmps3
      go_upto_region 7 with (first
        | (go_at_call 5; rw [← HV.out]; refine CN.out.mono ?_; rintro e w1 ⟨rfl, hb1⟩; rw [HN.out]; have HBa := Lib.hid hb1; obtain ⟨z0, z1, z2, z3, z4⟩ := KS.out _ hb1; clear hb1)
        | (go_at_call 6; refine (knows11_any CJ CSL _).mono ?_; rintro e w2 ⟨rfl, hb2⟩; have HBb := Lib.hid (bel_thenD HBa.out (Nat.le_refl _) hb2); clear z0 z1 z2 z3 z4; obtain ⟨z0, z1, z2, z3, z4⟩ := KS.out _ HBb.out; clear hb2)
        | (go_at_call 7; refine (config_sys HF.out (HS.out.keep (SameIn.of_below HBb.out HSZ.out)) (Nat.le_trans HSZ.out HBb.out.size)).mono ?_; rintro e w3 ⟨vs, i1, i2, i3, j1, j2, j3, rfl, hs3, hb3⟩
           obtain ⟨X, hX⟩ : ∃ X, X = w3.alloc (.cells #[.int .i64 c.frame, .int .i64 c.margin, .slice i1 c.ws.length j1, .slice i2 c.ps.length j2, .slice i3 c.cs.length j3] 33) := ⟨_, rfl⟩
           have HBc := Lib.hid (bel_thenD HBb.out (Nat.le_refl _) hb3)
           have hXX : Below w3.heap.size w3 X := by rw [hX]; exact below1 _ _
           have HBX : Hid (Below V.heap.size V X) := Lib.hid (bel_thenD HBc.out (Nat.le_refl _) hXX)
           have HSX : Hid (∀ W : World, Below X.heap.size X W → SysL W w3.heap.size c vs i1 i2 i3 j1 j2 j3 ∧ w3.heap.size ≤ W.heap.size) := Lib.hid fun W g => And.intro (hs3.keep (SameIn.of_below (bel_thenD hXX (Nat.le_refl _) g) (Nat.le_refl _))) (bel_thenD hXX (Nat.le_refl _) g).size
           have KX : Hid (∀ W : World, Below X.heap.size X W → W.cell? ⟨w3.heap.size, 0, none⟩ = some (.int .i64 c.frame) ∧ W.cell? ⟨w3.heap.size, 1, none⟩ = some (.int .i64 c.margin) ∧ W.cell? ⟨w3.heap.size, 2, none⟩ = some (.slice i1 c.ws.length j1) ∧ W.cell? ⟨w3.heap.size, 3, none⟩ = some (.slice i2 c.ps.length j2) ∧ W.cell? ⟨w3.heap.size, 4, none⟩ = some (.slice i3 c.cs.length j3)) := Lib.hid fun W g => by
             rw [hX] at g
             exact boxK5 _ _ _ _ _ _ _ W g
           obtain ⟨x0, x1, x2, x3, x4⟩ := boxK5 w3 (.int .i64 c.frame) (.int .i64 c.margin) (.slice i1 c.ws.length j1) (.slice i2 c.ps.length j2) (.slice i3 c.cs.length j3) 33 _ (Below.refl _ _)
           have HX := Lib.hid hX
           clear z0 z1 z2 z3 z4 hs3 hb3 hXX hX)
        | (go_at_call 8; rw [← HX.out]; refine (CJ _ _ c vs i1 i2 i3 j1 j2 j3 HF.out (HSX.out _ (Below.refl _ _)).1 (HSX.out _ (Below.refl _ _)).2 HIN.out HF64.out F HFE.out).mono ?_; rintro e w4 ⟨rfl, hb4⟩; rw [HJC.out, HFV.out]
           obtain ⟨Y, hY⟩ : ∃ Y, Y = w4.alloc (.cells #[.int .i64 k0, .int .i64 k1, .bool k2, .int .i64 k3] 36) := ⟨_, rfl⟩
           have hYX : Below X.heap.size X Y := by rw [hY]; exact hb4.alloc hb4.size _
           have HBY : Hid (Below V.heap.size V Y) := Lib.hid (bel_thenD HBX.out (Nat.le_refl _) hYX)
           have HSY : Hid (∀ W : World, Below Y.heap.size Y W → SysL W w3.heap.size c vs i1 i2 i3 j1 j2 j3 ∧ w3.heap.size ≤ W.heap.size) := Lib.hid fun W g => HSX.out W (bel_thenD hYX (Nat.le_refl _) g)
           have hvv : CellsAt Y w4.heap.size 36 [.int .i64 k0, .int .i64 k1, .bool k2, .int .i64 k3] := by rw [hY]; exact heap_alloc_new _ _
           have KY : Hid (∀ W : World, Below Y.heap.size Y W → (W.cell? ⟨w3.heap.size, 0, none⟩ = some (.int .i64 c.frame) ∧ W.cell? ⟨w3.heap.size, 1, none⟩ = some (.int .i64 c.margin) ∧ W.cell? ⟨w3.heap.size, 2, none⟩ = some (.slice i1 c.ws.length j1) ∧ W.cell? ⟨w3.heap.size, 3, none⟩ = some (.slice i2 c.ps.length j2) ∧ W.cell? ⟨w3.heap.size, 4, none⟩ = some (.slice i3 c.cs.length j3)) ∧ W.cell? ⟨w4.heap.size, 0, none⟩ = some (.int .i64 k0) ∧ W.cell? ⟨w4.heap.size, 1, none⟩ = some (.int .i64 k1) ∧ W.cell? ⟨w4.heap.size, 2, none⟩ = some (.bool k2) ∧ W.cell? ⟨w4.heap.size, 3, none⟩ = some (.int .i64 k3)) := Lib.hid fun W g => by
             have g1 := hvv.later g
             exact ⟨KX.out _ (bel_thenD hYX (Nat.le_refl _) g), (g1.cell (j := 0) rfl).1, (g1.cell (j := 1) rfl).1, (g1.cell (j := 2) rfl).1, (g1.cell (j := 3) rfl).1⟩
           have HY := Lib.hid hY
           clear x0 x1 x2 x3 x4
           obtain ⟨⟨x0, x1, x2, x3, x4⟩, y0, y1, y2, y3⟩ : ((w4.alloc (.cells #[.int .i64 k0, .int .i64 k1, .bool k2, .int .i64 k3] 36)).cell? ⟨w3.heap.size, 0, none⟩ = some (.int .i64 c.frame) ∧ (w4.alloc (.cells #[.int .i64 k0, .int .i64 k1, .bool k2, .int .i64 k3] 36)).cell? ⟨w3.heap.size, 1, none⟩ = some (.int .i64 c.margin) ∧ (w4.alloc (.cells #[.int .i64 k0, .int .i64 k1, .bool k2, .int .i64 k3] 36)).cell? ⟨w3.heap.size, 2, none⟩ = some (.slice i1 c.ws.length j1) ∧ (w4.alloc (.cells #[.int .i64 k0, .int .i64 k1, .bool k2, .int .i64 k3] 36)).cell? ⟨w3.heap.size, 3, none⟩ = some (.slice i2 c.ps.length j2) ∧ (w4.alloc (.cells #[.int .i64 k0, .int .i64 k1, .bool k2, .int .i64 k3] 36)).cell? ⟨w3.heap.size, 4, none⟩ = some (.slice i3 c.cs.length j3)) ∧ (w4.alloc (.cells #[.int .i64 k0, .int .i64 k1, .bool k2, .int .i64 k3] 36)).cell? ⟨w4.heap.size, 0, none⟩ = some (.int .i64 k0) ∧ (w4.alloc (.cells #[.int .i64 k0, .int .i64 k1, .bool k2, .int .i64 k3] 36)).cell? ⟨w4.heap.size, 1, none⟩ = some (.int .i64 k1) ∧ (w4.alloc (.cells #[.int .i64 k0, .int .i64 k1, .bool k2, .int .i64 k3] 36)).cell? ⟨w4.heap.size, 2, none⟩ = some (.bool k2) ∧ (w4.alloc (.cells #[.int .i64 k0, .int .i64 k1, .bool k2, .int .i64 k3] 36)).cell? ⟨w4.heap.size, 3, none⟩ = some (.int .i64 k3) := by rw [← hY]; exact KY.out _ (Below.refl _ _)
           clear hb4 hYX hY hvv)
        | (go_at_call 9; refine (num11_any _ _).mono ?_; rintro e w9 ⟨rfl, rfl⟩))
      go_cut [2] from 41 to 44 (fun v wx => v = .int .i64 T ∧ wx = Y)
      case first =>
        rcases HC.out with ⟨g1, g2⟩ | ⟨g1, g2, g3⟩ | ⟨g1, g2, g3⟩
        all_goals (go_wp2_with fail; go_meet)
        all_goals (case rel => first | exact ⟨by rw [g2], HY.out.symm⟩ | exact ⟨by rw [g3], HY.out.symm⟩)
      case rest =>
        obtain ⟨rfl, hwr⟩ := hcut
        have hwr2 := hwr.symm
        subst hwr2
        clear x0 x1 x2 x3 x4 y0 y1 y2 y3
        obtain ⟨⟨x0, x1, x2, x3, x4⟩, y0, y1, y2, y3⟩ := KY.out _ (Below.refl _ _)
        rcases HD.out with ⟨d1, d2⟩ | ⟨d1, d2, d3⟩ | ⟨d1, d2, d3, d4, d5, d6⟩
        · have S2 := Lib.hid d1; have HP := Lib.hid d2
          clear d1 d2
          go_wp2_with (first
            | (go_at_call 10; refine (CSL _ _ c vs i1 i2 i3 j1 j2 j3 HF.out (HSY.out _ (Below.refl _ _)).1 (HSY.out _ (Below.refl _ _)).2 HIN.out HF64.out F HFE.out _ _ _).mono ?_; rintro e w6 ⟨rfl, hb6⟩; rw [S2.out]; have HBe := Lib.hid hb6; clear x0 x1 x2 x3 x4 y0 y1 y2 y3; obtain ⟨⟨x0, x1, x2, x3, x4⟩, y0, y1, y2, y3⟩ := KY.out _ HBe.out; clear hb6)
            | (go_at_call 11; refine (has_any _ _ _ _ _ _ _ _ _ _ _ _ _).mono ?_; rintro e w7 ⟨rfl, hb7⟩; rw [HP.out]; have HBe := Lib.hid (bel_thenD HBe.out (Nat.le_refl _) hb7); clear hb7))
          go_ret
          exact ⟨rfl, HB1.out.trans ((bel_thenD HBY.out (Nat.le_refl _) HBe.out).mono HB1.out.size)⟩
        · obtain ⟨s, hs⟩ : ∃ s, s = (slackT c F p T high).1 := ⟨_, rfl⟩
          rw [← hs] at d3
          have S1 := Lib.hid hs.symm; have S2 := Lib.hid d1
          clear d1 hs
          subst d2
          have t2 : decide (0 ≤ s) = true := by simpa using d3
          go_wp2_with (first
            | (go_at_call 10; refine (CSL _ _ c vs i1 i2 i3 j1 j2 j3 HF.out (HSY.out _ (Below.refl _ _)).1 (HSY.out _ (Below.refl _ _)).2 HIN.out HF64.out F HFE.out _ _ _).mono ?_; rintro e w6 ⟨rfl, hb6⟩; rw [S1.out, S2.out]; have HBe := Lib.hid hb6; clear x0 x1 x2 x3 x4 y0 y1 y2 y3; obtain ⟨⟨x0, x1, x2, x3, x4⟩, y0, y1, y2, y3⟩ := KY.out _ HBe.out; clear hb6))
          go_ret
          exact ⟨rfl, HB1.out.trans ((bel_thenD HBY.out (Nat.le_refl _) HBe.out).mono HB1.out.size)⟩
        · obtain ⟨s, hs⟩ : ∃ s, s = (slackT c F p T high).1 := ⟨_, rfl⟩
          obtain ⟨z, hz⟩ : ∃ z, z = (slackT c F k1 k3 k2).1 := ⟨_, rfl⟩
          rw [← hs] at d6
          rw [← hz] at d4
          have S1 := Lib.hid hs.symm; have S2 := Lib.hid d1
          have S3 := Lib.hid hz.symm; have S4 := Lib.hid d3
          clear d1 d3 hs hz
          subst d2
          have t2 : decide (0 ≤ z) = false := by simpa using d4
          have t3 : decide (k3 < 0) = false := by simpa using d5
          rcases Int.lt_trichotomy p k1 with e | e | e
          · have u1 : decide (p < k1) = true := by simpa using e
            have u2 : (p == k1) = false := by simp; omega
            have u3 : decide (0 ≤ s) = true := by
              rcases d6 with g | g | g | g
              · simpa using g
              · omega
              · omega
              · omega
            clear d6
            go_wp2_with (first
              | (go_at_call 10; refine (CSL _ _ c vs i1 i2 i3 j1 j2 j3 HF.out (HSY.out _ HBe.out).1 (HSY.out _ HBe.out).2 HIN.out HF64.out F HFE.out _ _ _).mono ?_; rintro e w8 ⟨rfl, hb6⟩; rw [S3.out, S4.out]; have HBe := Lib.hid (bel_thenD HBe.out (Nat.le_refl _) hb6); clear x0 x1 x2 x3 x4 y0 y1 y2 y3; obtain ⟨⟨x0, x1, x2, x3, x4⟩, y0, y1, y2, y3⟩ := KY.out _ HBe.out; clear hb6)
              | (go_at_call 10; refine (CSL _ _ c vs i1 i2 i3 j1 j2 j3 HF.out (HSY.out _ (Below.refl _ _)).1 (HSY.out _ (Below.refl _ _)).2 HIN.out HF64.out F HFE.out _ _ _).mono ?_; rintro e w6 ⟨rfl, hb6⟩; rw [S1.out, S2.out]; have HBe := Lib.hid hb6; clear x0 x1 x2 x3 x4 y0 y1 y2 y3; obtain ⟨⟨x0, x1, x2, x3, x4⟩, y0, y1, y2, y3⟩ := KY.out _ HBe.out; clear hb6))
            go_ret
            exact ⟨rfl, HB1.out.trans ((bel_thenD HBY.out (Nat.le_refl _) HBe.out).mono HB1.out.size)⟩
          · subst e
            have u1 : decide (p < p) = false := by simp
            have u2 : (p == p) = true := by simp
            cases high <;> cases k2
            · by_cases g : 0 ≤ s
              · have u3 : decide (0 ≤ s) = true := by simpa using g
                clear d6
                go_wp2_with (first
                  | (go_at_call 10; refine (CSL _ _ c vs i1 i2 i3 j1 j2 j3 HF.out (HSY.out _ HBe.out).1 (HSY.out _ HBe.out).2 HIN.out HF64.out F HFE.out _ _ _).mono ?_; rintro e w8 ⟨rfl, hb6⟩; rw [S3.out, S4.out]; have HBe := Lib.hid (bel_thenD HBe.out (Nat.le_refl _) hb6); clear x0 x1 x2 x3 x4 y0 y1 y2 y3; obtain ⟨⟨x0, x1, x2, x3, x4⟩, y0, y1, y2, y3⟩ := KY.out _ HBe.out; clear hb6)
                  | (go_at_call 10; refine (CSL _ _ c vs i1 i2 i3 j1 j2 j3 HF.out (HSY.out _ (Below.refl _ _)).1 (HSY.out _ (Below.refl _ _)).2 HIN.out HF64.out F HFE.out _ _ _).mono ?_; rintro e w6 ⟨rfl, hb6⟩; rw [S1.out, S2.out]; have HBe := Lib.hid hb6; clear x0 x1 x2 x3 x4 y0 y1 y2 y3; obtain ⟨⟨x0, x1, x2, x3, x4⟩, y0, y1, y2, y3⟩ := KY.out _ HBe.out; clear hb6))
                go_ret
                exact ⟨rfl, HB1.out.trans ((bel_thenD HBY.out (Nat.le_refl _) HBe.out).mono HB1.out.size)⟩
              · have u3 : decide (0 ≤ s) = false := by simpa using g
                have u4 : decide (k3 ≤ T) = true := by
                  rcases d6 with q | q | q | q
                  · omega
                  · omega
                  · cases q.2.1
                  · simpa using q.2.2
                clear d6
                go_wp2_with (first
                  | (go_at_call 10; refine (CSL _ _ c vs i1 i2 i3 j1 j2 j3 HF.out (HSY.out _ HBe.out).1 (HSY.out _ HBe.out).2 HIN.out HF64.out F HFE.out _ _ _).mono ?_; rintro e w8 ⟨rfl, hb6⟩; rw [S3.out, S4.out]; have HBe := Lib.hid (bel_thenD HBe.out (Nat.le_refl _) hb6); clear x0 x1 x2 x3 x4 y0 y1 y2 y3; obtain ⟨⟨x0, x1, x2, x3, x4⟩, y0, y1, y2, y3⟩ := KY.out _ HBe.out; clear hb6)
                  | (go_at_call 10; refine (CSL _ _ c vs i1 i2 i3 j1 j2 j3 HF.out (HSY.out _ (Below.refl _ _)).1 (HSY.out _ (Below.refl _ _)).2 HIN.out HF64.out F HFE.out _ _ _).mono ?_; rintro e w6 ⟨rfl, hb6⟩; rw [S1.out, S2.out]; have HBe := Lib.hid hb6; clear x0 x1 x2 x3 x4 y0 y1 y2 y3; obtain ⟨⟨x0, x1, x2, x3, x4⟩, y0, y1, y2, y3⟩ := KY.out _ HBe.out; clear hb6))
                go_ret
                exact ⟨rfl, HB1.out.trans ((bel_thenD HBY.out (Nat.le_refl _) HBe.out).mono HB1.out.size)⟩
            · have u3 : decide (0 ≤ s) = true := by
                rcases d6 with q | q | q | q
                · simpa using q
                · omega
                · cases q.2.1
                · cases q.2.1
              clear d6
              go_wp2_with (first
                | (go_at_call 10; refine (CSL _ _ c vs i1 i2 i3 j1 j2 j3 HF.out (HSY.out _ HBe.out).1 (HSY.out _ HBe.out).2 HIN.out HF64.out F HFE.out _ _ _).mono ?_; rintro e w8 ⟨rfl, hb6⟩; rw [S3.out, S4.out]; have HBe := Lib.hid (bel_thenD HBe.out (Nat.le_refl _) hb6); clear x0 x1 x2 x3 x4 y0 y1 y2 y3; obtain ⟨⟨x0, x1, x2, x3, x4⟩, y0, y1, y2, y3⟩ := KY.out _ HBe.out; clear hb6)
                | (go_at_call 10; refine (CSL _ _ c vs i1 i2 i3 j1 j2 j3 HF.out (HSY.out _ (Below.refl _ _)).1 (HSY.out _ (Below.refl _ _)).2 HIN.out HF64.out F HFE.out _ _ _).mono ?_; rintro e w6 ⟨rfl, hb6⟩; rw [S1.out, S2.out]; have HBe := Lib.hid hb6; clear x0 x1 x2 x3 x4 y0 y1 y2 y3; obtain ⟨⟨x0, x1, x2, x3, x4⟩, y0, y1, y2, y3⟩ := KY.out _ HBe.out; clear hb6))
              go_ret
              exact ⟨rfl, HB1.out.trans ((bel_thenD HBY.out (Nat.le_refl _) HBe.out).mono HB1.out.size)⟩
            · by_cases g : 0 ≤ s
              · have u3 : decide (0 ≤ s) = true := by simpa using g
                clear d6
                go_wp2_with (first
                  | (go_at_call 10; refine (CSL _ _ c vs i1 i2 i3 j1 j2 j3 HF.out (HSY.out _ HBe.out).1 (HSY.out _ HBe.out).2 HIN.out HF64.out F HFE.out _ _ _).mono ?_; rintro e w8 ⟨rfl, hb6⟩; rw [S3.out, S4.out]; have HBe := Lib.hid (bel_thenD HBe.out (Nat.le_refl _) hb6); clear x0 x1 x2 x3 x4 y0 y1 y2 y3; obtain ⟨⟨x0, x1, x2, x3, x4⟩, y0, y1, y2, y3⟩ := KY.out _ HBe.out; clear hb6)
                  | (go_at_call 10; refine (CSL _ _ c vs i1 i2 i3 j1 j2 j3 HF.out (HSY.out _ (Below.refl _ _)).1 (HSY.out _ (Below.refl _ _)).2 HIN.out HF64.out F HFE.out _ _ _).mono ?_; rintro e w6 ⟨rfl, hb6⟩; rw [S1.out, S2.out]; have HBe := Lib.hid hb6; clear x0 x1 x2 x3 x4 y0 y1 y2 y3; obtain ⟨⟨x0, x1, x2, x3, x4⟩, y0, y1, y2, y3⟩ := KY.out _ HBe.out; clear hb6))
                go_ret
                exact ⟨rfl, HB1.out.trans ((bel_thenD HBY.out (Nat.le_refl _) HBe.out).mono HB1.out.size)⟩
              · have u3 : decide (0 ≤ s) = false := by simpa using g
                clear d6
                go_wp2_with (first
                  | (go_at_call 10; refine (CSL _ _ c vs i1 i2 i3 j1 j2 j3 HF.out (HSY.out _ HBe.out).1 (HSY.out _ HBe.out).2 HIN.out HF64.out F HFE.out _ _ _).mono ?_; rintro e w8 ⟨rfl, hb6⟩; rw [S3.out, S4.out]; have HBe := Lib.hid (bel_thenD HBe.out (Nat.le_refl _) hb6); clear x0 x1 x2 x3 x4 y0 y1 y2 y3; obtain ⟨⟨x0, x1, x2, x3, x4⟩, y0, y1, y2, y3⟩ := KY.out _ HBe.out; clear hb6)
                  | (go_at_call 10; refine (CSL _ _ c vs i1 i2 i3 j1 j2 j3 HF.out (HSY.out _ (Below.refl _ _)).1 (HSY.out _ (Below.refl _ _)).2 HIN.out HF64.out F HFE.out _ _ _).mono ?_; rintro e w6 ⟨rfl, hb6⟩; rw [S1.out, S2.out]; have HBe := Lib.hid hb6; clear x0 x1 x2 x3 x4 y0 y1 y2 y3; obtain ⟨⟨x0, x1, x2, x3, x4⟩, y0, y1, y2, y3⟩ := KY.out _ HBe.out; clear hb6))
                go_ret
                exact ⟨rfl, HB1.out.trans ((bel_thenD HBY.out (Nat.le_refl _) HBe.out).mono HB1.out.size)⟩
            · by_cases g : 0 ≤ s
              · have u3 : decide (0 ≤ s) = true := by simpa using g
                clear d6
                go_wp2_with (first
                  | (go_at_call 10; refine (CSL _ _ c vs i1 i2 i3 j1 j2 j3 HF.out (HSY.out _ HBe.out).1 (HSY.out _ HBe.out).2 HIN.out HF64.out F HFE.out _ _ _).mono ?_; rintro e w8 ⟨rfl, hb6⟩; rw [S3.out, S4.out]; have HBe := Lib.hid (bel_thenD HBe.out (Nat.le_refl _) hb6); clear x0 x1 x2 x3 x4 y0 y1 y2 y3; obtain ⟨⟨x0, x1, x2, x3, x4⟩, y0, y1, y2, y3⟩ := KY.out _ HBe.out; clear hb6)
                  | (go_at_call 10; refine (CSL _ _ c vs i1 i2 i3 j1 j2 j3 HF.out (HSY.out _ (Below.refl _ _)).1 (HSY.out _ (Below.refl _ _)).2 HIN.out HF64.out F HFE.out _ _ _).mono ?_; rintro e w6 ⟨rfl, hb6⟩; rw [S1.out, S2.out]; have HBe := Lib.hid hb6; clear x0 x1 x2 x3 x4 y0 y1 y2 y3; obtain ⟨⟨x0, x1, x2, x3, x4⟩, y0, y1, y2, y3⟩ := KY.out _ HBe.out; clear hb6))
                go_ret
                exact ⟨rfl, HB1.out.trans ((bel_thenD HBY.out (Nat.le_refl _) HBe.out).mono HB1.out.size)⟩
              · have u3 : decide (0 ≤ s) = false := by simpa using g
                have u4 : decide (k3 ≤ T) = true := by
                  rcases d6 with q | q | q | q
                  · omega
                  · omega
                  · cases q.2.2
                  · simpa using q.2.2
                clear d6
                go_wp2_with (first
                  | (go_at_call 10; refine (CSL _ _ c vs i1 i2 i3 j1 j2 j3 HF.out (HSY.out _ HBe.out).1 (HSY.out _ HBe.out).2 HIN.out HF64.out F HFE.out _ _ _).mono ?_; rintro e w8 ⟨rfl, hb6⟩; rw [S3.out, S4.out]; have HBe := Lib.hid (bel_thenD HBe.out (Nat.le_refl _) hb6); clear x0 x1 x2 x3 x4 y0 y1 y2 y3; obtain ⟨⟨x0, x1, x2, x3, x4⟩, y0, y1, y2, y3⟩ := KY.out _ HBe.out; clear hb6)
                  | (go_at_call 10; refine (CSL _ _ c vs i1 i2 i3 j1 j2 j3 HF.out (HSY.out _ (Below.refl _ _)).1 (HSY.out _ (Below.refl _ _)).2 HIN.out HF64.out F HFE.out _ _ _).mono ?_; rintro e w6 ⟨rfl, hb6⟩; rw [S1.out, S2.out]; have HBe := Lib.hid hb6; clear x0 x1 x2 x3 x4 y0 y1 y2 y3; obtain ⟨⟨x0, x1, x2, x3, x4⟩, y0, y1, y2, y3⟩ := KY.out _ HBe.out; clear hb6))
                go_ret
                exact ⟨rfl, HB1.out.trans ((bel_thenD HBY.out (Nat.le_refl _) HBe.out).mono HB1.out.size)⟩
          · have u1 : decide (p < k1) = false := by simp; omega
            have u2 : (p == k1) = false := by simp; omega
            by_cases g : 0 ≤ s
            · have u3 : decide (0 ≤ s) = true := by simpa using g
              clear d6
              go_wp2_with (first
                | (go_at_call 10; refine (CSL _ _ c vs i1 i2 i3 j1 j2 j3 HF.out (HSY.out _ HBe.out).1 (HSY.out _ HBe.out).2 HIN.out HF64.out F HFE.out _ _ _).mono ?_; rintro e w8 ⟨rfl, hb6⟩; rw [S3.out, S4.out]; have HBe := Lib.hid (bel_thenD HBe.out (Nat.le_refl _) hb6); clear x0 x1 x2 x3 x4 y0 y1 y2 y3; obtain ⟨⟨x0, x1, x2, x3, x4⟩, y0, y1, y2, y3⟩ := KY.out _ HBe.out; clear hb6)
                | (go_at_call 10; refine (CSL _ _ c vs i1 i2 i3 j1 j2 j3 HF.out (HSY.out _ (Below.refl _ _)).1 (HSY.out _ (Below.refl _ _)).2 HIN.out HF64.out F HFE.out _ _ _).mono ?_; rintro e w6 ⟨rfl, hb6⟩; rw [S1.out, S2.out]; have HBe := Lib.hid hb6; clear x0 x1 x2 x3 x4 y0 y1 y2 y3; obtain ⟨⟨x0, x1, x2, x3, x4⟩, y0, y1, y2, y3⟩ := KY.out _ HBe.out; clear hb6))
              go_ret
              exact ⟨rfl, HB1.out.trans ((bel_thenD HBY.out (Nat.le_refl _) HBe.out).mono HB1.out.size)⟩
            · have u3 : decide (0 ≤ s) = false := by simpa using g
              clear d6
              go_wp2_with (first
                | (go_at_call 10; refine (CSL _ _ c vs i1 i2 i3 j1 j2 j3 HF.out (HSY.out _ HBe.out).1 (HSY.out _ HBe.out).2 HIN.out HF64.out F HFE.out _ _ _).mono ?_; rintro e w8 ⟨rfl, hb6⟩; rw [S3.out, S4.out]; have HBe := Lib.hid (bel_thenD HBe.out (Nat.le_refl _) hb6); clear x0 x1 x2 x3 x4 y0 y1 y2 y3; obtain ⟨⟨x0, x1, x2, x3, x4⟩, y0, y1, y2, y3⟩ := KY.out _ HBe.out; clear hb6)
                | (go_at_call 10; refine (CSL _ _ c vs i1 i2 i3 j1 j2 j3 HF.out (HSY.out _ (Below.refl _ _)).1 (HSY.out _ (Below.refl _ _)).2 HIN.out HF64.out F HFE.out _ _ _).mono ?_; rintro e w6 ⟨rfl, hb6⟩; rw [S1.out, S2.out]; have HBe := Lib.hid hb6; clear x0 x1 x2 x3 x4 y0 y1 y2 y3; obtain ⟨⟨x0, x1, x2, x3, x4⟩, y0, y1, y2, y3⟩ := KY.out _ HBe.out; clear hb6))
              go_ret
              exact ⟨rfl, HB1.out.trans ((bel_thenD HBY.out (Nat.le_refl _) HBe.out).mono HB1.out.size)⟩
    · by_cases hz : (checkV c).1 = 0
      · have hl : 0 ≤ (allV c).1 := by
          by_cases hl : 0 ≤ (allV c).1
          · exact hl
          · exact absurd ⟨hz, hl⟩ hq
        obtain ⟨k0, k1, k2, k3, j1, t1⟩ : ∃ k0 k1 k2 k3, judgeV c F = (⟨k0, k1, k2, k3⟩, 0) ∧ (k0 == 2) = true := ⟨_, _, _, _, judge_large hz hl, rfl⟩
        have HJC : Hid ((judgeV c F).1.cells = #[.int .i64 k0, .int .i64 k1, .bool k2, .int .i64 k3]) := Lib.hid (by rw [j1]; rfl)
        have HFV : Hid ((judgeV c F).2 = 0) := Lib.hid (by rw [j1])
        clear hz hl j1 hq hFe
        go_enter Try.func3, Try.ntmps3
        go_wp2_with (first
          | (go_at_call 5; rw [← HV.out]; refine CN.out.mono ?_; rintro e w1 ⟨rfl, hb1⟩; rw [HN.out]; have HBa := Lib.hid hb1; obtain ⟨z0, z1, z2, z3, z4⟩ := KS.out _ hb1; clear hb1)
          | (go_at_call 6; refine (knows11_any CJ CSL _).mono ?_; rintro e w2 ⟨rfl, hb2⟩; have HBb := Lib.hid (bel_thenD HBa.out (Nat.le_refl _) hb2); clear z0 z1 z2 z3 z4; obtain ⟨z0, z1, z2, z3, z4⟩ := KS.out _ HBb.out; clear hb2)
          | (go_at_call 7; refine (config_sys HF.out (HS.out.keep (SameIn.of_below HBb.out HSZ.out)) (Nat.le_trans HSZ.out HBb.out.size)).mono ?_; rintro e w3 ⟨vs, i1, i2, i3, j1, j2, j3, rfl, hs3, hb3⟩
             obtain ⟨X, hX⟩ : ∃ X, X = w3.alloc (.cells #[.int .i64 c.frame, .int .i64 c.margin, .slice i1 c.ws.length j1, .slice i2 c.ps.length j2, .slice i3 c.cs.length j3] 33) := ⟨_, rfl⟩
             have HBc := Lib.hid (bel_thenD HBb.out (Nat.le_refl _) hb3)
             have hXX : Below w3.heap.size w3 X := by rw [hX]; exact below1 _ _
             have HBX : Hid (Below V.heap.size V X) := Lib.hid (bel_thenD HBc.out (Nat.le_refl _) hXX)
             have HSX : Hid (∀ W : World, Below X.heap.size X W → SysL W w3.heap.size c vs i1 i2 i3 j1 j2 j3 ∧ w3.heap.size ≤ W.heap.size) := Lib.hid fun W g => And.intro (hs3.keep (SameIn.of_below (bel_thenD hXX (Nat.le_refl _) g) (Nat.le_refl _))) (bel_thenD hXX (Nat.le_refl _) g).size
             have KX : Hid (∀ W : World, Below X.heap.size X W → W.cell? ⟨w3.heap.size, 0, none⟩ = some (.int .i64 c.frame) ∧ W.cell? ⟨w3.heap.size, 1, none⟩ = some (.int .i64 c.margin) ∧ W.cell? ⟨w3.heap.size, 2, none⟩ = some (.slice i1 c.ws.length j1) ∧ W.cell? ⟨w3.heap.size, 3, none⟩ = some (.slice i2 c.ps.length j2) ∧ W.cell? ⟨w3.heap.size, 4, none⟩ = some (.slice i3 c.cs.length j3)) := Lib.hid fun W g => by
               rw [hX] at g
               exact boxK5 _ _ _ _ _ _ _ W g
             obtain ⟨x0, x1, x2, x3, x4⟩ := boxK5 w3 (.int .i64 c.frame) (.int .i64 c.margin) (.slice i1 c.ws.length j1) (.slice i2 c.ps.length j2) (.slice i3 c.cs.length j3) 33 _ (Below.refl _ _)
             have HX := Lib.hid hX
             clear z0 z1 z2 z3 z4 hs3 hb3 hXX hX)
          | (go_at_call 8; rw [← HX.out]; refine (CJ _ _ c vs i1 i2 i3 j1 j2 j3 HF.out (HSX.out _ (Below.refl _ _)).1 (HSX.out _ (Below.refl _ _)).2 HIN.out HF64.out F HFE.out).mono ?_; rintro e w4 ⟨rfl, hb4⟩; rw [HJC.out, HFV.out]
             obtain ⟨Y, hY⟩ : ∃ Y, Y = w4.alloc (.cells #[.int .i64 k0, .int .i64 k1, .bool k2, .int .i64 k3] 36) := ⟨_, rfl⟩
             have hYX : Below X.heap.size X Y := by rw [hY]; exact hb4.alloc hb4.size _
             have HBY : Hid (Below V.heap.size V Y) := Lib.hid (bel_thenD HBX.out (Nat.le_refl _) hYX)
             have HSY : Hid (∀ W : World, Below Y.heap.size Y W → SysL W w3.heap.size c vs i1 i2 i3 j1 j2 j3 ∧ w3.heap.size ≤ W.heap.size) := Lib.hid fun W g => HSX.out W (bel_thenD hYX (Nat.le_refl _) g)
             have hvv : CellsAt Y w4.heap.size 36 [.int .i64 k0, .int .i64 k1, .bool k2, .int .i64 k3] := by rw [hY]; exact heap_alloc_new _ _
             have KY : Hid (∀ W : World, Below Y.heap.size Y W → (W.cell? ⟨w3.heap.size, 0, none⟩ = some (.int .i64 c.frame) ∧ W.cell? ⟨w3.heap.size, 1, none⟩ = some (.int .i64 c.margin) ∧ W.cell? ⟨w3.heap.size, 2, none⟩ = some (.slice i1 c.ws.length j1) ∧ W.cell? ⟨w3.heap.size, 3, none⟩ = some (.slice i2 c.ps.length j2) ∧ W.cell? ⟨w3.heap.size, 4, none⟩ = some (.slice i3 c.cs.length j3)) ∧ W.cell? ⟨w4.heap.size, 0, none⟩ = some (.int .i64 k0) ∧ W.cell? ⟨w4.heap.size, 1, none⟩ = some (.int .i64 k1) ∧ W.cell? ⟨w4.heap.size, 2, none⟩ = some (.bool k2) ∧ W.cell? ⟨w4.heap.size, 3, none⟩ = some (.int .i64 k3)) := Lib.hid fun W g => by
               have g1 := hvv.later g
               exact ⟨KX.out _ (bel_thenD hYX (Nat.le_refl _) g), (g1.cell (j := 0) rfl).1, (g1.cell (j := 1) rfl).1, (g1.cell (j := 2) rfl).1, (g1.cell (j := 3) rfl).1⟩
             have HY := Lib.hid hY
             clear x0 x1 x2 x3 x4
             obtain ⟨⟨x0, x1, x2, x3, x4⟩, y0, y1, y2, y3⟩ : ((w4.alloc (.cells #[.int .i64 k0, .int .i64 k1, .bool k2, .int .i64 k3] 36)).cell? ⟨w3.heap.size, 0, none⟩ = some (.int .i64 c.frame) ∧ (w4.alloc (.cells #[.int .i64 k0, .int .i64 k1, .bool k2, .int .i64 k3] 36)).cell? ⟨w3.heap.size, 1, none⟩ = some (.int .i64 c.margin) ∧ (w4.alloc (.cells #[.int .i64 k0, .int .i64 k1, .bool k2, .int .i64 k3] 36)).cell? ⟨w3.heap.size, 2, none⟩ = some (.slice i1 c.ws.length j1) ∧ (w4.alloc (.cells #[.int .i64 k0, .int .i64 k1, .bool k2, .int .i64 k3] 36)).cell? ⟨w3.heap.size, 3, none⟩ = some (.slice i2 c.ps.length j2) ∧ (w4.alloc (.cells #[.int .i64 k0, .int .i64 k1, .bool k2, .int .i64 k3] 36)).cell? ⟨w3.heap.size, 4, none⟩ = some (.slice i3 c.cs.length j3)) ∧ (w4.alloc (.cells #[.int .i64 k0, .int .i64 k1, .bool k2, .int .i64 k3] 36)).cell? ⟨w4.heap.size, 0, none⟩ = some (.int .i64 k0) ∧ (w4.alloc (.cells #[.int .i64 k0, .int .i64 k1, .bool k2, .int .i64 k3] 36)).cell? ⟨w4.heap.size, 1, none⟩ = some (.int .i64 k1) ∧ (w4.alloc (.cells #[.int .i64 k0, .int .i64 k1, .bool k2, .int .i64 k3] 36)).cell? ⟨w4.heap.size, 2, none⟩ = some (.bool k2) ∧ (w4.alloc (.cells #[.int .i64 k0, .int .i64 k1, .bool k2, .int .i64 k3] 36)).cell? ⟨w4.heap.size, 3, none⟩ = some (.int .i64 k3) := by rw [← hY]; exact KY.out _ (Below.refl _ _)
             clear hb4 hYX hY hvv)
          | (go_at_call 9; refine (num11_any _ _).mono ?_; rintro e w9 ⟨rfl, rfl⟩))
        go_ret
        refine ⟨rfl, ?_⟩
        rw [← HY.out]
        exact HB1.out.trans (HBY.out.mono HB1.out.size)
      · obtain ⟨k0, k1, k2, k3, je, j1, t1, t2⟩ : ∃ k0 k1 k2 k3 je, judgeV c F = (⟨k0, k1, k2, k3⟩, je) ∧ (je != 0) = true ∧ (je == 0) = false := ⟨_, _, _, _, _, judge_wrong hz, by simpa using hz, by simpa using hz⟩
        have HJC : Hid ((judgeV c F).1.cells = #[.int .i64 k0, .int .i64 k1, .bool k2, .int .i64 k3]) := Lib.hid (by rw [j1]; rfl)
        have HFV : Hid ((judgeV c F).2 = je) := Lib.hid (by rw [j1])
        clear hz j1 hq hFe
        go_enter Try.func3, Try.ntmps3
        go_wp2_with (first
          | (go_at_call 5; rw [← HV.out]; refine CN.out.mono ?_; rintro e w1 ⟨rfl, hb1⟩; rw [HN.out]; have HBa := Lib.hid hb1; obtain ⟨z0, z1, z2, z3, z4⟩ := KS.out _ hb1; clear hb1)
          | (go_at_call 6; refine (knows11_any CJ CSL _).mono ?_; rintro e w2 ⟨rfl, hb2⟩; have HBb := Lib.hid (bel_thenD HBa.out (Nat.le_refl _) hb2); clear z0 z1 z2 z3 z4; obtain ⟨z0, z1, z2, z3, z4⟩ := KS.out _ HBb.out; clear hb2)
          | (go_at_call 7; refine (config_sys HF.out (HS.out.keep (SameIn.of_below HBb.out HSZ.out)) (Nat.le_trans HSZ.out HBb.out.size)).mono ?_; rintro e w3 ⟨vs, i1, i2, i3, j1, j2, j3, rfl, hs3, hb3⟩
             obtain ⟨X, hX⟩ : ∃ X, X = w3.alloc (.cells #[.int .i64 c.frame, .int .i64 c.margin, .slice i1 c.ws.length j1, .slice i2 c.ps.length j2, .slice i3 c.cs.length j3] 33) := ⟨_, rfl⟩
             have HBc := Lib.hid (bel_thenD HBb.out (Nat.le_refl _) hb3)
             have hXX : Below w3.heap.size w3 X := by rw [hX]; exact below1 _ _
             have HBX : Hid (Below V.heap.size V X) := Lib.hid (bel_thenD HBc.out (Nat.le_refl _) hXX)
             have HSX : Hid (∀ W : World, Below X.heap.size X W → SysL W w3.heap.size c vs i1 i2 i3 j1 j2 j3 ∧ w3.heap.size ≤ W.heap.size) := Lib.hid fun W g => And.intro (hs3.keep (SameIn.of_below (bel_thenD hXX (Nat.le_refl _) g) (Nat.le_refl _))) (bel_thenD hXX (Nat.le_refl _) g).size
             have KX : Hid (∀ W : World, Below X.heap.size X W → W.cell? ⟨w3.heap.size, 0, none⟩ = some (.int .i64 c.frame) ∧ W.cell? ⟨w3.heap.size, 1, none⟩ = some (.int .i64 c.margin) ∧ W.cell? ⟨w3.heap.size, 2, none⟩ = some (.slice i1 c.ws.length j1) ∧ W.cell? ⟨w3.heap.size, 3, none⟩ = some (.slice i2 c.ps.length j2) ∧ W.cell? ⟨w3.heap.size, 4, none⟩ = some (.slice i3 c.cs.length j3)) := Lib.hid fun W g => by
               rw [hX] at g
               exact boxK5 _ _ _ _ _ _ _ W g
             obtain ⟨x0, x1, x2, x3, x4⟩ := boxK5 w3 (.int .i64 c.frame) (.int .i64 c.margin) (.slice i1 c.ws.length j1) (.slice i2 c.ps.length j2) (.slice i3 c.cs.length j3) 33 _ (Below.refl _ _)
             have HX := Lib.hid hX
             clear z0 z1 z2 z3 z4 hs3 hb3 hXX hX)
          | (go_at_call 8; rw [← HX.out]; refine (CJ _ _ c vs i1 i2 i3 j1 j2 j3 HF.out (HSX.out _ (Below.refl _ _)).1 (HSX.out _ (Below.refl _ _)).2 HIN.out HF64.out F HFE.out).mono ?_; rintro e w4 ⟨rfl, hb4⟩; rw [HJC.out, HFV.out]
             obtain ⟨Y, hY⟩ : ∃ Y, Y = w4.alloc (.cells #[.int .i64 k0, .int .i64 k1, .bool k2, .int .i64 k3] 36) := ⟨_, rfl⟩
             have hYX : Below X.heap.size X Y := by rw [hY]; exact hb4.alloc hb4.size _
             have HBY : Hid (Below V.heap.size V Y) := Lib.hid (bel_thenD HBX.out (Nat.le_refl _) hYX)
             have HSY : Hid (∀ W : World, Below Y.heap.size Y W → SysL W w3.heap.size c vs i1 i2 i3 j1 j2 j3 ∧ w3.heap.size ≤ W.heap.size) := Lib.hid fun W g => HSX.out W (bel_thenD hYX (Nat.le_refl _) g)
             have hvv : CellsAt Y w4.heap.size 36 [.int .i64 k0, .int .i64 k1, .bool k2, .int .i64 k3] := by rw [hY]; exact heap_alloc_new _ _
             have KY : Hid (∀ W : World, Below Y.heap.size Y W → (W.cell? ⟨w3.heap.size, 0, none⟩ = some (.int .i64 c.frame) ∧ W.cell? ⟨w3.heap.size, 1, none⟩ = some (.int .i64 c.margin) ∧ W.cell? ⟨w3.heap.size, 2, none⟩ = some (.slice i1 c.ws.length j1) ∧ W.cell? ⟨w3.heap.size, 3, none⟩ = some (.slice i2 c.ps.length j2) ∧ W.cell? ⟨w3.heap.size, 4, none⟩ = some (.slice i3 c.cs.length j3)) ∧ W.cell? ⟨w4.heap.size, 0, none⟩ = some (.int .i64 k0) ∧ W.cell? ⟨w4.heap.size, 1, none⟩ = some (.int .i64 k1) ∧ W.cell? ⟨w4.heap.size, 2, none⟩ = some (.bool k2) ∧ W.cell? ⟨w4.heap.size, 3, none⟩ = some (.int .i64 k3)) := Lib.hid fun W g => by
               have g1 := hvv.later g
               exact ⟨KX.out _ (bel_thenD hYX (Nat.le_refl _) g), (g1.cell (j := 0) rfl).1, (g1.cell (j := 1) rfl).1, (g1.cell (j := 2) rfl).1, (g1.cell (j := 3) rfl).1⟩
             have HY := Lib.hid hY
             clear x0 x1 x2 x3 x4
             obtain ⟨⟨x0, x1, x2, x3, x4⟩, y0, y1, y2, y3⟩ : ((w4.alloc (.cells #[.int .i64 k0, .int .i64 k1, .bool k2, .int .i64 k3] 36)).cell? ⟨w3.heap.size, 0, none⟩ = some (.int .i64 c.frame) ∧ (w4.alloc (.cells #[.int .i64 k0, .int .i64 k1, .bool k2, .int .i64 k3] 36)).cell? ⟨w3.heap.size, 1, none⟩ = some (.int .i64 c.margin) ∧ (w4.alloc (.cells #[.int .i64 k0, .int .i64 k1, .bool k2, .int .i64 k3] 36)).cell? ⟨w3.heap.size, 2, none⟩ = some (.slice i1 c.ws.length j1) ∧ (w4.alloc (.cells #[.int .i64 k0, .int .i64 k1, .bool k2, .int .i64 k3] 36)).cell? ⟨w3.heap.size, 3, none⟩ = some (.slice i2 c.ps.length j2) ∧ (w4.alloc (.cells #[.int .i64 k0, .int .i64 k1, .bool k2, .int .i64 k3] 36)).cell? ⟨w3.heap.size, 4, none⟩ = some (.slice i3 c.cs.length j3)) ∧ (w4.alloc (.cells #[.int .i64 k0, .int .i64 k1, .bool k2, .int .i64 k3] 36)).cell? ⟨w4.heap.size, 0, none⟩ = some (.int .i64 k0) ∧ (w4.alloc (.cells #[.int .i64 k0, .int .i64 k1, .bool k2, .int .i64 k3] 36)).cell? ⟨w4.heap.size, 1, none⟩ = some (.int .i64 k1) ∧ (w4.alloc (.cells #[.int .i64 k0, .int .i64 k1, .bool k2, .int .i64 k3] 36)).cell? ⟨w4.heap.size, 2, none⟩ = some (.bool k2) ∧ (w4.alloc (.cells #[.int .i64 k0, .int .i64 k1, .bool k2, .int .i64 k3] 36)).cell? ⟨w4.heap.size, 3, none⟩ = some (.int .i64 k3) := by rw [← hY]; exact KY.out _ (Below.refl _ _)
             clear hb4 hYX hY hvv)
          | (go_at_call 9; refine (num11_any _ _).mono ?_; rintro e w9 ⟨rfl, rfl⟩))
        go_ret
        refine ⟨rfl, ?_⟩
        rw [← HY.out]
        exact HB1.out.trans (HBY.out.mono HB1.out.size)
theorem AdmitJust_body : type_of% (AdmitJust_of judgeOk slackOk) := AdmitJust_of judgeOk slackOk
end Go.Proofs.Ytdbbdlobahalkaa
