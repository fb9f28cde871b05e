/- The walk of the statement on phases and slack, of a program whose verdicts are as they are asked to be. -/
import Derived.Test.YtdbbdlobahalkaaGreatLawElevenA
import Derived.Test.YtdbbdlobahalkaaGreatAdmitProg
import Derived.Test.YtdbbdlobahalkaaGreatAdmitRef
import Derived.Test.YtdbbdlobahalkaaGreatRead
namespace Go.Proofs.YtdbbdlobahalkaaGreat
open Go.ChangeShapes Go.WideShapes Go.ChangeAt Go.RowKit
set_option linter.unusedVariables false

set_option maxRecDepth 100000 in
set_option maxHeartbeats 4000000 in
theorem AdmitPhases_of (CJ : JudgeOk) (CSL : SlackOk) (CPH : PhaseOk) (wa pa ca : Option Addr) (wc pc cc : Nat) (p t : Int) (high : Bool) (w : World) (c : Cf) (pvs : List Pv) (h : SysL w w.heap.size c pvs wa pa ca wc pc cc) (hin : c.In) :
    Calls Tryz.prog 4 #[.agg #[.int .i64 c.frame, .int .i64 c.margin, .slice wa c.ws.length wc, .slice pa c.ps.length pc, .slice ca c.cs.length cc], .int .i64 p, .int .i64 t, .bool high] w fun e w' => e = .returned (.bool true) ∧ Below w.heap.size w w' := by
  obtain ⟨V, hV⟩ : ∃ V, V = w.alloc (.cells #[.int .i64 c.frame, .int .i64 c.margin, .slice wa c.ws.length wc, .slice pa c.ps.length pc, .slice ca c.cs.length cc] 26) := ⟨_, rfl⟩
  have hB1 : Below w.heap.size w V := by rw [hV]; exact below1 _ _
  have ks : ∀ W : World, Below V.heap.size V W → W.cell? ⟨w.heap.size, 0, none⟩ = some (.int .i64 c.frame) ∧ W.cell? ⟨w.heap.size, 1, none⟩ = some (.int .i64 c.margin) ∧ W.cell? ⟨w.heap.size, 2, none⟩ = some (.slice wa c.ws.length wc) ∧ W.cell? ⟨w.heap.size, 3, none⟩ = some (.slice pa c.ps.length pc) ∧ W.cell? ⟨w.heap.size, 4, none⟩ = some (.slice ca c.cs.length cc) := fun W g => by
    rw [hV] at g
    exact boxK5 _ _ _ _ _ _ _ W g
  have SV : SysL V w.heap.size c pvs wa pa ca wc pc cc := h.keep (SameIn.of_below hB1 (Nat.le_refl _))
  have CN := Lib.hid (near_sys hin.1 SV hB1.size)
  have HF64 := Lib.hid hin.1; have HIN := Lib.hid hin.2.2.1
  have hFe : ∃ F : Nat, (checkV c).1 = 0 → c.frame = (F : Int) := by
    by_cases hz : (checkV c).1 = 0
    · obtain ⟨F, hF⟩ := frame_nat hz; exact ⟨F, fun _ => hF⟩
    · exact ⟨0, fun g => absurd g hz⟩
  obtain ⟨F, hFe⟩ := hFe
  have HFE := Lib.hid hFe
  have KS := Lib.hid ks; have HB1 := Lib.hid hB1; have HS := Lib.hid SV; have HV := Lib.hid hV; have HSZ := Lib.hid hB1.size
  clear ks hB1 SV hV h hin hFe
  cases hn : nearB c with
  | false =>
    have HN := Lib.hid hn; clear hn
    go_enter Tryz.func4, Tryz.ntmps4
    go_wp2_with (first
      | (go_at_call 6; rw [← HV.out]; refine CN.out.mono ?_; rintro e w1 ⟨rfl, hb1⟩; rw [HN.out])
      | (go_at_call 7; refine (knows11_any CJ CSL _).mono ?_; rintro e w2 ⟨rfl, hb2⟩))
    go_ret
    exact ⟨rfl, HB1.out.trans ((bel_thenD hb1 (Nat.le_refl _) hb2).mono HB1.out.size)⟩
  | true =>
    have hli : lightB c = true := by unfold nearB at hn; rw [Bool.and_eq_true] at hn; exact hn.1
    have HF := Lib.hid (light_bounds hli)
    have HN := Lib.hid hn; clear hn hli
    obtain ⟨a1, ha1⟩ : ∃ a, a = (phaseT c F p high).1 := ⟨_, rfl⟩
    obtain ⟨a2, ha2⟩ : ∃ a, a = (phaseT c F p high).2 := ⟨_, rfl⟩
    obtain ⟨a3, ha3⟩ : ∃ a, a = (slackT c F p t high).1 := ⟨_, rfl⟩
    obtain ⟨a4, ha4⟩ : ∃ a, a = (slackT c F p t high).2 := ⟨_, rfl⟩
    have A1 := Lib.hid ha1; have A2 := Lib.hid ha2; have A3 := Lib.hid ha3; have A4 := Lib.hid ha4
    clear ha1 ha2 ha3 ha4
    go_enter Tryz.func4, Tryz.ntmps4
    go_wp2_with (first
      | (go_at_call 6; rw [← HV.out]; refine CN.out.mono ?_; rintro e w1 ⟨rfl, hb1⟩; rw [HN.out]; have HBa := Lib.hid hb1; obtain ⟨z0, z1, z2, z3, z4⟩ := KS.out _ hb1; clear hb1)
      | (go_at_call 9; refine (config_sys HF.out (HS.out.keep (SameIn.of_below HBa.out HSZ.out)) (Nat.le_trans HSZ.out HBa.out.size)).mono ?_; rintro e w2 ⟨vs, i1, i2, i3, j1, j2, j3, rfl, hs2, hb2⟩; have HS2 := Lib.hid hs2; have HBa := Lib.hid (bel_thenD HBa.out (Nat.le_refl _) hb2); clear hs2 hb2)
      | (go_at_call 13; refine (CPH _ _ c vs i1 i2 i3 j1 j2 j3 HF.out HS2.out (Nat.le_refl _) HIN.out HF64.out F HFE.out p high).mono ?_; rintro e w3 ⟨rfl, hb3⟩; rw [← A1.out, ← A2.out]; have HBa := Lib.hid (bel_thenD HBa.out (Nat.le_refl _) hb3); clear z0 z1 z2 z3 z4 hb3; obtain ⟨z0, z1, z2, z3, z4⟩ := KS.out _ HBa.out)
      | (go_at_call 14; refine (rPhase_sys HF.out (HS.out.keep (SameIn.of_below HBa.out HSZ.out)) (Nat.le_trans HSZ.out HBa.out.size) HIN.out HF64.out F HFE.out p high).mono ?_; rintro e w4 ⟨rfl, hb4⟩; rw [← A1.out, ← A2.out]; have HBa := Lib.hid (bel_thenD HBa.out (Nat.le_refl _) hb4); clear z0 z1 z2 z3 z4 hb4; obtain ⟨z0, z1, z2, z3, z4⟩ := KS.out _ HBa.out)
      | (go_at_call 15; refine (CSL _ _ c vs i1 i2 i3 j1 j2 j3 HF.out HS2.out (Nat.le_refl _) HIN.out HF64.out F HFE.out p t high).mono ?_; rintro e w5 ⟨rfl, hb5⟩; rw [← A3.out, ← A4.out]; have HBa := Lib.hid (bel_thenD HBa.out (Nat.le_refl _) hb5); clear z0 z1 z2 z3 z4 hb5; obtain ⟨z0, z1, z2, z3, z4⟩ := KS.out _ HBa.out)
      | (go_at_call 16; refine (rSlack_sys HF.out (HS.out.keep (SameIn.of_below HBa.out HSZ.out)) (Nat.le_trans HSZ.out HBa.out.size) HIN.out F HFE.out p t high).mono ?_; rintro e w6 ⟨rfl, hb6⟩; rw [← A3.out, ← A4.out]; have HBa := Lib.hid (bel_thenD HBa.out (Nat.le_refl _) hb6); clear z0 z1 z2 z3 z4 hb6; obtain ⟨z0, z1, z2, z3, z4⟩ := KS.out _ HBa.out)
      | (go_at_call 7; refine (knows11_any CJ CSL _).mono ?_; rintro e w7 ⟨rfl, hb7⟩; have HBa := Lib.hid (bel_thenD HBa.out (Nat.le_refl _) hb7); clear hb7))
    go_ret
    exact ⟨rfl, HB1.out.trans (HBa.out.mono HB1.out.size)⟩
theorem AdmitPhases_body : type_of% (AdmitPhases_of judgeOk slackOk phaseOk) := AdmitPhases_of judgeOk slackOk phaseOk
end Go.Proofs.YtdbbdlobahalkaaGreat
