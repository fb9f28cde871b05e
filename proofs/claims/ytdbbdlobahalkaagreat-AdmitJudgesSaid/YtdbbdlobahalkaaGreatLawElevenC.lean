/- The walk of the statement on verdicts, of a program whose verdicts are as they are asked to be. -/
import Derived.Test.YtdbbdlobahalkaaGreatLawElevenA
import Derived.Test.YtdbbdlobahalkaaGreatAdmitProg
import Derived.Test.YtdbbdlobahalkaaGreatAdmitRef
import Derived.Test.YtdbbdlobahalkaaGreatHand
import Derived.Test.YtdbbdlobahalkaaGreatRead
namespace Go.Proofs.YtdbbdlobahalkaaGreat
open Go.ChangeShapes Go.WideShapes Go.ChangeAt Go.RowKit
set_option linter.unusedVariables false

set_option maxRecDepth 100000 in
set_option maxHeartbeats 8000000 in
theorem AdmitJudges_of (CJ : JudgeOk) (CSL : SlackOk) (CH : HoldsOk) (wa pa ca : Option Addr) (wc pc cc : Nat) (a0 a1 : Int) (a2 : Bool) (a3 : Int) (w : World) (c : Cf) (pvs : List Pv) (h : SysL w w.heap.size c pvs wa pa ca wc pc cc) (hin : c.In) :
    Calls Tryz.prog 3 #[.agg #[.int .i64 c.frame, .int .i64 c.margin, .slice wa c.ws.length wc, .slice pa c.ps.length pc, .slice ca c.cs.length cc], .agg #[.int .i64 a0, .int .i64 a1, .bool a2, .int .i64 a3]] w fun e w' => e = .returned (.bool true) ∧ Below w.heap.size w w' := by
  obtain ⟨V, hV⟩ : ∃ V, V = (w.alloc (.cells #[.int .i64 c.frame, .int .i64 c.margin, .slice wa c.ws.length wc, .slice pa c.ps.length pc, .slice ca c.cs.length cc] 26)).alloc (.cells #[.int .i64 a0, .int .i64 a1, .bool a2, .int .i64 a3] 28) := ⟨_, rfl⟩
  have hbb : Below (w.alloc (.cells #[.int .i64 c.frame, .int .i64 c.margin, .slice wa c.ws.length wc, .slice pa c.ps.length pc, .slice ca c.cs.length cc] 26)).heap.size (w.alloc (.cells #[.int .i64 c.frame, .int .i64 c.margin, .slice wa c.ws.length wc, .slice pa c.ps.length pc, .slice ca c.cs.length cc] 26)) V := by rw [hV]; exact below1 _ _
  have hB1 : Below w.heap.size w V := bel_thenD (below1 _ _) (Nat.le_refl _) hbb
  have hcv : CellsAt V (w.heap.size + 1) 28 [.int .i64 a0, .int .i64 a1, .bool a2, .int .i64 a3] := by rw [hV]; exact heap_alloc2_new _ _ _
  have ks : ∀ W : World, Below V.heap.size V W → (W.cell? ⟨w.heap.size, 0, none⟩ = some (.int .i64 c.frame) ∧ W.cell? ⟨w.heap.size, 1, none⟩ = some (.int .i64 c.margin) ∧ W.cell? ⟨w.heap.size, 2, none⟩ = some (.slice wa c.ws.length wc) ∧ W.cell? ⟨w.heap.size, 3, none⟩ = some (.slice pa c.ps.length pc) ∧ W.cell? ⟨w.heap.size, 4, none⟩ = some (.slice ca c.cs.length cc)) ∧ W.cell? ⟨w.heap.size + 1, 0, none⟩ = some (.int .i64 a0) ∧ W.cell? ⟨w.heap.size + 1, 1, none⟩ = some (.int .i64 a1) ∧ W.cell? ⟨w.heap.size + 1, 2, none⟩ = some (.bool a2) ∧ W.cell? ⟨w.heap.size + 1, 3, none⟩ = some (.int .i64 a3) := fun W g => by
    have g1 := hcv.later g
    exact ⟨boxK5 _ _ _ _ _ _ _ W (bel_thenD hbb (Nat.le_refl _) g), (g1.cell (j := 0) rfl).1, (g1.cell (j := 1) rfl).1, (g1.cell (j := 2) rfl).1, (g1.cell (j := 3) rfl).1⟩
  have SV : SysL V w.heap.size c pvs wa pa ca wc pc cc := h.keep (SameIn.of_below hB1 (Nat.le_refl _))
  have CN := Lib.hid (near_sys hin.1 SV hB1.size)
  have HF64 := Lib.hid hin.1; have HIN := Lib.hid hin.2.2.1
  have hFe : ∃ F : Nat, (checkV c).1 = 0 → c.frame = (F : Int) := by
    by_cases hz : (checkV c).1 = 0
    · obtain ⟨F, hF⟩ := frame_nat hz; exact ⟨F, fun _ => hF⟩
    · exact ⟨0, fun g => absurd g hz⟩
  obtain ⟨F, hFe⟩ := hFe
  have HFE := Lib.hid hFe
  have KS := Lib.hid ks; have HB1 := Lib.hid hB1; have HS := Lib.hid SV; have HV := Lib.hid hV; have HSZ := Lib.hid hB1.size
  clear ks hB1 SV hV h hin hFe hbb hcv
  cases hn : nearB c with
  | false =>
    have HN := Lib.hid hn; clear hn
    go_enter Tryz.func3, Tryz.ntmps3
    go_wp2_with (first
      | (go_at_call 6; rw [← HV.out]; refine CN.out.mono ?_; rintro e w1 ⟨rfl, hb1⟩; rw [HN.out])
      | (go_at_call 7; refine (knows11_any CJ CSL _).mono ?_; rintro e w2 ⟨rfl, hb2⟩))
    go_ret
    exact ⟨rfl, HB1.out.trans ((bel_thenD hb1 (Nat.le_refl _) hb2).mono HB1.out.size)⟩
  | true =>
    have hli : lightB c = true := by unfold nearB at hn; rw [Bool.and_eq_true] at hn; exact hn.1
    have HF := Lib.hid (light_bounds hli)
    have HN := Lib.hid hn; clear hn hli
    obtain ⟨v0, hv0⟩ : ∃ v, v = (judgeV c F).1 := ⟨_, rfl⟩
    have hjc : (judgeV c F).1.cells = v0.cells := by rw [hv0]
    by_cases hf : (judgeV c F).2 = 0
    · have HFV : Hid ((judgeV c F).2 = 0) := Lib.hid hf
      have HV1 : Hid (((judgeV c F).2 == 0 && eqVd v0 (judgeV c F).1) = true) := Lib.hid (by rw [hf, ← hv0, eqVd_refl]; rfl)
      obtain ⟨b, hb⟩ : ∃ b, b = eqVd ⟨a0, a1, a2, a3⟩ v0 := ⟨_, rfl⟩
      have HV2 : Hid (((judgeV c F).2 == 0 && eqVd ⟨a0, a1, a2, a3⟩ (judgeV c F).1) = b) := Lib.hid (by rw [hf, ← hv0, ← hb]; rfl)
      clear hv0 hf
      obtain ⟨k0, k1, k2, k3⟩ := v0
      have HJC : Hid ((judgeV c F).1.cells = #[.int .i64 k0, .int .i64 k1, .bool k2, .int .i64 k3]) := Lib.hid hjc
      have HE1 : ∀ W : World, (Op.equalIn 10000 28 (.agg #[.int .i64 k0, .int .i64 k1, .bool k2, .int .i64 k3]) (.agg #[.int .i64 k0, .int .i64 k1, .bool k2, .int .i64 k3])).run Tryz.prog W = .ok true W := fun W => (eqInVd_parcloseref11 k0 k1 k2 k3 k0 k1 k2 k3 W).trans (by rw [eqVd_refl])
      have hM : Tryz.prog.eqGuardType Tryz.prog.depth 28 = false := by kernel_rfl
      have HE2 : ∀ W : World, (Op.equalIn 10000 28 (.agg #[.int .i64 a0, .int .i64 a1, .bool a2, .int .i64 a3]) (.agg #[.int .i64 k0, .int .i64 k1, .bool k2, .int .i64 k3])).run Tryz.prog W = .ok b W := fun W => (eqInVd_parcloseref11 a0 a1 a2 a3 k0 k1 k2 k3 W).trans (by rw [hb])
      clear hjc hb
      go_enter Tryz.func3, Tryz.ntmps3
      go_wp2_with (first
        | (go_at_call 6; rw [← HV.out]; refine CN.out.mono ?_; rintro e w1 ⟨rfl, hb1⟩; rw [HN.out]; have HBa := Lib.hid hb1; obtain ⟨⟨z0, z1, z2, z3, z4⟩, q0, q1, q2, q3⟩ := KS.out _ hb1; clear hb1)
        | (go_at_call 9; refine (config_sys HF.out (HS.out.keep (SameIn.of_below HBa.out HSZ.out)) (Nat.le_trans HSZ.out HBa.out.size)).mono ?_; rintro e w2 ⟨vs, i1, i2, i3, j1, j2, j3, rfl, hs2, hb2⟩; have HS2 := Lib.hid hs2; have HBb := Lib.hid (bel_thenD HBa.out (Nat.le_refl _) hb2); clear hs2 hb2)
        | (go_at_call 8; refine (CJ _ _ c vs i1 i2 i3 j1 j2 j3 HF.out HS2.out (Nat.le_refl _) HIN.out HF64.out F HFE.out).mono ?_; rintro e w3 ⟨rfl, hb3⟩; rw [HJC.out, HFV.out]
           obtain ⟨X3, hX3⟩ : ∃ X, X = w3.alloc (.cells #[.int .i64 k0, .int .i64 k1, .bool k2, .int .i64 k3] 31) := ⟨_, rfl⟩
           have HBc := Lib.hid (bel_thenD HBb.out (Nat.le_refl _) hb3)
           have HX3 : Hid (Below V.heap.size V X3) := Lib.hid (by rw [hX3]; exact HBc.out.alloc HBc.out.size _)
           have HXV : Hid (CellsAt X3 w3.heap.size 31 [.int .i64 k0, .int .i64 k1, .bool k2, .int .i64 k3]) := Lib.hid (by rw [hX3]; exact heap_alloc_new _ _)
           have HXe := Lib.hid hX3
           clear z0 z1 z2 z3 z4 q0 q1 q2 q3
           obtain ⟨⟨z0, z1, z2, z3, z4⟩, q0, q1, q2, q3⟩ := KS.out _ (HBc.out.alloc HBc.out.size (.cells #[.int .i64 k0, .int .i64 k1, .bool k2, .int .i64 k3] 31))
           clear hX3 hb3)
        | (go_at_call 10; rw [← HXe.out]; refine (rJudge_sys HF.out (HS.out.keep (SameIn.of_below HX3.out HSZ.out)) (Nat.le_trans HSZ.out HX3.out.size) HIN.out HF64.out F HFE.out).mono ?_; rintro e w4 ⟨rfl, hb4⟩; rw [HJC.out, HFV.out]
           obtain ⟨X4, hX4⟩ : ∃ X, X = w4.alloc (.cells #[.int .i64 k0, .int .i64 k1, .bool k2, .int .i64 k3] 28) := ⟨_, rfl⟩
           have HBd := Lib.hid (bel_thenD HX3.out (Nat.le_refl _) hb4)
           have HX4 : Hid (Below V.heap.size V X4) := Lib.hid (by rw [hX4]; exact HBd.out.alloc HBd.out.size _)
           have hxx : CellsAt X4 w4.heap.size 28 [.int .i64 k0, .int .i64 k1, .bool k2, .int .i64 k3] := by rw [hX4]; exact heap_alloc_new _ _
           have hxv : CellsAt X4 w3.heap.size 31 [.int .i64 k0, .int .i64 k1, .bool k2, .int .i64 k3] := by rw [hX4]; exact (HXV.out.later hb4).later (below1 _ _)
           have KT : Hid (∀ W : World, Below X4.heap.size X4 W → Below X4.heap.size X4 W ∧ W.cell? ⟨w.heap.size, 0, none⟩ = some (.int .i64 c.frame) ∧ W.cell? ⟨w.heap.size, 1, none⟩ = some (.int .i64 c.margin) ∧ W.cell? ⟨w.heap.size, 2, none⟩ = some (.slice wa c.ws.length wc) ∧ W.cell? ⟨w.heap.size, 3, none⟩ = some (.slice pa c.ps.length pc) ∧ W.cell? ⟨w.heap.size, 4, none⟩ = some (.slice ca c.cs.length cc) ∧ W.cell? ⟨w.heap.size + 1, 0, none⟩ = some (.int .i64 a0) ∧ W.cell? ⟨w.heap.size + 1, 1, none⟩ = some (.int .i64 a1) ∧ W.cell? ⟨w.heap.size + 1, 2, none⟩ = some (.bool a2) ∧ W.cell? ⟨w.heap.size + 1, 3, none⟩ = some (.int .i64 a3) ∧ W.cell? ⟨w3.heap.size, 0, none⟩ = some (.int .i64 k0) ∧ W.cell? ⟨w3.heap.size, 1, none⟩ = some (.int .i64 k1) ∧ W.cell? ⟨w3.heap.size, 2, none⟩ = some (.bool k2) ∧ W.cell? ⟨w3.heap.size, 3, none⟩ = some (.int .i64 k3) ∧ W.cell? ⟨w4.heap.size, 0, none⟩ = some (.int .i64 k0) ∧ W.cell? ⟨w4.heap.size, 1, none⟩ = some (.int .i64 k1) ∧ W.cell? ⟨w4.heap.size, 2, none⟩ = some (.bool k2) ∧ W.cell? ⟨w4.heap.size, 3, none⟩ = some (.int .i64 k3)) := Lib.hid fun W g => by
             obtain ⟨⟨z0, z1, z2, z3, z4⟩, q0, q1, q2, q3⟩ := KS.out _ (bel_thenD HX4.out (Nat.le_refl _) g)
             have g1 := hxv.later g
             have g2 := hxx.later g
             exact ⟨g, z0, z1, z2, z3, z4, q0, q1, q2, q3, (g1.cell (j := 0) rfl).1, (g1.cell (j := 1) rfl).1, (g1.cell (j := 2) rfl).1, (g1.cell (j := 3) rfl).1, (g2.cell (j := 0) rfl).1, (g2.cell (j := 1) rfl).1, (g2.cell (j := 2) rfl).1, (g2.cell (j := 3) rfl).1⟩
           have HXf := Lib.hid hX4
           clear z0 z1 z2 z3 z4 q0 q1 q2 q3 hX4 hb4 hxx hxv))
      rw [← HXf.out]
      refine wp_region_held_drew (S := (fun W => Below X4.heap.size X4 W ∧ W.cell? ⟨w.heap.size, 0, none⟩ = some (.int .i64 c.frame) ∧ W.cell? ⟨w.heap.size, 1, none⟩ = some (.int .i64 c.margin) ∧ W.cell? ⟨w.heap.size, 2, none⟩ = some (.slice wa c.ws.length wc) ∧ W.cell? ⟨w.heap.size, 3, none⟩ = some (.slice pa c.ps.length pc) ∧ W.cell? ⟨w.heap.size, 4, none⟩ = some (.slice ca c.cs.length cc) ∧ W.cell? ⟨w.heap.size + 1, 0, none⟩ = some (.int .i64 a0) ∧ W.cell? ⟨w.heap.size + 1, 1, none⟩ = some (.int .i64 a1) ∧ W.cell? ⟨w.heap.size + 1, 2, none⟩ = some (.bool a2) ∧ W.cell? ⟨w.heap.size + 1, 3, none⟩ = some (.int .i64 a3) ∧ W.cell? ⟨w3.heap.size, 0, none⟩ = some (.int .i64 k0) ∧ W.cell? ⟨w3.heap.size, 1, none⟩ = some (.int .i64 k1) ∧ W.cell? ⟨w3.heap.size, 2, none⟩ = some (.bool k2) ∧ W.cell? ⟨w3.heap.size, 3, none⟩ = some (.int .i64 k3) ∧ W.cell? ⟨w4.heap.size, 0, none⟩ = some (.int .i64 k0) ∧ W.cell? ⟨w4.heap.size, 1, none⟩ = some (.int .i64 k1) ∧ W.cell? ⟨w4.heap.size, 2, none⟩ = some (.bool k2) ∧ W.cell? ⟨w4.heap.size, 3, none⟩ = some (.int .i64 k3))) (by kernel_rfl) ?_ (fun hHeld => ?_)
      · exact KT.out _ (by repeat first | exact Below.refl _ _ | assumption | refine Below.drew ?_)
      refine wpAnyH_takeE (i := 0) (d := some 24) (v := ?_) rfl rfl (by kernel_rfl) (by kernel_rfl) (by kernel_rfl) (fun _ _ _ h => h) (Or.inl ⟨by rfl, ?_⟩) (by assumption) ?_
      rotate_left
      · intro w hSw
        (try dsimp only at hSw)
        go_simp
        try (with_reducible rfl)
      simp only [Act.put, List.setIfInBounds_toArray, List.set_cons_zero, List.set_cons_succ]
      refine wpAnyH_takeE (i := 1) (d := some 25) (v := ?_) rfl rfl (by kernel_rfl) (by kernel_rfl) (by kernel_rfl) (fun _ _ _ h => h) (Or.inl ⟨by rfl, ?_⟩) (by assumption) ?_
      rotate_left
      · intro w hSw
        (try dsimp only at hSw)
        go_simp
        try (with_reducible rfl)
      simp only [Act.put, List.setIfInBounds_toArray, List.set_cons_zero, List.set_cons_succ]
      refine wpAnyH_takeE (i := 2) (d := some 26) (v := ?_) rfl rfl (by kernel_rfl) (by kernel_rfl) (by kernel_rfl) (fun _ _ _ h => h) (Or.inl ⟨by rfl, ?_⟩) (by assumption) ?_
      rotate_left
      · intro w hSw
        (try dsimp only at hSw)
        go_simp
        try (with_reducible rfl)
      simp only [Act.put, List.setIfInBounds_toArray, List.set_cons_zero, List.set_cons_succ]
      refine wpAnyH_takeE (i := 3) (d := some 27) (v := ?_) rfl rfl (by kernel_rfl) (by kernel_rfl) (by kernel_rfl) (fun _ _ _ h => h) (Or.inl ⟨by rfl, ?_⟩) (by assumption) ?_
      rotate_left
      · intro w hSw
        (try dsimp only at hSw)
        go_simp
        try (with_reducible rfl)
      simp only [Act.put, List.setIfInBounds_toArray, List.set_cons_zero, List.set_cons_succ]
      refine wpAnyH_takeE (i := 4) (d := some 28) (v := ?_) rfl rfl (by kernel_rfl) (by kernel_rfl) (by kernel_rfl) (fun _ _ _ h => h) (Or.inl ⟨by rfl, ?_⟩) (by assumption) ?_
      rotate_left
      · intro w hSw
        (try dsimp only at hSw)
        go_simp
        try (with_reducible rfl)
      simp only [Act.put, List.setIfInBounds_toArray, List.set_cons_zero, List.set_cons_succ]
      refine wpAnyH_takeE (i := 6) (d := some 30) (v := ?_) rfl rfl (by kernel_rfl) (by kernel_rfl) (by kernel_rfl) (fun _ _ _ h => h) (Or.inl ⟨by rfl, ?_⟩) (by assumption) ?_
      rotate_left
      · intro w hSw
        (try dsimp only at hSw)
        go_simp
        try (with_reducible rfl)
      simp only [Act.put, List.setIfInBounds_toArray, List.set_cons_zero, List.set_cons_succ]
      refine wpAnyH_ready (rs := [5]) (by kernel_rfl) (by simp) ?_
      refine AllReadyH.cons rfl (fun K hK => ?_) AllReadyH.nil
      go_simp
      go_at_call 11
      refine (num11_any _ _).mono ?_
      rintro e w9 ⟨rfl, rfl⟩
      refine hK.out _ _ ?_ (fun hHeld => ?_)
      · first | exact KT.out _ hbn | assumption
      clear hK K
      try simp only [Act.put, List.setIfInBounds_toArray, List.set_cons_zero, List.set_cons_succ]
      refine wpAnyH_takeE (i := 7) (d := some 31) (v := ?_) rfl rfl (by kernel_rfl) (by kernel_rfl) (by kernel_rfl) (fun _ _ _ h => h) (Or.inl ⟨by rfl, ?_⟩) (by assumption) ?_
      rotate_left
      · intro w hSw
        (try dsimp only at hSw)
        go_simp
        try (with_reducible rfl)
      simp only [Act.put, List.setIfInBounds_toArray, List.set_cons_zero, List.set_cons_succ]
      refine wpAnyH_takeE (i := 8) (d := some 32) (v := ?_) rfl rfl (by kernel_rfl) (by kernel_rfl) (by kernel_rfl) (fun _ _ _ h => h) (Or.inl ⟨by rfl, ?_⟩) (by assumption) ?_
      rotate_left
      · intro w hSw
        (try dsimp only at hSw)
        go_simp
        try (with_reducible rfl)
      simp only [Act.put, List.setIfInBounds_toArray, List.set_cons_zero, List.set_cons_succ]
      refine wpAnyH_takeE (i := 9) (d := some 33) (v := ?_) rfl rfl (by kernel_rfl) (by kernel_rfl) (by kernel_rfl) (fun _ _ _ h => h) (Or.inl ⟨by rfl, ?_⟩) (by assumption) ?_
      rotate_left
      · intro w hSw
        (try dsimp only at hSw)
        go_simp
        try (with_reducible rfl)
      simp only [Act.put, List.setIfInBounds_toArray, List.set_cons_zero, List.set_cons_succ]
      refine wpAnyH_takeE (i := 10) (d := some 34) (v := ?_) rfl rfl (by kernel_rfl) (by kernel_rfl) (by kernel_rfl) (fun _ _ _ h => h) (Or.inl ⟨by rfl, ?_⟩) (by assumption) ?_
      rotate_left
      · intro w hSw
        (try dsimp only at hSw)
        go_simp
        try (with_reducible rfl)
      simp only [Act.put, List.setIfInBounds_toArray, List.set_cons_zero, List.set_cons_succ]
      refine wpAnyH_takeE (i := 12) (d := some 36) (v := ?_) rfl rfl (by kernel_rfl) (by kernel_rfl) (by kernel_rfl) (fun _ _ _ h => h) (Or.inl ⟨by rfl, ?_⟩) (by assumption) ?_
      rotate_left
      · intro w hSw
        (try dsimp only at hSw)
        go_simp
        try (with_reducible rfl)
      simp only [Act.put, List.setIfInBounds_toArray, List.set_cons_zero, List.set_cons_succ]
      refine wpAnyH_takeE (i := 14) (d := some 38) (v := ?_) rfl rfl (by kernel_rfl) (by kernel_rfl) (by kernel_rfl) (fun _ _ _ h => h) (Or.inl ⟨by rfl, ?_⟩) (by assumption) ?_
      rotate_left
      · intro w hSw
        (try dsimp only at hSw)
        go_simp
        try (with_reducible rfl)
      simp only [Act.put, List.setIfInBounds_toArray, List.set_cons_zero, List.set_cons_succ]
      refine wpAnyH_takeE (i := 15) (d := some 39) (v := ?_) rfl rfl (by kernel_rfl) (by kernel_rfl) (by kernel_rfl) (fun _ _ _ h => h) (Or.inl ⟨by rfl, ?_⟩) (by assumption) ?_
      rotate_left
      · intro w hSw
        (try dsimp only at hSw)
        go_simp
        try (with_reducible rfl)
      simp only [Act.put, List.setIfInBounds_toArray, List.set_cons_zero, List.set_cons_succ]
      refine wpAnyH_ready (rs := [11]) (by kernel_rfl) (by simp) ?_
      refine AllReadyH.cons rfl (fun K hK => ?_) AllReadyH.nil
      go_simp
      go_at_call 9
      refine (config_sys HF.out (HS.out.keep (SameIn.of_below (bel_thenD HX4.out (Nat.le_refl _) (by go_split_ands; assumption)) HSZ.out)) (Nat.le_trans HSZ.out (bel_thenD HX4.out (Nat.le_refl _) (by go_split_ands; assumption)).size)).mono ?_
      rintro e w5 ⟨vs5, i1, i2, i3, j1, j2, j3, rfl, hs, hb5⟩
      have HS5 := Lib.hid hs
      have hbn : Below X4.heap.size X4 w5 := (by go_split_ands; exact bel_thenD (by assumption) (Nat.le_refl _) hb5)
      clear hs
      refine hK.out _ _ ?_ (fun hHeld => ?_)
      · first | exact KT.out _ hbn | assumption
      clear hK K
      try simp only [Act.put, List.setIfInBounds_toArray, List.set_cons_zero, List.set_cons_succ]
      refine wpAnyH_ready (rs := [13]) (by kernel_rfl) (by simp) ?_
      refine AllReadyH.cons rfl (fun K hK => ?_) AllReadyH.nil
      go_simp
      go_at_call 12
      refine (CH _ _ c vs5 _ _ _ _ _ _ HF.out HS5.out (Nat.le_refl _) HIN.out HF64.out F HFE.out ⟨k0, k1, k2, k3⟩).mono ?_
      rintro e w6 ⟨rfl, hb6⟩
      rw [HV1.out]
      have hbn : Below X4.heap.size X4 w6 := (by go_split_ands; exact bel_thenD (by assumption) (Nat.le_refl _) hb6)
      refine hK.out _ _ ?_ (fun hHeld => ?_)
      · first | exact KT.out _ hbn | assumption
      clear hK K
      try simp only [Act.put, List.setIfInBounds_toArray, List.set_cons_zero, List.set_cons_succ]
      refine wpAnyH_takeE (i := 16) (d := some 40) (v := ?_) rfl rfl (by kernel_rfl) (by kernel_rfl) (by kernel_rfl) (fun _ _ _ h => h) (Or.inl ⟨by rfl, ?_⟩) (by assumption) ?_
      rotate_left
      · intro w hSw
        (try dsimp only at hSw)
        go_simp
        try (with_reducible rfl)
      simp only [Act.put, List.setIfInBounds_toArray, List.set_cons_zero, List.set_cons_succ]
      refine wpAnyH_takeE (i := 17) (d := some 41) (v := ?_) rfl rfl (by kernel_rfl) (by kernel_rfl) (by kernel_rfl) (fun _ _ _ h => h) (Or.inl ⟨by rfl, ?_⟩) (by assumption) ?_
      rotate_left
      · intro w hSw
        (try dsimp only at hSw)
        go_simp
        try (with_reducible rfl)
      simp only [Act.put, List.setIfInBounds_toArray, List.set_cons_zero, List.set_cons_succ]
      refine wpAnyH_takeE (i := 18) (d := some 42) (v := ?_) rfl rfl (by kernel_rfl) (by kernel_rfl) (by kernel_rfl) (fun _ _ _ h => h) (Or.inl ⟨by rfl, ?_⟩) (by assumption) ?_
      rotate_left
      · intro w hSw
        (try dsimp only at hSw)
        go_simp
        try (with_reducible rfl)
      simp only [Act.put, List.setIfInBounds_toArray, List.set_cons_zero, List.set_cons_succ]
      refine wpAnyH_takeE (i := 19) (d := some 43) (v := ?_) rfl rfl (by kernel_rfl) (by kernel_rfl) (by kernel_rfl) (fun _ _ _ h => h) (Or.inl ⟨by rfl, ?_⟩) (by assumption) ?_
      rotate_left
      · intro w hSw
        (try dsimp only at hSw)
        go_simp
        try (with_reducible rfl)
      simp only [Act.put, List.setIfInBounds_toArray, List.set_cons_zero, List.set_cons_succ]
      refine wpAnyH_takeE (i := 21) (d := some 45) (v := ?_) rfl rfl (by kernel_rfl) (by kernel_rfl) (by kernel_rfl) (fun _ _ _ h => h) (Or.inl ⟨by rfl, ?_⟩) (by assumption) ?_
      rotate_left
      · intro w hSw
        (try dsimp only at hSw)
        go_simp
        try (with_reducible rfl)
      simp only [Act.put, List.setIfInBounds_toArray, List.set_cons_zero, List.set_cons_succ]
      refine wpAnyH_takeE (i := 23) (d := some 47) (v := ?_) rfl rfl (by kernel_rfl) (by kernel_rfl) (by kernel_rfl) (fun _ _ _ h => h) (Or.inl ⟨by rfl, ?_⟩) (by assumption) ?_
      rotate_left
      · intro w hSw
        (try dsimp only at hSw)
        go_simp
        try (with_reducible rfl)
      simp only [Act.put, List.setIfInBounds_toArray, List.set_cons_zero, List.set_cons_succ]
      refine wpAnyH_takeE (i := 24) (d := some 48) (v := ?_) rfl rfl (by kernel_rfl) (by kernel_rfl) (by kernel_rfl) (fun _ _ _ h => h) (Or.inl ⟨by rfl, ?_⟩) (by assumption) ?_
      rotate_left
      · intro w hSw
        (try dsimp only at hSw)
        go_simp
        try (with_reducible rfl)
      simp only [Act.put, List.setIfInBounds_toArray, List.set_cons_zero, List.set_cons_succ]
      refine wpAnyH_ready (rs := [20]) (by kernel_rfl) (by simp) ?_
      refine AllReadyH.cons rfl (fun K hK => ?_) AllReadyH.nil
      go_simp
      go_at_call 9
      refine (config_sys HF.out (HS.out.keep (SameIn.of_below (bel_thenD HX4.out (Nat.le_refl _) (by go_split_ands; assumption)) HSZ.out)) (Nat.le_trans HSZ.out (bel_thenD HX4.out (Nat.le_refl _) (by go_split_ands; assumption)).size)).mono ?_
      rintro e w7 ⟨vs7, i1, i2, i3, j1, j2, j3, rfl, hs, hb7⟩
      have HS7 := Lib.hid hs
      have hbn : Below X4.heap.size X4 w7 := (by go_split_ands; exact bel_thenD (by assumption) (Nat.le_refl _) hb7)
      clear hs
      refine hK.out _ _ ?_ (fun hHeld => ?_)
      · first | exact KT.out _ hbn | assumption
      clear hK K
      try simp only [Act.put, List.setIfInBounds_toArray, List.set_cons_zero, List.set_cons_succ]
      refine wpAnyH_ready (rs := [22]) (by kernel_rfl) (by simp) ?_
      refine AllReadyH.cons rfl (fun K hK => ?_) AllReadyH.nil
      go_simp
      go_at_call 12
      refine (CH _ _ c vs7 _ _ _ _ _ _ HF.out HS7.out (Nat.le_refl _) HIN.out HF64.out F HFE.out ⟨a0, a1, a2, a3⟩).mono ?_
      rintro e w8 ⟨rfl, hb8⟩
      rw [HV2.out]
      have hbn : Below X4.heap.size X4 w8 := (by go_split_ands; exact bel_thenD (by assumption) (Nat.le_refl _) hb8)
      refine hK.out _ _ ?_ (fun hHeld => ?_)
      · first | exact KT.out _ hbn | assumption
      clear hK K
      try simp only [Act.put, List.setIfInBounds_toArray, List.set_cons_zero, List.set_cons_succ]
      refine wpAnyH_takeE (i := 25) (d := some 49) (v := ?_) rfl rfl (by kernel_rfl) (by kernel_rfl) (by kernel_rfl) (fun _ _ _ h => h) (Or.inl ⟨by rfl, ?_⟩) (by assumption) ?_
      rotate_left
      · intro w hSw
        (try dsimp only at hSw)
        go_simp
        try (with_reducible rfl)
      simp only [Act.put, List.setIfInBounds_toArray, List.set_cons_zero, List.set_cons_succ]
      refine wpAnyH_takeE (i := 26) (d := some 50) (v := ?_) rfl rfl (by kernel_rfl) (by kernel_rfl) (by kernel_rfl) (fun _ _ _ h => h) (Or.inl ⟨by rfl, ?_⟩) (by assumption) ?_
      rotate_left
      · intro w hSw
        (try dsimp only at hSw)
        go_simp
        try (with_reducible rfl)
      simp only [Act.put, List.setIfInBounds_toArray, List.set_cons_zero, List.set_cons_succ]
      refine wpAnyH_takeE (i := 27) (d := some 51) (v := ?_) rfl rfl (by kernel_rfl) (by kernel_rfl) (by kernel_rfl) (fun _ _ _ h => h) (Or.inl ⟨by rfl, ?_⟩) (by assumption) ?_
      rotate_left
      · intro w hSw
        (try dsimp only at hSw)
        go_simp
        try (with_reducible rfl)
      simp only [Act.put, List.setIfInBounds_toArray, List.set_cons_zero, List.set_cons_succ]
      refine wpAnyH_takeE (i := 28) (d := some 52) (v := ?_) rfl rfl (by kernel_rfl) (by kernel_rfl) (by kernel_rfl) (fun _ _ _ h => h) (Or.inl ⟨by rfl, ?_⟩) (by assumption) ?_
      rotate_left
      · intro w hSw
        (try dsimp only at hSw)
        go_simp
        try (with_reducible rfl)
      simp only [Act.put, List.setIfInBounds_toArray, List.set_cons_zero, List.set_cons_succ]
      refine wpAnyH_takeE (i := 29) (d := some 53) (v := ?_) rfl rfl (by kernel_rfl) (by kernel_rfl) (by kernel_rfl) (fun _ _ _ h => h) (Or.inl ⟨by rfl, ?_⟩) (by assumption) ?_
      rotate_left
      · intro w hSw
        (try dsimp only at hSw)
        go_simp
        try (with_reducible rfl)
      simp only [Act.put, List.setIfInBounds_toArray, List.set_cons_zero, List.set_cons_succ]
      refine wpAnyH_takeE (i := 30) (d := some 54) (v := ?_) rfl rfl (by kernel_rfl) (by kernel_rfl) (by kernel_rfl) (fun _ _ _ h => h) (Or.inl ⟨by rfl, ?_⟩) (by assumption) ?_
      rotate_left
      · intro w hSw
        (try dsimp only at hSw)
        go_simp
        try (with_reducible rfl)
      simp only [Act.put, List.setIfInBounds_toArray, List.set_cons_zero, List.set_cons_succ]
      refine wpAnyH_takeE (i := 31) (d := some 55) (v := ?_) rfl rfl (by kernel_rfl) (by kernel_rfl) (by kernel_rfl) (fun _ _ _ h => h) (Or.inl ⟨by rfl, ?_⟩) (by assumption) ?_
      rotate_left
      · intro w hSw
        (try dsimp only at hSw)
        go_simp
        try (with_reducible rfl)
      simp only [Act.put, List.setIfInBounds_toArray, List.set_cons_zero, List.set_cons_succ]
      refine wpAnyH_takeE (i := 32) (d := some 56) (v := ?_) rfl rfl (by kernel_rfl) (by kernel_rfl) (by kernel_rfl) (fun _ _ _ h => h) (Or.inl ⟨by rfl, ?_⟩) (by assumption) ?_
      rotate_left
      · intro w hSw
        (try dsimp only at hSw)
        go_simp
        try (with_reducible rfl)
      simp only [Act.put, List.setIfInBounds_toArray, List.set_cons_zero, List.set_cons_succ]
      refine wpAnyH_ready (rs := [33]) (by kernel_rfl) (by simp) ?_
      refine AllReadyH.cons rfl (fun K hK => ?_) AllReadyH.nil
      go_simp
      go_at_call 7
      refine (knows11_any CJ CSL _).mono ?_
      rintro e w10 ⟨rfl, hb10⟩
      have hbn : Below X4.heap.size X4 w10 := (by go_split_ands; exact bel_thenD (by assumption) (Nat.le_refl _) hb10)
      refine hK.out _ _ ?_ (fun hHeld => ?_)
      · first | exact KT.out _ hbn | assumption
      clear hK K
      try simp only [Act.put, List.setIfInBounds_toArray, List.set_cons_zero, List.set_cons_succ]
      refine wpAnyH_takeE (i := 34) (d := some 58) (v := ?_) rfl rfl (by kernel_rfl) (by kernel_rfl) (by kernel_rfl) (fun _ _ _ h => h) (Or.inl ⟨by rfl, ?_⟩) (by assumption) ?_
      rotate_left
      · intro w hSw
        (try dsimp only at hSw)
        go_simp
        try (with_reducible rfl)
      simp only [Act.put, List.setIfInBounds_toArray, List.set_cons_zero, List.set_cons_succ]
      refine wpAnyH_takeE (i := 35) (d := some 4) (v := ?_) rfl rfl (by kernel_rfl) (by kernel_rfl) (by kernel_rfl) (fun _ _ _ h => h) (Or.inl ⟨by rfl, ?_⟩) (by assumption) ?_
      rotate_left
      · intro w hSw
        (try dsimp only at hSw)
        go_simp
        try (with_reducible rfl)
      simp only [Act.put, List.setIfInBounds_toArray, List.set_cons_zero, List.set_cons_succ]
      refine wpAnyH_done (by kernel_rfl) ?_ _
      go_wp2_with fail
      go_ret
      exact ⟨rfl, HB1.out.trans ((bel_thenD HX4.out (Nat.le_refl _) (by repeat first | assumption | refine below_drewD _ ?_)).mono HB1.out.size)⟩
    · obtain ⟨f, hff⟩ : ∃ f, f = (judgeV c F).2 := ⟨_, rfl⟩
      have hfz : (f == 0) = false := by rw [hff]; simpa using hf
      have HFV : Hid ((judgeV c F).2 = f) := Lib.hid hff.symm
      have HV1 : Hid (((judgeV c F).2 == 0 && eqVd v0 (judgeV c F).1) = false) := Lib.hid (by rw [← hff, hfz]; rfl)
      have HV2 : Hid (((judgeV c F).2 == 0 && eqVd ⟨a0, a1, a2, a3⟩ (judgeV c F).1) = false) := Lib.hid (by rw [← hff, hfz]; rfl)
      have hfn : ¬ f = 0 := by rw [hff]; exact hf
      clear hv0 hf hff
      obtain ⟨k0, k1, k2, k3⟩ := v0
      have HJC : Hid ((judgeV c F).1.cells = #[.int .i64 k0, .int .i64 k1, .bool k2, .int .i64 k3]) := Lib.hid hjc
      have HE1 : ∀ W : World, (Op.equalIn 10000 28 (.agg #[.int .i64 k0, .int .i64 k1, .bool k2, .int .i64 k3]) (.agg #[.int .i64 k0, .int .i64 k1, .bool k2, .int .i64 k3])).run Tryz.prog W = .ok true W := fun W => (eqInVd_parcloseref11 k0 k1 k2 k3 k0 k1 k2 k3 W).trans (by rw [eqVd_refl])
      have hM : Tryz.prog.eqGuardType Tryz.prog.depth 28 = false := by kernel_rfl
      clear hjc
      go_enter Tryz.func3, Tryz.ntmps3
      go_wp2_with (first
        | (go_at_call 6; rw [← HV.out]; refine CN.out.mono ?_; rintro e w1 ⟨rfl, hb1⟩; rw [HN.out]; have HBa := Lib.hid hb1; obtain ⟨⟨z0, z1, z2, z3, z4⟩, q0, q1, q2, q3⟩ := KS.out _ hb1; clear hb1)
        | (go_at_call 9; refine (config_sys HF.out (HS.out.keep (SameIn.of_below HBa.out HSZ.out)) (Nat.le_trans HSZ.out HBa.out.size)).mono ?_; rintro e w2 ⟨vs, i1, i2, i3, j1, j2, j3, rfl, hs2, hb2⟩; have HS2 := Lib.hid hs2; have HBb := Lib.hid (bel_thenD HBa.out (Nat.le_refl _) hb2); clear hs2 hb2)
        | (go_at_call 8; refine (CJ _ _ c vs i1 i2 i3 j1 j2 j3 HF.out HS2.out (Nat.le_refl _) HIN.out HF64.out F HFE.out).mono ?_; rintro e w3 ⟨rfl, hb3⟩; rw [HJC.out, HFV.out]
           obtain ⟨X3, hX3⟩ : ∃ X, X = w3.alloc (.cells #[.int .i64 k0, .int .i64 k1, .bool k2, .int .i64 k3] 31) := ⟨_, rfl⟩
           have HBc := Lib.hid (bel_thenD HBb.out (Nat.le_refl _) hb3)
           have HX3 : Hid (Below V.heap.size V X3) := Lib.hid (by rw [hX3]; exact HBc.out.alloc HBc.out.size _)
           have HXV : Hid (CellsAt X3 w3.heap.size 31 [.int .i64 k0, .int .i64 k1, .bool k2, .int .i64 k3]) := Lib.hid (by rw [hX3]; exact heap_alloc_new _ _)
           have HXe := Lib.hid hX3
           clear z0 z1 z2 z3 z4 q0 q1 q2 q3
           obtain ⟨⟨z0, z1, z2, z3, z4⟩, q0, q1, q2, q3⟩ := KS.out _ (HBc.out.alloc HBc.out.size (.cells #[.int .i64 k0, .int .i64 k1, .bool k2, .int .i64 k3] 31))
           clear hX3 hb3)
        | (go_at_call 10; rw [← HXe.out]; refine (rJudge_sys HF.out (HS.out.keep (SameIn.of_below HX3.out HSZ.out)) (Nat.le_trans HSZ.out HX3.out.size) HIN.out HF64.out F HFE.out).mono ?_; rintro e w4 ⟨rfl, hb4⟩; rw [HJC.out, HFV.out]
           obtain ⟨X4, hX4⟩ : ∃ X, X = w4.alloc (.cells #[.int .i64 k0, .int .i64 k1, .bool k2, .int .i64 k3] 28) := ⟨_, rfl⟩
           have HBd := Lib.hid (bel_thenD HX3.out (Nat.le_refl _) hb4)
           have HX4 : Hid (Below V.heap.size V X4) := Lib.hid (by rw [hX4]; exact HBd.out.alloc HBd.out.size _)
           have hxx : CellsAt X4 w4.heap.size 28 [.int .i64 k0, .int .i64 k1, .bool k2, .int .i64 k3] := by rw [hX4]; exact heap_alloc_new _ _
           have hxv : CellsAt X4 w3.heap.size 31 [.int .i64 k0, .int .i64 k1, .bool k2, .int .i64 k3] := by rw [hX4]; exact (HXV.out.later hb4).later (below1 _ _)
           have KT : Hid (∀ W : World, Below X4.heap.size X4 W → Below X4.heap.size X4 W ∧ W.cell? ⟨w.heap.size, 0, none⟩ = some (.int .i64 c.frame) ∧ W.cell? ⟨w.heap.size, 1, none⟩ = some (.int .i64 c.margin) ∧ W.cell? ⟨w.heap.size, 2, none⟩ = some (.slice wa c.ws.length wc) ∧ W.cell? ⟨w.heap.size, 3, none⟩ = some (.slice pa c.ps.length pc) ∧ W.cell? ⟨w.heap.size, 4, none⟩ = some (.slice ca c.cs.length cc) ∧ W.cell? ⟨w.heap.size + 1, 0, none⟩ = some (.int .i64 a0) ∧ W.cell? ⟨w.heap.size + 1, 1, none⟩ = some (.int .i64 a1) ∧ W.cell? ⟨w.heap.size + 1, 2, none⟩ = some (.bool a2) ∧ W.cell? ⟨w.heap.size + 1, 3, none⟩ = some (.int .i64 a3) ∧ W.cell? ⟨w3.heap.size, 0, none⟩ = some (.int .i64 k0) ∧ W.cell? ⟨w3.heap.size, 1, none⟩ = some (.int .i64 k1) ∧ W.cell? ⟨w3.heap.size, 2, none⟩ = some (.bool k2) ∧ W.cell? ⟨w3.heap.size, 3, none⟩ = some (.int .i64 k3) ∧ W.cell? ⟨w4.heap.size, 0, none⟩ = some (.int .i64 k0) ∧ W.cell? ⟨w4.heap.size, 1, none⟩ = some (.int .i64 k1) ∧ W.cell? ⟨w4.heap.size, 2, none⟩ = some (.bool k2) ∧ W.cell? ⟨w4.heap.size, 3, none⟩ = some (.int .i64 k3)) := Lib.hid fun W g => by
             obtain ⟨⟨z0, z1, z2, z3, z4⟩, q0, q1, q2, q3⟩ := KS.out _ (bel_thenD HX4.out (Nat.le_refl _) g)
             have g1 := hxv.later g
             have g2 := hxx.later g
             exact ⟨g, z0, z1, z2, z3, z4, q0, q1, q2, q3, (g1.cell (j := 0) rfl).1, (g1.cell (j := 1) rfl).1, (g1.cell (j := 2) rfl).1, (g1.cell (j := 3) rfl).1, (g2.cell (j := 0) rfl).1, (g2.cell (j := 1) rfl).1, (g2.cell (j := 2) rfl).1, (g2.cell (j := 3) rfl).1⟩
           have HXf := Lib.hid hX4
           clear z0 z1 z2 z3 z4 q0 q1 q2 q3 hX4 hb4 hxx hxv))
      rw [← HXf.out]
      refine wp_region_held_drew (S := (fun W => Below X4.heap.size X4 W ∧ W.cell? ⟨w.heap.size, 0, none⟩ = some (.int .i64 c.frame) ∧ W.cell? ⟨w.heap.size, 1, none⟩ = some (.int .i64 c.margin) ∧ W.cell? ⟨w.heap.size, 2, none⟩ = some (.slice wa c.ws.length wc) ∧ W.cell? ⟨w.heap.size, 3, none⟩ = some (.slice pa c.ps.length pc) ∧ W.cell? ⟨w.heap.size, 4, none⟩ = some (.slice ca c.cs.length cc) ∧ W.cell? ⟨w.heap.size + 1, 0, none⟩ = some (.int .i64 a0) ∧ W.cell? ⟨w.heap.size + 1, 1, none⟩ = some (.int .i64 a1) ∧ W.cell? ⟨w.heap.size + 1, 2, none⟩ = some (.bool a2) ∧ W.cell? ⟨w.heap.size + 1, 3, none⟩ = some (.int .i64 a3) ∧ W.cell? ⟨w3.heap.size, 0, none⟩ = some (.int .i64 k0) ∧ W.cell? ⟨w3.heap.size, 1, none⟩ = some (.int .i64 k1) ∧ W.cell? ⟨w3.heap.size, 2, none⟩ = some (.bool k2) ∧ W.cell? ⟨w3.heap.size, 3, none⟩ = some (.int .i64 k3) ∧ W.cell? ⟨w4.heap.size, 0, none⟩ = some (.int .i64 k0) ∧ W.cell? ⟨w4.heap.size, 1, none⟩ = some (.int .i64 k1) ∧ W.cell? ⟨w4.heap.size, 2, none⟩ = some (.bool k2) ∧ W.cell? ⟨w4.heap.size, 3, none⟩ = some (.int .i64 k3))) (by kernel_rfl) ?_ (fun hHeld => ?_)
      · exact KT.out _ (by repeat first | exact Below.refl _ _ | assumption | refine Below.drew ?_)
      refine wpAnyH_takeE (i := 0) (d := some 24) (v := ?_) rfl rfl (by kernel_rfl) (by kernel_rfl) (by kernel_rfl) (fun _ _ _ h => h) (Or.inl ⟨by rfl, ?_⟩) (by assumption) ?_
      rotate_left
      · intro w hSw
        (try dsimp only at hSw)
        go_simp
        try (with_reducible rfl)
      simp only [Act.put, List.setIfInBounds_toArray, List.set_cons_zero, List.set_cons_succ]
      refine wpAnyH_takeE (i := 1) (d := some 25) (v := ?_) rfl rfl (by kernel_rfl) (by kernel_rfl) (by kernel_rfl) (fun _ _ _ h => h) (Or.inl ⟨by rfl, ?_⟩) (by assumption) ?_
      rotate_left
      · intro w hSw
        (try dsimp only at hSw)
        go_simp
        try (with_reducible rfl)
      simp only [Act.put, List.setIfInBounds_toArray, List.set_cons_zero, List.set_cons_succ]
      refine wpAnyH_takeE (i := 2) (d := some 26) (v := ?_) rfl rfl (by kernel_rfl) (by kernel_rfl) (by kernel_rfl) (fun _ _ _ h => h) (Or.inl ⟨by rfl, ?_⟩) (by assumption) ?_
      rotate_left
      · intro w hSw
        (try dsimp only at hSw)
        go_simp
        try (with_reducible rfl)
      simp only [Act.put, List.setIfInBounds_toArray, List.set_cons_zero, List.set_cons_succ]
      refine wpAnyH_takeE (i := 3) (d := some 27) (v := ?_) rfl rfl (by kernel_rfl) (by kernel_rfl) (by kernel_rfl) (fun _ _ _ h => h) (Or.inl ⟨by rfl, ?_⟩) (by assumption) ?_
      rotate_left
      · intro w hSw
        (try dsimp only at hSw)
        go_simp
        try (with_reducible rfl)
      simp only [Act.put, List.setIfInBounds_toArray, List.set_cons_zero, List.set_cons_succ]
      refine wpAnyH_takeE (i := 4) (d := some 28) (v := ?_) rfl rfl (by kernel_rfl) (by kernel_rfl) (by kernel_rfl) (fun _ _ _ h => h) (Or.inl ⟨by rfl, ?_⟩) (by assumption) ?_
      rotate_left
      · intro w hSw
        (try dsimp only at hSw)
        go_simp
        try (with_reducible rfl)
      simp only [Act.put, List.setIfInBounds_toArray, List.set_cons_zero, List.set_cons_succ]
      refine wpAnyH_takeE (i := 6) (d := some 30) (v := ?_) rfl rfl (by kernel_rfl) (by kernel_rfl) (by kernel_rfl) (fun _ _ _ h => h) (Or.inl ⟨by rfl, ?_⟩) (by assumption) ?_
      rotate_left
      · intro w hSw
        (try dsimp only at hSw)
        go_simp
        try (with_reducible rfl)
      simp only [Act.put, List.setIfInBounds_toArray, List.set_cons_zero, List.set_cons_succ]
      refine wpAnyH_ready (rs := [5]) (by kernel_rfl) (by simp) ?_
      refine AllReadyH.cons rfl (fun K hK => ?_) AllReadyH.nil
      go_simp
      go_at_call 11
      refine (num11_any _ _).mono ?_
      rintro e w9 ⟨rfl, rfl⟩
      refine hK.out _ _ ?_ (fun hHeld => ?_)
      · first | exact KT.out _ hbn | assumption
      clear hK K
      try simp only [Act.put, List.setIfInBounds_toArray, List.set_cons_zero, List.set_cons_succ]
      refine wpAnyH_takeE (i := 7) (d := some 31) (v := ?_) rfl rfl (by kernel_rfl) (by kernel_rfl) (by kernel_rfl) (fun _ _ _ h => h) (Or.inl ⟨by rfl, ?_⟩) (by assumption) ?_
      rotate_left
      · intro w hSw
        (try dsimp only at hSw)
        go_simp
        try (with_reducible rfl)
      simp only [Act.put, List.setIfInBounds_toArray, List.set_cons_zero, List.set_cons_succ]
      refine wpAnyH_takeE (i := 8) (d := some 32) (v := ?_) rfl rfl (by kernel_rfl) (by kernel_rfl) (by kernel_rfl) (fun _ _ _ h => h) (Or.inl ⟨by rfl, ?_⟩) (by assumption) ?_
      rotate_left
      · intro w hSw
        (try dsimp only at hSw)
        go_simp
        try (with_reducible rfl)
      simp only [Act.put, List.setIfInBounds_toArray, List.set_cons_zero, List.set_cons_succ]
      refine wpAnyH_takeE (i := 9) (d := some 33) (v := ?_) rfl rfl (by kernel_rfl) (by kernel_rfl) (by kernel_rfl) (fun _ _ _ h => h) (Or.inl ⟨by rfl, ?_⟩) (by assumption) ?_
      rotate_left
      · intro w hSw
        (try dsimp only at hSw)
        go_simp
        try (with_reducible rfl)
      simp only [Act.put, List.setIfInBounds_toArray, List.set_cons_zero, List.set_cons_succ]
      refine wpAnyH_takeE (i := 10) (d := some 34) (v := ?_) rfl rfl (by kernel_rfl) (by kernel_rfl) (by kernel_rfl) (fun _ _ _ h => h) (Or.inl ⟨by rfl, ?_⟩) (by assumption) ?_
      rotate_left
      · intro w hSw
        (try dsimp only at hSw)
        go_simp
        try (with_reducible rfl)
      simp only [Act.put, List.setIfInBounds_toArray, List.set_cons_zero, List.set_cons_succ]
      refine wpAnyH_takeE (i := 12) (d := some 36) (v := ?_) rfl rfl (by kernel_rfl) (by kernel_rfl) (by kernel_rfl) (fun _ _ _ h => h) (Or.inl ⟨by rfl, ?_⟩) (by assumption) ?_
      rotate_left
      · intro w hSw
        (try dsimp only at hSw)
        go_simp
        try (with_reducible rfl)
      simp only [Act.put, List.setIfInBounds_toArray, List.set_cons_zero, List.set_cons_succ]
      refine wpAnyH_takeE (i := 14) (d := some 38) (v := ?_) rfl rfl (by kernel_rfl) (by kernel_rfl) (by kernel_rfl) (fun _ _ _ h => h) (Or.inl ⟨by rfl, ?_⟩) (by assumption) ?_
      rotate_left
      · intro w hSw
        (try dsimp only at hSw)
        go_simp
        try (with_reducible rfl)
      simp only [Act.put, List.setIfInBounds_toArray, List.set_cons_zero, List.set_cons_succ]
      refine wpAnyH_takeE (i := 15) (d := some 39) (v := ?_) rfl rfl (by kernel_rfl) (by kernel_rfl) (by kernel_rfl) (fun _ _ _ h => h) (Or.inl ⟨by rfl, ?_⟩) (by assumption) ?_
      rotate_left
      · intro w hSw
        (try dsimp only at hSw)
        go_simp
        try (with_reducible rfl)
      simp only [Act.put, List.setIfInBounds_toArray, List.set_cons_zero, List.set_cons_succ]
      refine wpAnyH_ready (rs := [11]) (by kernel_rfl) (by simp) ?_
      refine AllReadyH.cons rfl (fun K hK => ?_) AllReadyH.nil
      go_simp
      go_at_call 9
      refine (config_sys HF.out (HS.out.keep (SameIn.of_below (bel_thenD HX4.out (Nat.le_refl _) (by go_split_ands; assumption)) HSZ.out)) (Nat.le_trans HSZ.out (bel_thenD HX4.out (Nat.le_refl _) (by go_split_ands; assumption)).size)).mono ?_
      rintro e w5 ⟨vs5, i1, i2, i3, j1, j2, j3, rfl, hs, hb5⟩
      have HS5 := Lib.hid hs
      have hbn : Below X4.heap.size X4 w5 := (by go_split_ands; exact bel_thenD (by assumption) (Nat.le_refl _) hb5)
      clear hs
      refine hK.out _ _ ?_ (fun hHeld => ?_)
      · first | exact KT.out _ hbn | assumption
      clear hK K
      try simp only [Act.put, List.setIfInBounds_toArray, List.set_cons_zero, List.set_cons_succ]
      refine wpAnyH_ready (rs := [13]) (by kernel_rfl) (by simp) ?_
      refine AllReadyH.cons rfl (fun K hK => ?_) AllReadyH.nil
      go_simp
      go_at_call 12
      refine (CH _ _ c vs5 _ _ _ _ _ _ HF.out HS5.out (Nat.le_refl _) HIN.out HF64.out F HFE.out ⟨k0, k1, k2, k3⟩).mono ?_
      rintro e w6 ⟨rfl, hb6⟩
      rw [HV1.out]
      have hbn : Below X4.heap.size X4 w6 := (by go_split_ands; exact bel_thenD (by assumption) (Nat.le_refl _) hb6)
      refine hK.out _ _ ?_ (fun hHeld => ?_)
      · first | exact KT.out _ hbn | assumption
      clear hK K
      try simp only [Act.put, List.setIfInBounds_toArray, List.set_cons_zero, List.set_cons_succ]
      refine wpAnyH_takeE (i := 16) (d := some 40) (v := ?_) rfl rfl (by kernel_rfl) (by kernel_rfl) (by kernel_rfl) (fun _ _ _ h => h) (Or.inl ⟨by rfl, ?_⟩) (by assumption) ?_
      rotate_left
      · intro w hSw
        (try dsimp only at hSw)
        go_simp
        try (with_reducible rfl)
      simp only [Act.put, List.setIfInBounds_toArray, List.set_cons_zero, List.set_cons_succ]
      refine wpAnyH_takeE (i := 17) (d := some 41) (v := ?_) rfl rfl (by kernel_rfl) (by kernel_rfl) (by kernel_rfl) (fun _ _ _ h => h) (Or.inl ⟨by rfl, ?_⟩) (by assumption) ?_
      rotate_left
      · intro w hSw
        (try dsimp only at hSw)
        go_simp
        try (with_reducible rfl)
      simp only [Act.put, List.setIfInBounds_toArray, List.set_cons_zero, List.set_cons_succ]
      refine wpAnyH_takeE (i := 18) (d := some 42) (v := ?_) rfl rfl (by kernel_rfl) (by kernel_rfl) (by kernel_rfl) (fun _ _ _ h => h) (Or.inl ⟨by rfl, ?_⟩) (by assumption) ?_
      rotate_left
      · intro w hSw
        (try dsimp only at hSw)
        go_simp
        try (with_reducible rfl)
      simp only [Act.put, List.setIfInBounds_toArray, List.set_cons_zero, List.set_cons_succ]
      refine wpAnyH_takeE (i := 19) (d := some 43) (v := ?_) rfl rfl (by kernel_rfl) (by kernel_rfl) (by kernel_rfl) (fun _ _ _ h => h) (Or.inl ⟨by rfl, ?_⟩) (by assumption) ?_
      rotate_left
      · intro w hSw
        (try dsimp only at hSw)
        go_simp
        try (with_reducible rfl)
      simp only [Act.put, List.setIfInBounds_toArray, List.set_cons_zero, List.set_cons_succ]
      refine wpAnyH_takeE (i := 21) (d := some 45) (v := ?_) rfl rfl (by kernel_rfl) (by kernel_rfl) (by kernel_rfl) (fun _ _ _ h => h) (Or.inl ⟨by rfl, ?_⟩) (by assumption) ?_
      rotate_left
      · intro w hSw
        (try dsimp only at hSw)
        go_simp
        try (with_reducible rfl)
      simp only [Act.put, List.setIfInBounds_toArray, List.set_cons_zero, List.set_cons_succ]
      refine wpAnyH_takeE (i := 23) (d := some 47) (v := ?_) rfl rfl (by kernel_rfl) (by kernel_rfl) (by kernel_rfl) (fun _ _ _ h => h) (Or.inl ⟨by rfl, ?_⟩) (by assumption) ?_
      rotate_left
      · intro w hSw
        (try dsimp only at hSw)
        go_simp
        try (with_reducible rfl)
      simp only [Act.put, List.setIfInBounds_toArray, List.set_cons_zero, List.set_cons_succ]
      refine wpAnyH_takeE (i := 24) (d := some 48) (v := ?_) rfl rfl (by kernel_rfl) (by kernel_rfl) (by kernel_rfl) (fun _ _ _ h => h) (Or.inl ⟨by rfl, ?_⟩) (by assumption) ?_
      rotate_left
      · intro w hSw
        (try dsimp only at hSw)
        go_simp
        try (with_reducible rfl)
      simp only [Act.put, List.setIfInBounds_toArray, List.set_cons_zero, List.set_cons_succ]
      refine wpAnyH_ready (rs := [20]) (by kernel_rfl) (by simp) ?_
      refine AllReadyH.cons rfl (fun K hK => ?_) AllReadyH.nil
      go_simp
      go_at_call 9
      refine (config_sys HF.out (HS.out.keep (SameIn.of_below (bel_thenD HX4.out (Nat.le_refl _) (by go_split_ands; assumption)) HSZ.out)) (Nat.le_trans HSZ.out (bel_thenD HX4.out (Nat.le_refl _) (by go_split_ands; assumption)).size)).mono ?_
      rintro e w7 ⟨vs7, i1, i2, i3, j1, j2, j3, rfl, hs, hb7⟩
      have HS7 := Lib.hid hs
      have hbn : Below X4.heap.size X4 w7 := (by go_split_ands; exact bel_thenD (by assumption) (Nat.le_refl _) hb7)
      clear hs
      refine hK.out _ _ ?_ (fun hHeld => ?_)
      · first | exact KT.out _ hbn | assumption
      clear hK K
      try simp only [Act.put, List.setIfInBounds_toArray, List.set_cons_zero, List.set_cons_succ]
      refine wpAnyH_ready (rs := [22]) (by kernel_rfl) (by simp) ?_
      refine AllReadyH.cons rfl (fun K hK => ?_) AllReadyH.nil
      go_simp
      go_at_call 12
      refine (CH _ _ c vs7 _ _ _ _ _ _ HF.out HS7.out (Nat.le_refl _) HIN.out HF64.out F HFE.out ⟨a0, a1, a2, a3⟩).mono ?_
      rintro e w8 ⟨rfl, hb8⟩
      rw [HV2.out]
      have hbn : Below X4.heap.size X4 w8 := (by go_split_ands; exact bel_thenD (by assumption) (Nat.le_refl _) hb8)
      refine hK.out _ _ ?_ (fun hHeld => ?_)
      · first | exact KT.out _ hbn | assumption
      clear hK K
      try simp only [Act.put, List.setIfInBounds_toArray, List.set_cons_zero, List.set_cons_succ]
      refine wpAnyH_takeE (i := 25) (d := some 49) (v := ?_) rfl rfl (by kernel_rfl) (by kernel_rfl) (by kernel_rfl) (fun _ _ _ h => h) (Or.inl ⟨by rfl, ?_⟩) (by assumption) ?_
      rotate_left
      · intro w hSw
        (try dsimp only at hSw)
        go_simp
        try (with_reducible rfl)
      simp only [Act.put, List.setIfInBounds_toArray, List.set_cons_zero, List.set_cons_succ]
      refine wpAnyH_takeE (i := 26) (d := some 50) (v := undef) rfl rfl (by kernel_rfl) (by kernel_rfl) (by kernel_rfl) (fun _ _ _ h => h) (Or.inr ⟨by rfl, rfl⟩) (by assumption) ?_
      simp only [Act.put, List.setIfInBounds_toArray, List.set_cons_zero, List.set_cons_succ]
      refine wpAnyH_takeE (i := 27) (d := some 51) (v := undef) rfl rfl (by kernel_rfl) (by kernel_rfl) (by kernel_rfl) (fun _ _ _ h => h) (Or.inr ⟨by rfl, rfl⟩) (by assumption) ?_
      simp only [Act.put, List.setIfInBounds_toArray, List.set_cons_zero, List.set_cons_succ]
      refine wpAnyH_takeE (i := 28) (d := some 52) (v := undef) rfl rfl (by kernel_rfl) (by kernel_rfl) (by kernel_rfl) (fun _ _ _ h => h) (Or.inr ⟨by rfl, rfl⟩) (by assumption) ?_
      simp only [Act.put, List.setIfInBounds_toArray, List.set_cons_zero, List.set_cons_succ]
      refine wpAnyH_takeE (i := 29) (d := some 53) (v := ?_) rfl rfl (by kernel_rfl) (by kernel_rfl) (by kernel_rfl) (fun _ _ _ h => h) (Or.inl ⟨by rfl, ?_⟩) (by assumption) ?_
      rotate_left
      · intro w hSw
        (try dsimp only at hSw)
        go_simp
        try (with_reducible rfl)
      simp only [Act.put, List.setIfInBounds_toArray, List.set_cons_zero, List.set_cons_succ]
      refine wpAnyH_takeE (i := 30) (d := some 54) (v := ?_) rfl rfl (by kernel_rfl) (by kernel_rfl) (by kernel_rfl) (fun _ _ _ h => h) (Or.inl ⟨by rfl, ?_⟩) (by assumption) ?_
      rotate_left
      · intro w hSw
        (try dsimp only at hSw)
        go_simp
        try (with_reducible rfl)
      simp only [Act.put, List.setIfInBounds_toArray, List.set_cons_zero, List.set_cons_succ]
      refine wpAnyH_takeE (i := 31) (d := some 55) (v := ?_) rfl rfl (by kernel_rfl) (by kernel_rfl) (by kernel_rfl) (fun _ _ _ h => h) (Or.inl ⟨by rfl, ?_⟩) (by assumption) ?_
      rotate_left
      · intro w hSw
        (try dsimp only at hSw)
        go_simp
        try (with_reducible rfl)
      simp only [Act.put, List.setIfInBounds_toArray, List.set_cons_zero, List.set_cons_succ]
      refine wpAnyH_takeE (i := 32) (d := some 56) (v := ?_) rfl rfl (by kernel_rfl) (by kernel_rfl) (by kernel_rfl) (fun _ _ _ h => h) (Or.inl ⟨by rfl, ?_⟩) (by assumption) ?_
      rotate_left
      · intro w hSw
        (try dsimp only at hSw)
        go_simp
        try (with_reducible rfl)
      simp only [Act.put, List.setIfInBounds_toArray, List.set_cons_zero, List.set_cons_succ]
      refine wpAnyH_ready (rs := [33]) (by kernel_rfl) (by simp) ?_
      refine AllReadyH.cons rfl (fun K hK => ?_) AllReadyH.nil
      go_simp
      go_at_call 7
      refine (knows11_any CJ CSL _).mono ?_
      rintro e w10 ⟨rfl, hb10⟩
      have hbn : Below X4.heap.size X4 w10 := (by go_split_ands; exact bel_thenD (by assumption) (Nat.le_refl _) hb10)
      refine hK.out _ _ ?_ (fun hHeld => ?_)
      · first | exact KT.out _ hbn | assumption
      clear hK K
      try simp only [Act.put, List.setIfInBounds_toArray, List.set_cons_zero, List.set_cons_succ]
      refine wpAnyH_takeE (i := 34) (d := some 58) (v := ?_) rfl rfl (by kernel_rfl) (by kernel_rfl) (by kernel_rfl) (fun _ _ _ h => h) (Or.inl ⟨by rfl, ?_⟩) (by assumption) ?_
      rotate_left
      · intro w hSw
        (try dsimp only at hSw)
        go_simp
        try (with_reducible rfl)
      simp only [Act.put, List.setIfInBounds_toArray, List.set_cons_zero, List.set_cons_succ]
      refine wpAnyH_takeE (i := 35) (d := some 4) (v := ?_) rfl rfl (by kernel_rfl) (by kernel_rfl) (by kernel_rfl) (fun _ _ _ h => h) (Or.inl ⟨by rfl, ?_⟩) (by assumption) ?_
      rotate_left
      · intro w hSw
        (try dsimp only at hSw)
        go_simp
        try (with_reducible rfl)
      simp only [Act.put, List.setIfInBounds_toArray, List.set_cons_zero, List.set_cons_succ]
      refine wpAnyH_done (by kernel_rfl) ?_ _
      go_wp2_with fail
      go_ret
      exact ⟨rfl, HB1.out.trans ((bel_thenD HX4.out (Nat.le_refl _) (by repeat first | assumption | refine below_drewD _ ?_)).mono HB1.out.size)⟩
theorem AdmitJudges_body : type_of% (AdmitJudges_of judgeOk slackOk holdsOk) := AdmitJudges_of judgeOk slackOk holdsOk
end Go.Proofs.YtdbbdlobahalkaaGreat
