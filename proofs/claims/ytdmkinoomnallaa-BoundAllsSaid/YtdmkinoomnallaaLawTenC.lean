/- The walk of the statement on the greatest bound of any system. -/
import Derived.Test.YtdmkinoomnallaaBoundV
namespace Go.Proofs.Ytdmkinoomnallaa
open Go.ChangeShapes Go.WideShapes Go.ChangeAt Go.RowKit
set_option linter.unusedVariables false

set_option maxRecDepth 100000 in
set_option maxHeartbeats 4000000 in
theorem BoundAlls_body (wa pa ca : Option Addr) (wc pc cc : Nat) (w : World) (c : Cf) (pvs : List Pv) (h : SysL w w.heap.size c pvs wa pa ca wc pc cc) (hin : c.In) :
    Calls Try.prog 4 #[.agg #[.int .i64 c.frame, .int .i64 c.margin, .slice wa c.ws.length wc, .slice pa c.ps.length pc, .slice ca c.cs.length cc]] w fun e w' => e = .returned (.bool true) ∧ Below w.heap.size w w' := by
  obtain ⟨V, hV⟩ : ∃ V, V = w.alloc (.cells #[.int .i64 c.frame, .int .i64 c.margin, .slice wa c.ws.length wc, .slice pa c.ps.length pc, .slice ca c.cs.length cc] 45) := ⟨_, rfl⟩
  have hB1 : Below w.heap.size w V := by rw [hV]; exact below1 _ _
  have ks : ∀ W : World, Below V.heap.size V W → W.cell? ⟨w.heap.size, 0, none⟩ = some (.int .i64 c.frame) ∧ W.cell? ⟨w.heap.size, 1, none⟩ = some (.int .i64 c.margin) ∧ W.cell? ⟨w.heap.size, 2, none⟩ = some (.slice wa c.ws.length wc) ∧ W.cell? ⟨w.heap.size, 3, none⟩ = some (.slice pa c.ps.length pc) ∧ W.cell? ⟨w.heap.size, 4, none⟩ = some (.slice ca c.cs.length cc) := fun W g => by
    rw [hV] at g
    exact boxK5 _ _ _ _ _ _ _ W g
  have SV : SysL V w.heap.size c pvs wa pa ca wc pc cc := h.keep (SameIn.of_below hB1 (Nat.le_refl _))
  have CL := Lib.hid (light_any c.frame c.margin wa pa ca c.ws.length wc c.ps.length pc c.cs.length cc V 0 w.heap.size c pvs rfl rfl rfl SV.l2 SV.l3 hB1.size)
  have KS := Lib.hid ks; have HB1 := Lib.hid hB1; have HS := Lib.hid SV; have HV := Lib.hid hV; have HIN := Lib.hid hin.1; have HSZ := Lib.hid hB1.size
  obtain ⟨x, hx⟩ : ∃ x, x = (allV c).1 := ⟨_, rfl⟩
  obtain ⟨y, hy⟩ : ∃ y, y = (allV c).2 := ⟨_, rfl⟩
  have HX := Lib.hid hx; have HY := Lib.hid hy
  clear ks hB1 SV hV h hx hy
  cases hlt : lightB c with
  | false =>
    have HLT := Lib.hid hlt; clear hlt
    go_enter Try.func4, Try.ntmps4
    go_wp2_with (first
      | (go_at_call 15; rw [← HV.out]; refine CL.out.mono ?_; rintro e w1 ⟨rfl, hb1⟩; rw [HLT.out])
      | (go_at_call 7; refine (knows10_any _).mono ?_; rintro e w2 ⟨rfl, hb2⟩))
    go_ret
    exact ⟨rfl, HB1.out.trans ((bel_thenD hb1 (Nat.le_refl _) hb2).mono HB1.out.size)⟩
  | true =>
    have HF := Lib.hid (light_bounds hlt)
    have HLT := Lib.hid hlt; clear hlt
    go_enter Try.func4, Try.ntmps4
    go_wp2_with (first
      | (go_at_call 15; rw [← HV.out]; refine CL.out.mono ?_; rintro e w1 ⟨rfl, hb1⟩; rw [HLT.out]; have HBa := Lib.hid hb1; obtain ⟨z0, z1, z2, z3, z4⟩ := KS.out _ hb1; clear hb1)
      | (go_at_call 17; refine (config_sys HF.out (HS.out.keep (SameIn.of_below HBa.out HSZ.out)) (Nat.le_trans HSZ.out HBa.out.size)).mono ?_; rintro e w2 ⟨vs, i1, i2, i3, j1, j2, j3, rfl, hs2, hb2⟩; have HS2 := Lib.hid hs2; have HBb := Lib.hid (bel_thenD HBa.out (Nat.le_refl _) hb2); clear hs2 hb2)
      | (go_at_call 16; refine (all_sys HF.out HIN.out HS2.out (Nat.le_refl _)).mono ?_; rintro e w3 ⟨rfl, hb3⟩; rw [← HX.out, ← HY.out]; have HBc := Lib.hid (bel_thenD HBb.out (Nat.le_refl _) hb3); obtain ⟨z0, z1, z2, z3, z4⟩ := KS.out _ HBc.out; clear hb3)
      | (go_at_call 18; refine (refAll_sys HF.out HIN.out (HS.out.keep (SameIn.of_below HBc.out HSZ.out)) (Nat.le_trans HSZ.out HBc.out.size)).mono ?_; rintro e w4 ⟨rfl, hb4⟩; rw [← HX.out, ← HY.out]; have HBd := Lib.hid (bel_thenD HBc.out (Nat.le_refl _) hb4); clear hb4)
      | (go_at_call 7; refine (knows10_any _).mono ?_; rintro e w6 ⟨rfl, hb6⟩; have HBe := Lib.hid (bel_thenD HBd.out (Nat.le_refl _) hb6); clear hb6))
    go_ret
    exact ⟨rfl, HB1.out.trans (HBe.out.mono HB1.out.size)⟩
end Go.Proofs.Ytdmkinoomnallaa
