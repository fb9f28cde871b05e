/- A statement of the layer of what may be: whether any system may be, and else where not. -/
import Derived.Test.YtiojmekoemlmkaaValidK
namespace Go.Proofs.Ytiojmekoemlmkaa
open Go.ChangeShapes Go.WideShapes Go.ChangeAt Go.RowKit
set_option linter.unusedVariables false

set_option maxRecDepth 100000 in
set_option maxHeartbeats 4000000 in
theorem ValidChecks_body (wa pa ca : Option Addr) (wc pc cc : Nat) (w : World) (c : Cf) (pvs : List Pv) (h : SysL w w.heap.size c pvs wa pa ca wc pc cc) (hin : c.In) :
    Calls Try.prog 3 #[.agg #[.int .i64 c.frame, .int .i64 c.margin, .slice wa c.ws.length wc, .slice pa c.ps.length pc, .slice ca c.cs.length cc]] w fun e w' => e = .returned (.bool true) ∧ Below w.heap.size w w' := by
  obtain ⟨V, hV⟩ : ∃ V, V = w.alloc (.cells #[.int .i64 c.frame, .int .i64 c.margin, .slice wa c.ws.length wc, .slice pa c.ps.length pc, .slice ca c.cs.length cc] 26) := ⟨_, rfl⟩
  have hB1 : Below w.heap.size w V := by rw [hV]; exact below1 _ _
  have hblk : V.heap[w.heap.size]? = some (.cells #[.int .i64 c.frame, .int .i64 c.margin, .slice wa c.ws.length wc, .slice pa c.ps.length pc, .slice ca c.cs.length cc] 26 (0, 0)) := by rw [hV]; exact heap_alloc_new _ _
  have ks : ∀ W : World, Below V.heap.size V W → (W.cell? ⟨w.heap.size, 0, none⟩ = some (.int .i64 c.frame) ∧ W.cell? ⟨w.heap.size, 1, none⟩ = some (.int .i64 c.margin) ∧ W.cell? ⟨w.heap.size, 2, none⟩ = some (.slice wa c.ws.length wc) ∧ W.cell? ⟨w.heap.size, 3, none⟩ = some (.slice pa c.ps.length pc) ∧ W.cell? ⟨w.heap.size, 4, none⟩ = some (.slice ca c.cs.length cc)) := by
    intro W g
    have q := fun (i : Nat) (u : Value) hu => (g.cell (p := ⟨w.heap.size, i, none⟩) (lt_of_block hblk)).trans (cell_in (j := i) (u := u) hblk hu)
    exact ⟨q 0 _ rfl, q 1 _ rfl, q 2 _ rfl, q 3 _ rfl, q 4 _ rfl⟩
  have SV : SysL V w.heap.size c pvs wa pa ca wc pc cc := h.keep (SameIn.of_below hB1 (Nat.le_refl _))
  have CL := Lib.hid (light_any c.frame c.margin wa pa ca c.ws.length wc c.ps.length pc c.cs.length cc V 0 w.heap.size c pvs rfl rfl rfl SV.l2 SV.l3 hB1.size)
  have KS := Lib.hid ks; have HB1 := Lib.hid hB1; have HS := Lib.hid SV; have HV := Lib.hid hV; have HIN := Lib.hid hin.2.2.1; have HSZ := Lib.hid hB1.size
  clear ks hB1 SV hV hblk h
  cases hlt : lightB c with
  | false =>
    have HLT := Lib.hid hlt; clear hlt
    go_enter Try.func3, Try.ntmps3
    go_wp2_with (first
      | (go_at_call 6; rw [← HV.out]; refine CL.out.mono ?_; rintro e w1 ⟨rfl, hb1⟩; rw [HLT.out])
      | (go_at_call 7; refine (knows6_any _).mono ?_; rintro e w2 ⟨rfl, hb2⟩))
    go_ret
    exact ⟨rfl, HB1.out.trans ((bel_next hb1 hb2).mono HB1.out.size)⟩
  | true =>
    have HF := Lib.hid (light_bounds hlt)
    have HLT := Lib.hid hlt; clear hlt
    go_enter Try.func3, Try.ntmps3
    go_wp2_with (first
      | (go_at_call 6; rw [← HV.out]; refine CL.out.mono ?_; rintro e w1 ⟨rfl, hb1⟩; rw [HLT.out]; obtain ⟨z0, z1, z2, z3, z4⟩ := KS.out _ hb1)
      | (go_at_call 9; refine (config_sys HF.out (HS.out.keep (SameIn.of_below hb1 HSZ.out)) (Nat.le_trans HSZ.out hb1.size)).mono ?_; rintro e w2 ⟨vs, i1, i2, i3, j1, j2, j3, rfl, hs2, hb2⟩)
      | (go_at_call 8; refine (check_sys HF.out hs2 (Nat.le_refl _) HIN.out).mono ?_; rintro e w3 ⟨rfl, hb3⟩; obtain ⟨z0, z1, z2, z3, z4⟩ := KS.out _ (bel_next hb1 (bel_next hb2 hb3)))
      | (go_at_call 10; refine (refCheck_sys HF.out (HS.out.keep (SameIn.of_below (bel_next hb1 (bel_next hb2 hb3)) HSZ.out)) (Nat.le_trans HSZ.out (bel_next hb1 (bel_next hb2 hb3)).size) HIN.out).mono ?_; rintro e w4 ⟨rfl, hb4⟩)
      | (go_at_call 11; refine (num6_any _ _).mono ?_; rintro e w5 ⟨rfl, hb5⟩)
      | (go_at_call 7; refine (knows6_any _).mono ?_; rintro e w6 ⟨rfl, hb6⟩))
    go_ret
    exact ⟨rfl, HB1.out.trans ((bel_next hb1 (bel_next hb2 (bel_next hb3 (bel_next hb4 (bel_next hb5 hb6))))).mono HB1.out.size)⟩
end Go.Proofs.Ytiojmekoemlmkaa
