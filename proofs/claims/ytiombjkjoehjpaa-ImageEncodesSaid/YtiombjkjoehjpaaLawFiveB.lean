/- The walk of a statement of images: any system as bytes, or why not. -/
import Derived.Test.YtiombjkjoehjpaaLawFiveA
import Derived.Test.YtiombjkjoehjpaaImageW
namespace Go.Proofs.Ytiombjkjoehjpaa
open Go.ChangeShapes Go.WideShapes Go.ChangeAt Go.RowKit
set_option linter.unusedVariables false

set_option maxRecDepth 100000 in
set_option maxHeartbeats 4000000 in
theorem ImageEncodes_body (wa pa ca : Option Addr) (wc pc cc : Nat) (w : World) (c : Cf) (pvs : List Pv) (ha : SysL w w.heap.size c pvs wa pa ca wc pc cc) (hin : c.In) :
    Calls Try.prog 3 #[.agg #[.int .i64 c.frame, .int .i64 c.margin, .slice wa c.ws.length wc, .slice pa c.ps.length pc, .slice ca c.cs.length cc]] w fun e w' => e = .returned (.bool true) ∧ Below w.heap.size w w' := by
  have CL := Lib.hid (fun (W : World) (h : Below w.heap.size w W) => light_any c.frame c.margin wa pa ca _ wc _ pc _ cc W 0 w.heap.size c pvs rfl rfl rfl (ha.l2.keep (SameIn.of_below h (Nat.le_refl _))) (ha.l3.keep (SameIn.of_below h (Nat.le_refl _))) h.size)
  have SS := Lib.hid (fun (W : World) (h : Below w.heap.size w W) => ha.keep (SameIn.of_below h (Nat.le_refl _)))
  have B0 : Hid (Below w.heap.size w (w.alloc (.cells #[.int .i64 c.frame, .int .i64 c.margin, .slice wa c.ws.length wc, .slice pa c.ps.length pc, .slice ca c.cs.length cc] 26 (0, 0)))) := Lib.hid (below1 _ _)
  have BX : Hid (∀ W : World, Below (w.heap.size + 1) (w.alloc (.cells #[.int .i64 c.frame, .int .i64 c.margin, .slice wa c.ws.length wc, .slice pa c.ps.length pc, .slice ca c.cs.length cc] 26 (0, 0))) W → W.heap[w.heap.size]? = some (.cells #[.int .i64 c.frame, .int .i64 c.margin, .slice wa c.ws.length wc, .slice pa c.ps.length pc, .slice ca c.cs.length cc] 26 (0, 0))) := Lib.hid (fun W h => (h.block _ (by omega)).trans (heap_new_at rfl))
  cases hli : lightB c with
  | false =>
    have HLI := Lib.hid hli
    clear hli ha hin
    go_enter Try.func3, Try.ntmps3
    go_wp2_with (first
      | (go_at_call 8; refine (knows5_any _).mono ?_; rintro e w2 ⟨rfl, hb2⟩)
      | (go_at_call 7; refine (CL.out _ (below1 _ _)).mono ?_; rintro e w1 ⟨rfl, hb1⟩; rw [HLI.out]; have HK1 : Hid (Below (w.heap.size + 1) (w.alloc (.cells #[.int .i64 c.frame, .int .i64 c.margin, .slice wa c.ws.length wc, .slice pa c.ps.length pc, .slice ca c.cs.length cc] 26 (0, 0))) w1) := Lib.hid (hb1.mono (by simp)); clear hb1))
    go_ret
    exact ⟨rfl, B0.out.trans ((HK1.out.mono (by omega)).trans (hb2.mono (by have := HK1.out.size; simp at this; omega)))⟩
  | true =>
    have HLI := Lib.hid hli
    have HMID := Lib.hid (light_mid hli hin)
    have HFEW := Lib.hid (light_bounds hli)
    clear hli ha hin
    go_enter Try.func3, Try.ntmps3
    go_wp2_with (first
      | (go_at_call 8
         refine (knows5_any _).mono ?_
         rintro e w6 ⟨rfl, hb6⟩)
      | (go_at_call 12; refine (num5_any _ _).mono ?_; rintro e9 w9 ⟨rfl, rfl⟩)
      | (go_at_call 11
         have hs4 := SS.out _ (B0.out.trans (HK4.out.mono (by omega)))
         refine (rEncode_any c.frame c.margin wa pa ca _ wc _ pc _ cc _ 0 w.heap.size c.ws c.ps c.cs pvs HFEW.out HMID.out.fair.2.2.2 rfl rfl rfl hs4.l1 hs4.l2 hs4.l3 hs4.l4 (by have := HK4.out.size; simp at this; omega)).mono ?_
         rintro e w5 ⟨ya, yn, ycp, rfl, hyn, hyl, hb5⟩
         have HK5 : Hid (Below (w.heap.size + 1) (w.alloc (.cells #[.int .i64 c.frame, .int .i64 c.margin, .slice wa c.ws.length wc, .slice pa c.ps.length pc, .slice ca c.cs.length cc] 26 (0, 0))) w5) := Lib.hid (HK4.out.trans (hb5.mono (by have := HK4.out.size; simp at this; omega)))
         have cx := str_of (HXL.out.keep (SameIn.of_below hb5 (Nat.le_refl _))) HXN.out
         have cy := str_of hyl hyn
         clear hb5 hyl hyn hs4)
      | (go_at_call 9
         refine (encode_sys HMID.out HSX.out (Nat.le_refl _)).mono ?_
         rintro e w4 ⟨xa, xn, xcp, rfl, hxn, hxl, hb4⟩
         have HXN := Lib.hid hxn
         have HXL := Lib.hid hxl
         have HK4 : Hid (Below (w.heap.size + 1) (w.alloc (.cells #[.int .i64 c.frame, .int .i64 c.margin, .slice wa c.ws.length wc, .slice pa c.ps.length pc, .slice ca c.cs.length cc] 26 (0, 0))) w4) := Lib.hid (HK3.out.trans (hb4.mono (by have := HK3.out.size; simp at this; omega)))
         have kb := BX.out _ HK4.out
         have p0 := cell_in (j := 0) kb rfl
         have p1 := cell_in (j := 1) kb rfl
         have p2 := cell_in (j := 2) kb rfl
         have p3 := cell_in (j := 3) kb rfl
         have p4 := cell_in (j := 4) kb rfl
         clear hb4 hxn hxl kb)
      | (go_at_call 10
         refine (config_sys HFEW.out (SS.out _ (B0.out.trans (HK1.out.mono (by omega)))) (by have := HK1.out.size; simp at this; omega)).mono ?_
         rintro e w3 ⟨xvs, wa', pa', ca', wc', pc', cc', rfl, hsx, hb3⟩
         have HSX := Lib.hid hsx
         have HK3 : Hid (Below (w.heap.size + 1) (w.alloc (.cells #[.int .i64 c.frame, .int .i64 c.margin, .slice wa c.ws.length wc, .slice pa c.ps.length pc, .slice ca c.cs.length cc] 26 (0, 0))) w3) := Lib.hid (HK1.out.trans (hb3.mono (by have := HK1.out.size; simp at this; omega)))
         clear hsx hb3)
      | (go_at_call 7
         refine (CL.out _ (below1 _ _)).mono ?_
         rintro e w1 ⟨rfl, hb1⟩
         rw [HLI.out]
         have HK1 : Hid (Below (w.heap.size + 1) (w.alloc (.cells #[.int .i64 c.frame, .int .i64 c.margin, .slice wa c.ws.length wc, .slice pa c.ps.length pc, .slice ca c.cs.length cc] 26 (0, 0))) w1) := Lib.hid (hb1.mono (by simp))
         have kb := BX.out _ HK1.out
         have q0 := cell_in (j := 0) kb rfl
         have q1 := cell_in (j := 1) kb rfl
         have q2 := cell_in (j := 2) kb rfl
         have q3 := cell_in (j := 3) kb rfl
         have q4 := cell_in (j := 4) kb rfl
         clear hb1 kb))
    go_ret
    exact ⟨rfl, (B0.out.trans (HK5.out.mono (by omega))).trans (hb6.mono (by have := HK5.out.size; simp at this; omega))⟩
end Go.Proofs.Ytiombjkjoehjpaa
