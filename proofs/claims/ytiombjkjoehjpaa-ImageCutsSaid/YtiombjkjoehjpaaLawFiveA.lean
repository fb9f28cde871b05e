/- The walk of a statement of images: what is encoded is decoded as it was; what is decoded is encoded as the bytes that it was. -/
import Derived.Test.YtiombjkjoehjpaaImageS
import Derived.Test.YtiombjkjoehjpaaReadA
namespace Go.Proofs.Ytiombjkjoehjpaa
open Go.ChangeShapes Go.WideShapes Go.ChangeAt Go.RowKit
set_option linter.unusedVariables false

theorem enc_ok {c : Cf} (h : (encV c).2 = 0) : encV c = (encB (cfF c), 0) ∧ decW (encB (cfF c)) = (c, 0) ∧ Bytes (encB (cfF c)) ∧ (encB (cfF c)).length ≤ 16384 ∧ fitL (cfF c) = true := by
  unfold encV at h ⊢
  by_cases hf : fitL (cfF c) = true
  · by_cases hs : szL (cfF c) ≤ 16384
    · rw [if_pos hf, if_pos hs]
      exact ⟨rfl, decW_yes (by rw [szL_enc]; omega) (decV_enc c hf), encB_bytes _, by rw [szL_enc]; exact hs, hf⟩
    · rw [if_pos hf, if_neg hs] at h; simp at h
  · rw [if_neg hf] at h; simp at h
theorem dec_ok {l : List Int} (hb : Bytes l) (h : (decW l).2 = 0) : decV l = some (decW l).1 ∧ encV (decW l).1 = (l, 0) := by
  unfold decW at h ⊢
  by_cases hl : l.length > 16384
  · rw [if_pos hl] at h; simp at h
  · rw [if_neg hl] at h ⊢
    cases hd : decV l with
    | none => rw [hd] at h; simp at h
    | some c =>
      obtain ⟨h1, h2⟩ := enc_decV hb hd
      refine ⟨rfl, ?_⟩
      simp only
      rw [encV_yes h2 (by rw [← szL_enc, h1]; omega), h1]
theorem dec_no {l : List Int} (h : ¬ (decW l).2 = 0) : (decW l).1 = zeroC := by
  unfold decW at h ⊢
  by_cases hl : l.length > 16384
  · rw [if_pos hl]
  · rw [if_neg hl] at h ⊢
    cases hd : decV l with
    | none => rfl
    | some c => rw [hd] at h; simp at h
theorem light_mid {c : Cf} (h : lightB c = true) (hi : c.In) : Mid c := by
  obtain ⟨h1, h2, h3, h4⟩ := lightB_true h
  obtain ⟨_, _, _, hp, _⟩ := hi
  refine ⟨by omega, by omega, by omega, fun p hq => ?_⟩
  have := h4 p hq
  obtain ⟨_, _, _, u0, u1, u2⟩ := hp p hq
  exact ⟨⟨by omega, by omega, by omega⟩, u0, u1, u2⟩
theorem few_mid {c : Cf} (h : Fewc c) : Mid c := by
  obtain ⟨h1, h2, h3, h4⟩ := h
  refine ⟨by omega, by omega, by omega, fun p hq => ?_⟩
  obtain ⟨⟨g1, g2, g3⟩, g4⟩ := h4 p hq
  exact ⟨⟨by omega, by omega, by omega⟩, g4⟩
set_option maxRecDepth 100000 in
set_option maxHeartbeats 2000000 in
theorem back_heavy (wa pa ca : Option Addr) (wc pc cc : Nat) (ba : Option Addr) (bn bc : Nat) (w : World) (c : Cf) (pvs : List Pv) (l : List Int) (ha : SysL w w.heap.size c pvs wa pa ca wc pc cc) (hin : c.In) (hln : l.length = bn) (hl : Lies w 0 w.heap.size (.slice ba bn bc) bn 1 (bts l)) (hby : Bytes l) (hli : lightB c = false) :
    Calls Try.prog 5 #[.agg #[.int .i64 c.frame, .int .i64 c.margin, .slice wa c.ws.length wc, .slice pa c.ps.length pc, .slice ca c.cs.length cc], .slice ba bn bc] w fun e w' => e = .returned (.bool true) ∧ Below w.heap.size w w' := by
  have CL := Lib.hid (fun (W : World) (h : Below w.heap.size w W) => light_any c.frame c.margin wa pa ca _ wc _ pc _ cc W 0 w.heap.size c pvs rfl rfl rfl (ha.l2.keep (SameIn.of_below h (Nat.le_refl _))) (ha.l3.keep (SameIn.of_below h (Nat.le_refl _))) h.size)
  have SS := Lib.hid (fun (W : World) (h : Below w.heap.size w W) => ha.keep (SameIn.of_below h (Nat.le_refl _)))
  have LL := Lib.hid (fun (W : World) (h : Below w.heap.size w W) => hl.keep (SameIn.of_below h (Nat.le_refl _)))
  have HN := Lib.hid hln
  have HBY := Lib.hid hby
  have B0 : Hid (Below w.heap.size w (w.alloc (.cells #[.int .i64 c.frame, .int .i64 c.margin, .slice wa c.ws.length wc, .slice pa c.ps.length pc, .slice ca c.cs.length cc] 26 (0, 0)))) := Lib.hid (below1 _ _)
  have BX : Hid (∀ W : World, Below (w.heap.size + 1) (w.alloc (.cells #[.int .i64 c.frame, .int .i64 c.margin, .slice wa c.ws.length wc, .slice pa c.ps.length pc, .slice ca c.cs.length cc] 26 (0, 0))) W → W.heap[w.heap.size]? = some (.cells #[.int .i64 c.frame, .int .i64 c.margin, .slice wa c.ws.length wc, .slice pa c.ps.length pc, .slice ca c.cs.length cc] 26 (0, 0))) := Lib.hid (fun W h => (h.block _ (by omega)).trans (heap_new_at rfl))
  have HLI := Lib.hid hli
  clear hli ha hin hln hl hby
  go_enter Try.func5, Try.ntmps5
  go_wp2_with (first
      | (go_at_call 8; refine (knows5_any _).mono ?_; rintro e w2 ⟨rfl, hb2⟩)
      | (go_at_call 7; refine (CL.out _ (below1 _ _)).mono ?_; rintro e w1 ⟨rfl, hb1⟩; rw [HLI.out]; have HK1 : Hid (Below (w.heap.size + 1) (w.alloc (.cells #[.int .i64 c.frame, .int .i64 c.margin, .slice wa c.ws.length wc, .slice pa c.ps.length pc, .slice ca c.cs.length cc] 26 (0, 0))) w1) := Lib.hid (hb1.mono (by simp)); clear hb1))
  go_ret
  exact ⟨rfl, B0.out.trans ((HK1.out.mono (by omega)).trans (hb2.mono (by have := HK1.out.size; simp at this; omega)))⟩
set_option maxRecDepth 100000 in
set_option maxHeartbeats 2000000 in
theorem back_long (wa pa ca : Option Addr) (wc pc cc : Nat) (ba : Option Addr) (bn bc : Nat) (w : World) (c : Cf) (pvs : List Pv) (l : List Int) (ha : SysL w w.heap.size c pvs wa pa ca wc pc cc) (hin : c.In) (hln : l.length = bn) (hl : Lies w 0 w.heap.size (.slice ba bn bc) bn 1 (bts l)) (hby : Bytes l) (hli : lightB c = true) (hbig : bn > 5000) :
    Calls Try.prog 5 #[.agg #[.int .i64 c.frame, .int .i64 c.margin, .slice wa c.ws.length wc, .slice pa c.ps.length pc, .slice ca c.cs.length cc], .slice ba bn bc] w fun e w' => e = .returned (.bool true) ∧ Below w.heap.size w w' := by
  have CL := Lib.hid (fun (W : World) (h : Below w.heap.size w W) => light_any c.frame c.margin wa pa ca _ wc _ pc _ cc W 0 w.heap.size c pvs rfl rfl rfl (ha.l2.keep (SameIn.of_below h (Nat.le_refl _))) (ha.l3.keep (SameIn.of_below h (Nat.le_refl _))) h.size)
  have SS := Lib.hid (fun (W : World) (h : Below w.heap.size w W) => ha.keep (SameIn.of_below h (Nat.le_refl _)))
  have LL := Lib.hid (fun (W : World) (h : Below w.heap.size w W) => hl.keep (SameIn.of_below h (Nat.le_refl _)))
  have HN := Lib.hid hln
  have HBY := Lib.hid hby
  have B0 : Hid (Below w.heap.size w (w.alloc (.cells #[.int .i64 c.frame, .int .i64 c.margin, .slice wa c.ws.length wc, .slice pa c.ps.length pc, .slice ca c.cs.length cc] 26 (0, 0)))) := Lib.hid (below1 _ _)
  have BX : Hid (∀ W : World, Below (w.heap.size + 1) (w.alloc (.cells #[.int .i64 c.frame, .int .i64 c.margin, .slice wa c.ws.length wc, .slice pa c.ps.length pc, .slice ca c.cs.length cc] 26 (0, 0))) W → W.heap[w.heap.size]? = some (.cells #[.int .i64 c.frame, .int .i64 c.margin, .slice wa c.ws.length wc, .slice pa c.ps.length pc, .slice ca c.cs.length cc] 26 (0, 0))) := Lib.hid (fun W h => (h.block _ (by omega)).trans (heap_new_at rfl))
  have HLI := Lib.hid hli
  have t1 : decide ((bn : Int) > 5000) = true := by simp; omega
  clear hli ha hin hln hl hby
  go_enter Try.func5, Try.ntmps5
  go_wp2_with (first
      | (go_at_call 8; refine (knows5_any _).mono ?_; rintro e w2 ⟨rfl, hb2⟩)
      | (go_at_call 7; refine (CL.out _ (below1 _ _)).mono ?_; rintro e w1 ⟨rfl, hb1⟩; rw [HLI.out]; have HK1 : Hid (Below (w.heap.size + 1) (w.alloc (.cells #[.int .i64 c.frame, .int .i64 c.margin, .slice wa c.ws.length wc, .slice pa c.ps.length pc, .slice ca c.cs.length cc] 26 (0, 0))) w1) := Lib.hid (hb1.mono (by simp)); clear hb1))
  go_ret
  exact ⟨rfl, B0.out.trans ((HK1.out.mono (by omega)).trans (hb2.mono (by have := HK1.out.size; simp at this; omega)))⟩
set_option maxRecDepth 100000 in
set_option maxHeartbeats 2000000 in
theorem back_nn (wa pa ca : Option Addr) (wc pc cc : Nat) (ba : Option Addr) (bn bc : Nat) (w : World) (c : Cf) (pvs : List Pv) (l : List Int) (ha : SysL w w.heap.size c pvs wa pa ca wc pc cc) (hin : c.In) (hln : l.length = bn) (hl : Lies w 0 w.heap.size (.slice ba bn bc) bn 1 (bts l)) (hby : Bytes l) (hli : lightB c = true) (hbig : ¬ bn > 5000) (he : ¬ (encV c).2 = 0) (hd : ¬ (decW l).2 = 0) :
    Calls Try.prog 5 #[.agg #[.int .i64 c.frame, .int .i64 c.margin, .slice wa c.ws.length wc, .slice pa c.ps.length pc, .slice ca c.cs.length cc], .slice ba bn bc] w fun e w' => e = .returned (.bool true) ∧ Below w.heap.size w w' := by
  have CL := Lib.hid (fun (W : World) (h : Below w.heap.size w W) => light_any c.frame c.margin wa pa ca _ wc _ pc _ cc W 0 w.heap.size c pvs rfl rfl rfl (ha.l2.keep (SameIn.of_below h (Nat.le_refl _))) (ha.l3.keep (SameIn.of_below h (Nat.le_refl _))) h.size)
  have SS := Lib.hid (fun (W : World) (h : Below w.heap.size w W) => ha.keep (SameIn.of_below h (Nat.le_refl _)))
  have LL := Lib.hid (fun (W : World) (h : Below w.heap.size w W) => hl.keep (SameIn.of_below h (Nat.le_refl _)))
  have HN := Lib.hid hln
  have HBY := Lib.hid hby
  have B0 : Hid (Below w.heap.size w (w.alloc (.cells #[.int .i64 c.frame, .int .i64 c.margin, .slice wa c.ws.length wc, .slice pa c.ps.length pc, .slice ca c.cs.length cc] 26 (0, 0)))) := Lib.hid (below1 _ _)
  have BX : Hid (∀ W : World, Below (w.heap.size + 1) (w.alloc (.cells #[.int .i64 c.frame, .int .i64 c.margin, .slice wa c.ws.length wc, .slice pa c.ps.length pc, .slice ca c.cs.length cc] 26 (0, 0))) W → W.heap[w.heap.size]? = some (.cells #[.int .i64 c.frame, .int .i64 c.margin, .slice wa c.ws.length wc, .slice pa c.ps.length pc, .slice ca c.cs.length cc] 26 (0, 0))) := Lib.hid (fun W h => (h.block _ (by omega)).trans (heap_new_at rfl))
  have te : ((encV c).2 == 0) = false := by simp [he]
  clear he
  have HDN : Hid ((decW l).1 = zeroC) := Lib.hid (dec_no hd)
  have td : ((decW l).2 == 0) = false := by simp [hd]
  have td2 : ((decW l).2 != 0) = true := by simp [hd]
  clear hd
  have t1 : decide ((bn : Int) > 5000) = false := by simp; omega
  have HLI := Lib.hid hli
  have HMID := Lib.hid (light_mid hli hin)
  have HFEW := Lib.hid (light_bounds hli)
  clear hli ha hin hln hl hby hbig
  go_enter Try.func5, Try.ntmps5
  go_wp2_with (first
      | (go_at_call 17
         refine (same_sys (hi := w6.heap.size) few_zero (HSY.out.keep (SameIn.of_below (below1 _ _) (Nat.le_refl _))) (sys_zero _ _) (by simp)).mono ?_
         rintro e7 w7 ⟨rfl, hb7⟩
         rw [eqCf_refl])
      | (go_at_call 13
         refine (decode_sys ba bn bc _ 0 w.heap.size l HN.out HBY.out (LL.out _ (B0.out.trans (HK4.out.mono (by omega)))) (by have := HK4.out.size; simp at this; omega)).mono ?_
         rintro e w6 ⟨yvs, ya, yb, yc, yd, ye, yf, rfl, hsy, hfy, hb6⟩
         have HK6 : Hid (Below (w.heap.size + 1) (w.alloc (.cells #[.int .i64 c.frame, .int .i64 c.margin, .slice wa c.ws.length wc, .slice pa c.ps.length pc, .slice ca c.cs.length cc] 26 (0, 0))) w6) := Lib.hid (HK4.out.trans (hb6.mono (by have := HK4.out.size; simp at this; omega)))
         rw [HDN.out] at hsy
         rw [HDN.out]
         have HSY := Lib.hid hsy
         clear hsy hfy
         clear hb6)
      | (go_at_call 9
         refine (encode_sys HMID.out HSX.out (Nat.le_refl _)).mono ?_
         rintro e w4 ⟨xa, xn, xcp, rfl, hxn, hxl, hb4⟩
         clear hxn hxl
         have HK4 : Hid (Below (w.heap.size + 1) (w.alloc (.cells #[.int .i64 c.frame, .int .i64 c.margin, .slice wa c.ws.length wc, .slice pa c.ps.length pc, .slice ca c.cs.length cc] 26 (0, 0))) w4) := Lib.hid (HK3.out.trans (hb4.mono (by have := HK3.out.size; simp at this; omega)))
         clear hb4)
      | (go_at_call 12; refine (num5_any _ _).mono ?_; rintro e9 w9 ⟨rfl, rfl⟩)
      | (go_at_call 10
         refine (config_sys HFEW.out (SS.out _ (B0.out.trans (HK2.out.mono (by omega)))) (by have := HK2.out.size; simp at this; omega)).mono ?_
         rintro e w3 ⟨xvs, wa', pa', ca', wc', pc', cc', rfl, hsx, hb3⟩
         have HSX := Lib.hid hsx
         have HK3 : Hid (Below (w.heap.size + 1) (w.alloc (.cells #[.int .i64 c.frame, .int .i64 c.margin, .slice wa c.ws.length wc, .slice pa c.ps.length pc, .slice ca c.cs.length cc] 26 (0, 0))) w3) := Lib.hid (HK2.out.trans (hb3.mono (by have := HK2.out.size; simp at this; omega)))
         clear hsx hb3)
      | (go_at_call 8
         refine (knows5_any _).mono ?_
         rintro e w2 ⟨rfl, hb2⟩
         have HK2 : Hid (Below (w.heap.size + 1) (w.alloc (.cells #[.int .i64 c.frame, .int .i64 c.margin, .slice wa c.ws.length wc, .slice pa c.ps.length pc, .slice ca c.cs.length cc] 26 (0, 0))) w2) := Lib.hid (HK1.out.trans (hb2.mono (by have := HK1.out.size; simp at this; omega)))
         clear hb2
         have kb := BX.out _ HK2.out
         have qa0 := cell_in (j := 0) kb rfl
         have qa1 := cell_in (j := 1) kb rfl
         have qa2 := cell_in (j := 2) kb rfl
         have qa3 := cell_in (j := 3) kb rfl
         have qa4 := cell_in (j := 4) kb rfl
         clear kb)
      | (go_at_call 7; refine (CL.out _ (below1 _ _)).mono ?_; rintro e w1 ⟨rfl, hb1⟩; rw [HLI.out]; have HK1 : Hid (Below (w.heap.size + 1) (w.alloc (.cells #[.int .i64 c.frame, .int .i64 c.margin, .slice wa c.ws.length wc, .slice pa c.ps.length pc, .slice ca c.cs.length cc] 26 (0, 0))) w1) := Lib.hid (hb1.mono (by simp)); clear hb1))
  go_ret
  exact ⟨rfl, (B0.out.trans (HK6.out.mono (by omega))).trans (((below1 w6 _).mono (by have := HK6.out.size; simp at this; omega)).trans (hb7.mono (by have := HK6.out.size; simp at this; simp; omega)))⟩
set_option maxRecDepth 100000 in
set_option maxHeartbeats 2000000 in
theorem back_ny (wa pa ca : Option Addr) (wc pc cc : Nat) (ba : Option Addr) (bn bc : Nat) (w : World) (c : Cf) (pvs : List Pv) (l : List Int) (ha : SysL w w.heap.size c pvs wa pa ca wc pc cc) (hin : c.In) (hln : l.length = bn) (hl : Lies w 0 w.heap.size (.slice ba bn bc) bn 1 (bts l)) (hby : Bytes l) (hli : lightB c = true) (hbig : ¬ bn > 5000) (he : ¬ (encV c).2 = 0) (hd : (decW l).2 = 0) :
    Calls Try.prog 5 #[.agg #[.int .i64 c.frame, .int .i64 c.margin, .slice wa c.ws.length wc, .slice pa c.ps.length pc, .slice ca c.cs.length cc], .slice ba bn bc] w fun e w' => e = .returned (.bool true) ∧ Below w.heap.size w w' := by
  have CL := Lib.hid (fun (W : World) (h : Below w.heap.size w W) => light_any c.frame c.margin wa pa ca _ wc _ pc _ cc W 0 w.heap.size c pvs rfl rfl rfl (ha.l2.keep (SameIn.of_below h (Nat.le_refl _))) (ha.l3.keep (SameIn.of_below h (Nat.le_refl _))) h.size)
  have SS := Lib.hid (fun (W : World) (h : Below w.heap.size w W) => ha.keep (SameIn.of_below h (Nat.le_refl _)))
  have LL := Lib.hid (fun (W : World) (h : Below w.heap.size w W) => hl.keep (SameIn.of_below h (Nat.le_refl _)))
  have HN := Lib.hid hln
  have HBY := Lib.hid hby
  have B0 : Hid (Below w.heap.size w (w.alloc (.cells #[.int .i64 c.frame, .int .i64 c.margin, .slice wa c.ws.length wc, .slice pa c.ps.length pc, .slice ca c.cs.length cc] 26 (0, 0)))) := Lib.hid (below1 _ _)
  have BX : Hid (∀ W : World, Below (w.heap.size + 1) (w.alloc (.cells #[.int .i64 c.frame, .int .i64 c.margin, .slice wa c.ws.length wc, .slice pa c.ps.length pc, .slice ca c.cs.length cc] 26 (0, 0))) W → W.heap[w.heap.size]? = some (.cells #[.int .i64 c.frame, .int .i64 c.margin, .slice wa c.ws.length wc, .slice pa c.ps.length pc, .slice ca c.cs.length cc] 26 (0, 0))) := Lib.hid (fun W h => (h.block _ (by omega)).trans (heap_new_at rfl))
  have te : ((encV c).2 == 0) = false := by simp [he]
  clear he
  have HD0 : Hid ((decW l).2 = 0) := Lib.hid hd
  have HDE : Hid (encV (decW l).1 = (l, 0)) := Lib.hid (dec_ok hby hd).2
  clear hd
  have t1 : decide ((bn : Int) > 5000) = false := by simp; omega
  have HLI := Lib.hid hli
  have HMID := Lib.hid (light_mid hli hin)
  have HFEW := Lib.hid (light_bounds hli)
  clear hli ha hin hln hl hby hbig
  go_enter Try.func5, Try.ntmps5
  go_wp2_with (first
      | (go_at_call 9
         refine (encode_sys (few_mid HFY.out) (HSY.out.keep (SameIn.of_below (below1 _ _) (Nat.le_refl _))) (by simp)).mono ?_
         rintro e7 w7 ⟨za, zn, zcp, rfl, hzn, hzl, hb7⟩
         rw [HDE.out] at hzn hzl
         rw [HDE.out]
         have hk7 : Below w.heap.size w w7 := (B0.out.trans (HK6.out.mono (by omega))).trans (((below1 w6 _).mono (by have := HK6.out.size; simp at this; omega)).trans (hb7.mono (by have := HK6.out.size; simp at this; simp; omega)))
         have HK7 := Lib.hid hk7
         have cz := str_of hzl hzn
         have cb := str_of (LL.out _ hk7) HN.out
         clear hzl hzn hb7 hk7)
      | (go_at_call 13
         refine (decode_sys ba bn bc _ 0 w.heap.size l HN.out HBY.out (LL.out _ (B0.out.trans (HK4.out.mono (by omega)))) (by have := HK4.out.size; simp at this; omega)).mono ?_
         rintro e w6 ⟨yvs, ya, yb, yc, yd, ye, yf, rfl, hsy, hfy, hb6⟩
         have HK6 : Hid (Below (w.heap.size + 1) (w.alloc (.cells #[.int .i64 c.frame, .int .i64 c.margin, .slice wa c.ws.length wc, .slice pa c.ps.length pc, .slice ca c.cs.length cc] 26 (0, 0))) w6) := Lib.hid (HK4.out.trans (hb6.mono (by have := HK4.out.size; simp at this; omega)))
         rw [HD0.out]
         have HSY := Lib.hid hsy
         have HFY := Lib.hid hfy
         clear hsy hfy
         clear hb6)
      | (go_at_call 9
         refine (encode_sys HMID.out HSX.out (Nat.le_refl _)).mono ?_
         rintro e w4 ⟨xa, xn, xcp, rfl, hxn, hxl, hb4⟩
         clear hxn hxl
         have HK4 : Hid (Below (w.heap.size + 1) (w.alloc (.cells #[.int .i64 c.frame, .int .i64 c.margin, .slice wa c.ws.length wc, .slice pa c.ps.length pc, .slice ca c.cs.length cc] 26 (0, 0))) w4) := Lib.hid (HK3.out.trans (hb4.mono (by have := HK3.out.size; simp at this; omega)))
         clear hb4)
      | (go_at_call 12; refine (num5_any _ _).mono ?_; rintro e9 w9 ⟨rfl, rfl⟩)
      | (go_at_call 10
         refine (config_sys HFEW.out (SS.out _ (B0.out.trans (HK2.out.mono (by omega)))) (by have := HK2.out.size; simp at this; omega)).mono ?_
         rintro e w3 ⟨xvs, wa', pa', ca', wc', pc', cc', rfl, hsx, hb3⟩
         have HSX := Lib.hid hsx
         have HK3 : Hid (Below (w.heap.size + 1) (w.alloc (.cells #[.int .i64 c.frame, .int .i64 c.margin, .slice wa c.ws.length wc, .slice pa c.ps.length pc, .slice ca c.cs.length cc] 26 (0, 0))) w3) := Lib.hid (HK2.out.trans (hb3.mono (by have := HK2.out.size; simp at this; omega)))
         clear hsx hb3)
      | (go_at_call 8
         refine (knows5_any _).mono ?_
         rintro e w2 ⟨rfl, hb2⟩
         have HK2 : Hid (Below (w.heap.size + 1) (w.alloc (.cells #[.int .i64 c.frame, .int .i64 c.margin, .slice wa c.ws.length wc, .slice pa c.ps.length pc, .slice ca c.cs.length cc] 26 (0, 0))) w2) := Lib.hid (HK1.out.trans (hb2.mono (by have := HK1.out.size; simp at this; omega)))
         clear hb2
         have kb := BX.out _ HK2.out
         have qa0 := cell_in (j := 0) kb rfl
         have qa1 := cell_in (j := 1) kb rfl
         have qa2 := cell_in (j := 2) kb rfl
         have qa3 := cell_in (j := 3) kb rfl
         have qa4 := cell_in (j := 4) kb rfl
         clear kb)
      | (go_at_call 7; refine (CL.out _ (below1 _ _)).mono ?_; rintro e w1 ⟨rfl, hb1⟩; rw [HLI.out]; have HK1 : Hid (Below (w.heap.size + 1) (w.alloc (.cells #[.int .i64 c.frame, .int .i64 c.margin, .slice wa c.ws.length wc, .slice pa c.ps.length pc, .slice ca c.cs.length cc] 26 (0, 0))) w1) := Lib.hid (hb1.mono (by simp)); clear hb1))
  go_ret
  exact ⟨rfl, HK7.out⟩
set_option maxRecDepth 100000 in
set_option maxHeartbeats 2000000 in
theorem back_yn (wa pa ca : Option Addr) (wc pc cc : Nat) (ba : Option Addr) (bn bc : Nat) (w : World) (c : Cf) (pvs : List Pv) (l : List Int) (ha : SysL w w.heap.size c pvs wa pa ca wc pc cc) (hin : c.In) (hln : l.length = bn) (hl : Lies w 0 w.heap.size (.slice ba bn bc) bn 1 (bts l)) (hby : Bytes l) (hli : lightB c = true) (hbig : ¬ bn > 5000) (he : (encV c).2 = 0) (hd : ¬ (decW l).2 = 0) :
    Calls Try.prog 5 #[.agg #[.int .i64 c.frame, .int .i64 c.margin, .slice wa c.ws.length wc, .slice pa c.ps.length pc, .slice ca c.cs.length cc], .slice ba bn bc] w fun e w' => e = .returned (.bool true) ∧ Below w.heap.size w w' := by
  have CL := Lib.hid (fun (W : World) (h : Below w.heap.size w W) => light_any c.frame c.margin wa pa ca _ wc _ pc _ cc W 0 w.heap.size c pvs rfl rfl rfl (ha.l2.keep (SameIn.of_below h (Nat.le_refl _))) (ha.l3.keep (SameIn.of_below h (Nat.le_refl _))) h.size)
  have SS := Lib.hid (fun (W : World) (h : Below w.heap.size w W) => ha.keep (SameIn.of_below h (Nat.le_refl _)))
  have LL := Lib.hid (fun (W : World) (h : Below w.heap.size w W) => hl.keep (SameIn.of_below h (Nat.le_refl _)))
  have HN := Lib.hid hln
  have HBY := Lib.hid hby
  have B0 : Hid (Below w.heap.size w (w.alloc (.cells #[.int .i64 c.frame, .int .i64 c.margin, .slice wa c.ws.length wc, .slice pa c.ps.length pc, .slice ca c.cs.length cc] 26 (0, 0)))) := Lib.hid (below1 _ _)
  have BX : Hid (∀ W : World, Below (w.heap.size + 1) (w.alloc (.cells #[.int .i64 c.frame, .int .i64 c.margin, .slice wa c.ws.length wc, .slice pa c.ps.length pc, .slice ca c.cs.length cc] 26 (0, 0))) W → W.heap[w.heap.size]? = some (.cells #[.int .i64 c.frame, .int .i64 c.margin, .slice wa c.ws.length wc, .slice pa c.ps.length pc, .slice ca c.cs.length cc] 26 (0, 0))) := Lib.hid (fun W h => (h.block _ (by omega)).trans (heap_new_at rfl))
  obtain ⟨o1, o2, o3, o4, o5⟩ := enc_ok he
  have HE1 := Lib.hid o1
  have HE2 := Lib.hid o2
  have HE3 := Lib.hid o3
  clear o1 o2 o3 o4 o5 he
  have HDN : Hid ((decW l).1 = zeroC) := Lib.hid (dec_no hd)
  have td : ((decW l).2 == 0) = false := by simp [hd]
  have td2 : ((decW l).2 != 0) = true := by simp [hd]
  clear hd
  have t1 : decide ((bn : Int) > 5000) = false := by simp; omega
  have HLI := Lib.hid hli
  have HMID := Lib.hid (light_mid hli hin)
  have HFEW := Lib.hid (light_bounds hli)
  clear hli ha hin hln hl hby hbig
  go_enter Try.func5, Try.ntmps5
  go_wp2_with (first
      | (go_at_call 13
         refine (decode_sys xa xn xcp _ _ _ (encB (cfF c)) HXN.out HE3.out HXL.out (Nat.le_refl _)).mono ?_
         rintro e w5 ⟨uvs, ua, ub, uc, va, vb, vc, rfl, hsu, hfu, hb5⟩
         rw [HE2.out] at hsu
         rw [HE2.out]
         have HSU := Lib.hid hsu
         have HK5 : Hid (Below (w.heap.size + 1) (w.alloc (.cells #[.int .i64 c.frame, .int .i64 c.margin, .slice wa c.ws.length wc, .slice pa c.ps.length pc, .slice ca c.cs.length cc] 26 (0, 0))) w5) := Lib.hid (HK4.out.trans (hb5.mono (by have := HK4.out.size; simp at this; omega)))
         clear hsu hfu hb5)
      | (go_at_call 9
         refine (encode_sys HMID.out HSX.out (Nat.le_refl _)).mono ?_
         rintro e w4 ⟨xa, xn, xcp, rfl, hxn, hxl, hb4⟩
         rw [HE1.out] at hxn hxl
         rw [HE1.out]
         have HXN := Lib.hid hxn
         have HXL := Lib.hid hxl
         clear hxn hxl
         have HK4 : Hid (Below (w.heap.size + 1) (w.alloc (.cells #[.int .i64 c.frame, .int .i64 c.margin, .slice wa c.ws.length wc, .slice pa c.ps.length pc, .slice ca c.cs.length cc] 26 (0, 0))) w4) := Lib.hid (HK3.out.trans (hb4.mono (by have := HK3.out.size; simp at this; omega)))
         clear hb4)
      | (go_at_call 12; refine (num5_any _ _).mono ?_; rintro e9 w9 ⟨rfl, rfl⟩)
      | (go_at_call 10
         refine (config_sys HFEW.out (SS.out _ (B0.out.trans (HK2.out.mono (by omega)))) (by have := HK2.out.size; simp at this; omega)).mono ?_
         rintro e w3 ⟨xvs, wa', pa', ca', wc', pc', cc', rfl, hsx, hb3⟩
         have HSX := Lib.hid hsx
         have HK3 : Hid (Below (w.heap.size + 1) (w.alloc (.cells #[.int .i64 c.frame, .int .i64 c.margin, .slice wa c.ws.length wc, .slice pa c.ps.length pc, .slice ca c.cs.length cc] 26 (0, 0))) w3) := Lib.hid (HK2.out.trans (hb3.mono (by have := HK2.out.size; simp at this; omega)))
         clear hsx hb3)
      | (go_at_call 8
         refine (knows5_any _).mono ?_
         rintro e w2 ⟨rfl, hb2⟩
         have HK2 : Hid (Below (w.heap.size + 1) (w.alloc (.cells #[.int .i64 c.frame, .int .i64 c.margin, .slice wa c.ws.length wc, .slice pa c.ps.length pc, .slice ca c.cs.length cc] 26 (0, 0))) w2) := Lib.hid (HK1.out.trans (hb2.mono (by have := HK1.out.size; simp at this; omega)))
         clear hb2
         have kb := BX.out _ HK2.out
         have qa0 := cell_in (j := 0) kb rfl
         have qa1 := cell_in (j := 1) kb rfl
         have qa2 := cell_in (j := 2) kb rfl
         have qa3 := cell_in (j := 3) kb rfl
         have qa4 := cell_in (j := 4) kb rfl
         clear kb)
      | (go_at_call 7; refine (CL.out _ (below1 _ _)).mono ?_; rintro e w1 ⟨rfl, hb1⟩; rw [HLI.out]; have HK1 : Hid (Below (w.heap.size + 1) (w.alloc (.cells #[.int .i64 c.frame, .int .i64 c.margin, .slice wa c.ws.length wc, .slice pa c.ps.length pc, .slice ca c.cs.length cc] 26 (0, 0))) w1) := Lib.hid (hb1.mono (by simp)); clear hb1))
  obtain ⟨V, hV⟩ : ∃ V, V = w5.alloc (.cells #[.int .i64 c.frame, .int .i64 c.margin, .slice ua c.ws.length va, .slice ub c.ps.length vb, .slice uc c.cs.length vc] 37 (0, 0)) := ⟨_, rfl⟩
  rw [← hV]
  have HVK : Hid (Below (w.heap.size + 1) (w.alloc (.cells #[.int .i64 c.frame, .int .i64 c.margin, .slice wa c.ws.length wc, .slice pa c.ps.length pc, .slice ca c.cs.length cc] 26 (0, 0))) V) := Lib.hid (by rw [hV]; exact HK5.out.alloc (by have := HK5.out.size; simp at this; simp; omega) _)
  have hv5 : w5.heap.size < V.heap.size := by rw [hV]; simp
  have hvw : w.heap.size < w5.heap.size := by have := HK5.out.size; simp at this; omega
  have kt : V.heap[w5.heap.size]? = some (.cells #[.int .i64 c.frame, .int .i64 c.margin, .slice ua c.ws.length va, .slice ub c.ps.length vb, .slice uc c.cs.length vc] 37 (0, 0)) := by rw [hV]; exact heap_new_at rfl
  have kb2 := BX.out _ HVK.out
  have HSV : Hid (SysL V w5.heap.size c uvs ua ub uc va vb vc) := Lib.hid (by rw [hV]; exact HSU.out.keep (SameIn.of_below (below1 _ _) (Nat.le_refl _)))
  have KS : Hid (∀ W : World, Below V.heap.size V W → (Below V.heap.size V W ∧ W.cell? ⟨w.heap.size, 0, none⟩ = some (.int .i64 c.frame) ∧ W.cell? ⟨w.heap.size, 1, none⟩ = some (.int .i64 c.margin) ∧ W.cell? ⟨w.heap.size, 2, none⟩ = some (.slice wa c.ws.length wc) ∧ W.cell? ⟨w.heap.size, 3, none⟩ = some (.slice pa c.ps.length pc) ∧ W.cell? ⟨w.heap.size, 4, none⟩ = some (.slice ca c.cs.length cc) ∧ W.cell? ⟨w5.heap.size, 0, none⟩ = some (.int .i64 c.frame) ∧ W.cell? ⟨w5.heap.size, 1, none⟩ = some (.int .i64 c.margin) ∧ W.cell? ⟨w5.heap.size, 2, none⟩ = some (.slice ua c.ws.length va) ∧ W.cell? ⟨w5.heap.size, 3, none⟩ = some (.slice ub c.ps.length vb) ∧ W.cell? ⟨w5.heap.size, 4, none⟩ = some (.slice uc c.cs.length vc))) := Lib.hid (by
    intro W h
    have y1 := fun (i : Nat) (u : Value) (hu : (#[.int .i64 c.frame, .int .i64 c.margin, .slice wa c.ws.length wc, .slice pa c.ps.length pc, .slice ca c.cs.length cc] : Array Value)[i]? = some u) => (h.cell (p := ⟨w.heap.size, i, none⟩) (by show w.heap.size < _; omega)).trans (cell_in kb2 hu)
    have y2 := fun (i : Nat) (u : Value) (hu : (#[.int .i64 c.frame, .int .i64 c.margin, .slice ua c.ws.length va, .slice ub c.ps.length vb, .slice uc c.cs.length vc] : Array Value)[i]? = some u) => (h.cell (p := ⟨w5.heap.size, i, none⟩) hv5).trans (cell_in kt hu)
    exact ⟨h, y1 0 _ rfl, y1 1 _ rfl, y1 2 _ rfl, y1 3 _ rfl, y1 4 _ rfl, y2 0 _ rfl, y2 1 _ rfl, y2 2 _ rfl, y2 3 _ rfl, y2 4 _ rfl⟩)
  have CF : Hid (∀ W : World, Below V.heap.size V W → Calls Try.prog 16 #[.agg #[.int .i64 c.frame, .int .i64 c.margin, .slice ua c.ws.length va, .slice ub c.ps.length vb, .slice uc c.cs.length vc]] W fun e w' => ∃ vs i1 i2 i3 j1 j2 j3, e = .returned (.agg #[.int .i64 c.frame, .int .i64 c.margin, .slice i1 c.ws.length j1, .slice i2 c.ps.length j2, .slice i3 c.cs.length j3]) ∧ SysL w' w'.heap.size c vs i1 i2 i3 j1 j2 j3 ∧ Below W.heap.size W w') := Lib.hid (fun W h => ref_sys HFEW.out (HSV.out.keep (SameIn.of_below h (by omega))) (Nat.le_trans (by omega) h.size))
  have CR : Hid (∀ W : World, Below V.heap.size V W → ∀ (vs : List Pv) (i1 i2 i3 : Option Addr) (j1 j2 j3 : Nat), SysL W W.heap.size c vs i1 i2 i3 j1 j2 j3 → Calls Try.prog 15 #[.agg #[.int .i64 c.frame, .int .i64 c.margin, .slice i1 c.ws.length j1, .slice i2 c.ps.length j2, .slice i3 c.cs.length j3], .agg #[.int .i64 c.frame, .int .i64 c.margin, .slice wa c.ws.length wc, .slice pa c.ps.length pc, .slice ca c.cs.length cc]] W fun e w' => e = .returned (.bool true) ∧ Below W.heap.size W w') := Lib.hid (by
    intro W h vs i1 i2 i3 j1 j2 j3 hy
    have hw := B0.out.trans ((HVK.out.mono (by omega)).trans (h.mono (by omega)))
    have r := refSame_sys HFEW.out hy ((SS.out W hw).wider hw.size) (Nat.le_refl _)
    rw [eqCf_refl] at r
    exact r)
  obtain ⟨_, k0, k1, k2, k3, k4, k5, k6, k7, k8, k9⟩ := KS.out _ (Below.refl _ _)
  clear kt kb2 hV
  go_region_held3 (fun W => Below V.heap.size V W ∧ W.cell? ⟨w.heap.size, 0, none⟩ = some (.int .i64 c.frame) ∧ W.cell? ⟨w.heap.size, 1, none⟩ = some (.int .i64 c.margin) ∧ W.cell? ⟨w.heap.size, 2, none⟩ = some (.slice wa c.ws.length wc) ∧ W.cell? ⟨w.heap.size, 3, none⟩ = some (.slice pa c.ps.length pc) ∧ W.cell? ⟨w.heap.size, 4, none⟩ = some (.slice ca c.cs.length cc) ∧ W.cell? ⟨w5.heap.size, 0, none⟩ = some (.int .i64 c.frame) ∧ W.cell? ⟨w5.heap.size, 1, none⟩ = some (.int .i64 c.margin) ∧ W.cell? ⟨w5.heap.size, 2, none⟩ = some (.slice ua c.ws.length va) ∧ W.cell? ⟨w5.heap.size, 3, none⟩ = some (.slice ub c.ps.length vb) ∧ W.cell? ⟨w5.heap.size, 4, none⟩ = some (.slice uc c.cs.length vc))
    (first | exact KS.out _ ((Below.refl _ _).drew) | exact KS.out _ (by assumption))
    (first
      | (go_at_call 12; refine (num5_any _ _).mono ?_; rintro e9 w9 ⟨rfl, rfl⟩)
      | (go_at_call 16; refine (CF.out _ (by go_split_ands; assumption)).mono ?_; rintro e w7 ⟨vs, i1, i2, i3, j1, j2, j3, rfl, hy, hb3⟩; have hbn : Below V.heap.size V w7 := (by go_split_ands; exact bel_go2 (by assumption) hb3); have HZ := Lib.hid hy; clear hy)
      | (go_at_call 15; refine (CR.out _ (by go_split_ands; assumption) _ _ _ _ _ _ _ HZ.out).mono ?_; rintro e w8 ⟨rfl, hb3⟩; have hbn : Below V.heap.size V w8 := (by go_split_ands; exact bel_go2 (by assumption) hb3)))
  have HK8 : Hid (Below (w.heap.size + 1) (w.alloc (.cells #[.int .i64 c.frame, .int .i64 c.margin, .slice wa c.ws.length wc, .slice pa c.ps.length pc, .slice ca c.cs.length cc] 26 (0, 0))) w8) := Lib.hid (HVK.out.trans (hbn.mono (by omega)))
  go_wp2_with (first
      | (go_at_call 17
         refine (same_sys (hi := w6.heap.size) few_zero (HSY.out.keep (SameIn.of_below (below1 _ _) (Nat.le_refl _))) (sys_zero _ _) (by simp)).mono ?_
         rintro e7 w7 ⟨rfl, hb7⟩
         rw [eqCf_refl])
      | (go_at_call 13
         refine (decode_sys ba bn bc _ 0 w.heap.size l HN.out HBY.out (LL.out _ (B0.out.trans (HK8.out.mono (by omega)))) (by have := HK8.out.size; simp at this; omega)).mono ?_
         rintro e w6 ⟨yvs, ya, yb, yc, yd, ye, yf, rfl, hsy, hfy, hb6⟩
         have HK6 : Hid (Below (w.heap.size + 1) (w.alloc (.cells #[.int .i64 c.frame, .int .i64 c.margin, .slice wa c.ws.length wc, .slice pa c.ps.length pc, .slice ca c.cs.length cc] 26 (0, 0))) w6) := Lib.hid (HK8.out.trans (hb6.mono (by have := HK8.out.size; simp at this; omega)))
         rw [HDN.out] at hsy
         rw [HDN.out]
         have HSY := Lib.hid hsy
         clear hsy hfy
         clear hb6)
      | (go_at_call 12; refine (num5_any _ _).mono ?_; rintro e9 w9 ⟨rfl, rfl⟩))
  go_ret
  exact ⟨rfl, (B0.out.trans (HK6.out.mono (by omega))).trans (((below1 w6 _).mono (by have := HK6.out.size; simp at this; omega)).trans (hb7.mono (by have := HK6.out.size; simp at this; simp; omega)))⟩
set_option maxRecDepth 100000 in
set_option maxHeartbeats 2000000 in
theorem back_yy (wa pa ca : Option Addr) (wc pc cc : Nat) (ba : Option Addr) (bn bc : Nat) (w : World) (c : Cf) (pvs : List Pv) (l : List Int) (ha : SysL w w.heap.size c pvs wa pa ca wc pc cc) (hin : c.In) (hln : l.length = bn) (hl : Lies w 0 w.heap.size (.slice ba bn bc) bn 1 (bts l)) (hby : Bytes l) (hli : lightB c = true) (hbig : ¬ bn > 5000) (he : (encV c).2 = 0) (hd : (decW l).2 = 0) :
    Calls Try.prog 5 #[.agg #[.int .i64 c.frame, .int .i64 c.margin, .slice wa c.ws.length wc, .slice pa c.ps.length pc, .slice ca c.cs.length cc], .slice ba bn bc] w fun e w' => e = .returned (.bool true) ∧ Below w.heap.size w w' := by
  have CL := Lib.hid (fun (W : World) (h : Below w.heap.size w W) => light_any c.frame c.margin wa pa ca _ wc _ pc _ cc W 0 w.heap.size c pvs rfl rfl rfl (ha.l2.keep (SameIn.of_below h (Nat.le_refl _))) (ha.l3.keep (SameIn.of_below h (Nat.le_refl _))) h.size)
  have SS := Lib.hid (fun (W : World) (h : Below w.heap.size w W) => ha.keep (SameIn.of_below h (Nat.le_refl _)))
  have LL := Lib.hid (fun (W : World) (h : Below w.heap.size w W) => hl.keep (SameIn.of_below h (Nat.le_refl _)))
  have HN := Lib.hid hln
  have HBY := Lib.hid hby
  have B0 : Hid (Below w.heap.size w (w.alloc (.cells #[.int .i64 c.frame, .int .i64 c.margin, .slice wa c.ws.length wc, .slice pa c.ps.length pc, .slice ca c.cs.length cc] 26 (0, 0)))) := Lib.hid (below1 _ _)
  have BX : Hid (∀ W : World, Below (w.heap.size + 1) (w.alloc (.cells #[.int .i64 c.frame, .int .i64 c.margin, .slice wa c.ws.length wc, .slice pa c.ps.length pc, .slice ca c.cs.length cc] 26 (0, 0))) W → W.heap[w.heap.size]? = some (.cells #[.int .i64 c.frame, .int .i64 c.margin, .slice wa c.ws.length wc, .slice pa c.ps.length pc, .slice ca c.cs.length cc] 26 (0, 0))) := Lib.hid (fun W h => (h.block _ (by omega)).trans (heap_new_at rfl))
  obtain ⟨o1, o2, o3, o4, o5⟩ := enc_ok he
  have HE1 := Lib.hid o1
  have HE2 := Lib.hid o2
  have HE3 := Lib.hid o3
  clear o1 o2 o3 o4 o5 he
  have HD0 : Hid ((decW l).2 = 0) := Lib.hid hd
  have HDE : Hid (encV (decW l).1 = (l, 0)) := Lib.hid (dec_ok hby hd).2
  clear hd
  have t1 : decide ((bn : Int) > 5000) = false := by simp; omega
  have HLI := Lib.hid hli
  have HMID := Lib.hid (light_mid hli hin)
  have HFEW := Lib.hid (light_bounds hli)
  clear hli ha hin hln hl hby hbig
  go_enter Try.func5, Try.ntmps5
  go_wp2_with (first
      | (go_at_call 13
         refine (decode_sys xa xn xcp _ _ _ (encB (cfF c)) HXN.out HE3.out HXL.out (Nat.le_refl _)).mono ?_
         rintro e w5 ⟨uvs, ua, ub, uc, va, vb, vc, rfl, hsu, hfu, hb5⟩
         rw [HE2.out] at hsu
         rw [HE2.out]
         have HSU := Lib.hid hsu
         have HK5 : Hid (Below (w.heap.size + 1) (w.alloc (.cells #[.int .i64 c.frame, .int .i64 c.margin, .slice wa c.ws.length wc, .slice pa c.ps.length pc, .slice ca c.cs.length cc] 26 (0, 0))) w5) := Lib.hid (HK4.out.trans (hb5.mono (by have := HK4.out.size; simp at this; omega)))
         clear hsu hfu hb5)
      | (go_at_call 9
         refine (encode_sys HMID.out HSX.out (Nat.le_refl _)).mono ?_
         rintro e w4 ⟨xa, xn, xcp, rfl, hxn, hxl, hb4⟩
         rw [HE1.out] at hxn hxl
         rw [HE1.out]
         have HXN := Lib.hid hxn
         have HXL := Lib.hid hxl
         clear hxn hxl
         have HK4 : Hid (Below (w.heap.size + 1) (w.alloc (.cells #[.int .i64 c.frame, .int .i64 c.margin, .slice wa c.ws.length wc, .slice pa c.ps.length pc, .slice ca c.cs.length cc] 26 (0, 0))) w4) := Lib.hid (HK3.out.trans (hb4.mono (by have := HK3.out.size; simp at this; omega)))
         clear hb4)
      | (go_at_call 12; refine (num5_any _ _).mono ?_; rintro e9 w9 ⟨rfl, rfl⟩)
      | (go_at_call 10
         refine (config_sys HFEW.out (SS.out _ (B0.out.trans (HK2.out.mono (by omega)))) (by have := HK2.out.size; simp at this; omega)).mono ?_
         rintro e w3 ⟨xvs, wa', pa', ca', wc', pc', cc', rfl, hsx, hb3⟩
         have HSX := Lib.hid hsx
         have HK3 : Hid (Below (w.heap.size + 1) (w.alloc (.cells #[.int .i64 c.frame, .int .i64 c.margin, .slice wa c.ws.length wc, .slice pa c.ps.length pc, .slice ca c.cs.length cc] 26 (0, 0))) w3) := Lib.hid (HK2.out.trans (hb3.mono (by have := HK2.out.size; simp at this; omega)))
         clear hsx hb3)
      | (go_at_call 8
         refine (knows5_any _).mono ?_
         rintro e w2 ⟨rfl, hb2⟩
         have HK2 : Hid (Below (w.heap.size + 1) (w.alloc (.cells #[.int .i64 c.frame, .int .i64 c.margin, .slice wa c.ws.length wc, .slice pa c.ps.length pc, .slice ca c.cs.length cc] 26 (0, 0))) w2) := Lib.hid (HK1.out.trans (hb2.mono (by have := HK1.out.size; simp at this; omega)))
         clear hb2
         have kb := BX.out _ HK2.out
         have qa0 := cell_in (j := 0) kb rfl
         have qa1 := cell_in (j := 1) kb rfl
         have qa2 := cell_in (j := 2) kb rfl
         have qa3 := cell_in (j := 3) kb rfl
         have qa4 := cell_in (j := 4) kb rfl
         clear kb)
      | (go_at_call 7; refine (CL.out _ (below1 _ _)).mono ?_; rintro e w1 ⟨rfl, hb1⟩; rw [HLI.out]; have HK1 : Hid (Below (w.heap.size + 1) (w.alloc (.cells #[.int .i64 c.frame, .int .i64 c.margin, .slice wa c.ws.length wc, .slice pa c.ps.length pc, .slice ca c.cs.length cc] 26 (0, 0))) w1) := Lib.hid (hb1.mono (by simp)); clear hb1))
  obtain ⟨V, hV⟩ : ∃ V, V = w5.alloc (.cells #[.int .i64 c.frame, .int .i64 c.margin, .slice ua c.ws.length va, .slice ub c.ps.length vb, .slice uc c.cs.length vc] 37 (0, 0)) := ⟨_, rfl⟩
  rw [← hV]
  have HVK : Hid (Below (w.heap.size + 1) (w.alloc (.cells #[.int .i64 c.frame, .int .i64 c.margin, .slice wa c.ws.length wc, .slice pa c.ps.length pc, .slice ca c.cs.length cc] 26 (0, 0))) V) := Lib.hid (by rw [hV]; exact HK5.out.alloc (by have := HK5.out.size; simp at this; simp; omega) _)
  have hv5 : w5.heap.size < V.heap.size := by rw [hV]; simp
  have hvw : w.heap.size < w5.heap.size := by have := HK5.out.size; simp at this; omega
  have kt : V.heap[w5.heap.size]? = some (.cells #[.int .i64 c.frame, .int .i64 c.margin, .slice ua c.ws.length va, .slice ub c.ps.length vb, .slice uc c.cs.length vc] 37 (0, 0)) := by rw [hV]; exact heap_new_at rfl
  have kb2 := BX.out _ HVK.out
  have HSV : Hid (SysL V w5.heap.size c uvs ua ub uc va vb vc) := Lib.hid (by rw [hV]; exact HSU.out.keep (SameIn.of_below (below1 _ _) (Nat.le_refl _)))
  have KS : Hid (∀ W : World, Below V.heap.size V W → (Below V.heap.size V W ∧ W.cell? ⟨w.heap.size, 0, none⟩ = some (.int .i64 c.frame) ∧ W.cell? ⟨w.heap.size, 1, none⟩ = some (.int .i64 c.margin) ∧ W.cell? ⟨w.heap.size, 2, none⟩ = some (.slice wa c.ws.length wc) ∧ W.cell? ⟨w.heap.size, 3, none⟩ = some (.slice pa c.ps.length pc) ∧ W.cell? ⟨w.heap.size, 4, none⟩ = some (.slice ca c.cs.length cc) ∧ W.cell? ⟨w5.heap.size, 0, none⟩ = some (.int .i64 c.frame) ∧ W.cell? ⟨w5.heap.size, 1, none⟩ = some (.int .i64 c.margin) ∧ W.cell? ⟨w5.heap.size, 2, none⟩ = some (.slice ua c.ws.length va) ∧ W.cell? ⟨w5.heap.size, 3, none⟩ = some (.slice ub c.ps.length vb) ∧ W.cell? ⟨w5.heap.size, 4, none⟩ = some (.slice uc c.cs.length vc))) := Lib.hid (by
    intro W h
    have y1 := fun (i : Nat) (u : Value) (hu : (#[.int .i64 c.frame, .int .i64 c.margin, .slice wa c.ws.length wc, .slice pa c.ps.length pc, .slice ca c.cs.length cc] : Array Value)[i]? = some u) => (h.cell (p := ⟨w.heap.size, i, none⟩) (by show w.heap.size < _; omega)).trans (cell_in kb2 hu)
    have y2 := fun (i : Nat) (u : Value) (hu : (#[.int .i64 c.frame, .int .i64 c.margin, .slice ua c.ws.length va, .slice ub c.ps.length vb, .slice uc c.cs.length vc] : Array Value)[i]? = some u) => (h.cell (p := ⟨w5.heap.size, i, none⟩) hv5).trans (cell_in kt hu)
    exact ⟨h, y1 0 _ rfl, y1 1 _ rfl, y1 2 _ rfl, y1 3 _ rfl, y1 4 _ rfl, y2 0 _ rfl, y2 1 _ rfl, y2 2 _ rfl, y2 3 _ rfl, y2 4 _ rfl⟩)
  have CF : Hid (∀ W : World, Below V.heap.size V W → Calls Try.prog 16 #[.agg #[.int .i64 c.frame, .int .i64 c.margin, .slice ua c.ws.length va, .slice ub c.ps.length vb, .slice uc c.cs.length vc]] W fun e w' => ∃ vs i1 i2 i3 j1 j2 j3, e = .returned (.agg #[.int .i64 c.frame, .int .i64 c.margin, .slice i1 c.ws.length j1, .slice i2 c.ps.length j2, .slice i3 c.cs.length j3]) ∧ SysL w' w'.heap.size c vs i1 i2 i3 j1 j2 j3 ∧ Below W.heap.size W w') := Lib.hid (fun W h => ref_sys HFEW.out (HSV.out.keep (SameIn.of_below h (by omega))) (Nat.le_trans (by omega) h.size))
  have CR : Hid (∀ W : World, Below V.heap.size V W → ∀ (vs : List Pv) (i1 i2 i3 : Option Addr) (j1 j2 j3 : Nat), SysL W W.heap.size c vs i1 i2 i3 j1 j2 j3 → Calls Try.prog 15 #[.agg #[.int .i64 c.frame, .int .i64 c.margin, .slice i1 c.ws.length j1, .slice i2 c.ps.length j2, .slice i3 c.cs.length j3], .agg #[.int .i64 c.frame, .int .i64 c.margin, .slice wa c.ws.length wc, .slice pa c.ps.length pc, .slice ca c.cs.length cc]] W fun e w' => e = .returned (.bool true) ∧ Below W.heap.size W w') := Lib.hid (by
    intro W h vs i1 i2 i3 j1 j2 j3 hy
    have hw := B0.out.trans ((HVK.out.mono (by omega)).trans (h.mono (by omega)))
    have r := refSame_sys HFEW.out hy ((SS.out W hw).wider hw.size) (Nat.le_refl _)
    rw [eqCf_refl] at r
    exact r)
  obtain ⟨_, k0, k1, k2, k3, k4, k5, k6, k7, k8, k9⟩ := KS.out _ (Below.refl _ _)
  clear kt kb2 hV
  go_region_held3 (fun W => Below V.heap.size V W ∧ W.cell? ⟨w.heap.size, 0, none⟩ = some (.int .i64 c.frame) ∧ W.cell? ⟨w.heap.size, 1, none⟩ = some (.int .i64 c.margin) ∧ W.cell? ⟨w.heap.size, 2, none⟩ = some (.slice wa c.ws.length wc) ∧ W.cell? ⟨w.heap.size, 3, none⟩ = some (.slice pa c.ps.length pc) ∧ W.cell? ⟨w.heap.size, 4, none⟩ = some (.slice ca c.cs.length cc) ∧ W.cell? ⟨w5.heap.size, 0, none⟩ = some (.int .i64 c.frame) ∧ W.cell? ⟨w5.heap.size, 1, none⟩ = some (.int .i64 c.margin) ∧ W.cell? ⟨w5.heap.size, 2, none⟩ = some (.slice ua c.ws.length va) ∧ W.cell? ⟨w5.heap.size, 3, none⟩ = some (.slice ub c.ps.length vb) ∧ W.cell? ⟨w5.heap.size, 4, none⟩ = some (.slice uc c.cs.length vc))
    (first | exact KS.out _ ((Below.refl _ _).drew) | exact KS.out _ (by assumption))
    (first
      | (go_at_call 12; refine (num5_any _ _).mono ?_; rintro e9 w9 ⟨rfl, rfl⟩)
      | (go_at_call 16; refine (CF.out _ (by go_split_ands; assumption)).mono ?_; rintro e w7 ⟨vs, i1, i2, i3, j1, j2, j3, rfl, hy, hb3⟩; have hbn : Below V.heap.size V w7 := (by go_split_ands; exact bel_go2 (by assumption) hb3); have HZ := Lib.hid hy; clear hy)
      | (go_at_call 15; refine (CR.out _ (by go_split_ands; assumption) _ _ _ _ _ _ _ HZ.out).mono ?_; rintro e w8 ⟨rfl, hb3⟩; have hbn : Below V.heap.size V w8 := (by go_split_ands; exact bel_go2 (by assumption) hb3)))
  have HK8 : Hid (Below (w.heap.size + 1) (w.alloc (.cells #[.int .i64 c.frame, .int .i64 c.margin, .slice wa c.ws.length wc, .slice pa c.ps.length pc, .slice ca c.cs.length cc] 26 (0, 0))) w8) := Lib.hid (HVK.out.trans (hbn.mono (by omega)))
  go_wp2_with (first
      | (go_at_call 9
         refine (encode_sys (few_mid HFY.out) (HSY.out.keep (SameIn.of_below (below1 _ _) (Nat.le_refl _))) (by simp)).mono ?_
         rintro e7 w7 ⟨za, zn, zcp, rfl, hzn, hzl, hb7⟩
         rw [HDE.out] at hzn hzl
         rw [HDE.out]
         have hk7 : Below w.heap.size w w7 := (B0.out.trans (HK6.out.mono (by omega))).trans (((below1 w6 _).mono (by have := HK6.out.size; simp at this; omega)).trans (hb7.mono (by have := HK6.out.size; simp at this; simp; omega)))
         have HK7 := Lib.hid hk7
         have cz := str_of hzl hzn
         have cb := str_of (LL.out _ hk7) HN.out
         clear hzl hzn hb7 hk7)
      | (go_at_call 13
         refine (decode_sys ba bn bc _ 0 w.heap.size l HN.out HBY.out (LL.out _ (B0.out.trans (HK8.out.mono (by omega)))) (by have := HK8.out.size; simp at this; omega)).mono ?_
         rintro e w6 ⟨yvs, ya, yb, yc, yd, ye, yf, rfl, hsy, hfy, hb6⟩
         have HK6 : Hid (Below (w.heap.size + 1) (w.alloc (.cells #[.int .i64 c.frame, .int .i64 c.margin, .slice wa c.ws.length wc, .slice pa c.ps.length pc, .slice ca c.cs.length cc] 26 (0, 0))) w6) := Lib.hid (HK8.out.trans (hb6.mono (by have := HK8.out.size; simp at this; omega)))
         rw [HD0.out]
         have HSY := Lib.hid hsy
         have HFY := Lib.hid hfy
         clear hsy hfy
         clear hb6)
      | (go_at_call 12; refine (num5_any _ _).mono ?_; rintro e9 w9 ⟨rfl, rfl⟩))
  go_ret
  exact ⟨rfl, HK7.out⟩
theorem ImageBack_body (wa pa ca : Option Addr) (wc pc cc : Nat) (ba : Option Addr) (bn bc : Nat) (w : World) (c : Cf) (pvs : List Pv) (l : List Int) (ha : SysL w w.heap.size c pvs wa pa ca wc pc cc) (hin : c.In) (hln : l.length = bn) (hl : Lies w 0 w.heap.size (.slice ba bn bc) bn 1 (bts l)) (hby : Bytes l) :
    Calls Try.prog 5 #[.agg #[.int .i64 c.frame, .int .i64 c.margin, .slice wa c.ws.length wc, .slice pa c.ps.length pc, .slice ca c.cs.length cc], .slice ba bn bc] w fun e w' => e = .returned (.bool true) ∧ Below w.heap.size w w' := by
  cases hli : lightB c with
  | false => exact back_heavy wa pa ca wc pc cc ba bn bc w c pvs l ha hin hln hl hby hli
  | true =>
    by_cases hbig : bn > 5000
    · exact back_long wa pa ca wc pc cc ba bn bc w c pvs l ha hin hln hl hby hli hbig
    · by_cases he : (encV c).2 = 0
      · by_cases hd : (decW l).2 = 0
        · exact back_yy wa pa ca wc pc cc ba bn bc w c pvs l ha hin hln hl hby hli hbig he hd
        · exact back_yn wa pa ca wc pc cc ba bn bc w c pvs l ha hin hln hl hby hli hbig he hd
      · by_cases hd : (decW l).2 = 0
        · exact back_ny wa pa ca wc pc cc ba bn bc w c pvs l ha hin hln hl hby hli hbig he hd
        · exact back_nn wa pa ca wc pc cc ba bn bc w c pvs l ha hin hln hl hby hli hbig he hd
end Go.Proofs.Ytiombjkjoehjpaa
