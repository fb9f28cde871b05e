/- The walk of a statement of images: an image without its last bytes, or with more behind it, is none. -/
import Derived.Test.YtiombjkjoehjpaaLawFiveA
import Derived.Test.YtiombjkjoehjpaaSysZ
namespace Go.Proofs.Ytiombjkjoehjpaa
open Go.ChangeShapes Go.WideShapes Go.ChangeAt Go.RowKit
set_option linter.unusedVariables false

theorem decV_more {c : Cf} (h : fitL (cfF c) = true) {r : List Int} (hr : r ≠ []) : decV (encB (cfF c) ++ r) = none := by
  rw [cfF_body, fitL_cons, Bool.and_eq_true] at h
  unfold decV
  have h1 := (codec_num 4).there magicV (encB (bodyF c) ++ r) (by rw [fitL_cons, h.1]; rfl)
  rw [show encB [((4, magicV) : Fl)] = putN 4 magicV by simp [encB]] at h1
  rw [cfF_body, encB_cons, List.append_assoc, h1]
  have h2 := codec_body.there c r h.2
  simp only [if_true]
  rw [h2]
  cases r with
  | nil => exact absurd rfl hr
  | cons x r => rfl
theorem decV_cut {c : Cf} (h : fitL (cfF c) = true) {k : Nat} (hk : k < (encB (cfF c)).length) : decV ((encB (cfF c)).take k) = none := by
  cases hd : decV ((encB (cfF c)).take k) with
  | none => rfl
  | some d =>
    exfalso
    obtain ⟨h1, h2⟩ := enc_decV (fun x hx => encB_bytes _ x (List.mem_of_mem_take hx)) hd
    have h3 := decV_more h2 (r := (encB (cfF c)).drop k) (by intro e; have := congrArg List.length e; rw [List.length_drop] at this; simp at this; omega)
    rw [h1, List.take_append_drop, decV_enc c h] at h3
    cases h3
theorem decW_cut {c : Cf} (h : fitL (cfF c) = true) (hl : (encB (cfF c)).length ≤ 16384) {k : Nat} (hk : k < (encB (cfF c)).length) : decW ((encB (cfF c)).take k) = (zeroC, 10) :=
  decW_no (by rw [List.length_take]; omega) (decV_cut h hk)
theorem decW_more {c : Cf} (h : fitL (cfF c) = true) {r : List Int} (hr : r ≠ []) : ¬ (decW (encB (cfF c) ++ r)).2 = 0 := by
  by_cases hl : (encB (cfF c) ++ r).length > 16384
  · rw [decW_big hl]; decide
  · rw [decW_no hl (decV_more h hr)]; decide
theorem enc_min (c : Cf) : 1 ≤ (encB (cfF c)).length := by
  rw [cfF_body, encB_cons, List.length_append, putN_len]; omega
theorem Lies.front {w : World} {lo hi : Nat} {a : Option Addr} {n cp k : Nat} {l : List Int} (h : Lies w lo hi (.slice a n cp) n 1 (bts l)) (hn : l.length = n) (h1 : 1 ≤ n) (hk : k ≤ n) : Lies w lo hi (.slice a k cp) k 1 (bts (l.take k)) := by
  obtain ⟨a2, c2, e2, hl, h0, hc⟩ := h
  cases e2
  rcases hc with e | ⟨b, off, rfl, hb1, hb2, hc⟩
  · omega
  · refine ⟨_, _, rfl, by rw [bts_len, List.length_take]; omega, (fun e => by cases e), .inr ⟨b, off, rfl, hb1, hb2, fun j u hu => hc j u ?_⟩⟩
    have hj : j < k := by
      have := (List.getElem?_eq_some_iff.1 hu).1
      rw [bts_len, List.length_take] at this
      omega
    rw [← hu]
    unfold bts
    rw [List.map_take, List.getElem?_take, if_pos hj]
theorem Wide.fair {c : Cf} (h : Wide c) (hi : c.In) : FairC c := by
  obtain ⟨h1, h2, h3, h4⟩ := h
  obtain ⟨_, _, _, hp, _⟩ := hi
  refine ⟨by omega, by omega, by omega, fun p hq => ?_⟩
  obtain ⟨g1, g2, g3⟩ := h4 p hq
  obtain ⟨_, _, _, u0, u1, u2⟩ := hp p hq
  exact ⟨by omega, by omega, by omega, u0, u1, u2⟩
theorem bytes_app {a b : List Int} (ha : Bytes a) (hb : Bytes b) : Bytes (a ++ b) := fun x hx => by
  rcases List.mem_append.1 hx with h | h
  · exact ha x h
  · exact hb x h
theorem bts_app (a b : List Int) : bts (a ++ b) = bts a ++ bts b := by simp [bts]
theorem rem_nat (n : Int) (N : Nat) (h : I64 n) (h1 : 1 ≤ N) (h2 : N ≤ 16384) : ∃ k : Nat, k < N ∧ ((wrap64 (n.tmod N + N)).tmod N = k) := by
  have a := Int.tmod_lt_of_pos n (show (0 : Int) < N by omega)
  have b := Int.lt_tmod_of_pos n (show (0 : Int) < N by omega)
  have hp : 0 ≤ n.tmod N + N := by omega
  rw [IntWalk.wrap64_in (n.tmod N + N) ⟨by omega, by omega⟩]
  refine ⟨((n.tmod N + N).tmod N).toNat, ?_, ?_⟩
  · have := Int.tmod_lt_of_pos (n.tmod N + N) (show (0 : Int) < N by omega)
    have := Int.tmod_nonneg N hp
    omega
  · have := Int.tmod_nonneg N hp
    omega
set_option maxRecDepth 100000 in
set_option maxHeartbeats 2000000 in
theorem cuts_heavy (wa pa ca : Option Addr) (wc pc cc : Nat) (n : Int) (ba : Option Addr) (bn bc : Nat) (w : World) (c : Cf) (pvs : List Pv) (ha : SysL w w.heap.size c pvs wa pa ca wc pc cc) (hin : c.In) (hwd : Wide c)
    (hli : lightB c = false) (he : false = true → ((encV c).2 == 0) = false) (hbig : false = true → false = true → bn > 500) :
    Calls Try.prog 6 #[.agg #[.int .i64 c.frame, .int .i64 c.margin, .slice wa c.ws.length wc, .slice pa c.ps.length pc, .slice ca c.cs.length cc], .int .i64 n, .slice ba bn bc] w fun e w' => e = .returned (.bool true) ∧ Below w.heap.size w w' := by
  have CL := Lib.hid (fun (W : World) (h : Below w.heap.size w W) => light_any c.frame c.margin wa pa ca _ wc _ pc _ cc W 0 w.heap.size c pvs rfl rfl rfl (ha.l2.keep (SameIn.of_below h (Nat.le_refl _))) (ha.l3.keep (SameIn.of_below h (Nat.le_refl _))) h.size)
  have SS := Lib.hid (fun (W : World) (h : Below w.heap.size w W) => ha.keep (SameIn.of_below h (Nat.le_refl _)))
  have B0 : Hid (Below w.heap.size w (w.alloc (.cells #[.int .i64 c.frame, .int .i64 c.margin, .slice wa c.ws.length wc, .slice pa c.ps.length pc, .slice ca c.cs.length cc] 26 (0, 0)))) := Lib.hid (below1 _ _)
  have BX : Hid (∀ W : World, Below (w.heap.size + 1) (w.alloc (.cells #[.int .i64 c.frame, .int .i64 c.margin, .slice wa c.ws.length wc, .slice pa c.ps.length pc, .slice ca c.cs.length cc] 26 (0, 0))) W → W.heap[w.heap.size]? = some (.cells #[.int .i64 c.frame, .int .i64 c.margin, .slice wa c.ws.length wc, .slice pa c.ps.length pc, .slice ca c.cs.length cc] 26 (0, 0))) := Lib.hid (fun W h => (h.block _ (by omega)).trans (heap_new_at rfl))
  have HLI := Lib.hid hli
  have HWD := Lib.hid hwd
  have HFC := Lib.hid (hwd.fair hin)
  first
    | (have t1 : decide ((bn : Int) > 500) = true := by have := hbig rfl rfl; simp; omega
       have te2 : ((encV c).2 != 0) = false := by have := he rfl; simp at this; simp [this]
       clear hbig he)
    | (have te2 : ((encV c).2 != 0) = true := by have := he rfl; simp at this; simp [this]
       clear hbig he)
    | (clear hbig he)
  clear hli ha hin hwd
  go_enter Try.func6, Try.ntmps6
  go_wp2_with (first
      | (go_at_call 8; refine (knows5_any _).mono ?_; rintro e w5 ⟨rfl, hb5⟩)
      | (go_at_call 12; refine (num5_any _ _).mono ?_; rintro e9 w9 ⟨rfl, rfl⟩)
      | (go_at_call 7
         refine (CL.out _ (B0.out.trans (HK2.out.mono (by omega)))).mono ?_
         rintro e w3 ⟨rfl, hb3⟩
         rw [HLI.out]
         have HK3 : Hid (Below (w.heap.size + 1) (w.alloc (.cells #[.int .i64 c.frame, .int .i64 c.margin, .slice wa c.ws.length wc, .slice pa c.ps.length pc, .slice ca c.cs.length cc] 26 (0, 0))) w3) := Lib.hid (HK2.out.trans (hb3.mono (by have := HK2.out.size; simp at this; omega)))
         clear hb3)
      | (go_at_call 9
         refine (encode_fair HFC.out HSX.out (Nat.le_refl _)).mono ?_
         rintro e w2 ⟨xa, xn, xcp, rfl, hxn, hxl, hb2⟩
         have HK2 : Hid (Below (w.heap.size + 1) (w.alloc (.cells #[.int .i64 c.frame, .int .i64 c.margin, .slice wa c.ws.length wc, .slice pa c.ps.length pc, .slice ca c.cs.length cc] 26 (0, 0))) w2) := Lib.hid (HK1.out.trans (hb2.mono (by have := HK1.out.size; simp at this; omega)))
         have kb := BX.out _ HK2.out
         have qa0 := cell_in (j := 0) kb rfl
         have qa1 := cell_in (j := 1) kb rfl
         have qa2 := cell_in (j := 2) kb rfl
         have qa3 := cell_in (j := 3) kb rfl
         have qa4 := cell_in (j := 4) kb rfl
         clear kb hxn hxl hb2)
      | (go_at_call 10
         refine (config_wide_sys HWD.out (SS.out _ B0.out) (by simp)).mono ?_
         rintro e w1 ⟨xvs, wa', pa', ca', wc', pc', cc', rfl, hsx, hb1⟩
         have HSX := Lib.hid hsx
         have HK1 : Hid (Below (w.heap.size + 1) (w.alloc (.cells #[.int .i64 c.frame, .int .i64 c.margin, .slice wa c.ws.length wc, .slice pa c.ps.length pc, .slice ca c.cs.length cc] 26 (0, 0))) w1) := Lib.hid (hb1.mono (by simp))
         clear hsx hb1))
  go_ret
  exact ⟨rfl, B0.out.trans ((HK3.out.mono (by omega)).trans (hb5.mono (by have := HK3.out.size; simp at this; omega)))⟩
set_option maxRecDepth 100000 in
set_option maxHeartbeats 2000000 in
theorem cuts_wrong (wa pa ca : Option Addr) (wc pc cc : Nat) (n : Int) (ba : Option Addr) (bn bc : Nat) (w : World) (c : Cf) (pvs : List Pv) (ha : SysL w w.heap.size c pvs wa pa ca wc pc cc) (hin : c.In) (hwd : Wide c)
    (hli : lightB c = true) (he : true = true → ((encV c).2 == 0) = false) (hbig : true = true → false = true → bn > 500) :
    Calls Try.prog 6 #[.agg #[.int .i64 c.frame, .int .i64 c.margin, .slice wa c.ws.length wc, .slice pa c.ps.length pc, .slice ca c.cs.length cc], .int .i64 n, .slice ba bn bc] w fun e w' => e = .returned (.bool true) ∧ Below w.heap.size w w' := by
  have CL := Lib.hid (fun (W : World) (h : Below w.heap.size w W) => light_any c.frame c.margin wa pa ca _ wc _ pc _ cc W 0 w.heap.size c pvs rfl rfl rfl (ha.l2.keep (SameIn.of_below h (Nat.le_refl _))) (ha.l3.keep (SameIn.of_below h (Nat.le_refl _))) h.size)
  have SS := Lib.hid (fun (W : World) (h : Below w.heap.size w W) => ha.keep (SameIn.of_below h (Nat.le_refl _)))
  have B0 : Hid (Below w.heap.size w (w.alloc (.cells #[.int .i64 c.frame, .int .i64 c.margin, .slice wa c.ws.length wc, .slice pa c.ps.length pc, .slice ca c.cs.length cc] 26 (0, 0)))) := Lib.hid (below1 _ _)
  have BX : Hid (∀ W : World, Below (w.heap.size + 1) (w.alloc (.cells #[.int .i64 c.frame, .int .i64 c.margin, .slice wa c.ws.length wc, .slice pa c.ps.length pc, .slice ca c.cs.length cc] 26 (0, 0))) W → W.heap[w.heap.size]? = some (.cells #[.int .i64 c.frame, .int .i64 c.margin, .slice wa c.ws.length wc, .slice pa c.ps.length pc, .slice ca c.cs.length cc] 26 (0, 0))) := Lib.hid (fun W h => (h.block _ (by omega)).trans (heap_new_at rfl))
  have HLI := Lib.hid hli
  have HWD := Lib.hid hwd
  have HFC := Lib.hid (hwd.fair hin)
  first
    | (have t1 : decide ((bn : Int) > 500) = true := by have := hbig rfl rfl; simp; omega
       have te2 : ((encV c).2 != 0) = false := by have := he rfl; simp at this; simp [this]
       clear hbig he)
    | (have te2 : ((encV c).2 != 0) = true := by have := he rfl; simp at this; simp [this]
       clear hbig he)
    | (clear hbig he)
  clear hli ha hin hwd
  go_enter Try.func6, Try.ntmps6
  go_wp2_with (first
      | (go_at_call 8; refine (knows5_any _).mono ?_; rintro e w5 ⟨rfl, hb5⟩)
      | (go_at_call 12; refine (num5_any _ _).mono ?_; rintro e9 w9 ⟨rfl, rfl⟩)
      | (go_at_call 7
         refine (CL.out _ (B0.out.trans (HK2.out.mono (by omega)))).mono ?_
         rintro e w3 ⟨rfl, hb3⟩
         rw [HLI.out]
         have HK3 : Hid (Below (w.heap.size + 1) (w.alloc (.cells #[.int .i64 c.frame, .int .i64 c.margin, .slice wa c.ws.length wc, .slice pa c.ps.length pc, .slice ca c.cs.length cc] 26 (0, 0))) w3) := Lib.hid (HK2.out.trans (hb3.mono (by have := HK2.out.size; simp at this; omega)))
         clear hb3)
      | (go_at_call 9
         refine (encode_fair HFC.out HSX.out (Nat.le_refl _)).mono ?_
         rintro e w2 ⟨xa, xn, xcp, rfl, hxn, hxl, hb2⟩
         have HK2 : Hid (Below (w.heap.size + 1) (w.alloc (.cells #[.int .i64 c.frame, .int .i64 c.margin, .slice wa c.ws.length wc, .slice pa c.ps.length pc, .slice ca c.cs.length cc] 26 (0, 0))) w2) := Lib.hid (HK1.out.trans (hb2.mono (by have := HK1.out.size; simp at this; omega)))
         have kb := BX.out _ HK2.out
         have qa0 := cell_in (j := 0) kb rfl
         have qa1 := cell_in (j := 1) kb rfl
         have qa2 := cell_in (j := 2) kb rfl
         have qa3 := cell_in (j := 3) kb rfl
         have qa4 := cell_in (j := 4) kb rfl
         clear kb hxn hxl hb2)
      | (go_at_call 10
         refine (config_wide_sys HWD.out (SS.out _ B0.out) (by simp)).mono ?_
         rintro e w1 ⟨xvs, wa', pa', ca', wc', pc', cc', rfl, hsx, hb1⟩
         have HSX := Lib.hid hsx
         have HK1 : Hid (Below (w.heap.size + 1) (w.alloc (.cells #[.int .i64 c.frame, .int .i64 c.margin, .slice wa c.ws.length wc, .slice pa c.ps.length pc, .slice ca c.cs.length cc] 26 (0, 0))) w1) := Lib.hid (hb1.mono (by simp))
         clear hsx hb1))
  go_ret
  exact ⟨rfl, B0.out.trans ((HK3.out.mono (by omega)).trans (hb5.mono (by have := HK3.out.size; simp at this; omega)))⟩
set_option maxRecDepth 100000 in
set_option maxHeartbeats 2000000 in
theorem cuts_long (wa pa ca : Option Addr) (wc pc cc : Nat) (n : Int) (ba : Option Addr) (bn bc : Nat) (w : World) (c : Cf) (pvs : List Pv) (ha : SysL w w.heap.size c pvs wa pa ca wc pc cc) (hin : c.In) (hwd : Wide c)
    (hli : lightB c = true) (he : true = true → ((encV c).2 == 0) = true) (hbig : true = true → true = true → bn > 500) :
    Calls Try.prog 6 #[.agg #[.int .i64 c.frame, .int .i64 c.margin, .slice wa c.ws.length wc, .slice pa c.ps.length pc, .slice ca c.cs.length cc], .int .i64 n, .slice ba bn bc] w fun e w' => e = .returned (.bool true) ∧ Below w.heap.size w w' := by
  have CL := Lib.hid (fun (W : World) (h : Below w.heap.size w W) => light_any c.frame c.margin wa pa ca _ wc _ pc _ cc W 0 w.heap.size c pvs rfl rfl rfl (ha.l2.keep (SameIn.of_below h (Nat.le_refl _))) (ha.l3.keep (SameIn.of_below h (Nat.le_refl _))) h.size)
  have SS := Lib.hid (fun (W : World) (h : Below w.heap.size w W) => ha.keep (SameIn.of_below h (Nat.le_refl _)))
  have B0 : Hid (Below w.heap.size w (w.alloc (.cells #[.int .i64 c.frame, .int .i64 c.margin, .slice wa c.ws.length wc, .slice pa c.ps.length pc, .slice ca c.cs.length cc] 26 (0, 0)))) := Lib.hid (below1 _ _)
  have BX : Hid (∀ W : World, Below (w.heap.size + 1) (w.alloc (.cells #[.int .i64 c.frame, .int .i64 c.margin, .slice wa c.ws.length wc, .slice pa c.ps.length pc, .slice ca c.cs.length cc] 26 (0, 0))) W → W.heap[w.heap.size]? = some (.cells #[.int .i64 c.frame, .int .i64 c.margin, .slice wa c.ws.length wc, .slice pa c.ps.length pc, .slice ca c.cs.length cc] 26 (0, 0))) := Lib.hid (fun W h => (h.block _ (by omega)).trans (heap_new_at rfl))
  have HLI := Lib.hid hli
  have HWD := Lib.hid hwd
  have HFC := Lib.hid (hwd.fair hin)
  first
    | (have t1 : decide ((bn : Int) > 500) = true := by have := hbig rfl rfl; simp; omega
       have te2 : ((encV c).2 != 0) = false := by have := he rfl; simp at this; simp [this]
       clear hbig he)
    | (have te2 : ((encV c).2 != 0) = true := by have := he rfl; simp at this; simp [this]
       clear hbig he)
    | (clear hbig he)
  clear hli ha hin hwd
  go_enter Try.func6, Try.ntmps6
  go_wp2_with (first
      | (go_at_call 8; refine (knows5_any _).mono ?_; rintro e w5 ⟨rfl, hb5⟩)
      | (go_at_call 12; refine (num5_any _ _).mono ?_; rintro e9 w9 ⟨rfl, rfl⟩)
      | (go_at_call 7
         refine (CL.out _ (B0.out.trans (HK2.out.mono (by omega)))).mono ?_
         rintro e w3 ⟨rfl, hb3⟩
         rw [HLI.out]
         have HK3 : Hid (Below (w.heap.size + 1) (w.alloc (.cells #[.int .i64 c.frame, .int .i64 c.margin, .slice wa c.ws.length wc, .slice pa c.ps.length pc, .slice ca c.cs.length cc] 26 (0, 0))) w3) := Lib.hid (HK2.out.trans (hb3.mono (by have := HK2.out.size; simp at this; omega)))
         clear hb3)
      | (go_at_call 9
         refine (encode_fair HFC.out HSX.out (Nat.le_refl _)).mono ?_
         rintro e w2 ⟨xa, xn, xcp, rfl, hxn, hxl, hb2⟩
         have HK2 : Hid (Below (w.heap.size + 1) (w.alloc (.cells #[.int .i64 c.frame, .int .i64 c.margin, .slice wa c.ws.length wc, .slice pa c.ps.length pc, .slice ca c.cs.length cc] 26 (0, 0))) w2) := Lib.hid (HK1.out.trans (hb2.mono (by have := HK1.out.size; simp at this; omega)))
         have kb := BX.out _ HK2.out
         have qa0 := cell_in (j := 0) kb rfl
         have qa1 := cell_in (j := 1) kb rfl
         have qa2 := cell_in (j := 2) kb rfl
         have qa3 := cell_in (j := 3) kb rfl
         have qa4 := cell_in (j := 4) kb rfl
         clear kb hxn hxl hb2)
      | (go_at_call 10
         refine (config_wide_sys HWD.out (SS.out _ B0.out) (by simp)).mono ?_
         rintro e w1 ⟨xvs, wa', pa', ca', wc', pc', cc', rfl, hsx, hb1⟩
         have HSX := Lib.hid hsx
         have HK1 : Hid (Below (w.heap.size + 1) (w.alloc (.cells #[.int .i64 c.frame, .int .i64 c.margin, .slice wa c.ws.length wc, .slice pa c.ps.length pc, .slice ca c.cs.length cc] 26 (0, 0))) w1) := Lib.hid (hb1.mono (by simp))
         clear hsx hb1))
  go_ret
  exact ⟨rfl, B0.out.trans ((HK3.out.mono (by omega)).trans (hb5.mono (by have := HK3.out.size; simp at this; omega)))⟩
set_option maxRecDepth 100000 in
set_option maxHeartbeats 2000000 in
theorem cuts_all (wa pa ca : Option Addr) (wc pc cc : Nat) (n : Int) (ba : Option Addr) (bn bc : Nat) (w : World) (c : Cf) (pvs : List Pv) (l : List Int) (ha : SysL w w.heap.size c pvs wa pa ca wc pc cc) (hin : c.In) (hwd : Wide c) (hn64 : I64 n) (hln : l.length = bn) (hl : Lies w 0 w.heap.size (.slice ba bn bc) bn 1 (bts l)) (hby : Bytes l)
    (hli : lightB c = true) (he : (encV c).2 = 0) (hbig : ¬ bn > 500) :
    Calls Try.prog 6 #[.agg #[.int .i64 c.frame, .int .i64 c.margin, .slice wa c.ws.length wc, .slice pa c.ps.length pc, .slice ca c.cs.length cc], .int .i64 n, .slice ba bn bc] w fun e w' => e = .returned (.bool true) ∧ Below w.heap.size w w' := by
  have CL := Lib.hid (fun (W : World) (h : Below w.heap.size w W) => light_any c.frame c.margin wa pa ca _ wc _ pc _ cc W 0 w.heap.size c pvs rfl rfl rfl (ha.l2.keep (SameIn.of_below h (Nat.le_refl _))) (ha.l3.keep (SameIn.of_below h (Nat.le_refl _))) h.size)
  have SS := Lib.hid (fun (W : World) (h : Below w.heap.size w W) => ha.keep (SameIn.of_below h (Nat.le_refl _)))
  have B0 : Hid (Below w.heap.size w (w.alloc (.cells #[.int .i64 c.frame, .int .i64 c.margin, .slice wa c.ws.length wc, .slice pa c.ps.length pc, .slice ca c.cs.length cc] 26 (0, 0)))) := Lib.hid (below1 _ _)
  have BX : Hid (∀ W : World, Below (w.heap.size + 1) (w.alloc (.cells #[.int .i64 c.frame, .int .i64 c.margin, .slice wa c.ws.length wc, .slice pa c.ps.length pc, .slice ca c.cs.length cc] 26 (0, 0))) W → W.heap[w.heap.size]? = some (.cells #[.int .i64 c.frame, .int .i64 c.margin, .slice wa c.ws.length wc, .slice pa c.ps.length pc, .slice ca c.cs.length cc] 26 (0, 0))) := Lib.hid (fun W h => (h.block _ (by omega)).trans (heap_new_at rfl))
  have LL := Lib.hid (fun (W : World) (h : Below w.heap.size w W) => hl.keep (SameIn.of_below h (Nat.le_refl _)))
  have HLI := Lib.hid hli
  have HBY := Lib.hid hby
  obtain ⟨i0, hi0, hz0, hz1, hz2⟩ := info_parts Try.infoU8
  have HI := Lib.hid hi0
  have HN := Lib.hid hln
  have HN64 := Lib.hid hn64
  obtain ⟨o1, o2, o3, o4, o5⟩ := enc_ok he
  have HE1 := Lib.hid o1
  have HE3 := Lib.hid o3
  have HE4 := Lib.hid o4
  have HE5 := Lib.hid o5
  obtain ⟨b, tg, tn, tn2⟩ : ∃ b : Bool, ((decW (encB (cfF c) ++ l)).2 == 0) = b ∧ ((bn : Int) == 0) = b ∧ (bn == 0) = b := by
    by_cases h0 : l = []
    · subst h0
      have hb0 : bn = 0 := hln.symm
      subst hb0
      exact ⟨true, by rw [List.append_nil, o2]; rfl, rfl, rfl⟩
    · have hb0 : bn ≠ 0 := by intro e; apply h0; exact List.eq_nil_of_length_eq_zero (by omega)
      have := decW_more o5 h0
      exact ⟨false, by simp [this], by simp; omega, by simp; omega⟩
  clear o1 o2 o3 o4 o5 he
  have t1 : decide ((bn : Int) > 500) = false := by simp; omega
  have HWD := Lib.hid hwd
  have HFC := Lib.hid (hwd.fair hin)
  clear hli ha hin hwd hn64 hln hl hby hi0
  go_enter Try.func6, Try.ntmps6
  go_wp2_with (first
      | (go_at_call 13
         refine (decode_sys ao2 (xn + bn) cap2 w8 (w6.heap.size + 1) w8.heap.size (encB (cfF c) ++ l) (by rw [List.length_append, HXN.out, HN.out]) (bytes_app HE3.out HBY.out) (Lies.of_owns (HOWN8.out)) (Nat.le_refl _)).mono ?_
         rintro e w10 ⟨zvs, za, zb, zc, zd, ze, zf, rfl, hsz, hfz, hb10⟩
         have HK10 : Hid (Below w.heap.size w w10) := Lib.hid (HK8.out.trans (hb10.mono HK8.out.size))
         clear hsz hfz hb10)
      | (refine wpList_append_lie (by rfl) (.tmp 57) (.tmp 58) 29 (by rfl) (w6.heap.size + 1) 5 i0 _ 1 1 Try.underlying29 HI.out hz0 hz1 hz2 rfl (by omega) (.slice ao xn cap') xn _ (by rfl) HOWN7.out (.slice ba bn bc) 0 w.heap.size bn _ (by rfl) (LL.out _ HK7.out) (bts_one l) (xn + bn) rfl (by simp [maxLen]; omega) (by omega) (by have := HS7.out; omega) ?_
         intro ao2 cap2 w8 hown8 hgrow8
         rw [List.nil_append, ← bts_app] at hown8
         have HOWN8 := Lib.hid hown8
         have HK8 : Hid (Below w.heap.size w w8) := Lib.hid (HK7.out.grown hgrow8 (by have := HK7.out.size; omega) (fun g hg => by have := (owns_block HOWN7.out g hg).1; have := HW6.out; omega))
         clear hown8 hgrow8)
      | (refine wpList_append_lie (by rfl) (.tmp 55) (.tmp 56) 29 (by rfl) (w6.heap.size + 1) 5 i0 _ 1 1 Try.underlying29 HI.out hz0 hz1 hz2 rfl (by omega) (.slice (some ⟨w6.heap.size + 1, 0, none⟩) 0 0) 0 [] (by rfl) ((fresh_none 1).owns (heap_new_at (by simp)) (Nat.le_refl _)) (.slice xa xn xcp) w1.heap.size w2.heap.size xn _ (by rfl) (HXL.out.keep (SameIn.of_below ((HX6.out.alloc HX6.out.size _).alloc (by have := HX6.out.size; simp; omega) _) (Nat.le_refl _))) (bts_one _) xn (by omega) (by simp [maxLen]; omega) (by omega) (by simp only [World.size_alloc]; omega) ?_
         intro ao cap' w7 hown7 hgrow7
         have HOWN7 := Lib.hid hown7
         have HK7 : Hid (Below w.heap.size w w7) := Lib.hid (((HW6B.out.alloc (by have := HW6B.out.size; omega) _).alloc (by have := HW6B.out.size; simp; omega) _).grown hgrow7 (by have := HW6B.out.size; simp; omega) (fun g hg => by simp [Value.ownBlock] at hg; have := HW6.out; omega))
         have HS7 : Hid (w6.heap.size + 1 ≤ w7.heap.size) := Lib.hid (by have := hgrow7.size; simp at this; omega)
         clear hown7 hgrow7)
      | (go_at_call 13
         refine (decode_sys xa k xcp _ _ _ ((encB (cfF c)).take k) HKL.out HKB.out (HKS.out _ (by assumption)) (by have := HX5.out.size; omega)).mono ?_
         rintro e w6 ⟨yvs, ya, yb, yc, yd, ye, yf, rfl, hsy, hfy, hb6⟩
         rw [HDC.out]
         have HK6 : Hid (Below (w.heap.size + 1) (w.alloc (.cells #[.int .i64 c.frame, .int .i64 c.margin, .slice wa c.ws.length wc, .slice pa c.ps.length pc, .slice ca c.cs.length cc] 26 (0, 0))) w6) := Lib.hid (HK5.out.trans (hb6.mono (by have := HK5.out.size; simp at this; omega)))
         have HX6 : Hid (Below w2.heap.size w2 w6) := Lib.hid (HX5.out.trans (hb6.mono HX5.out.size))
         have HW6B : Hid (Below w.heap.size w w6) := Lib.hid (B0.out.trans (HK6.out.mono (by omega)))
         have HW6 : Hid (w.heap.size < w6.heap.size) := Lib.hid (by have := HK6.out.size; simp at this; omega)
         clear hsy hfy hb6)
      | (go_at_call 8
         refine (knows5_any _).mono ?_
         rintro e w5 ⟨rfl, hb5⟩
         have HK5 : Hid (Below (w.heap.size + 1) (w.alloc (.cells #[.int .i64 c.frame, .int .i64 c.margin, .slice wa c.ws.length wc, .slice pa c.ps.length pc, .slice ca c.cs.length cc] 26 (0, 0))) w5) := Lib.hid (HK3.out.trans (hb5.mono (by have := HK3.out.size; simp at this; omega)))
         have HX5 : Hid (Below w2.heap.size w2 w5) := Lib.hid (HX3.out.trans (hb5.mono HX3.out.size))
         obtain ⟨k, hk, HKV⟩ := rem_nat n xn HN64.out (by omega) (by omega)
         have HKL : Hid (((encB (cfF c)).take k).length = k) := Lib.hid (by rw [List.length_take, HXN.out]; omega)
         have HKB : Hid (Bytes ((encB (cfF c)).take k)) := Lib.hid (fun x hx => HE3.out x (List.mem_of_mem_take hx))
         have HKS : Hid (∀ W : World, Below w5.heap.size w5 W → Lies W w1.heap.size w2.heap.size (.slice xa k xcp) k 1 (bts ((encB (cfF c)).take k))) := Lib.hid (fun W h => (HXL.out.front HXN.out (by omega) (by omega)).keep (SameIn.of_below (HX5.out.trans (h.mono HX5.out.size)) (Nat.le_refl _)))
         have HDC : Hid (decW ((encB (cfF c)).take k) = (zeroC, 10)) := Lib.hid (decW_cut HE5.out HE4.out (by rw [HXN.out]; exact hk))
         have B5 := Below.refl w5.heap.size w5
         have k0 : (0 : Int) ≤ (k : Int) := by omega
         have k1 : (k : Int) ≤ (xcp : Int) := by omega
         clear hb5)
      | (go_at_call 12; refine (num5_any _ _).mono ?_; rintro e9 w9 ⟨rfl, rfl⟩)
      | (go_at_call 7
         refine (CL.out _ (B0.out.trans (HK2.out.mono (by omega)))).mono ?_
         rintro e w3 ⟨rfl, hb3⟩
         rw [HLI.out]
         have HK3 : Hid (Below (w.heap.size + 1) (w.alloc (.cells #[.int .i64 c.frame, .int .i64 c.margin, .slice wa c.ws.length wc, .slice pa c.ps.length pc, .slice ca c.cs.length cc] 26 (0, 0))) w3) := Lib.hid (HK2.out.trans (hb3.mono (by have := HK2.out.size; simp at this; omega)))
         have HX3 := Lib.hid hb3
         clear hb3)
      | (go_at_call 9
         refine (encode_cap HFC.out HSX.out (Nat.le_refl _)).mono ?_
         rintro e w2 ⟨xa, xn, xcp, rfl, hxn, hcp, hxl, hb2⟩
         rw [HE1.out] at hxn hxl
         rw [HE1.out]
         replace hxn : (encB (cfF c)).length = xn := hxn
         replace hxl : Lies w2 w1.heap.size w2.heap.size (.slice xa xn xcp) xn 1 (bts (encB (cfF c))) := hxl
         have b1 : 1 ≤ xn := by have := enc_min c; omega
         have b2 : xn ≤ 16384 := by have := HE4.out; omega
         have HXN := Lib.hid hxn
         have HXL := Lib.hid hxl
         have HK2 : Hid (Below (w.heap.size + 1) (w.alloc (.cells #[.int .i64 c.frame, .int .i64 c.margin, .slice wa c.ws.length wc, .slice pa c.ps.length pc, .slice ca c.cs.length cc] 26 (0, 0))) w2) := Lib.hid (HK1.out.trans (hb2.mono (by have := HK1.out.size; simp at this; omega)))
         have kb := BX.out _ HK2.out
         have qa0 := cell_in (j := 0) kb rfl
         have qa1 := cell_in (j := 1) kb rfl
         have qa2 := cell_in (j := 2) kb rfl
         have qa3 := cell_in (j := 3) kb rfl
         have qa4 := cell_in (j := 4) kb rfl
         clear kb hxn hxl hb2)
      | (go_at_call 10
         refine (config_wide_sys HWD.out (SS.out _ B0.out) (by simp)).mono ?_
         rintro e w1 ⟨xvs, wa', pa', ca', wc', pc', cc', rfl, hsx, hb1⟩
         have HSX := Lib.hid hsx
         have HK1 : Hid (Below (w.heap.size + 1) (w.alloc (.cells #[.int .i64 c.frame, .int .i64 c.margin, .slice wa c.ws.length wc, .slice pa c.ps.length pc, .slice ca c.cs.length cc] 26 (0, 0))) w1) := Lib.hid (hb1.mono (by simp))
         clear hsx hb1))
  go_ret
  exact ⟨rfl, HK10.out.alloc HK10.out.size _⟩
theorem ImageCuts_body (wa pa ca : Option Addr) (wc pc cc : Nat) (n : Int) (ba : Option Addr) (bn bc : Nat) (w : World) (c : Cf) (pvs : List Pv) (l : List Int) (ha : SysL w w.heap.size c pvs wa pa ca wc pc cc) (hin : c.In) (hwd : Wide c) (hn64 : I64 n) (hln : l.length = bn) (hl : Lies w 0 w.heap.size (.slice ba bn bc) bn 1 (bts l)) (hby : Bytes l) :
    Calls Try.prog 6 #[.agg #[.int .i64 c.frame, .int .i64 c.margin, .slice wa c.ws.length wc, .slice pa c.ps.length pc, .slice ca c.cs.length cc], .int .i64 n, .slice ba bn bc] w fun e w' => e = .returned (.bool true) ∧ Below w.heap.size w w' := by
  cases hli : lightB c with
  | false => exact cuts_heavy wa pa ca wc pc cc n ba bn bc w c pvs ha hin hwd hli (fun e => by cases e) (fun e => by cases e)
  | true =>
    by_cases he : (encV c).2 = 0
    · by_cases hb : bn > 500
      · exact cuts_long wa pa ca wc pc cc n ba bn bc w c pvs ha hin hwd hli (fun _ => by simp [he]) (fun _ _ => hb)
      · exact cuts_all wa pa ca wc pc cc n ba bn bc w c pvs l ha hin hwd hn64 hln hl hby hli he hb
    · exact cuts_wrong wa pa ca wc pc cc n ba bn bc w c pvs ha hin hwd hli (fun _ => by simp [he]) (fun _ e => by cases e)
end Go.Proofs.Ytiombjkjoehjpaa
