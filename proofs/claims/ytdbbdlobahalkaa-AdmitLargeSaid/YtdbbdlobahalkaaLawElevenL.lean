/- The walk of the statement on what is too large, of a program whose verdicts are as they are asked to be. -/
import Derived.Test.YtdbbdlobahalkaaLawElevenA
import Derived.Test.YtdbbdlobahalkaaAdmitProg
import Derived.Test.YtdbbdlobahalkaaAdmitX
import Derived.Test.YtdbbdlobahalkaaRead
namespace Go.Proofs.Ytdbbdlobahalkaa
open Go.ChangeShapes Go.WideShapes Go.ChangeAt Go.RowKit
set_option linter.unusedVariables false
attribute [local go_sem ↓] Go.wp_at_zero Go.wp_at_succ

theorem far_some {c : Cf} (h : lightB c = true) (hn : nearB c = false) : (∀ x ∈ c.ps, boundOk c.frame x = true) ∧ 0 < c.ps.length := by
  unfold nearB at hn
  rw [h, Bool.true_and, Bool.or_eq_false_iff] at hn
  obtain ⟨h1, h2⟩ := hn
  have h1 := of_decide_eq_false h1
  have h2 := of_decide_eq_false h2
  refine ⟨all_bounded (m := 0) (k := 0) (by decide) (by have e : allV c = allRun c.frame 0 0 c.ps := rfl; rw [← e]; omega), ?_⟩
  rcases Nat.eq_zero_or_pos c.ps.length with e | e
  · have e2 : c.ps = [] := List.length_eq_zero_iff.1 e
    unfold allV at h2
    rw [e2] at h2
    simp [allRun] at h2
  · exact e
set_option maxRecDepth 100000 in
set_option maxHeartbeats 8000000 in
theorem AdmitLarge_of (CJ : JudgeOk) (CSL : SlackOk) (wa pa ca : Option Addr) (wc pc cc : Nat) (m8 : Int) (w : World) (c : Cf) (pvs : List Pv) (h : SysL w w.heap.size c pvs wa pa ca wc pc cc) (hin : c.In) :
    Calls Try.prog 4 #[.agg #[.int .i64 c.frame, .int .i64 c.margin, .slice wa c.ws.length wc, .slice pa c.ps.length pc, .slice ca c.cs.length cc], .int .u8 m8] w fun e w' => e = .returned (.bool true) ∧ Below w.heap.size w w' := by
  obtain ⟨V, hV⟩ : ∃ V, V = w.alloc (.cells #[.int .i64 c.frame, .int .i64 c.margin, .slice wa c.ws.length wc, .slice pa c.ps.length pc, .slice ca c.cs.length cc] 26) := ⟨_, rfl⟩
  have hB1 : Below w.heap.size w V := by rw [hV]; exact below1 _ _
  have ks : ∀ W : World, Below V.heap.size V W → W.cell? ⟨w.heap.size, 0, none⟩ = some (.int .i64 c.frame) ∧ W.cell? ⟨w.heap.size, 1, none⟩ = some (.int .i64 c.margin) ∧ W.cell? ⟨w.heap.size, 2, none⟩ = some (.slice wa c.ws.length wc) ∧ W.cell? ⟨w.heap.size, 3, none⟩ = some (.slice pa c.ps.length pc) ∧ W.cell? ⟨w.heap.size, 4, none⟩ = some (.slice ca c.cs.length cc) := fun W g => by
    rw [hV] at g
    exact boxK5 _ _ _ _ _ _ _ W g
  have SV : SysL V w.heap.size c pvs wa pa ca wc pc cc := h.keep (SameIn.of_below hB1 (Nat.le_refl _))
  have HSA := Lib.hid (fun (W : World) (g : Below V.heap.size V W) => And.intro (h.keep (SameIn.of_below (hB1.trans (g.mono hB1.size)) (Nat.le_refl _))) (Nat.le_trans hB1.size g.size))
  have CL := Lib.hid (light_any c.frame c.margin wa pa ca c.ws.length wc c.ps.length pc c.cs.length cc V 0 w.heap.size c pvs rfl rfl rfl SV.l2 SV.l3 hB1.size)
  have HF64 := Lib.hid hin.1; have HIN := Lib.hid hin.2.2.1
  have hFe : ∃ F : Nat, (checkV c).1 = 0 → c.frame = (F : Int) := by
    by_cases hz : (checkV c).1 = 0
    · obtain ⟨F, hF⟩ := frame_nat hz; exact ⟨F, fun _ => hF⟩
    · exact ⟨0, fun g => absurd g hz⟩
  obtain ⟨F, hFe⟩ := hFe
  have HFE := Lib.hid hFe
  have KS := Lib.hid ks; have HB1 := Lib.hid hB1; have HS := Lib.hid SV; have HV := Lib.hid hV; have HSZ := Lib.hid hB1.size
  clear ks hB1 SV hV h hin
  cases hl : lightB c with
  | false =>
    have HL := Lib.hid hl; clear hl hFe
    go_enter Try.func4, Try.ntmps4
    go_wp2_with (first
      | (go_at_call 12; rw [← HV.out]; refine CL.out.mono ?_; rintro e w1 ⟨rfl, hb1⟩; rw [HL.out]; have HBa := Lib.hid hb1; obtain ⟨z0, z1, z2, z3, z4⟩ := KS.out _ hb1; clear hb1)
      | (go_at_call 6; refine (knows11_any CJ CSL _).mono ?_; rintro e w2 ⟨rfl, hb2⟩; have HBb := Lib.hid (bel_thenD HBa.out (Nat.le_refl _) hb2); clear z0 z1 z2 z3 z4; clear hb2))
    go_ret
    exact ⟨rfl, HB1.out.trans (HBb.out.mono HB1.out.size)⟩
  | true =>
    have HL := Lib.hid hl
    have HF := Lib.hid (light_bounds hl)
    have hpn : c.ps.length ≤ 1000 := HF.out.2.1
    cases hn : nearB c with
    | false =>
      have HN := Lib.hid hn
      obtain ⟨fa, fb⟩ := far_some hl hn
      have HFA := Lib.hid fa
      clear hn hl fa hFe
      go_enter Try.func4, Try.ntmps4
      go_wp2_with (first
        | (go_at_call 12; rw [← HV.out]; refine CL.out.mono ?_; rintro e w1 ⟨rfl, hb1⟩; rw [HL.out]; have HBa := Lib.hid hb1; obtain ⟨z0, z1, z2, z3, z4⟩ := KS.out _ hb1; clear hb1)
        | (go_at_call 6; refine (knows11_any CJ CSL _).mono ?_; rintro e w2 ⟨rfl, hb2⟩; have HBb := Lib.hid (bel_thenD HBa.out (Nat.le_refl _) hb2); clear z0 z1 z2 z3 z4; clear hb2))
      go_loopw [5] (fun i wr => i = .int .i64 0 ∧ Below V.heap.size V wr) (fun _ _ => 0)
      case atStart => exact ⟨rfl, HBb.out⟩
      case round =>
        obtain ⟨rfl, hb⟩ := hrel
        obtain ⟨k, hk0⟩ : ∃ k : Nat, k = 0 := ⟨_, rfl⟩
        have hlt : k < c.ps.length := by omega
        have hi0 : (Value.int .i64 0) = .int .i64 (k : Int) := by rw [hk0]; rfl
        rw [hi0]
        clear hk0 hi0
        obtain ⟨z0, z1, z2, z3, z4⟩ := KS.out wr hb
        have tk : decide ((k : Int) < (c.ps.length : Int)) = true := by simpa using hlt
        obtain ⟨x, pv, ta, sa, da, tc, sc, dc, b, off, hx, rfl, hb2, hpx, s0, s1, s2, s3, s4, s5⟩ := (HSA.out wr hb).1.part (HSA.out wr hb).2 hlt
        obtain ⟨q1, q2, _⟩ := HF.out.2.2.2 x (List.mem_of_getElem? hx)
        have hbw : b < wr.heap.size := by have := (HSA.out wr hb).2; omega
        have l0 : (0 : Int) ≤ (k : Int) := by omega
        have l1 : (k : Int) < (c.ps.length : Int) := by omega
        have KT : Hid (∀ W : World, Below wr.heap.size wr W → Below wr.heap.size wr W ∧ W.cell? ⟨w.heap.size, 0, none⟩ = some (.int .i64 c.frame) ∧ W.cell? ⟨w.heap.size, 1, none⟩ = some (.int .i64 c.margin) ∧ W.cell? ⟨w.heap.size, 2, none⟩ = some (.slice wa c.ws.length wc) ∧ W.cell? ⟨w.heap.size, 3, none⟩ = some (.slice (some ⟨b, off, none⟩) c.ps.length pc) ∧ W.cell? ⟨w.heap.size, 4, none⟩ = some (.slice ca c.cs.length cc) ∧ W.cell? ⟨b, off + k * 6, none⟩ = some (.slice ta x.ts.length tc) ∧ W.cell? ⟨b, off + k * 6 + 1, none⟩ = some (.slice sa x.ss.length sc) ∧ W.cell? ⟨b, off + k * 6 + 2, none⟩ = some (.slice da x.ds.length dc) ∧ W.cell? ⟨b, off + k * 6 + 3, none⟩ = some (.int .u8 pv.a0) ∧ W.cell? ⟨b, off + k * 6 + 4, none⟩ = some (.int .u8 pv.a1) ∧ W.cell? ⟨b, off + k * 6 + 5, none⟩ = some (.int .u8 pv.a2)) := Lib.hid fun W g => by
          obtain ⟨k0, k1, k2, k3, k4⟩ := KS.out W (hb.trans (g.mono hb.size))
          exact ⟨g, k0, k1, k2, k3, k4, (g.cell (p := ⟨b, off + k * 6, none⟩) hbw).trans s0, (g.cell (p := ⟨b, off + k * 6 + 1, none⟩) hbw).trans s1, (g.cell (p := ⟨b, off + k * 6 + 2, none⟩) hbw).trans s2, (g.cell (p := ⟨b, off + k * 6 + 3, none⟩) hbw).trans s3, (g.cell (p := ⟨b, off + k * 6 + 4, none⟩) hbw).trans s4, (g.cell (p := ⟨b, off + k * 6 + 5, none⟩) hbw).trans s5⟩
        have CO := Lib.hid (fun (W : World) (g : Below wr.heap.size wr W) => refBound_at HF64.out (hpx.later g) q1 q2 da x.ds.length dc pv.a0 pv.a1 pv.a2)
        have R0 := Lib.hid (Below.refl wr.heap.size wr)
        have HBr := Lib.hid hb
        clear hpx
        obtain ⟨bv, hbv⟩ : ∃ bv, bv = boundV c.frame x := ⟨_, rfl⟩
        have HBV2 := Lib.hid hbv
        clear hbv
        have HOK := Lib.hid (HFA.out x (List.mem_of_getElem? hx))
        clear hx
        go_wp2_with fail
        go_region_held3 (fun W => Below wr.heap.size wr W ∧ W.cell? ⟨w.heap.size, 0, none⟩ = some (.int .i64 c.frame) ∧ W.cell? ⟨w.heap.size, 1, none⟩ = some (.int .i64 c.margin) ∧ W.cell? ⟨w.heap.size, 2, none⟩ = some (.slice wa c.ws.length wc) ∧ W.cell? ⟨w.heap.size, 3, none⟩ = some (.slice (some ⟨b, off, none⟩) c.ps.length pc) ∧ W.cell? ⟨w.heap.size, 4, none⟩ = some (.slice ca c.cs.length cc) ∧ W.cell? ⟨b, off + k * 6, none⟩ = some (.slice ta x.ts.length tc) ∧ W.cell? ⟨b, off + k * 6 + 1, none⟩ = some (.slice sa x.ss.length sc) ∧ W.cell? ⟨b, off + k * 6 + 2, none⟩ = some (.slice da x.ds.length dc) ∧ W.cell? ⟨b, off + k * 6 + 3, none⟩ = some (.int .u8 pv.a0) ∧ W.cell? ⟨b, off + k * 6 + 4, none⟩ = some (.int .u8 pv.a1) ∧ W.cell? ⟨b, off + k * 6 + 5, none⟩ = some (.int .u8 pv.a2))
          (first | exact KT.out _ R0.out | exact KT.out _ R0.out.drew | exact KT.out _ (by assumption))
          (first
            | (go_at_call 13; refine (CO.out _ R0.out.drew).mono ?_; rintro e w2' ⟨rfl, hb2'⟩; rw [HOK.out, ← HBV2.out]; have hbn : Below wr.heap.size wr w2' := bel_thenD R0.out.drew (Nat.le_refl _) hb2')
            | fail "no arm")
        all_goals go_wp2_with (first
          | (go_at_call 5; refine (near_sys HF64.out (HSA.out _ (bel_thenD HBr.out (Nat.le_refl _) (by assumption))).1 (HSA.out _ (bel_thenD HBr.out (Nat.le_refl _) (by assumption))).2).mono ?_; rintro e w5 ⟨rfl, hb5⟩; rw [HN.out]; have HBn := Lib.hid (bel_thenD (bel_thenD HBr.out (Nat.le_refl _) (by assumption)) (Nat.le_refl _) hb5); clear hb5))
        all_goals go_ret
        all_goals exact ⟨rfl, HB1.out.trans (HBn.out.mono HB1.out.size)⟩
    | true =>
      have HN := Lib.hid hn
      clear hn hl
      go_enter Try.func4, Try.ntmps4
      go_wp2_with (first
        | (go_at_call 12; rw [← HV.out]; refine CL.out.mono ?_; rintro e w1 ⟨rfl, hb1⟩; rw [HL.out]; have HBa := Lib.hid hb1; obtain ⟨z0, z1, z2, z3, z4⟩ := KS.out _ hb1; clear hb1)
        | (go_at_call 6; refine (knows11_any CJ CSL _).mono ?_; rintro e w2 ⟨rfl, hb2⟩; have HBb := Lib.hid (bel_thenD HBa.out (Nat.le_refl _) hb2); clear z0 z1 z2 z3 z4; clear hb2))
      go_loopw [5] (fun i wr => ∃ k : Nat, k ≤ c.ps.length ∧ i = .int .i64 k ∧ Below V.heap.size V wr) (fun i _ => c.ps.length - (intOf i).toNat)
      case atStart => exact ⟨0, by omega, rfl, HBb.out⟩
      case round =>
        obtain ⟨k, hk, rfl, hb⟩ := hrel
        by_cases hlt : k < c.ps.length
        · skip
          obtain ⟨z0, z1, z2, z3, z4⟩ := KS.out wr hb
          have tk : decide ((k : Int) < (c.ps.length : Int)) = true := by simpa using hlt
          obtain ⟨x, pv, ta, sa, da, tc, sc, dc, b, off, hx, rfl, hb2, hpx, s0, s1, s2, s3, s4, s5⟩ := (HSA.out wr hb).1.part (HSA.out wr hb).2 hlt
          obtain ⟨q1, q2, _⟩ := HF.out.2.2.2 x (List.mem_of_getElem? hx)
          have hbw : b < wr.heap.size := by have := (HSA.out wr hb).2; omega
          have l0 : (0 : Int) ≤ (k : Int) := by omega
          have l1 : (k : Int) < (c.ps.length : Int) := by omega
          have KT : Hid (∀ W : World, Below wr.heap.size wr W → Below wr.heap.size wr W ∧ W.cell? ⟨w.heap.size, 0, none⟩ = some (.int .i64 c.frame) ∧ W.cell? ⟨w.heap.size, 1, none⟩ = some (.int .i64 c.margin) ∧ W.cell? ⟨w.heap.size, 2, none⟩ = some (.slice wa c.ws.length wc) ∧ W.cell? ⟨w.heap.size, 3, none⟩ = some (.slice (some ⟨b, off, none⟩) c.ps.length pc) ∧ W.cell? ⟨w.heap.size, 4, none⟩ = some (.slice ca c.cs.length cc) ∧ W.cell? ⟨b, off + k * 6, none⟩ = some (.slice ta x.ts.length tc) ∧ W.cell? ⟨b, off + k * 6 + 1, none⟩ = some (.slice sa x.ss.length sc) ∧ W.cell? ⟨b, off + k * 6 + 2, none⟩ = some (.slice da x.ds.length dc) ∧ W.cell? ⟨b, off + k * 6 + 3, none⟩ = some (.int .u8 pv.a0) ∧ W.cell? ⟨b, off + k * 6 + 4, none⟩ = some (.int .u8 pv.a1) ∧ W.cell? ⟨b, off + k * 6 + 5, none⟩ = some (.int .u8 pv.a2)) := Lib.hid fun W g => by
            obtain ⟨k0, k1, k2, k3, k4⟩ := KS.out W (hb.trans (g.mono hb.size))
            exact ⟨g, k0, k1, k2, k3, k4, (g.cell (p := ⟨b, off + k * 6, none⟩) hbw).trans s0, (g.cell (p := ⟨b, off + k * 6 + 1, none⟩) hbw).trans s1, (g.cell (p := ⟨b, off + k * 6 + 2, none⟩) hbw).trans s2, (g.cell (p := ⟨b, off + k * 6 + 3, none⟩) hbw).trans s3, (g.cell (p := ⟨b, off + k * 6 + 4, none⟩) hbw).trans s4, (g.cell (p := ⟨b, off + k * 6 + 5, none⟩) hbw).trans s5⟩
          have CO := Lib.hid (fun (W : World) (g : Below wr.heap.size wr W) => refBound_at HF64.out (hpx.later g) q1 q2 da x.ds.length dc pv.a0 pv.a1 pv.a2)
          have R0 := Lib.hid (Below.refl wr.heap.size wr)
          have HBr := Lib.hid hb
          clear hpx
          obtain ⟨bv, hbv⟩ : ∃ bv, bv = boundV c.frame x := ⟨_, rfl⟩
          have HBV2 := Lib.hid hbv
          clear hbv
          clear hx
          cases hok : boundOk c.frame x with
          | true =>
            have HOK := Lib.hid hok
            clear hok
            go_wp2_with fail
            go_region_held3 (fun W => Below wr.heap.size wr W ∧ W.cell? ⟨w.heap.size, 0, none⟩ = some (.int .i64 c.frame) ∧ W.cell? ⟨w.heap.size, 1, none⟩ = some (.int .i64 c.margin) ∧ W.cell? ⟨w.heap.size, 2, none⟩ = some (.slice wa c.ws.length wc) ∧ W.cell? ⟨w.heap.size, 3, none⟩ = some (.slice (some ⟨b, off, none⟩) c.ps.length pc) ∧ W.cell? ⟨w.heap.size, 4, none⟩ = some (.slice ca c.cs.length cc) ∧ W.cell? ⟨b, off + k * 6, none⟩ = some (.slice ta x.ts.length tc) ∧ W.cell? ⟨b, off + k * 6 + 1, none⟩ = some (.slice sa x.ss.length sc) ∧ W.cell? ⟨b, off + k * 6 + 2, none⟩ = some (.slice da x.ds.length dc) ∧ W.cell? ⟨b, off + k * 6 + 3, none⟩ = some (.int .u8 pv.a0) ∧ W.cell? ⟨b, off + k * 6 + 4, none⟩ = some (.int .u8 pv.a1) ∧ W.cell? ⟨b, off + k * 6 + 5, none⟩ = some (.int .u8 pv.a2))
              (first | exact KT.out _ R0.out | exact KT.out _ R0.out.drew | exact KT.out _ (by assumption))
              (first
                | (go_at_call 13; refine (CO.out _ R0.out.drew).mono ?_; rintro e w2' ⟨rfl, hb2'⟩; rw [HOK.out, ← HBV2.out]; have hbn : Below wr.heap.size wr w2' := bel_thenD R0.out.drew (Nat.le_refl _) hb2')
                | fail "no arm")
            all_goals go_wp2_with (first
              | (go_at_call 5; refine (near_sys HF64.out (HSA.out _ (bel_thenD HBr.out (Nat.le_refl _) (by assumption))).1 (HSA.out _ (bel_thenD HBr.out (Nat.le_refl _) (by assumption))).2).mono ?_; rintro e w5 ⟨rfl, hb5⟩; rw [HN.out]; have HBn := Lib.hid (bel_thenD (bel_thenD HBr.out (Nat.le_refl _) (by assumption)) (Nat.le_refl _) hb5); clear hb5))
            all_goals go_roundw
            case rel => exact ⟨k + 1, by omega, (by first | rfl | (congr 1; omega) | go_num), HBn.out⟩
            case measure => simp [intOf]; omega
          | false =>
            have HOK := Lib.hid hok
            clear hok
            go_wp2_with fail
            go_region_held3 (fun W => Below wr.heap.size wr W ∧ W.cell? ⟨w.heap.size, 0, none⟩ = some (.int .i64 c.frame) ∧ W.cell? ⟨w.heap.size, 1, none⟩ = some (.int .i64 c.margin) ∧ W.cell? ⟨w.heap.size, 2, none⟩ = some (.slice wa c.ws.length wc) ∧ W.cell? ⟨w.heap.size, 3, none⟩ = some (.slice (some ⟨b, off, none⟩) c.ps.length pc) ∧ W.cell? ⟨w.heap.size, 4, none⟩ = some (.slice ca c.cs.length cc) ∧ W.cell? ⟨b, off + k * 6, none⟩ = some (.slice ta x.ts.length tc) ∧ W.cell? ⟨b, off + k * 6 + 1, none⟩ = some (.slice sa x.ss.length sc) ∧ W.cell? ⟨b, off + k * 6 + 2, none⟩ = some (.slice da x.ds.length dc) ∧ W.cell? ⟨b, off + k * 6 + 3, none⟩ = some (.int .u8 pv.a0) ∧ W.cell? ⟨b, off + k * 6 + 4, none⟩ = some (.int .u8 pv.a1) ∧ W.cell? ⟨b, off + k * 6 + 5, none⟩ = some (.int .u8 pv.a2))
              (first | exact KT.out _ R0.out | exact KT.out _ R0.out.drew | exact KT.out _ (by assumption))
              (first
                | (go_at_call 13; refine (CO.out _ R0.out.drew).mono ?_; rintro e w2' ⟨rfl, hb2'⟩; rw [HOK.out, ← HBV2.out]; have hbn : Below wr.heap.size wr w2' := bel_thenD R0.out.drew (Nat.le_refl _) hb2')
                | fail "no arm")
            all_goals go_wp2_with fail
            all_goals go_roundw
            case rel => exact ⟨k + 1, by omega, (by first | rfl | (congr 1; omega) | go_num), hb.trans ((show Below wr.heap.size wr _ by assumption).mono hb.size)⟩
            case measure => simp [intOf]; omega
        · have tk : decide ((k : Int) < (c.ps.length : Int)) = false := by simp; omega
          obtain ⟨z0, z1, z2, z3, z4⟩ := KS.out wr hb
          have HBw := Lib.hid hb
          have hM : Try.prog.eqGuardType Try.prog.depth 36 = false := by kernel_rfl
          clear hb
          by_cases hz : (checkV c).1 = 0
          · obtain ⟨k0, k1, k2, k3, j1, HJ1, HJ2⟩ : ∃ k0 k1 k2 k3, judgeV c F = (⟨k0, k1, k2, k3⟩, 0) ∧ Hid (0 ≤ (allV c).1 → (⟨k0, k1, k2, k3⟩ : Vd) = ⟨2, (allV c).1, false, 0⟩) ∧ Hid (¬ 0 ≤ (allV c).1 → k0 ≠ 2) := by
              by_cases hg : 0 ≤ (allV c).1
              · exact ⟨_, _, _, _, judge_large hz hg, Lib.hid fun _ => rfl, Lib.hid fun g => absurd hg g⟩
              · obtain ⟨e2, k0, k1, k2, k3, e1, e3, _⟩ := just_cases hz (hFe hz) hg 0 (t := 0) false (by decide) (by decide)
                exact ⟨k0, k1, k2, k3, Prod.ext e1 e2, Lib.hid fun g => absurd g hg, Lib.hid fun _ => e3⟩
            have HJC : Hid ((judgeV c F).1.cells = #[.int .i64 k0, .int .i64 k1, .bool k2, .int .i64 k3]) := Lib.hid (by rw [j1]; rfl)
            have HFV : Hid ((judgeV c F).2 = 0) := Lib.hid (by rw [j1])
            have HC1 : Hid ((checkV c).1 = 0) := Lib.hid hz
            clear j1 hz hFe
            have HA0 : Hid (allV c = allRun c.frame 0 ((0 : Nat) : Int) (c.ps.drop 0)) := Lib.hid rfl
            go_wp2_with (first
              | (go_at_call 7; refine (config_sys HF.out (HSA.out _ HBw.out).1 (HSA.out _ HBw.out).2).mono ?_; rintro e w3 ⟨vs, i1, i2, i3, j1, j2, j3, rfl, hs3, hb3⟩
                 obtain ⟨X, hX⟩ : ∃ X, X = w3.alloc (.cells #[.int .i64 c.frame, .int .i64 c.margin, .slice i1 c.ws.length j1, .slice i2 c.ps.length j2, .slice i3 c.cs.length j3] 33) := ⟨_, rfl⟩
                 have HBc := Lib.hid (bel_thenD HBw.out (Nat.le_refl _) hb3)
                 have hXX : Below w3.heap.size w3 X := by rw [hX]; exact below1 _ _
                 have HBX : Hid (Below V.heap.size V X) := Lib.hid (bel_thenD HBc.out (Nat.le_refl _) hXX)
                 have HSX : Hid (∀ W : World, Below X.heap.size X W → SysL W w3.heap.size c vs i1 i2 i3 j1 j2 j3 ∧ w3.heap.size ≤ W.heap.size) := Lib.hid fun W g => And.intro (hs3.keep (SameIn.of_below (bel_thenD hXX (Nat.le_refl _) g) (Nat.le_refl _))) (bel_thenD hXX (Nat.le_refl _) g).size
                 have KX : Hid (∀ W : World, Below X.heap.size X W → W.cell? ⟨w3.heap.size, 0, none⟩ = some (.int .i64 c.frame) ∧ W.cell? ⟨w3.heap.size, 1, none⟩ = some (.int .i64 c.margin) ∧ W.cell? ⟨w3.heap.size, 2, none⟩ = some (.slice i1 c.ws.length j1) ∧ W.cell? ⟨w3.heap.size, 3, none⟩ = some (.slice i2 c.ps.length j2) ∧ W.cell? ⟨w3.heap.size, 4, none⟩ = some (.slice i3 c.cs.length j3)) := Lib.hid fun W g => by
                   rw [hX] at g
                   exact boxK5 _ _ _ _ _ _ _ W g
                 obtain ⟨x0, x1, x2, x3, x4⟩ := boxK5 w3 (.int .i64 c.frame) (.int .i64 c.margin) (.slice i1 c.ws.length j1) (.slice i2 c.ps.length j2) (.slice i3 c.cs.length j3) 33 _ (Below.refl _ _)
                 have HX := Lib.hid hX
                 clear z0 z1 z2 z3 z4 hs3 hb3 hXX hX)
              | (go_at_call 14; rw [← HX.out]; refine (check_sys HF.out (HSX.out _ (Below.refl _ _)).1 (HSX.out _ (Below.refl _ _)).2 HIN.out).mono ?_; rintro e w6 ⟨rfl, hb6⟩; rw [HC1.out]; have HB6 := Lib.hid hb6; clear x0 x1 x2 x3 x4; obtain ⟨x0, x1, x2, x3, x4⟩ := KX.out _ hb6; clear hb6)
              | (go_at_call 8; refine (CJ _ _ c vs i1 i2 i3 j1 j2 j3 HF.out (HSX.out _ HB6.out).1 (HSX.out _ HB6.out).2 HIN.out HF64.out F HFE.out).mono ?_; rintro e w4 ⟨rfl, hb4⟩; rw [HJC.out, HFV.out]
                 obtain ⟨Y, hY⟩ : ∃ Y, Y = w4.alloc (.cells #[.int .i64 k0, .int .i64 k1, .bool k2, .int .i64 k3] 36) := ⟨_, rfl⟩
                 have hYX : Below X.heap.size X Y := by rw [hY]; have g := bel_thenD HB6.out (Nat.le_refl _) hb4; exact g.alloc g.size _
                 have HBY : Hid (Below V.heap.size V Y) := Lib.hid (bel_thenD HBX.out (Nat.le_refl _) hYX)
                 have HSY : Hid (∀ W : World, Below Y.heap.size Y W → SysL W w3.heap.size c vs i1 i2 i3 j1 j2 j3 ∧ w3.heap.size ≤ W.heap.size) := Lib.hid fun W g => HSX.out W (bel_thenD hYX (Nat.le_refl _) g)
                 have hvv : CellsAt Y w4.heap.size 36 [.int .i64 k0, .int .i64 k1, .bool k2, .int .i64 k3] := by rw [hY]; exact heap_alloc_new _ _
                 have KY : Hid (∀ W : World, Below Y.heap.size Y W → (W.cell? ⟨w3.heap.size, 0, none⟩ = some (.int .i64 c.frame) ∧ W.cell? ⟨w3.heap.size, 1, none⟩ = some (.int .i64 c.margin) ∧ W.cell? ⟨w3.heap.size, 2, none⟩ = some (.slice i1 c.ws.length j1) ∧ W.cell? ⟨w3.heap.size, 3, none⟩ = some (.slice i2 c.ps.length j2) ∧ W.cell? ⟨w3.heap.size, 4, none⟩ = some (.slice i3 c.cs.length j3)) ∧ W.cell? ⟨w4.heap.size, 0, none⟩ = some (.int .i64 k0) ∧ W.cell? ⟨w4.heap.size, 1, none⟩ = some (.int .i64 k1) ∧ W.cell? ⟨w4.heap.size, 2, none⟩ = some (.bool k2) ∧ W.cell? ⟨w4.heap.size, 3, none⟩ = some (.int .i64 k3)) := Lib.hid fun W g => by
                   have g1 := hvv.later g
                   exact ⟨KX.out _ (bel_thenD hYX (Nat.le_refl _) g), (g1.cell (j := 0) rfl).1, (g1.cell (j := 1) rfl).1, (g1.cell (j := 2) rfl).1, (g1.cell (j := 3) rfl).1⟩
                 have HY := Lib.hid hY
                 have HW3 : Hid (w3.heap.size ≤ X.heap.size) := Lib.hid (HSX.out _ (Below.refl _ _)).2
                 clear x0 x1 x2 x3 x4
                 obtain ⟨⟨x0, x1, x2, x3, x4⟩, y0, y1, y2, y3⟩ : ((w4.alloc (.cells #[.int .i64 k0, .int .i64 k1, .bool k2, .int .i64 k3] 36)).cell? ⟨w3.heap.size, 0, none⟩ = some (.int .i64 c.frame) ∧ (w4.alloc (.cells #[.int .i64 k0, .int .i64 k1, .bool k2, .int .i64 k3] 36)).cell? ⟨w3.heap.size, 1, none⟩ = some (.int .i64 c.margin) ∧ (w4.alloc (.cells #[.int .i64 k0, .int .i64 k1, .bool k2, .int .i64 k3] 36)).cell? ⟨w3.heap.size, 2, none⟩ = some (.slice i1 c.ws.length j1) ∧ (w4.alloc (.cells #[.int .i64 k0, .int .i64 k1, .bool k2, .int .i64 k3] 36)).cell? ⟨w3.heap.size, 3, none⟩ = some (.slice i2 c.ps.length j2) ∧ (w4.alloc (.cells #[.int .i64 k0, .int .i64 k1, .bool k2, .int .i64 k3] 36)).cell? ⟨w3.heap.size, 4, none⟩ = some (.slice i3 c.cs.length j3)) ∧ (w4.alloc (.cells #[.int .i64 k0, .int .i64 k1, .bool k2, .int .i64 k3] 36)).cell? ⟨w4.heap.size, 0, none⟩ = some (.int .i64 k0) ∧ (w4.alloc (.cells #[.int .i64 k0, .int .i64 k1, .bool k2, .int .i64 k3] 36)).cell? ⟨w4.heap.size, 1, none⟩ = some (.int .i64 k1) ∧ (w4.alloc (.cells #[.int .i64 k0, .int .i64 k1, .bool k2, .int .i64 k3] 36)).cell? ⟨w4.heap.size, 2, none⟩ = some (.bool k2) ∧ (w4.alloc (.cells #[.int .i64 k0, .int .i64 k1, .bool k2, .int .i64 k3] 36)).cell? ⟨w4.heap.size, 3, none⟩ = some (.int .i64 k3) := by rw [← hY]; exact KY.out _ (Below.refl _ _)
                 clear hb4 hYX hY hvv)
              | (go_at_call 9; refine (num11_any _ _).mono ?_; rintro e w9 ⟨rfl, rfl⟩))
            clear x0 x1 x2 x3 x4 y0 y1 y2 y3
            clear tk hlt
            go_loopw [13] (fun i wr => ∃ (k : Nat) (m : Int), k ≤ c.ps.length ∧ i = .int .i64 k ∧ Hid (allV c = allRun c.frame m (k : Int) (c.ps.drop k)) ∧ Below Y.heap.size Y wr) (fun i _ => c.ps.length - (intOf i).toNat)
            case atStart => exact ⟨0, 0, by omega, rfl, HA0, by rw [← HY.out]; exact Below.refl _ _⟩
            case round =>
              obtain ⟨k, m, hk, rfl, HA, hb⟩ := hrel
              by_cases hlt : k < c.ps.length
              · skip
                obtain ⟨⟨z0, z1, z2, z3, z4⟩, y0, y1, y2, y3⟩ := KY.out wr hb
                have tk2 : decide ((k : Int) < (c.ps.length : Int)) = true := by simpa using hlt
                obtain ⟨x, pv, ta, sa, da, tc, sc, dc, b, off, hx, rfl, hb2, hpx, s0, s1, s2, s3, s4, s5⟩ := (HSY.out wr hb).1.part (HSY.out wr hb).2 hlt
                obtain ⟨q1, q2, _⟩ := HF.out.2.2.2 x (List.mem_of_getElem? hx)
                have hbw : b < wr.heap.size := by have := (HSY.out wr hb).2; omega
                have l0 : (0 : Int) ≤ (k : Int) := by omega
                have l1 : (k : Int) < (c.ps.length : Int) := by omega
                have hnx := drop_some hx
                have KT : Hid (∀ W : World, Below wr.heap.size wr W → Below wr.heap.size wr W ∧ (W.cell? ⟨w3.heap.size, 0, none⟩ = some (.int .i64 c.frame) ∧ W.cell? ⟨w3.heap.size, 1, none⟩ = some (.int .i64 c.margin) ∧ W.cell? ⟨w3.heap.size, 2, none⟩ = some (.slice i1 c.ws.length j1) ∧ W.cell? ⟨w3.heap.size, 3, none⟩ = some (.slice (some ⟨b, off, none⟩) c.ps.length j2) ∧ W.cell? ⟨w3.heap.size, 4, none⟩ = some (.slice i3 c.cs.length j3)) ∧ W.cell? ⟨w4.heap.size, 0, none⟩ = some (.int .i64 k0) ∧ W.cell? ⟨w4.heap.size, 1, none⟩ = some (.int .i64 k1) ∧ W.cell? ⟨w4.heap.size, 2, none⟩ = some (.bool k2) ∧ W.cell? ⟨w4.heap.size, 3, none⟩ = some (.int .i64 k3) ∧ W.cell? ⟨b, off + k * 6, none⟩ = some (.slice ta x.ts.length tc) ∧ W.cell? ⟨b, off + k * 6 + 1, none⟩ = some (.slice sa x.ss.length sc) ∧ W.cell? ⟨b, off + k * 6 + 2, none⟩ = some (.slice da x.ds.length dc) ∧ W.cell? ⟨b, off + k * 6 + 3, none⟩ = some (.int .u8 pv.a0) ∧ W.cell? ⟨b, off + k * 6 + 4, none⟩ = some (.int .u8 pv.a1) ∧ W.cell? ⟨b, off + k * 6 + 5, none⟩ = some (.int .u8 pv.a2)) := Lib.hid fun W g => by
                  obtain ⟨⟨e0, e1, e2, e3, e4⟩, f0, f1, f2, f3⟩ := KY.out W (hb.trans (g.mono hb.size))
                  exact ⟨g, ⟨e0, e1, e2, e3, e4⟩, f0, f1, f2, f3, (g.cell (p := ⟨b, off + k * 6, none⟩) hbw).trans s0, (g.cell (p := ⟨b, off + k * 6 + 1, none⟩) hbw).trans s1, (g.cell (p := ⟨b, off + k * 6 + 2, none⟩) hbw).trans s2, (g.cell (p := ⟨b, off + k * 6 + 3, none⟩) hbw).trans s3, (g.cell (p := ⟨b, off + k * 6 + 4, none⟩) hbw).trans s4, (g.cell (p := ⟨b, off + k * 6 + 5, none⟩) hbw).trans s5⟩
                have CO := Lib.hid (fun (W : World) (g : Below wr.heap.size wr W) => bound_at HF64.out (hpx.later g) q1 q2 da x.ds.length dc pv.a0 pv.a1 pv.a2)
                have R0 := Lib.hid (Below.refl wr.heap.size wr)
                clear hpx hx
                obtain ⟨bv, hbv⟩ : ∃ bv, bv = boundV c.frame x := ⟨_, rfl⟩
                have HBV2 := Lib.hid hbv
                clear hbv
                cases hok : boundOk c.frame x with
                | true =>
                  have HOK := Lib.hid hok
                  have HNX : Hid (allV c = allRun c.frame (max m (boundV c.frame x)) ((k + 1 : Nat) : Int) (c.ps.drop (k + 1))) := Lib.hid (by rw [HA.out, hnx, allRun_next hok]; rfl)
                  clear hok hnx HA
                  go_wp2_with fail
                  go_region_held3 (fun W => Below wr.heap.size wr W ∧ (W.cell? ⟨w3.heap.size, 0, none⟩ = some (.int .i64 c.frame) ∧ W.cell? ⟨w3.heap.size, 1, none⟩ = some (.int .i64 c.margin) ∧ W.cell? ⟨w3.heap.size, 2, none⟩ = some (.slice i1 c.ws.length j1) ∧ W.cell? ⟨w3.heap.size, 3, none⟩ = some (.slice (some ⟨b, off, none⟩) c.ps.length j2) ∧ W.cell? ⟨w3.heap.size, 4, none⟩ = some (.slice i3 c.cs.length j3)) ∧ W.cell? ⟨w4.heap.size, 0, none⟩ = some (.int .i64 k0) ∧ W.cell? ⟨w4.heap.size, 1, none⟩ = some (.int .i64 k1) ∧ W.cell? ⟨w4.heap.size, 2, none⟩ = some (.bool k2) ∧ W.cell? ⟨w4.heap.size, 3, none⟩ = some (.int .i64 k3) ∧ W.cell? ⟨b, off + k * 6, none⟩ = some (.slice ta x.ts.length tc) ∧ W.cell? ⟨b, off + k * 6 + 1, none⟩ = some (.slice sa x.ss.length sc) ∧ W.cell? ⟨b, off + k * 6 + 2, none⟩ = some (.slice da x.ds.length dc) ∧ W.cell? ⟨b, off + k * 6 + 3, none⟩ = some (.int .u8 pv.a0) ∧ W.cell? ⟨b, off + k * 6 + 4, none⟩ = some (.int .u8 pv.a1) ∧ W.cell? ⟨b, off + k * 6 + 5, none⟩ = some (.int .u8 pv.a2))
                    (first | exact KT.out _ R0.out | exact KT.out _ R0.out.drew | exact KT.out _ (by assumption))
                    (first
                      | (go_at_call 15; refine (CO.out _ R0.out.drew).mono ?_; rintro e w2' ⟨rfl, hb2'⟩; rw [HOK.out, ← HBV2.out]; have hbn : Below wr.heap.size wr w2' := bel_thenD R0.out.drew (Nat.le_refl _) hb2')
                      | fail "no arm")
                  all_goals go_wp2_with fail
                  all_goals go_roundw
                  case rel => exact ⟨k + 1, _, by omega, (by first | rfl | (congr 1; omega) | go_num), HNX, hb.trans ((show Below wr.heap.size wr _ by assumption).mono hb.size)⟩
                  case measure => simp [intOf]; omega
                | false =>
                  have HOK := Lib.hid hok
                  have ha : (allV c).1 = (k : Int) := by rw [HA.out, hnx, allRun_stop hok]
                  have hv := HJ1.out (by rw [ha]; omega)
                  rw [ha] at hv
                  have hE : ∀ W : World, (Op.equalIn 10000 36 (.agg #[.int .i64 k0, .int .i64 k1, .bool k2, .int .i64 k3]) (.agg #[.int .i64 2, .int .i64 (k : Int), .bool false, .int .i64 0])).run Try.prog W = .ok true W := fun W => (eqInVd_admit k0 k1 k2 k3 2 k false 0 W).trans (by rw [(eqVd_iff _ _).2 hv])
                  clear hok hnx HA hv ha
                  go_wp2_with fail
                  go_region_held3 (fun W => Below wr.heap.size wr W ∧ (W.cell? ⟨w3.heap.size, 0, none⟩ = some (.int .i64 c.frame) ∧ W.cell? ⟨w3.heap.size, 1, none⟩ = some (.int .i64 c.margin) ∧ W.cell? ⟨w3.heap.size, 2, none⟩ = some (.slice i1 c.ws.length j1) ∧ W.cell? ⟨w3.heap.size, 3, none⟩ = some (.slice (some ⟨b, off, none⟩) c.ps.length j2) ∧ W.cell? ⟨w3.heap.size, 4, none⟩ = some (.slice i3 c.cs.length j3)) ∧ W.cell? ⟨w4.heap.size, 0, none⟩ = some (.int .i64 k0) ∧ W.cell? ⟨w4.heap.size, 1, none⟩ = some (.int .i64 k1) ∧ W.cell? ⟨w4.heap.size, 2, none⟩ = some (.bool k2) ∧ W.cell? ⟨w4.heap.size, 3, none⟩ = some (.int .i64 k3) ∧ W.cell? ⟨b, off + k * 6, none⟩ = some (.slice ta x.ts.length tc) ∧ W.cell? ⟨b, off + k * 6 + 1, none⟩ = some (.slice sa x.ss.length sc) ∧ W.cell? ⟨b, off + k * 6 + 2, none⟩ = some (.slice da x.ds.length dc) ∧ W.cell? ⟨b, off + k * 6 + 3, none⟩ = some (.int .u8 pv.a0) ∧ W.cell? ⟨b, off + k * 6 + 4, none⟩ = some (.int .u8 pv.a1) ∧ W.cell? ⟨b, off + k * 6 + 5, none⟩ = some (.int .u8 pv.a2))
                    (first | exact KT.out _ R0.out | exact KT.out _ R0.out.drew | exact KT.out _ (by assumption))
                    (first
                      | (go_at_call 15; refine (CO.out _ R0.out.drew).mono ?_; rintro e w2' ⟨rfl, hb2'⟩; rw [HOK.out, ← HBV2.out]; have hbn : Below wr.heap.size wr w2' := bel_thenD R0.out.drew (Nat.le_refl _) hb2')
                      | fail "no arm")
                  all_goals go_wp2_with fail
                  all_goals go_ret
                  all_goals exact ⟨rfl, HB1.out.trans ((HBY.out.trans ((hb.trans ((show Below wr.heap.size wr _ by assumption).mono hb.size)).mono HBY.out.size)).mono HB1.out.size)⟩
              · have tk2 : decide ((k : Int) < (c.ps.length : Int)) = false := by simp; omega
                have ha : (allV c).1 = -1 := by rw [HA.out, List.drop_of_length_le (by omega)]; rfl
                have hv := HJ2.out (by rw [ha]; decide)
                have t9 : (k0 != 2) = true := by simpa using hv
                obtain ⟨⟨z0, z1, z2, z3, z4⟩, y0, y1, y2, y3⟩ := KY.out wr hb
                clear ha hv HA
                go_wp2_with (first
                  | (go_at_call 9; refine (num11_any _ _).mono ?_; rintro e w9 ⟨rfl, rfl⟩))
                go_ret
                exact ⟨rfl, HB1.out.trans ((HBY.out.trans (hb.mono HBY.out.size)).mono HB1.out.size)⟩
          · obtain ⟨e1, k0, k1, k2, k3, he, j1, g0, t1, t2, t3⟩ : ∃ e1 k0 k1 k2 k3, (checkV c).1 = e1 ∧ judgeV c F = (⟨k0, k1, k2, k3⟩, e1) ∧ (⟨k0, k1, k2, k3⟩ : Vd) = ⟨0, 0, false, 0⟩ ∧ (e1 != 0) = true ∧ (e1 == 0) = false ∧ (e1 == e1) = true := ⟨_, 0, 0, false, 0, rfl, judge_wrong hz, rfl, by simpa using hz, by simpa using hz, by simp⟩
            have hE : ∀ W : World, (Op.equalIn 10000 36 (.agg #[.int .i64 k0, .int .i64 k1, .bool k2, .int .i64 k3]) (.agg #[.int .i64 0, .int .i64 0, .bool false, .int .i64 0])).run Try.prog W = .ok true W := fun W => (eqInVd_admit k0 k1 k2 k3 0 0 false 0 W).trans (by rw [(eqVd_iff _ _).2 g0])
            have HJC : Hid ((judgeV c F).1.cells = #[.int .i64 k0, .int .i64 k1, .bool k2, .int .i64 k3]) := Lib.hid (by rw [j1]; rfl)
            have HFV : Hid ((judgeV c F).2 = e1) := Lib.hid (by rw [j1])
            have HC1 : Hid ((checkV c).1 = e1) := Lib.hid he
            clear j1 hz hFe he g0
            go_wp2_with (first
              | (go_at_call 7; refine (config_sys HF.out (HSA.out _ HBw.out).1 (HSA.out _ HBw.out).2).mono ?_; rintro e w3 ⟨vs, i1, i2, i3, j1, j2, j3, rfl, hs3, hb3⟩
                 obtain ⟨X, hX⟩ : ∃ X, X = w3.alloc (.cells #[.int .i64 c.frame, .int .i64 c.margin, .slice i1 c.ws.length j1, .slice i2 c.ps.length j2, .slice i3 c.cs.length j3] 33) := ⟨_, rfl⟩
                 have HBc := Lib.hid (bel_thenD HBw.out (Nat.le_refl _) hb3)
                 have hXX : Below w3.heap.size w3 X := by rw [hX]; exact below1 _ _
                 have HBX : Hid (Below V.heap.size V X) := Lib.hid (bel_thenD HBc.out (Nat.le_refl _) hXX)
                 have HSX : Hid (∀ W : World, Below X.heap.size X W → SysL W w3.heap.size c vs i1 i2 i3 j1 j2 j3 ∧ w3.heap.size ≤ W.heap.size) := Lib.hid fun W g => And.intro (hs3.keep (SameIn.of_below (bel_thenD hXX (Nat.le_refl _) g) (Nat.le_refl _))) (bel_thenD hXX (Nat.le_refl _) g).size
                 have KX : Hid (∀ W : World, Below X.heap.size X W → W.cell? ⟨w3.heap.size, 0, none⟩ = some (.int .i64 c.frame) ∧ W.cell? ⟨w3.heap.size, 1, none⟩ = some (.int .i64 c.margin) ∧ W.cell? ⟨w3.heap.size, 2, none⟩ = some (.slice i1 c.ws.length j1) ∧ W.cell? ⟨w3.heap.size, 3, none⟩ = some (.slice i2 c.ps.length j2) ∧ W.cell? ⟨w3.heap.size, 4, none⟩ = some (.slice i3 c.cs.length j3)) := Lib.hid fun W g => by
                   rw [hX] at g
                   exact boxK5 _ _ _ _ _ _ _ W g
                 obtain ⟨x0, x1, x2, x3, x4⟩ := boxK5 w3 (.int .i64 c.frame) (.int .i64 c.margin) (.slice i1 c.ws.length j1) (.slice i2 c.ps.length j2) (.slice i3 c.cs.length j3) 33 _ (Below.refl _ _)
                 have HX := Lib.hid hX
                 clear z0 z1 z2 z3 z4 hs3 hb3 hXX hX)
              | (go_at_call 14; rw [← HX.out]; refine (check_sys HF.out (HSX.out _ (Below.refl _ _)).1 (HSX.out _ (Below.refl _ _)).2 HIN.out).mono ?_; rintro e w6 ⟨rfl, hb6⟩; rw [HC1.out]; have HB6 := Lib.hid hb6; clear x0 x1 x2 x3 x4; obtain ⟨x0, x1, x2, x3, x4⟩ := KX.out _ hb6; clear hb6)
              | (go_at_call 8; refine (CJ _ _ c vs i1 i2 i3 j1 j2 j3 HF.out (HSX.out _ HB6.out).1 (HSX.out _ HB6.out).2 HIN.out HF64.out F HFE.out).mono ?_; rintro e w4 ⟨rfl, hb4⟩; rw [HJC.out, HFV.out]
                 obtain ⟨Y, hY⟩ : ∃ Y, Y = w4.alloc (.cells #[.int .i64 k0, .int .i64 k1, .bool k2, .int .i64 k3] 36) := ⟨_, rfl⟩
                 have hYX : Below X.heap.size X Y := by rw [hY]; have g := bel_thenD HB6.out (Nat.le_refl _) hb4; exact g.alloc g.size _
                 have HBY : Hid (Below V.heap.size V Y) := Lib.hid (bel_thenD HBX.out (Nat.le_refl _) hYX)
                 have HSY : Hid (∀ W : World, Below Y.heap.size Y W → SysL W w3.heap.size c vs i1 i2 i3 j1 j2 j3 ∧ w3.heap.size ≤ W.heap.size) := Lib.hid fun W g => HSX.out W (bel_thenD hYX (Nat.le_refl _) g)
                 have hvv : CellsAt Y w4.heap.size 36 [.int .i64 k0, .int .i64 k1, .bool k2, .int .i64 k3] := by rw [hY]; exact heap_alloc_new _ _
                 have KY : Hid (∀ W : World, Below Y.heap.size Y W → (W.cell? ⟨w3.heap.size, 0, none⟩ = some (.int .i64 c.frame) ∧ W.cell? ⟨w3.heap.size, 1, none⟩ = some (.int .i64 c.margin) ∧ W.cell? ⟨w3.heap.size, 2, none⟩ = some (.slice i1 c.ws.length j1) ∧ W.cell? ⟨w3.heap.size, 3, none⟩ = some (.slice i2 c.ps.length j2) ∧ W.cell? ⟨w3.heap.size, 4, none⟩ = some (.slice i3 c.cs.length j3)) ∧ W.cell? ⟨w4.heap.size, 0, none⟩ = some (.int .i64 k0) ∧ W.cell? ⟨w4.heap.size, 1, none⟩ = some (.int .i64 k1) ∧ W.cell? ⟨w4.heap.size, 2, none⟩ = some (.bool k2) ∧ W.cell? ⟨w4.heap.size, 3, none⟩ = some (.int .i64 k3)) := Lib.hid fun W g => by
                   have g1 := hvv.later g
                   exact ⟨KX.out _ (bel_thenD hYX (Nat.le_refl _) g), (g1.cell (j := 0) rfl).1, (g1.cell (j := 1) rfl).1, (g1.cell (j := 2) rfl).1, (g1.cell (j := 3) rfl).1⟩
                 have HY := Lib.hid hY
                 have HW3 : Hid (w3.heap.size ≤ X.heap.size) := Lib.hid (HSX.out _ (Below.refl _ _)).2
                 clear x0 x1 x2 x3 x4
                 obtain ⟨⟨x0, x1, x2, x3, x4⟩, y0, y1, y2, y3⟩ : ((w4.alloc (.cells #[.int .i64 k0, .int .i64 k1, .bool k2, .int .i64 k3] 36)).cell? ⟨w3.heap.size, 0, none⟩ = some (.int .i64 c.frame) ∧ (w4.alloc (.cells #[.int .i64 k0, .int .i64 k1, .bool k2, .int .i64 k3] 36)).cell? ⟨w3.heap.size, 1, none⟩ = some (.int .i64 c.margin) ∧ (w4.alloc (.cells #[.int .i64 k0, .int .i64 k1, .bool k2, .int .i64 k3] 36)).cell? ⟨w3.heap.size, 2, none⟩ = some (.slice i1 c.ws.length j1) ∧ (w4.alloc (.cells #[.int .i64 k0, .int .i64 k1, .bool k2, .int .i64 k3] 36)).cell? ⟨w3.heap.size, 3, none⟩ = some (.slice i2 c.ps.length j2) ∧ (w4.alloc (.cells #[.int .i64 k0, .int .i64 k1, .bool k2, .int .i64 k3] 36)).cell? ⟨w3.heap.size, 4, none⟩ = some (.slice i3 c.cs.length j3)) ∧ (w4.alloc (.cells #[.int .i64 k0, .int .i64 k1, .bool k2, .int .i64 k3] 36)).cell? ⟨w4.heap.size, 0, none⟩ = some (.int .i64 k0) ∧ (w4.alloc (.cells #[.int .i64 k0, .int .i64 k1, .bool k2, .int .i64 k3] 36)).cell? ⟨w4.heap.size, 1, none⟩ = some (.int .i64 k1) ∧ (w4.alloc (.cells #[.int .i64 k0, .int .i64 k1, .bool k2, .int .i64 k3] 36)).cell? ⟨w4.heap.size, 2, none⟩ = some (.bool k2) ∧ (w4.alloc (.cells #[.int .i64 k0, .int .i64 k1, .bool k2, .int .i64 k3] 36)).cell? ⟨w4.heap.size, 3, none⟩ = some (.int .i64 k3) := by rw [← hY]; exact KY.out _ (Below.refl _ _)
                 clear hb4 hYX hY hvv)
              | (go_at_call 9; refine (num11_any _ _).mono ?_; rintro e w9 ⟨rfl, rfl⟩))
            go_ret
            refine ⟨rfl, ?_⟩
            rw [← HY.out]
            exact HB1.out.trans (HBY.out.mono HB1.out.size)
theorem AdmitLarge_body : type_of% (AdmitLarge_of judgeOk slackOk) := AdmitLarge_of judgeOk slackOk
end Go.Proofs.Ytdbbdlobahalkaa
