/- Joined of DemandK, AdmitR, AdmitS, AdmitT, AdmitW: The document's Rate. -/
import Derived.Test.YtdbbdlobahalkaaGreatDemandSum
import Derived.Deep.QuietTactic
import Derived.BigQuiet
import Derived.Test.YtdbbdlobahalkaaGreatSupplyRef
import Derived.Test.YtdbbdlobahalkaaGreatAdmitV
import Derived.Test.YtdbbdlobahalkaaGreatValidS
import Derived.Test.YtdbbdlobahalkaaGreatValidL
import Derived.Test.YtdbbdlobahalkaaGreatNames
import Derived.Test.YtdbbdlobahalkaaGreatBoundV
import Derived.Deep.RegionHeld3
import Derived.Deep.CutRange
import Derived.Laws.ResultCell
namespace Go.Proofs.YtdbbdlobahalkaaGreat
open Go.ChangeShapes Go.WideShapes Go.ChangeAt Go.RowKit
set_option linter.unusedVariables false
attribute [local go_sem ↓] Go.wp_at_zero Go.wp_at_succ

theorem gath_small {α : Type} {c : α → Bool} {g : α → Int} (h : ∀ x, c x = true → 0 ≤ g x ∧ g x ≤ 1099511627777000) (xs : List α) {k : Nat} (hk : k ≤ 20) : 0 ≤ sumI (gath c g xs k) ∧ sumI (gath c g xs k) ≤ 21990232555540000 := by
  have hs : Small (gath c g xs k) := Small.gath h (xs.take k)
  have hl := gath_len c g xs k
  have := sumI_bd (gath c g xs k).length (gath c g xs k) rfl hs
  have h2 : (((gath c g xs k).length : Nat) : Int) ≤ 20 := by omega
  omega
set_option maxRecDepth 100000 in
set_option maxHeartbeats 4000000 in
theorem rRate_low (ta sa da : Option Addr) (tn tc sn sc dn dc : Nat) (x0 x1 x2 : Int) (t : Int) (w : World) (hi : Nat) (p : Pt) (hp : PartAt w hi p ta sa tn tc sn sc) (ht2 : tn ≤ 20) (hs2 : sn ≤ 20) :
    Calls Tryz.prog 37 #[.int .i64 t, .agg #[.slice ta tn tc, .slice sa sn sc, .slice da dn dc, .int .u8 x0, .int .u8 x1, .int .u8 x2], .bool false] w fun e w' => e = .returned (.int .i64 (rateV t p false)) ∧ Below w.heap.size w w' := by
  obtain ⟨htn, hsn, hts, hss, hhi⟩ := hp
  obtain ⟨V, hV⟩ : ∃ V, V = w.alloc (.cells #[.slice ta tn tc, .slice sa sn sc, .slice da dn dc, .int .u8 x0, .int .u8 x1, .int .u8 x2] 81) := ⟨_, rfl⟩
  have ks : ∀ W : World, Below V.heap.size V W → W.cell? ⟨w.heap.size, 0, none⟩ = some (.slice ta tn tc) ∧ W.cell? ⟨w.heap.size, 1, none⟩ = some (.slice sa sn sc) := fun W h => by
    rw [hV] at h
    have k := box_says w #[.slice ta tn tc, .slice sa sn sc, .slice da dn dc, .int .u8 x0, .int .u8 x1, .int .u8 x2] 81 W h
    exact ⟨k 0 _ rfl, k 1 _ rfl⟩
  have hBV : Below w.heap.size w V := by rw [hV]; exact below1 _ _
  have hVw : w.heap.size < V.heap.size := by rw [hV]; simp
  have HT := Lib.hid hts; have HS := Lib.hid hss; have HTN := Lib.hid htn; have HSN := Lib.hid hsn
  have HV := Lib.hid hV; have HBV := Lib.hid hBV; have KS := Lib.hid ks
  obtain ⟨n0, n1⟩ := cutT_in t
  have HLI := Lib.hid (rate_is t p false)
  have CC := Lib.hid (fun (W : World) => rCut_any t W)
  obtain ⟨N, hN⟩ : ∃ N, N = cutT t := ⟨_, rfl⟩
  rw [← hN] at HLI n0 n1
  have HNN := Lib.hid hN
  clear hN hV hBV ks hts hss htn hsn
  go_enter Tryz.func37, Tryz.ntmps37
  go_wp2_with (first | (go_at_call 73; rw [← HV.out]; refine (CC.out _).mono ?_; rintro e w2 ⟨rfl, rfl⟩; rw [← HNN.out]))
  go_loopw [7, 8] (fun s i wr => ∃ k : Nat, k ≤ tn ∧ s = .int .i64 (sumI (gath (cntT false) (ratT N false) p.ts k)) ∧ i = .int .i64 k ∧ Below V.heap.size V wr) (fun _ i _ => tn - (intOf i).toNat)
  case atStart => exact ⟨0, by omega, rfl, rfl, Below.refl _ _⟩
  case round =>
    obtain ⟨k, hk, rfl, rfl, hb⟩ := hrel
    obtain ⟨z0, z1⟩ := KS.out wr hb
    by_cases hlt : k < tn
    · have tk : decide ((k : Int) < (tn : Int)) = true := by simpa using hlt
      obtain ⟨x, hx⟩ : ∃ x, p.ts[k]? = some x := ⟨_, List.getElem?_eq_getElem (by rw [HTN.out]; exact hlt)⟩
      have hlies := HT.out.keep (SameIn.of_below (HBV.out.trans (hb.mono (Nat.le_of_lt hVw))) hhi)
      obtain ⟨a2, c2, e2, _, _, hc⟩ := hlies
      cases e2
      rcases hc with h0 | ⟨b, off, rfl, hb1, hb2, hc⟩
      · omega
      obtain ⟨s0, s1, s2, s3, s4, s5⟩ := Lies.tk hc hx
      have HX := Lib.hid hx
      have hbw : b < wr.heap.size := by have := hb.size; omega
      have l0 : (0 : Int) ≤ (k : Int) := by omega
      have l1 : (k : Int) < (tn : Int) := by omega
      clear hc hx
      obtain ⟨xb, xt, xd, xv, xlo, xtop⟩ := x
      simp only at s0 s1 s2 s3 s4 s5
      have KB := Lib.hid (boxK6 wr (.bool xb) (.int .i64 xt) (.int .i64 xd) (.int .i64 xv) (.int .i64 xlo) (.int .i64 xtop) 119)
      have BB := Lib.hid (below1 wr (.cells #[.bool xb, .int .i64 xt, .int .i64 xd, .int .i64 xv, .int .i64 xlo, .int .i64 xtop] 119))
      obtain ⟨m0, m1⟩ := gath_small (fun x h => ratT_bd (N := N) (high := false) h n0 n1) p.ts (show k ≤ 20 by omega)
      obtain ⟨m, hm⟩ : ∃ m, m = sumI (gath (cntT false) (ratT N false) p.ts k) := ⟨_, rfl⟩
      rw [← hm] at m0 m1
      rw [← hm]
      have HM := Lib.hid hm
      clear hm
      by_cases hct : cntT false ⟨xb, xt, xd, xv, xlo, xtop⟩ = true
      · have HN : Hid (sumI (gath (cntT false) (ratT N false) p.ts (k + 1)) = m + ratT N false ⟨xb, xt, xd, xv, xlo, xtop⟩) := Lib.hid (by rw [gath_yes (c := cntT false) (g := ratT N false) HX.out hct, sumI_snoc, HM.out])
        have hrb := ratT_bd (N := N) hct n0 n1
        have hkt : okTk ⟨xb, xt, xd, xv, xlo, xtop⟩ = true := by unfold cntT at hct; rw [Bool.and_eq_true] at hct; exact hct.1
        have hxb : xb = true ∨ false = false := by unfold cntT at hct; rw [hkt] at hct; cases xb <;> simp_all
        obtain ⟨a1, a2, a3, a4, a5, a6, a7, a8⟩ := okTk_t hkt
        simp only at a1 a2 a3 a4 a5 a6 a7
        obtain ⟨e1, q0, q1⟩ := divT (n := N) (t := xt) n0 (by omega)
        obtain ⟨q, hq⟩ : ∃ q, q = N / xt := ⟨_, rfl⟩
        have HR : Hid (ratT N false ⟨xb, xt, xd, xv, xlo, xtop⟩ = q * xlo) := Lib.hid (by rw [hq]; rfl)
        rw [HR.out] at hrb HN
        rw [← hq] at e1 q0 q1
        have e3 := hq.symm
        have HOK := Lib.hid hkt
        have nz : (xt == 0) = false := by simp; omega
        have nz2 : ¬ xt = 0 := by omega
        have S1 : IntKind.i64.wrap (q * xlo) = q * xlo := IntWalk.i64_in _ (by omega)
        have S2 : IntKind.i64.wrap q = q := IntWalk.i64_in _ (by omega)
        have S3 : IntKind.i64.wrap (m + q * xlo) = m + q * xlo := IntWalk.i64_in _ (by omega)
        clear hct hkt hq a8
        rcases hxb with rfl | hxb
        all_goals first
          | (exact absurd hxb (by decide))
          | (try cases hxb
             go_wp2_with (first
               | (go_at_call 67; refine (refTask_any _ _ _ _ _ _ _).mono ?_; rintro e w2 ⟨rfl, hb1'⟩; rw [HOK.out]; obtain ⟨b0, b1, b2, b3, b4, b5⟩ := KB.out _ hb1'; have HB5 := Lib.hid (bel_thenD BB.out (Nat.le_refl _) hb1'); clear hb1'))
             go_quiet (fail)
             go_wp2_with fail
             go_roundw
             case rel => exact ⟨k + 1, by omega, by rw [HN.out], by go_num, below_drewD _ (hb.trans (HB5.out.mono hb.size))⟩
             case measure => simp [intOf]; omega)
      · have hcf : cntT false ⟨xb, xt, xd, xv, xlo, xtop⟩ = false := by simpa using hct
        have HN : Hid (sumI (gath (cntT false) (ratT N false) p.ts (k + 1)) = m) := Lib.hid (by rw [gath_no (c := cntT false) (g := ratT N false) HX.out hcf, HM.out])
        have hcs : okTk ⟨xb, xt, xd, xv, xlo, xtop⟩ = false ∨ (okTk ⟨xb, xt, xd, xv, xlo, xtop⟩ = true ∧ xb = false ∧ false = true) := by
          unfold cntT at hcf
          cases h1 : okTk ⟨xb, xt, xd, xv, xlo, xtop⟩ <;> cases xb <;> simp_all
        clear hct hcf
        rcases hcs with hs | ⟨hs, rfl, hh⟩
        all_goals first
          | (exact absurd hh (by decide))
          | (have HOK := Lib.hid hs
             clear hs
             go_wp2_with (first
               | (go_at_call 67; refine (refTask_any _ _ _ _ _ _ _).mono ?_; rintro e w2 ⟨rfl, hb1'⟩; rw [HOK.out]; obtain ⟨b0, b1, b2, b3, b4, b5⟩ := KB.out _ hb1'; have HB5 := Lib.hid (bel_thenD BB.out (Nat.le_refl _) hb1'); clear hb1'))
             go_roundw
             case rel => exact ⟨k + 1, by omega, by rw [HN.out], by go_num, hb.trans (HB5.out.mono hb.size)⟩
             case measure => simp [intOf]; omega)
    · have tk : decide ((k : Int) < (tn : Int)) = false := by simp; omega
      obtain ⟨m0, m1⟩ := gath_small (fun x h => ratT_bd (N := N) (high := false) h n0 n1) p.ts (show k ≤ 20 by omega)
      have HG := Lib.hid (gath_end (c := cntT false) (g := ratT N false) (xs := p.ts) (k := k) (by rw [HTN.out]; omega))
      obtain ⟨m, hm⟩ : ∃ m, m = sumI (gath (cntT false) (ratT N false) p.ts k) := ⟨_, rfl⟩
      rw [← hm] at m0 m1
      rw [← hm]
      have HM : Hid (m = sumI ((p.ts.filter (cntT false)).map (ratT N false))) := Lib.hid (by rw [hm, HG.out])
      clear hm HG HT HTN
      rcases (show false = true ∨ false = false by decide) with hH | hH
      · first
          | (exact absurd hH (by decide))
          | (have HZ : Hid (m = rateV t p false) := Lib.hid (by
               have h0 : p.ss.filter (cntS false) = [] := by rw [List.filter_eq_nil_iff]; intro x _; simp [cntS]
               rw [HM.out, ← HLI.out, sumI_append, h0]; simp [sumI])
             go_wp2_with fail
             go_loopw [7, 10] (fun s i wx => s = .int .i64 m ∧ i = .int .i64 0 ∧ Below V.heap.size V wx) (fun _ _ _ => 0)
             case atStart => exact ⟨rfl, rfl, hb⟩
             case round =>
               clear hb z0 z1
               obtain ⟨rfl, rfl, hb⟩ := hrel
               obtain ⟨z0, z1⟩ := KS.out wr hb
               by_cases hs0 : 0 < sn
               · have ts : decide ((0 : Int) < (sn : Int)) = true := by rw [decide_eq_true_eq]; omega
                 go_wp2_with fail
                 go_ret
                 exact ⟨ret_iD HZ.out, HBV.out.trans (hb.mono (Nat.le_of_lt hVw))⟩
               · have ts : decide ((0 : Int) < (sn : Int)) = false := by rw [decide_eq_false_iff_not]; omega
                 go_wp2_with fail
                 go_ret
                 exact ⟨ret_iD HZ.out, HBV.out.trans (hb.mono (Nat.le_of_lt hVw))⟩)
      · first
          | (exact absurd hH (by decide))
          | (obtain ⟨wo, hwo⟩ : ∃ wo, wo = wr := ⟨_, rfl⟩
             subst hwo
             go_wp2_with fail
             clear z0 z1
             go_loopw [7, 10] (fun s i wx => ∃ j : Nat, j ≤ sn ∧ s = .int .i64 (m + sumI (gath (cntS false) (ratS N) p.ss j)) ∧ i = .int .i64 j ∧ Below V.heap.size V wx) (fun _ i _ => sn - (intOf i).toNat)
             case atStart => exact ⟨0, by omega, by rw [gath_zero]; simp [sumI], rfl, hb⟩
             case round =>
               clear hb hk tk hlt
               obtain ⟨j, hj, rfl, rfl, hb⟩ := hrel
               obtain ⟨z0, z1⟩ := KS.out wr hb
               obtain ⟨g0, g1⟩ := gath_small (fun x h => ratS_bd (N := N) (high := false) h n0 n1) p.ss (show j ≤ 20 by omega)
               obtain ⟨m2, hm2⟩ : ∃ m2, m2 = sumI (gath (cntS false) (ratS N) p.ss j) := ⟨_, rfl⟩
               rw [← hm2] at g0 g1
               rw [← hm2]
               have HM2 := Lib.hid hm2
               clear hm2
               by_cases hlt2 : j < sn
               · have tj : decide ((j : Int) < (sn : Int)) = true := by simpa using hlt2
                 obtain ⟨x, hx⟩ : ∃ x, p.ss[j]? = some x := ⟨_, List.getElem?_eq_getElem (by rw [HSN.out]; exact hlt2)⟩
                 have hlies := HS.out.keep (SameIn.of_below (HBV.out.trans (hb.mono (Nat.le_of_lt hVw))) hhi)
                 obtain ⟨a2, c2, e2, _, _, hc⟩ := hlies
                 cases e2
                 rcases hc with h0 | ⟨b, off, rfl, hb1, hb2, hc⟩
                 · omega
                 obtain ⟨s0, s1, s2⟩ := Lies.sv hc hx
                 have HX := Lib.hid hx
                 have hbw : b < wr.heap.size := by have := hb.size; omega
                 have l0 : (0 : Int) ≤ (j : Int) := by omega
                 have l1 : (j : Int) < (sn : Int) := by omega
                 clear hc hx
                 obtain ⟨xr, xc, xt⟩ := x
                 simp only at s0 s1 s2
                 have KL : Hid (∀ W : World, Below wr.heap.size wr W → W.cell? ⟨w.heap.size, 1, none⟩ = some (.slice (some ⟨b, off, none⟩) sn sc) ∧ W.cell? ⟨b, off + j * 3 + 1, none⟩ = some (.int .i64 xc) ∧ W.cell? ⟨b, off + j * 3 + 2, none⟩ = some (.int .i64 xt)) := Lib.hid fun W h => ⟨(KS.out W (hb.trans (h.mono hb.size))).2, (h.cell (p := ⟨b, off + j * 3 + 1, none⟩) hbw).trans s1, (h.cell (p := ⟨b, off + j * 3 + 2, none⟩) hbw).trans s2⟩
                 cases hok : okSv ⟨xr, xc, xt⟩ with
                 | true =>
                   have hct : cntS false ⟨xr, xc, xt⟩ = true := by simp [cntS, hok]
                   have HN : Hid (m + sumI (gath (cntS false) (ratS N) p.ss (j + 1)) = m + m2 + ratS N ⟨xr, xc, xt⟩) := Lib.hid (by rw [gath_yes (c := cntS false) (g := ratS N) HX.out hct, sumI_snoc, HM2.out, Int.add_assoc])
                   have hrb := ratS_bd (N := N) hct n0 n1
                   obtain ⟨a1, a2, a3⟩ := okSv_t hok
                   simp only at a1 a2 a3
                   obtain ⟨e1, q0, q1⟩ := divT (n := N) (t := xt) n0 (by omega)
                   obtain ⟨q, hq⟩ : ∃ q, q = N / xt := ⟨_, rfl⟩
                   have HR : Hid (ratS N ⟨xr, xc, xt⟩ = q * xc) := Lib.hid (by rw [hq]; rfl)
                   rw [HR.out] at hrb HN
                   rw [← hq] at e1 q0 q1
                   have e3 := hq.symm
                   have HOK := Lib.hid hok
                   have nz : (xt == 0) = false := by simp; omega
                   have nz2 : ¬ xt = 0 := by omega
                   have S1 : IntKind.i64.wrap (q * xc) = q * xc := IntWalk.i64_in _ (by omega)
                   have S2 : IntKind.i64.wrap q = q := IntWalk.i64_in _ (by omega)
                   have S3 : IntKind.i64.wrap (m + m2 + q * xc) = m + m2 + q * xc := IntWalk.i64_in _ (by omega)
                   clear hct hok hq
                   go_wp2_with (first
                     | (go_at_call 68; refine (refServer_any _ _ _ _).mono ?_; rintro e w2 ⟨rfl, hb1'⟩; rw [HOK.out]; obtain ⟨y0, y1, y2⟩ := KL.out _ hb1'; have HB5 := Lib.hid hb1'; clear hb1'))
                   go_quiet (fail)
                   go_wp2_with fail
                   go_roundw
                   case rel => exact ⟨j + 1, by omega, by rw [HN.out], by go_num, below_drewD _ (hb.trans (HB5.out.mono hb.size))⟩
                   case measure => simp [intOf]; omega
                 | false =>
                   have HN : Hid (m + sumI (gath (cntS false) (ratS N) p.ss (j + 1)) = m + m2) := Lib.hid (by rw [gath_no (c := cntS false) (g := ratS N) HX.out (by simp [cntS, hok]), HM2.out])
                   have HOK := Lib.hid hok
                   clear hok
                   go_wp2_with (first
                     | (go_at_call 68; refine (refServer_any _ _ _ _).mono ?_; rintro e w2 ⟨rfl, hb1'⟩; rw [HOK.out]; have HB5 := Lib.hid hb1'; clear hb1'))
                   go_roundw
                   case rel => exact ⟨j + 1, by omega, by rw [HN.out], by go_num, hb.trans (HB5.out.mono hb.size)⟩
                   case measure => simp [intOf]; omega
               · have tj : decide ((j : Int) < (sn : Int)) = false := by simp; omega
                 have HZ : Hid (m + m2 = rateV t p false) := Lib.hid (by rw [HM.out, HM2.out, gath_end (c := cntS false) (g := ratS N) (xs := p.ss) (k := j) (by rw [HSN.out]; omega), ← HLI.out, sumI_append])
                 go_wp2_with fail
                 go_ret
                 exact ⟨ret_iD HZ.out, HBV.out.trans (hb.mono (Nat.le_of_lt hVw))⟩)
set_option maxRecDepth 100000 in
set_option maxHeartbeats 4000000 in
theorem rRate_high (ta sa da : Option Addr) (tn tc sn sc dn dc : Nat) (x0 x1 x2 : Int) (t : Int) (w : World) (hi : Nat) (p : Pt) (hp : PartAt w hi p ta sa tn tc sn sc) (ht2 : tn ≤ 20) (hs2 : sn ≤ 20) :
    Calls Tryz.prog 37 #[.int .i64 t, .agg #[.slice ta tn tc, .slice sa sn sc, .slice da dn dc, .int .u8 x0, .int .u8 x1, .int .u8 x2], .bool true] w fun e w' => e = .returned (.int .i64 (rateV t p true)) ∧ Below w.heap.size w w' := by
  obtain ⟨htn, hsn, hts, hss, hhi⟩ := hp
  obtain ⟨V, hV⟩ : ∃ V, V = w.alloc (.cells #[.slice ta tn tc, .slice sa sn sc, .slice da dn dc, .int .u8 x0, .int .u8 x1, .int .u8 x2] 81) := ⟨_, rfl⟩
  have ks : ∀ W : World, Below V.heap.size V W → W.cell? ⟨w.heap.size, 0, none⟩ = some (.slice ta tn tc) ∧ W.cell? ⟨w.heap.size, 1, none⟩ = some (.slice sa sn sc) := fun W h => by
    rw [hV] at h
    have k := box_says w #[.slice ta tn tc, .slice sa sn sc, .slice da dn dc, .int .u8 x0, .int .u8 x1, .int .u8 x2] 81 W h
    exact ⟨k 0 _ rfl, k 1 _ rfl⟩
  have hBV : Below w.heap.size w V := by rw [hV]; exact below1 _ _
  have hVw : w.heap.size < V.heap.size := by rw [hV]; simp
  have HT := Lib.hid hts; have HS := Lib.hid hss; have HTN := Lib.hid htn; have HSN := Lib.hid hsn
  have HV := Lib.hid hV; have HBV := Lib.hid hBV; have KS := Lib.hid ks
  obtain ⟨n0, n1⟩ := cutT_in t
  have HLI := Lib.hid (rate_is t p true)
  have CC := Lib.hid (fun (W : World) => rCut_any t W)
  obtain ⟨N, hN⟩ : ∃ N, N = cutT t := ⟨_, rfl⟩
  rw [← hN] at HLI n0 n1
  have HNN := Lib.hid hN
  clear hN hV hBV ks hts hss htn hsn
  go_enter Tryz.func37, Tryz.ntmps37
  go_wp2_with (first | (go_at_call 73; rw [← HV.out]; refine (CC.out _).mono ?_; rintro e w2 ⟨rfl, rfl⟩; rw [← HNN.out]))
  go_loopw [7, 8] (fun s i wr => ∃ k : Nat, k ≤ tn ∧ s = .int .i64 (sumI (gath (cntT true) (ratT N true) p.ts k)) ∧ i = .int .i64 k ∧ Below V.heap.size V wr) (fun _ i _ => tn - (intOf i).toNat)
  case atStart => exact ⟨0, by omega, rfl, rfl, Below.refl _ _⟩
  case round =>
    obtain ⟨k, hk, rfl, rfl, hb⟩ := hrel
    obtain ⟨z0, z1⟩ := KS.out wr hb
    by_cases hlt : k < tn
    · have tk : decide ((k : Int) < (tn : Int)) = true := by simpa using hlt
      obtain ⟨x, hx⟩ : ∃ x, p.ts[k]? = some x := ⟨_, List.getElem?_eq_getElem (by rw [HTN.out]; exact hlt)⟩
      have hlies := HT.out.keep (SameIn.of_below (HBV.out.trans (hb.mono (Nat.le_of_lt hVw))) hhi)
      obtain ⟨a2, c2, e2, _, _, hc⟩ := hlies
      cases e2
      rcases hc with h0 | ⟨b, off, rfl, hb1, hb2, hc⟩
      · omega
      obtain ⟨s0, s1, s2, s3, s4, s5⟩ := Lies.tk hc hx
      have HX := Lib.hid hx
      have hbw : b < wr.heap.size := by have := hb.size; omega
      have l0 : (0 : Int) ≤ (k : Int) := by omega
      have l1 : (k : Int) < (tn : Int) := by omega
      clear hc hx
      obtain ⟨xb, xt, xd, xv, xlo, xtop⟩ := x
      simp only at s0 s1 s2 s3 s4 s5
      have KB := Lib.hid (boxK6 wr (.bool xb) (.int .i64 xt) (.int .i64 xd) (.int .i64 xv) (.int .i64 xlo) (.int .i64 xtop) 119)
      have BB := Lib.hid (below1 wr (.cells #[.bool xb, .int .i64 xt, .int .i64 xd, .int .i64 xv, .int .i64 xlo, .int .i64 xtop] 119))
      obtain ⟨m0, m1⟩ := gath_small (fun x h => ratT_bd (N := N) (high := true) h n0 n1) p.ts (show k ≤ 20 by omega)
      obtain ⟨m, hm⟩ : ∃ m, m = sumI (gath (cntT true) (ratT N true) p.ts k) := ⟨_, rfl⟩
      rw [← hm] at m0 m1
      rw [← hm]
      have HM := Lib.hid hm
      clear hm
      by_cases hct : cntT true ⟨xb, xt, xd, xv, xlo, xtop⟩ = true
      · have HN : Hid (sumI (gath (cntT true) (ratT N true) p.ts (k + 1)) = m + ratT N true ⟨xb, xt, xd, xv, xlo, xtop⟩) := Lib.hid (by rw [gath_yes (c := cntT true) (g := ratT N true) HX.out hct, sumI_snoc, HM.out])
        have hrb := ratT_bd (N := N) hct n0 n1
        have hkt : okTk ⟨xb, xt, xd, xv, xlo, xtop⟩ = true := by unfold cntT at hct; rw [Bool.and_eq_true] at hct; exact hct.1
        have hxb : xb = true ∨ true = false := by unfold cntT at hct; rw [hkt] at hct; cases xb <;> simp_all
        obtain ⟨a1, a2, a3, a4, a5, a6, a7, a8⟩ := okTk_t hkt
        simp only at a1 a2 a3 a4 a5 a6 a7
        obtain ⟨e1, q0, q1⟩ := divT (n := N) (t := xt) n0 (by omega)
        obtain ⟨q, hq⟩ : ∃ q, q = N / xt := ⟨_, rfl⟩
        have HR : Hid (ratT N true ⟨xb, xt, xd, xv, xlo, xtop⟩ = q * xtop) := Lib.hid (by rw [hq]; rfl)
        rw [HR.out] at hrb HN
        rw [← hq] at e1 q0 q1
        have e3 := hq.symm
        have HOK := Lib.hid hkt
        have nz : (xt == 0) = false := by simp; omega
        have nz2 : ¬ xt = 0 := by omega
        have S1 : IntKind.i64.wrap (q * xtop) = q * xtop := IntWalk.i64_in _ (by omega)
        have S2 : IntKind.i64.wrap q = q := IntWalk.i64_in _ (by omega)
        have S3 : IntKind.i64.wrap (m + q * xtop) = m + q * xtop := IntWalk.i64_in _ (by omega)
        clear hct hkt hq a8
        rcases hxb with rfl | hxb
        all_goals first
          | (exact absurd hxb (by decide))
          | (try cases hxb
             go_wp2_with (first
               | (go_at_call 67; refine (refTask_any _ _ _ _ _ _ _).mono ?_; rintro e w2 ⟨rfl, hb1'⟩; rw [HOK.out]; obtain ⟨b0, b1, b2, b3, b4, b5⟩ := KB.out _ hb1'; have HB5 := Lib.hid (bel_thenD BB.out (Nat.le_refl _) hb1'); clear hb1'))
             go_quiet (fail)
             go_wp2_with fail
             go_roundw
             case rel => exact ⟨k + 1, by omega, by rw [HN.out], by go_num, below_drewD _ (hb.trans (HB5.out.mono hb.size))⟩
             case measure => simp [intOf]; omega)
      · have hcf : cntT true ⟨xb, xt, xd, xv, xlo, xtop⟩ = false := by simpa using hct
        have HN : Hid (sumI (gath (cntT true) (ratT N true) p.ts (k + 1)) = m) := Lib.hid (by rw [gath_no (c := cntT true) (g := ratT N true) HX.out hcf, HM.out])
        have hcs : okTk ⟨xb, xt, xd, xv, xlo, xtop⟩ = false ∨ (okTk ⟨xb, xt, xd, xv, xlo, xtop⟩ = true ∧ xb = false ∧ true = true) := by
          unfold cntT at hcf
          cases h1 : okTk ⟨xb, xt, xd, xv, xlo, xtop⟩ <;> cases xb <;> simp_all
        clear hct hcf
        rcases hcs with hs | ⟨hs, rfl, hh⟩
        all_goals first
          | (exact absurd hh (by decide))
          | (have HOK := Lib.hid hs
             clear hs
             go_wp2_with (first
               | (go_at_call 67; refine (refTask_any _ _ _ _ _ _ _).mono ?_; rintro e w2 ⟨rfl, hb1'⟩; rw [HOK.out]; obtain ⟨b0, b1, b2, b3, b4, b5⟩ := KB.out _ hb1'; have HB5 := Lib.hid (bel_thenD BB.out (Nat.le_refl _) hb1'); clear hb1'))
             go_roundw
             case rel => exact ⟨k + 1, by omega, by rw [HN.out], by go_num, hb.trans (HB5.out.mono hb.size)⟩
             case measure => simp [intOf]; omega)
    · have tk : decide ((k : Int) < (tn : Int)) = false := by simp; omega
      obtain ⟨m0, m1⟩ := gath_small (fun x h => ratT_bd (N := N) (high := true) h n0 n1) p.ts (show k ≤ 20 by omega)
      have HG := Lib.hid (gath_end (c := cntT true) (g := ratT N true) (xs := p.ts) (k := k) (by rw [HTN.out]; omega))
      obtain ⟨m, hm⟩ : ∃ m, m = sumI (gath (cntT true) (ratT N true) p.ts k) := ⟨_, rfl⟩
      rw [← hm] at m0 m1
      rw [← hm]
      have HM : Hid (m = sumI ((p.ts.filter (cntT true)).map (ratT N true))) := Lib.hid (by rw [hm, HG.out])
      clear hm HG HT HTN
      rcases (show true = true ∨ true = false by decide) with hH | hH
      · first
          | (exact absurd hH (by decide))
          | (have HZ : Hid (m = rateV t p true) := Lib.hid (by
               have h0 : p.ss.filter (cntS true) = [] := by rw [List.filter_eq_nil_iff]; intro x _; simp [cntS]
               rw [HM.out, ← HLI.out, sumI_append, h0]; simp [sumI])
             go_wp2_with fail
             go_loopw [7, 10] (fun s i wx => s = .int .i64 m ∧ i = .int .i64 0 ∧ Below V.heap.size V wx) (fun _ _ _ => 0)
             case atStart => exact ⟨rfl, rfl, hb⟩
             case round =>
               clear hb z0 z1
               obtain ⟨rfl, rfl, hb⟩ := hrel
               obtain ⟨z0, z1⟩ := KS.out wr hb
               by_cases hs0 : 0 < sn
               · have ts : decide ((0 : Int) < (sn : Int)) = true := by rw [decide_eq_true_eq]; omega
                 go_wp2_with fail
                 go_ret
                 exact ⟨ret_iD HZ.out, HBV.out.trans (hb.mono (Nat.le_of_lt hVw))⟩
               · have ts : decide ((0 : Int) < (sn : Int)) = false := by rw [decide_eq_false_iff_not]; omega
                 go_wp2_with fail
                 go_ret
                 exact ⟨ret_iD HZ.out, HBV.out.trans (hb.mono (Nat.le_of_lt hVw))⟩)
      · first
          | (exact absurd hH (by decide))
          | (obtain ⟨wo, hwo⟩ : ∃ wo, wo = wr := ⟨_, rfl⟩
             subst hwo
             go_wp2_with fail
             clear z0 z1
             go_loopw [7, 10] (fun s i wx => ∃ j : Nat, j ≤ sn ∧ s = .int .i64 (m + sumI (gath (cntS true) (ratS N) p.ss j)) ∧ i = .int .i64 j ∧ Below V.heap.size V wx) (fun _ i _ => sn - (intOf i).toNat)
             case atStart => exact ⟨0, by omega, by rw [gath_zero]; simp [sumI], rfl, hb⟩
             case round =>
               clear hb hk tk hlt
               obtain ⟨j, hj, rfl, rfl, hb⟩ := hrel
               obtain ⟨z0, z1⟩ := KS.out wr hb
               obtain ⟨g0, g1⟩ := gath_small (fun x h => ratS_bd (N := N) (high := true) h n0 n1) p.ss (show j ≤ 20 by omega)
               obtain ⟨m2, hm2⟩ : ∃ m2, m2 = sumI (gath (cntS true) (ratS N) p.ss j) := ⟨_, rfl⟩
               rw [← hm2] at g0 g1
               rw [← hm2]
               have HM2 := Lib.hid hm2
               clear hm2
               by_cases hlt2 : j < sn
               · have tj : decide ((j : Int) < (sn : Int)) = true := by simpa using hlt2
                 obtain ⟨x, hx⟩ : ∃ x, p.ss[j]? = some x := ⟨_, List.getElem?_eq_getElem (by rw [HSN.out]; exact hlt2)⟩
                 have hlies := HS.out.keep (SameIn.of_below (HBV.out.trans (hb.mono (Nat.le_of_lt hVw))) hhi)
                 obtain ⟨a2, c2, e2, _, _, hc⟩ := hlies
                 cases e2
                 rcases hc with h0 | ⟨b, off, rfl, hb1, hb2, hc⟩
                 · omega
                 obtain ⟨s0, s1, s2⟩ := Lies.sv hc hx
                 have HX := Lib.hid hx
                 have hbw : b < wr.heap.size := by have := hb.size; omega
                 have l0 : (0 : Int) ≤ (j : Int) := by omega
                 have l1 : (j : Int) < (sn : Int) := by omega
                 clear hc hx
                 obtain ⟨xr, xc, xt⟩ := x
                 simp only at s0 s1 s2
                 have KL : Hid (∀ W : World, Below wr.heap.size wr W → W.cell? ⟨w.heap.size, 1, none⟩ = some (.slice (some ⟨b, off, none⟩) sn sc) ∧ W.cell? ⟨b, off + j * 3 + 1, none⟩ = some (.int .i64 xc) ∧ W.cell? ⟨b, off + j * 3 + 2, none⟩ = some (.int .i64 xt)) := Lib.hid fun W h => ⟨(KS.out W (hb.trans (h.mono hb.size))).2, (h.cell (p := ⟨b, off + j * 3 + 1, none⟩) hbw).trans s1, (h.cell (p := ⟨b, off + j * 3 + 2, none⟩) hbw).trans s2⟩
                 cases hok : okSv ⟨xr, xc, xt⟩ with
                 | true =>
                   have hct : cntS true ⟨xr, xc, xt⟩ = true := by simp [cntS, hok]
                   have HN : Hid (m + sumI (gath (cntS true) (ratS N) p.ss (j + 1)) = m + m2 + ratS N ⟨xr, xc, xt⟩) := Lib.hid (by rw [gath_yes (c := cntS true) (g := ratS N) HX.out hct, sumI_snoc, HM2.out, Int.add_assoc])
                   have hrb := ratS_bd (N := N) hct n0 n1
                   obtain ⟨a1, a2, a3⟩ := okSv_t hok
                   simp only at a1 a2 a3
                   obtain ⟨e1, q0, q1⟩ := divT (n := N) (t := xt) n0 (by omega)
                   obtain ⟨q, hq⟩ : ∃ q, q = N / xt := ⟨_, rfl⟩
                   have HR : Hid (ratS N ⟨xr, xc, xt⟩ = q * xc) := Lib.hid (by rw [hq]; rfl)
                   rw [HR.out] at hrb HN
                   rw [← hq] at e1 q0 q1
                   have e3 := hq.symm
                   have HOK := Lib.hid hok
                   have nz : (xt == 0) = false := by simp; omega
                   have nz2 : ¬ xt = 0 := by omega
                   have S1 : IntKind.i64.wrap (q * xc) = q * xc := IntWalk.i64_in _ (by omega)
                   have S2 : IntKind.i64.wrap q = q := IntWalk.i64_in _ (by omega)
                   have S3 : IntKind.i64.wrap (m + m2 + q * xc) = m + m2 + q * xc := IntWalk.i64_in _ (by omega)
                   clear hct hok hq
                   go_wp2_with (first
                     | (go_at_call 68; refine (refServer_any _ _ _ _).mono ?_; rintro e w2 ⟨rfl, hb1'⟩; rw [HOK.out]; obtain ⟨y0, y1, y2⟩ := KL.out _ hb1'; have HB5 := Lib.hid hb1'; clear hb1'))
                   go_quiet (fail)
                   go_wp2_with fail
                   go_roundw
                   case rel => exact ⟨j + 1, by omega, by rw [HN.out], by go_num, below_drewD _ (hb.trans (HB5.out.mono hb.size))⟩
                   case measure => simp [intOf]; omega
                 | false =>
                   have HN : Hid (m + sumI (gath (cntS true) (ratS N) p.ss (j + 1)) = m + m2) := Lib.hid (by rw [gath_no (c := cntS true) (g := ratS N) HX.out (by simp [cntS, hok]), HM2.out])
                   have HOK := Lib.hid hok
                   clear hok
                   go_wp2_with (first
                     | (go_at_call 68; refine (refServer_any _ _ _ _).mono ?_; rintro e w2 ⟨rfl, hb1'⟩; rw [HOK.out]; have HB5 := Lib.hid hb1'; clear hb1'))
                   go_roundw
                   case rel => exact ⟨j + 1, by omega, by rw [HN.out], by go_num, hb.trans (HB5.out.mono hb.size)⟩
                   case measure => simp [intOf]; omega
               · have tj : decide ((j : Int) < (sn : Int)) = false := by simp; omega
                 have HZ : Hid (m + m2 = rateV t p true) := Lib.hid (by rw [HM.out, HM2.out, gath_end (c := cntS true) (g := ratS N) (xs := p.ss) (k := j) (by rw [HSN.out]; omega), ← HLI.out, sumI_append])
                 go_wp2_with fail
                 go_ret
                 exact ⟨ret_iD HZ.out, HBV.out.trans (hb.mono (Nat.le_of_lt hVw))⟩)
theorem rRate_any (ta sa da : Option Addr) (tn tc sn sc dn dc : Nat) (x0 x1 x2 : Int) (t : Int) (high : Bool) (w : World) (hi : Nat) (p : Pt) (hp : PartAt w hi p ta sa tn tc sn sc) (ht2 : tn ≤ 20) (hs2 : sn ≤ 20) :
    Calls Tryz.prog 37 #[.int .i64 t, .agg #[.slice ta tn tc, .slice sa sn sc, .slice da dn dc, .int .u8 x0, .int .u8 x1, .int .u8 x2], .bool high] w fun e w' => e = .returned (.int .i64 (rateV t p high)) ∧ Below w.heap.size w w' := by
  cases high
  · exact rRate_low ta sa da tn tc sn sc dn dc x0 x1 x2 t w hi p hp ht2 hs2
  · exact rRate_high ta sa da tn tc sn sc dn dc x0 x1 x2 t w hi p hp ht2 hs2
end Go.Proofs.YtdbbdlobahalkaaGreat
namespace Go.Proofs.YtdbbdlobahalkaaGreat
open Go.ChangeShapes Go.WideShapes Go.ChangeAt Go.RowKit
set_option linter.unusedVariables false
attribute [local go_sem ↓] Go.wp_at_zero Go.wp_at_succ

/-- A supply of the document's, of windows l in a frame F. -/
def RSupAt (w : World) (s F : Nat) (m : Int) (l : List Wn) (p : Int) : Prop := ∃ lo lo2 hi g na nc la ln lc, hi ≤ w.heap.size ∧ RSup w lo hi g s F (isO F m l p) p na nc ∧ RTab w lo2 hi g F m la ln lc l
theorem RSupAt.later {w w' : World} {s F : Nat} {m : Int} {l : List Wn} {p : Int} (h : RSupAt w s F m l p) (hb : Below w.heap.size w w') : RSupAt w' s F m l p := by
  obtain ⟨lo, lo2, hi, g, na, nc, la, ln, lc, h1, h2, h3⟩ := h
  exact ⟨lo, lo2, hi, g, na, nc, la, ln, lc, Nat.le_trans h1 hb.size, h2.keep (SameIn.of_below hb h1), h3.keep hb h1⟩
theorem rLeast_at {w : World} {s F : Nat} {m : Int} {l : List Wn} {p : Int} (h : RSupAt w s F m l p) (n : Int) :
    Calls Tryz.prog 36 #[.pointer (some ⟨s, 0, none⟩), .int .i64 n] w fun e w' => e = .returned (.int .i64 (leastV (isO F m l p) F (heldN n))) ∧ Below w.heap.size w w' := by
  obtain ⟨lo, lo2, hi, g, na, nc, la, ln, lc, h1, h2, h3⟩ := h
  exact rLeast_any h2 h3 h1 h1 n
theorem rDemand_at {w : World} {hi : Nat} {p : Pt} {ta sa : Option Addr} {tn tc sn sc : Nat} (h : PartAt w hi p ta sa tn tc sn sc) (ht2 : tn ≤ 20) (hs2 : sn ≤ 20) (da : Option Addr) (dn dc : Nat) (x0 x1 x2 : Int) (t : Int) (high : Bool) :
    Calls Tryz.prog 35 #[.agg #[.slice ta tn tc, .slice sa sn sc, .slice da dn dc, .int .u8 x0, .int .u8 x1, .int .u8 x2], .int .i64 t, .bool high] w fun e w' => e = .returned (.int .i64 (demV p t high)) ∧ Below w.heap.size w w' :=
  rDemand_any ta sa da tn tc sn sc dn dc x0 x1 x2 t high w 0 hi p h.etn h.esn h.ts h.ss h.le ht2 hs2
set_option maxRecDepth 100000 in
set_option maxHeartbeats 2000000 in
theorem rSupply_sys {w : World} {hi : Nat} {c : Cf} {pvs : List Pv} {wa pa ca : Option Addr} {wc pc cc : Nat} (h : SysL w hi c pvs wa pa ca wc pc cc) (hh : hi ≤ w.heap.size) (hin : ∀ x ∈ c.ws, x.In) (hz : (checkV c).1 = 0) (F : Nat) (hF : c.frame = (F : Int)) {k : Nat} (hk : k < c.ps.length) :
    Calls Tryz.prog 33 #[.agg #[.int .i64 c.frame, .int .i64 c.margin, .slice wa c.ws.length wc, .slice pa c.ps.length pc, .slice ca c.cs.length cc], .int .i64 k] w fun e w' => ∃ s, e = .returned (.pointer (some ⟨s, 0, none⟩)) ∧ RSupAt w' s F c.margin c.ws (k : Int) ∧ Below w.heap.size w w' := by
  have hr := right_of_ok hz
  rw [hF] at hr
  have hk6 : k < 6 := by have := ((check_iff c).1 hz).2.1; omega
  obtain ⟨V, hV⟩ : ∃ V, V = w.alloc (.cells #[.int .i64 c.frame, .int .i64 c.margin, .slice wa c.ws.length wc, .slice pa c.ps.length pc, .slice ca c.cs.length cc] 26) := ⟨_, rfl⟩
  have hb1 : Below w.heap.size w V := by rw [hV]; exact below1 _ _
  obtain ⟨z0, z1, z2, z3, z4⟩ := boxK5 w (.int .i64 c.frame) (.int .i64 c.margin) (.slice wa c.ws.length wc) (.slice pa c.ps.length pc) (.slice ca c.cs.length cc) 26 V (by rw [hV]; exact Below.refl _ _)
  have CN := Lib.hid (rNew_yes F c.margin wa c.ws.length wc V 0 hi c.ws rfl ((h.keep (SameIn.of_below hb1 hh)).l1) (Nat.le_trans hh hb1.size) hin hr)
  have HV := Lib.hid hV; have HB1 := Lib.hid hb1; have HFE := Lib.hid hF
  clear h hV hb1 hF
  go_enter Tryz.func33, Tryz.ntmps33
  go_wp2_with fail
  rw [← HV.out]
  go_wp2_with (first
    | (go_at_call 65; refine (rSupOf_any HT.out (Nat.le_refl _) (k : Int) (by omega) (by omega)).mono ?_; rintro e w3 ⟨s, na, nc, rfl, hs, hb3⟩; have HS := Lib.hid hs; have HB3 := Lib.hid hb3; clear hs hb3)
    | (go_at_call 66; rw [HFE.out]; refine CN.out.mono ?_; rintro e w2 ⟨g, la', lc', rfl, ht, hb2⟩; have HT := Lib.hid ht; have HB2 := Lib.hid hb2; clear ht hb2))
  go_ret
  exact ⟨s, rfl, ⟨w2.heap.size, V.heap.size, w3.heap.size, g, na, nc, la', c.ws.length, lc', Nat.le_refl _, HS.out, { HT.out.keep HB3.out (Nat.le_refl _) with high := Nat.lt_of_lt_of_le HT.out.high HB3.out.size, lies := (HT.out.keep HB3.out (Nat.le_refl _)).lies.wider (Nat.le_refl _) HB3.out.size }⟩, bel_thenD (bel_thenD HB1.out (Nat.le_refl _) HB2.out) (Nat.le_refl _) HB3.out⟩
end Go.Proofs.YtdbbdlobahalkaaGreat
namespace Go.Proofs.YtdbbdlobahalkaaGreat
open Go.ChangeShapes Go.WideShapes Go.ChangeAt Go.RowKit
set_option linter.unusedVariables false
attribute [local go_sem ↓] Go.wp_at_zero Go.wp_at_succ

set_option maxRecDepth 100000 in
set_option maxHeartbeats 2000000 in
theorem rSlack_no {w : World} {hi : Nat} {c : Cf} {pvs : List Pv} {wa pa ca : Option Addr} {wc pc cc : Nat} (fw : Few c) (h : SysL w hi c pvs wa pa ca wc pc cc) (hh : hi ≤ w.heap.size) (hin : ∀ x ∈ c.ws, x.In) (p : Int) (t : Int) (high : Bool) (hn : (checkV c).1 ≠ 0 ∨ hasB c.ps.length p = false) :
    Calls Tryz.prog 16 #[.agg #[.int .i64 c.frame, .int .i64 c.margin, .slice wa c.ws.length wc, .slice pa c.ps.length pc, .slice ca c.cs.length cc], .int .i64 p, .int .i64 t, .bool high] w fun e w' => e = .returned (.tuple #[.int .i64 0, .bool false]) ∧ Below w.heap.size w w' := by
  obtain ⟨V, hV⟩ : ∃ V, V = w.alloc (.cells #[.int .i64 c.frame, .int .i64 c.margin, .slice wa c.ws.length wc, .slice pa c.ps.length pc, .slice ca c.cs.length cc] 26) := ⟨_, rfl⟩
  have ks : ∀ W : World, Below V.heap.size V W → W.cell? ⟨w.heap.size, 0, none⟩ = some (.int .i64 c.frame) ∧ W.cell? ⟨w.heap.size, 1, none⟩ = some (.int .i64 c.margin) ∧ W.cell? ⟨w.heap.size, 2, none⟩ = some (.slice wa c.ws.length wc) ∧ W.cell? ⟨w.heap.size, 3, none⟩ = some (.slice pa c.ps.length pc) ∧ W.cell? ⟨w.heap.size, 4, none⟩ = some (.slice ca c.cs.length cc) := fun W g => by
    rw [hV] at g
    exact boxK5 _ _ _ _ _ _ _ W g
  have hBV : Below w.heap.size w V := by rw [hV]; exact below1 _ _
  have hVw : w.heap.size < V.heap.size := by rw [hV]; simp
  have HS := Lib.hid (fun (W : World) (g : Below V.heap.size V W) => And.intro (h.keep (SameIn.of_below (hBV.trans (g.mono (Nat.le_of_lt hVw))) hh)) (Nat.le_trans (Nat.le_trans hh (Nat.le_of_lt hVw)) g.size))
  have CK := Lib.hid (fun (W : World) (g : Below V.heap.size V W) => refCheck_sys fw (HS.out W g).1 (HS.out W g).2 hin)
  have HV := Lib.hid hV; have HBV := Lib.hid hBV; have KS := Lib.hid ks
  by_cases hz : (checkV c).1 = 0
  · have hp : hasB c.ps.length p = false := by rcases hn with g | g; exact absurd hz g; exact g
    have t1 : ((checkV c).1 != 0) = false := by simpa using hz
    have t2 : ((checkV c).1 == 0) = true := by simpa using hz
    have HP := Lib.hid hp
    clear hV hBV ks h fw hin hn hz hp
    generalize (checkV c).1 = e1 at *
    generalize (checkV c).2 = e2 at *
    go_enter Tryz.func16, Tryz.ntmps16
    go_wp2_with (first
      | (go_at_call 28; rw [← HV.out]; refine (CK.out V (Below.refl _ _)).mono ?_; rintro e w1 ⟨rfl, hb1⟩; have HB1 := Lib.hid hb1; obtain ⟨z0, z1, z2, z3, z4⟩ := KS.out _ hb1; clear hb1)
      | (go_at_call 31; refine (refHas_any _ _ _ _ _ _ _ _ _ _ _ _ _).mono ?_; rintro e w2 ⟨rfl, hb2⟩; rw [HP.out]; have HB2 := Lib.hid (bel_thenD HB1.out (Nat.le_refl _) hb2); clear hb2))
    go_ret2
    exact ⟨rfl, HBV.out.trans (HB2.out.mono (Nat.le_of_lt hVw))⟩
  · have t1 : ((checkV c).1 != 0) = true := by simpa using hz
    have t2 : ((checkV c).1 == 0) = false := by simpa using hz
    clear hV hBV ks h fw hin hn hz
    generalize (checkV c).1 = e1 at *
    generalize (checkV c).2 = e2 at *
    go_enter Tryz.func16, Tryz.ntmps16
    go_wp2_with (first
      | (go_at_call 28; rw [← HV.out]; refine (CK.out V (Below.refl _ _)).mono ?_; rintro e w1 ⟨rfl, hb1⟩; have HB1 := Lib.hid hb1; obtain ⟨z0, z1, z2, z3, z4⟩ := KS.out _ hb1; clear hb1))
    go_ret2
    exact ⟨rfl, HBV.out.trans (HB1.out.mono (Nat.le_of_lt hVw))⟩
set_option maxRecDepth 100000 in
set_option maxHeartbeats 2000000 in
theorem rPhase_no {w : World} {hi : Nat} {c : Cf} {pvs : List Pv} {wa pa ca : Option Addr} {wc pc cc : Nat} (fw : Few c) (h : SysL w hi c pvs wa pa ca wc pc cc) (hh : hi ≤ w.heap.size) (hin : ∀ x ∈ c.ws, x.In) (p : Int)  (high : Bool) (hn : (checkV c).1 ≠ 0 ∨ hasB c.ps.length p = false) :
    Calls Tryz.prog 14 #[.agg #[.int .i64 c.frame, .int .i64 c.margin, .slice wa c.ws.length wc, .slice pa c.ps.length pc, .slice ca c.cs.length cc], .int .i64 p, .bool high] w fun e w' => e = .returned (.tuple #[.int .i64 0, .bool false]) ∧ Below w.heap.size w w' := by
  obtain ⟨V, hV⟩ : ∃ V, V = w.alloc (.cells #[.int .i64 c.frame, .int .i64 c.margin, .slice wa c.ws.length wc, .slice pa c.ps.length pc, .slice ca c.cs.length cc] 26) := ⟨_, rfl⟩
  have ks : ∀ W : World, Below V.heap.size V W → W.cell? ⟨w.heap.size, 0, none⟩ = some (.int .i64 c.frame) ∧ W.cell? ⟨w.heap.size, 1, none⟩ = some (.int .i64 c.margin) ∧ W.cell? ⟨w.heap.size, 2, none⟩ = some (.slice wa c.ws.length wc) ∧ W.cell? ⟨w.heap.size, 3, none⟩ = some (.slice pa c.ps.length pc) ∧ W.cell? ⟨w.heap.size, 4, none⟩ = some (.slice ca c.cs.length cc) := fun W g => by
    rw [hV] at g
    exact boxK5 _ _ _ _ _ _ _ W g
  have hBV : Below w.heap.size w V := by rw [hV]; exact below1 _ _
  have hVw : w.heap.size < V.heap.size := by rw [hV]; simp
  have HS := Lib.hid (fun (W : World) (g : Below V.heap.size V W) => And.intro (h.keep (SameIn.of_below (hBV.trans (g.mono (Nat.le_of_lt hVw))) hh)) (Nat.le_trans (Nat.le_trans hh (Nat.le_of_lt hVw)) g.size))
  have CK := Lib.hid (fun (W : World) (g : Below V.heap.size V W) => refCheck_sys fw (HS.out W g).1 (HS.out W g).2 hin)
  have HV := Lib.hid hV; have HBV := Lib.hid hBV; have KS := Lib.hid ks
  by_cases hz : (checkV c).1 = 0
  · have hp : hasB c.ps.length p = false := by rcases hn with g | g; exact absurd hz g; exact g
    have t1 : ((checkV c).1 != 0) = false := by simpa using hz
    have t2 : ((checkV c).1 == 0) = true := by simpa using hz
    have HP := Lib.hid hp
    clear hV hBV ks h fw hin hn hz hp
    generalize (checkV c).1 = e1 at *
    generalize (checkV c).2 = e2 at *
    go_enter Tryz.func14, Tryz.ntmps14
    go_wp2_with (first
      | (go_at_call 28; rw [← HV.out]; refine (CK.out V (Below.refl _ _)).mono ?_; rintro e w1 ⟨rfl, hb1⟩; have HB1 := Lib.hid hb1; obtain ⟨z0, z1, z2, z3, z4⟩ := KS.out _ hb1; clear hb1)
      | (go_at_call 31; refine (refHas_any _ _ _ _ _ _ _ _ _ _ _ _ _).mono ?_; rintro e w2 ⟨rfl, hb2⟩; rw [HP.out]; have HB2 := Lib.hid (bel_thenD HB1.out (Nat.le_refl _) hb2); clear hb2))
    go_ret2
    exact ⟨rfl, HBV.out.trans (HB2.out.mono (Nat.le_of_lt hVw))⟩
  · have t1 : ((checkV c).1 != 0) = true := by simpa using hz
    have t2 : ((checkV c).1 == 0) = false := by simpa using hz
    clear hV hBV ks h fw hin hn hz
    generalize (checkV c).1 = e1 at *
    generalize (checkV c).2 = e2 at *
    go_enter Tryz.func14, Tryz.ntmps14
    go_wp2_with (first
      | (go_at_call 28; rw [← HV.out]; refine (CK.out V (Below.refl _ _)).mono ?_; rintro e w1 ⟨rfl, hb1⟩; have HB1 := Lib.hid hb1; obtain ⟨z0, z1, z2, z3, z4⟩ := KS.out _ hb1; clear hb1))
    go_ret2
    exact ⟨rfl, HBV.out.trans (HB1.out.mono (Nat.le_of_lt hVw))⟩
set_option maxRecDepth 100000 in
set_option maxHeartbeats 4000000 in
theorem rSlack_yes {w : World} {hi : Nat} {c : Cf} {pvs : List Pv} {wa pa ca : Option Addr} {wc pc cc : Nat} (fw : Few c) (h : SysL w hi c pvs wa pa ca wc pc cc) (hh : hi ≤ w.heap.size) (hin : ∀ x ∈ c.ws, x.In) (hz : (checkV c).1 = 0) (F : Nat) (hF : c.frame = (F : Int)) {k : Nat} {x : Pt} (hx : c.ps[k]? = some x) (t : Int) (high : Bool) :
    Calls Tryz.prog 16 #[.agg #[.int .i64 c.frame, .int .i64 c.margin, .slice wa c.ws.length wc, .slice pa c.ps.length pc, .slice ca c.cs.length cc], .int .i64 k, .int .i64 t, .bool high] w fun e w' => e = .returned (.tuple #[.int .i64 (slackU (isO F c.margin c.ws (k : Int)) F x high (cutT t).toNat), .bool true]) ∧ Below w.heap.size w w' := by
  obtain ⟨V, hV⟩ : ∃ V, V = w.alloc (.cells #[.int .i64 c.frame, .int .i64 c.margin, .slice wa c.ws.length wc, .slice pa c.ps.length pc, .slice ca c.cs.length cc] 26) := ⟨_, rfl⟩
  have ks : ∀ W : World, Below V.heap.size V W → W.cell? ⟨w.heap.size, 0, none⟩ = some (.int .i64 c.frame) ∧ W.cell? ⟨w.heap.size, 1, none⟩ = some (.int .i64 c.margin) ∧ W.cell? ⟨w.heap.size, 2, none⟩ = some (.slice wa c.ws.length wc) ∧ W.cell? ⟨w.heap.size, 3, none⟩ = some (.slice pa c.ps.length pc) ∧ W.cell? ⟨w.heap.size, 4, none⟩ = some (.slice ca c.cs.length cc) := fun W g => by
    rw [hV] at g
    exact boxK5 _ _ _ _ _ _ _ W g
  have hBV : Below w.heap.size w V := by rw [hV]; exact below1 _ _
  have hVw : w.heap.size < V.heap.size := by rw [hV]; simp
  have HS := Lib.hid (fun (W : World) (g : Below V.heap.size V W) => And.intro (h.keep (SameIn.of_below (hBV.trans (g.mono (Nat.le_of_lt hVw))) hh)) (Nat.le_trans (Nat.le_trans hh (Nat.le_of_lt hVw)) g.size))
  have CK := Lib.hid (fun (W : World) (g : Below V.heap.size V W) => refCheck_sys fw (HS.out W g).1 (HS.out W g).2 hin)
  have HV := Lib.hid hV; have HBV := Lib.hid hBV; have KS := Lib.hid ks
  have hk : k < c.ps.length := (List.getElem?_eq_some_iff.1 hx).1
  have hp : hasB c.ps.length (k : Int) = true := by unfold hasB; simp; omega
  obtain ⟨d1, d2, _, _⟩ := ok_few hz hx
  have CS := Lib.hid (fun (W : World) (g : Below V.heap.size V W) => rSupply_sys (HS.out W g).1 (HS.out W g).2 hin hz F hF hk)
  obtain ⟨c0, c1⟩ := cutT_in t
  have HSL := Lib.hid (slack_is (isO F c.margin c.ws (k : Int)) F x high c0 c1)
  have hdb := demV_bd2 (x := x) (cutT t) high (by omega) (by omega)
  have hlb := leastV_bd (f := isO F c.margin c.ws (k : Int)) (F := F) (heldN (cutT t))
  have hhb := heldN_bd (cutT t)
  have t1 : ((checkV c).1 != 0) = false := by simpa using hz
  have t2 : ((checkV c).1 == 0) = true := by simpa using hz
  have HP := Lib.hid hp
  have HXX := Lib.hid hx
  have hcut : (t < 0 ∧ cutT t = 0) ∨ (0 ≤ t ∧ t ≤ 1099511627776 ∧ cutT t = t) ∨ (0 ≤ t ∧ 1099511627776 < t ∧ cutT t = 1099511627776) := by unfold cutT; omega
  have HC := Lib.hid hcut
  obtain ⟨T, hT⟩ : ∃ T, T = cutT t := ⟨_, rfl⟩
  rw [← hT] at HSL hdb hlb hhb HC c0 c1
  have HT := Lib.hid hT
  obtain ⟨dm, hdm⟩ : ∃ d, d = demV x T high := ⟨_, rfl⟩
  obtain ⟨lv, hlv⟩ : ∃ d, d = leastV (isO F c.margin c.ws (k : Int)) F (heldN T) := ⟨_, rfl⟩
  rw [← hdm, ← hlv] at HSL
  rw [← hdm] at hdb
  rw [← hlv] at hlb
  have HD := Lib.hid hdm; have HLV := Lib.hid hlv
  obtain ⟨b0, b1⟩ := hdb
  have S1 : IntKind.i64.wrap ((lv : Int) - dm) = (lv : Int) - dm := IntWalk.i64_in _ (by omega)
  clear hV hBV ks h fw hin hz hp hx hcut hT hdm hlv hF
  generalize (checkV c).1 = e1 at *
  generalize (checkV c).2 = e2 at *
  go_enter Tryz.func16, Tryz.ntmps16
  go_upto_region 4 with (first
      | (go_at_call 28; rw [← HV.out]; refine (CK.out V (Below.refl _ _)).mono ?_; rintro e w1 ⟨rfl, hb1⟩; have HB1 := Lib.hid hb1; obtain ⟨z0, z1, z2, z3, z4⟩ := KS.out _ hb1; clear hb1)
      | (go_at_call 31; refine (refHas_any _ _ _ _ _ _ _ _ _ _ _ _ _).mono ?_; rintro e w2 ⟨rfl, hb2⟩; rw [HP.out]; have HB2 := Lib.hid (bel_thenD HB1.out (Nat.le_refl _) hb2); clear hb2))
  go_cut [2] from 25 to 28 (fun v wx => v = .int .i64 T ∧ wx = w2)
  case first =>
    rcases HC.out with ⟨g1, g2⟩ | ⟨g1, g2, g3⟩ | ⟨g1, g2, g3⟩
    all_goals (go_wp2_with fail; go_meet)
    all_goals (case rel => first | exact ⟨by rw [g2], rfl⟩ | exact ⟨by rw [g3], rfl⟩)
  case rest =>
    obtain ⟨rfl, hwr⟩ := hcut
    have hwr2 := hwr.symm
    subst hwr2
    clear z0 z1 z2 z3 z4
    obtain ⟨x', pv, ta, sa, da, tc, sc, dc, b, off, hx', rfl, hb2, hpx, s0, s1, s2, s3, s4, s5⟩ := (HS.out w2 HB2.out).1.part (HS.out w2 HB2.out).2 hk
    obtain rfl : x = x' := by have := HXX.out.symm.trans hx'; cases this; rfl
    have hbw : b < w2.heap.size := by have := (HS.out w2 HB2.out).2; omega
    have KT : Hid (∀ W : World, Below w2.heap.size w2 W → Below w2.heap.size w2 W ∧ W.cell? ⟨w.heap.size, 0, none⟩ = some (.int .i64 c.frame) ∧ W.cell? ⟨w.heap.size, 1, none⟩ = some (.int .i64 c.margin) ∧ W.cell? ⟨w.heap.size, 2, none⟩ = some (.slice wa c.ws.length wc) ∧ W.cell? ⟨w.heap.size, 3, none⟩ = some (.slice (some ⟨b, off, none⟩) c.ps.length pc) ∧ W.cell? ⟨w.heap.size, 4, none⟩ = some (.slice ca c.cs.length cc) ∧ W.cell? ⟨b, off + k * 6, none⟩ = some (.slice ta x.ts.length tc) ∧ W.cell? ⟨b, off + k * 6 + 1, none⟩ = some (.slice sa x.ss.length sc) ∧ W.cell? ⟨b, off + k * 6 + 2, none⟩ = some (.slice da x.ds.length dc) ∧ W.cell? ⟨b, off + k * 6 + 3, none⟩ = some (.int .u8 pv.a0) ∧ W.cell? ⟨b, off + k * 6 + 4, none⟩ = some (.int .u8 pv.a1) ∧ W.cell? ⟨b, off + k * 6 + 5, none⟩ = some (.int .u8 pv.a2)) := Lib.hid fun W g => by
      obtain ⟨k0, k1, k2, k3, k4⟩ := KS.out W (bel_thenD HB2.out (Nat.le_refl _) g)
      exact ⟨g, k0, k1, k2, k3, k4, (g.cell (p := ⟨b, off + k * 6, none⟩) hbw).trans s0, (g.cell (p := ⟨b, off + k * 6 + 1, none⟩) hbw).trans s1, (g.cell (p := ⟨b, off + k * 6 + 2, none⟩) hbw).trans s2, (g.cell (p := ⟨b, off + k * 6 + 3, none⟩) hbw).trans s3, (g.cell (p := ⟨b, off + k * 6 + 4, none⟩) hbw).trans s4, (g.cell (p := ⟨b, off + k * 6 + 5, none⟩) hbw).trans s5⟩
    have HPX := Lib.hid (fun (W : World) (g : Below w2.heap.size w2 W) => hpx.later g)
    have R0 := Lib.hid (Below.refl w2.heap.size w2)
    clear s0 s1 s2 s3 s4 s5 hpx hx'
    have l0 : (0 : Int) ≤ (k : Int) := by omega
    have l1 : (k : Int) < (c.ps.length : Int) := by omega
    go_wp2_with fail
    go_region_held3 (fun W => Below w2.heap.size w2 W ∧ W.cell? ⟨w.heap.size, 0, none⟩ = some (.int .i64 c.frame) ∧ W.cell? ⟨w.heap.size, 1, none⟩ = some (.int .i64 c.margin) ∧ W.cell? ⟨w.heap.size, 2, none⟩ = some (.slice wa c.ws.length wc) ∧ W.cell? ⟨w.heap.size, 3, none⟩ = some (.slice (some ⟨b, off, none⟩) c.ps.length pc) ∧ W.cell? ⟨w.heap.size, 4, none⟩ = some (.slice ca c.cs.length cc) ∧ W.cell? ⟨b, off + k * 6, none⟩ = some (.slice ta x.ts.length tc) ∧ W.cell? ⟨b, off + k * 6 + 1, none⟩ = some (.slice sa x.ss.length sc) ∧ W.cell? ⟨b, off + k * 6 + 2, none⟩ = some (.slice da x.ds.length dc) ∧ W.cell? ⟨b, off + k * 6 + 3, none⟩ = some (.int .u8 pv.a0) ∧ W.cell? ⟨b, off + k * 6 + 4, none⟩ = some (.int .u8 pv.a1) ∧ W.cell? ⟨b, off + k * 6 + 5, none⟩ = some (.int .u8 pv.a2))
      (first | exact KT.out _ R0.out | exact KT.out _ R0.out.drew | exact KT.out _ (by assumption))
      (first
        | (go_at_call 36; refine (rLeast_at HRS.out _).mono ?_; rintro e w5 ⟨rfl, hb5⟩; rw [← HLV.out]; have hbn : Below w2.heap.size w2 w5 := (by go_split_ands; exact bel_thenD (by assumption) (Nat.le_refl _) hb5))
        | (go_at_call 35; refine (rDemand_at (HPX.out _ (by go_split_ands; assumption)) (by omega) (by omega) _ _ _ _ _ _ _ _).mono ?_; rintro e w4 ⟨rfl, hb4⟩; rw [← HD.out]; have hbn : Below w2.heap.size w2 w4 := (by go_split_ands; exact bel_thenD (by assumption) (Nat.le_refl _) hb4); have HRS := Lib.hid (HRS.out.later hb4))
        | (go_at_call 35; refine (rDemand_at (HPX.out _ (by go_split_ands; assumption)) (by omega) (by omega) _ _ _ _ _ _ _ _).mono ?_; rintro e w4 ⟨rfl, hb4⟩; rw [← HD.out]; have hbn : Below w2.heap.size w2 w4 := (by go_split_ands; exact bel_thenD (by assumption) (Nat.le_refl _) hb4))
        | (go_at_call 33; refine (CS.out _ (bel_thenD HB2.out (Nat.le_refl _) (by go_split_ands; assumption))).mono ?_; rintro e w3 ⟨s, rfl, hrs, hb3⟩; have HRS := Lib.hid hrs; have hbn : Below w2.heap.size w2 w3 := (by go_split_ands; exact bel_thenD (by assumption) (Nat.le_refl _) hb3); clear hrs)
        | fail "no arm")
    all_goals go_wp2_with fail
    all_goals go_ret2
    all_goals exact ⟨ret_tup (HSL.out.trans (by rw [HT.out])) rfl, HBV.out.trans ((bel_thenD HB2.out (Nat.le_refl _) (by repeat first | assumption | refine below_drewD _ ?_)).mono (Nat.le_of_lt hVw))⟩
theorem rSlack_sys {w : World} {hi : Nat} {c : Cf} {pvs : List Pv} {wa pa ca : Option Addr} {wc pc cc : Nat} (fw : Few c) (h : SysL w hi c pvs wa pa ca wc pc cc) (hh : hi ≤ w.heap.size) (hin : ∀ x ∈ c.ws, x.In) (F : Nat) (hFe : (checkV c).1 = 0 → c.frame = (F : Int)) (p t : Int) (high : Bool) :
    Calls Tryz.prog 16 #[.agg #[.int .i64 c.frame, .int .i64 c.margin, .slice wa c.ws.length wc, .slice pa c.ps.length pc, .slice ca c.cs.length cc], .int .i64 p, .int .i64 t, .bool high] w fun e w' => e = .returned (.tuple #[.int .i64 (slackT c F p t high).1, .bool (slackT c F p t high).2]) ∧ Below w.heap.size w w' := by
  by_cases hn : (checkV c).1 ≠ 0 ∨ hasB c.ps.length p = false
  · rw [slackT_no hn]
    exact rSlack_no fw h hh hin p t high hn
  · have hz : (checkV c).1 = 0 := Classical.byContradiction fun g => hn (.inl g)
    have hp : hasB c.ps.length p = true := by cases g : hasB c.ps.length p with | true => rfl | false => exact absurd (.inr g) hn
    obtain ⟨p0, p1⟩ := hasB_true hp
    obtain ⟨k, rfl⟩ := Int.eq_ofNat_of_zero_le p0
    obtain ⟨x, hx⟩ : ∃ x, c.ps[k]? = some x := ⟨_, List.getElem?_eq_getElem (by omega)⟩
    rw [slackT_yes hz hx]
    exact rSlack_yes fw h hh hin hz F (hFe hz) hx t high
end Go.Proofs.YtdbbdlobahalkaaGreat
namespace Go.Proofs.YtdbbdlobahalkaaGreat
open Go.ChangeShapes Go.WideShapes Go.ChangeAt Go.RowKit
set_option linter.unusedVariables false
attribute [local go_sem ↓] Go.wp_at_zero Go.wp_at_succ

set_option maxRecDepth 100000 in
set_option maxHeartbeats 4000000 in
theorem rPhase_large {w : World} {hi : Nat} {c : Cf} {pvs : List Pv} {wa pa ca : Option Addr} {wc pc cc : Nat} (fw : Few c) (h : SysL w hi c pvs wa pa ca wc pc cc) (hh : hi ≤ w.heap.size) (hin : ∀ x ∈ c.ws, x.In) (hF64 : I64 c.frame) (hz : (checkV c).1 = 0) (F : Nat) (hF : c.frame = (F : Int)) {k : Nat} {x : Pt} (hx : c.ps[k]? = some x) (high : Bool) (hbo : boundOk c.frame x = false) :
    Calls Tryz.prog 14 #[.agg #[.int .i64 c.frame, .int .i64 c.margin, .slice wa c.ws.length wc, .slice pa c.ps.length pc, .slice ca c.cs.length cc], .int .i64 k, .bool high] w fun e w' => e = .returned (.tuple #[.int .i64 0, .bool false]) ∧ Below w.heap.size w w' := by
  obtain ⟨V, hV⟩ : ∃ V, V = w.alloc (.cells #[.int .i64 c.frame, .int .i64 c.margin, .slice wa c.ws.length wc, .slice pa c.ps.length pc, .slice ca c.cs.length cc] 26) := ⟨_, rfl⟩
  have ks : ∀ W : World, Below V.heap.size V W → W.cell? ⟨w.heap.size, 0, none⟩ = some (.int .i64 c.frame) ∧ W.cell? ⟨w.heap.size, 1, none⟩ = some (.int .i64 c.margin) ∧ W.cell? ⟨w.heap.size, 2, none⟩ = some (.slice wa c.ws.length wc) ∧ W.cell? ⟨w.heap.size, 3, none⟩ = some (.slice pa c.ps.length pc) ∧ W.cell? ⟨w.heap.size, 4, none⟩ = some (.slice ca c.cs.length cc) := fun W g => by
    rw [hV] at g
    exact boxK5 _ _ _ _ _ _ _ W g
  have hBV : Below w.heap.size w V := by rw [hV]; exact below1 _ _
  have hVw : w.heap.size < V.heap.size := by rw [hV]; simp
  have HS := Lib.hid (fun (W : World) (g : Below V.heap.size V W) => And.intro (h.keep (SameIn.of_below (hBV.trans (g.mono (Nat.le_of_lt hVw))) hh)) (Nat.le_trans (Nat.le_trans hh (Nat.le_of_lt hVw)) g.size))
  have CK := Lib.hid (fun (W : World) (g : Below V.heap.size V W) => refCheck_sys fw (HS.out W g).1 (HS.out W g).2 hin)
  have HV := Lib.hid hV; have HBV := Lib.hid hBV; have KS := Lib.hid ks
  have hk : k < c.ps.length := (List.getElem?_eq_some_iff.1 hx).1
  have hp : hasB c.ps.length (k : Int) = true := by unfold hasB; simp; omega
  obtain ⟨d1, d2, _, _⟩ := ok_few hz hx
  have CS := Lib.hid (fun (W : World) (g : Below V.heap.size V W) => rSupply_sys (HS.out W g).1 (HS.out W g).2 hin hz F hF hk)
  have t1 : ((checkV c).1 != 0) = false := by simpa using hz
  have t2 : ((checkV c).1 == 0) = true := by simpa using hz
  have HP := Lib.hid hp
  have HXX := Lib.hid hx
  have HFF := Lib.hid hF64
  have HBO := Lib.hid hbo
  have HBV2 := Lib.hid (bound_no hbo).1
  clear hV hBV ks h fw hin hz hp hx hF hF64 hbo
  generalize (checkV c).1 = e1 at *
  generalize (checkV c).2 = e2 at *
  go_enter Tryz.func14, Tryz.ntmps14
  go_upto_region 4 with (first
    | (go_at_call 28; rw [← HV.out]; refine (CK.out V (Below.refl _ _)).mono ?_; rintro e w1 ⟨rfl, hb1⟩; have HB1 := Lib.hid hb1; obtain ⟨z0, z1, z2, z3, z4⟩ := KS.out _ hb1; clear hb1)
    | (go_at_call 31; refine (refHas_any _ _ _ _ _ _ _ _ _ _ _ _ _).mono ?_; rintro e w2 ⟨rfl, hb2⟩; rw [HP.out]; have HB2 := Lib.hid (bel_thenD HB1.out (Nat.le_refl _) hb2); clear hb2; clear z0 z1 z2 z3 z4))
  obtain ⟨x', pv, ta, sa, da, tc, sc, dc, b, off, hx', rfl, hb2, hpx, s0, s1, s2, s3, s4, s5⟩ := (HS.out w2 HB2.out).1.part (HS.out w2 HB2.out).2 hk
  obtain rfl : x = x' := by have := HXX.out.symm.trans hx'; cases this; rfl
  have hbw : b < w2.heap.size := by have := (HS.out w2 HB2.out).2; omega
  have KT : Hid (∀ W : World, Below w2.heap.size w2 W → Below w2.heap.size w2 W ∧ W.cell? ⟨w.heap.size, 0, none⟩ = some (.int .i64 c.frame) ∧ W.cell? ⟨w.heap.size, 1, none⟩ = some (.int .i64 c.margin) ∧ W.cell? ⟨w.heap.size, 2, none⟩ = some (.slice wa c.ws.length wc) ∧ W.cell? ⟨w.heap.size, 3, none⟩ = some (.slice (some ⟨b, off, none⟩) c.ps.length pc) ∧ W.cell? ⟨w.heap.size, 4, none⟩ = some (.slice ca c.cs.length cc) ∧ W.cell? ⟨b, off + k * 6, none⟩ = some (.slice ta x.ts.length tc) ∧ W.cell? ⟨b, off + k * 6 + 1, none⟩ = some (.slice sa x.ss.length sc) ∧ W.cell? ⟨b, off + k * 6 + 2, none⟩ = some (.slice da x.ds.length dc) ∧ W.cell? ⟨b, off + k * 6 + 3, none⟩ = some (.int .u8 pv.a0) ∧ W.cell? ⟨b, off + k * 6 + 4, none⟩ = some (.int .u8 pv.a1) ∧ W.cell? ⟨b, off + k * 6 + 5, none⟩ = some (.int .u8 pv.a2)) := Lib.hid fun W g => by
    obtain ⟨k0, k1, k2, k3, k4⟩ := KS.out W (bel_thenD HB2.out (Nat.le_refl _) g)
    exact ⟨g, k0, k1, k2, k3, k4, (g.cell (p := ⟨b, off + k * 6, none⟩) hbw).trans s0, (g.cell (p := ⟨b, off + k * 6 + 1, none⟩) hbw).trans s1, (g.cell (p := ⟨b, off + k * 6 + 2, none⟩) hbw).trans s2, (g.cell (p := ⟨b, off + k * 6 + 3, none⟩) hbw).trans s3, (g.cell (p := ⟨b, off + k * 6 + 4, none⟩) hbw).trans s4, (g.cell (p := ⟨b, off + k * 6 + 5, none⟩) hbw).trans s5⟩
  have HPX := Lib.hid (fun (W : World) (g : Below w2.heap.size w2 W) => hpx.later g)
  have R0 := Lib.hid (Below.refl w2.heap.size w2)
  clear s0 s1 s2 s3 s4 s5 hpx hx'
  have l0 : (0 : Int) ≤ (k : Int) := by omega
  have l1 : (k : Int) < (c.ps.length : Int) := by omega
  go_region_held3 (fun W => Below w2.heap.size w2 W ∧ W.cell? ⟨w.heap.size, 0, none⟩ = some (.int .i64 c.frame) ∧ W.cell? ⟨w.heap.size, 1, none⟩ = some (.int .i64 c.margin) ∧ W.cell? ⟨w.heap.size, 2, none⟩ = some (.slice wa c.ws.length wc) ∧ W.cell? ⟨w.heap.size, 3, none⟩ = some (.slice (some ⟨b, off, none⟩) c.ps.length pc) ∧ W.cell? ⟨w.heap.size, 4, none⟩ = some (.slice ca c.cs.length cc) ∧ W.cell? ⟨b, off + k * 6, none⟩ = some (.slice ta x.ts.length tc) ∧ W.cell? ⟨b, off + k * 6 + 1, none⟩ = some (.slice sa x.ss.length sc) ∧ W.cell? ⟨b, off + k * 6 + 2, none⟩ = some (.slice da x.ds.length dc) ∧ W.cell? ⟨b, off + k * 6 + 3, none⟩ = some (.int .u8 pv.a0) ∧ W.cell? ⟨b, off + k * 6 + 4, none⟩ = some (.int .u8 pv.a1) ∧ W.cell? ⟨b, off + k * 6 + 5, none⟩ = some (.int .u8 pv.a2))
    (first | exact KT.out _ R0.out | exact KT.out _ R0.out.drew | exact KT.out _ (by assumption) | exact KT.out _ (Below.drew (by assumption)))
    (first
      | (go_at_call 32; refine (refBound_at HFF.out (HPX.out _ (by go_split_ands; assumption)) (by omega) (by omega) _ _ _ _ _ _).mono ?_; rintro e w4 ⟨rfl, hb4⟩; rw [HBO.out, HBV2.out]; have hbn : Below w2.heap.size w2 w4 := (by go_split_ands; exact bel_thenD (by assumption) (Nat.le_refl _) hb4))
      | fail "no arm")
  go_wp2_with fail
  go_ret2
  exact ⟨rfl, HBV.out.trans ((bel_thenD HB2.out (Nat.le_refl _) (by repeat first | assumption | refine below_drewD _ ?_)).mono (Nat.le_of_lt hVw))⟩
set_option maxRecDepth 100000 in
set_option maxHeartbeats 8000000 in
theorem rPhase_yes {w : World} {hi : Nat} {c : Cf} {pvs : List Pv} {wa pa ca : Option Addr} {wc pc cc : Nat} (fw : Few c) (h : SysL w hi c pvs wa pa ca wc pc cc) (hh : hi ≤ w.heap.size) (hin : ∀ x ∈ c.ws, x.In) (hF64 : I64 c.frame) (hz : (checkV c).1 = 0) (F : Nat) (hF : c.frame = (F : Int)) {k : Nat} {x : Pt} (hx : c.ps[k]? = some x) (high : Bool) (hbo : boundOk c.frame x = true) :
    Calls Tryz.prog 14 #[.agg #[.int .i64 c.frame, .int .i64 c.margin, .slice wa c.ws.length wc, .slice pa c.ps.length pc, .slice ca c.cs.length cc], .int .i64 k, .bool high] w fun e w' => e = .returned (.tuple #[.int .i64 (phTell (phaseC c F k x high)).1, .bool (phTell (phaseC c F k x high)).2]) ∧ Below w.heap.size w w' := by
  obtain ⟨V, hV⟩ : ∃ V, V = w.alloc (.cells #[.int .i64 c.frame, .int .i64 c.margin, .slice wa c.ws.length wc, .slice pa c.ps.length pc, .slice ca c.cs.length cc] 26) := ⟨_, rfl⟩
  have ks : ∀ W : World, Below V.heap.size V W → W.cell? ⟨w.heap.size, 0, none⟩ = some (.int .i64 c.frame) ∧ W.cell? ⟨w.heap.size, 1, none⟩ = some (.int .i64 c.margin) ∧ W.cell? ⟨w.heap.size, 2, none⟩ = some (.slice wa c.ws.length wc) ∧ W.cell? ⟨w.heap.size, 3, none⟩ = some (.slice pa c.ps.length pc) ∧ W.cell? ⟨w.heap.size, 4, none⟩ = some (.slice ca c.cs.length cc) := fun W g => by
    rw [hV] at g
    exact boxK5 _ _ _ _ _ _ _ W g
  have hBV : Below w.heap.size w V := by rw [hV]; exact below1 _ _
  have hVw : w.heap.size < V.heap.size := by rw [hV]; simp
  have HS := Lib.hid (fun (W : World) (g : Below V.heap.size V W) => And.intro (h.keep (SameIn.of_below (hBV.trans (g.mono (Nat.le_of_lt hVw))) hh)) (Nat.le_trans (Nat.le_trans hh (Nat.le_of_lt hVw)) g.size))
  have CK := Lib.hid (fun (W : World) (g : Below V.heap.size V W) => refCheck_sys fw (HS.out W g).1 (HS.out W g).2 hin)
  have HV := Lib.hid hV; have HBV := Lib.hid hBV; have KS := Lib.hid ks
  have hk : k < c.ps.length := (List.getElem?_eq_some_iff.1 hx).1
  have hp : hasB c.ps.length (k : Int) = true := by unfold hasB; simp; omega
  obtain ⟨d1, d2, _, _⟩ := ok_few hz hx
  have CS := Lib.hid (fun (W : World) (g : Below V.heap.size V W) => rSupply_sys (HS.out W g).1 (HS.out W g).2 hin hz F hF hk)
  have t1 : ((checkV c).1 != 0) = false := by simpa using hz
  have t2 : ((checkV c).1 == 0) = true := by simpa using hz
  have HP := Lib.hid hp
  have HXX := Lib.hid hx
  have HFF := Lib.hid hF64
  have HBO := Lib.hid hbo
  obtain ⟨rf, rh, r1, r2, r3, r4, hr⟩ := round_of hz hF k x high hbo
  have HIS := Lib.hid (phaseC_is hz hF k x high hbo)
  have HOK := Lib.hid (bound_ok hbo).1
  have HSB := Lib.hid (fun t => slack_le (isO F c.margin c.ws (k : Int)) F x high t)
  have HSV := Lib.hid (fun (t : Nat) (h : t ≤ 65536) => slack_is (isO F c.margin c.ws (k : Int)) F x high (t := (t : Int)) (by omega) (by omega))
  have HLO : Hid (rateV (hyperV c.frame x) x high - (leastV (isO F c.margin c.ws (k : Int)) F (heldN (hyperV c.frame x)) : Int) = lostU (isO F c.margin c.ws (k : Int)) F x high (hyperV c.frame x).toNat) := Lib.hid (by
    unfold lostU
    rw [rateV_U x (by omega) (by omega), heldN_cut (by omega) (by omega), rh])
  have HRB := Lib.hid (show 0 ≤ rateV (hyperV c.frame x) x high ∧ rateV (hyperV c.frame x) x high ≤ 43980465111080000 from rateV_bd _ high (by omega) (by omega))
  have HLB := Lib.hid (fun (t : Int) => And.intro (leastV_bd (f := isO F c.margin c.ws (k : Int)) (F := F) (heldN t)) (heldN_bd t))
  have HDB := Lib.hid (fun (t : Int) => demV_bd2 (x := x) t high (by omega) (by omega))
  obtain ⟨far, hfar⟩ : ∃ far, far = (farV x).toNat := ⟨_, rfl⟩
  obtain ⟨h', hh'⟩ : ∃ h', h' = (hyperV c.frame x).toNat := ⟨_, rfl⟩
  rw [← hfar] at rf r1 r3 r4 hr
  rw [← hh'] at rh r2 r3 r4 hr HLO
  obtain ⟨S, hS⟩ : ∃ S, S = slackU (isO F c.margin c.ws (k : Int)) F x high := ⟨_, rfl⟩
  rw [← hS] at hr HIS HSV HSB
  obtain ⟨lost, hlo⟩ : ∃ l, l = lostU (isO F c.margin c.ws (k : Int)) F x high h' := ⟨_, rfl⟩
  rw [← hlo] at hr HLO
  obtain ⟨n', hn'⟩ : ∃ n', n' = far + h' := ⟨_, rfl⟩
  rw [← hn'] at r4
  have hn1 : n' ≤ far + h' := by omega
  have hn2 : far + h' ≤ n' := by omega
  have hlo2 := HLO.out
  have hrb2 := HRB.out
  rw [← rh] at hlo2 hrb2
  obtain ⟨R, hRR⟩ : ∃ R, R = rateV (h' : Int) x high := ⟨_, rfl⟩
  obtain ⟨lh, hlh⟩ : ∃ lh, lh = leastV (isO F c.margin c.ws (k : Int)) F (heldN (h' : Int)) := ⟨_, rfl⟩
  have hlhb := HLB.out (h' : Int)
  rw [← hRR, ← hlh] at hlo2
  rw [← hRR] at hrb2
  rw [← hlh] at hlhb
  obtain ⟨rb0, rb1⟩ := hrb2
  obtain ⟨lb0, lb1⟩ := hlhb
  have HRR := Lib.hid hRR; have HLH := Lib.hid hlh
  have hlo3 := HLO.out
  have HLO2 := Lib.hid hlo2
  have HR4 := Lib.hid r4; have HRH := Lib.hid rh.symm; have HR := Lib.hid hr
  clear hS hlo hfar hh' rf rh r4 hr hn' hlo2 hlo3 hRR hlh HLO HRB
  clear hV hBV ks h fw hin hz hp hx hF hF64 hbo
  generalize (checkV c).1 = e1 at *
  generalize (checkV c).2 = e2 at *
  go_enter Tryz.func14, Tryz.ntmps14
  go_upto_region 4 with (first
    | (go_at_call 28; rw [← HV.out]; refine (CK.out V (Below.refl _ _)).mono ?_; rintro e w1 ⟨rfl, hb1⟩; have HB1 := Lib.hid hb1; obtain ⟨z0, z1, z2, z3, z4⟩ := KS.out _ hb1; clear hb1)
    | (go_at_call 31; refine (refHas_any _ _ _ _ _ _ _ _ _ _ _ _ _).mono ?_; rintro e w2 ⟨rfl, hb2⟩; rw [HP.out]; have HB2 := Lib.hid (bel_thenD HB1.out (Nat.le_refl _) hb2); clear hb2; clear z0 z1 z2 z3 z4))
  obtain ⟨x', pv, ta, sa, da, tc, sc, dc, b, off, hx', rfl, hb2, hpx, s0, s1, s2, s3, s4, s5⟩ := (HS.out w2 HB2.out).1.part (HS.out w2 HB2.out).2 hk
  obtain rfl : x = x' := by have := HXX.out.symm.trans hx'; cases this; rfl
  have hbw : b < w2.heap.size := by have := (HS.out w2 HB2.out).2; omega
  have KT : Hid (∀ W : World, Below w2.heap.size w2 W → Below w2.heap.size w2 W ∧ W.cell? ⟨w.heap.size, 0, none⟩ = some (.int .i64 c.frame) ∧ W.cell? ⟨w.heap.size, 1, none⟩ = some (.int .i64 c.margin) ∧ W.cell? ⟨w.heap.size, 2, none⟩ = some (.slice wa c.ws.length wc) ∧ W.cell? ⟨w.heap.size, 3, none⟩ = some (.slice (some ⟨b, off, none⟩) c.ps.length pc) ∧ W.cell? ⟨w.heap.size, 4, none⟩ = some (.slice ca c.cs.length cc) ∧ W.cell? ⟨b, off + k * 6, none⟩ = some (.slice ta x.ts.length tc) ∧ W.cell? ⟨b, off + k * 6 + 1, none⟩ = some (.slice sa x.ss.length sc) ∧ W.cell? ⟨b, off + k * 6 + 2, none⟩ = some (.slice da x.ds.length dc) ∧ W.cell? ⟨b, off + k * 6 + 3, none⟩ = some (.int .u8 pv.a0) ∧ W.cell? ⟨b, off + k * 6 + 4, none⟩ = some (.int .u8 pv.a1) ∧ W.cell? ⟨b, off + k * 6 + 5, none⟩ = some (.int .u8 pv.a2)) := Lib.hid fun W g => by
    obtain ⟨k0, k1, k2, k3, k4⟩ := KS.out W (bel_thenD HB2.out (Nat.le_refl _) g)
    exact ⟨g, k0, k1, k2, k3, k4, (g.cell (p := ⟨b, off + k * 6, none⟩) hbw).trans s0, (g.cell (p := ⟨b, off + k * 6 + 1, none⟩) hbw).trans s1, (g.cell (p := ⟨b, off + k * 6 + 2, none⟩) hbw).trans s2, (g.cell (p := ⟨b, off + k * 6 + 3, none⟩) hbw).trans s3, (g.cell (p := ⟨b, off + k * 6 + 4, none⟩) hbw).trans s4, (g.cell (p := ⟨b, off + k * 6 + 5, none⟩) hbw).trans s5⟩
  have HPX := Lib.hid (fun (W : World) (g : Below w2.heap.size w2 W) => hpx.later g)
  have R0 := Lib.hid (Below.refl w2.heap.size w2)
  clear s0 s1 s2 s3 s4 s5 hpx hx'
  have l0 : (0 : Int) ≤ (k : Int) := by omega
  have l1 : (k : Int) < (c.ps.length : Int) := by omega
  go_region_held3 (fun W => Below w2.heap.size w2 W ∧ W.cell? ⟨w.heap.size, 0, none⟩ = some (.int .i64 c.frame) ∧ W.cell? ⟨w.heap.size, 1, none⟩ = some (.int .i64 c.margin) ∧ W.cell? ⟨w.heap.size, 2, none⟩ = some (.slice wa c.ws.length wc) ∧ W.cell? ⟨w.heap.size, 3, none⟩ = some (.slice (some ⟨b, off, none⟩) c.ps.length pc) ∧ W.cell? ⟨w.heap.size, 4, none⟩ = some (.slice ca c.cs.length cc) ∧ W.cell? ⟨b, off + k * 6, none⟩ = some (.slice ta x.ts.length tc) ∧ W.cell? ⟨b, off + k * 6 + 1, none⟩ = some (.slice sa x.ss.length sc) ∧ W.cell? ⟨b, off + k * 6 + 2, none⟩ = some (.slice da x.ds.length dc) ∧ W.cell? ⟨b, off + k * 6 + 3, none⟩ = some (.int .u8 pv.a0) ∧ W.cell? ⟨b, off + k * 6 + 4, none⟩ = some (.int .u8 pv.a1) ∧ W.cell? ⟨b, off + k * 6 + 5, none⟩ = some (.int .u8 pv.a2))
    (first | exact KT.out _ R0.out | exact KT.out _ R0.out.drew | exact KT.out _ (by assumption) | exact KT.out _ (Below.drew (by assumption)))
    (first
      | (go_at_call 32; refine (refBound_at HFF.out (HPX.out _ (by go_split_ands; assumption)) (by omega) (by omega) _ _ _ _ _ _).mono ?_; rintro e w4 ⟨rfl, hb4⟩; rw [HBO.out, HR4.out]; have hbn : Below w2.heap.size w2 w4 := (by go_split_ands; exact bel_thenD (by assumption) (Nat.le_refl _) hb4))
      | fail "no arm")
  have HBW := Lib.hid (show Below w2.heap.size w2 w4 from by assumption)
  obtain ⟨_, z0, z1, z2, z3, z4, y0, y1, y2, y3, y4, y5⟩ := KT.out _ HBW.out
  go_wp2_with (first
    | (go_at_call 33; refine (CS.out _ (bel_thenD HB2.out (Nat.le_refl _) HBW.out)).mono ?_; rintro e w3 ⟨s, rfl, hrs, hb3⟩; have HRS := Lib.hid hrs; have HBX := Lib.hid (bel_thenD HBW.out (Nat.le_refl _) hb3); clear hrs hb3))
  clear z0 z1 z2 z3 z4 y0 y1 y2 y3 y4 y5
  obtain ⟨_, z0, z1, z2, z3, z4, y0, y1, y2, y3, y4, y5⟩ := KT.out _ HBX.out
  go_region_held3 (fun W => Below w2.heap.size w2 W ∧ W.cell? ⟨w.heap.size, 0, none⟩ = some (.int .i64 c.frame) ∧ W.cell? ⟨w.heap.size, 1, none⟩ = some (.int .i64 c.margin) ∧ W.cell? ⟨w.heap.size, 2, none⟩ = some (.slice wa c.ws.length wc) ∧ W.cell? ⟨w.heap.size, 3, none⟩ = some (.slice (some ⟨b, off, none⟩) c.ps.length pc) ∧ W.cell? ⟨w.heap.size, 4, none⟩ = some (.slice ca c.cs.length cc) ∧ W.cell? ⟨b, off + k * 6, none⟩ = some (.slice ta x.ts.length tc) ∧ W.cell? ⟨b, off + k * 6 + 1, none⟩ = some (.slice sa x.ss.length sc) ∧ W.cell? ⟨b, off + k * 6 + 2, none⟩ = some (.slice da x.ds.length dc) ∧ W.cell? ⟨b, off + k * 6 + 3, none⟩ = some (.int .u8 pv.a0) ∧ W.cell? ⟨b, off + k * 6 + 4, none⟩ = some (.int .u8 pv.a1) ∧ W.cell? ⟨b, off + k * 6 + 5, none⟩ = some (.int .u8 pv.a2))
    (first | exact KT.out _ HBX.out | exact KT.out _ HBX.out.drew | exact KT.out _ (by assumption))
    (first
      | (go_at_call 34; refine (refHyper_at HFF.out (HPX.out _ (by go_split_ands; assumption)) (by omega) (by omega) _ _ _ _ _ _).mono ?_; rintro e w5 ⟨rfl, hb5⟩; rw [HOK.out, HRH.out]; have HRS5 := Lib.hid ((HRS.out.later (Below.refl _ _).drew).later hb5); have hbn : Below w2.heap.size w2 w5 := (bel_thenD HBX.out.drew (Nat.le_refl _) hb5))
      | fail "no arm")
  have HBY := Lib.hid (show Below w2.heap.size w2 w5 from by assumption)
  clear z0 z1 z2 z3 z4 y0 y1 y2 y3 y4 y5
  go_wp2_with fail
  go_loopw [15] (fun i wr => ∃ T : Nat, T ≤ n' ∧ i = .int .i64 T ∧ Hid (∀ j, j < T → 0 ≤ S j) ∧ Hid (RSupAt wr s F c.margin c.ws (k : Int)) ∧ Below w2.heap.size w2 wr) (fun i _ => n' - (intOf i).toNat)
  case atStart => exact ⟨0, by omega, rfl, Lib.hid (fun j h => absurd h (by omega)), HRS5, HBY.out⟩
  case round =>
    obtain ⟨T, hT, rfl, HS0, HRS, hb⟩ := hrel
    obtain ⟨_, z0, z1, z2, z3, z4, y0, y1, y2, y3, y4, y5⟩ := KT.out wr hb
    by_cases hlt : T < n'
    · have tk : decide ((T : Int) < (n' : Int)) = true := by rw [decide_eq_true_eq]; omega
      have hsv := HSV.out T (by omega)
      obtain ⟨db0, db1⟩ := HDB.out (T : Int)
      obtain ⟨lb2, lb3⟩ := HLB.out (T : Int)
      obtain ⟨dm, hdm⟩ : ∃ d, d = demV x (T : Int) high := ⟨_, rfl⟩
      obtain ⟨lv, hlv⟩ : ∃ d, d = leastV (isO F c.margin c.ws (k : Int)) F (heldN (T : Int)) := ⟨_, rfl⟩
      rw [← hdm, ← hlv, Int.toNat_natCast] at hsv
      rw [← hdm] at db0 db1
      rw [← hlv] at lb2
      have HD := Lib.hid hdm; have HLV := Lib.hid hlv
      clear hdm hlv
      by_cases hST : S T < 0
      · have td : decide ((lv : Int) < dm) = true := by rw [decide_eq_true_eq]; omega
        have HPH : Hid (phaseC c F k x high = some T) := Lib.hid (HIS.out.one (break_early hST HS0.out))
        clear hsv hST
        go_wp2_with (first
          | (go_at_call 36; refine (rLeast_at HRS6.out _).mono ?_; rintro e w7 ⟨rfl, hb7⟩; rw [← HLV.out]; have HB7 := Lib.hid (bel_thenD HB6.out (Nat.le_refl _) hb7); clear hb7)
          | (go_at_call 35; refine (rDemand_at (HPX.out _ hb) (by omega) (by omega) _ _ _ _ _ _ _ _).mono ?_; rintro e w6 ⟨rfl, hb6⟩; rw [← HD.out]; have HRS6 := Lib.hid (HRS.out.later hb6); have HB6 := Lib.hid (bel_thenD hb (Nat.le_refl _) hb6); clear hb6))
        go_ret2
        exact ⟨ret_tup (by rw [HPH.out]; rfl) (by rw [HPH.out]; rfl), HBV.out.trans ((bel_thenD HB2.out (Nat.le_refl _) HB7.out).mono (Nat.le_of_lt hVw))⟩
      · have td : decide ((lv : Int) < dm) = false := by rw [decide_eq_false_iff_not]; omega
        have HS1 := Lib.hid (show ∀ j, j < T + 1 → 0 ≤ S j from fun j hj => by
          rcases Nat.lt_or_ge j T with g | g
          · exact HS0.out j g
          · have : j = T := by omega
            subst this; omega)
        clear hsv hST
        go_wp2_with (first
          | (go_at_call 36; refine (rLeast_at HRS6.out _).mono ?_; rintro e w7 ⟨rfl, hb7⟩; rw [← HLV.out]; have HB7 := Lib.hid (bel_thenD HB6.out (Nat.le_refl _) hb7); have HRS7 := Lib.hid (HRS6.out.later hb7); clear hb7)
          | (go_at_call 35; refine (rDemand_at (HPX.out _ hb) (by omega) (by omega) _ _ _ _ _ _ _ _).mono ?_; rintro e w6 ⟨rfl, hb6⟩; rw [← HD.out]; have HRS6 := Lib.hid (HRS.out.later hb6); have HB6 := Lib.hid (bel_thenD hb (Nat.le_refl _) hb6); clear hb6))
        go_roundw
        case rel => exact ⟨T + 1, by omega, by go_num, HS1, HRS7, HB7.out⟩
        case measure => simp [intOf]; omega
    · have tk : decide ((T : Int) < (n' : Int)) = false := by rw [decide_eq_false_iff_not]; omega
      have HALL := Lib.hid (show ∀ j, j < far + h' → 0 ≤ S j from fun j hj => HS0.out j (by omega))
      have S0 : IntKind.i64.wrap (R - (lh : Int)) = R - (lh : Int) := IntWalk.i64_in _ (by omega)
      have e0 : R - (lh : Int) = lost := HLO2.out
      have S0' : IntKind.i64.wrap lost = lost := by rw [← e0]; exact S0
      have hlb : lost ≤ 43980465111080000 := by omega
      clear HS0
      by_cases hl : lost ≤ 0
      · have tl : decide (lost ≤ 0) = true := by rw [decide_eq_true_eq]; omega
        have HPH : Hid (phaseC c F k x high = none) := Lib.hid (HIS.out.one (break_never HR.out r2 HALL.out hl))
        clear hl
        go_wp2_with (first
          | (go_at_call 36; refine (rLeast_at HRS6.out _).mono ?_; rintro e w7 ⟨rfl, hb7⟩; rw [← HLH.out]; have HB7 := Lib.hid (bel_thenD HB6.out (Nat.le_refl _) hb7); clear hb7)
          | (go_at_call 37; refine (rRate_any _ _ _ _ _ _ _ _ _ _ _ _ _ _ _ _ x (HPX.out _ hb) (by omega) (by omega)).mono ?_; rintro e w6 ⟨rfl, hb6⟩; rw [← HRR.out]; have HRS6 := Lib.hid (HRS.out.later hb6); have HB6 := Lib.hid (bel_thenD hb (Nat.le_refl _) hb6); clear hb6))
        go_ret2
        exact ⟨ret_tup (by rw [HPH.out]; rfl) (by rw [HPH.out]; rfl), HBV.out.trans ((bel_thenD HB2.out (Nat.le_refl _) HB7.out).mono (Nat.le_of_lt hVw))⟩
      · have tl : decide (lost ≤ 0) = false := by rw [decide_eq_false_iff_not]; omega
        have hl0 : 0 < lost := by omega
        have HPH := Lib.hid (HIS.out.one (break_late HR.out r2 HALL.out hl0))
        obtain ⟨g, hg⟩ : ∃ g, g = fun i => atV S h' lost (far + i) := ⟨_, rfl⟩
        rw [← hg] at HPH
        have HG := Lib.hid (show ∀ i, g i = atV S h' lost (far + i) from fun i => by rw [hg])
        have S5 : IntKind.i64.wrap ((n' : Int) - (h' : Int)) = (far : Int) := by rw [IntWalk.i64_in _ (by omega)]; omega
        clear hg hl
        go_wp2_with (first
          | (go_at_call 36; refine (rLeast_at HRS6.out _).mono ?_; rintro e w7 ⟨rfl, hb7⟩; rw [← HLH.out]; have HB7 := Lib.hid (bel_thenD HB6.out (Nat.le_refl _) hb7); have HRS7 := Lib.hid (HRS6.out.later hb7); clear hb7)
          | (go_at_call 37; refine (rRate_any _ _ _ _ _ _ _ _ _ _ _ _ _ _ _ _ x (HPX.out _ hb) (by omega) (by omega)).mono ?_; rintro e w6 ⟨rfl, hb6⟩; rw [← HRR.out]; have HRS6 := Lib.hid (HRS.out.later hb6); have HB6 := Lib.hid (bel_thenD hb (Nat.le_refl _) hb6); clear hb6))
        clear z0 z1 z2 z3 z4 y0 y1 y2 y3 y4 y5
        go_loopw [17, 18] (fun bs ts wr => ∃ i t' : Nat, i ≤ h' ∧ t' ≤ far + i ∧ far + i ≤ t' ∧ bs = .int .i64 (bestTo g i) ∧ ts = .int .i64 t' ∧ Hid (RSupAt wr s F c.margin c.ws (k : Int)) ∧ Below w2.heap.size w2 wr) (fun _ ts _ => n' - (intOf ts).toNat)
        case atStart => exact ⟨0, far, by omega, by omega, by omega, rfl, by first | rfl | (congr 1; omega) | go_num, HRS7, HB7.out⟩
        case round =>
          clear hb HRS HRS7 HB7 HRS6 HB6
          obtain ⟨i, t', hi', ht1, ht2, rfl, rfl, HRS, hb⟩ := hrel
          have HCELL := KT.out wr hb
          have R1 := Lib.hid (Below.refl wr.heap.size wr)
          by_cases hlt : i < h'
          · have tk : decide ((t' : Int) < (n' : Int)) = true := by rw [decide_eq_true_eq]; omega
            have hsv := HSV.out t' (by omega)
            obtain ⟨db0, db1⟩ := HDB.out (t' : Int)
            obtain ⟨lb2, lb3⟩ := HLB.out (t' : Int)
            obtain ⟨dm, hdm⟩ : ∃ d, d = demV x (t' : Int) high := ⟨_, rfl⟩
            obtain ⟨lv, hlv⟩ : ∃ d, d = leastV (isO F c.margin c.ws (k : Int)) F (heldN (t' : Int)) := ⟨_, rfl⟩
            rw [← hdm, ← hlv, Int.toNat_natCast] at hsv
            rw [← hdm] at db0 db1
            rw [← hlv] at lb2
            have HD := Lib.hid hdm; have HLV := Lib.hid hlv
            have hL0 := HALL.out t' (by omega)
            have hL1 := HSB.out t'
            have hA := HG.out i
            rw [show far + i = t' by omega] at hA
            unfold atV at hA
            obtain ⟨L, hLe⟩ : ∃ L, L = S t' := ⟨_, rfl⟩
            rw [← hLe] at hsv hL0 hL1 hA
            have q0 : 0 ≤ L / lost := Int.ediv_nonneg hL0 (by omega)
            have q1 : L / lost ≤ L := div_le_self hL0 (by omega)
            have e1 : L.tdiv lost = L / lost := Int.tdiv_eq_ediv_of_nonneg hL0
            obtain ⟨q, hq⟩ : ∃ q, q = L / lost := ⟨_, rfl⟩
            rw [← hq] at q0 q1 e1 hA
            have e2 : L / lost = q := hq.symm
            obtain ⟨A, hAe⟩ : ∃ A, A = g i := ⟨_, rfl⟩
            rw [← hAe] at hA
            have hP0 : (q + 1).toNat * h' ≤ 65537 * 65536 := Nat.mul_le_mul (by omega) (by omega)
            have hAb : A ≤ 4295098368 := by omega
            have hPc : (q + 1) * (h' : Int) = (((q + 1).toNat * h' : Nat) : Int) := by rw [Int.natCast_mul, Int.toNat_of_nonneg (by omega)]
            obtain ⟨P, hP⟩ : ∃ P : Nat, P = (q + 1).toNat * h' := ⟨_, rfl⟩
            rw [← hP] at hA hP0 hPc
            have S1 : IntKind.i64.wrap ((lv : Int) - dm) = L := by rw [IntWalk.i64_in _ (by omega)]; exact hsv
            have S2 : IntKind.i64.wrap q = q := IntWalk.i64_in _ (by omega)
            have S3 : IntKind.i64.wrap (q + 1) = q + 1 := IntWalk.i64_in _ (by omega)
            have S4 : IntKind.i64.wrap ((P : Nat) : Int) = (P : Int) := IntWalk.i64_in _ (by omega)
            have S6 : IntKind.i64.wrap ((t' : Int) + (P : Int)) = (A : Int) := by rw [IntWalk.i64_in _ (by omega)]; omega
            have S7 : (t' : Int) + (P : Int) = (A : Int) := by omega
            have nz : (lost == 0) = false := by simp; omega
            have nz2 : ¬ lost = 0 := by omega
            have HN := Lib.hid (bestTo_cases g i)
            rw [← hAe] at HN
            clear hdm hlv hLe hq hAe hA hP
            obtain ⟨bs, hbs⟩ : ∃ bs, bs = bestTo g i := ⟨_, rfl⟩
            rw [← hbs] at HN
            rw [← hbs]
            clear hbs
            have HCS := Lib.hid HN.out
            clear HN
            obtain ⟨_, z0, z1, z2, z3, z4, y0, y1, y2, y3, y4, y5⟩ := HCELL
            go_wp2_with fail
            go_region_held3 (fun W => Below w2.heap.size w2 W ∧ W.cell? ⟨w.heap.size, 0, none⟩ = some (.int .i64 c.frame) ∧ W.cell? ⟨w.heap.size, 1, none⟩ = some (.int .i64 c.margin) ∧ W.cell? ⟨w.heap.size, 2, none⟩ = some (.slice wa c.ws.length wc) ∧ W.cell? ⟨w.heap.size, 3, none⟩ = some (.slice (some ⟨b, off, none⟩) c.ps.length pc) ∧ W.cell? ⟨w.heap.size, 4, none⟩ = some (.slice ca c.cs.length cc) ∧ W.cell? ⟨b, off + k * 6, none⟩ = some (.slice ta x.ts.length tc) ∧ W.cell? ⟨b, off + k * 6 + 1, none⟩ = some (.slice sa x.ss.length sc) ∧ W.cell? ⟨b, off + k * 6 + 2, none⟩ = some (.slice da x.ds.length dc) ∧ W.cell? ⟨b, off + k * 6 + 3, none⟩ = some (.int .u8 pv.a0) ∧ W.cell? ⟨b, off + k * 6 + 4, none⟩ = some (.int .u8 pv.a1) ∧ W.cell? ⟨b, off + k * 6 + 5, none⟩ = some (.int .u8 pv.a2))
              (first | exact KT.out _ hb | exact KT.out _ hb.drew | exact KT.out _ (by assumption))
              (first
                | (go_at_call 36; refine (rLeast_at HRSc.out _).mono ?_; rintro e w7 ⟨rfl, hb7⟩; rw [← HLV.out]; have hbn : Below w2.heap.size w2 w7 := (by go_split_ands; exact bel_thenD (by assumption) (Nat.le_refl _) hb7); have HRSz := Lib.hid (HRSc.out.later hb7))
                | (go_at_call 36; refine (rLeast_at (HRS.out.later (Below.refl _ _).drew) _).mono ?_; rintro e w7 ⟨rfl, hb7⟩; rw [← HLV.out]; have hbn : Below w2.heap.size w2 w7 := (by go_split_ands; exact bel_thenD hb.drew (Nat.le_refl _) hb7); have HRSl := Lib.hid ((HRS.out.later (Below.refl _ _).drew).later hb7))
                | (go_at_call 35; refine (rDemand_at (HPX.out _ (by go_split_ands; assumption)) (by omega) (by omega) _ _ _ _ _ _ _ _).mono ?_; rintro e w6 ⟨rfl, hb6⟩; rw [← HD.out]; have HRSz := Lib.hid (HRSl.out.later hb6); have hbn : Below w2.heap.size w2 w6 := (by go_split_ands; exact bel_thenD (by assumption) (Nat.le_refl _) hb6))
                | (go_at_call 35; refine (rDemand_at (HPX.out _ hb.drew) (by omega) (by omega) _ _ _ _ _ _ _ _).mono ?_; rintro e w6 ⟨rfl, hb6⟩; rw [← HD.out]; have hbn : Below w2.heap.size w2 w6 := (bel_thenD hb.drew (Nat.le_refl _) hb6); have HRSc := Lib.hid ((HRS.out.later (Below.refl _ _).drew).later hb6))
                | fail "no arm")
            all_goals
              (have HBZ := Lib.hid (show Below w2.heap.size w2 _ from hbn)
               clear z0 z1 z2 z3 z4 y0 y1 y2 y3 y4 y5
               rcases HCS.out with ⟨g1, g3⟩ | ⟨g1, g2, g3⟩ | ⟨g1, g2, g3⟩
               all_goals
                 (have HN := Lib.hid g3
                  clear g3
                  go_wp2_with fail
                  go_roundw
                  case rel => exact ⟨i + 1, t' + 1, by omega, by omega, by omega, by rw [HN.out], by go_num, HRSz, HBZ.out⟩
                  case measure => simp [intOf]; omega))
          · have tk : decide ((t' : Int) < (n' : Int)) = false := by rw [decide_eq_false_iff_not]; omega
            have HBT : Hid (bestTo g i = (leastOf g (h' - 1) : Int)) := Lib.hid (by
              obtain ⟨j, rfl⟩ : ∃ j, i = j + 1 := ⟨i - 1, by omega⟩
              have : h' - 1 = j := by omega
              rw [this]; rfl)
            obtain ⟨bs, hbs⟩ : ∃ bs, bs = bestTo g i := ⟨_, rfl⟩
            rw [← hbs] at HBT
            rw [← hbs]
            clear hbs HCELL
            go_wp2_with fail
            go_ret2
            exact ⟨ret_tup (by rw [HPH.out]; exact HBT.out) (by rw [HPH.out]; rfl), HBV.out.trans ((bel_thenD HB2.out (Nat.le_refl _) hb).mono (Nat.le_of_lt hVw))⟩
theorem rPhase_sys {w : World} {hi : Nat} {c : Cf} {pvs : List Pv} {wa pa ca : Option Addr} {wc pc cc : Nat} (fw : Few c) (h : SysL w hi c pvs wa pa ca wc pc cc) (hh : hi ≤ w.heap.size) (hin : ∀ x ∈ c.ws, x.In) (hF64 : I64 c.frame) (F : Nat) (hFe : (checkV c).1 = 0 → c.frame = (F : Int)) (p : Int) (high : Bool) :
    Calls Tryz.prog 14 #[.agg #[.int .i64 c.frame, .int .i64 c.margin, .slice wa c.ws.length wc, .slice pa c.ps.length pc, .slice ca c.cs.length cc], .int .i64 p, .bool high] w fun e w' => e = .returned (.tuple #[.int .i64 (phaseT c F p high).1, .bool (phaseT c F p high).2]) ∧ Below w.heap.size w w' := by
  by_cases hn : (checkV c).1 ≠ 0 ∨ hasB c.ps.length p = false
  · rw [phaseT_no hn]
    exact rPhase_no fw h hh hin p high hn
  · have hz : (checkV c).1 = 0 := Classical.byContradiction fun g => hn (.inl g)
    have hp : hasB c.ps.length p = true := by cases g : hasB c.ps.length p with | true => rfl | false => exact absurd (.inr g) hn
    obtain ⟨p0, p1⟩ := hasB_true hp
    obtain ⟨k, rfl⟩ := Int.eq_ofNat_of_zero_le p0
    obtain ⟨x, hx⟩ : ∃ x, c.ps[k]? = some x := ⟨_, List.getElem?_eq_getElem (by omega)⟩
    cases hb : boundOk c.frame x with
    | true =>
      rw [phaseT_yes hz hx hb]
      exact rPhase_yes fw h hh hin hF64 hz F (hFe hz) hx high hb
    | false =>
      rw [phaseT_large hz hx hb]
      exact rPhase_large fw h hh hin hF64 hz F (hFe hz) hx high hb
end Go.Proofs.YtdbbdlobahalkaaGreat
namespace Go.Proofs.YtdbbdlobahalkaaGreat
open Go.ChangeShapes Go.WideShapes Go.ChangeAt Go.RowKit
set_option linter.unusedVariables false
attribute [local go_sem ↓] Go.wp_at_zero Go.wp_at_succ

theorem Tryz.sizeVerdR : (Tryz.prog.info? 28).map (·.size) = some 4 := by kernel_rfl
set_option maxRecDepth 100000 in
set_option maxHeartbeats 4000000 in
theorem rJudge_sys {w : World} {hi : Nat} {c : Cf} {pvs : List Pv} {wa pa ca : Option Addr} {wc pc cc : Nat} (fw : Few c) (h : SysL w hi c pvs wa pa ca wc pc cc) (hh : hi ≤ w.heap.size) (hin : ∀ x ∈ c.ws, x.In) (hF64 : I64 c.frame) (F : Nat) (hFe : (checkV c).1 = 0 → c.frame = (F : Int)) :
    Calls Tryz.prog 10 #[.agg #[.int .i64 c.frame, .int .i64 c.margin, .slice wa c.ws.length wc, .slice pa c.ps.length pc, .slice ca c.cs.length cc]] w fun e w' => e = .returned (.tuple #[.agg (judgeV c F).1.cells, .int .i64 (judgeV c F).2]) ∧ Below w.heap.size w w' := by
  obtain ⟨V, hV⟩ : ∃ V, V = (w.alloc (.cells #[.int .i64 c.frame, .int .i64 c.margin, .slice wa c.ws.length wc, .slice pa c.ps.length pc, .slice ca c.cs.length cc] 26)).alloc (.cells #[.int .i64 0, .int .i64 0, .bool false, .int .i64 0] 28) := ⟨_, rfl⟩
  have hbb : Below (w.alloc (.cells #[.int .i64 c.frame, .int .i64 c.margin, .slice wa c.ws.length wc, .slice pa c.ps.length pc, .slice ca c.cs.length cc] 26)).heap.size (w.alloc (.cells #[.int .i64 c.frame, .int .i64 c.margin, .slice wa c.ws.length wc, .slice pa c.ps.length pc, .slice ca c.cs.length cc] 26)) V := by rw [hV]; exact below1 _ _
  have hBV : Below w.heap.size w V := bel_thenD (below1 _ _) (Nat.le_refl _) hbb
  have hVz : V.heap.size = w.heap.size + 2 := by rw [hV]; simp
  have hVw : w.heap.size < V.heap.size := by omega
  have kx : ∀ W : World, Below V.heap.size V W → W.heap[w.heap.size + 1]? = some (.cells #[.int .i64 0, .int .i64 0, .bool false, .int .i64 0] 28 (0, 0)) := fun W g => (g.block _ (by omega)).trans (by rw [hV]; exact heap_alloc2_new _ _ _)
  have ks : ∀ W : World, Below V.heap.size V W → W.cell? ⟨w.heap.size, 0, none⟩ = some (.int .i64 c.frame) ∧ W.cell? ⟨w.heap.size, 1, none⟩ = some (.int .i64 c.margin) ∧ W.cell? ⟨w.heap.size, 2, none⟩ = some (.slice wa c.ws.length wc) ∧ W.cell? ⟨w.heap.size, 3, none⟩ = some (.slice pa c.ps.length pc) ∧ W.cell? ⟨w.heap.size, 4, none⟩ = some (.slice ca c.cs.length cc) ∧ W.cell? ⟨w.heap.size + 1, 0, none⟩ = some (.int .i64 0) ∧ W.frozen? ⟨w.heap.size + 1, 0, none⟩ = false ∧ W.cell? ⟨w.heap.size + 1, 1, none⟩ = some (.int .i64 0) ∧ W.frozen? ⟨w.heap.size + 1, 1, none⟩ = false ∧ W.cell? ⟨w.heap.size + 1, 2, none⟩ = some (.bool false) ∧ W.frozen? ⟨w.heap.size + 1, 2, none⟩ = false ∧ W.cell? ⟨w.heap.size + 1, 3, none⟩ = some (.int .i64 0) ∧ W.frozen? ⟨w.heap.size + 1, 3, none⟩ = false := fun W g => by
    obtain ⟨k0, k1, k2, k3, k4⟩ := boxK5 w (.int .i64 c.frame) (.int .i64 c.margin) (.slice wa c.ws.length wc) (.slice pa c.ps.length pc) (.slice ca c.cs.length cc) 26 W (bel_thenD hbb (Nat.le_refl _) g)
    have k := kx W g
    exact ⟨k0, k1, k2, k3, k4, cell_in k rfl, free_in k 0, cell_in k rfl, free_in k 1, cell_in k rfl, free_in k 2, cell_in k rfl, free_in k 3⟩
  have HS := Lib.hid (fun (W : World) (g : Below V.heap.size V W) => And.intro (h.keep (SameIn.of_below (hBV.trans (g.mono (Nat.le_of_lt hVw))) hh)) (Nat.le_trans (Nat.le_trans hh (Nat.le_of_lt hVw)) g.size))
  have CK := Lib.hid (fun (W : World) (g : Below V.heap.size V W) => refCheck_sys fw (HS.out W g).1 (HS.out W g).2 hin)
  have CA := Lib.hid (fun (W : World) (g : Below V.heap.size V W) => refAll_sys fw hF64 (HS.out W g).1 (HS.out W g).2)
  have HV := Lib.hid hV; have HBV := Lib.hid hBV; have KS := Lib.hid ks; have KX := Lib.hid kx
  have hx2 : V.heap.size ≤ w.heap.size + 2 := by omega
  by_cases hz : (checkV c).1 = 0
  case neg =>
    have HJ : Hid ((judgeV c F).1 = noVd ∧ (judgeV c F).2 = (checkV c).1) := Lib.hid (by unfold judgeV; rw [if_neg hz]; exact ⟨rfl, rfl⟩)
    have t1 : ((checkV c).1 != 0) = true := by simpa using hz
    have t2 : ((checkV c).1 == 0) = false := by simpa using hz
    clear hV hbb hBV ks kx h fw hin hFe hVz hz
    generalize (checkV c).1 = e1 at *
    generalize (checkV c).2 = e2 at *
    go_enter Tryz.func10, Tryz.ntmps10
    go_wp2_with (first
      | (go_at_call 28; rw [← HV.out]; refine (CK.out V (Below.refl _ _)).mono ?_; rintro e w1 ⟨rfl, hb1⟩; have HB1 := Lib.hid hb1; obtain ⟨z0, z1, z2, z3, z4, x0, q0, x1, q1, x2, q2, x3, q3⟩ := KS.out _ hb1; clear hb1))
    (try simp only [Exit.inBlock, Exit.then])
    have hX := set4 (KX.out _ HB1.out) rfl (.int .i64 0) (.int .i64 0) (.bool false) (.int .i64 0)
    refine bodyPost_ret (results_row_tmp (P := Tryz.prog) rfl _ _ (w.heap.size + 1) _ _ (0, 0) _ rfl hX Tryz.underlying28 rfl Tryz.sizeVerdR) rfl ?_
    exact ⟨by rw [HJ.out.1, HJ.out.2]; rfl, below4 (HBV.out.trans (HB1.out.mono (Nat.le_of_lt hVw))) (by omega) _ _ _ _⟩
  case pos =>
    have hF := hFe hz
    have t1 : ((checkV c).1 != 0) = false := by simpa using hz
    have t2 : ((checkV c).1 == 0) = true := by simpa using hz
    by_cases hal : 0 ≤ (allV c).1
    · have HJ : Hid ((judgeV c F).1 = ⟨2, (allV c).1, false, 0⟩ ∧ (judgeV c F).2 = 0) := Lib.hid (by unfold judgeV; rw [if_pos hz, if_pos hal]; exact ⟨rfl, rfl⟩)
      have t3 : decide (0 ≤ (allV c).1) = true := by simpa using hal
      clear hV hbb hBV ks kx h fw hin hFe hVz hz hF hF64
      generalize (checkV c).1 = e1 at *
      generalize (checkV c).2 = e2 at *
      generalize (allV c).1 = e3 at *
      generalize (allV c).2 = e4 at *
      go_enter Tryz.func10, Tryz.ntmps10
      go_wp2_with (first
        | (go_at_call 28; rw [← HV.out]; refine (CK.out V (Below.refl _ _)).mono ?_; rintro e w1 ⟨rfl, hb1⟩; have HB1 := Lib.hid hb1; obtain ⟨z0, z1, z2, z3, z4, x0, q0, x1, q1, x2, q2, x3, q3⟩ := KS.out _ hb1; clear hb1)
        | (go_at_call 22; refine (CA.out _ HB1.out).mono ?_; rintro e w2 ⟨rfl, hb2⟩; have HB2 := Lib.hid (bel_thenD HB1.out (Nat.le_refl _) hb2); clear z0 z1 z2 z3 z4 x0 q0 x1 q1 x2 q2 x3 q3; obtain ⟨z0, z1, z2, z3, z4, x0, q0, x1, q1, x2, q2, x3, q3⟩ := KS.out _ HB2.out; clear hb2))
      (try simp only [Exit.inBlock, Exit.then])
      have hX := set4 (KX.out _ HB2.out) rfl (.int .i64 2) (.int .i64 e3) (.bool false) (.int .i64 0)
      refine bodyPost_ret (results_row_tmp (P := Tryz.prog) rfl _ _ (w.heap.size + 1) _ _ (0, 0) _ rfl hX Tryz.underlying28 rfl Tryz.sizeVerdR) rfl ?_
      exact ⟨by rw [HJ.out.1, HJ.out.2]; rfl, below4 (HBV.out.trans (HB2.out.mono (Nat.le_of_lt hVw))) (by omega) _ _ _ _⟩
    · have HJ : Hid ((judgeV c F).1 = judgeRun (phAt c F) (2 * c.ps.length) 0 ∧ (judgeV c F).2 = 0) := Lib.hid (by unfold judgeV; rw [if_pos hz, if_neg hal]; exact ⟨rfl, rfl⟩)
      have t3 : decide (0 ≤ (allV c).1) = false := by simpa using hal
      have hbnd := all_bounded (F := c.frame) (l := c.ps) (m := 0) (k := 0) (by omega) (show (allV c).1 < 0 by omega)
      have hlen6 : c.ps.length ≤ 6 := ((check_iff c).1 hz).2.1.2
      have CP := Lib.hid (fun (W : World) (g : Below V.heap.size V W) (i : Nat) (hi : i < 2 * c.ps.length) => show Calls Tryz.prog 14 #[.agg #[.int .i64 c.frame, .int .i64 c.margin, .slice wa c.ws.length wc, .slice pa c.ps.length pc, .slice ca c.cs.length cc], .int .i64 ((i / 2 : Nat) : Int), .bool (i % 2 == 1)] W fun e w' => e = .returned (.tuple #[.int .i64 (phTell (phAt c F i)).1, .bool (phTell (phAt c F i)).2]) ∧ Below W.heap.size W w' from by
        have hlt : i / 2 < c.ps.length := by omega
        obtain ⟨x, hx⟩ : ∃ x, c.ps[i / 2]? = some x := ⟨_, List.getElem?_eq_getElem hlt⟩
        have e : phAt c F i = phaseC c F (i / 2) x (i % 2 == 1) := by unfold phAt; rw [hx]
        rw [e]
        exact rPhase_yes fw (HS.out W g).1 (HS.out W g).2 hin hF64 hz F hF hx _ (hbnd x (List.mem_of_getElem? hx)))
      clear hV hbb hBV ks kx h fw hin hFe hVz hz hF hF64 hbnd hal
      generalize (checkV c).1 = e1 at *
      generalize (checkV c).2 = e2 at *
      generalize (allV c).1 = e3 at *
      generalize (allV c).2 = e4 at *
      obtain ⟨ph, hph⟩ : ∃ ph, ph = phAt c F := ⟨_, rfl⟩
      rw [← hph] at CP HJ
      clear hph
      go_enter Tryz.func10, Tryz.ntmps10
      go_wp2_with (first
        | (go_at_call 28; rw [← HV.out]; refine (CK.out V (Below.refl _ _)).mono ?_; rintro e w1 ⟨rfl, hb1⟩; have HB1 := Lib.hid hb1; obtain ⟨z0, z1, z2, z3, z4, x0, q0, x1, q1, x2, q2, x3, q3⟩ := KS.out _ hb1; clear hb1)
        | (go_at_call 22; refine (CA.out _ HB1.out).mono ?_; rintro e w2 ⟨rfl, hb2⟩; have HB2 := Lib.hid (bel_thenD HB1.out (Nat.le_refl _) hb2); clear hb2))
      clear z0 z1 z2 z3 z4 x0 q0 x1 q1 x2 q2 x3 q3
      go_loopw [8] (fun i wr => ∃ j : Nat, j ≤ 2 * c.ps.length ∧ i = .int .i64 j ∧ Hid (judgeRun ph (2 * c.ps.length) 0 = judgeRun ph (2 * c.ps.length - j) j) ∧ Below V.heap.size V wr) (fun i _ => 2 * c.ps.length - (intOf i).toNat)
      case atStart => exact ⟨0, by omega, rfl, Lib.hid rfl, HB2.out⟩
      case round =>
        obtain ⟨j, hj, rfl, HR, hb⟩ := hrel
        obtain ⟨z0, z1, z2, z3, z4, x0, q0, x1, q1, x2, q2, x3, q3⟩ := KS.out wr hb
        have S0 : IntKind.i64.wrap (2 * (c.ps.length : Int)) = 2 * (c.ps.length : Int) := IntWalk.i64_in _ (by omega)
        by_cases hlt : j < 2 * c.ps.length
        · have tk : decide ((j : Int) < 2 * (c.ps.length : Int)) = true := by rw [decide_eq_true_eq]; omega
          have CPJ := Lib.hid (CP.out wr hb j hlt)
          have e1' : (j : Int) / 2 = ((j / 2 : Nat) : Int) := by omega
          have e2' : (j : Int).tdiv 2 = ((j / 2 : Nat) : Int) := by rw [Int.tdiv_eq_ediv_of_nonneg (by omega)]; exact e1'
          have hm : (j % 2 = 0 ∧ (j : Int) % 2 = 0 ∧ (j : Int).tmod 2 = 0) ∨ (j % 2 = 1 ∧ (j : Int) % 2 = 1 ∧ (j : Int).tmod 2 = 1) := by
            have e3 : (j : Int).tmod 2 = (j : Int) % 2 := Int.tmod_eq_emod_of_nonneg (by omega)
            omega
          have hkb : j / 2 ≤ 6 := by omega
          obtain ⟨m', hm'⟩ : ∃ m', 2 * c.ps.length - j = m' + 1 := ⟨2 * c.ps.length - j - 1, by omega⟩
          have hm2 : 2 * c.ps.length - (j + 1) = m' := by omega
          have HM := Lib.hid hm'; have HM2 := Lib.hid hm2
          clear hm' hm2
          have HQ := Lib.hid (show (j / 2 : Nat) = j / 2 from rfl)
          obtain ⟨kk, hkk⟩ : ∃ kk, kk = j / 2 := ⟨_, rfl⟩
          rw [← hkk] at e1' e2' hkb CPJ
          have HKK := Lib.hid hkk
          clear hkk HQ
          have S1 : IntKind.i64.wrap (kk : Int) = (kk : Int) := IntWalk.i64_in _ (by omega)
          rcases hm with ⟨g0, g1, g2⟩ | ⟨g0, g1, g2⟩
          all_goals
            (have HG := Lib.hid g0
             have CPK := CPJ.out
             rw [g0] at CPK
             have CPQ := Lib.hid CPK
             clear g0 CPK
             cases hp : ph j with
             | some T =>
               have HN := Lib.hid hp
               have HST := Lib.hid (judge_stop (m := m') hp)
               clear hp
               go_wp2_with (first
                 | (go_at_call 14; refine (CPQ.out).mono ?_; rintro e w5 ⟨rfl, hb5⟩; rw [HN.out]; have HB5 := Lib.hid (bel_thenD hb (Nat.le_refl _) hb5); clear z0 z1 z2 z3 z4 x0 q0 x1 q1 x2 q2 x3 q3; obtain ⟨z0, z1, z2, z3, z4, x0, q0, x1, q1, x2, q2, x3, q3⟩ := KS.out _ HB5.out; clear hb5; simp only [phTell]))
               (try simp only [Exit.inBlock, Exit.then])
               refine bodyPost_ret (results_row_tmp (P := Tryz.prog) rfl _ _ (w.heap.size + 1) _ _ (0, 0) _ rfl (set4 (KX.out _ HB5.out) rfl _ _ _ _) Tryz.underlying28 rfl Tryz.sizeVerdR) rfl ?_
               exact ⟨by rw [HJ.out.1, HJ.out.2, HR.out, HM.out, HST.out, HG.out, ← HKK.out]; rfl, below4 (HBV.out.trans (HB5.out.mono (Nat.le_of_lt hVw))) (by omega) _ _ _ _⟩
             | none =>
               have HN := Lib.hid hp
               have HST := Lib.hid (judge_next (m := m') hp)
               clear hp
               go_wp2_with (first
                 | (go_at_call 14; refine (CPQ.out).mono ?_; rintro e w5 ⟨rfl, hb5⟩; rw [HN.out]; have HB5 := Lib.hid (bel_thenD hb (Nat.le_refl _) hb5); clear hb5; simp only [phTell]))
               go_roundw
               case rel => exact ⟨j + 1, by omega, by go_num, Lib.hid (by rw [HR.out, HM.out, HST.out, HM2.out]), HB5.out⟩
               case measure => simp [intOf]; omega)
        · have tk : decide ((j : Int) < 2 * (c.ps.length : Int)) = false := by rw [decide_eq_false_iff_not]; omega
          have HE : Hid (judgeRun ph (2 * c.ps.length) 0 = noVd) := Lib.hid (by rw [HR.out, show 2 * c.ps.length - j = 0 by omega]; rfl)
          go_wp2_with fail
          (try simp only [Exit.inBlock, Exit.then])
          refine bodyPost_ret (results_row_tmp (P := Tryz.prog) rfl _ _ (w.heap.size + 1) _ _ (0, 0) _ rfl (set4 (KX.out _ hb) rfl _ _ _ _) Tryz.underlying28 rfl Tryz.sizeVerdR) rfl ?_
          exact ⟨by rw [HJ.out.1, HJ.out.2, HE.out]; rfl, below4 (HBV.out.trans (hb.mono (Nat.le_of_lt hVw))) (by omega) _ _ _ _⟩
end Go.Proofs.YtdbbdlobahalkaaGreat
