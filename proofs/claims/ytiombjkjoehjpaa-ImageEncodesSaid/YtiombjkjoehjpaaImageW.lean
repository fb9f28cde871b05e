/- A whole system as bytes, or why not: the document's answer. -/
import Derived.Test.YtiombjkjoehjpaaImageV
import Derived.Test.YtiombjkjoehjpaaImageH
namespace Go.Proofs.Ytiombjkjoehjpaa
open Go.ChangeShapes Go.WideShapes Go.ChangeAt Go.RowKit
set_option linter.unusedVariables false

theorem few_room {c : Cf} (h : Few c) : RoomR (some []) (cfF c) := by
  obtain ⟨h1, h2, h3, h4⟩ := h
  have := szL_cf 1000 c h1 h2 h3 h4
  intro fs e
  cases e
  rw [show szL [] = 0 from rfl]
  omega
/-- What Encode answers, in memory. -/
def EncPost (c : Cf) (w : World) (e : Ending) (w' : World) : Prop := ∃ a n cp, e = .returned (.tuple #[.slice a n cp, .int .i64 (encV c).2]) ∧ (encV c).1.length = n ∧ Lies w' w.heap.size w'.heap.size (.slice a n cp) n 1 (bts (encV c).1) ∧ Below w.heap.size w w'
set_option maxRecDepth 100000 in
set_option maxHeartbeats 8000000 in
theorem rEncode_any (fr mg : Int) (wa pa ca : Option Addr) (wn wq pn pc cn cc : Nat) (w : World) (lo hi : Nat) (ws : List Wn) (ps : List Pt) (cs : List Ch) (pvs : List Pv) (f : Few ⟨fr, mg, ws, ps, cs⟩) (hfr : ∀ p ∈ ps, Fair p)
    (h1 : ws.length = wn) (h2 : ps.length = pn) (h3 : cs.length = cn) (l1 : Lies w lo hi (.slice wa wn wq) wn 3 (ws.flatMap Wn.cells)) (l2 : Lies w lo hi (.slice pa pn pc) pn 6 (pvs.flatMap Pv.cells)) (hal : AllLie w lo hi pvs ps) (l3 : Lies w lo hi (.slice ca cn cc) cn 4 (cs.flatMap Ch.cells)) (hhi : hi ≤ w.heap.size) :
    Calls Try.prog 11 #[.agg #[.int .i64 fr, .int .i64 mg, .slice wa wn wq, .slice pa pn pc, .slice ca cn cc]] w fun e w' => EncPost ⟨fr, mg, ws, ps, cs⟩ w e w' := by
  have hr := few_room f
  obtain ⟨b1, b2, b3, b4⟩ := f
  simp only at b1 b2 b3 b4
  rw [h1] at b1; rw [h2] at b2; rw [h3] at b3
  have HF : Hid (cfF ⟨fr, mg, ws, ps, cs⟩ = sized 4 [1346458187] ++ (sized 2 [fr, mg] ++ (manyF wnF ws ++ (manyF ptF ps ++ manyF chF cs)))) := Lib.hid rfl
  rw [HF.out] at hr
  have R1 := Lib.hid hr.left
  have R2 := Lib.hid hr.right.left
  have R3 := Lib.hid hr.right.right.left
  have R4 := Lib.hid hr.right.right.right.left
  have R5 := Lib.hid hr.right.right.right.right
  have E3 : Hid (sized 1 [(wn : Int)] = headF wnF ws 0) := Lib.hid (by rw [← h1]; rfl)
  have E4 : Hid (sized 1 [(pn : Int)] = headF ptF ps 0) := Lib.hid (by rw [← h2]; rfl)
  have E5 : Hid (sized 1 [(cn : Int)] = headF chF cs 0) := Lib.hid (by rw [← h3]; rfl)
  have HL1 := Lib.hid l1; have HL2 := Lib.hid l2; have HL3 := Lib.hid l3; have HAL := Lib.hid hal; have HFR := Lib.hid hfr
  have HWN' := Lib.hid h1; have HPN := Lib.hid h2; have HCN := Lib.hid h3
  clear h1 h2 h3 l1 l2 l3 hal hr hfr b4
  obtain ⟨w0, hw0⟩ : ∃ w0, w0 = (w.alloc (.cells #[.int .i64 fr, .int .i64 mg, .slice wa wn wq, .slice pa pn pc, .slice ca cn cc] 26 (0, 0))).alloc (.cells #[.slice none 0 0, .int .i64 0] 83 (0, 0)) := ⟨_, rfl⟩
  have B0 : Hid (Below w.heap.size w w0) := Lib.hid (by rw [hw0]; exact (below1 _ _).alloc (by simp) _)
  have hs0 : w0.heap.size = w.heap.size + 2 := by rw [hw0]; simp
  have HW0 : Hid (WrR w0 (w.heap.size + 1) (some [])) := Lib.hid (by rw [hw0]; exact WrR.new (heap_new_at (by simp)))
  have HK0 : Hid (w0.heap[w.heap.size]? = some (.cells #[.int .i64 fr, .int .i64 mg, .slice wa wn wq, .slice pa pn pc, .slice ca cn cc] 26 (0, 0))) := Lib.hid (by rw [hw0]; exact at_alloc (heap_new_at rfl))
  have HV := Lib.hid hw0
  clear hw0
  go_enter Try.func11, Try.ntmps11
  go_upto_block 0 with (first
    | (go_at_call 23
       refine (rput_new (w.heap.size + 1) _ 1 [(wn : Int)] w2.heap.size 1 _ (HW2.out.keep (below1 _ _)) rfl (heap_new_at rfl) (by rfl) (by omega) (by omega) (by omega) (by rw [E3.out]; exact R3.out.head)).mono ?_
       rintro e w3 ⟨rfl, hw3, hm3⟩
       have HM3 := Lib.hid ((HM2.out.alloc (by omega) _).trans hm3)
       have HK3 := Lib.hid (hm3.keep _ _ _ _ (at_alloc HK2.out) (by decide) (by decide))
       rw [E3.out] at hw3
       have HW3 := Lib.hid hw3
       clear hw3 hm3)
    | (go_at_call 23
       refine (rput_new (w.heap.size + 1) _ 2 [fr, mg] w1.heap.size 2 _ (HW1.out.keep (below1 _ _)) rfl (heap_new_at rfl) (by rfl) (by omega) (by omega) (by omega) R2.out).mono ?_
       rintro e w2 ⟨rfl, hw2, hm2⟩
       have HM2 := Lib.hid ((HM1.out.alloc (by omega) _).trans hm2)
       have kk := hm2.keep _ _ _ _ (at_alloc HK1.out) (by decide) (by decide)
       have y2 := cell_in (j := 2) kk rfl
       have hk2 := lt_of_block kk
       have hX2 : w.heap.size + 1 < w2.heap.size := hw2.lt
       have HK2 := Lib.hid kk
       have HW2 := Lib.hid hw2
       clear hw2 hm2 kk)
    | (rw [← HV.out]
       go_at_call 23
       refine (rput_new (w.heap.size + 1) (some []) 4 [1346458187] (w.heap.size + 2) 1 _ (HW0.out.keep (below1 _ _)) rfl (heap_new_at hs0.symm) (by rfl) (by omega) (by omega) (by omega) R1.out).mono ?_
       rintro e w1 ⟨rfl, hw1, hm1⟩
       have HM1 : Hid (Mine (w.heap.size + 1) w0 w1) := Lib.hid (((Mine.refl (w.heap.size + 1) w0).alloc (by omega) _).trans hm1)
       have kk := hm1.keep _ _ _ _ (at_alloc HK0.out) (by decide) (by decide)
       have y0 := cell_in (j := 0) kk rfl
       have y1 := cell_in (j := 1) kk rfl
       have hk1 := lt_of_block kk
       have hX1 : w.heap.size + 1 < w1.heap.size := hw1.lt
       have HK1 := Lib.hid kk
       have HW1 := Lib.hid hw1
       clear hw1 hm1 kk))
  go_cut [5] from 26 to 63 (fun _ wx => Hid (WrR wx (w.heap.size + 1) (putS (putS (putS (some []) (sized 4 [1346458187])) (sized 2 [fr, mg])) (manyF wnF ws))) ∧ Hid (Mine (w.heap.size + 1) w0 wx) ∧ Hid (wx.heap[w.heap.size]? = some (.cells #[.int .i64 fr, .int .i64 mg, .slice wa wn wq, .slice pa pn pc, .slice ca cn cc] 26 (0, 0))))
  case first =>
    go_wp2_with fail
    go_loopw [5] (fun i wr => ∃ (k : Nat), k ≤ wn ∧ i = .int .i64 k ∧ Hid (WrR wr (w.heap.size + 1) (putS (putS (putS (some []) (sized 4 [1346458187])) (sized 2 [fr, mg])) (headF wnF ws k))) ∧ Hid (Mine (w.heap.size + 1) w0 wr) ∧ Hid (wr.heap[w.heap.size]? = some (.cells #[.int .i64 fr, .int .i64 mg, .slice wa wn wq, .slice pa pn pc, .slice ca cn cc] 26 (0, 0)))) (fun i _ => wn - (intOf i).toNat)
    case atStart => exact ⟨0, by omega, rfl, HW3, HM3, HK3⟩
    case round =>
      obtain ⟨k, hk, rfl, HW, HM, HK⟩ := hrel
      have kX := HW.out.err
      have hXr : w.heap.size + 1 < wr.heap.size := HW.out.lt
      have pb := cell_in (j := 2) HK.out rfl
      by_cases hlt : k < wn
      · have tk : decide ((k : Int) < (wn : Int)) = true := by simpa using hlt
        cases hst : putS (putS (putS (some []) (sized 4 [1346458187])) (sized 2 [fr, mg])) (headF wnF ws k) with
        | none =>
          have HNO : Hid (putS (putS (putS (some []) (sized 4 [1346458187])) (sized 2 [fr, mg])) (manyF wnF ws) = none) := Lib.hid (putS_head_none wnF ws k hst)
          rw [hst] at kX
          simp only [Option.isNone_none, if_true] at kX
          have HW9 : Hid (WrR wr (w.heap.size + 1) none) := Lib.hid (by have := HW.out; rw [hst] at this; exact this)
          clear hst
          go_wp2_with fail
          go_meet
          exact ⟨by rw [HNO.out]; exact HW9, HM, HK⟩
        | some fs =>
          rw [hst] at kX
          simp only [Option.isNone_some, Bool.false_eq_true, if_false] at kX
          clear hst
          obtain ⟨x, hx⟩ : ∃ x, ws[k]? = some x := ⟨_, List.getElem?_eq_getElem (by rw [HWN'.out]; exact hlt)⟩
          have HX1 := Lib.hid hx
          have hbw0 : Below w.heap.size w wr := B0.out.trans (HM.out.below.mono (by omega))
          have HBW := Lib.hid hbw0
          have hlies := HL1.out.keep (SameIn.of_below hbw0 hhi)
          obtain ⟨a2, c2, e2, _, _, hc⟩ := hlies
          cases e2
          rcases hc with h0 | ⟨b, off, rfl, hb1, hb2, hc⟩
          · omega
          have l0 : (0 : Int) ≤ (k : Int) := by omega
          have l1 : (k : Int) < (wn : Int) := by omega
          have HRX := Lib.hid (R3.out.at HX1.out)
          have hbX : b < w.heap.size := by omega
          obtain ⟨s0, s1, s2⟩ := Lies.wn hc hx
          obtain ⟨xa, xn, xp⟩ := x
          simp only at s0 s1 s2
          have S2 := Lib.hid ((HBW.out.cell (p := ⟨b, off + k * 3 + 2, none⟩) hbX).symm.trans s2)
          have TF : Hid (wnF ⟨xa, xn, xp⟩ = sized 2 [xa, xn] ++ sized 1 [xp]) := Lib.hid rfl
          have RA := Lib.hid (show RoomR _ (sized 2 [xa, xn]) from (by have := HRX.out; rw [TF.out] at this; exact this.left))
          have RB := Lib.hid (show RoomR _ (sized 1 [xp]) from (by have := HRX.out; rw [TF.out] at this; exact this.right))
          have hbw : b < wr.heap.size := by omega
          clear hc hx hbw0
          go_wp2_with fail
          go_region_law (first
            | (go_simp
               go_at_call 23
               refine (rput_new (w.heap.size + 1) _ 2 [xa, xn] wr.heap.size 2 _ ((HW.out.keep (Below.refl _ _).drew).keep (below1 _ _)) rfl (heap_new_at rfl) (by rfl) (by omega) (by omega) (by omega) RA.out).mono ?_
               rintro e w2 ⟨rfl, hw2, hm2⟩
               have kk := hm2.keep _ _ _ _ (at_alloc (w := wr.drew) HK.out) (by decide) (by decide)
               have HK2 := Lib.hid kk
               have y1 := cell_in (j := 2) kk rfl
               have HM2 := Lib.hid ((HM.out.drew.alloc (by omega) _).trans hm2)
               have v1 := ((B0.out.trans (HM2.out.below.mono (by omega))).cell (p := ⟨b, off + k * 3 + 2, none⟩) hbX).trans S2.out
               have HW2 := Lib.hid hw2
               have hX2 : w.heap.size + 1 < w2.heap.size := hw2.lt
               have hb2w : b < w2.heap.size := by omega
               clear hw2 hm2 kk))
          all_goals go_wp2_with (first
            | (go_at_call 23
               refine (rput_new (w.heap.size + 1) _ 1 [xp] w2.heap.size 1 _ (HW2.out.keep (below1 _ _)) rfl (heap_new_at rfl) (by rfl) (by omega) (by omega) (by omega) RB.out).mono ?_
               rintro e w3 ⟨rfl, hw3, hm3⟩
               have HKN := Lib.hid (hm3.keep _ _ _ _ (at_alloc HK2.out) (by decide) (by decide))
               have HMN := Lib.hid ((HM2.out.alloc (by omega) _).trans hm3)
               have HWN : Hid (WrR w3 (w.heap.size + 1) (putS _ (wnF ⟨xa, xn, xp⟩))) := Lib.hid (by rw [TF.out, putS_append]; exact hw3)
               clear hw3 hm3))
          all_goals go_wp2_with fail
          all_goals go_roundw
          all_goals first
            | (case rel => exact ⟨k + 1, by omega, by go_num, Lib.hid (by rw [headF_next _ _ _ _ HX1.out, putS_append]; exact HWN.out), HMN, HKN⟩)
            | (case measure => simp [intOf]; omega)
      · have tk : decide ((k : Int) < (wn : Int)) = false := by simp; omega
        have HE : Hid (headF wnF ws k = manyF wnF ws) := Lib.hid (headF_end _ _ _ (by rw [HWN'.out]; omega))
        go_wp2_with fail
        go_meet
        exact ⟨by rw [← HE.out]; exact HW, HM, HK⟩
  case rest =>
    obtain ⟨HWA4, HMA4, HKA4⟩ := hcut
    have hXA : w.heap.size + 1 < wc.heap.size := HWA4.out.lt
    have pA := cell_in (j := 3) HKA4.out rfl
    go_upto_block 2 with (first
      | (go_at_call 23
         refine (rput_new (w.heap.size + 1) _ 1 [(pn : Int)] wc.heap.size 1 _ (HWA4.out.keep (below1 _ _)) rfl (heap_new_at rfl) (by rfl) (by omega) (by omega) (by omega) (by rw [E4.out]; exact R4.out.head)).mono ?_
         rintro e w4 ⟨rfl, hw4, hm4⟩
         have HM4 := Lib.hid ((HMA4.out.alloc (by omega) _).trans hm4)
         have HK4 := Lib.hid (hm4.keep _ _ _ _ (at_alloc HKA4.out) (by decide) (by decide))
         rw [E4.out] at hw4
         have HW4 := Lib.hid hw4
         clear hw4 hm4))
    go_cut [6] from 70 to 90 (fun _ wx => Hid (WrR wx (w.heap.size + 1) (putS (putS (putS (putS (some []) (sized 4 [1346458187])) (sized 2 [fr, mg])) (manyF wnF ws)) (manyF ptF ps))) ∧ Hid (Mine (w.heap.size + 1) w0 wx) ∧ Hid (wx.heap[w.heap.size]? = some (.cells #[.int .i64 fr, .int .i64 mg, .slice wa wn wq, .slice pa pn pc, .slice ca cn cc] 26 (0, 0))))
    case first =>
      go_wp2_with fail
      go_loopw [6] (fun i wr => ∃ (k : Nat), k ≤ pn ∧ i = .int .i64 k ∧ Hid (WrR wr (w.heap.size + 1) (putS (putS (putS (putS (some []) (sized 4 [1346458187])) (sized 2 [fr, mg])) (manyF wnF ws)) (headF ptF ps k))) ∧ Hid (Mine (w.heap.size + 1) w0 wr) ∧ Hid (wr.heap[w.heap.size]? = some (.cells #[.int .i64 fr, .int .i64 mg, .slice wa wn wq, .slice pa pn pc, .slice ca cn cc] 26 (0, 0)))) (fun i _ => pn - (intOf i).toNat)
      case atStart => exact ⟨0, by omega, rfl, HW4, HM4, HK4⟩
      case round =>
        obtain ⟨k, hk, rfl, HW, HM, HK⟩ := hrel
        have kX := HW.out.err
        have hXr : w.heap.size + 1 < wr.heap.size := HW.out.lt
        have pb := cell_in (j := 3) HK.out rfl
        by_cases hlt : k < pn
        · have tk : decide ((k : Int) < (pn : Int)) = true := by simpa using hlt
          cases hst : putS (putS (putS (putS (some []) (sized 4 [1346458187])) (sized 2 [fr, mg])) (manyF wnF ws)) (headF ptF ps k) with
          | none =>
            have HNO : Hid (putS (putS (putS (putS (some []) (sized 4 [1346458187])) (sized 2 [fr, mg])) (manyF wnF ws)) (manyF ptF ps) = none) := Lib.hid (putS_head_none ptF ps k hst)
            rw [hst] at kX
            simp only [Option.isNone_none, if_true] at kX
            have HW9 : Hid (WrR wr (w.heap.size + 1) none) := Lib.hid (by have := HW.out; rw [hst] at this; exact this)
            clear hst
            go_wp2_with fail
            go_meet
            exact ⟨by rw [HNO.out]; exact HW9, HM, HK⟩
          | some fs =>
            rw [hst] at kX
            simp only [Option.isNone_some, Bool.false_eq_true, if_false] at kX
            clear hst
            obtain ⟨x, hx⟩ : ∃ x, ps[k]? = some x := ⟨_, List.getElem?_eq_getElem (by rw [HPN.out]; exact hlt)⟩
            have HX1 := Lib.hid hx
            have hbw0 : Below w.heap.size w wr := B0.out.trans (HM.out.below.mono (by omega))
            have HBW := Lib.hid hbw0
            have hlies := HL2.out.keep (SameIn.of_below hbw0 hhi)
            obtain ⟨a2, c2, e2, _, _, hc⟩ := hlies
            cases e2
            rcases hc with h0 | ⟨b, off, rfl, hb1, hb2, hc⟩
            · omega
            have l0 : (0 : Int) ≤ (k : Int) := by omega
            have l1 : (k : Int) < (pn : Int) := by omega
            have HRX := Lib.hid (R4.out.at HX1.out)
            have hbX : b < w.heap.size := by omega
            have hal := HAL.out.keep (SameIn.of_below hbw0 hhi)
            obtain ⟨v, hv⟩ : ∃ v, pvs[k]? = some v := ⟨_, List.getElem?_eq_getElem (by rw [hal.length, HPN.out]; exact hlt)⟩
            have hpl := hal.at hv hx
            obtain ⟨ta, sa, da, tc, sc, dc, e1, e2, e3⟩ := PtLies.slices hpl
            obtain ⟨s0, s1, s2, s3, s4, s5⟩ := Lies.pv hc hv
            have hfa := HFR.out x (List.mem_of_getElem? hx)
            obtain ⟨xt, xs, xd, y0, y1, y2⟩ := x
            obtain ⟨vt, vs, vd, v0, v1, v2⟩ := v
            obtain ⟨g1, g2, g3, g4, g5, g6⟩ := hpl
            simp only at s0 s1 s2 s3 s4 s5 e1 e2 e3 g1 g2 g3 g4 g5 g6
            subst e1 e2 e3 g4 g5 g6
            have G1 := Lib.hid g1; have G2 := Lib.hid g2; have G3 := Lib.hid g3; have HFA := Lib.hid hfa
            clear g1 g2 g3 hal hfa hv
            clear hc hx hbw0
            go_wp2_with (first
              | (go_at_call 24
                 refine (rPartW_any (w.heap.size + 1) _ ta sa da _ tc _ sc _ dc v0 v1 v2 _ lo hi xt xs xd HW.out rfl rfl rfl G1.out G2.out G3.out (by omega) HFA.out HRX.out).mono ?_
                 rintro e w3 ⟨rfl, hw3, hm3⟩
                 have HKN := Lib.hid (hm3.keep _ _ _ _ HK.out (by decide) (by decide))
                 have HMN := Lib.hid (HM.out.trans hm3)
                 have HWN := Lib.hid hw3
                 clear hw3 hm3))
            all_goals go_wp2_with fail
            all_goals go_roundw
            all_goals first
              | (case rel => exact ⟨k + 1, by omega, by go_num, Lib.hid (by rw [headF_next _ _ _ _ HX1.out, putS_append]; exact HWN.out), HMN, HKN⟩)
              | (case measure => simp [intOf]; omega)
        · have tk : decide ((k : Int) < (pn : Int)) = false := by simp; omega
          have HE : Hid (headF ptF ps k = manyF ptF ps) := Lib.hid (headF_end _ _ _ (by rw [HPN.out]; omega))
          go_wp2_with fail
          go_meet
          exact ⟨by rw [← HE.out]; exact HW, HM, HK⟩
    case rest =>
      obtain ⟨HWA5, HMA5, HKA5⟩ := hcut
      have hXA : w.heap.size + 1 < wc.heap.size := HWA5.out.lt
      have pA := cell_in (j := 4) HKA5.out rfl
      go_upto_block 4 with (first
        | (go_at_call 23
           refine (rput_new (w.heap.size + 1) _ 1 [(cn : Int)] wc.heap.size 1 _ (HWA5.out.keep (below1 _ _)) rfl (heap_new_at rfl) (by rfl) (by omega) (by omega) (by omega) (by rw [E5.out]; exact R5.out.head)).mono ?_
           rintro e w5 ⟨rfl, hw4, hm4⟩
           have HM5 := Lib.hid ((HMA5.out.alloc (by omega) _).trans hm4)
           have HK5 := Lib.hid (hm4.keep _ _ _ _ (at_alloc HKA5.out) (by decide) (by decide))
           rw [E5.out] at hw4
           have HW5 := Lib.hid hw4
           clear hw4 hm4))
      go_cut [7] from 97 to 141 (fun _ wx => Hid (WrR wx (w.heap.size + 1) (putS (putS (putS (putS (putS (some []) (sized 4 [1346458187])) (sized 2 [fr, mg])) (manyF wnF ws)) (manyF ptF ps)) (manyF chF cs))) ∧ Hid (Mine (w.heap.size + 1) w0 wx) ∧ Hid (wx.heap[w.heap.size]? = some (.cells #[.int .i64 fr, .int .i64 mg, .slice wa wn wq, .slice pa pn pc, .slice ca cn cc] 26 (0, 0))))
      case first =>
        go_wp2_with fail
        go_loopw [7] (fun i wr => ∃ (k : Nat), k ≤ cn ∧ i = .int .i64 k ∧ Hid (WrR wr (w.heap.size + 1) (putS (putS (putS (putS (putS (some []) (sized 4 [1346458187])) (sized 2 [fr, mg])) (manyF wnF ws)) (manyF ptF ps)) (headF chF cs k))) ∧ Hid (Mine (w.heap.size + 1) w0 wr) ∧ Hid (wr.heap[w.heap.size]? = some (.cells #[.int .i64 fr, .int .i64 mg, .slice wa wn wq, .slice pa pn pc, .slice ca cn cc] 26 (0, 0)))) (fun i _ => cn - (intOf i).toNat)
        case atStart => exact ⟨0, by omega, rfl, HW5, HM5, HK5⟩
        case round =>
          obtain ⟨k, hk, rfl, HW, HM, HK⟩ := hrel
          have kX := HW.out.err
          have hXr : w.heap.size + 1 < wr.heap.size := HW.out.lt
          have pb := cell_in (j := 4) HK.out rfl
          by_cases hlt : k < cn
          · have tk : decide ((k : Int) < (cn : Int)) = true := by simpa using hlt
            cases hst : putS (putS (putS (putS (putS (some []) (sized 4 [1346458187])) (sized 2 [fr, mg])) (manyF wnF ws)) (manyF ptF ps)) (headF chF cs k) with
            | none =>
              have HNO : Hid (putS (putS (putS (putS (putS (some []) (sized 4 [1346458187])) (sized 2 [fr, mg])) (manyF wnF ws)) (manyF ptF ps)) (manyF chF cs) = none) := Lib.hid (putS_head_none chF cs k hst)
              rw [hst] at kX
              simp only [Option.isNone_none, if_true] at kX
              have HW9 : Hid (WrR wr (w.heap.size + 1) none) := Lib.hid (by have := HW.out; rw [hst] at this; exact this)
              clear hst
              go_wp2_with fail
              go_meet
              exact ⟨by rw [HNO.out]; exact HW9, HM, HK⟩
            | some fs =>
              rw [hst] at kX
              simp only [Option.isNone_some, Bool.false_eq_true, if_false] at kX
              clear hst
              obtain ⟨x, hx⟩ : ∃ x, cs[k]? = some x := ⟨_, List.getElem?_eq_getElem (by rw [HCN.out]; exact hlt)⟩
              have HX1 := Lib.hid hx
              have hbw0 : Below w.heap.size w wr := B0.out.trans (HM.out.below.mono (by omega))
              have HBW := Lib.hid hbw0
              have hlies := HL3.out.keep (SameIn.of_below hbw0 hhi)
              obtain ⟨a2, c2, e2, _, _, hc⟩ := hlies
              cases e2
              rcases hc with h0 | ⟨b, off, rfl, hb1, hb2, hc⟩
              · omega
              have l0 : (0 : Int) ≤ (k : Int) := by omega
              have l1 : (k : Int) < (cn : Int) := by omega
              have HRX := Lib.hid (R5.out.at HX1.out)
              have hbX : b < w.heap.size := by omega
              obtain ⟨s0, s1, s2, s3⟩ := Lies.ch hc hx
              obtain ⟨xq, xf, xt, xs⟩ := x
              simp only at s0 s1 s2 s3
              have S3 := Lib.hid ((HBW.out.cell (p := ⟨b, off + k * 4 + 3, none⟩) hbX).symm.trans s3)
              have TF : Hid (chF ⟨xq, xf, xt, xs⟩ = sized 1 [flagV xq, xf, xt] ++ sized 2 [xs]) := Lib.hid rfl
              have RA := Lib.hid (show RoomR _ (sized 1 [flagV xq, xf, xt]) from (by have := HRX.out; rw [TF.out] at this; exact this.left))
              have RB := Lib.hid (show RoomR _ (sized 2 [xs]) from (by have := HRX.out; rw [TF.out] at this; exact this.right))
              have hbw : b < wr.heap.size := by omega
              clear hc hx hbw0
              go_upto_region 19 with fail
              go_cut [7] from 111 to 132 (fun i wx => i = .int .i64 k ∧ Hid (WrR wx (w.heap.size + 1) (putS (putS (putS (putS (putS (putS (some []) (sized 4 [1346458187])) (sized 2 [fr, mg])) (manyF wnF ws)) (manyF ptF ps)) (headF chF cs k)) (sized 1 [flagV xq, xf, xt]))) ∧ Hid (Mine (w.heap.size + 1) w0 wx) ∧ Hid (wx.heap[w.heap.size]? = wr.heap[w.heap.size]?))
              case first =>
                (first | clear R1 | skip); (first | clear R2 | skip); (first | clear R3 | skip); (first | clear R4 | skip); (first | clear R5 | skip); (first | clear E3 | skip); (first | clear E4 | skip); (first | clear E5 | skip); (first | clear HL1 | skip); (first | clear HL2 | skip); (first | clear HL3 | skip); (first | clear HAL | skip); (first | clear HFR | skip); (first | clear HWN' | skip); (first | clear HPN | skip); (first | clear HCN | skip); (first | clear HV | skip); (first | clear HW0 | skip); (first | clear HK0 | skip); (first | clear HM1 | skip); (first | clear HK1 | skip); (first | clear HW1 | skip); (first | clear HM2 | skip); (first | clear HK2 | skip); (first | clear HW2 | skip); (first | clear HM3 | skip); (first | clear HK3 | skip); (first | clear HW3 | skip); (first | clear HWA4 | skip); (first | clear HMA4 | skip); (first | clear HKA4 | skip); (first | clear HM4 | skip); (first | clear HK4 | skip); (first | clear HW4 | skip); (first | clear HWA5 | skip); (first | clear HMA5 | skip); (first | clear HKA5 | skip); (first | clear HM5 | skip); (first | clear HK5 | skip); (first | clear HW5 | skip); (first | clear y0 | skip); (first | clear y1 | skip); (first | clear y2 | skip); (first | clear hk1 | skip); (first | clear hX1 | skip); (first | clear hk2 | skip); (first | clear hX2 | skip); (first | clear pA | skip); (first | clear b1 | skip); (first | clear b2 | skip); (first | clear b3 | skip); (first | clear HF | skip); (first | clear HRX | skip); (first | clear HX1 | skip); (first | clear hXA | skip); (first | clear hs0 | skip); (first | clear hk | skip); (first | clear hlt | skip); (first | clear hb1 | skip); (first | clear hb2 | skip); (first | clear hhi | skip)
                have KS : Hid (∀ W : World, Mine (w.heap.size + 1) wr W → (W.cell? ⟨w.heap.size, 4, none⟩ = some (.slice (some ⟨b, off, none⟩) cn cc) ∧ W.cell? ⟨b, off + k * 4, none⟩ = some (.bool xq) ∧ W.cell? ⟨b, off + k * 4 + 1, none⟩ = some (.int .i64 xf) ∧ W.cell? ⟨b, off + k * 4 + 2, none⟩ = some (.int .i64 xt))) := Lib.hid (fun W h => ⟨(h.below.cell (p := ⟨w.heap.size, 4, none⟩) (by show w.heap.size < _; omega)).trans pb, (h.below.cell (p := ⟨b, off + k * 4, none⟩) (by show b < _; omega)).trans s0, (h.below.cell (p := ⟨b, off + k * 4 + 1, none⟩) (by show b < _; omega)).trans s1, (h.below.cell (p := ⟨b, off + k * 4 + 2, none⟩) (by show b < _; omega)).trans s2⟩)
                go_wp2_with fail
                go_region_held3 (fun W => W.cell? ⟨w.heap.size, 4, none⟩ = some (.slice (some ⟨b, off, none⟩) cn cc) ∧ W.cell? ⟨b, off + k * 4, none⟩ = some (.bool xq) ∧ W.cell? ⟨b, off + k * 4 + 1, none⟩ = some (.int .i64 xf) ∧ W.cell? ⟨b, off + k * 4 + 2, none⟩ = some (.int .i64 xt))
                  (first | exact KS.out _ ((Mine.refl _ _).drew) | exact KS.out _ (((Mine.refl _ _).alloc (by omega) _).drew) | exact KS.out _ ((Mine.refl _ _).drew.alloc (by omega) _) | exact KS.out _ (by assumption))
                  (first
                    | (go_at_call 25; refine (flag_any _ _).mono ?_; rintro e9 w9 ⟨rfl, rfl⟩)
                    | (go_at_call 23
                       refine (rput_new (w.heap.size + 1) _ 1 [flagV xq, xf, xt] wr.heap.size 3 _ (HW.out.keep (below1 _ _).drew) rfl (heap_new_at rfl) (by rfl) (by omega) (by omega) (by omega) RA.out).mono ?_
                       rintro e w2 ⟨rfl, hw2, hm2⟩
                       have hmz : Mine (w.heap.size + 1) wr w2 := ((Mine.of_below (below1 _ _) (by omega)).drew).trans hm2
                       have HKZ := Lib.hid ((hmz.keep _ _ _ _ HK.out (by decide) (by decide)).trans HK.out.symm)
                       have HMZ := Lib.hid (HM.out.trans hmz)
                       have HWZ := Lib.hid hw2
                       clear hw2 hm2))
                all_goals
                  go_wp2_with fail
                  go_meet
                  exact ⟨rfl, HWZ, HMZ, HKZ⟩
              case rest =>
                obtain ⟨rfl, HWC, HMC, HKC⟩ := hcut
                have kk := HKC.out.trans HK.out
                have HK2 := Lib.hid kk
                have y1 := cell_in (j := 4) kk rfl
                have v1 := ((B0.out.trans (HMC.out.below.mono (by omega))).cell (p := ⟨b, off + k * 4 + 3, none⟩) hbX).trans S3.out
                have hX2 : w.heap.size + 1 < wc.heap.size := HWC.out.lt
                have hb2w : b < wc.heap.size := by omega
                clear kk
                go_wp2_with (first
                  | (go_at_call 23
                     refine (rput_new (w.heap.size + 1) _ 2 [xs] wc.heap.size 1 _ (HWC.out.keep (below1 _ _)) rfl (heap_new_at rfl) (by rfl) (by omega) (by omega) (by omega) RB.out).mono ?_
                     rintro e w3 ⟨rfl, hw3, hm3⟩
                     have HKN := Lib.hid (hm3.keep _ _ _ _ (at_alloc HK2.out) (by decide) (by decide))
                     have HMN := Lib.hid ((HMC.out.alloc (by omega) _).trans hm3)
                     have HWN : Hid (WrR w3 (w.heap.size + 1) (putS _ (chF ⟨xq, xf, xt, xs⟩))) := Lib.hid (by rw [TF.out, putS_append]; exact hw3)
                     clear hw3 hm3))
                all_goals go_wp2_with fail
                all_goals go_roundw
                all_goals first
                  | (case rel => exact ⟨k + 1, by omega, by go_num, Lib.hid (by rw [headF_next _ _ _ _ HX1.out, putS_append]; exact HWN.out), HMN, HKN⟩)
                  | (case measure => simp [intOf]; omega)
          · have tk : decide ((k : Int) < (cn : Int)) = false := by simp; omega
            have HE : Hid (headF chF cs k = manyF chF cs) := Lib.hid (headF_end _ _ _ (by rw [HCN.out]; omega))
            go_wp2_with fail
            go_meet
            exact ⟨by rw [← HE.out]; exact HW, HM, HK⟩
      case rest =>
        obtain ⟨HWZ, HMZ, HKZ⟩ := hcut
        have hps : Hid (putS (putS (putS (putS (putS (some []) (sized 4 [1346458187])) (sized 2 [fr, mg])) (manyF wnF ws)) (manyF ptF ps)) (manyF chF cs) = putS (some []) (cfF ⟨fr, mg, ws, ps, cs⟩)) := Lib.hid (by rw [HF.out, putS_append, putS_append, putS_append, putS_append])
        have HWY : Hid (WrR wc (w.heap.size + 1) (putS (some []) (cfF ⟨fr, mg, ws, ps, cs⟩))) := Lib.hid (by have := HWZ.out; rw [hps.out] at this; exact this)
        have HBZ : Hid (Below w.heap.size w wc) := Lib.hid (B0.out.trans (HMZ.out.below.mono (by omega)))
        clear HWZ hps
        cases hfit : fitL (cfF ⟨fr, mg, ws, ps, cs⟩) with
        | false =>
          have HEV := Lib.hid (encV_no hfit)
          have hw := HWY.out
          rw [putS_no hfit] at hw
          have kX : wc.cell? ⟨w.heap.size + 1, 1, none⟩ = some (.int .i64 2) := hw.err
          clear hfit hw
          go_wp2_with fail
          go_ret2
          exact ⟨none, 0, 0, by rw [HEV.out]; rfl, by rw [HEV.out]; rfl, by rw [HEV.out]; exact lies_none', HBZ.out⟩
        | true =>
          have hw := HWY.out
          rw [putS_yes hfit] at hw
          have kX : wc.cell? ⟨w.heap.size + 1, 1, none⟩ = some (.int .i64 0) := hw.err
          obtain ⟨v, e0, hblk, rfl, ra, rn, rc, rfl, hrn, hown⟩ := hw
          have k0 : wc.cell? ⟨w.heap.size + 1, 0, none⟩ = some (.slice ra rn rc) := cell_in hblk rfl
          have HOW := Lib.hid hown
          have HRN := Lib.hid hrn
          by_cases hsz : szL (cfF ⟨fr, mg, ws, ps, cs⟩) ≤ 16384
          · have HEV := Lib.hid (encV_yes hfit hsz)
            have tsz : decide ((rn : Int) > 16384) = false := by
              have : rn ≤ 16384 := by rw [hrn]; simpa using hsz
              simp; omega
            clear hfit hblk hown hrn hsz
            go_wp2_with fail
            go_ret2
            refine ⟨ra, rn, rc, by rw [HEV.out]; rfl, by rw [HEV.out, HRN.out]; exact szL_enc _, ?_, HBZ.out⟩
            rw [HEV.out]
            have h9 := HOW.out
            exact (Lies.of_owns h9).wider (by omega) (Nat.le_refl _)
          · have HEV := Lib.hid (encV_big hfit hsz)
            have tsz : decide ((rn : Int) > 16384) = true := by
              have : ¬ rn ≤ 16384 := by rw [hrn]; simpa using hsz
              simp; omega
            clear hfit hblk hown hrn hsz
            go_wp2_with fail
            go_ret2
            exact ⟨none, 0, 0, by rw [HEV.out]; rfl, by rw [HEV.out]; rfl, by rw [HEV.out]; exact lies_none', HBZ.out⟩
end Go.Proofs.Ytiombjkjoehjpaa
