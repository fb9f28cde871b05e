/- Bytes as a system, or why not: the document's answer. -/
import Derived.Test.YtiombjkjoehjpaaImageY
import Derived.Test.YtiombjkjoehjpaaImageR
namespace Go.Proofs.Ytiombjkjoehjpaa
open Go.ChangeShapes Go.WideShapes Go.ChangeAt Go.RowKit
set_option linter.unusedVariables false

theorem dec_magic {l : List Int} {n : Int} {s1 : Option (List Int)} (h : Got (some l) (rdN 4) n s1) (hn : ¬ n = magicV) : decV l = none := by
  unfold Got at h
  unfold decV
  simp only at h
  cases hp : rdN 4 l with
  | none => rfl
  | some z => rw [hp] at h; obtain ⟨z1, z2⟩ := z; simp only at h ⊢; obtain ⟨rfl, _⟩ := h; rw [if_neg hn]
def RDecPost (l : List Int) (w : World) (r : Ending) (w' : World) : Prop := ∃ vs wa pa ca wc pc cc, r = .returned (.tuple #[.agg #[.int .i64 (decW l).1.frame, .int .i64 (decW l).1.margin, .slice wa (decW l).1.ws.length wc, .slice pa (decW l).1.ps.length pc, .slice ca (decW l).1.cs.length cc], .int .i64 (decW l).2]) ∧ SysL w' w'.heap.size (decW l).1 vs wa pa ca wc pc cc ∧ Fewc (decW l).1 ∧ Below w.heap.size w w'
set_option maxRecDepth 100000 in
set_option maxHeartbeats 8000000 in
theorem rDecode_any (ba : Option Addr) (bn bc : Nat) (w : World) (lo hi : Nat) (l : List Int) (hn : l.length = bn) (hby : Bytes l) (hl : Lies w lo hi (.slice ba bn bc) bn 1 (bts l)) (hhi : hi ≤ w.heap.size) :
    Calls Try.prog 14 #[.slice ba bn bc] w fun r w' => RDecPost l w r w' := by
  obtain ⟨i0, hi0, hz00, hz01, hz02⟩ := info_parts Try.infoU8
  obtain ⟨i1, hi1, hz10, hz11, hz12⟩ := info_parts Try.infoWn_parcloseref03
  obtain ⟨i2, hi2, hz20, hz21, hz22⟩ := info_parts Try.infoPt_parcloseref03
  obtain ⟨i3, hi3, hz30, hz31, hz32⟩ := info_parts Try.infoCh_parcloseref03
  have HI0 := Lib.hid hi0; have HI1 := Lib.hid hi1; have HI2 := Lib.hid hi2; have HI3 := Lib.hid hi3
  have HN := Lib.hid hn
  have HBY := Lib.hid hby
  have HL := Lib.hid hl
  have HU := Lib.hid (bts_one l)
  clear hl hby hi0 hi1 hi2 hi3
  have kb : ((w.alloc (.cells #[.int .i64 0, .int .i64 0, .slice none 0 0, .slice none 0 0, .slice none 0 0] 26 (0, 0))).alloc (.cells #[.int .i64 0, .int .i64 0, .slice none 0 0, .slice none 0 0, .slice none 0 0] 26 (0, 0))).heap[w.heap.size]? = some (.cells #[.int .i64 0, .int .i64 0, .slice none 0 0, .slice none 0 0, .slice none 0 0] 26 (0, 0)) := at_alloc (heap_new_at rfl)
  have KB := Lib.hid kb
  clear kb
  by_cases hbig : bn > 16384
  · have t1 : decide ((bn : Int) > 16384) = true := by simp; omega
    have HV := Lib.hid (decW_big (l := l) (by rw [hn]; exact hbig))
    clear hn
    go_enter Try.func14, Try.ntmps14
    go_wp2_with fail
    have hX := set5 KB.out rfl (.int .i64 0) (.int .i64 0) (.slice none 0 0) (.slice none 0 0) (.slice none 0 0)
    refine bodyPost_ret (results_pair_row (P := Try.prog) rfl _ _ w.heap.size _ _ (0, 0) _ _ rfl rfl KB.out Try.underlying26 rfl Try.sizeConf_parcloseref03) rfl ?_
    unfold RDecPost
    rw [HV.out]
    exact ⟨[], none, none, none, 0, 0, 0, rfl, sys_zero _ _, zero_few, (below1 _ _).alloc (by simp) _⟩
  have t1 : decide ((bn : Int) > 16384) = false := by simp; omega
  clear hn
  go_enter Try.func14, Try.ntmps14
  go_upto_region 5 with (first
    | (refine wpList_append_lie (by rfl) (.tmp 16) (.tmp 17) 29 (by rfl) (w.heap.size + 2) 5 i0 _ 1 1 Try.underlying29 HI0.out hz00 hz01 hz02 rfl (by omega) (.slice (some ⟨w.heap.size + 2, 0, none⟩) 0 0) 0 [] (by rfl) ((fresh_none 1).owns (heap_new_at (by simp)) (by omega)) (.slice ba bn bc) lo hi bn _ (by rfl) (HL.out.keep (SameIn.of_below (((below1 w _).alloc (by simp) _).alloc (by simp; omega) _) hhi)) HU.out bn (by omega) (by simp [maxLen]; omega) (by omega) (by simp) ?_
       intro ao cap' w3 hown hgrow
       rw [List.nil_append] at hown
       have hb3 := (Below.refl (w.heap.size + 2) _).grown hgrow (by simp) (fun k hk => by simp [Value.ownBlock] at hk; omega)
       have HB3 := Lib.hid hb3
       have HO3 := Lib.hid hown
       clear hgrow hb3 hown))
  have hs3 := HB3.out.size
  simp at hs3
  obtain ⟨X, hX⟩ : ∃ X, X = w3.heap.size := ⟨_, rfl⟩
  have hX2 : w.heap.size + 2 < X := by omega
  have hcp : bn ≤ cap' := by
    rcases HO3.out.2 with ⟨h, h2⟩ | ⟨g, cap, cur, h, _, _, h2, _⟩
    · omega
    · cases h; exact h2
  obtain ⟨w4, hw4⟩ : ∃ w4, w4 = w3.alloc (.cells #[.slice ao bn cap', .int .i64 0] 96 (0, 0)) := ⟨_, rfl⟩
  have H4 : Hid (RrS (w.heap.size + 2) w4 X (some l)) := Lib.hid (by
    rw [hw4, hX]
    refine ⟨ao, bn, cap', 0, l, heap_new_at rfl, HN.out, hcp, by omega, HBY.out, ?_, rfl, rfl⟩
    exact (Lies.of_owns HO3.out).keep (SameIn.of_below (below1 _ _) (Nat.le_refl _)))
  have hk : w4.heap[w.heap.size + 1]? = some (.cells #[.int .i64 0, .int .i64 0, .slice none 0 0, .slice none 0 0, .slice none 0 0] 26 (0, 0)) := by
    rw [hw4]
    exact at_alloc ((HB3.out.block (w.heap.size + 1) (by omega)).trans (at_alloc (heap_new_at (by simp))))
  have hr4 : w4.heap[w.heap.size]? = some (.cells #[.int .i64 0, .int .i64 0, .slice none 0 0, .slice none 0 0, .slice none 0 0] 26 (0, 0)) := by
    rw [hw4]
    exact at_alloc ((HB3.out.block w.heap.size (by omega)).trans (at_alloc KB.out))
  have HK4 := Lib.hid hk
  have HKR4 := Lib.hid hr4
  have HB4 : Hid (Below w.heap.size w w4) := Lib.hid (by
    rw [hw4]
    exact (((((below1 w _).alloc (by simp) _).alloc (by simp; omega) _).trans (HB3.out.mono (by omega)))).alloc (by omega) _)
  rw [← hX, ← hw4]
  have hXw : X < w4.heap.size := by rw [hw4, hX]; simp
  clear hs3 hX hw4 hk hr4 HB3 HO3 KB HL HU
  go_upto_if 23 with (first
    | (go_at_call 30
       refine (rrGet_any X w4 (some l) 4 H4.out (by omega) (by omega)).mono ?_
       rintro e w5 ⟨nM, s5, rfl, _, _, hr, hg, hb⟩
       have HKR5 := Lib.hid (hb.at HKR4.out (by omega))
       have HK5 := Lib.hid (hb.at HK4.out (by omega))
       have HR5 := Lib.hid hr
       have HG5 := Lib.hid hg
       have HBL5 := Lib.hid (ButL.of_but (S := [X, w.heap.size + 1]) hb (by simp))
       have hX5 := hr.lt
       clear hr hg hb))
  have HBW5 : Hid (Below w.heap.size w w5) := Lib.hid (HB4.out.trans ((HBL5.out.below (B := w.heap.size) (by simp; omega) (by omega))))
  have hBr5 : w.heap.size + 1 < w5.heap.size := lt_of_block HK5.out
  by_cases hM : nM = 1346458187
  case neg =>
    have tM : (nM != 1346458187) = true := by simp [hM]
    have HV : Hid (decW l = (zeroC, 10)) := Lib.hid (decW_no (by rw [HN.out]; exact hbig) (dec_magic HG5.out hM))
    have z0 := cell_in (j := 0) HK5.out rfl
    have z1 := cell_in (j := 1) HK5.out rfl
    have z2 := cell_in (j := 2) HK5.out rfl
    have z3 := cell_in (j := 3) HK5.out rfl
    have z4 := cell_in (j := 4) HK5.out rfl
    have d0 := cell_in (j := 0) HKR5.out rfl
    have d1 := cell_in (j := 1) HKR5.out rfl
    have d2 := cell_in (j := 2) HKR5.out rfl
    have d3 := cell_in (j := 3) HKR5.out rfl
    have d4 := cell_in (j := 4) HKR5.out rfl
    have y0 := free_in HKR5.out 0
    have y1 := free_in HKR5.out 1
    have y2 := free_in HKR5.out 2
    have y3 := free_in HKR5.out 3
    have y4 := free_in HKR5.out 4
    go_wp2_with fail
    have hX := set5 HKR5.out rfl (.int .i64 0) (.int .i64 0) (.slice none 0 0) (.slice none 0 0) (.slice none 0 0)
    refine bodyPost_ret (results_pair_row (P := Try.prog) rfl _ _ w.heap.size _ _ (0, 0) _ _ rfl rfl hX Try.underlying26 rfl Try.sizeConf_parcloseref03) rfl ?_
    unfold RDecPost
    rw [HV.out]
    exact ⟨[], none, none, none, 0, 0, 0, rfl, sys_zero _ _, zero_few, below5 HBW5.out (Nat.le_refl _) _ _ _ _ _⟩
  case pos =>
  subst hM
  have HGM := Lib.hid (HG5.out.magic rfl)
  go_upto_block 0 with (first
    | (go_at_call 30
       refine (rrGet_any X _ s7 1 HR7.out (by omega) (by omega)).mono ?_
       rintro e wL ⟨nA, sB, rfl, bA0, bA1, hr, hg, hb⟩
       obtain ⟨m, rfl⟩ := Int.eq_ofNat_of_zero_le bA0
       have HKs := Lib.hid (hb.at HK7.out (by omega))
       have HKr := Lib.hid (hb.at HKR7.out (by omega))
       have HRs := Lib.hid hr
       have HGA := Lib.hid hg
       have HBW := Lib.hid (HBL7.out.trans (ButL.of_but (S := [X, w.heap.size + 1]) hb (by simp)))
       have hLB : w.heap.size + 1 < wL.heap.size := lt_of_block HKs.out
       have hLX := hr.lt
       clear hr hg hb)
    | (go_at_call 30
       refine (rrGet_any X _ s6 2 HR6.out (by omega) (by omega)).mono ?_
       rintro e w7 ⟨xm, s7, rfl, _, _, hr, hg, hb⟩
       have kk : w7.heap[w.heap.size + 1]? = some (.cells #[.int .i64 xf, .int .i64 0, .slice none 0 0, .slice none 0 0, .slice none 0 0] 26 (0, 0)) := hb.at HK6.out (by omega)
       have f7 := free_in kk 1
       have c7 := cell_in (j := 1) kk rfl
       have HKR7 := Lib.hid ((((ButL.refl [X, w.heap.size + 1] _).set (b := w.heap.size + 1) (by simp) 1 (.int .i64 xm)).at (hb.at HKR6.out (by omega)) (show w.heap.size ∉ [X, w.heap.size + 1] by simp; omega)))
       have HK7 : Hid ((w7.setCell ⟨w.heap.size + 1, 1, none⟩ (.int .i64 xm)).heap[w.heap.size + 1]? = some (.cells #[.int .i64 xf, .int .i64 xm, .slice none 0 0, .slice none 0 0, .slice none 0 0] 26 (0, 0))) := Lib.hid (set_at (j := 1) kk)
       have HR7 := Lib.hid (hr.setB (B := w.heap.size + 1) (by omega) (by omega) 1 (.int .i64 xm))
       have HG7 := Lib.hid hg
       have HBL7 := Lib.hid ((HBL6.out.trans (ButL.of_but (S := [X, w.heap.size + 1]) hb (by simp))).set (b := w.heap.size + 1) (by simp) 1 (.int .i64 xm))
       have hX7 := hr.lt
       clear hr hg hb kk)
    | (go_at_call 30
       refine (rrGet_any X w5 s5 2 HR5.out (by omega) (by omega)).mono ?_
       rintro e w6 ⟨xf, s6, rfl, _, _, hr, hg, hb⟩
       have kk : w6.heap[w.heap.size + 1]? = some (.cells #[.int .i64 0, .int .i64 0, .slice none 0 0, .slice none 0 0, .slice none 0 0] 26 (0, 0)) := hb.at HK5.out (by omega)
       have f6 := free_in kk 0
       have c6 := cell_in (j := 0) kk rfl
       have HKR6 := Lib.hid ((((ButL.refl [X, w.heap.size + 1] _).set (b := w.heap.size + 1) (by simp) 0 (.int .i64 xf)).at (hb.at HKR5.out (by omega)) (show w.heap.size ∉ [X, w.heap.size + 1] by simp; omega)))
       have HK6 : Hid ((w6.setCell ⟨w.heap.size + 1, 0, none⟩ (.int .i64 xf)).heap[w.heap.size + 1]? = some (.cells #[.int .i64 xf, .int .i64 0, .slice none 0 0, .slice none 0 0, .slice none 0 0] 26 (0, 0))) := Lib.hid (set_at (j := 0) kk)
       have HR6 := Lib.hid (hr.setB (B := w.heap.size + 1) (by omega) (by omega) 0 (.int .i64 xf))
       have HG6 := Lib.hid hg
       have HBL6 := Lib.hid ((HBL5.out.trans (ButL.of_but (S := [X, w.heap.size + 1]) hb (by simp))).set (b := w.heap.size + 1) (by simp) 0 (.int .i64 xf))
       have hX6 := hr.lt
       clear hr hg hb kk))
  have hm : m ≤ 255 := by omega
  obtain ⟨sA, hsA1⟩ : ∃ sA, sA = s7 := ⟨_, rfl⟩
  rw [← hsA1] at HGA
  go_cut [7, 8] from 33 to 59 (fun _ _ wx => ∃ (xs : List Wn) (a : Option Addr) (c : Nat) (s' : Option (List Int)), xs.length ≤ 255 ∧ Hid (wx.heap[(w.heap.size + 1)]? = some (.cells #[.int .i64 xf, .int .i64 xm, .slice a xs.length c, .slice none 0 0, .slice none 0 0] 26 (0, 0))) ∧ Hid (wx.ownsRow wL.heap.size 72 3 (.slice a xs.length c) xs.length (xs.flatMap Wn.cells)) ∧ Hid (RrS (w.heap.size + 2) wx X s') ∧ Hid (Got sA (rdMany rdWn) xs s') ∧ Hid (ButL [X, (w.heap.size + 1)] wL wx))
  case first =>
    go_wp2_with fail
    go_loopw [7] (fun i wr => ∃ (k : Nat) (xs : List Wn) (a : Option Addr) (c : Nat) (s' : Option (List Int)), k ≤ m ∧ i = .int .i64 k ∧ Hid (xs.length = k) ∧ Hid (wr.heap[(w.heap.size + 1)]? = some (.cells #[.int .i64 xf, .int .i64 xm, .slice a k c, .slice none 0 0, .slice none 0 0] 26 (0, 0))) ∧ Hid (wr.ownsRow wL.heap.size 72 3 (.slice a k c) k (xs.flatMap Wn.cells)) ∧ Hid (RrS (w.heap.size + 2) wr X s') ∧ Hid (Got sB (rdList rdWn k) xs s') ∧ Hid (ButL [X, (w.heap.size + 1)] wL wr)) (fun i _ => m - (intOf i).toNat)
    case atStart => exact ⟨0, [], none, 0, sB, by omega, rfl, Lib.hid rfl, HKs, Lib.hid ⟨rfl, .inl ⟨rfl, rfl⟩⟩, HRs, Lib.hid (Got.nil _ _), Lib.hid (ButL.refl _ _)⟩
    case round =>
      obtain ⟨k, xs, a, c, s2, hk, rfl, HXL, HK, HOW, HR, HG, HBT⟩ := hrel
      have hszL := HBT.out.size
      have hXr : X < wr.heap.size := HR.out.lt
      have hBr : (w.heap.size + 1) < wr.heap.size := lt_of_block HK.out
      obtain ⟨ev, ce0, cf0, en, es⟩ := HR.out.err
      by_cases hlt : k < m
      · have tk : decide ((k : Int) < (m : Int)) = true := by simpa using hlt
        cases s2 with
        | none =>
          have t0 : (ev == 0) = false := by simpa using en rfl
          clear en es
          go_wp2_with fail
          go_meet
          have hxl := HXL.out
          subst hxl
          exact ⟨xs, a, c, none, by omega, HK, HOW, HR, Lib.hid (HGA.out.many (by simpa using HG.out.stop hk)), HBT⟩
        | some l2 =>
          obtain rfl : ev = 0 := es l2 rfl
          clear en es
          go_wp2_with (first
            | (refine wpList_append_lie (by rfl) (.tmp 55) (.tmp 57) 22 (by rfl) wL.heap.size 72 i1 _ 3 24 Try.underlying22 HI1.out hz10 hz11 hz12 rfl (by omega) (.slice a k c) k _ (by rfl) (owns_later HOQ.out (below1 _ _)) (.slice (some ⟨w3.heap.size, 0, none⟩) 1 1) w3.heap.size (w3.heap.size + 1) 1 (Wn.cells ⟨xa, xn, xp⟩) (by rfl) (one_lies (heap_new_at (by simp [World.setCell])) rfl) (wn_one _) (k + 1) (by omega) (by simp [maxLen]; omega) (by omega) (by simp [World.setCell]; omega) ?_
               intro ao cap' w9 hown hgrow
               rw [← flat_snoc] at hown
               have HOW9 := Lib.hid hown
               have hbg : Below wL.heap.size (w3.setCell ⟨w1.heap.size, 2, none⟩ (.int .i64 xp)) w9 := ((below1 _ _).mono (by simp [World.setCell]; omega)).grown hgrow (by simp [World.setCell]; omega) (fun g hg => ((owns_block HOQ.out) g hg).1)
               have HBG := Lib.hid hbg
               have kb9 := (hbg.block (w.heap.size + 1) (by omega)).trans HBK2.out
               have f9 := free_in kb9 2
               have c9 := cell_in (j := 2) kb9 rfl
               have HK9 := Lib.hid kb9
               clear hown hgrow hbg kb9)
            | (go_at_call 30
               refine (rrGet_any X _ u2 1 HR2.out (by omega) (by omega)).mono ?_
               rintro e w3 ⟨xp, u3, rfl, _, _, hr, hg, hb⟩
               have ke : w3.heap[w1.heap.size]? = some (.cells #[.int .i64 xa, .int .i64 xn, .int .i64 0] 72 (0, 0)) := hb.at HE2.out (by omega)
               have fe := free_in ke 2
               have ce := cell_in (j := 2) ke rfl
               have hle3 := lt_of_block ke
               have HG3 := Lib.hid hg
               have HR3 := Lib.hid (hr.set (B := w1.heap.size) (by omega) 2 (.int .i64 xp))
               have HQ3 := Lib.hid ((HQ2.out.trans (ButL.of_but hb (by simp))).set (b := w1.heap.size) (by simp) 2 (.int .i64 xp))
               have HE3 : Hid ((w3.setCell ⟨w1.heap.size, 2, none⟩ (.int .i64 xp)).heap[w1.heap.size]? = some (.cells #[.int .i64 xa, .int .i64 xn, .int .i64 xp] 72 (0, 0))) := Lib.hid (set_at ke)
               have HM := Lib.hid (HQ3.out.more (S' := [X]) (by simp; omega))
               have HRK := Lib.hid (((HQ2.out.trans (ButL.of_but hb (by simp))).more (S' := [X]) (by simp; omega)).at HK1.out (by simp; omega))
               have rq := cell_in (j := 2) HRK.out rfl
               have HBK2 := Lib.hid (HM.out.at HK1.out (by simp; omega))
               have z0 := cell_in (j := 0) ke rfl
               have z1 := cell_in (j := 1) ke rfl
               have HOQ := Lib.hid (HM.out.owns HO1.out (by simp; omega))
               have hszq : w1.heap.size < w3.heap.size := hle3
               have hbk : (w.heap.size + 1) < w3.heap.size := lt_of_block HRK.out
               clear hr hg hb ke)
            | (go_at_call 30
               refine (rrGet_any X _ u1 2 HR1.out (by omega) (by omega)).mono ?_
               rintro e w2 ⟨xn, u2, rfl, _, _, hr, hg, hb⟩
               have ke : w2.heap[w1.heap.size]? = some (.cells #[.int .i64 xa, .int .i64 0, .int .i64 0] 72 (0, 0)) := hb.at HE1.out (by omega)
               have fe := free_in ke 1
               have ce := cell_in (j := 1) ke rfl
               have hle2 := lt_of_block ke
               have HG2 := Lib.hid hg
               have HR2 := Lib.hid (hr.set (B := w1.heap.size) (by omega) 1 (.int .i64 xn))
               have HQ2 := Lib.hid ((HQ1.out.trans (ButL.of_but hb (by simp))).set (b := w1.heap.size) (by simp) 1 (.int .i64 xn))
               have HE2 : Hid ((w2.setCell ⟨w1.heap.size, 1, none⟩ (.int .i64 xn)).heap[w1.heap.size]? = some (.cells #[.int .i64 xa, .int .i64 xn, .int .i64 0] 72 (0, 0))) := Lib.hid (set_at ke)
               clear hr hg hb ke)
            | (go_at_call 30
               refine (rrGet_any X _ _ 2 HR.out (by omega) (by omega)).mono ?_
               rintro e w1 ⟨xa, u1, rfl, _, _, hr1, hg1, hb1⟩
               have HO1 := Lib.hid ((ButL.of_but (S := [X]) hb1 (by simp)).owns HOW.out (by simp; omega))
               have HK1 := Lib.hid (hb1.at HK.out (by omega))
               have HB1 := Lib.hid (HBT.out.trans (ButL.of_but hb1 (by simp)))
               have hle1 := hb1.size
               have HG1 := Lib.hid hg1
               have HR1 := Lib.hid (hr1.keep (below1 _ (.cells #[.int .i64 xa, .int .i64 0, .int .i64 0] 72 (0, 0))))
               have HQ1 : Hid (ButL [X, w1.heap.size] w1 (w1.alloc (.cells #[.int .i64 xa, .int .i64 0, .int .i64 0] 72 (0, 0)))) := Lib.hid (ButL.of_below (below1 _ _))
               have HE1 : Hid ((w1.alloc (.cells #[.int .i64 xa, .int .i64 0, .int .i64 0] 72 (0, 0))).heap[w1.heap.size]? = some (.cells #[.int .i64 xa, .int .i64 0, .int .i64 0] 72 (0, 0))) := Lib.hid (heap_new_at rfl)
               have hX1 := hr1.lt
               clear hr1 hg1 hb1))
          go_roundw
          case rel => exact ⟨k + 1, xs ++ [⟨xa, xn, xp⟩], ao, cap', u3, by omega, by go_num, Lib.hid (by rw [List.length_append, HXL.out]; rfl), Lib.hid (set_at (j := 2) HK9.out), Lib.hid ((ButL.set (S := [X, (w.heap.size + 1)]) (ButL.refl _ _) (b := (w.heap.size + 1)) (by simp) _ _).owns HOW9.out (by simp; omega)), Lib.hid ((HR3.out.keepB HBG.out (by omega)).setB (by omega) (by omega) _ _), Lib.hid (HG.out.snoc (show Got _ rdWn ⟨xa, xn, xp⟩ _ from (Got.two HG1.out (Got.two HG2.out HG3.out)).map _)), Lib.hid (((HB1.out.trans (HM.out.more (by simp; omega))).then HBG.out).set (by simp) _ _)⟩
          case measure => simp [intOf]; omega
      · have tk : decide ((k : Int) < (m : Int)) = false := by simp; omega
        have hkm : k = m := by omega
        clear en es
        go_wp2_with fail
        go_meet
        have hxl := HXL.out
        subst hxl
        exact ⟨xs, a, c, s2, by omega, HK, HOW, HR, Lib.hid (HGA.out.many (by rw [Int.toNat_natCast, ← hkm]; exact HG.out)), HBT⟩
  case rest =>
    obtain ⟨l1, a1, c1, sA1, hl1, HKc, HOc, HRc, HGl1, HBc⟩ := hcut
    have hlc := lt_of_block HKc.out
    have hszc := HBc.out.size
    have hXc : X < wc.heap.size := HRc.out.lt
    have HBw : Hid (ButL [X, w.heap.size + 1] w4 wc) := Lib.hid (HBW.out.trans HBc.out)
    have HKr' := Lib.hid (HBc.out.at HKr.out (by simp; omega))
    have HOn1 := Lib.hid (owns_base HOc.out (base' := X + 1) (by omega))
    rw [hsA1] at HGl1
    go_upto_block 2 with (first
      | (go_at_call 30
         refine (rrGet_any X _ _ 1 HRc.out (by omega) (by omega)).mono ?_
         rintro e wL ⟨nA, sB, rfl, bA0, bA1, hr, hg, hb⟩
         obtain ⟨m, rfl⟩ := Int.eq_ofNat_of_zero_le bA0
         have HKs := Lib.hid (hb.at HKc.out (by omega))
         have HKr := Lib.hid (hb.at HKr'.out (by omega))
         have HRs := Lib.hid hr
         have HGA := Lib.hid hg
         have HBW := Lib.hid (HBw.out.trans (ButL.of_but (S := [X, w.heap.size + 1]) hb (by simp)))
         have hbl : ButL [X] wc wL := ButL.of_but hb (by simp)
         have HOk1 := Lib.hid (hbl.owns HOn1.out (by simp))
         have hLB : w.heap.size + 1 < wL.heap.size := lt_of_block HKs.out
         have hLX := hr.lt
         clear hr hg hb hbl))
    have hm : m ≤ 255 := by omega
    obtain ⟨sA, hsA⟩ : ∃ sA, sA = sA1 := ⟨_, rfl⟩
    rw [← hsA] at HGA
    clear bA0 bA1
    go_cut [9] from 62 to 80 (fun _ wx => ∃ (xs : List Pt) (vs : List Pv) (a : Option Addr) (c : Nat) (s' : Option (List Int)), xs.length ≤ 255 ∧ Hid (AllOwn wx wL.heap.size 121 124 3 vs xs) ∧ Hid (∀ p ∈ xs, Fewp p) ∧ Hid (wx.heap[(w.heap.size + 1)]? = some (.cells #[.int .i64 xf, .int .i64 xm, .slice a1 l1.length c1, .slice a xs.length c, .slice none 0 0] 26 (0, 0))) ∧ Hid (wx.ownsRow wL.heap.size 58 6 (.slice a xs.length c) xs.length (vs.flatMap Pv.cells)) ∧ Hid (RrS (w.heap.size + 2) wx X s') ∧ Hid (Got sA (rdMany rdPt) xs s') ∧ Hid (ButL [X, (w.heap.size + 1)] wL wx))
    case first =>
      go_wp2_with fail
      go_loopw [9] (fun i wr => ∃ (k : Nat) (xs : List Pt) (vs : List Pv) (a : Option Addr) (c : Nat) (s' : Option (List Int)), k ≤ m ∧ i = .int .i64 k ∧ Hid (xs.length = k) ∧ Hid (AllOwn wr wL.heap.size 121 124 3 vs xs) ∧ Hid (∀ p ∈ xs, Fewp p) ∧ Hid (wr.heap[(w.heap.size + 1)]? = some (.cells #[.int .i64 xf, .int .i64 xm, .slice a1 l1.length c1, .slice a k c, .slice none 0 0] 26 (0, 0))) ∧ Hid (wr.ownsRow wL.heap.size 58 6 (.slice a k c) k (vs.flatMap Pv.cells)) ∧ Hid (RrS (w.heap.size + 2) wr X s') ∧ Hid (Got sB (rdList rdPt k) xs s') ∧ Hid (ButL [X, (w.heap.size + 1)] wL wr)) (fun i _ => m - (intOf i).toNat)
      case atStart => exact ⟨0, [], [], none, 0, sB, by omega, rfl, Lib.hid rfl, Lib.hid .nil, Lib.hid (by simp), HKs, Lib.hid ⟨rfl, .inl ⟨rfl, rfl⟩⟩, HRs, Lib.hid (Got.nil _ _), Lib.hid (ButL.refl _ _)⟩
      case round =>
        obtain ⟨k, xs, vs, a, c, s2, hk, rfl, HXL, HAL, HFW, HK, HOW, HR, HG, HBT⟩ := hrel
        have hszL := HBT.out.size
        have hXr : X < wr.heap.size := HR.out.lt
        have hBr : (w.heap.size + 1) < wr.heap.size := lt_of_block HK.out
        obtain ⟨ev, ce0, cf0, en, es⟩ := HR.out.err
        by_cases hlt : k < m
        · have tk : decide ((k : Int) < (m : Int)) = true := by simpa using hlt
          cases s2 with
          | none =>
            have t0 : (ev == 0) = false := by simpa using en rfl
            clear en es
            go_wp2_with fail
            go_meet
            have hxl := HXL.out
            subst hxl
            exact ⟨xs, vs, a, c, none, by omega, HAL, HFW, HK, HOW, HR, Lib.hid (HGA.out.many (by simpa using HG.out.stop hk)), HBT⟩
          | some l2 =>
            obtain rfl : ev = 0 := es l2 rfl
            clear en es
            have kB0 := cell_in (j := 3) HK.out rfl
            have fB0 := free_in HK.out 3
            go_wp2_with fail
            go_region_law (first
              | (refine step_append_lie (by rfl) _ _ 23 (by rfl) wL.heap.size 58 i2 _ 6 80 Try.underlying23 HI2.out hz20 hz21 hz22 rfl (by omega) (.slice a k c) k _ (by rfl) (owns_later HO1.out (below1 _ _)) (.slice (some ⟨w1.heap.size, 0, none⟩) 1 1) w1.heap.size (w1.heap.size + 1) 1 (Pv.cells ⟨.slice ta x.ts.length tc, .slice sa x.ss.length sc, .slice da x.ds.length dc, v0, v1, v2⟩) (by rfl) (one_lies (heap_new_at rfl) rfl) (pv_one _ _ _ _ _ _ _ _ _ _ _ _) (k + 1) (by omega) (by simp [maxLen]; omega) (by omega) (by simp; omega) ?_
                 intro ao cap' w9 hown hgrow
                 rw [← flat_snoc] at hown
                 have HOW9 := Lib.hid hown
                 have hbg : Below wL.heap.size w1 w9 := ((below1 _ _).mono (by omega)).grown hgrow (by simp; omega) (fun g hg => ((owns_block HO1.out) g hg).1)
                 have HKB : Hid (KeepsBut 58 58 w1 w9) := Lib.hid ((KeepsBut.of_below (below1 w1 _)).trans (KeepsBut.of_grown hgrow (owns_later HO1.out (below1 _ _))))
                 have HBG := Lib.hid hbg
                 have kb9 := (hbg.block (w.heap.size + 1) (by omega)).trans HK1.out
                 have f9 := free_in kb9 3
                 have c9 := cell_in (j := 3) kb9 rfl
                 have HK9 := Lib.hid kb9
                 clear hown hgrow hbg kb9)
              | (go_simp
                 go_at_call 31
                 refine (rrPart_any X _ _ (HR.out.keep (Below.refl _ _).drew)).mono ?_
                 rintro e w1 ⟨v, x, u1, rfl, hpo, hfw, hr1, hg1, hb1⟩
                 have hb1' : But X wr w1 := ((But.refl X wr).drew).trans hb1
                 have HPO := Lib.hid (PtOwns.base hpo (b' := wL.heap.size) hszL)
                 obtain ⟨ta, sa, da, tc, sc, dc, e1, e2, e3⟩ := PtLies.slices hpo.lies
                 obtain ⟨vt, vv, vd, v0, v1, v2⟩ := v
                 simp only at e1 e2 e3
                 subst e1 e2 e3
                 have HFX := Lib.hid hfw
                 have HO1 := Lib.hid ((ButL.of_but (S := [X]) hb1' (by simp)).owns HOW.out (by simp; omega))
                 have HAL2 := Lib.hid (HAL.out.but (ButL.of_but (S := [X]) hb1' (by simp)) (by simp; omega))
                 have HK1 := Lib.hid (hb1'.at HK.out (by omega))
                 have k1 := cell_in (j := 3) HK1.out rfl
                 have g1 := free_in HK1.out 3
                 have HB1 := Lib.hid (HBT.out.trans (ButL.of_but hb1' (by simp)))
                 have hle1 := hb1'.size
                 have hbk : w.heap.size + 1 < w1.heap.size := lt_of_block HK1.out
                 have HG1 := Lib.hid hg1
                 have HR1 := Lib.hid hr1
                 have hX1 := hr1.lt
                 clear hr1 hg1 hb1 hb1' hpo hfw))
            all_goals go_wp2_with fail
            all_goals go_roundw
            all_goals first
              | (case rel =>
                  have hst : ButL [X, w.heap.size + 1] w9 _ := (ButL.refl _ _).set (b := w.heap.size + 1) (by simp) 3 (.slice ao (k + 1) cap')
                  exact ⟨k + 1, xs ++ [x], vs ++ [⟨.slice ta x.ts.length tc, .slice sa x.ss.length sc, .slice da x.ds.length dc, v0, v1, v2⟩], ao, cap', u1, by omega, by go_num, Lib.hid (by rw [List.length_append, HXL.out]; rfl), Lib.hid (((HAL2.out.snoc HPO.out).keep HKB.out (by decide) (by decide) (by decide)).but hst (by simp; omega)), Lib.hid (fun p hp => by rcases List.mem_append.1 hp with hp | hp; exact HFW.out p hp; rw [List.mem_singleton] at hp; subst hp; exact HFX.out), Lib.hid (set_at (j := 3) HK9.out), Lib.hid (hst.owns HOW9.out (by simp; omega)), Lib.hid ((HR1.out.keepB HBG.out (by omega)).setB (by omega) (by omega) _ _), Lib.hid (HG.out.snoc HG1.out), Lib.hid ((HB1.out.then HBG.out).set (by simp) _ _)⟩)
              | (case measure => simp [intOf]; omega)
        · have tk : decide ((k : Int) < (m : Int)) = false := by simp; omega
          have hkm : k = m := by omega
          clear en es
          go_wp2_with fail
          go_meet
          have hxl := HXL.out
          subst hxl
          exact ⟨xs, vs, a, c, s2, by omega, HAL, HFW, HK, HOW, HR, Lib.hid (HGA.out.many (by rw [Int.toNat_natCast, ← hkm]; exact HG.out)), HBT⟩
    case rest =>
      obtain ⟨l2, vs, a2, c2, sA2, hl2, HALc, HFWz, HKc, HOc, HRc, HGl2, HBc⟩ := hcut
      have hlc := lt_of_block HKc.out
      have hszc := HBc.out.size
      have hXc : X < wc.heap.size := HRc.out.lt
      have HBw : Hid (ButL [X, w.heap.size + 1] w4 wc) := Lib.hid (HBW.out.trans HBc.out)
      have HKr' := Lib.hid (HBc.out.at HKr.out (by simp; omega))
      have HOn2 := Lib.hid (owns_base HOc.out (base' := X + 1) (by omega))
      have HALn := Lib.hid (HALc.out.base (b' := X + 1) (by omega))
      rw [hsA] at HGl2
      have HOn1 := Lib.hid (HBc.out.owns HOk1.out (by simp; omega))
      go_upto_block 4 with (first
        | (go_at_call 30
           refine (rrGet_any X _ _ 1 HRc.out (by omega) (by omega)).mono ?_
           rintro e wL ⟨nA, sB, rfl, bA0, bA1, hr, hg, hb⟩
           obtain ⟨m, rfl⟩ := Int.eq_ofNat_of_zero_le bA0
           have HKs := Lib.hid (hb.at HKc.out (by omega))
           have HKr := Lib.hid (hb.at HKr'.out (by omega))
           have HRs := Lib.hid hr
           have HGA := Lib.hid hg
           have HBW := Lib.hid (HBw.out.trans (ButL.of_but (S := [X, w.heap.size + 1]) hb (by simp)))
           have hbl : ButL [X] wc wL := ButL.of_but hb (by simp)
           have HOk1 := Lib.hid (hbl.owns HOn1.out (by simp))
           have HOk2 := Lib.hid (hbl.owns HOn2.out (by simp))
           have HALk := Lib.hid (HALn.out.but hbl (by simp))
           have hLB : w.heap.size + 1 < wL.heap.size := lt_of_block HKs.out
           have hLX := hr.lt
           clear hr hg hb hbl))
      have hm : m ≤ 255 := by omega
      obtain ⟨sA, hsA⟩ : ∃ sA, sA = sA2 := ⟨_, rfl⟩
      rw [← hsA] at HGA
      clear bA0 bA1
      go_cut [10, 11] from 83 to 112 (fun _ _ wx => ∃ (xs : List Ch) (a : Option Addr) (c : Nat) (s' : Option (List Int)), xs.length ≤ 255 ∧ Hid (wx.heap[(w.heap.size + 1)]? = some (.cells #[.int .i64 xf, .int .i64 xm, .slice a1 l1.length c1, .slice a2 l2.length c2, .slice a xs.length c] 26 (0, 0))) ∧ Hid (wx.ownsRow wL.heap.size 80 4 (.slice a xs.length c) xs.length (xs.flatMap Ch.cells)) ∧ Hid (RrS (w.heap.size + 2) wx X s') ∧ Hid (Got sA (rdMany rdCh) xs s') ∧ Hid (ButL [X, (w.heap.size + 1)] wL wx))
      case first =>
        go_wp2_with fail
        go_loopw [10] (fun i wr => ∃ (k : Nat) (xs : List Ch) (a : Option Addr) (c : Nat) (s' : Option (List Int)), k ≤ m ∧ i = .int .i64 k ∧ Hid (xs.length = k) ∧ Hid (wr.heap[(w.heap.size + 1)]? = some (.cells #[.int .i64 xf, .int .i64 xm, .slice a1 l1.length c1, .slice a2 l2.length c2, .slice a k c] 26 (0, 0))) ∧ Hid (wr.ownsRow wL.heap.size 80 4 (.slice a k c) k (xs.flatMap Ch.cells)) ∧ Hid (RrS (w.heap.size + 2) wr X s') ∧ Hid (Got sB (rdList rdCh k) xs s') ∧ Hid (ButL [X, (w.heap.size + 1)] wL wr)) (fun i _ => m - (intOf i).toNat)
        case atStart => exact ⟨0, [], none, 0, sB, by omega, rfl, Lib.hid rfl, HKs, Lib.hid ⟨rfl, .inl ⟨rfl, rfl⟩⟩, HRs, Lib.hid (Got.nil _ _), Lib.hid (ButL.refl _ _)⟩
        case round =>
          obtain ⟨k, xs, a, c, s2, hk, rfl, HXL, HK, HOW, HR, HG, HBT⟩ := hrel
          have hszL := HBT.out.size
          have hXr : X < wr.heap.size := HR.out.lt
          have hBr : (w.heap.size + 1) < wr.heap.size := lt_of_block HK.out
          obtain ⟨ev, ce0, cf0, en, es⟩ := HR.out.err
          by_cases hlt : k < m
          · have tk : decide ((k : Int) < (m : Int)) = true := by simpa using hlt
            cases s2 with
            | none =>
              have t0 : (ev == 0) = false := by simpa using en rfl
              clear en es
              go_wp2_with fail
              go_meet
              have hxl := HXL.out
              subst hxl
              exact ⟨xs, a, c, none, by omega, HK, HOW, HR, Lib.hid (HGA.out.many (by simpa using HG.out.stop hk)), HBT⟩
            | some l2 =>
              obtain rfl : ev = 0 := es l2 rfl
              clear en es
              go_wp2_with (first
                | (refine wpList_append_lie (by rfl) (.tmp 108) (.tmp 110) 24 (by rfl) wL.heap.size 80 i3 _ 4 32 Try.underlying24 HI3.out hz30 hz31 hz32 rfl (by omega) (.slice a k c) k _ (by rfl) (owns_later HOQ.out (below1 _ _)) (.slice (some ⟨w4.heap.size, 0, none⟩) 1 1) w4.heap.size (w4.heap.size + 1) 1 (Ch.cells ⟨xq, xg, xt, xs_⟩) (by rfl) (one_lies (heap_new_at (by simp [World.setCell])) rfl) (ch_one _) (k + 1) (by omega) (by simp [maxLen]; omega) (by omega) (by simp [World.setCell]; omega) ?_
                   intro ao cap' w9 hown hgrow
                   rw [← flat_snoc] at hown
                   have HOW9 := Lib.hid hown
                   have hbg : Below wL.heap.size (w4.setCell ⟨w1.heap.size, 3, none⟩ (.int .i64 xs_)) w9 := ((below1 _ _).mono (by simp [World.setCell]; omega)).grown hgrow (by simp [World.setCell]; omega) (fun g hg => ((owns_block HOQ.out) g hg).1)
                   have HBG := Lib.hid hbg
                   have kb9 := (hbg.block (w.heap.size + 1) (by omega)).trans HBK2.out
                   have f9 := free_in kb9 4
                   have c9 := cell_in (j := 4) kb9 rfl
                   have HK9 := Lib.hid kb9
                   clear hown hgrow hbg kb9)
                | (go_at_call 30
                   refine (rrGet_any X _ u3 2 HR3.out (by omega) (by omega)).mono ?_
                   rintro e w4 ⟨xs_, u4, rfl, _, _, hr, hg, hb⟩
                   have ke : w4.heap[w1.heap.size]? = some (.cells #[.bool xq, .int .i64 xg, .int .i64 xt, .int .i64 0] 80 (0, 0)) := hb.at HE3.out (by omega)
                   have fe := free_in ke 3
                   have ce := cell_in (j := 3) ke rfl
                   have hle4 := lt_of_block ke
                   have HG4 := Lib.hid hg
                   have HR4 := Lib.hid (hr.set (B := w1.heap.size) (by omega) 3 (.int .i64 xs_))
                   have HQ4 := Lib.hid ((HQ3.out.trans (ButL.of_but hb (by simp))).set (b := w1.heap.size) (by simp) 3 (.int .i64 xs_))
                   have HE4 : Hid ((w4.setCell ⟨w1.heap.size, 3, none⟩ (.int .i64 xs_)).heap[w1.heap.size]? = some (.cells #[.bool xq, .int .i64 xg, .int .i64 xt, .int .i64 xs_] 80 (0, 0))) := Lib.hid (set_at ke)
                   have HM := Lib.hid (HQ4.out.more (S' := [X]) (by simp; omega))
                   have HRK := Lib.hid (((HQ3.out.trans (ButL.of_but hb (by simp))).more (S' := [X]) (by simp; omega)).at HK1.out (by simp; omega))
                   have rq := cell_in (j := 4) HRK.out rfl
                   have HBK2 := Lib.hid (HM.out.at HK1.out (by simp; omega))
                   have z0 := cell_in (j := 0) ke rfl
                   have z1 := cell_in (j := 1) ke rfl
                   have z2 := cell_in (j := 2) ke rfl
                   have HOQ := Lib.hid (HM.out.owns HO1.out (by simp; omega))
                   have hszq : w1.heap.size < w4.heap.size := hle4
                   have hbk : (w.heap.size + 1) < w4.heap.size := lt_of_block HRK.out
                   clear hr hg hb ke)
                | (go_at_call 30
                   refine (rrGet_any X _ u2 1 HR2.out (by omega) (by omega)).mono ?_
                   rintro e w3 ⟨xt, u3, rfl, _, _, hr, hg, hb⟩
                   have ke : w3.heap[w1.heap.size]? = some (.cells #[.bool xq, .int .i64 xg, .int .i64 0, .int .i64 0] 80 (0, 0)) := hb.at HE2.out (by omega)
                   have fe := free_in ke 2
                   have ce := cell_in (j := 2) ke rfl
                   have hle3 := lt_of_block ke
                   have HG3 := Lib.hid hg
                   have HR3 := Lib.hid (hr.set (B := w1.heap.size) (by omega) 2 (.int .i64 xt))
                   have HQ3 := Lib.hid ((HQ2.out.trans (ButL.of_but hb (by simp))).set (b := w1.heap.size) (by simp) 2 (.int .i64 xt))
                   have HE3 : Hid ((w3.setCell ⟨w1.heap.size, 2, none⟩ (.int .i64 xt)).heap[w1.heap.size]? = some (.cells #[.bool xq, .int .i64 xg, .int .i64 xt, .int .i64 0] 80 (0, 0))) := Lib.hid (set_at ke)
                   clear hr hg hb ke)
                | (go_at_call 30
                   refine (rrGet_any X _ u1 1 HR1.out (by omega) (by omega)).mono ?_
                   rintro e w2 ⟨xg, u2, rfl, _, _, hr, hg, hb⟩
                   have ke : w2.heap[w1.heap.size]? = some (.cells #[.bool xq, .int .i64 0, .int .i64 0, .int .i64 0] 80 (0, 0)) := hb.at HE1.out (by omega)
                   have fe := free_in ke 1
                   have ce := cell_in (j := 1) ke rfl
                   have hle2 := lt_of_block ke
                   have HG2 := Lib.hid hg
                   have HR2 := Lib.hid (hr.set (B := w1.heap.size) (by omega) 1 (.int .i64 xg))
                   have HQ2 := Lib.hid ((HQ1.out.trans (ButL.of_but hb (by simp))).set (b := w1.heap.size) (by simp) 1 (.int .i64 xg))
                   have HE2 : Hid ((w2.setCell ⟨w1.heap.size, 1, none⟩ (.int .i64 xg)).heap[w1.heap.size]? = some (.cells #[.bool xq, .int .i64 xg, .int .i64 0, .int .i64 0] 80 (0, 0))) := Lib.hid (set_at ke)
                   clear hr hg hb ke)
                | (go_at_call 32
                   refine (rrTruth_any X _ _ HR.out).mono ?_
                   rintro e w1 ⟨xq, u1, rfl, hr1, hg1, hb1⟩
                   have HO1 := Lib.hid ((ButL.of_but (S := [X]) hb1 (by simp)).owns HOW.out (by simp; omega))
                   have HK1 := Lib.hid (hb1.at HK.out (by omega))
                   have HB1 := Lib.hid (HBT.out.trans (ButL.of_but hb1 (by simp)))
                   have hle1 := hb1.size
                   have HG1 := Lib.hid hg1
                   have HR1 := Lib.hid (hr1.keep (below1 _ (.cells #[.bool xq, .int .i64 0, .int .i64 0, .int .i64 0] 80 (0, 0))))
                   have HQ1 : Hid (ButL [X, w1.heap.size] w1 (w1.alloc (.cells #[.bool xq, .int .i64 0, .int .i64 0, .int .i64 0] 80 (0, 0)))) := Lib.hid (ButL.of_below (below1 _ _))
                   have HE1 : Hid ((w1.alloc (.cells #[.bool xq, .int .i64 0, .int .i64 0, .int .i64 0] 80 (0, 0))).heap[w1.heap.size]? = some (.cells #[.bool xq, .int .i64 0, .int .i64 0, .int .i64 0] 80 (0, 0))) := Lib.hid (heap_new_at rfl)
                   have hX1 := hr1.lt
                   clear hr1 hg1 hb1))
              go_roundw
              case rel => exact ⟨k + 1, xs ++ [⟨xq, xg, xt, xs_⟩], ao, cap', u4, by omega, by go_num, Lib.hid (by rw [List.length_append, HXL.out]; rfl), Lib.hid (set_at (j := 4) HK9.out), Lib.hid ((ButL.set (S := [X, (w.heap.size + 1)]) (ButL.refl _ _) (b := (w.heap.size + 1)) (by simp) _ _).owns HOW9.out (by simp; omega)), Lib.hid ((HR4.out.keepB HBG.out (by omega)).setB (by omega) (by omega) _ _), Lib.hid (HG.out.snoc (show Got _ rdCh ⟨xq, xg, xt, xs_⟩ _ from (Got.two HG1.out (Got.two HG2.out (Got.two HG3.out HG4.out))).map _)), Lib.hid (((HB1.out.trans (HM.out.more (by simp; omega))).then HBG.out).set (by simp) _ _)⟩
              case measure => simp [intOf]; omega
          · have tk : decide ((k : Int) < (m : Int)) = false := by simp; omega
            have hkm : k = m := by omega
            clear en es
            go_wp2_with fail
            go_meet
            have hxl := HXL.out
            subst hxl
            exact ⟨xs, a, c, s2, by omega, HK, HOW, HR, Lib.hid (HGA.out.many (by rw [Int.toNat_natCast, ← hkm]; exact HG.out)), HBT⟩
      case rest =>
        obtain ⟨l3, a3, c3, sA3, hl3, HKc, HOc, HRc, HGl3, HBc⟩ := hcut
        have hlc := lt_of_block HKc.out
        have hszc := HBc.out.size
        have hXc : X < wc.heap.size := HRc.out.lt
        have HBw : Hid (ButL [X, w.heap.size + 1] w4 wc) := Lib.hid (HBW.out.trans HBc.out)
        have HKr' := Lib.hid (HBc.out.at HKr.out (by simp; omega))
        have HOn3 := Lib.hid (owns_base HOc.out (base' := X + 1) (by omega))
        rw [hsA] at HGl3
        have HOn1 := Lib.hid (HBc.out.owns HOk1.out (by simp; omega))
        have HOn2 := Lib.hid (HBc.out.owns HOk2.out (by simp; omega))
        have HALz := Lib.hid (HALk.out.but HBc.out (by simp; omega))
        have HGT : Hid (Got (some l) rdImg ⟨xf, xm, l1, l2, l3⟩ sA3) := Lib.hid ((Got.two HGM.out ((Got.two HG6.out (Got.two HG7.out (Got.two HGl1.out (Got.two HGl2.out HGl3.out)))).map _)).map _)
        have hkb := HKc.out
        have p0 := cell_in (j := 0) hkb rfl
        have p1 := cell_in (j := 1) hkb rfl
        have p2 := cell_in (j := 2) hkb rfl
        have p3 := cell_in (j := 3) hkb rfl
        have p4 := cell_in (j := 4) hkb rfl
        have hkr := HKr'.out
        have d0 := cell_in (j := 0) hkr rfl
        have d1 := cell_in (j := 1) hkr rfl
        have d2 := cell_in (j := 2) hkr rfl
        have d3 := cell_in (j := 3) hkr rfl
        have d4 := cell_in (j := 4) hkr rfl
        have y0 := free_in hkr 0
        have y1 := free_in hkr 1
        have y2 := free_in hkr 2
        have y3 := free_in hkr 3
        have y4 := free_in hkr 4
        have hwlast := lt_of_block hkr
        clear hkb hkr
        have HBA : Hid (Below w.heap.size w wc) := Lib.hid (HB4.out.trans ((HBw.out.below (B := w.heap.size) (by simp; omega) (by omega))))
        obtain ⟨ra, rn, rc, ev, ll, hblk, hrn, _, _, _, _, hs⟩ := HRc.out
        have e1' : wc.cell? ⟨X, 1, none⟩ = some (.int .i64 ev) := cell_in hblk rfl
        have e0' : wc.cell? ⟨X, 0, none⟩ = some (.slice ra rn rc) := cell_in hblk rfl
        clear hblk
        by_cases hok : sA3 = some []
        case neg =>
          have HV : Hid (decW l = (zeroC, 10)) := Lib.hid (decW_no (by rw [HN.out]; exact hbig) (by
            cases hss : sA3 with
            | none => have := HGT.out; rw [hss] at this; exact this.none
            | some r => have := HGT.out; rw [hss] at this; exact this.left (by rintro rfl; exact hok hss)))
          have hX := set5 HKr'.out rfl (.int .i64 0) (.int .i64 0) (.slice none 0 0) (.slice none 0 0) (.slice none 0 0)
          have fin : RDecPost l w (.returned (.tuple #[.agg #[.int .i64 0, .int .i64 0, .slice none 0 0, .slice none 0 0, .slice none 0 0], .int .i64 10])) (((((wc.setCell ⟨w.heap.size, 0, none⟩ (.int .i64 0)).setCell ⟨w.heap.size, 1, none⟩ (.int .i64 0)).setCell ⟨w.heap.size, 2, none⟩ (.slice none 0 0)).setCell ⟨w.heap.size, 3, none⟩ (.slice none 0 0)).setCell ⟨w.heap.size, 4, none⟩ (.slice none 0 0)) := by
            unfold RDecPost
            rw [HV.out]
            exact ⟨[], none, none, none, 0, 0, 0, rfl, sys_zero _ _, zero_few, below5 HBA.out (Nat.le_refl _) _ _ _ _ _⟩
          have FIN := Lib.hid fin
          have HXX := Lib.hid hX
          clear fin hX
          cases hss : sA3 with
          | none =>
            rw [hss] at hs
            have te : (ev != 0) = true := by simpa using hs
            clear hs hok hss
            go_wp2_with fail
            refine bodyPost_ret (results_pair_row (P := Try.prog) rfl _ _ w.heap.size _ _ (0, 0) _ _ rfl rfl HXX.out Try.underlying26 rfl Try.sizeConf_parcloseref03) rfl ?_
            exact FIN.out
          | some r =>
            rw [hss] at hs
            obtain ⟨rfl, rfl⟩ := hs
            have tr : decide (0 < (rn : Int)) = true := by
              have : ll ≠ [] := by rintro rfl; exact hok hss
              have := List.length_pos_iff.2 this
              simp; omega
            have hpos : 0 < rn := by simpa using tr
            clear tr
            clear hok hss hrn
            go_wp2_with fail
            refine bodyPost_ret (results_pair_row (P := Try.prog) rfl _ _ w.heap.size _ _ (0, 0) _ _ rfl rfl HXX.out Try.underlying26 rfl Try.sizeConf_parcloseref03) rfl ?_
            exact FIN.out
        case pos =>
          rw [hok] at hs
          obtain ⟨rfl, rfl⟩ := hs
          have hrn0 : rn = 0 := by simpa using hrn.symm
          subst hrn0
          have HV : Hid (decW l = (⟨xf, xm, l1, l2, l3⟩, 0)) := Lib.hid (decW_yes (by rw [HN.out]; exact hbig) (by have := HGT.out; rw [hok] at this; exact this.all))
          have hX := set5 HKr'.out rfl (.int .i64 xf) (.int .i64 xm) (.slice a1 l1.length c1) (.slice a2 l2.length c2) (.slice a3 l3.length c3)
          have hbe : ButL [w.heap.size] wc (((((wc.setCell ⟨w.heap.size, 0, none⟩ (.int .i64 xf)).setCell ⟨w.heap.size, 1, none⟩ (.int .i64 xm)).setCell ⟨w.heap.size, 2, none⟩ (.slice a1 l1.length c1)).setCell ⟨w.heap.size, 3, none⟩ (.slice a2 l2.length c2)).setCell ⟨w.heap.size, 4, none⟩ (.slice a3 l3.length c3)) := ((((((ButL.refl _ _).set (b := w.heap.size) (by simp) 0 (.int .i64 xf)).set (b := w.heap.size) (by simp) 1 (.int .i64 xm)).set (b := w.heap.size) (by simp) 2 (.slice a1 l1.length c1)).set (b := w.heap.size) (by simp) 3 (.slice a2 l2.length c2)).set (b := w.heap.size) (by simp) 4 (.slice a3 l3.length c3))
          have HXX := Lib.hid hX
          have HBE := Lib.hid hbe
          clear hX hbe hrn hok
          go_wp2_with fail
          refine bodyPost_ret (results_pair_row (P := Try.prog) rfl _ _ w.heap.size _ _ (0, 0) _ _ rfl rfl HXX.out Try.underlying26 rfl Try.sizeConf_parcloseref03) rfl ?_
          unfold RDecPost
          rw [HV.out]
          exact ⟨vs, a1, a2, a3, c1, c2, c3, rfl, ⟨(Lies.of_owns (HBE.out.owns HOn1.out (by simp; omega))).wider (Nat.zero_le _) (Nat.le_refl _), (Lies.of_owns (HBE.out.owns HOn2.out (by simp; omega))).wider (Nat.zero_le _) (Nat.le_refl _), (HALz.out.but HBE.out (by simp; omega)).lies.wider (Nat.zero_le _) (Nat.le_refl _), (Lies.of_owns (HBE.out.owns HOn3.out (by simp; omega))).wider (Nat.zero_le _) (Nat.le_refl _)⟩, ⟨hl1, hl2, hl3, HFWz.out⟩, below5 HBA.out (Nat.le_refl _) _ _ _ _ _⟩
end Go.Proofs.Ytiombjkjoehjpaa
