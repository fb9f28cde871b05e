/- A partition read by the document's reader. -/
import Derived.Test.YtiombjkjoehjpaaImageX
import Derived.Test.YtiombjkjoehjpaaImageP
import Derived.Deep.CutBlock
import Derived.Deep.RegionLaw
import Derived.Deep.CutRange
namespace Go.Proofs.Ytiombjkjoehjpaa
open Go.ChangeShapes Go.WideShapes Go.ChangeAt Go.RowKit
set_option linter.unusedVariables false

def RPartPost (lo X : Nat) (s : Option (List Int)) (w : World) (r : Ending) (w' : World) : Prop := ∃ (v : Pv) (p : Pt) (s' : Option (List Int)), r = .returned (.agg #[v.ts, v.ss, v.ds, .int .u8 v.a0, .int .u8 v.a1, .int .u8 v.a2]) ∧ PtOwns w' w.heap.size 121 124 3 v p ∧ Fewp p ∧ RrS lo w' X s' ∧ Got s rdPt p s' ∧ But X w w'
set_option maxRecDepth 100000 in
set_option maxHeartbeats 8000000 in
theorem rrPart_any {lo : Nat} (X : Nat) (w : World) (s : Option (List Int)) (h : RrS lo w X s) :
    Calls Try.prog 31 #[.pointer (some ⟨X, 0, none⟩)] w fun r w' => RPartPost lo X s w r w' := by
  obtain ⟨i1, hi1, hz10, hz11, hz12⟩ := info_parts Try.infoTk_parcloseref03
  obtain ⟨i2, hi2, hz20, hz21, hz22⟩ := info_parts Try.infoSv_parcloseref03
  obtain ⟨i3, hi3, hz30, hz31, hz32⟩ := info_parts Try.infoInt
  have HI1 := Lib.hid hi1; have HI2 := Lib.hid hi2; have HI3 := Lib.hid hi3
  have hlt := h.lt
  have H0 := Lib.hid h
  clear h hi1 hi2 hi3
  go_enter Try.func31, Try.ntmps31
  go_upto_block 0 with (first
    | (go_at_call 30
       refine (rrGet_any X _ s 1 ((H0.out.keep (below1 _ _)).keep (below1 _ _)) (by omega) (by omega)).mono ?_
       rintro e wL ⟨nA, sB, rfl, bA0, bA1, hr, hg, hb⟩
       obtain ⟨m, rfl⟩ := Int.eq_ofNat_of_zero_le bA0
       have HKs := Lib.hid (hb.at (heap_new_at (b := w.heap.size + 1) (by simp)) (by omega))
       have HKr := Lib.hid (hb.at (at_alloc (heap_new_at (b := w.heap.size) rfl)) (by omega))
       have HRs := Lib.hid hr
       have HGA := Lib.hid hg
       have HBW : Hid (ButL [X, w.heap.size + 1] w wL) := Lib.hid (((ButL.of_below (below1 _ _)).alloc _).trans (ButL.of_but hb (by simp)))
       have hLB : w.heap.size + 1 < wL.heap.size := lt_of_block HKs.out
       clear hr hg hb))
  have hm : m ≤ 255 := by omega
  obtain ⟨sA, hsA1⟩ : ∃ sA, sA = s := ⟨_, rfl⟩
  rw [← hsA1] at HGA
  go_cut [5, 6] from 13 to 48 (fun _ _ wx => ∃ (xs : List Tk) (a : Option Addr) (c : Nat) (s' : Option (List Int)), xs.length ≤ 255 ∧ Hid (wx.heap[(w.heap.size + 1)]? = some (.cells #[.slice a xs.length c, .slice none 0 0, .slice none 0 0, .int .u8 0, .int .u8 0, .int .u8 0] 58 (0, 0))) ∧ Hid (wx.ownsRow wL.heap.size 121 6 (.slice a xs.length c) xs.length (xs.flatMap Tk.cells)) ∧ Hid (RrS lo wx X s') ∧ Hid (Got sA (rdMany rdTk) xs s') ∧ Hid (ButL [X, (w.heap.size + 1)] wL wx))
  case first =>
    go_wp2_with fail
    go_loopw [5] (fun i wr => ∃ (k : Nat) (xs : List Tk) (a : Option Addr) (c : Nat) (s' : Option (List Int)), k ≤ m ∧ i = .int .i64 k ∧ Hid (xs.length = k) ∧ Hid (wr.heap[(w.heap.size + 1)]? = some (.cells #[.slice a k c, .slice none 0 0, .slice none 0 0, .int .u8 0, .int .u8 0, .int .u8 0] 58 (0, 0))) ∧ Hid (wr.ownsRow wL.heap.size 121 6 (.slice a k c) k (xs.flatMap Tk.cells)) ∧ Hid (RrS lo wr X s') ∧ Hid (Got sB (rdList rdTk k) xs s') ∧ Hid (ButL [X, (w.heap.size + 1)] wL wr)) (fun i _ => m - (intOf i).toNat)
    case atStart => exact ⟨0, [], none, 0, sB, by omega, rfl, Lib.hid rfl, HKs, Lib.hid ⟨rfl, .inl ⟨rfl, rfl⟩⟩, HRs, Lib.hid (Got.nil _ _), Lib.hid (ButL.refl _ _)⟩
    case round =>
      obtain ⟨k, xs, a, c, s2, hk, rfl, HXL, HK, HOW, HR, HG, HBT⟩ := hrel
      have hszL := HBT.out.size
      have hXr : X < wr.heap.size := HR.out.lt
      have hBr : (w.heap.size + 1) < wr.heap.size := lt_of_block HK.out
      obtain ⟨ev, ce0, cf0, en, es⟩ := HR.out.err
      by_cases hlt : k < m
      · have tk : decide ((k : Int) < (m : Int)) = true := by simpa using hlt
        cases s2 with
        | none =>
          have t0 : (ev == 0) = false := by simpa using en rfl
          clear en es
          go_wp2_with fail
          go_meet
          have hxl := HXL.out
          subst hxl
          exact ⟨xs, a, c, none, by omega, HK, HOW, HR, Lib.hid (HGA.out.many (by simpa using HG.out.stop hk)), HBT⟩
        | some l2 =>
          obtain rfl : ev = 0 := es l2 rfl
          clear en es
          go_wp2_with (first
            | (refine wpList_append_lie (by rfl) (.tmp 44) (.tmp 46) 53 (by rfl) wL.heap.size 121 i1 _ 6 48 Try.underlying53 HI1.out hz10 hz11 hz12 rfl (by omega) (.slice a k c) k _ (by rfl) (owns_later HOQ.out (below1 _ _)) (.slice (some ⟨w6.heap.size, 0, none⟩) 1 1) w6.heap.size (w6.heap.size + 1) 1 (Tk.cells ⟨xh, xt, xd, xv, xl, xp⟩) (by rfl) (one_lies (heap_new_at (by simp [World.setCell])) rfl) (tk_one _) (k + 1) (by omega) (by simp [maxLen]; omega) (by omega) (by simp [World.setCell]; omega) ?_
               intro ao cap' w9 hown hgrow
               rw [← flat_snoc] at hown
               have HOW9 := Lib.hid hown
               have hbg : Below wL.heap.size (w6.setCell ⟨w1.heap.size, 5, none⟩ (.int .i64 xp)) w9 := ((below1 _ _).mono (by simp [World.setCell]; omega)).grown hgrow (by simp [World.setCell]; omega) (fun g hg => ((owns_block HOQ.out) g hg).1)
               have HBG := Lib.hid hbg
               have kb9 := (hbg.block (w.heap.size + 1) (by omega)).trans HBK2.out
               have f9 := free_in kb9 0
               have c9 := cell_in (j := 0) kb9 rfl
               have HK9 := Lib.hid kb9
               clear hown hgrow hbg kb9)
            | (go_at_call 30
               refine (rrGet_any X _ u5 2 HR5.out (by omega) (by omega)).mono ?_
               rintro e w6 ⟨xp, u6, rfl, _, _, hr, hg, hb⟩
               have ke : w6.heap[w1.heap.size]? = some (.cells #[.bool xh, .int .i64 xt, .int .i64 xd, .int .i64 xv, .int .i64 xl, .int .i64 0] 121 (0, 0)) := hb.at HE5.out (by omega)
               have fe := free_in ke 5
               have ce := cell_in (j := 5) ke rfl
               have hle6 := lt_of_block ke
               have HG6 := Lib.hid hg
               have HR6 := Lib.hid (hr.set (B := w1.heap.size) (by omega) 5 (.int .i64 xp))
               have HQ6 := Lib.hid ((HQ5.out.trans (ButL.of_but hb (by simp))).set (b := w1.heap.size) (by simp) 5 (.int .i64 xp))
               have HE6 : Hid ((w6.setCell ⟨w1.heap.size, 5, none⟩ (.int .i64 xp)).heap[w1.heap.size]? = some (.cells #[.bool xh, .int .i64 xt, .int .i64 xd, .int .i64 xv, .int .i64 xl, .int .i64 xp] 121 (0, 0))) := Lib.hid (set_at ke)
               have HM := Lib.hid (HQ6.out.more (S' := [X]) (by simp; omega))
               have HRK := Lib.hid (((HQ5.out.trans (ButL.of_but hb (by simp))).more (S' := [X]) (by simp; omega)).at HK1.out (by simp; omega))
               have rq := cell_in (j := 0) HRK.out rfl
               have HBK2 := Lib.hid (HM.out.at HK1.out (by simp; omega))
               have z0 := cell_in (j := 0) ke rfl
               have z1 := cell_in (j := 1) ke rfl
               have z2 := cell_in (j := 2) ke rfl
               have z3 := cell_in (j := 3) ke rfl
               have z4 := cell_in (j := 4) ke rfl
               have HOQ := Lib.hid (HM.out.owns HO1.out (by simp; omega))
               have hszq : w1.heap.size < w6.heap.size := hle6
               have hbk : (w.heap.size + 1) < w6.heap.size := lt_of_block HRK.out
               clear hr hg hb ke)
            | (go_at_call 30
               refine (rrGet_any X _ u4 2 HR4.out (by omega) (by omega)).mono ?_
               rintro e w5 ⟨xl, u5, rfl, _, _, hr, hg, hb⟩
               have ke : w5.heap[w1.heap.size]? = some (.cells #[.bool xh, .int .i64 xt, .int .i64 xd, .int .i64 xv, .int .i64 0, .int .i64 0] 121 (0, 0)) := hb.at HE4.out (by omega)
               have fe := free_in ke 4
               have ce := cell_in (j := 4) ke rfl
               have hle5 := lt_of_block ke
               have HG5 := Lib.hid hg
               have HR5 := Lib.hid (hr.set (B := w1.heap.size) (by omega) 4 (.int .i64 xl))
               have HQ5 := Lib.hid ((HQ4.out.trans (ButL.of_but hb (by simp))).set (b := w1.heap.size) (by simp) 4 (.int .i64 xl))
               have HE5 : Hid ((w5.setCell ⟨w1.heap.size, 4, none⟩ (.int .i64 xl)).heap[w1.heap.size]? = some (.cells #[.bool xh, .int .i64 xt, .int .i64 xd, .int .i64 xv, .int .i64 xl, .int .i64 0] 121 (0, 0))) := Lib.hid (set_at ke)
               clear hr hg hb ke)
            | (go_at_call 30
               refine (rrGet_any X _ u3 2 HR3.out (by omega) (by omega)).mono ?_
               rintro e w4 ⟨xv, u4, rfl, _, _, hr, hg, hb⟩
               have ke : w4.heap[w1.heap.size]? = some (.cells #[.bool xh, .int .i64 xt, .int .i64 xd, .int .i64 0, .int .i64 0, .int .i64 0] 121 (0, 0)) := hb.at HE3.out (by omega)
               have fe := free_in ke 3
               have ce := cell_in (j := 3) ke rfl
               have hle4 := lt_of_block ke
               have HG4 := Lib.hid hg
               have HR4 := Lib.hid (hr.set (B := w1.heap.size) (by omega) 3 (.int .i64 xv))
               have HQ4 := Lib.hid ((HQ3.out.trans (ButL.of_but hb (by simp))).set (b := w1.heap.size) (by simp) 3 (.int .i64 xv))
               have HE4 : Hid ((w4.setCell ⟨w1.heap.size, 3, none⟩ (.int .i64 xv)).heap[w1.heap.size]? = some (.cells #[.bool xh, .int .i64 xt, .int .i64 xd, .int .i64 xv, .int .i64 0, .int .i64 0] 121 (0, 0))) := Lib.hid (set_at ke)
               clear hr hg hb ke)
            | (go_at_call 30
               refine (rrGet_any X _ u2 2 HR2.out (by omega) (by omega)).mono ?_
               rintro e w3 ⟨xd, u3, rfl, _, _, hr, hg, hb⟩
               have ke : w3.heap[w1.heap.size]? = some (.cells #[.bool xh, .int .i64 xt, .int .i64 0, .int .i64 0, .int .i64 0, .int .i64 0] 121 (0, 0)) := hb.at HE2.out (by omega)
               have fe := free_in ke 2
               have ce := cell_in (j := 2) ke rfl
               have hle3 := lt_of_block ke
               have HG3 := Lib.hid hg
               have HR3 := Lib.hid (hr.set (B := w1.heap.size) (by omega) 2 (.int .i64 xd))
               have HQ3 := Lib.hid ((HQ2.out.trans (ButL.of_but hb (by simp))).set (b := w1.heap.size) (by simp) 2 (.int .i64 xd))
               have HE3 : Hid ((w3.setCell ⟨w1.heap.size, 2, none⟩ (.int .i64 xd)).heap[w1.heap.size]? = some (.cells #[.bool xh, .int .i64 xt, .int .i64 xd, .int .i64 0, .int .i64 0, .int .i64 0] 121 (0, 0))) := Lib.hid (set_at ke)
               clear hr hg hb ke)
            | (go_at_call 30
               refine (rrGet_any X _ u1 2 HR1.out (by omega) (by omega)).mono ?_
               rintro e w2 ⟨xt, u2, rfl, _, _, hr, hg, hb⟩
               have ke : w2.heap[w1.heap.size]? = some (.cells #[.bool xh, .int .i64 0, .int .i64 0, .int .i64 0, .int .i64 0, .int .i64 0] 121 (0, 0)) := hb.at HE1.out (by omega)
               have fe := free_in ke 1
               have ce := cell_in (j := 1) ke rfl
               have hle2 := lt_of_block ke
               have HG2 := Lib.hid hg
               have HR2 := Lib.hid (hr.set (B := w1.heap.size) (by omega) 1 (.int .i64 xt))
               have HQ2 := Lib.hid ((HQ1.out.trans (ButL.of_but hb (by simp))).set (b := w1.heap.size) (by simp) 1 (.int .i64 xt))
               have HE2 : Hid ((w2.setCell ⟨w1.heap.size, 1, none⟩ (.int .i64 xt)).heap[w1.heap.size]? = some (.cells #[.bool xh, .int .i64 xt, .int .i64 0, .int .i64 0, .int .i64 0, .int .i64 0] 121 (0, 0))) := Lib.hid (set_at ke)
               clear hr hg hb ke)
            | (go_at_call 32
               refine (rrTruth_any X _ _ HR.out).mono ?_
               rintro e w1 ⟨xh, u1, rfl, hr1, hg1, hb1⟩
               have HO1 := Lib.hid ((ButL.of_but (S := [X]) hb1 (by simp)).owns HOW.out (by simp; omega))
               have HK1 := Lib.hid (hb1.at HK.out (by omega))
               have HB1 := Lib.hid (HBT.out.trans (ButL.of_but hb1 (by simp)))
               have hle1 := hb1.size
               have HG1 := Lib.hid hg1
               have HR1 := Lib.hid (hr1.keep (below1 _ (.cells #[.bool xh, .int .i64 0, .int .i64 0, .int .i64 0, .int .i64 0, .int .i64 0] 121 (0, 0))))
               have HQ1 : Hid (ButL [X, w1.heap.size] w1 (w1.alloc (.cells #[.bool xh, .int .i64 0, .int .i64 0, .int .i64 0, .int .i64 0, .int .i64 0] 121 (0, 0)))) := Lib.hid (ButL.of_below (below1 _ _))
               have HE1 : Hid ((w1.alloc (.cells #[.bool xh, .int .i64 0, .int .i64 0, .int .i64 0, .int .i64 0, .int .i64 0] 121 (0, 0))).heap[w1.heap.size]? = some (.cells #[.bool xh, .int .i64 0, .int .i64 0, .int .i64 0, .int .i64 0, .int .i64 0] 121 (0, 0))) := Lib.hid (heap_new_at rfl)
               have hX1 := hr1.lt
               clear hr1 hg1 hb1))
          go_roundw
          case rel => exact ⟨k + 1, xs ++ [⟨xh, xt, xd, xv, xl, xp⟩], ao, cap', u6, by omega, by go_num, Lib.hid (by rw [List.length_append, HXL.out]; rfl), Lib.hid (set_at (j := 0) HK9.out), Lib.hid ((ButL.set (S := [X, (w.heap.size + 1)]) (ButL.refl _ _) (b := (w.heap.size + 1)) (by simp) _ _).owns HOW9.out (by simp; omega)), Lib.hid ((HR6.out.keepB HBG.out (by omega)).set (by omega) _ _), Lib.hid (HG.out.snoc (show Got _ rdTk ⟨xh, xt, xd, xv, xl, xp⟩ _ from (Got.two HG1.out (Got.two HG2.out (Got.two HG3.out (Got.two HG4.out (Got.two HG5.out HG6.out))))).map _)), Lib.hid (((HB1.out.trans (HM.out.more (by simp; omega))).then HBG.out).set (by simp) _ _)⟩
          case measure => simp [intOf]; omega
      · have tk : decide ((k : Int) < (m : Int)) = false := by simp; omega
        have hkm : k = m := by omega
        clear en es
        go_wp2_with fail
        go_meet
        have hxl := HXL.out
        subst hxl
        exact ⟨xs, a, c, s2, by omega, HK, HOW, HR, Lib.hid (HGA.out.many (by rw [Int.toNat_natCast, ← hkm]; exact HG.out)), HBT⟩
  case rest =>
    obtain ⟨l1, a1, c1, sA1, hl1, HKc, HOc, HRc, HGl1, HBc⟩ := hcut
    have hlc := lt_of_block HKc.out
    have hszc := HBc.out.size
    have HBw : Hid (ButL [X, w.heap.size + 1] w wc) := Lib.hid (HBW.out.trans HBc.out)
    have HKr' := Lib.hid (HBc.out.at HKr.out (by simp; omega))
    have HOn1 := Lib.hid (owns_base HOc.out (base' := w.heap.size + 2) (by omega))
    rw [hsA1] at HGl1
    go_upto_block 2 with (first
      | (go_at_call 30
         refine (rrGet_any X _ _ 1 HRc.out (by omega) (by omega)).mono ?_
         rintro e wL ⟨nA, sB, rfl, bA0, bA1, hr, hg, hb⟩
         obtain ⟨m, rfl⟩ := Int.eq_ofNat_of_zero_le bA0
         have HKs := Lib.hid (hb.at HKc.out (by omega))
         have HKr := Lib.hid (hb.at HKr'.out (by omega))
         have HRs := Lib.hid hr
         have HGA := Lib.hid hg
         have HBW := Lib.hid (HBw.out.trans (ButL.of_but hb (by simp)))
         have hbl : ButL [X] wc wL := ButL.of_but hb (by simp)
         have HOk1 := Lib.hid (hbl.owns HOn1.out (by simp; omega))
         have hLB : w.heap.size + 1 < wL.heap.size := lt_of_block HKs.out
         clear hr hg hb hbl))
    have hm : m ≤ 255 := by omega
    obtain ⟨sA, hsA⟩ : ∃ sA, sA = sA1 := ⟨_, rfl⟩
    rw [← hsA] at HGA
    clear bA0 bA1
    go_cut [7, 8] from 51 to 77 (fun _ _ wx => ∃ (xs : List Sv) (a : Option Addr) (c : Nat) (s' : Option (List Int)), xs.length ≤ 255 ∧ Hid (wx.heap[(w.heap.size + 1)]? = some (.cells #[.slice a1 l1.length c1, .slice a xs.length c, .slice none 0 0, .int .u8 0, .int .u8 0, .int .u8 0] 58 (0, 0))) ∧ Hid (wx.ownsRow wL.heap.size 124 3 (.slice a xs.length c) xs.length (xs.flatMap Sv.cells)) ∧ Hid (RrS lo wx X s') ∧ Hid (Got sA (rdMany rdSv) xs s') ∧ Hid (ButL [X, (w.heap.size + 1)] wL wx))
    case first =>
      go_wp2_with fail
      go_loopw [7] (fun i wr => ∃ (k : Nat) (xs : List Sv) (a : Option Addr) (c : Nat) (s' : Option (List Int)), k ≤ m ∧ i = .int .i64 k ∧ Hid (xs.length = k) ∧ Hid (wr.heap[(w.heap.size + 1)]? = some (.cells #[.slice a1 l1.length c1, .slice a k c, .slice none 0 0, .int .u8 0, .int .u8 0, .int .u8 0] 58 (0, 0))) ∧ Hid (wr.ownsRow wL.heap.size 124 3 (.slice a k c) k (xs.flatMap Sv.cells)) ∧ Hid (RrS lo wr X s') ∧ Hid (Got sB (rdList rdSv k) xs s') ∧ Hid (ButL [X, (w.heap.size + 1)] wL wr)) (fun i _ => m - (intOf i).toNat)
      case atStart => exact ⟨0, [], none, 0, sB, by omega, rfl, Lib.hid rfl, HKs, Lib.hid ⟨rfl, .inl ⟨rfl, rfl⟩⟩, HRs, Lib.hid (Got.nil _ _), Lib.hid (ButL.refl _ _)⟩
      case round =>
        obtain ⟨k, xs, a, c, s2, hk, rfl, HXL, HK, HOW, HR, HG, HBT⟩ := hrel
        have hszL := HBT.out.size
        have hXr : X < wr.heap.size := HR.out.lt
        have hBr : (w.heap.size + 1) < wr.heap.size := lt_of_block HK.out
        obtain ⟨ev, ce0, cf0, en, es⟩ := HR.out.err
        by_cases hlt : k < m
        · have tk : decide ((k : Int) < (m : Int)) = true := by simpa using hlt
          cases s2 with
          | none =>
            have t0 : (ev == 0) = false := by simpa using en rfl
            clear en es
            go_wp2_with fail
            go_meet
            have hxl := HXL.out
            subst hxl
            exact ⟨xs, a, c, none, by omega, HK, HOW, HR, Lib.hid (HGA.out.many (by simpa using HG.out.stop hk)), HBT⟩
          | some l2 =>
            obtain rfl : ev = 0 := es l2 rfl
            clear en es
            go_wp2_with (first
              | (refine wpList_append_lie (by rfl) (.tmp 73) (.tmp 75) 54 (by rfl) wL.heap.size 124 i2 _ 3 24 Try.underlying54 HI2.out hz20 hz21 hz22 rfl (by omega) (.slice a k c) k _ (by rfl) (owns_later HOQ.out (below1 _ _)) (.slice (some ⟨w3.heap.size, 0, none⟩) 1 1) w3.heap.size (w3.heap.size + 1) 1 (Sv.cells ⟨xr, xc, xt⟩) (by rfl) (one_lies (heap_new_at (by simp [World.setCell])) rfl) (sv_one _) (k + 1) (by omega) (by simp [maxLen]; omega) (by omega) (by simp [World.setCell]; omega) ?_
                 intro ao cap' w9 hown hgrow
                 rw [← flat_snoc] at hown
                 have HOW9 := Lib.hid hown
                 have hbg : Below wL.heap.size (w3.setCell ⟨w1.heap.size, 2, none⟩ (.int .i64 xt)) w9 := ((below1 _ _).mono (by simp [World.setCell]; omega)).grown hgrow (by simp [World.setCell]; omega) (fun g hg => ((owns_block HOQ.out) g hg).1)
                 have HBG := Lib.hid hbg
                 have kb9 := (hbg.block (w.heap.size + 1) (by omega)).trans HBK2.out
                 have f9 := free_in kb9 1
                 have c9 := cell_in (j := 1) kb9 rfl
                 have HK9 := Lib.hid kb9
                 clear hown hgrow hbg kb9)
              | (go_at_call 30
                 refine (rrGet_any X _ u2 2 HR2.out (by omega) (by omega)).mono ?_
                 rintro e w3 ⟨xt, u3, rfl, _, _, hr, hg, hb⟩
                 have ke : w3.heap[w1.heap.size]? = some (.cells #[.bool xr, .int .i64 xc, .int .i64 0] 124 (0, 0)) := hb.at HE2.out (by omega)
                 have fe := free_in ke 2
                 have ce := cell_in (j := 2) ke rfl
                 have hle3 := lt_of_block ke
                 have HG3 := Lib.hid hg
                 have HR3 := Lib.hid (hr.set (B := w1.heap.size) (by omega) 2 (.int .i64 xt))
                 have HQ3 := Lib.hid ((HQ2.out.trans (ButL.of_but hb (by simp))).set (b := w1.heap.size) (by simp) 2 (.int .i64 xt))
                 have HE3 : Hid ((w3.setCell ⟨w1.heap.size, 2, none⟩ (.int .i64 xt)).heap[w1.heap.size]? = some (.cells #[.bool xr, .int .i64 xc, .int .i64 xt] 124 (0, 0))) := Lib.hid (set_at ke)
                 have HM := Lib.hid (HQ3.out.more (S' := [X]) (by simp; omega))
                 have HRK := Lib.hid (((HQ2.out.trans (ButL.of_but hb (by simp))).more (S' := [X]) (by simp; omega)).at HK1.out (by simp; omega))
                 have rq := cell_in (j := 1) HRK.out rfl
                 have HBK2 := Lib.hid (HM.out.at HK1.out (by simp; omega))
                 have z0 := cell_in (j := 0) ke rfl
                 have z1 := cell_in (j := 1) ke rfl
                 have HOQ := Lib.hid (HM.out.owns HO1.out (by simp; omega))
                 have hszq : w1.heap.size < w3.heap.size := hle3
                 have hbk : (w.heap.size + 1) < w3.heap.size := lt_of_block HRK.out
                 clear hr hg hb ke)
              | (go_at_call 30
                 refine (rrGet_any X _ u1 2 HR1.out (by omega) (by omega)).mono ?_
                 rintro e w2 ⟨xc, u2, rfl, _, _, hr, hg, hb⟩
                 have ke : w2.heap[w1.heap.size]? = some (.cells #[.bool xr, .int .i64 0, .int .i64 0] 124 (0, 0)) := hb.at HE1.out (by omega)
                 have fe := free_in ke 1
                 have ce := cell_in (j := 1) ke rfl
                 have hle2 := lt_of_block ke
                 have HG2 := Lib.hid hg
                 have HR2 := Lib.hid (hr.set (B := w1.heap.size) (by omega) 1 (.int .i64 xc))
                 have HQ2 := Lib.hid ((HQ1.out.trans (ButL.of_but hb (by simp))).set (b := w1.heap.size) (by simp) 1 (.int .i64 xc))
                 have HE2 : Hid ((w2.setCell ⟨w1.heap.size, 1, none⟩ (.int .i64 xc)).heap[w1.heap.size]? = some (.cells #[.bool xr, .int .i64 xc, .int .i64 0] 124 (0, 0))) := Lib.hid (set_at ke)
                 clear hr hg hb ke)
              | (go_at_call 32
                 refine (rrTruth_any X _ _ HR.out).mono ?_
                 rintro e w1 ⟨xr, u1, rfl, hr1, hg1, hb1⟩
                 have HO1 := Lib.hid ((ButL.of_but (S := [X]) hb1 (by simp)).owns HOW.out (by simp; omega))
                 have HK1 := Lib.hid (hb1.at HK.out (by omega))
                 have HB1 := Lib.hid (HBT.out.trans (ButL.of_but hb1 (by simp)))
                 have hle1 := hb1.size
                 have HG1 := Lib.hid hg1
                 have HR1 := Lib.hid (hr1.keep (below1 _ (.cells #[.bool xr, .int .i64 0, .int .i64 0] 124 (0, 0))))
                 have HQ1 : Hid (ButL [X, w1.heap.size] w1 (w1.alloc (.cells #[.bool xr, .int .i64 0, .int .i64 0] 124 (0, 0)))) := Lib.hid (ButL.of_below (below1 _ _))
                 have HE1 : Hid ((w1.alloc (.cells #[.bool xr, .int .i64 0, .int .i64 0] 124 (0, 0))).heap[w1.heap.size]? = some (.cells #[.bool xr, .int .i64 0, .int .i64 0] 124 (0, 0))) := Lib.hid (heap_new_at rfl)
                 have hX1 := hr1.lt
                 clear hr1 hg1 hb1))
            go_roundw
            case rel => exact ⟨k + 1, xs ++ [⟨xr, xc, xt⟩], ao, cap', u3, by omega, by go_num, Lib.hid (by rw [List.length_append, HXL.out]; rfl), Lib.hid (set_at (j := 1) HK9.out), Lib.hid ((ButL.set (S := [X, (w.heap.size + 1)]) (ButL.refl _ _) (b := (w.heap.size + 1)) (by simp) _ _).owns HOW9.out (by simp; omega)), Lib.hid ((HR3.out.keepB HBG.out (by omega)).set (by omega) _ _), Lib.hid (HG.out.snoc (show Got _ rdSv ⟨xr, xc, xt⟩ _ from (Got.two HG1.out (Got.two HG2.out HG3.out)).map _)), Lib.hid (((HB1.out.trans (HM.out.more (by simp; omega))).then HBG.out).set (by simp) _ _)⟩
            case measure => simp [intOf]; omega
        · have tk : decide ((k : Int) < (m : Int)) = false := by simp; omega
          have hkm : k = m := by omega
          clear en es
          go_wp2_with fail
          go_meet
          have hxl := HXL.out
          subst hxl
          exact ⟨xs, a, c, s2, by omega, HK, HOW, HR, Lib.hid (HGA.out.many (by rw [Int.toNat_natCast, ← hkm]; exact HG.out)), HBT⟩
    case rest =>
      obtain ⟨l2, a2, c2, sA2, hl2, HKc, HOc, HRc, HGl2, HBc⟩ := hcut
      have hlc := lt_of_block HKc.out
      have hszc := HBc.out.size
      have HBw : Hid (ButL [X, w.heap.size + 1] w wc) := Lib.hid (HBW.out.trans HBc.out)
      have HKr' := Lib.hid (HBc.out.at HKr.out (by simp; omega))
      have HOn2 := Lib.hid (owns_base HOc.out (base' := w.heap.size + 2) (by omega))
      rw [hsA] at HGl2
      have HOn1 := Lib.hid (HBc.out.owns HOk1.out (by simp; omega))
      go_upto_block 4 with (first
        | (go_at_call 30
           refine (rrGet_any X _ _ 1 HRc.out (by omega) (by omega)).mono ?_
           rintro e wL ⟨nA, sB, rfl, bA0, bA1, hr, hg, hb⟩
           obtain ⟨m, rfl⟩ := Int.eq_ofNat_of_zero_le bA0
           have HKs := Lib.hid (hb.at HKc.out (by omega))
           have HKr := Lib.hid (hb.at HKr'.out (by omega))
           have HRs := Lib.hid hr
           have HGA := Lib.hid hg
           have HBW := Lib.hid (HBw.out.trans (ButL.of_but hb (by simp)))
           have hbl : ButL [X] wc wL := ButL.of_but hb (by simp)
           have HOk1 := Lib.hid (hbl.owns HOn1.out (by simp; omega))
           have HOk2 := Lib.hid (hbl.owns HOn2.out (by simp; omega))
           have hLB : w.heap.size + 1 < wL.heap.size := lt_of_block HKs.out
           clear hr hg hb hbl))
      have hm : m ≤ 255 := by omega
      obtain ⟨sA, hsA⟩ : ∃ sA, sA = sA2 := ⟨_, rfl⟩
      rw [← hsA] at HGA
      clear bA0 bA1
      go_cut [9] from 80 to 98 (fun _ wx => ∃ (xs : List Int) (a : Option Addr) (c : Nat) (s' : Option (List Int)), xs.length ≤ 255 ∧ Hid (wx.heap[(w.heap.size + 1)]? = some (.cells #[.slice a1 l1.length c1, .slice a2 l2.length c2, .slice a xs.length c, .int .u8 0, .int .u8 0, .int .u8 0] 58 (0, 0))) ∧ Hid (wx.ownsRow wL.heap.size 3 1 (.slice a xs.length c) xs.length (xs.flatMap intCells)) ∧ Hid (RrS lo wx X s') ∧ Hid (Got sA (rdMany (rdN 1)) xs s') ∧ Hid (ButL [X, (w.heap.size + 1)] wL wx))
      case first =>
        go_wp2_with fail
        go_loopw [9] (fun i wr => ∃ (k : Nat) (xs : List Int) (a : Option Addr) (c : Nat) (s' : Option (List Int)), k ≤ m ∧ i = .int .i64 k ∧ Hid (xs.length = k) ∧ Hid (wr.heap[(w.heap.size + 1)]? = some (.cells #[.slice a1 l1.length c1, .slice a2 l2.length c2, .slice a k c, .int .u8 0, .int .u8 0, .int .u8 0] 58 (0, 0))) ∧ Hid (wr.ownsRow wL.heap.size 3 1 (.slice a k c) k (xs.flatMap intCells)) ∧ Hid (RrS lo wr X s') ∧ Hid (Got sB (rdList (rdN 1) k) xs s') ∧ Hid (ButL [X, (w.heap.size + 1)] wL wr)) (fun i _ => m - (intOf i).toNat)
        case atStart => exact ⟨0, [], none, 0, sB, by omega, rfl, Lib.hid rfl, HKs, Lib.hid ⟨rfl, .inl ⟨rfl, rfl⟩⟩, HRs, Lib.hid (Got.nil _ _), Lib.hid (ButL.refl _ _)⟩
        case round =>
          obtain ⟨k, xs, a, c, s2, hk, rfl, HXL, HK, HOW, HR, HG, HBT⟩ := hrel
          have hszL := HBT.out.size
          have hXr : X < wr.heap.size := HR.out.lt
          have hBr : (w.heap.size + 1) < wr.heap.size := lt_of_block HK.out
          obtain ⟨ev, ce0, cf0, en, es⟩ := HR.out.err
          by_cases hlt : k < m
          · have tk : decide ((k : Int) < (m : Int)) = true := by simpa using hlt
            cases s2 with
            | none =>
              have t0 : (ev == 0) = false := by simpa using en rfl
              clear en es
              go_wp2_with fail
              go_meet
              have hxl := HXL.out
              subst hxl
              exact ⟨xs, a, c, none, by omega, HK, HOW, HR, Lib.hid (HGA.out.many (by simpa using HG.out.stop hk)), HBT⟩
            | some l2 =>
              obtain rfl : ev = 0 := es l2 rfl
              clear en es
              have kB0 := cell_in (j := 2) HK.out rfl
              have fB0 := free_in HK.out 2
              go_wp2_with fail
              go_region_law (first
                | (refine step_append_lie (by rfl) _ _ 55 (by rfl) wL.heap.size 3 i3 _ 1 8 Try.underlying55 HI3.out hz30 hz31 hz32 rfl (by omega) (.slice a k c) k _ (by rfl) (owns_later HO1.out (below1 _ _)) (.slice (some ⟨w1.heap.size, 0, none⟩) 1 1) w1.heap.size (w1.heap.size + 1) 1 (intCells x) (by rfl) (one_lies (heap_new_at rfl) rfl) (in_one _) (k + 1) (by omega) (by simp [maxLen]; omega) (by omega) (by simp; omega) ?_
                   intro ao cap' w9 hown hgrow
                   rw [← flat_snoc] at hown
                   have HOW9 := Lib.hid hown
                   have hbg : Below wL.heap.size w1 w9 := ((below1 _ _).mono (by omega)).grown hgrow (by simp; omega) (fun g hg => ((owns_block HO1.out) g hg).1)
                   have HBG := Lib.hid hbg
                   have kb9 := (hbg.block (w.heap.size + 1) (by omega)).trans HK1.out
                   have f9 := free_in kb9 2
                   have c9 := cell_in (j := 2) kb9 rfl
                   have HK9 := Lib.hid kb9
                   clear hown hgrow hbg kb9)
                | (go_simp
                   go_at_call 30
                   refine (rrGet_any X _ _ 1 (HR.out.keep (Below.refl _ _).drew) (by omega) (by omega)).mono ?_
                   rintro e w1 ⟨x, u1, rfl, _, _, hr1, hg1, hb1⟩
                   have hb1' : But X wr w1 := ((But.refl X wr).drew).trans hb1
                   have HO1 := Lib.hid ((ButL.of_but (S := [X]) hb1' (by simp)).owns HOW.out (by simp; omega))
                   have HK1 := Lib.hid (hb1'.at HK.out (by omega))
                   have k1 := cell_in (j := 2) HK1.out rfl
                   have g1 := free_in HK1.out 2
                   have HB1 := Lib.hid (HBT.out.trans (ButL.of_but hb1' (by simp)))
                   have hle1 := hb1'.size
                   have hbk : w.heap.size + 1 < w1.heap.size := lt_of_block HK1.out
                   have HG1 := Lib.hid hg1
                   have HR1 := Lib.hid hr1
                   have hX1 := hr1.lt
                   clear hr1 hg1 hb1 hb1'))
              all_goals go_wp2_with fail
              all_goals go_roundw
              all_goals first
                | (case rel => exact ⟨k + 1, xs ++ [x], ao, cap', u1, by omega, by go_num, Lib.hid (by rw [List.length_append, HXL.out]; rfl), Lib.hid (set_at (j := 2) HK9.out), Lib.hid ((ButL.set (S := [X, w.heap.size + 1]) (ButL.refl _ _) (b := w.heap.size + 1) (by simp) _ _).owns HOW9.out (by simp; omega)), Lib.hid ((HR1.out.keepB HBG.out (by omega)).set (by omega) _ _), Lib.hid (HG.out.snoc HG1.out), Lib.hid ((HB1.out.then HBG.out).set (by simp) _ _)⟩)
                | (case measure => simp [intOf]; omega)
          · have tk : decide ((k : Int) < (m : Int)) = false := by simp; omega
            have hkm : k = m := by omega
            clear en es
            go_wp2_with fail
            go_meet
            have hxl := HXL.out
            subst hxl
            exact ⟨xs, a, c, s2, by omega, HK, HOW, HR, Lib.hid (HGA.out.many (by rw [Int.toNat_natCast, ← hkm]; exact HG.out)), HBT⟩
      case rest =>
        obtain ⟨l3, a3, c3, sA3, hl3, HKc, HOc, HRc, HGl3, HBc⟩ := hcut
        have hlc := lt_of_block HKc.out
        have hszc := HBc.out.size
        have HBw : Hid (ButL [X, w.heap.size + 1] w wc) := Lib.hid (HBW.out.trans HBc.out)
        have HKr' := Lib.hid (HBc.out.at HKr.out (by simp; omega))
        have HOn3 := Lib.hid (owns_base HOc.out (base' := w.heap.size + 2) (by omega))
        rw [hsA] at HGl3
        have HOn1 := Lib.hid (HBc.out.owns HOk1.out (by simp; omega))
        have HOn2 := Lib.hid (HBc.out.owns HOk2.out (by simp; omega))
        have hX3 : X < wc.heap.size := HRc.out.lt
        go_wp2_with fail
        go_loopw [10] (fun i wr => ∃ (k : Nat) (xs : List Int) (s' : Option (List Int)), k ≤ 3 ∧ i = .int .i64 k ∧ Hid (xs.length = k) ∧ Hid (∀ x ∈ xs, Act8 x) ∧ Hid (RrS lo wr X s') ∧ Hid (Gots sA3 1 xs s') ∧ Hid (wr.heap[w.heap.size + 1]? = some (.cells (setU #[.slice a1 l1.length c1, .slice a2 l2.length c2, .slice a3 l3.length c3, .int .u8 0, .int .u8 0, .int .u8 0] 3 xs) 58 (0, 0))) ∧ Hid (ButL [X, w.heap.size + 1] wc wr)) (fun i _ => 3 - (intOf i).toNat)
        case atStart => exact ⟨0, [], sA3, by omega, rfl, Lib.hid rfl, Lib.hid (by simp), HRc, Lib.hid rfl, HKc, Lib.hid (ButL.refl _ _)⟩
        case round =>
          obtain ⟨k, xs, s4, hk, rfl, HXL, HXA, HR, HG, HK, HB⟩ := hrel
          have hwr := lt_of_block HK.out
          by_cases hlt2 : k < 3
          · have tk : decide ((k : Int) < 3) = true := by simp; omega
            have l0 : (0 : Int) ≤ (k : Int) := by omega
            have l1' : (k : Int) < 3 := by omega
            go_wp2_with (first
              | (go_at_call 30
                 refine (rrGet_any X _ s4 1 HR.out (by omega) (by omega)).mono ?_
                 rintro e w4 ⟨n, s5, rfl, b0, b1, hr4, hg4, hb4⟩
                 have kb4 := hb4.at HK.out (show w.heap.size + 1 ≠ X by omega)
                 have f4 : w4.frozen? ⟨w.heap.size + 1, 3 + k, none⟩ = false := free_in kb4 _
                 obtain ⟨u, hu⟩ : ∃ u, (setU #[.slice a1 l1.length c1, .slice a2 l2.length c2, .slice a3 l3.length c3, .int .u8 0, .int .u8 0, .int .u8 0] 3 xs)[3 + k]? = some u := ⟨_, Array.getElem?_eq_getElem (by rw [setU_size]; simp; omega)⟩
                 have q4 : w4.cell? ⟨w.heap.size + 1, 3 + k, none⟩ = some u := cell_in kb4 hu
                 have u8n : IntKind.u8.wrap n = n := IntWalk.u8_in _ (by omega)
                 have HN4 : Hid (Act8 n) := Lib.hid ⟨by omega, by omega⟩
                 have HK4 := Lib.hid kb4
                 have HR4 := Lib.hid hr4
                 have HG4 := Lib.hid hg4
                 have HB4 := Lib.hid (ButL.of_but (S := [X, w.heap.size + 1]) hb4 (by simp))
                 clear hr4 hg4 hb4 kb4 hu b0 b1))
            go_roundw
            case rel =>
              refine ⟨k + 1, xs ++ [n], s5, by omega, by go_num, Lib.hid (by rw [List.length_append, HXL.out]; rfl), Lib.hid ?_, Lib.hid (HR4.out.set (by omega) _ _), Lib.hid (Gots.snoc HG4.out HG.out), Lib.hid ?_, Lib.hid ((HB.out.trans HB4.out).set (by simp) _ _)⟩
              · intro x hx
                rcases List.mem_append.1 hx with hx | hx
                · exact HXA.out x hx
                · rw [List.mem_singleton] at hx; subst hx; exact HN4.out
              · rw [setU_snoc, HXL.out]
                exact set_at HK4.out
            case measure => simp [intOf]; omega
          · have tk : decide ((k : Int) < 3) = false := by simp; omega
            have hk3 : k = 3 := by omega
            subst hk3
            obtain ⟨x0, x1, x2, rfl⟩ := three_of HXL.out
            have hk' : wr.heap[w.heap.size + 1]? = some (.cells #[.slice a1 l1.length c1, .slice a2 l2.length c2, .slice a3 l3.length c3, .int .u8 x0, .int .u8 x1, .int .u8 x2] 58 (0, 0)) := HK.out
            have z0 := cell_in (j := 0) hk' rfl
            have z1 := cell_in (j := 1) hk' rfl
            have z2 := cell_in (j := 2) hk' rfl
            have z3 := cell_in (j := 3) hk' rfl
            have z4 := cell_in (j := 4) hk' rfl
            have z5 := cell_in (j := 5) hk' rfl
            have hkr := HB.out.at HKr'.out (show w.heap.size ∉ [X, w.heap.size + 1] by simp; omega)
            have y0 := free_in hkr 0
            have y1 := free_in hkr 1
            have y2 := free_in hkr 2
            have y3 := free_in hkr 3
            have y4 := free_in hkr 4
            have y5 := free_in hkr 5
            have d0 := cell_in (j := 0) hkr rfl
            have d1 := cell_in (j := 1) hkr rfl
            have d2 := cell_in (j := 2) hkr rfl
            have d3 := cell_in (j := 3) hkr rfl
            have d4 := cell_in (j := 4) hkr rfl
            have d5 := cell_in (j := 5) hkr rfl
            have HKE := Lib.hid hkr
            have HA := Lib.hid (And.intro (HXA.out x0 (by simp)) (And.intro (HXA.out x1 (by simp)) (HXA.out x2 (by simp))))
            clear hk' hkr
            go_wp2_with fail
            obtain ⟨g1, hg1, g2, hg2, g3, hg3, hs⟩ := HG.out
            subst hs
            have hX := set6 HKE.out rfl (.slice a1 l1.length c1) (.slice a2 l2.length c2) (.slice a3 l3.length c3) (.int .u8 x0) (.int .u8 x1) (.int .u8 x2)
            refine bodyPost_ret (results_cell_row (P := Try.prog) rfl _ _ w.heap.size _ _ (0, 0) _ rfl hX Try.underlying58 rfl Try.sizePart_parcloseref03) rfl ?_
            have hbe : ButL [X, w.heap.size] wr _ := (((((((ButL.refl _ wr).set (b := w.heap.size) (by simp) 0 (.slice a1 l1.length c1)).set (b := w.heap.size) (by simp) 1 (.slice a2 l2.length c2)).set (b := w.heap.size) (by simp) 2 (.slice a3 l3.length c3)).set (b := w.heap.size) (by simp) 3 (.int .u8 x0)).set (b := w.heap.size) (by simp) 4 (.int .u8 x1)).set (b := w.heap.size) (by simp) 5 (.int .u8 x2))
            have hall : ButL [X, w.heap.size + 1, w.heap.size] w _ := ((HBw.out.trans HB.out).more (S' := [X, w.heap.size + 1, w.heap.size]) (by simp; omega)).trans (hbe.more (by simp; omega))
            refine ⟨⟨.slice a1 l1.length c1, .slice a2 l2.length c2, .slice a3 l3.length c3, x0, x1, x2⟩, ⟨l1, l2, l3, x0, x1, x2⟩, _, rfl, ⟨owns_base (hbe.owns (HB.out.owns HOn1.out (by simp; omega)) (by simp; omega)) (by omega), owns_base (hbe.owns (HB.out.owns HOn2.out (by simp; omega)) (by simp; omega)) (by omega), owns_base (hbe.owns (HB.out.owns HOn3.out (by simp; omega)) (by simp; omega)) (by omega), rfl, rfl, rfl⟩, ⟨⟨hl1, hl2, hl3⟩, HA.out⟩,
              ((((((HR.out.set (B := w.heap.size) (by omega) 0 _).set (B := w.heap.size) (by omega) 1 _).set (B := w.heap.size) (by omega) 2 _).set (B := w.heap.size) (by omega) 3 _).set (B := w.heap.size) (by omega) 4 _).set (B := w.heap.size) (by omega) 5 _), (Got.two HGl1.out (Got.two HGl2.out (Got.two HGl3.out (Got.two hg1 (Got.two hg2 hg3))))).map _, ⟨hall.os, hall.tape, hall.output, hall.size, fun k hk hx => hall.block k hk (by simp; omega)⟩⟩
end Go.Proofs.Ytiombjkjoehjpaa
