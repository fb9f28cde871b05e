/- Joined of ConfE, ConfL: The walks of the layer of systems: a partition from one side's types to the other's. -/
import Derived.Test.YtchbehnkkcjdgaaGreatBase
import Derived.Deep.CutRange
import Derived.Deep.RegionLaw
namespace Go.Proofs.YtchbehnkkcjdgaaGreat
open Go.ChangeShapes Go.WideShapes Go.ChangeAt Go.RowKit
set_option linter.unusedVariables false
attribute [local go_sem ↓] Go.wp_at_zero Go.wp_at_succ
set_option maxRecDepth 100000 in
set_option maxHeartbeats 4000000 in
theorem part_wide (ta sa da : Option Addr) (tn tc sn sc dn dc : Nat) (x0 x1 x2 : Int) (w : World) (lo hi : Nat) (ts : List Tk) (ss : List Sv) (ds : List Int) (htn : ts.length = tn) (hsn : ss.length = sn) (hdn : ds.length = dn)
 (hts : Lies w lo hi (.slice ta tn tc) tn 6 (ts.flatMap Tk.cells)) (hss : Lies w lo hi (.slice sa sn sc) sn 3 (ss.flatMap Sv.cells)) (hds : Lies w lo hi (.slice da dn dc) dn 1 (ds.flatMap intCells)) (hhi : hi ≤ w.heap.size) (ht2 : tn * 48 ≤ 140737488355328) (hs2 : sn * 24 ≤ 140737488355328) (hd2 : dn * 8 ≤ 140737488355328) :
 Calls Tryz.prog 11 #[.agg #[.slice ta tn tc, .slice sa sn sc, .slice da dn dc, .int .u8 x0, .int .u8 x1, .int .u8 x2]] w fun e w' => ∃ ta' tc' sa' sc' da' dc', e = .returned (.agg #[.slice ta' tn tc', .slice sa' sn sc', .slice da' dn dc', .int .u8 x0, .int .u8 x1, .int .u8 x2]) ∧
  w'.ownsRow (w.heap.size + 2) 111 6 (.slice ta' tn tc') tn (ts.flatMap Tk.cells) ∧ w'.ownsRow (w.heap.size + 2) 114 3 (.slice sa' sn sc') sn (ss.flatMap Sv.cells) ∧ w'.ownsRow (w.heap.size + 2) 3 1 (.slice da' dn dc') dn (ds.flatMap intCells) ∧ Below w.heap.size w w' := by
 obtain ⟨i0, hi0, hz0, hz1, hz2⟩ := info_parts Tryz.infoInt
 obtain ⟨i1, hi1, hz3, hz4, hz5⟩ := info_parts Tryz.infoTk_conf
 obtain ⟨i2, hi2, hz6, hz7, hz8⟩ := info_parts Tryz.infoSv_conf
 have HI := Lib.hid hi0; have HI1 := Lib.hid hi1; have HI2 := Lib.hid hi2
 have HT := Lib.hid hts; have HS := Lib.hid hss; have HD := Lib.hid hds
 have HTN := Lib.hid htn; have HSN := Lib.hid hsn
 clear hts hss hds hi0 hi1 hi2 htn hsn
 go_enter Tryz.func11, Tryz.ntmps11
 go_wp2_with fail
 go_cut [3] from 6 to 12 (fun o wr => ∃ G da' dc', o = .pointer (some ⟨G, 0, none⟩) ∧ Hid (PSt w 27 37 111 114 3 #[.slice ta tn tc, .slice sa sn sc, .slice da dn dc, .int .u8 x0, .int .u8 x1, .int .u8 x2] x0 x1 x2 dn (ds.flatMap intCells) G da' dc' none 0 0 [] none 0 0 [] wr))
 case first =>
  rcases Nat.eq_zero_or_pos dn with h0 | h0
  ·subst h0
   have hds0 : ds = [] := List.eq_nil_of_length_eq_zero hdn
   subst hds0
   go_region_held3 (fun w' => w'.cell? ⟨w.heap.size, 2, none⟩ = some (.slice da 0 dc) ∧ w'.cell? ⟨w.heap.size, 3, none⟩ = some (.int .u8 x0) ∧ w'.cell? ⟨w.heap.size, 4, none⟩ = some (.int .u8 x1) ∧ w'.cell? ⟨w.heap.size, 5, none⟩ = some (.int .u8 x2))
    (first | (go_keep; done) | (simp only [World.cell?, heap_at, heap_drew]; simp [Nat.add_assoc]))
    ((refine step_append_zero (by rfl) _ _ 24 (by rfl) 3 i0 1 Tryz.underlying24 HI.out hz1 _ (by rfl) (.slice da 0 dc) lo hi _ (by rfl) (HD.out.keep (SameIn.of_below (by repeat first | exact Below.refl _ _ | refine Below.drew ?_ | refine b_alloc ?_ (Nat.le_refl _) _) hhi)) ?_))
   all_goals (go_wp2_with fail; go_meet)
   all_goals case rel => first
    | (refine ⟨_, some ⟨w.heap.size + 1 + 1, 0, none⟩, 0, rfl, Lib.hid (PSt.make (fresh_none 1) ?_ ?_ ?_ ?_ ?_ ?_ ?_)⟩ <;> (first | omega | (simp only [heap_at, heap_drew, World.size_alloc]; simp [Nat.add_assoc, noPart]; done) | ((repeat first | exact Below.refl _ _ | refine Below.drew ?_ | refine b_alloc ?_ (Nat.le_refl _) _); done)))
    | (refine ⟨_, some ⟨w.heap.size + 1 + 1 + 1, 0, none⟩, 0, rfl, Lib.hid (PSt.make (fresh_none 1) ?_ ?_ ?_ ?_ ?_ ?_ ?_)⟩ <;> (first | omega | (simp only [heap_at, heap_drew, World.size_alloc]; simp [Nat.add_assoc, noPart]; done) | ((repeat first | exact Below.refl _ _ | refine Below.drew ?_ | refine b_alloc ?_ (Nat.le_refl _) _); done)))
  ·go_region_held3 (fun w' => w'.cell? ⟨w.heap.size, 2, none⟩ = some (.slice da dn dc) ∧ w'.cell? ⟨w.heap.size, 3, none⟩ = some (.int .u8 x0) ∧ w'.cell? ⟨w.heap.size, 4, none⟩ = some (.int .u8 x1) ∧ w'.cell? ⟨w.heap.size, 5, none⟩ = some (.int .u8 x2))
    (first | (go_keep; done) | (simp only [World.cell?, heap_at, heap_drew]; simp [Nat.add_assoc]))
    ((refine step_append_fresh (by rfl) _ _ 24 (by rfl) 3 i0 _ 1 8 Tryz.underlying24 HI.out hz0 hz1 hz2 rfl _ (by rfl) (.slice da dn dc) lo hi dn _ (by rfl) (HD.out.keep (SameIn.of_below (by repeat first | exact Below.refl _ _ | refine Below.drew ?_ | refine b_alloc ?_ (Nat.le_refl _) _) hhi)) h0 (by simp [maxLen]; omega) (by omega) ?_; intro cap arr hfr))
   all_goals (go_wp2_with fail; go_meet)
   all_goals case rel => first
    | (refine ⟨_, some ⟨w.heap.size + 1 + 1 + 1, 0, none⟩, cap, rfl, Lib.hid (PSt.make hfr.out ?_ ?_ ?_ ?_ ?_ ?_ ?_)⟩ <;> (first | omega | (simp only [heap_at, heap_drew, World.size_alloc]; simp [Nat.add_assoc, noPart]; done) | ((repeat first | exact Below.refl _ _ | refine Below.drew ?_ | refine b_alloc ?_ (Nat.le_refl _) _); done)))
    | (refine ⟨_, some ⟨w.heap.size + 1 + 1 + 1 + 1, 0, none⟩, cap, rfl, Lib.hid (PSt.make hfr.out ?_ ?_ ?_ ?_ ?_ ?_ ?_)⟩ <;> (first | omega | (simp only [heap_at, heap_drew, World.size_alloc]; simp [Nat.add_assoc, noPart]; done) | ((repeat first | exact Below.refl _ _ | refine Below.drew ?_ | refine b_alloc ?_ (Nat.le_refl _) _); done)))
 case rest =>
  obtain ⟨G, da', dc', rfl, HP⟩ := hcut
  clear hdn HD HI hz0 hz1 hz2
  go_wp2_with fail
  go_loopw [4] (fun i wr => ∃ (k : Nat) (ta' : Option Addr) (tc' : Nat), k ≤ tn ∧ i = .int .i64 k ∧ Hid (PSt w 27 37 111 114 3 #[.slice ta tn tc, .slice sa sn sc, .slice da dn dc, .int .u8 x0, .int .u8 x1, .int .u8 x2] x0 x1 x2 dn (ds.flatMap intCells) G da' dc' ta' tc' k ((ts.take k).flatMap Tk.cells) none 0 0 [] wr)) (fun i _ => tn - (intOf i).toNat)
  case atStart => exact ⟨0, none, 0, by omega, rfl, HP⟩
  case round =>
   obtain ⟨k, ta', tc', hk, rfl, HP1⟩ := hrel
   clear HP
   have B0 : wr.cell? ⟨w.heap.size, 0, none⟩ = some (.slice ta tn tc) := cell_in HP1.out.box rfl
   have g0 := HP1.out.cells.1
   have f0 : wr.frozen? ⟨G, 0, none⟩ = false := free_in HP1.out.obj 0
   by_cases hlt : k < tn
   ·have tk : decide ((k : Int) < (tn : Int)) = true := by simpa using hlt
    obtain ⟨x, hx⟩ : ∃ x, ts[k]? = some x := ⟨_, List.getElem?_eq_getElem (by rw [HTN.out]; exact hlt)⟩
    have hlies := HT.out.keep (SameIn.of_below HP1.out.below hhi)
    obtain ⟨a2, c2, e2, _, _, hc⟩ := hlies
    cases e2
    rcases hc with h0 | ⟨b, off, rfl, hb1, hb2, hc⟩
    ·omega
    obtain ⟨s0, s1, s2, s3, s4, s5⟩ := Lies.tk hc hx
    have HX := Lib.hid hx
    have hG := HP1.out.hG
    have ne1 : G ≠ w.heap.size := by omega
    have ne2 : G ≠ b := by omega
    have ne3 : w.heap.size ≠ G := by omega
    have ne4 : b ≠ G := by omega
    have hbw : b < w.heap.size := by omega
    have l0 : (0 : Int) ≤ (k : Int) := by omega
    have l1 : (k : Int) < (tn : Int) := by omega
    clear hc hx
    go_wp2_with fail
    have hca : ∀ o, (wr.alloc o).cell? ⟨G, 0, none⟩ = some (.slice ta' k tc') := fun o => by rw [World.cell?_alloc_lt _ _ _ (lt_of_block HP1.out.obj)]; exact g0
    go_region_law
     ((refine step_append_lie (by rfl) _ _ 34 (by rfl) (w.heap.size + 2) 111 i1 _ 6 48 Tryz.underlying34 HI1.out hz3 hz4 hz5 rfl (by omega) (.slice ta' k tc') k _ (by rfl) ((HP1.out.own1.alloc _).drew)
        (.slice (some ⟨wr.heap.size, 0, none⟩) 1 1) wr.heap.size (wr.heap.size + 1) 1 x.cells (by rfl) (one_lies (cs := x.cells.toArray) (heap_alloc_new wr _) rfl) (tk_one x) (k + 1) (by omega) (by simp [maxLen]; omega) (by omega) (by have := HP1.out.below.size; have := HP1.out.hG; have := lt_of_block HP1.out.obj; simp [World.drew]; omega) ?_
       intro ao cap w1 hown1 hgrow
       obtain ⟨⟨g1, f1⟩, q1, q2⟩ := PSt.after1 HP1.out (by decide) (by decide) hgrow
       clear q1 q2))
    all_goals go_wp2_with fail
    all_goals go_roundw
    all_goals first
     | (case rel =>
         have st := PSt.step1 HP1.out (by decide) (by decide) (by decide) (by decide) (by decide) (by decide) hown1 hgrow
         rw [← take_flat Tk.cells ts k x HX.out] at st
         exact ⟨k + 1, ao, cap, by omega, by go_num, Lib.hid st⟩)
     | (case measure => simp [intOf]; omega)
   ·have hkk : k = tn := by omega
    subst hkk
    have HP : Hid (PSt w 27 37 111 114 3 #[.slice ta k tc, .slice sa sn sc, .slice da dn dc, .int .u8 x0, .int .u8 x1, .int .u8 x2] x0 x1 x2 dn (ds.flatMap intCells) G da' dc' ta' tc' k (ts.flatMap Tk.cells) none 0 0 [] wr) := by
     have h := HP1.out
     rw [← HTN.out, List.take_length, HTN.out] at h
     exact Lib.hid h
    clear HP1 g0 f0 hlt HT
    go_wp2_with fail
    go_loopw [5] (fun i wr => ∃ (j : Nat) (sa' : Option Addr) (sc' : Nat), j ≤ sn ∧ i = .int .i64 j ∧ Hid (PSt w 27 37 111 114 3 #[.slice ta k tc, .slice sa sn sc, .slice da dn dc, .int .u8 x0, .int .u8 x1, .int .u8 x2] x0 x1 x2 dn (ds.flatMap intCells) G da' dc' ta' tc' k (ts.flatMap Tk.cells) sa' sc' j ((ss.take j).flatMap Sv.cells) wr)) (fun i _ => sn - (intOf i).toNat)
    case atStart => exact ⟨0, none, 0, by omega, rfl, HP⟩
    case round =>
     clear HP
     obtain ⟨j, sa', sc', hj, rfl, HP1⟩ := hrel
     have B0 : wr.cell? ⟨w.heap.size, 1, none⟩ = some (.slice sa sn sc) := cell_in HP1.out.box rfl
     have g0 := HP1.out.cells.2.1
     have f0 : wr.frozen? ⟨G, 1, none⟩ = false := free_in HP1.out.obj 1
     by_cases hlt : j < sn
     ·have tk : decide ((j : Int) < (sn : Int)) = true := by simpa using hlt
      obtain ⟨x, hx⟩ : ∃ x, ss[j]? = some x := ⟨_, List.getElem?_eq_getElem (by rw [HSN.out]; exact hlt)⟩
      have hlies := HS.out.keep (SameIn.of_below HP1.out.below hhi)
      obtain ⟨a2, c2, e2, _, _, hc⟩ := hlies
      cases e2
      rcases hc with h0 | ⟨b, off, rfl, hb1, hb2, hc⟩
      ·omega
      obtain ⟨s0, s1, s2⟩ := Lies.sv hc hx
      have HX := Lib.hid hx
      have hG := HP1.out.hG
      have ne1 : G ≠ w.heap.size := by omega
      have ne2 : G ≠ b := by omega
      have ne3 : w.heap.size ≠ G := by omega
      have ne4 : b ≠ G := by omega
      have hbw : b < w.heap.size := by omega
      have l0 : (0 : Int) ≤ (j : Int) := by omega
      have l1 : (j : Int) < (sn : Int) := by omega
      clear hc hx
      go_wp2_with fail
      have hca : ∀ o, (wr.alloc o).cell? ⟨G, 1, none⟩ = some (.slice sa' j sc') := fun o => by rw [World.cell?_alloc_lt _ _ _ (lt_of_block HP1.out.obj)]; exact g0
      go_region_law
       ((refine step_append_lie (by rfl) _ _ 35 (by rfl) (w.heap.size + 2) 114 i2 _ 3 24 Tryz.underlying35 HI2.out hz6 hz7 hz8 rfl (by omega) (.slice sa' j sc') j _ (by rfl) ((HP1.out.own2.alloc _).drew)
          (.slice (some ⟨wr.heap.size, 0, none⟩) 1 1) wr.heap.size (wr.heap.size + 1) 1 x.cells (by rfl) (one_lies (cs := x.cells.toArray) (heap_alloc_new wr _) rfl) (sv_one x) (j + 1) (by omega) (by simp [maxLen]; omega) (by omega) (by have := HP1.out.below.size; have := HP1.out.hG; have := lt_of_block HP1.out.obj; simp [World.drew]; omega) ?_
         intro ao cap w1 hown1 hgrow
         obtain ⟨⟨g1, f1⟩, q1, q2⟩ := PSt.after2 HP1.out (by decide) (by decide) hgrow
         clear q1 q2))
      all_goals go_wp2_with fail
      all_goals go_roundw
      all_goals first
       | (case rel =>
           have st := PSt.step2 HP1.out (by decide) (by decide) (by decide) (by decide) (by decide) (by decide) hown1 hgrow
           rw [← take_flat Sv.cells ss j x HX.out] at st
           exact ⟨j + 1, ao, cap, by omega, by go_num, Lib.hid st⟩)
       | (case measure => simp [intOf]; omega)
     ·have hkk : j = sn := by omega
      subst hkk
      have HP : Hid (PSt w 27 37 111 114 3 #[.slice ta k tc, .slice sa j sc, .slice da dn dc, .int .u8 x0, .int .u8 x1, .int .u8 x2] x0 x1 x2 dn (ds.flatMap intCells) G da' dc' ta' tc' k (ts.flatMap Tk.cells) sa' sc' j (ss.flatMap Sv.cells) wr) := by
       have h := HP1.out
       rw [← HSN.out, List.take_length, HSN.out] at h
       exact Lib.hid h
      clear HP1 g0 f0 hlt HS
      obtain ⟨d0, d1, d2, d3, d4, d5⟩ := HP.out.cells
      obtain ⟨r0, r1, r2, r3, r4, r5⟩ := HP.out.rest
      have q0 := free_in HP.out.res 0
      have q1 := free_in HP.out.res 1
      have q2 := free_in HP.out.res 2
      have q3 := free_in HP.out.res 3
      have q4 := free_in HP.out.res 4
      have q5 := free_in HP.out.res 5
      go_wp2_with fail
      have hX := set6 HP.out.res rfl (.slice ta' k tc') (.slice sa' j sc') (.slice da' dn dc') (.int .u8 x0) (.int .u8 x1) (.int .u8 x2)
      refine bodyPost_ret (results_cell_row (P := Tryz.prog) rfl _ _ (w.heap.size + 1) _ _ (0, 0) _ rfl hX Tryz.underlying37 rfl Tryz.sizePart_conf) rfl ?_
      exact ⟨ta', tc', sa', sc', da', dc', rfl, owns6 HP.out.res HP.out.own1 (by decide) _ _ _ _ _ _, owns6 HP.out.res HP.out.own2 (by decide) _ _ _ _ _ _, owns6 HP.out.res HP.out.own3 (by decide) _ _ _ _ _ _, below6 HP.out.below (by omega) _ _ _ _ _ _⟩
end Go.Proofs.YtchbehnkkcjdgaaGreat
namespace Go.Proofs.YtchbehnkkcjdgaaGreat
open Go.ChangeShapes Go.WideShapes Go.ChangeAt Go.RowKit
set_option linter.unusedVariables false
attribute [local go_sem ↓] Go.wp_at_zero Go.wp_at_succ
end Go.Proofs.YtchbehnkkcjdgaaGreat
