/- Joined of ConfE, ConfL: The walks of the layer of systems: a partition from one side's types to the other's. -/
import Derived.Test.YtmkohnpdpcefgaaBase
import Derived.Deep.CutRange
import Derived.Deep.RegionLaw
namespace Go.Proofs.Ytmkohnpdpcefgaa
open Go.ChangeShapes Go.WideShapes Go.ChangeAt Go.RowKit
set_option linter.unusedVariables false
attribute [local go_sem ↓] Go.wp_at_zero Go.wp_at_succ

set_option maxRecDepth 100000 in
set_option maxHeartbeats 4000000 in
theorem part_wide (ta sa da : Option Addr) (tn tc sn sc dn dc : Nat) (x0 x1 x2 : Int) (w : World) (lo hi : Nat) (ts : List Tk) (ss : List Sv) (ds : List Int) (htn : ts.length = tn) (hsn : ss.length = sn) (hdn : ds.length = dn)
    (hts : Lies w lo hi (.slice ta tn tc) tn 6 (ts.flatMap Tk.cells)) (hss : Lies w lo hi (.slice sa sn sc) sn 3 (ss.flatMap Sv.cells)) (hds : Lies w lo hi (.slice da dn dc) dn 1 (ds.flatMap intCells)) (hhi : hi ≤ w.heap.size) (ht2 : tn * 48 ≤ 140737488355328) (hs2 : sn * 24 ≤ 140737488355328) (hd2 : dn * 8 ≤ 140737488355328) :
    Calls Try.prog 20 #[.agg #[.slice ta tn tc, .slice sa sn sc, .slice da dn dc, .int .u8 x0, .int .u8 x1, .int .u8 x2]] w fun e w' => ∃ ta' tc' sa' sc' da' dc', e = .returned (.agg #[.slice ta' tn tc', .slice sa' sn sc', .slice da' dn dc', .int .u8 x0, .int .u8 x1, .int .u8 x2]) ∧
      w'.ownsRow (w.heap.size + 2) 96 6 (.slice ta' tn tc') tn (ts.flatMap Tk.cells) ∧ w'.ownsRow (w.heap.size + 2) 99 3 (.slice sa' sn sc') sn (ss.flatMap Sv.cells) ∧ w'.ownsRow (w.heap.size + 2) 3 1 (.slice da' dn dc') dn (ds.flatMap intCells) ∧ Below w.heap.size w w' := by
  obtain ⟨i0, hi0, hz0, hz1, hz2⟩ := info_parts Try.infoInt
  obtain ⟨i1, hi1, hz3, hz4, hz5⟩ := info_parts Try.infoTk_conf
  obtain ⟨i2, hi2, hz6, hz7, hz8⟩ := info_parts Try.infoSv_conf
  have HI := Lib.hid hi0; have HI1 := Lib.hid hi1; have HI2 := Lib.hid hi2
  have HT := Lib.hid hts; have HS := Lib.hid hss; have HD := Lib.hid hds
  have HTN := Lib.hid htn; have HSN := Lib.hid hsn
  clear hts hss hds hi0 hi1 hi2 htn hsn
  go_enter Try.func20, Try.ntmps20
  go_wp2_with fail
  go_cut [3] from 6 to 12 (fun o wr => ∃ G da' dc', o = .pointer (some ⟨G, 0, none⟩) ∧ Hid (PSt w 46 70 96 99 3 #[.slice ta tn tc, .slice sa sn sc, .slice da dn dc, .int .u8 x0, .int .u8 x1, .int .u8 x2] x0 x1 x2 dn (ds.flatMap intCells) G da' dc' none 0 0 [] none 0 0 [] wr))
  case first =>
    rcases Nat.eq_zero_or_pos dn with h0 | h0
    · subst h0
      have hds0 : ds = [] := List.eq_nil_of_length_eq_zero hdn
      subst hds0
      go_region_held3 (fun w' => w'.cell? ⟨w.heap.size, 2, none⟩ = some (.slice da 0 dc) ∧ w'.cell? ⟨w.heap.size, 3, none⟩ = some (.int .u8 x0) ∧ w'.cell? ⟨w.heap.size, 4, none⟩ = some (.int .u8 x1) ∧ w'.cell? ⟨w.heap.size, 5, none⟩ = some (.int .u8 x2))
        (first | (go_keep; done) | (simp only [World.cell?, heap_at, heap_drew]; simp [Nat.add_assoc]))
        ((refine step_append_zero (by rfl) _ _ 40 (by rfl) 3 i0 1 Try.underlying40 HI.out hz1 _ (by rfl) (.slice da 0 dc) lo hi _ (by rfl) (HD.out.keep (SameIn.of_below (by repeat first | exact Below.refl _ _ | refine Below.drew ?_ | refine b_alloc ?_ (Nat.le_refl _) _) hhi)) ?_))
      all_goals (go_wp2_with fail; go_meet)
      all_goals case rel => first
        | (refine ⟨_, some ⟨w.heap.size + 1 + 1, 0, none⟩, 0, rfl, Lib.hid (PSt.make (fresh_none 1) ?_ ?_ ?_ ?_ ?_ ?_ ?_)⟩ <;> (first | omega | (simp only [heap_at, heap_drew, World.size_alloc]; simp [Nat.add_assoc, noPart]; done) | ((repeat first | exact Below.refl _ _ | refine Below.drew ?_ | refine b_alloc ?_ (Nat.le_refl _) _); done)))
        | (refine ⟨_, some ⟨w.heap.size + 1 + 1 + 1, 0, none⟩, 0, rfl, Lib.hid (PSt.make (fresh_none 1) ?_ ?_ ?_ ?_ ?_ ?_ ?_)⟩ <;> (first | omega | (simp only [heap_at, heap_drew, World.size_alloc]; simp [Nat.add_assoc, noPart]; done) | ((repeat first | exact Below.refl _ _ | refine Below.drew ?_ | refine b_alloc ?_ (Nat.le_refl _) _); done)))
    · go_region_held3 (fun w' => w'.cell? ⟨w.heap.size, 2, none⟩ = some (.slice da dn dc) ∧ w'.cell? ⟨w.heap.size, 3, none⟩ = some (.int .u8 x0) ∧ w'.cell? ⟨w.heap.size, 4, none⟩ = some (.int .u8 x1) ∧ w'.cell? ⟨w.heap.size, 5, none⟩ = some (.int .u8 x2))
        (first | (go_keep; done) | (simp only [World.cell?, heap_at, heap_drew]; simp [Nat.add_assoc]))
        ((refine step_append_fresh (by rfl) _ _ 40 (by rfl) 3 i0 _ 1 8 Try.underlying40 HI.out hz0 hz1 hz2 rfl _ (by rfl) (.slice da dn dc) lo hi dn _ (by rfl) (HD.out.keep (SameIn.of_below (by repeat first | exact Below.refl _ _ | refine Below.drew ?_ | refine b_alloc ?_ (Nat.le_refl _) _) hhi)) h0 (by simp [maxLen]; omega) (by omega) ?_; intro cap arr hfr))
      all_goals (go_wp2_with fail; go_meet)
      all_goals case rel => first
        | (refine ⟨_, some ⟨w.heap.size + 1 + 1 + 1, 0, none⟩, cap, rfl, Lib.hid (PSt.make hfr.out ?_ ?_ ?_ ?_ ?_ ?_ ?_)⟩ <;> (first | omega | (simp only [heap_at, heap_drew, World.size_alloc]; simp [Nat.add_assoc, noPart]; done) | ((repeat first | exact Below.refl _ _ | refine Below.drew ?_ | refine b_alloc ?_ (Nat.le_refl _) _); done)))
        | (refine ⟨_, some ⟨w.heap.size + 1 + 1 + 1 + 1, 0, none⟩, cap, rfl, Lib.hid (PSt.make hfr.out ?_ ?_ ?_ ?_ ?_ ?_ ?_)⟩ <;> (first | omega | (simp only [heap_at, heap_drew, World.size_alloc]; simp [Nat.add_assoc, noPart]; done) | ((repeat first | exact Below.refl _ _ | refine Below.drew ?_ | refine b_alloc ?_ (Nat.le_refl _) _); done)))
  case rest =>
    obtain ⟨G, da', dc', rfl, HP⟩ := hcut
    clear hdn HD HI hz0 hz1 hz2
    go_wp2_with fail
    go_loopw [4] (fun i wr => ∃ (k : Nat) (ta' : Option Addr) (tc' : Nat), k ≤ tn ∧ i = .int .i64 k ∧ Hid (PSt w 46 70 96 99 3 #[.slice ta tn tc, .slice sa sn sc, .slice da dn dc, .int .u8 x0, .int .u8 x1, .int .u8 x2] x0 x1 x2 dn (ds.flatMap intCells) G da' dc' ta' tc' k ((ts.take k).flatMap Tk.cells) none 0 0 [] wr)) (fun i _ => tn - (intOf i).toNat)
    case atStart => exact ⟨0, none, 0, by omega, rfl, HP⟩
    case round =>
      obtain ⟨k, ta', tc', hk, rfl, HP1⟩ := hrel
      clear HP
      have B0 : wr.cell? ⟨w.heap.size, 0, none⟩ = some (.slice ta tn tc) := cell_in HP1.out.box rfl
      have g0 := HP1.out.cells.1
      have f0 : wr.frozen? ⟨G, 0, none⟩ = false := free_in HP1.out.obj 0
      by_cases hlt : k < tn
      · have tk : decide ((k : Int) < (tn : Int)) = true := by simpa using hlt
        obtain ⟨x, hx⟩ : ∃ x, ts[k]? = some x := ⟨_, List.getElem?_eq_getElem (by rw [HTN.out]; exact hlt)⟩
        have hlies := HT.out.keep (SameIn.of_below HP1.out.below hhi)
        obtain ⟨a2, c2, e2, _, _, hc⟩ := hlies
        cases e2
        rcases hc with h0 | ⟨b, off, rfl, hb1, hb2, hc⟩
        · omega
        obtain ⟨s0, s1, s2, s3, s4, s5⟩ := Lies.tk hc hx
        have HX := Lib.hid hx
        have hG := HP1.out.hG
        have ne1 : G ≠ w.heap.size := by omega
        have ne2 : G ≠ b := by omega
        have ne3 : w.heap.size ≠ G := by omega
        have ne4 : b ≠ G := by omega
        have hbw : b < w.heap.size := by omega
        have l0 : (0 : Int) ≤ (k : Int) := by omega
        have l1 : (k : Int) < (tn : Int) := by omega
        clear hc hx
        go_wp2_with fail
        have hca : ∀ o, (wr.alloc o).cell? ⟨G, 0, none⟩ = some (.slice ta' k tc') := fun o => by rw [World.cell?_alloc_lt _ _ _ (lt_of_block HP1.out.obj)]; exact g0
        go_region_law
          ((refine step_append_lie (by rfl) _ _ 67 (by rfl) (w.heap.size + 2) 96 i1 _ 6 48 Try.underlying67 HI1.out hz3 hz4 hz5 rfl (by omega) (.slice ta' k tc') k _ (by rfl) ((HP1.out.own1.alloc _).drew)
              (.slice (some ⟨wr.heap.size, 0, none⟩) 1 1) wr.heap.size (wr.heap.size + 1) 1 x.cells (by rfl) (one_lies (cs := x.cells.toArray) (heap_alloc_new wr _) rfl) (tk_one x) (k + 1) (by omega) (by simp [maxLen]; omega) (by omega) (by have := HP1.out.below.size; have := HP1.out.hG; have := lt_of_block HP1.out.obj; simp [World.drew]; omega) ?_
            intro ao cap w1 hown1 hgrow
            obtain ⟨⟨g1, f1⟩, q1, q2⟩ := PSt.after1 HP1.out (by decide) (by decide) hgrow
            clear q1 q2))
        all_goals go_wp2_with fail
        all_goals go_roundw
        all_goals first
          | (case rel =>
              have st := PSt.step1 HP1.out (by decide) (by decide) (by decide) (by decide) (by decide) (by decide) hown1 hgrow
              rw [← take_flat Tk.cells ts k x HX.out] at st
              exact ⟨k + 1, ao, cap, by omega, by go_num, Lib.hid st⟩)
          | (case measure => simp [intOf]; omega)
      · have hkk : k = tn := by omega
        subst hkk
        have HP : Hid (PSt w 46 70 96 99 3 #[.slice ta k tc, .slice sa sn sc, .slice da dn dc, .int .u8 x0, .int .u8 x1, .int .u8 x2] x0 x1 x2 dn (ds.flatMap intCells) G da' dc' ta' tc' k (ts.flatMap Tk.cells) none 0 0 [] wr) := by
          have h := HP1.out
          rw [← HTN.out, List.take_length, HTN.out] at h
          exact Lib.hid h
        clear HP1 g0 f0 hlt HT
        go_wp2_with fail
        go_loopw [5] (fun i wr => ∃ (j : Nat) (sa' : Option Addr) (sc' : Nat), j ≤ sn ∧ i = .int .i64 j ∧ Hid (PSt w 46 70 96 99 3 #[.slice ta k tc, .slice sa sn sc, .slice da dn dc, .int .u8 x0, .int .u8 x1, .int .u8 x2] x0 x1 x2 dn (ds.flatMap intCells) G da' dc' ta' tc' k (ts.flatMap Tk.cells) sa' sc' j ((ss.take j).flatMap Sv.cells) wr)) (fun i _ => sn - (intOf i).toNat)
        case atStart => exact ⟨0, none, 0, by omega, rfl, HP⟩
        case round =>
          clear HP
          obtain ⟨j, sa', sc', hj, rfl, HP1⟩ := hrel
          have B0 : wr.cell? ⟨w.heap.size, 1, none⟩ = some (.slice sa sn sc) := cell_in HP1.out.box rfl
          have g0 := HP1.out.cells.2.1
          have f0 : wr.frozen? ⟨G, 1, none⟩ = false := free_in HP1.out.obj 1
          by_cases hlt : j < sn
          · have tk : decide ((j : Int) < (sn : Int)) = true := by simpa using hlt
            obtain ⟨x, hx⟩ : ∃ x, ss[j]? = some x := ⟨_, List.getElem?_eq_getElem (by rw [HSN.out]; exact hlt)⟩
            have hlies := HS.out.keep (SameIn.of_below HP1.out.below hhi)
            obtain ⟨a2, c2, e2, _, _, hc⟩ := hlies
            cases e2
            rcases hc with h0 | ⟨b, off, rfl, hb1, hb2, hc⟩
            · omega
            obtain ⟨s0, s1, s2⟩ := Lies.sv hc hx
            have HX := Lib.hid hx
            have hG := HP1.out.hG
            have ne1 : G ≠ w.heap.size := by omega
            have ne2 : G ≠ b := by omega
            have ne3 : w.heap.size ≠ G := by omega
            have ne4 : b ≠ G := by omega
            have hbw : b < w.heap.size := by omega
            have l0 : (0 : Int) ≤ (j : Int) := by omega
            have l1 : (j : Int) < (sn : Int) := by omega
            clear hc hx
            go_wp2_with fail
            have hca : ∀ o, (wr.alloc o).cell? ⟨G, 1, none⟩ = some (.slice sa' j sc') := fun o => by rw [World.cell?_alloc_lt _ _ _ (lt_of_block HP1.out.obj)]; exact g0
            go_region_law
              ((refine step_append_lie (by rfl) _ _ 68 (by rfl) (w.heap.size + 2) 99 i2 _ 3 24 Try.underlying68 HI2.out hz6 hz7 hz8 rfl (by omega) (.slice sa' j sc') j _ (by rfl) ((HP1.out.own2.alloc _).drew)
                  (.slice (some ⟨wr.heap.size, 0, none⟩) 1 1) wr.heap.size (wr.heap.size + 1) 1 x.cells (by rfl) (one_lies (cs := x.cells.toArray) (heap_alloc_new wr _) rfl) (sv_one x) (j + 1) (by omega) (by simp [maxLen]; omega) (by omega) (by have := HP1.out.below.size; have := HP1.out.hG; have := lt_of_block HP1.out.obj; simp [World.drew]; omega) ?_
                intro ao cap w1 hown1 hgrow
                obtain ⟨⟨g1, f1⟩, q1, q2⟩ := PSt.after2 HP1.out (by decide) (by decide) hgrow
                clear q1 q2))
            all_goals go_wp2_with fail
            all_goals go_roundw
            all_goals first
              | (case rel =>
                  have st := PSt.step2 HP1.out (by decide) (by decide) (by decide) (by decide) (by decide) (by decide) hown1 hgrow
                  rw [← take_flat Sv.cells ss j x HX.out] at st
                  exact ⟨j + 1, ao, cap, by omega, by go_num, Lib.hid st⟩)
              | (case measure => simp [intOf]; omega)
          · have hkk : j = sn := by omega
            subst hkk
            have HP : Hid (PSt w 46 70 96 99 3 #[.slice ta k tc, .slice sa j sc, .slice da dn dc, .int .u8 x0, .int .u8 x1, .int .u8 x2] x0 x1 x2 dn (ds.flatMap intCells) G da' dc' ta' tc' k (ts.flatMap Tk.cells) sa' sc' j (ss.flatMap Sv.cells) wr) := by
              have h := HP1.out
              rw [← HSN.out, List.take_length, HSN.out] at h
              exact Lib.hid h
            clear HP1 g0 f0 hlt HS
            obtain ⟨d0, d1, d2, d3, d4, d5⟩ := HP.out.cells
            obtain ⟨r0, r1, r2, r3, r4, r5⟩ := HP.out.rest
            have q0 := free_in HP.out.res 0
            have q1 := free_in HP.out.res 1
            have q2 := free_in HP.out.res 2
            have q3 := free_in HP.out.res 3
            have q4 := free_in HP.out.res 4
            have q5 := free_in HP.out.res 5
            go_wp2_with fail
            have hX := set6 HP.out.res rfl (.slice ta' k tc') (.slice sa' j sc') (.slice da' dn dc') (.int .u8 x0) (.int .u8 x1) (.int .u8 x2)
            refine bodyPost_ret (results_cell_row (P := Try.prog) rfl _ _ (w.heap.size + 1) _ _ (0, 0) _ rfl hX Try.underlying70 rfl Try.sizePart_conf) rfl ?_
            exact ⟨ta', tc', sa', sc', da', dc', rfl, owns6 HP.out.res HP.out.own1 (by decide) _ _ _ _ _ _, owns6 HP.out.res HP.out.own2 (by decide) _ _ _ _ _ _, owns6 HP.out.res HP.out.own3 (by decide) _ _ _ _ _ _, below6 HP.out.below (by omega) _ _ _ _ _ _⟩
theorem part_any (ta sa da : Option Addr) (tn tc sn sc dn dc : Nat) (x0 x1 x2 : Int) (w : World) (lo hi : Nat) (ts : List Tk) (ss : List Sv) (ds : List Int) (htn : ts.length = tn) (hsn : ss.length = sn) (hdn : ds.length = dn)
    (hts : Lies w lo hi (.slice ta tn tc) tn 6 (ts.flatMap Tk.cells)) (hss : Lies w lo hi (.slice sa sn sc) sn 3 (ss.flatMap Sv.cells)) (hds : Lies w lo hi (.slice da dn dc) dn 1 (ds.flatMap intCells)) (hhi : hi ≤ w.heap.size) (ht2 : tn ≤ 1000) (hs2 : sn ≤ 1000) (hd2 : dn ≤ 1000) :
    Calls Try.prog 20 #[.agg #[.slice ta tn tc, .slice sa sn sc, .slice da dn dc, .int .u8 x0, .int .u8 x1, .int .u8 x2]] w fun e w' => ∃ ta' tc' sa' sc' da' dc', e = .returned (.agg #[.slice ta' tn tc', .slice sa' sn sc', .slice da' dn dc', .int .u8 x0, .int .u8 x1, .int .u8 x2]) ∧
      w'.ownsRow (w.heap.size + 2) 96 6 (.slice ta' tn tc') tn (ts.flatMap Tk.cells) ∧ w'.ownsRow (w.heap.size + 2) 99 3 (.slice sa' sn sc') sn (ss.flatMap Sv.cells) ∧ w'.ownsRow (w.heap.size + 2) 3 1 (.slice da' dn dc') dn (ds.flatMap intCells) ∧ Below w.heap.size w w' :=
  part_wide ta sa da tn tc sn sc dn dc x0 x1 x2 w lo hi ts ss ds htn hsn hdn hts hss hds hhi (by omega) (by omega) (by omega)
end Go.Proofs.Ytmkohnpdpcefgaa
namespace Go.Proofs.Ytmkohnpdpcefgaa
open Go.ChangeShapes Go.WideShapes Go.ChangeAt Go.RowKit
set_option linter.unusedVariables false
attribute [local go_sem ↓] Go.wp_at_zero Go.wp_at_succ

set_option maxRecDepth 100000 in
set_option maxHeartbeats 8000000 in
theorem config_wide (fr mg : Int) (wa pa ca : Option Addr) (wn wc pn pc cn cc : Nat) (w : World) (lo hi : Nat) (c : Cf) (pvs : List Pv) (hwn : c.ws.length = wn) (hpn : c.ps.length = pn) (hcn : c.cs.length = cn)
    (hws : Lies w lo hi (.slice wa wn wc) wn 3 (c.ws.flatMap Wn.cells)) (hps : Lies w lo hi (.slice pa pn pc) pn 6 (pvs.flatMap Pv.cells)) (hal : AllLie w lo hi pvs c.ps) (hcs : Lies w lo hi (.slice ca cn cc) cn 4 (c.cs.flatMap Ch.cells)) (hhi : hi ≤ w.heap.size)
    (b1 : wn * 24 ≤ 140737488355328) (b2 : pn * 80 ≤ 140737488355328) (b3 : cn * 32 ≤ 140737488355328) (b4 : ∀ p ∈ c.ps, p.ts.length * 48 ≤ 140737488355328 ∧ p.ss.length * 24 ≤ 140737488355328 ∧ p.ds.length * 8 ≤ 140737488355328) :
    Calls Try.prog 9 #[.agg #[.int .i64 fr, .int .i64 mg, .slice wa wn wc, .slice pa pn pc, .slice ca cn cc]] w fun e w' => ∃ wa' wc' pa' pc' ca' cc' vs', e = .returned (.agg #[.int .i64 fr, .int .i64 mg, .slice wa' wn wc', .slice pa' pn pc', .slice ca' cn cc']) ∧
      w'.ownsRow (w.heap.size + 2) 66 3 (.slice wa' wn wc') wn (c.ws.flatMap Wn.cells) ∧ w'.ownsRow (w.heap.size + 2) 70 6 (.slice pa' pn pc') pn (vs'.flatMap Pv.cells) ∧ AllOwn w' (w.heap.size + 2) 96 99 3 vs' c.ps ∧
      w'.ownsRow (w.heap.size + 2) 77 4 (.slice ca' cn cc') cn (c.cs.flatMap Ch.cells) ∧ Below w.heap.size w w' := by
  obtain ⟨i1, hi1, hz3, hz4, hz5⟩ := info_parts Try.infoWn_conf
  obtain ⟨i2, hi2, hz6, hz7, hz8⟩ := info_parts Try.infoPt_conf
  obtain ⟨i3, hi3, hz9, hz10, hz11⟩ := info_parts Try.infoCh_conf
  have HI1 := Lib.hid hi1; have HI2 := Lib.hid hi2; have HI3 := Lib.hid hi3
  have hlen := hal.length
  have HWS := Lib.hid hws; have HPS := Lib.hid hps; have HAL := Lib.hid hal; have HCS := Lib.hid hcs; have HWN := Lib.hid hwn; have HPN := Lib.hid hpn; have HCN := Lib.hid hcn; have HL := Lib.hid hlen; have HB4 := Lib.hid b4
  clear hws hps hal hcs hi1 hi2 hi3 hwn hpn hcn hlen b4
  go_enter Try.func9, Try.ntmps9
  go_wp2_with fail
  go_loopw [4] (fun i wr => ∃ (k : Nat) (wa' : Option Addr) (wc' : Nat), k ≤ wn ∧ i = .int .i64 k ∧ Hid (CSt w 26 36 66 70 77 96 99 3 #[.int .i64 fr, .int .i64 mg, .slice wa wn wc, .slice pa pn pc, .slice ca cn cc] fr mg wa' wc' k ((c.ws.take k).flatMap Wn.cells) none 0 0 [] [] none 0 0 [] wr)) (fun i _ => wn - (intOf i).toNat)
  case atStart =>
    refine ⟨0, none, 0, by omega, rfl, Lib.hid ⟨?_, ?_, ?_, World.ownsRow_nil _ _ _ _, World.ownsRow_nil _ _ _ _, .nil, World.ownsRow_nil _ _ _ _, ?_⟩⟩
    · simp only [heap_at, World.size_alloc]; simp [Nat.add_assoc]
    · simp only [heap_at, World.size_alloc]; simp [Nat.add_assoc, noConf]
    · simp only [heap_at, World.size_alloc]; simp
    · repeat first | exact Below.refl _ _ | refine Below.drew ?_ | refine b_alloc ?_ (Nat.le_refl _) _
  case round =>
    obtain ⟨k, wa', wc', hk, rfl, HP1⟩ := hrel
    have B0 : wr.cell? ⟨w.heap.size, 2, none⟩ = some (.slice wa wn wc) := cell_in HP1.out.box rfl
    have g0 := HP1.out.cells.2.2.1
    by_cases hlt : k < wn
    · have tk : decide ((k : Int) < (wn : Int)) = true := by simpa using hlt
      obtain ⟨x, hx⟩ : ∃ x, c.ws[k]? = some x := ⟨_, List.getElem?_eq_getElem (by rw [HWN.out]; exact hlt)⟩
      have hlies := HWS.out.keep (SameIn.of_below HP1.out.below hhi)
      obtain ⟨a2, c2, e2, _, _, hc⟩ := hlies
      cases e2
      rcases hc with h0 | ⟨b, off, rfl, hb1, hb2, hc⟩
      · omega
      obtain ⟨s0, s1, s2⟩ := Lies.wn hc hx
      have HX := Lib.hid hx
      have hbw : b < w.heap.size := by omega
      have l0 : (0 : Int) ≤ (k : Int) := by omega
      have l1 : (k : Int) < (wn : Int) := by omega
      clear hc hx
      go_wp2_with fail
      have hca : ∀ o, (wr.alloc o).cell? ⟨w.heap.size + 2, 2, none⟩ = some (.slice wa' k wc') := fun o => by rw [World.cell?_alloc_lt _ _ _ (lt_of_block HP1.out.obj)]; exact g0
      go_region_law
        ((refine step_append_lie (by rfl) _ _ 32 (by rfl) (w.heap.size + 2) 66 i1 _ 3 24 Try.underlying32 HI1.out hz3 hz4 hz5 rfl (by omega) (.slice wa' k wc') k _ (by rfl) ((HP1.out.own1.alloc _).drew)
            (.slice (some ⟨wr.heap.size, 0, none⟩) 1 1) wr.heap.size (wr.heap.size + 1) 1 x.cells (by rfl) (one_lies (cs := x.cells.toArray) (heap_alloc_new wr _) rfl) (wn_one x) (k + 1) (by omega) (by simp [maxLen]; omega) (by omega) (by have := lt_of_block HP1.out.obj; simp [World.drew]; omega) ?_
          intro ao cap w1 hown1 hgrow
          obtain ⟨q1, q2, q3⟩ := ((HP1.out.alloc _).drew).after ((HP1.out.own1.alloc _).drew) (by decide) (by decide) hgrow
          have g1 := q1 2 _ rfl
          have f1 := q2 2
          clear q1 q2 q3))
      all_goals go_wp2_with fail
      all_goals go_roundw
      all_goals first
        | (case rel =>
            have st := ((HP1.out.alloc _).drew).stepW (by decide) (by decide) (by decide) (by decide) (by decide) (by decide) (by decide) hown1 hgrow
            rw [← take_flat Wn.cells c.ws k x HX.out] at st
            exact ⟨k + 1, ao, cap, by omega, by go_num, Lib.hid st⟩)
        | (case measure => simp [intOf]; omega)
    · have hkk : wn = k := by omega
      subst hkk
      have HP : Hid (CSt w 26 36 66 70 77 96 99 3 #[.int .i64 fr, .int .i64 mg, .slice wa wn wc, .slice pa pn pc, .slice ca cn cc] fr mg wa' wc' wn (c.ws.flatMap Wn.cells) none 0 0 ([] : List Pv) (c.ps.take 0) none 0 0 [] wr) := by
        have h := HP1.out
        rw [← HWN.out, List.take_length, HWN.out] at h
        exact Lib.hid h
      clear HP1 g0 hlt HWS
      go_wp2_with fail
      go_loopw [5] (fun i wr => ∃ (j : Nat) (pa' : Option Addr) (pc' : Nat) (vs : List Pv), j ≤ pn ∧ i = .int .i64 j ∧ Hid (CSt w 26 36 66 70 77 96 99 3 #[.int .i64 fr, .int .i64 mg, .slice wa wn wc, .slice pa pn pc, .slice ca cn cc] fr mg wa' wc' wn (c.ws.flatMap Wn.cells) pa' pc' j vs (c.ps.take j) none 0 0 [] wr)) (fun i _ => pn - (intOf i).toNat)
      case atStart => exact ⟨0, none, 0, [], by omega, rfl, HP⟩
      case round =>
        clear HP B0
        obtain ⟨j, pa', pc', vs, hj, rfl, HP1⟩ := hrel
        have B0 : wr.cell? ⟨w.heap.size, 3, none⟩ = some (.slice pa pn pc) := cell_in HP1.out.box rfl
        have g0 := HP1.out.cells.2.2.2.1
        by_cases hlt : j < pn
        · have tk : decide ((j : Int) < (pn : Int)) = true := by simpa using hlt
          obtain ⟨x, hx⟩ : ∃ x, c.ps[j]? = some x := ⟨_, List.getElem?_eq_getElem (by rw [HPN.out]; exact hlt)⟩
          obtain ⟨pv, hpv⟩ : ∃ x, pvs[j]? = some x := ⟨_, List.getElem?_eq_getElem (by rw [HL.out, HPN.out]; exact hlt)⟩
          have hpl : PtLies w lo hi pv x := HAL.out.at hpv hx
          obtain ⟨ta, sa, da, tc, sc, dc, e1, e2, e3⟩ := PtLies.slices hpl
          have hlies := HPS.out.keep (SameIn.of_below HP1.out.below hhi)
          obtain ⟨a2, c2, ee, _, _, hc⟩ := hlies
          cases ee
          rcases hc with h0 | ⟨b, off, rfl, hb1, hb2, hc⟩
          · omega
          obtain ⟨s0, s1, s2, s3, s4, s5⟩ := Lies.pv hc hpv
          have HX := Lib.hid hx
          have hbw : b < w.heap.size := by omega
          have l0 : (0 : Int) ≤ (j : Int) := by omega
          have l1 : (j : Int) < (pn : Int) := by omega
          obtain ⟨m1, m2, m3⟩ := HB4.out x (List.mem_of_getElem? hx)
          obtain ⟨y1, y2, y3⟩ := hpl.2.2.2
          rw [e1] at s0; rw [e2] at s1; rw [e3] at s2; rw [y1] at s3; rw [y2] at s4; rw [y3] at s5
          have cp : ∀ W : World, Below wr.heap.size wr W → Calls Try.prog 20 #[.agg #[.slice ta x.ts.length tc, .slice sa x.ss.length sc, .slice da x.ds.length dc, .int .u8 x.a0, .int .u8 x.a1, .int .u8 x.a2]] W fun e w' => ∃ ta' tc' sa' sc' da' dc', e = .returned (.agg #[.slice ta' x.ts.length tc', .slice sa' x.ss.length sc', .slice da' x.ds.length dc', .int .u8 x.a0, .int .u8 x.a1, .int .u8 x.a2]) ∧
              PtOwns w' (w.heap.size + 2) 96 99 3 ⟨.slice ta' x.ts.length tc', .slice sa' x.ss.length sc', .slice da' x.ds.length dc', x.a0, x.a1, x.a2⟩ x ∧ Below W.heap.size W w' := by
            intro W h
            have hw : Below w.heap.size w W := HP1.out.below.trans (h.mono HP1.out.below.size)
            have t1 := hpl.1.keep (SameIn.of_below hw hhi); have t2 := hpl.2.1.keep (SameIn.of_below hw hhi); have t3 := hpl.2.2.1.keep (SameIn.of_below hw hhi)
            rw [e1] at t1; rw [e2] at t2; rw [e3] at t3
            refine (part_wide ta sa da _ tc _ sc _ dc x.a0 x.a1 x.a2 W lo hi x.ts x.ss x.ds rfl rfl rfl t1 t2 t3 (Nat.le_trans hhi hw.size) m1 m2 m3).mono ?_
            rintro e w' ⟨ta', tc', sa', sc', da', dc', rfl, o1, o2, o3, hb'⟩
            have hsz := hw.size
            exact ⟨ta', tc', sa', sc', da', dc', rfl, ⟨owns_base o1 (by omega), owns_base o2 (by omega), owns_base o3 (by omega), rfl, rfl, rfl⟩, hb'⟩
          have CP := Lib.hid cp
          clear hc hx cp hpl e1 e2 e3 hpv y1 y2 y3
          go_wp2_with fail
          go_region_law (first
            | (refine step_append_lie (by rfl) _ _ 33 (by rfl) (w.heap.size + 2) 70 i2 _ 6 80 Try.underlying33 HI2.out hz6 hz7 hz8 rfl (by omega) (.slice pa' j pc') j _ (by rfl) (H1.out.own2.alloc _)
                (.slice (some ⟨w1.heap.size, 0, none⟩) 1 1) w1.heap.size (w1.heap.size + 1) 1 (Pv.cells ⟨.slice ta' x.ts.length tc', .slice sa' x.ss.length sc', .slice da' x.ds.length dc', x.a0, x.a1, x.a2⟩) (by rfl) (one_lies (cs := #[.slice ta' x.ts.length tc', .slice sa' x.ss.length sc', .slice da' x.ds.length dc', .int .u8 x.a0, .int .u8 x.a1, .int .u8 x.a2]) (heap_alloc_new w1 _) rfl) (pv_one _ _ _ _ _ _ _ _ _ _ _ _) (j + 1) (by omega) (by simp [maxLen]; omega) (by omega) (by have := lt_of_block H1.out.obj; simp; omega) ?_
               intro ao cap w2 hown1 hgrow
               obtain ⟨q1, q2, q3⟩ := (H1.out.alloc _).after (H1.out.own2.alloc _) (by decide) (by decide) hgrow
               have g2 := q1 3 _ rfl
               have f2 := q2 3
               clear q1 q2 q3)
            | (go_simp
               go_at_call 20
               refine (CP.out _ ((Below.refl _ _).drew)).mono ?_
               rintro e w1 ⟨ta', tc', sa', sc', da', dc', rfl, hpw, hb1⟩
               have H1 := Lib.hid ((HP1.out.drew).later hb1)
               have g1 := H1.out.cells.2.2.2.1
               have hca1 : ∀ o, (w1.alloc o).cell? ⟨w.heap.size + 2, 3, none⟩ = some (.slice pa' j pc') := (fun o => by rw [World.cell?_alloc_lt _ _ _ (lt_of_block H1.out.obj)]; exact g1)
               have HPW := Lib.hid hpw
               clear hpw))
          all_goals go_wp2_with fail
          all_goals go_roundw
          all_goals first
            | (case rel =>
                have st := (H1.out.alloc (.cells #[.slice ta' x.ts.length tc', .slice sa' x.ss.length sc', .slice da' x.ds.length dc', .int .u8 x.a0, .int .u8 x.a1, .int .u8 x.a2] 70)).stepP (by decide) (by decide) (by decide) (by decide) (by decide) (by decide) (by decide) (HPW.out.keep (KeepsBut.of_below (E := 999999) (T := 999999) (below1 _ _)) (by decide) (by decide) (by decide)) hown1 hgrow
                have ht : c.ps.take (j + 1) = c.ps.take j ++ [x] := by rw [List.take_add_one, HX.out]; rfl
                rw [← ht] at st
                exact ⟨j + 1, ao, cap, _, by omega, by go_num, Lib.hid st⟩)
            | (case measure => simp [intOf]; omega)
        · have hkk : pn = j := by omega
          subst hkk
          have HP : Hid (CSt w 26 36 66 70 77 96 99 3 #[.int .i64 fr, .int .i64 mg, .slice wa wn wc, .slice pa pn pc, .slice ca cn cc] fr mg wa' wc' wn (c.ws.flatMap Wn.cells) pa' pc' pn vs c.ps none 0 0 [] wr) := by
            have h := HP1.out
            rw [← HPN.out, List.take_length, HPN.out] at h
            exact Lib.hid h
          clear HP1 g0 hlt HPS HAL
          go_wp2_with fail
          go_loopw [6] (fun i wr => ∃ (m : Nat) (ca' : Option Addr) (cc' : Nat), m ≤ cn ∧ i = .int .i64 m ∧ Hid (CSt w 26 36 66 70 77 96 99 3 #[.int .i64 fr, .int .i64 mg, .slice wa wn wc, .slice pa pn pc, .slice ca cn cc] fr mg wa' wc' wn (c.ws.flatMap Wn.cells) pa' pc' pn vs c.ps ca' cc' m ((c.cs.take m).flatMap Ch.cells) wr)) (fun i _ => cn - (intOf i).toNat)
          case atStart => exact ⟨0, none, 0, by omega, rfl, HP⟩
          case round =>
            clear HP B0
            obtain ⟨m, ca', cc', hm, rfl, HP1⟩ := hrel
            have B0 : wr.cell? ⟨w.heap.size, 4, none⟩ = some (.slice ca cn cc) := cell_in HP1.out.box rfl
            have g0 := HP1.out.cells.2.2.2.2
            by_cases hlt : m < cn
            · have tk : decide ((m : Int) < (cn : Int)) = true := by simpa using hlt
              obtain ⟨x, hx⟩ : ∃ x, c.cs[m]? = some x := ⟨_, List.getElem?_eq_getElem (by rw [HCN.out]; exact hlt)⟩
              have hlies := HCS.out.keep (SameIn.of_below HP1.out.below hhi)
              obtain ⟨a2, c2, e2, _, _, hc⟩ := hlies
              cases e2
              rcases hc with h0 | ⟨b, off, rfl, hb1, hb2, hc⟩
              · omega
              obtain ⟨s0, s1, s2, s3⟩ := Lies.ch hc hx
              have HX := Lib.hid hx
              have hbw : b < w.heap.size := by omega
              have l0 : (0 : Int) ≤ (m : Int) := by omega
              have l1 : (m : Int) < (cn : Int) := by omega
              clear hc hx
              go_wp2_with fail
              have hca : ∀ o, (wr.alloc o).cell? ⟨w.heap.size + 2, 4, none⟩ = some (.slice ca' m cc') := fun o => by rw [World.cell?_alloc_lt _ _ _ (lt_of_block HP1.out.obj)]; exact g0
              go_region_law
                ((refine step_append_lie (by rfl) _ _ 34 (by rfl) (w.heap.size + 2) 77 i3 _ 4 32 Try.underlying34 HI3.out hz9 hz10 hz11 rfl (by omega) (.slice ca' m cc') m _ (by rfl) ((HP1.out.own3.alloc _).drew)
                    (.slice (some ⟨wr.heap.size, 0, none⟩) 1 1) wr.heap.size (wr.heap.size + 1) 1 x.cells (by rfl) (one_lies (cs := x.cells.toArray) (heap_alloc_new wr _) rfl) (ch_one x) (m + 1) (by omega) (by simp [maxLen]; omega) (by omega) (by have := lt_of_block HP1.out.obj; simp [World.drew]; omega) ?_
                  intro ao cap w1 hown1 hgrow
                  obtain ⟨q1, q2, q3⟩ := ((HP1.out.alloc _).drew).after ((HP1.out.own3.alloc _).drew) (by decide) (by decide) hgrow
                  have g1 := q1 4 _ rfl
                  have f1 := q2 4
                  clear q1 q2 q3))
              all_goals go_wp2_with fail
              all_goals go_roundw
              all_goals first
                | (case rel =>
                    have st := ((HP1.out.alloc _).drew).stepC (by decide) (by decide) (by decide) (by decide) (by decide) (by decide) (by decide) hown1 hgrow
                    rw [← take_flat Ch.cells c.cs m x HX.out] at st
                    exact ⟨m + 1, ao, cap, by omega, by go_num, Lib.hid st⟩)
                | (case measure => simp [intOf]; omega)
            · have hkk : cn = m := by omega
              subst hkk
              have HP : Hid (CSt w 26 36 66 70 77 96 99 3 #[.int .i64 fr, .int .i64 mg, .slice wa wn wc, .slice pa pn pc, .slice ca cn cc] fr mg wa' wc' wn (c.ws.flatMap Wn.cells) pa' pc' pn vs c.ps ca' cc' cn (c.cs.flatMap Ch.cells) wr) := by
                have h := HP1.out
                rw [← HCN.out, List.take_length, HCN.out] at h
                exact Lib.hid h
              clear HP1 g0 hlt HCS
              obtain ⟨d0, d1, d2, d3, d4⟩ := HP.out.cells
              obtain ⟨r0, r1, r2, r3, r4⟩ := HP.out.rest
              have q0 := free_in HP.out.res 0
              have q1 := free_in HP.out.res 1
              have q2 := free_in HP.out.res 2
              have q3 := free_in HP.out.res 3
              have q4 := free_in HP.out.res 4
              go_wp2_with fail
              have hX := set5 HP.out.res rfl (.int .i64 fr) (.int .i64 mg) (.slice wa' wn wc') (.slice pa' pn pc') (.slice ca' cn cc')
              have hK := keeps5 HP.out.res (.int .i64 fr) (.int .i64 mg) (.slice wa' wn wc') (.slice pa' pn pc') (.slice ca' cn cc')
              refine bodyPost_ret (results_cell_row (P := Try.prog) rfl _ _ (w.heap.size + 1) _ _ (0, 0) _ rfl hX Try.underlying36 rfl Try.sizeConf_conf) rfl ?_
              exact ⟨wa', wc', pa', pc', ca', cc', vs, rfl, hK.owns HP.out.own1 (by decide) (by decide), hK.owns HP.out.own2 (by decide) (by decide), HP.out.all.keep hK (by decide) (by decide) (by decide), hK.owns HP.out.own3 (by decide) (by decide), below5 HP.out.below (by omega) _ _ _ _ _⟩
theorem config_any (fr mg : Int) (wa pa ca : Option Addr) (wn wc pn pc cn cc : Nat) (w : World) (lo hi : Nat) (c : Cf) (pvs : List Pv) (hwn : c.ws.length = wn) (hpn : c.ps.length = pn) (hcn : c.cs.length = cn)
    (hws : Lies w lo hi (.slice wa wn wc) wn 3 (c.ws.flatMap Wn.cells)) (hps : Lies w lo hi (.slice pa pn pc) pn 6 (pvs.flatMap Pv.cells)) (hal : AllLie w lo hi pvs c.ps) (hcs : Lies w lo hi (.slice ca cn cc) cn 4 (c.cs.flatMap Ch.cells)) (hhi : hi ≤ w.heap.size)
    (b1 : wn ≤ 1000) (b2 : pn ≤ 1000) (b3 : cn ≤ 1000) (b4 : ∀ p ∈ c.ps, p.ts.length ≤ 1000 ∧ p.ss.length ≤ 1000 ∧ p.ds.length ≤ 1000) :
    Calls Try.prog 9 #[.agg #[.int .i64 fr, .int .i64 mg, .slice wa wn wc, .slice pa pn pc, .slice ca cn cc]] w fun e w' => ∃ wa' wc' pa' pc' ca' cc' vs', e = .returned (.agg #[.int .i64 fr, .int .i64 mg, .slice wa' wn wc', .slice pa' pn pc', .slice ca' cn cc']) ∧
      w'.ownsRow (w.heap.size + 2) 66 3 (.slice wa' wn wc') wn (c.ws.flatMap Wn.cells) ∧ w'.ownsRow (w.heap.size + 2) 70 6 (.slice pa' pn pc') pn (vs'.flatMap Pv.cells) ∧ AllOwn w' (w.heap.size + 2) 96 99 3 vs' c.ps ∧
      w'.ownsRow (w.heap.size + 2) 77 4 (.slice ca' cn cc') cn (c.cs.flatMap Ch.cells) ∧ Below w.heap.size w w' :=
  config_wide fr mg wa pa ca wn wc pn pc cn cc w lo hi c pvs hwn hpn hcn hws hps hal hcs hhi (by omega) (by omega) (by omega) (fun p hp => by have := b4 p hp; omega)
end Go.Proofs.Ytmkohnpdpcefgaa
