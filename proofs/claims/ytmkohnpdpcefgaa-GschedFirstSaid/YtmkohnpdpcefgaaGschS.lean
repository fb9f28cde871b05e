/- Who gets a tick: At, Donees, Next and New of the program. -/
import Derived.Test.YtmkohnpdpcefgaaGschR
import Derived.Test.YtmkohnpdpcefgaaFrameR
namespace Go.Proofs.Ytmkohnpdpcefgaa
open Go.ChangeShapes Go.WideShapes Go.ChangeAt Go.RowKit
set_option linter.unusedVariables false

theorem choV_gap {F : Nat} {c : Cf} {rs : List Bool} {t : Int} (h : owner F c.margin c.ws t = (-1, 0)) : choV F c rs t = (4, -1, -1) := by unfold choV; rw [h]; rfl
theorem choV_margin {F : Nat} {c : Cf} {rs : List Bool} {t o : Int} (h : owner F c.margin c.ws t = (o, 1)) : choV F c rs t = (3, o, -1) := by unfold choV; rw [h]; rfl
theorem choV_open {F : Nat} {c : Cf} {rs : List Bool} {t o : Int} (h : owner F c.margin c.ws t = (o, 2)) : choV F c rs t = openV (donV c.ps o) rs o := by unfold choV; rw [h]; rfl
theorem dons_at {ps : List Pt} {k : Nat} (h : k < ps.length) : (ps.map (·.ds))[k]? = some (donV ps (k : Int)) := by
  rw [List.getElem?_map, List.getElem?_eq_getElem h, donV_at (List.getElem?_eq_getElem h)]; rfl
theorem don_nat {c : Cf} (h : (checkV c).1 = 0) {k : Nat} (hk : k < c.ps.length) : (donV c.ps (k : Int)).length ≤ 1000 ∧ ∀ d ∈ donV c.ps (k : Int), 0 ≤ d := by
  have h1 := don_ok h (List.getElem?_eq_getElem hk)
  have h2 := far_ok h
  rw [donV_at (List.getElem?_eq_getElem hk)]
  exact ⟨by omega, fun d hd => (h1.2 d hd).1⟩
set_option maxRecDepth 100000 in
set_option maxHeartbeats 4000000 in
theorem gat_any {w : World} {B s F : Nat} {c : Cf} (h : ScAt w B s F c) (hok : (checkV c).1 = 0) (tick : Int) (t0 : -9223372036854775808 ≤ tick) (t1 : tick ≤ 9223372036854775807)
    (ra : Option Addr) (rn rc hi : Nat) (rs : List Bool) (hn : rs.length = rn) (hl : Lies w 0 hi (.slice ra rn rc) rn 1 (rs.flatMap boolCells)) (hh : hi ≤ w.heap.size) :
    Calls Try.prog 14 #[.pointer (some ⟨s, 0, none⟩), .int .i64 tick, .slice ra rn rc] w fun e w' => e = .returned (choA (choV F c rs tick)) ∧ Below w.heap.size w w' := by
  obtain ⟨g, t, la, lc, _, hs, hsy, htab⟩ := h
  obtain ⟨ao, cap, vs, _, hg, _, _⟩ := id hsy
  obtain ⟨V, hV⟩ : ∃ V, V = w.alloc (.cells #[.int .i64 0, .int .i64 0, .int .i64 0] 54) := ⟨_, rfl⟩
  obtain ⟨E, hE⟩ : ∃ E, E = w.heap.size := ⟨_, rfl⟩
  have hbV : Below w.heap.size w V := by rw [hV]; exact below1 _ _
  have hEV : V.heap[E]? = some (.cells #[.int .i64 0, .int .i64 0, .int .i64 0] 54 (0, 0)) := by rw [hV, hE]; exact heap_alloc_new _ _
  have KX : Hid (∀ W : World, Below V.heap.size V W → W.heap[E]? = some (.cells #[.int .i64 0, .int .i64 0, .int .i64 0] 54 (0, 0)) ∧ W.cell? ⟨s, 0, none⟩ = some (.pointer (some ⟨g, 0, none⟩)) ∧ W.cell? ⟨g, 0, none⟩ = some (.pointer (some ⟨t, 0, none⟩))) := Lib.hid (fun W hW => by
    have a2 := (hW.block E (lt_of_block hEV)).trans hEV
    have hw : Below w.heap.size w W := hbV.trans (hW.mono hbV.size)
    exact ⟨a2, (hw.cell (p := ⟨s, 0, none⟩) (lt_of_block hs)).trans (cell_in hs rfl), (hw.cell (p := ⟨g, 0, none⟩) (lt_of_block hg)).trans (cell_in hg rfl)⟩)
  have CO := Lib.hid (fun (W : World) (hb : Below w.heap.size w W) => tOwner_any (htab.keep hb (Nat.le_refl _)) hb.size tick t0 t1)
  have CP := Lib.hid (fun (k : Nat) (hk : k < c.ps.length) (W : World) (hb : Below w.heap.size w W) => gopen_any (hsy.later hb) k _ (dons_at hk) (don_nat hok hk).2 (don_nat hok hk).1 ra rn rc hi rs hn (hl.keep (SameIn.of_below hb hh)) (Nat.le_trans hh hb.size))
  have HV := Lib.hid hV
  have HE := Lib.hid hE
  have HBV := Lib.hid hbV
  obtain ⟨k0, k1, k2⟩ := KX.out V (Below.refl _ _)
  clear hV hE hEV hbV hs hsy htab hg hl hn k0
  rcases owner_ok hok F tick with ho | ⟨k, hk, ho | ho⟩
  · have HO := Lib.hid ho; clear ho
    go_enter Try.func14, Try.ntmps14
    go_upto_region 1 with fail
    rw [← HV.out, ← HE.out]
    go_wp2_with (first
      | (go_at_call 23; refine (gmade_any s g _ k1).mono ?_; rintro e w1 ⟨rfl, hb1⟩; obtain ⟨_, m1, m2⟩ := KX.out w1 hb1)
      | (go_at_call 28; refine (CO.out _ (HBV.out.trans (hb1.mono HBV.out.size))).mono ?_; rintro e w2 ⟨rfl, hb2⟩; rw [HO.out]; have hb2' : Below V.heap.size V w2 := hb1.trans (hb2.mono hb1.size); have j1 := (KX.out w2 hb2').1; have y0 := free_in j1 0; have y1 := free_in j1 1; have y2 := free_in j1 2; have z0 := cell_in j1 (j := 0) rfl; have z1 := cell_in j1 (j := 1) rfl; have z2 := cell_in j1 (j := 2) rfl; have K1 := Lib.hid j1; have HB2 := Lib.hid hb2'; clear j1 hb2'))
    have hX := set3g K1.out rfl (.int .i64 4) (.int .i64 (-1)) (.int .i64 (-1))
    refine bodyPost_ret (results_cell_row (P := Try.prog) rfl _ _ E _ _ (0, 0) _ rfl hX Try.underlying54 rfl Try.sizeCho) rfl ?_
    exact ⟨cho_ret (choV_gap HO.out), set3_below (HBV.out.trans (HB2.out.mono HBV.out.size)) (by rw [HE.out]; exact Nat.le_refl _) _ _ _⟩
  · have HO := Lib.hid ho; clear ho
    go_enter Try.func14, Try.ntmps14
    go_upto_region 1 with fail
    rw [← HV.out, ← HE.out]
    go_wp2_with (first
      | (go_at_call 23; refine (gmade_any s g _ k1).mono ?_; rintro e w1 ⟨rfl, hb1⟩; obtain ⟨_, m1, m2⟩ := KX.out w1 hb1)
      | (go_at_call 28; refine (CO.out _ (HBV.out.trans (hb1.mono HBV.out.size))).mono ?_; rintro e w2 ⟨rfl, hb2⟩; rw [HO.out]; have hb2' : Below V.heap.size V w2 := hb1.trans (hb2.mono hb1.size); have j1 := (KX.out w2 hb2').1; have y0 := free_in j1 0; have y1 := free_in j1 1; have y2 := free_in j1 2; have z0 := cell_in j1 (j := 0) rfl; have z1 := cell_in j1 (j := 1) rfl; have z2 := cell_in j1 (j := 2) rfl; have K1 := Lib.hid j1; have HB2 := Lib.hid hb2'; clear j1 hb2'))
    have hX := set3g K1.out rfl (.int .i64 3) (.int .i64 k) (.int .i64 (-1))
    refine bodyPost_ret (results_cell_row (P := Try.prog) rfl _ _ E _ _ (0, 0) _ rfl hX Try.underlying54 rfl Try.sizeCho) rfl ?_
    exact ⟨cho_ret (choV_margin HO.out), set3_below (HBV.out.trans (HB2.out.mono HBV.out.size)) (by rw [HE.out]; exact Nat.le_refl _) _ _ _⟩
  · have HO := Lib.hid ho; clear ho
    obtain ⟨⟨x0, x1, x2⟩, hxx⟩ : ∃ x, x = openV (donV c.ps (k : Int)) rs (k : Int) := ⟨_, rfl⟩
    have CP2 := Lib.hid (fun W hb => CP.out k hk W hb)
    rw [← hxx] at CP2
    have HXX := Lib.hid hxx; clear hxx CP
    go_enter Try.func14, Try.ntmps14
    go_upto_region 1 with fail
    rw [← HV.out, ← HE.out]
    go_wp2_with (first
      | (go_at_call 23; refine (gmade_any s g _ k1).mono ?_; rintro e w1 ⟨rfl, hb1⟩; obtain ⟨_, m1, m2⟩ := KX.out w1 hb1)
      | (go_at_call 28; refine (CO.out _ (HBV.out.trans (hb1.mono HBV.out.size))).mono ?_; rintro e w2 ⟨rfl, hb2⟩; rw [HO.out]; have HB2 := Lib.hid (hb1.trans (hb2.mono hb1.size)); obtain ⟨_, n1, n2⟩ := KX.out w2 HB2.out)
      | (go_at_call 29; refine (CP2.out _ (HBV.out.trans (HB2.out.mono HBV.out.size))).mono ?_; rintro e w3 ⟨rfl, hb3⟩; have hb3' : Below V.heap.size V w3 := HB2.out.trans (hb3.mono HB2.out.size); have j1 := (KX.out w3 hb3').1; have y0 := free_in j1 0; have y1 := free_in j1 1; have y2 := free_in j1 2; have z0 := cell_in j1 (j := 0) rfl; have z1 := cell_in j1 (j := 1) rfl; have z2 := cell_in j1 (j := 2) rfl; have K1 := Lib.hid j1; have HB3 := Lib.hid hb3'; clear j1 hb3'; unfold choA; dsimp only))
    have hX := set3g K1.out rfl (.int .i64 x0) (.int .i64 x1) (.int .i64 x2)
    refine bodyPost_ret (results_cell_row (P := Try.prog) rfl _ _ E _ _ (0, 0) _ rfl hX Try.underlying54 rfl Try.sizeCho) rfl ?_
    exact ⟨cho_ret ((choV_open HO.out).trans HXX.out.symm), set3_below (HBV.out.trans (HB3.out.mono HBV.out.size)) (by rw [HE.out]; exact Nat.le_refl _) _ _ _⟩
set_option maxRecDepth 100000 in
set_option maxHeartbeats 4000000 in
theorem gnext_any {w : World} {B s F : Nat} {c : Cf} (h : ScAt w B s F c) (p tick : Int) (t0 : -9223372036854775808 ≤ tick) (t1 : tick ≤ 9223372036854775807) :
    Calls Try.prog 12 #[.pointer (some ⟨s, 0, none⟩), .int .i64 p, .int .i64 tick] w fun e w' => e = .returned (.tuple #[.int .i64 (nextT F c.margin c.ws p tick).1, .bool (nextT F c.margin c.ws p tick).2]) ∧ Below w.heap.size w w' := by
  obtain ⟨g, t, la, lc, _, hs, hsy, htab⟩ := h
  obtain ⟨ao, cap, vs, _, hg, _, _⟩ := id hsy
  have KX : Hid (∀ W : World, Below w.heap.size w W → W.cell? ⟨s, 0, none⟩ = some (.pointer (some ⟨g, 0, none⟩)) ∧ W.cell? ⟨g, 0, none⟩ = some (.pointer (some ⟨t, 0, none⟩))) := Lib.hid (fun W hw => ⟨(hw.cell (p := ⟨s, 0, none⟩) (lt_of_block hs)).trans (cell_in hs rfl), (hw.cell (p := ⟨g, 0, none⟩) (lt_of_block hg)).trans (cell_in hg rfl)⟩)
  have CO := Lib.hid (fun (W : World) (hb : Below w.heap.size w W) => tNext_any (htab.keep hb (Nat.le_refl _)) hb.size p tick t0 t1)
  obtain ⟨k1, k2⟩ := KX.out w (Below.refl _ _)
  clear hs hsy htab hg
  go_enter Try.func12, Try.ntmps12
  go_wp2_with (first
    | (go_at_call 23; refine (gmade_any s g _ k1).mono ?_; rintro e w1 ⟨rfl, hb1⟩; obtain ⟨m1, m2⟩ := KX.out w1 hb1)
    | (go_at_call 26; refine (CO.out _ hb1).mono ?_; rintro e w2 ⟨rfl, hb2⟩))
  go_ret2
  exact ⟨rfl, hb1.trans (hb2.mono hb1.size)⟩
set_option maxRecDepth 100000 in
set_option maxHeartbeats 4000000 in
theorem gdonees_any {w : World} {B s F : Nat} {c : Cf} (h : ScAt w B s F c) (hok : (checkV c).1 = 0) (p : Int) :
    Calls Try.prog 11 #[.pointer (some ⟨s, 0, none⟩), .int .i64 p] w fun e w' => ∃ ao n cap, e = .returned (.slice ao n cap) ∧ (donV c.ps p).length = n ∧ Lies w' w.heap.size w'.heap.size (.slice ao n cap) n 1 ((donV c.ps p).flatMap intCells) ∧ Below w.heap.size w w' := by
  obtain ⟨g, t, la, lc, _, hs, hsy, htab⟩ := h
  obtain ⟨ao, cap, vs, _, hg, hrow, hdn⟩ := id hsy
  obtain ⟨ln, hln⟩ : ∃ ln, ln = c.ps.length := ⟨_, rfl⟩
  have hll : (c.ps.map (·.ds)).length = ln := by rw [hln, List.length_map]
  rw [hll] at hg hrow
  have KX : Hid (∀ W : World, Below w.heap.size w W → W.cell? ⟨s, 0, none⟩ = some (.pointer (some ⟨g, 0, none⟩)) ∧ W.cell? ⟨g, 1, none⟩ = some (.slice ao ln cap)) := Lib.hid (fun W hw => ⟨(hw.cell (p := ⟨s, 0, none⟩) (lt_of_block hs)).trans (cell_in hs rfl), (hw.cell (p := ⟨g, 1, none⟩) (lt_of_block hg)).trans (cell_in hg rfl)⟩)
  obtain ⟨k1, k2⟩ := KX.out w (Below.refl _ _)
  by_cases hp : 0 ≤ p ∧ p < (c.ps.length : Int)
  · obtain ⟨k, rfl⟩ := Int.eq_ofNat_of_zero_le hp.1
    have hk : k < c.ps.length := by omega
    have hx := dons_at hk
    obtain ⟨v, hv⟩ : ∃ v, vs[k]? = some v := ⟨_, List.getElem?_eq_getElem (by rw [hdn.1, hll, hln]; exact hk)⟩
    have hvl := hdn.at hv hx
    obtain ⟨da, dc, rfl, _⟩ := id hvl
    obtain ⟨a2, c2, ee, _, _, hc⟩ := id hrow
    cases ee
    rcases hc with h0 | ⟨b, off, rfl, hb1, hb2, hc⟩
    · omega
    obtain ⟨n, hnn⟩ : ∃ n, n = (donV c.ps (k : Int)).length := ⟨_, rfl⟩
    rw [← hnn] at hvl
    have ck := hc k _ hv
    rw [← hnn] at ck
    have KY : Hid (∀ W : World, Below w.heap.size w W → W.cell? ⟨b, off + k, none⟩ = some (.slice da n dc)) := Lib.hid (fun W hw => (hw.cell (p := ⟨b, off + k, none⟩) (by show b < _; omega)).trans ck)
    have CA := Lib.hid (fun (W : World) (hb : Below w.heap.size w W) => gapart_any da n dc W B w.heap.size _ hnn.symm (hvl.keep (SameIn.of_below hb (Nat.le_refl _))) (by have := (don_nat hok hk).1; omega))
    have CH := Lib.hid (fun (W : World) (hb : Below w.heap.size w W) => ghas_any g ln (some ⟨b, off, none⟩) cap (k : Int) W (KX.out W hb).2)
    have t2 : decide (0 ≤ (k : Int) ∧ (k : Int) < (ln : Int)) = true := decide_eq_true (by omega)
    rw [t2] at CH
    have l0 : (0 : Int) ≤ (k : Int) := by omega
    have l1 : (k : Int) < (ln : Int) := by omega
    have HNN := Lib.hid hnn
    clear hs hsy htab hg hrow hdn hx hv hvl hc ck hnn t2 hll hln
    go_enter Try.func11, Try.ntmps11
    go_wp2_with (first
      | (go_at_call 23; refine (gmade_any s g _ k1).mono ?_; rintro e w1 ⟨rfl, hb1⟩; obtain ⟨m1, m2⟩ := KX.out w1 hb1)
      | (go_at_call 24; refine (CH.out _ hb1).mono ?_; rintro e w2 ⟨rfl, hb2⟩; have HB2 := Lib.hid (hb1.trans (hb2.mono hb1.size)); obtain ⟨n1, n2⟩ := KX.out w2 HB2.out; have n3 := KY.out w2 HB2.out)
      | (go_at_call 25; refine (CA.out _ HB2.out).mono ?_; rintro e w3 ⟨ra, rc, rfl, q1, q3⟩; have Q1 := Lib.hid q1; clear q1))
    go_ret
    exact ⟨ra, n, rc, rfl, HNN.out.symm, (Lies.of_owns Q1.out).wider HB2.out.size (Nat.le_refl _), HB2.out.trans (q3.mono HB2.out.size)⟩
  · have CH := Lib.hid (fun (W : World) (hb : Below w.heap.size w W) => ghas_any g ln ao cap p W (KX.out W hb).2)
    have t2 : decide (0 ≤ p ∧ p < (ln : Int)) = false := decide_eq_false (by rw [hln]; exact hp)
    rw [t2] at CH
    have HD := Lib.hid (donV_out hp)
    clear hs hsy htab hg hrow hdn t2 hll hln hp
    go_enter Try.func11, Try.ntmps11
    go_wp2_with (first
      | (go_at_call 23; refine (gmade_any s g _ k1).mono ?_; rintro e w1 ⟨rfl, hb1⟩; obtain ⟨m1, m2⟩ := KX.out w1 hb1)
      | (go_at_call 24; refine (CH.out _ hb1).mono ?_; rintro e w2 ⟨rfl, hb2⟩))
    go_ret
    exact ⟨none, 0, 0, rfl, by rw [HD.out]; rfl, by rw [HD.out]; exact lies_none (fun _ => rfl), hb1.trans (hb2.mono hb1.size)⟩
set_option maxRecDepth 100000 in
set_option maxHeartbeats 4000000 in
theorem gnew_no {w : World} {hi : Nat} {c : Cf} {pvs : List Pv} {wa pa ca : Option Addr} {wc pc cc : Nat} (f : Far c) (h : SysL w hi c pvs wa pa ca wc pc cc) (hh : hi ≤ w.heap.size) (hin : ∀ x ∈ c.ws, x.In) (hz : (checkV c).1 ≠ 0) :
    Calls Try.prog 8 #[.agg #[.int .i64 c.frame, .int .i64 c.margin, .slice wa c.ws.length wc, .slice pa c.ps.length pc, .slice ca c.cs.length cc]] w fun e w' => e = .returned (.pointer none) ∧ Below w.heap.size w w' := by
  have hB := below1 w (.cells #[.int .i64 c.frame, .int .i64 c.margin, .slice wa c.ws.length wc, .slice pa c.ps.length pc, .slice ca c.cs.length cc] 36)
  have CT := Lib.hid (table_far f (h.keep (SameIn.of_below hB hh)) (Nat.le_trans hh hB.size) hin hz)
  have HB := Lib.hid hB
  clear h hin hB
  go_enter Try.func8, Try.ntmps8
  go_wp2_with (first | (go_at_call 18; refine CT.out.mono ?_; rintro e w1 ⟨rfl, hb1⟩))
  go_ret
  exact ⟨rfl, HB.out.trans (hb1.mono HB.out.size)⟩
set_option maxRecDepth 100000 in
set_option maxHeartbeats 4000000 in
theorem gnew_yes {w : World} {hi : Nat} {c : Cf} {pvs : List Pv} {wa pa ca : Option Addr} {wc pc cc : Nat} (f : Few c) (h : SysL w hi c pvs wa pa ca wc pc cc) (hh : hi ≤ w.heap.size) (hin : ∀ x ∈ c.ws, x.In) (hz : (checkV c).1 = 0) (F : Nat) (hF : c.frame = (F : Int)) :
    Calls Try.prog 8 #[.agg #[.int .i64 c.frame, .int .i64 c.margin, .slice wa c.ws.length wc, .slice pa c.ps.length pc, .slice ca c.cs.length cc]] w fun e w' => ∃ s, e = .returned (.pointer (some ⟨s, 0, none⟩)) ∧ ScAt w' w.heap.size s F c ∧ Below w.heap.size w w' := by
  obtain ⟨V, hV⟩ : ∃ V, V = w.alloc (.cells #[.int .i64 c.frame, .int .i64 c.margin, .slice wa c.ws.length wc, .slice pa c.ps.length pc, .slice ca c.cs.length cc] 36) := ⟨_, rfl⟩
  have hB1 : Below w.heap.size w V := by rw [hV]; exact below1 _ _
  have hblk : V.heap[w.heap.size]? = some (.cells #[.int .i64 c.frame, .int .i64 c.margin, .slice wa c.ws.length wc, .slice pa c.ps.length pc, .slice ca c.cs.length cc] 36 (0, 0)) := by rw [hV]; exact heap_alloc_new _ _
  have SV := h.keep (SameIn.of_below hB1 hh)
  have KX : Hid (∀ W : World, Below V.heap.size V W → W.cell? ⟨w.heap.size, 3, none⟩ = some (.slice pa c.ps.length pc)) := Lib.hid (fun W hW => (hW.cell (p := ⟨w.heap.size, 3, none⟩) (lt_of_block hblk)).trans (cell_in (j := 3) hblk rfl))
  have CT := Lib.hid (table_yes f SV (Nat.le_trans hh hB1.size) hin hz F hF)
  have CS := Lib.hid (fun (t : Nat) (W : World) (hb : Below V.heap.size V W) => gsys_any t pa c.ps.length pc W 0 hi c.ps pvs rfl (SV.l2.keep (SameIn.of_below hb (Nat.le_trans hh hB1.size))) (SV.l3.keep (SameIn.of_below hb (Nat.le_trans hh hB1.size))) (Nat.le_trans (Nat.le_trans hh hB1.size) hb.size) f.2.1 (fun p hp => (f.2.2.2 p hp).2.2))
  have HB := Lib.hid hB1
  have HV := Lib.hid hV
  clear h hin hB1 hV hblk SV hF
  go_enter Try.func8, Try.ntmps8
  go_wp2_with (first
    | (go_at_call 18; rw [← HV.out]; refine CT.out.mono ?_; rintro e w1 ⟨t, la, lc, rfl, ht, hb1⟩; have HT := Lib.hid ht; have k3 := KX.out w1 hb1; clear ht)
    | (go_at_call 19; refine (CS.out t _ hb1).mono ?_; rintro e w2 ⟨g, rfl, hs2, hb2⟩; have HS := Lib.hid hs2; clear hs2))
  go_ret
  have hb3 := below1 w2 (.cells #[.pointer (some ⟨g, 0, none⟩)] 62)
  have z1 := HB.out.size
  have z2 := hb1.size
  have z3 := hb2.size
  have z4 := hb3.size
  obtain ⟨ao, cap, vs, q1, q2, q3, q4⟩ := HS.out.later hb3
  refine ⟨w2.heap.size, rfl, ⟨g, t, la, lc, by omega, heap_alloc_new _ _, ⟨ao, cap, vs, by omega, q2, q3.wider (by omega) (Nat.le_refl _), q4.1, fun i v xs h1 h2 => let ⟨l5, h5, z, a, b, c⟩ := q4.2 i v xs h1 h2; ⟨l5, h5, by omega, a, b, c⟩⟩, ((HT.out.keep hb2 (Nat.le_refl _)).keep (hb3.mono (show w1.heap.size ≤ w2.heap.size from z3)) (Nat.le_refl _)).wider (by omega) (by omega)⟩, ?_⟩
  exact HB.out.trans ((hb1.trans ((hb2.trans (hb3.mono z3)).mono z2)).mono z1)
end Go.Proofs.Ytmkohnpdpcefgaa
