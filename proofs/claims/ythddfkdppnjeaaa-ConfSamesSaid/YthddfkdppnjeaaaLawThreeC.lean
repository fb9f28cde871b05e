/- The walk of a statement of the layer of systems: two systems are the same just if all their fields are; what is made apart is the same. -/
import Derived.Test.YthddfkdppnjeaaaSysA
namespace Go.Proofs.Ythddfkdppnjeaaa
open Go.ChangeShapes Go.WideShapes Go.ChangeAt Go.RowKit
set_option linter.unusedVariables false
attribute [local go_sem ↓] Go.wp_at_zero Go.wp_at_succ

set_option maxRecDepth 100000 in
set_option maxHeartbeats 8000000 in
theorem ConfSames_body (wa pa ca : Option Addr) (wc pc cc : Nat) (xa qa ya : Option Addr) (xc qc yc : Nat) (w : World) (c : Cf) (pvs : List Pv) (d : Cf) (qvs : List Pv) (ha : SysL w w.heap.size c pvs wa pa ca wc pc cc) (hb : SysL w w.heap.size d qvs xa qa ya xc qc yc) :
    Calls Try.prog 5 #[.agg #[.int .i64 c.frame, .int .i64 c.margin, .slice wa c.ws.length wc, .slice pa c.ps.length pc, .slice ca c.cs.length cc], .agg #[.int .i64 d.frame, .int .i64 d.margin, .slice xa d.ws.length xc, .slice qa d.ps.length qc, .slice ya d.cs.length yc]] w fun e w' => e = .returned (.bool true) ∧ Below w.heap.size w w' := by
  obtain ⟨V, hV⟩ : ∃ V, V = (w.alloc (.cells #[.int .i64 c.frame, .int .i64 c.margin, .slice wa c.ws.length wc, .slice pa c.ps.length pc, .slice ca c.cs.length cc] 52)).alloc (.cells #[.int .i64 d.frame, .int .i64 d.margin, .slice xa d.ws.length xc, .slice qa d.ps.length qc, .slice ya d.cs.length yc] 52) := ⟨_, rfl⟩
  have B1 : Below w.heap.size w V := by rw [hV]; exact b_alloc (below1 _ _) (Nat.le_refl _) _
  have s1 : V.heap[w.heap.size]? = some (.cells #[.int .i64 c.frame, .int .i64 c.margin, .slice wa c.ws.length wc, .slice pa c.ps.length pc, .slice ca c.cs.length cc] 52 (0, 0)) := by rw [hV]; simp only [heap_at, World.size_alloc]; simp
  have s2 : V.heap[w.heap.size + 1]? = some (.cells #[.int .i64 d.frame, .int .i64 d.margin, .slice xa d.ws.length xc, .slice qa d.ps.length qc, .slice ya d.cs.length yc] 52 (0, 0)) := by rw [hV]; simp only [heap_at, World.size_alloc]; simp
  have z2 := lt_of_block s2
  have cla : ∀ W : World, Below w.heap.size w W → Calls Try.prog 17 #[.agg #[.int .i64 c.frame, .int .i64 c.margin, .slice wa c.ws.length wc, .slice pa c.ps.length pc, .slice ca c.cs.length cc]] W fun e w' => e = .returned (.bool (lightB c)) ∧ Below W.heap.size W w' := fun W h =>
    light_any _ _ _ _ _ _ _ _ _ _ _ W 0 w.heap.size c pvs rfl rfl rfl (ha.l2.keep (SameIn.of_below h (Nat.le_refl _))) (ha.l3.keep (SameIn.of_below h (Nat.le_refl _))) h.size
  have clb : ∀ W : World, Below w.heap.size w W → Calls Try.prog 17 #[.agg #[.int .i64 d.frame, .int .i64 d.margin, .slice xa d.ws.length xc, .slice qa d.ps.length qc, .slice ya d.cs.length yc]] W fun e w' => e = .returned (.bool (lightB d)) ∧ Below W.heap.size W w' := fun W h =>
    light_any _ _ _ _ _ _ _ _ _ _ _ W 0 w.heap.size d qvs rfl rfl rfl (hb.l2.keep (SameIn.of_below h (Nat.le_refl _))) (hb.l3.keep (SameIn.of_below h (Nat.le_refl _))) h.size
  have CLA := Lib.hid cla; have CLB := Lib.hid clb; have HB1 := Lib.hid B1; have HA := Lib.hid ha; have HB := Lib.hid hb; have HV := Lib.hid hV; have S1 := Lib.hid s1; have S2 := Lib.hid s2
  clear cla clb ha hb hV s1 s2
  cases hla : lightB c with
  | false =>
    have HLA := Lib.hid hla; clear hla
    go_enter Try.func5, Try.ntmps5
    go_wp2_with fail
    rw [← HV.out]
    refine (CLA.out _ HB1.out).mono ?_
    rintro e w1 ⟨rfl, hb1⟩
    rw [HLA.out]
    go_wp2_with (first | (go_at_call 8; refine (knows3_any _).mono ?_; rintro e w2 ⟨rfl, hb2⟩))
    go_ret
    exact ⟨rfl, HB1.out.trans ((bel_go2 hb1 hb2).mono HB1.out.size)⟩
  | true =>
  cases hlb : lightB d with
  | false =>
    have HLA := Lib.hid hla; have HLB := Lib.hid hlb; clear hla hlb
    go_enter Try.func5, Try.ntmps5
    go_wp2_with fail
    rw [← HV.out]
    refine (CLA.out _ HB1.out).mono ?_
    rintro e w1 ⟨rfl, hb1⟩
    rw [HLA.out]
    have e0 := (hb1.cell (p := ⟨w.heap.size + 1, 0, none⟩) z2).trans (cell_in S2.out rfl)
    have e1 := (hb1.cell (p := ⟨w.heap.size + 1, 1, none⟩) z2).trans (cell_in S2.out rfl)
    have e2 := (hb1.cell (p := ⟨w.heap.size + 1, 2, none⟩) z2).trans (cell_in S2.out rfl)
    have e3 := (hb1.cell (p := ⟨w.heap.size + 1, 3, none⟩) z2).trans (cell_in S2.out rfl)
    have e4 := (hb1.cell (p := ⟨w.heap.size + 1, 4, none⟩) z2).trans (cell_in S2.out rfl)
    have hbw1 := HB1.out.trans (hb1.mono HB1.out.size)
    go_wp2_with fail
    refine (CLB.out _ hbw1).mono ?_
    rintro e w2 ⟨rfl, hb2⟩
    rw [HLB.out]
    go_wp2_with (first | (go_at_call 8; refine (knows3_any _).mono ?_; rintro e w3 ⟨rfl, hb3⟩))
    go_ret
    exact ⟨rfl, hbw1.trans ((bel_go2 hb2 hb3).mono hbw1.size)⟩
  | true =>
    have HFA := Lib.hid (light_bounds hla); have HFB := Lib.hid (light_bounds hlb)
    have HLA := Lib.hid hla; have HLB := Lib.hid hlb; clear hla hlb
    go_enter Try.func5, Try.ntmps5
    go_wp2_with fail
    rw [← HV.out]
    refine (CLA.out _ HB1.out).mono ?_
    rintro e w1 ⟨rfl, hb1⟩
    rw [HLA.out]
    have e0 := (hb1.cell (p := ⟨w.heap.size + 1, 0, none⟩) z2).trans (cell_in S2.out rfl)
    have e1 := (hb1.cell (p := ⟨w.heap.size + 1, 1, none⟩) z2).trans (cell_in S2.out rfl)
    have e2 := (hb1.cell (p := ⟨w.heap.size + 1, 2, none⟩) z2).trans (cell_in S2.out rfl)
    have e3 := (hb1.cell (p := ⟨w.heap.size + 1, 3, none⟩) z2).trans (cell_in S2.out rfl)
    have e4 := (hb1.cell (p := ⟨w.heap.size + 1, 4, none⟩) z2).trans (cell_in S2.out rfl)
    have hbw1 := HB1.out.trans (hb1.mono HB1.out.size)
    go_wp2_with fail
    refine (CLB.out _ hbw1).mono ?_
    rintro e w15 ⟨rfl, hb15⟩
    rw [HLB.out]
    have hv15 := bel_go2 hb1 hb15
    have a0 := (hv15.cell (p := ⟨w.heap.size, 0, none⟩) (by show w.heap.size < _; omega)).trans (cell_in S1.out rfl)
    have a1 := (hv15.cell (p := ⟨w.heap.size, 1, none⟩) (by show w.heap.size < _; omega)).trans (cell_in S1.out rfl)
    have a2 := (hv15.cell (p := ⟨w.heap.size, 2, none⟩) (by show w.heap.size < _; omega)).trans (cell_in S1.out rfl)
    have a3 := (hv15.cell (p := ⟨w.heap.size, 3, none⟩) (by show w.heap.size < _; omega)).trans (cell_in S1.out rfl)
    have a4 := (hv15.cell (p := ⟨w.heap.size, 4, none⟩) (by show w.heap.size < _; omega)).trans (cell_in S1.out rfl)
    have hbw15 := HB1.out.trans (hv15.mono HB1.out.size)
    go_wp2_with fail
    refine (config_sys HFA.out (HA.out.keep (SameIn.of_below hbw15 (Nat.le_refl _))) hbw15.size).mono ?_
    rintro e w2 ⟨xvs, wa', pa', ca', wc', pc', cc', rfl, hsx, hb2⟩
    have hv2 := bel_go2 hv15 hb2
    have hw2 := HB1.out.trans (hv2.mono HB1.out.size)
    have hVV : Below w.heap.size w (w2.alloc (.cells #[.int .i64 c.frame, .int .i64 c.margin, .slice wa' c.ws.length wc', .slice pa' c.ps.length pc', .slice ca' c.cs.length cc'] 58)) := hw2.alloc hw2.size _
    have hsz2 := hv2.size
    have hsx2 := hsx.keep (SameIn.of_below (below1 w2 (.cells #[.int .i64 c.frame, .int .i64 c.margin, .slice wa' c.ws.length wc', .slice pa' c.ps.length pc', .slice ca' c.cs.length cc'] 58)) (Nat.le_refl _))
    have ks : ∀ W : World, Below (w2.alloc (.cells #[.int .i64 c.frame, .int .i64 c.margin, .slice wa' c.ws.length wc', .slice pa' c.ps.length pc', .slice ca' c.cs.length cc'] 58)).heap.size (w2.alloc (.cells #[.int .i64 c.frame, .int .i64 c.margin, .slice wa' c.ws.length wc', .slice pa' c.ps.length pc', .slice ca' c.cs.length cc'] 58)) W → (Below (w2.alloc (.cells #[.int .i64 c.frame, .int .i64 c.margin, .slice wa' c.ws.length wc', .slice pa' c.ps.length pc', .slice ca' c.cs.length cc'] 58)).heap.size (w2.alloc (.cells #[.int .i64 c.frame, .int .i64 c.margin, .slice wa' c.ws.length wc', .slice pa' c.ps.length pc', .slice ca' c.cs.length cc'] 58)) W ∧ W.cell? ⟨w.heap.size, 0, none⟩ = some (.int .i64 c.frame) ∧ W.cell? ⟨w.heap.size, 1, none⟩ = some (.int .i64 c.margin) ∧ W.cell? ⟨w.heap.size, 2, none⟩ = some (.slice wa c.ws.length wc) ∧ W.cell? ⟨w.heap.size, 3, none⟩ = some (.slice pa c.ps.length pc) ∧ W.cell? ⟨w.heap.size, 4, none⟩ = some (.slice ca c.cs.length cc) ∧ W.cell? ⟨w.heap.size + 1, 0, none⟩ = some (.int .i64 d.frame) ∧ W.cell? ⟨w.heap.size + 1, 1, none⟩ = some (.int .i64 d.margin) ∧ W.cell? ⟨w.heap.size + 1, 2, none⟩ = some (.slice xa d.ws.length xc) ∧ W.cell? ⟨w.heap.size + 1, 3, none⟩ = some (.slice qa d.ps.length qc) ∧ W.cell? ⟨w.heap.size + 1, 4, none⟩ = some (.slice ya d.cs.length yc) ∧ W.cell? ⟨w2.heap.size, 0, none⟩ = some (.int .i64 c.frame) ∧ W.cell? ⟨w2.heap.size, 1, none⟩ = some (.int .i64 c.margin) ∧ W.cell? ⟨w2.heap.size, 2, none⟩ = some (.slice wa' c.ws.length wc') ∧ W.cell? ⟨w2.heap.size, 3, none⟩ = some (.slice pa' c.ps.length pc') ∧ W.cell? ⟨w2.heap.size, 4, none⟩ = some (.slice ca' c.cs.length cc')) := by
      intro W h
      have y1 := fun (i : Nat) (u : Value) (hu : (#[.int .i64 c.frame, .int .i64 c.margin, .slice wa c.ws.length wc, .slice pa c.ps.length pc, .slice ca c.cs.length cc] : Array Value)[i]? = some u) => (h.cell (p := ⟨w.heap.size, i, none⟩) (by simp; omega)).trans ((World.cell?_alloc_lt _ _ _ (by show w.heap.size < _; omega)).trans ((hv2.cell (p := ⟨w.heap.size, i, none⟩) (by show w.heap.size < _; omega)).trans (cell_in S1.out hu)))
      have y2 := fun (i : Nat) (u : Value) (hu : (#[.int .i64 d.frame, .int .i64 d.margin, .slice xa d.ws.length xc, .slice qa d.ps.length qc, .slice ya d.cs.length yc] : Array Value)[i]? = some u) => (h.cell (p := ⟨w.heap.size + 1, i, none⟩) (by simp; omega)).trans ((World.cell?_alloc_lt _ _ _ (by show w.heap.size + 1 < _; omega)).trans ((hv2.cell (p := ⟨w.heap.size + 1, i, none⟩) z2).trans (cell_in S2.out hu)))
      have y3 := fun (i : Nat) (u : Value) (hu : (#[.int .i64 c.frame, .int .i64 c.margin, .slice wa' c.ws.length wc', .slice pa' c.ps.length pc', .slice ca' c.cs.length cc'] : Array Value)[i]? = some u) => (h.cell (p := ⟨w2.heap.size, i, none⟩) (by simp)).trans (cell_in (heap_alloc_new w2 _) hu)
      exact ⟨h, y1 0 _ rfl, y1 1 _ rfl, y1 2 _ rfl, y1 3 _ rfl, y1 4 _ rfl, y2 0 _ rfl, y2 1 _ rfl, y2 2 _ rfl, y2 3 _ rfl, y2 4 _ rfl, y3 0 _ rfl, y3 1 _ rfl, y3 2 _ rfl, y3 3 _ rfl, y3 4 _ rfl⟩
    have KS := Lib.hid ks; have HVV := Lib.hid hVV; have HSX := Lib.hid hsx2
    have cb : ∀ W : World, Below (w2.alloc (.cells #[.int .i64 c.frame, .int .i64 c.margin, .slice wa' c.ws.length wc', .slice pa' c.ps.length pc', .slice ca' c.cs.length cc'] 58)).heap.size (w2.alloc (.cells #[.int .i64 c.frame, .int .i64 c.margin, .slice wa' c.ws.length wc', .slice pa' c.ps.length pc', .slice ca' c.cs.length cc'] 58)) W → Calls Try.prog 18 #[.agg #[.int .i64 d.frame, .int .i64 d.margin, .slice xa d.ws.length xc, .slice qa d.ps.length qc, .slice ya d.cs.length yc]] W fun e w' => ∃ vs i1 i2 i3 j1 j2 j3, e = .returned (.agg #[.int .i64 d.frame, .int .i64 d.margin, .slice i1 d.ws.length j1, .slice i2 d.ps.length j2, .slice i3 d.cs.length j3]) ∧ SysL w' w'.heap.size d vs i1 i2 i3 j1 j2 j3 ∧ Below W.heap.size W w' := fun W h =>
      have hw := HVV.out.trans (h.mono HVV.out.size)
      config_sys HFB.out (HB.out.keep (SameIn.of_below hw (Nat.le_refl _))) hw.size
    have cx : ∀ W : World, Below (w2.alloc (.cells #[.int .i64 c.frame, .int .i64 c.margin, .slice wa' c.ws.length wc', .slice pa' c.ps.length pc', .slice ca' c.cs.length cc'] 58)).heap.size (w2.alloc (.cells #[.int .i64 c.frame, .int .i64 c.margin, .slice wa' c.ws.length wc', .slice pa' c.ps.length pc', .slice ca' c.cs.length cc'] 58)) W → Calls Try.prog 25 #[.agg #[.int .i64 c.frame, .int .i64 c.margin, .slice wa' c.ws.length wc', .slice pa' c.ps.length pc', .slice ca' c.cs.length cc']] W fun e w' => ∃ vs i1 i2 i3 j1 j2 j3, e = .returned (.agg #[.int .i64 c.frame, .int .i64 c.margin, .slice i1 c.ws.length j1, .slice i2 c.ps.length j2, .slice i3 c.cs.length j3]) ∧ SysL w' w'.heap.size c vs i1 i2 i3 j1 j2 j3 ∧ Below W.heap.size W w' := fun W h =>
      clone_sys HFA.out (HSX.out.keep (SameIn.of_below h (by simp))) (Nat.le_trans (by simp) h.size)
    have cs : ∀ W : World, Below (w2.alloc (.cells #[.int .i64 c.frame, .int .i64 c.margin, .slice wa' c.ws.length wc', .slice pa' c.ps.length pc', .slice ca' c.cs.length cc'] 58)).heap.size (w2.alloc (.cells #[.int .i64 c.frame, .int .i64 c.margin, .slice wa' c.ws.length wc', .slice pa' c.ps.length pc', .slice ca' c.cs.length cc'] 58)) W → ∀ (f : Cf) (vs : List Pv) (i1 i2 i3 : Option Addr) (j1 j2 j3 : Nat), SysL W W.heap.size f vs i1 i2 i3 j1 j2 j3 → Calls Try.prog 23 #[.agg #[.int .i64 c.frame, .int .i64 c.margin, .slice wa' c.ws.length wc', .slice pa' c.ps.length pc', .slice ca' c.cs.length cc'], .agg #[.int .i64 f.frame, .int .i64 f.margin, .slice i1 f.ws.length j1, .slice i2 f.ps.length j2, .slice i3 f.cs.length j3]] W fun e w' => e = .returned (.bool (eqCf c f)) ∧ Below W.heap.size W w' := fun W h f vs i1 i2 i3 j1 j2 j3 hy =>
      same_sys HFA.out ((HSX.out.keep (SameIn.of_below h (by simp))).wider (Nat.le_trans (by simp) h.size)) hy (Nat.le_refl _)
    have cr1 : ∀ W : World, Below (w2.alloc (.cells #[.int .i64 c.frame, .int .i64 c.margin, .slice wa' c.ws.length wc', .slice pa' c.ps.length pc', .slice ca' c.cs.length cc'] 58)).heap.size (w2.alloc (.cells #[.int .i64 c.frame, .int .i64 c.margin, .slice wa' c.ws.length wc', .slice pa' c.ps.length pc', .slice ca' c.cs.length cc'] 58)) W → Calls Try.prog 24 #[.agg #[.int .i64 c.frame, .int .i64 c.margin, .slice wa c.ws.length wc, .slice pa c.ps.length pc, .slice ca c.cs.length cc], .agg #[.int .i64 d.frame, .int .i64 d.margin, .slice xa d.ws.length xc, .slice qa d.ps.length qc, .slice ya d.cs.length yc]] W fun e w' => e = .returned (.bool (eqCf c d)) ∧ Below W.heap.size W w' := fun W h =>
      have hw := HVV.out.trans (h.mono HVV.out.size)
      refSame_sys HFA.out (HA.out.keep (SameIn.of_below hw (Nat.le_refl _))) (HB.out.keep (SameIn.of_below hw (Nat.le_refl _))) hw.size
    have cf : ∀ W : World, ∀ (vs : List Pv) (i1 i2 i3 : Option Addr) (j1 j2 j3 : Nat), SysL W W.heap.size c vs i1 i2 i3 j1 j2 j3 → Calls Try.prog 26 #[.agg #[.int .i64 c.frame, .int .i64 c.margin, .slice i1 c.ws.length j1, .slice i2 c.ps.length j2, .slice i3 c.cs.length j3]] W fun e w' => ∃ vs i1 i2 i3 j1 j2 j3, e = .returned (.agg #[.int .i64 c.frame, .int .i64 c.margin, .slice i1 c.ws.length j1, .slice i2 c.ps.length j2, .slice i3 c.cs.length j3]) ∧ SysL w' w'.heap.size c vs i1 i2 i3 j1 j2 j3 ∧ Below W.heap.size W w' := fun W vs i1 i2 i3 j1 j2 j3 hy =>
      ref_sys HFA.out hy (Nat.le_refl _)
    have cr2 : ∀ W : World, Below (w2.alloc (.cells #[.int .i64 c.frame, .int .i64 c.margin, .slice wa' c.ws.length wc', .slice pa' c.ps.length pc', .slice ca' c.cs.length cc'] 58)).heap.size (w2.alloc (.cells #[.int .i64 c.frame, .int .i64 c.margin, .slice wa' c.ws.length wc', .slice pa' c.ps.length pc', .slice ca' c.cs.length cc'] 58)) W → ∀ (vs : List Pv) (i1 i2 i3 : Option Addr) (j1 j2 j3 : Nat), SysL W W.heap.size c vs i1 i2 i3 j1 j2 j3 → Calls Try.prog 24 #[.agg #[.int .i64 c.frame, .int .i64 c.margin, .slice i1 c.ws.length j1, .slice i2 c.ps.length j2, .slice i3 c.cs.length j3], .agg #[.int .i64 c.frame, .int .i64 c.margin, .slice wa c.ws.length wc, .slice pa c.ps.length pc, .slice ca c.cs.length cc]] W fun e w' => e = .returned (.bool true) ∧ Below W.heap.size W w' := fun W h vs i1 i2 i3 j1 j2 j3 hy => by
      have hw := HVV.out.trans (h.mono HVV.out.size)
      have r := refSame_sys HFA.out hy ((HA.out.keep (SameIn.of_below hw (Nat.le_refl _))).wider hw.size) (Nat.le_refl _)
      rw [eqCf_refl] at r
      exact r
    have CB := Lib.hid cb; have CX := Lib.hid cx; have CS := Lib.hid cs; have CR1 := Lib.hid cr1; have CF := Lib.hid cf; have CR2 := Lib.hid cr2
    have HREF := Lib.hid (eqCf_refl c)
    obtain ⟨_, k0, k1, k2, k3, k4, k5, k6, k7, k8, k9, k10, k11, k12, k13, k14⟩ := KS.out _ (Below.refl _ _)
    clear ks cb cx cs cr1 cf cr2 hsx hsx2 hb1 hb15 hb2 hv15 hv2 hw2 hVV hbw1 hbw15 e0 e1 e2 e3 e4 a0 a1 a2 a3 a4 B1 hsz2 z2
    go_wp2_with fail
    go_region_held3 (fun W => Below (w2.alloc (.cells #[.int .i64 c.frame, .int .i64 c.margin, .slice wa' c.ws.length wc', .slice pa' c.ps.length pc', .slice ca' c.cs.length cc'] 58)).heap.size (w2.alloc (.cells #[.int .i64 c.frame, .int .i64 c.margin, .slice wa' c.ws.length wc', .slice pa' c.ps.length pc', .slice ca' c.cs.length cc'] 58)) W ∧ W.cell? ⟨w.heap.size, 0, none⟩ = some (.int .i64 c.frame) ∧ W.cell? ⟨w.heap.size, 1, none⟩ = some (.int .i64 c.margin) ∧ W.cell? ⟨w.heap.size, 2, none⟩ = some (.slice wa c.ws.length wc) ∧ W.cell? ⟨w.heap.size, 3, none⟩ = some (.slice pa c.ps.length pc) ∧ W.cell? ⟨w.heap.size, 4, none⟩ = some (.slice ca c.cs.length cc) ∧ W.cell? ⟨w.heap.size + 1, 0, none⟩ = some (.int .i64 d.frame) ∧ W.cell? ⟨w.heap.size + 1, 1, none⟩ = some (.int .i64 d.margin) ∧ W.cell? ⟨w.heap.size + 1, 2, none⟩ = some (.slice xa d.ws.length xc) ∧ W.cell? ⟨w.heap.size + 1, 3, none⟩ = some (.slice qa d.ps.length qc) ∧ W.cell? ⟨w.heap.size + 1, 4, none⟩ = some (.slice ya d.cs.length yc) ∧ W.cell? ⟨w2.heap.size, 0, none⟩ = some (.int .i64 c.frame) ∧ W.cell? ⟨w2.heap.size, 1, none⟩ = some (.int .i64 c.margin) ∧ W.cell? ⟨w2.heap.size, 2, none⟩ = some (.slice wa' c.ws.length wc') ∧ W.cell? ⟨w2.heap.size, 3, none⟩ = some (.slice pa' c.ps.length pc') ∧ W.cell? ⟨w2.heap.size, 4, none⟩ = some (.slice ca' c.cs.length cc'))
      (first | exact KS.out _ ((Below.refl _ _).drew) | exact KS.out _ (by assumption))
      (first
        | (go_at_call 18; refine (CB.out _ (by go_split_ands; assumption)).mono ?_; rintro e w3 ⟨vs, i1, i2, i3, j1, j2, j3, rfl, hy, hb3⟩; have hbn : Below (w2.alloc (.cells #[.int .i64 c.frame, .int .i64 c.margin, .slice wa' c.ws.length wc', .slice pa' c.ps.length pc', .slice ca' c.cs.length cc'] 58)).heap.size (w2.alloc (.cells #[.int .i64 c.frame, .int .i64 c.margin, .slice wa' c.ws.length wc', .slice pa' c.ps.length pc', .slice ca' c.cs.length cc'] 58)) w3 := (by go_split_ands; exact bel_go2 (by assumption) hb3); have HY := Lib.hid hy; clear hy)
        | (go_at_call 25; refine (CX.out _ (by go_split_ands; assumption)).mono ?_; rintro e w3 ⟨vs, i1, i2, i3, j1, j2, j3, rfl, hy, hb3⟩; have hbn : Below (w2.alloc (.cells #[.int .i64 c.frame, .int .i64 c.margin, .slice wa' c.ws.length wc', .slice pa' c.ps.length pc', .slice ca' c.cs.length cc'] 58)).heap.size (w2.alloc (.cells #[.int .i64 c.frame, .int .i64 c.margin, .slice wa' c.ws.length wc', .slice pa' c.ps.length pc', .slice ca' c.cs.length cc'] 58)) w3 := (by go_split_ands; exact bel_go2 (by assumption) hb3); have HY := Lib.hid hy; clear hy)
        | (go_at_call 23; refine (CS.out _ (by go_split_ands; assumption) _ _ _ _ _ _ _ _ HY.out).mono ?_; rintro e w3 ⟨rfl, hb3⟩; have hbn : Below (w2.alloc (.cells #[.int .i64 c.frame, .int .i64 c.margin, .slice wa' c.ws.length wc', .slice pa' c.ps.length pc', .slice ca' c.cs.length cc'] 58)).heap.size (w2.alloc (.cells #[.int .i64 c.frame, .int .i64 c.margin, .slice wa' c.ws.length wc', .slice pa' c.ps.length pc', .slice ca' c.cs.length cc'] 58)) w3 := (by go_split_ands; exact bel_go2 (by assumption) hb3); try rw [HREF.out])
        | (go_at_call 26; refine (CF.out _ _ _ _ _ _ _ _ HY.out).mono ?_; rintro e w3 ⟨vs, i1, i2, i3, j1, j2, j3, rfl, hy, hb3⟩; have hbn : Below (w2.alloc (.cells #[.int .i64 c.frame, .int .i64 c.margin, .slice wa' c.ws.length wc', .slice pa' c.ps.length pc', .slice ca' c.cs.length cc'] 58)).heap.size (w2.alloc (.cells #[.int .i64 c.frame, .int .i64 c.margin, .slice wa' c.ws.length wc', .slice pa' c.ps.length pc', .slice ca' c.cs.length cc'] 58)) w3 := (by go_split_ands; exact bel_go2 (by assumption) hb3); have HZ := Lib.hid hy; clear hy)
        | (go_at_call_of 24 (Value.agg #[.int .i64 d.frame, .int .i64 d.margin, .slice xa d.ws.length xc, .slice qa d.ps.length qc, .slice ya d.cs.length yc]); refine (CR1.out _ (by go_split_ands; assumption)).mono ?_; rintro e w3 ⟨rfl, hb3⟩; have hbn : Below (w2.alloc (.cells #[.int .i64 c.frame, .int .i64 c.margin, .slice wa' c.ws.length wc', .slice pa' c.ps.length pc', .slice ca' c.cs.length cc'] 58)).heap.size (w2.alloc (.cells #[.int .i64 c.frame, .int .i64 c.margin, .slice wa' c.ws.length wc', .slice pa' c.ps.length pc', .slice ca' c.cs.length cc'] 58)) w3 := (by go_split_ands; exact bel_go2 (by assumption) hb3))
        | (go_at_call 24; refine (CR2.out _ (by go_split_ands; assumption) _ _ _ _ _ _ _ HZ.out).mono ?_; rintro e w3 ⟨rfl, hb3⟩; have hbn : Below (w2.alloc (.cells #[.int .i64 c.frame, .int .i64 c.margin, .slice wa' c.ws.length wc', .slice pa' c.ps.length pc', .slice ca' c.cs.length cc'] 58)).heap.size (w2.alloc (.cells #[.int .i64 c.frame, .int .i64 c.margin, .slice wa' c.ws.length wc', .slice pa' c.ps.length pc', .slice ca' c.cs.length cc'] 58)) w3 := (by go_split_ands; exact bel_go2 (by assumption) hb3))
        | (go_at_call 8; refine (knows3_any _).mono ?_; rintro e w3 ⟨rfl, hb3⟩; have hbn : Below (w2.alloc (.cells #[.int .i64 c.frame, .int .i64 c.margin, .slice wa' c.ws.length wc', .slice pa' c.ps.length pc', .slice ca' c.cs.length cc'] 58)).heap.size (w2.alloc (.cells #[.int .i64 c.frame, .int .i64 c.margin, .slice wa' c.ws.length wc', .slice pa' c.ps.length pc', .slice ca' c.cs.length cc'] 58)) w3 := (by go_split_ands; exact bel_go2 (by assumption) hb3)))
    go_wp2_with fail
    go_ret
    exact ⟨rfl, HVV.out.trans (hbn.mono HVV.out.size)⟩
end Go.Proofs.Ythddfkdppnjeaaa
