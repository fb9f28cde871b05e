/- The walk of a statement of the layer of systems: which numbers are partitions', and which are other ones, each once. -/
import Derived.Test.YthddfkdppnjeaaaConfI
import Derived.Test.YthddfkdppnjeaaaConfK
import Derived.Test.YthddfkdppnjeaaaConfL
import Derived.Test.YthddfkdppnjeaaaConfO
namespace Go.Proofs.Ythddfkdppnjeaaa
open Go.ChangeShapes Go.WideShapes Go.ChangeAt Go.RowKit
set_option linter.unusedVariables false
attribute [local go_sem ↓] Go.wp_at_zero Go.wp_at_succ

theorem bel_go2 {V W w1 : World} (h : Below V.heap.size V W) (k : Below W.heap.size W w1) : Below V.heap.size V w1 := h.trans (k.mono h.size)

set_option maxRecDepth 100000 in
set_option maxHeartbeats 4000000 in
theorem ConfNames_walk (fr mg : Int) (wa pa ca : Option Addr) (wn wc pn pc cn cc : Nat) (p : Int) (la : Option Addr) (ln lc : Nat) (w : World) (c : Cf) (pvs : List Pv) (l : List Int) (hwn : c.ws.length = wn) (hpn : c.ps.length = pn) (hcn : c.cs.length = cn) (hln : l.length = ln)
    (hws : Lies w 0 w.heap.size (.slice wa wn wc) wn 3 (c.ws.flatMap Wn.cells)) (hps : Lies w 0 w.heap.size (.slice pa pn pc) pn 6 (pvs.flatMap Pv.cells)) (hal : AllLie w 0 w.heap.size pvs c.ps) (hcs : Lies w 0 w.heap.size (.slice ca cn cc) cn 4 (c.cs.flatMap Ch.cells)) (hl : Lies w 0 w.heap.size (.slice la ln lc) ln 1 (l.flatMap intCells)) :
    Calls Try.prog 4 #[.agg #[.int .i64 fr, .int .i64 mg, .slice wa wn wc, .slice pa pn pc, .slice ca cn cc], .int .i64 p, .slice la ln lc] w fun e w' => e = .returned (.bool true) ∧ Below w.heap.size w w' := by
  have B1 := below1 w (.cells #[.int .i64 fr, .int .i64 mg, .slice wa wn wc, .slice pa pn pc, .slice ca cn cc] 52)
  have cl : Calls Try.prog 17 #[.agg #[.int .i64 fr, .int .i64 mg, .slice wa wn wc, .slice pa pn pc, .slice ca cn cc]] (w.alloc (.cells #[.int .i64 fr, .int .i64 mg, .slice wa wn wc, .slice pa pn pc, .slice ca cn cc] 52)) fun e w' => e = .returned (.bool (lightB c)) ∧ Below (w.alloc (.cells #[.int .i64 fr, .int .i64 mg, .slice wa wn wc, .slice pa pn pc, .slice ca cn cc] 52)).heap.size (w.alloc (.cells #[.int .i64 fr, .int .i64 mg, .slice wa wn wc, .slice pa pn pc, .slice ca cn cc] 52)) w' :=
    light_any fr mg wa pa ca wn wc pn pc cn cc _ 0 w.heap.size c pvs hwn hpn hcn (hps.keep (SameIn.of_below B1 (Nat.le_refl _))) (hal.keep (SameIn.of_below B1 (Nat.le_refl _))) B1.size
  have CL := Lib.hid cl; have HB1 := Lib.hid B1
  have HWS := Lib.hid hws; have HPS := Lib.hid hps; have HAL := Lib.hid hal; have HCS := Lib.hid hcs; have HLL := Lib.hid hl
  have HWN := Lib.hid hwn; have HPN := Lib.hid hpn; have HCN := Lib.hid hcn; have HLN := Lib.hid hln
  clear hws hps hal hcs hl hwn hpn hcn hln cl B1
  cases hlt : lightB c with
  | false =>
    have HLT := Lib.hid hlt; clear hlt
    go_enter Try.func4, Try.ntmps4
    go_wp2_with (first | (go_at_call 17; refine (CL.out).mono ?_; rintro e w1 ⟨rfl, hb1⟩; rw [HLT.out]) | (go_at_call 8; refine (knows3_any _).mono ?_; rintro e w2 ⟨rfl, hb2⟩))
    go_ret
    exact ⟨rfl, HB1.out.trans ((bel_go2 hb1 hb2).mono HB1.out.size)⟩
  | true =>
    obtain ⟨m1, m2, m3, m4⟩ := lightB_true hlt
    rw [HWN.out] at m1; rw [HPN.out] at m2; rw [HCN.out] at m3
    have M4 : Hid (∀ p ∈ c.ps, p.ts.length ≤ 1000 ∧ p.ss.length ≤ 1000 ∧ p.ds.length ≤ 1000) := Lib.hid (fun p hp => by have := m4 p hp; omega)
    have HLT := Lib.hid hlt; clear hlt m4
    by_cases hlong : 40 < ln
    · have t1 : decide (40 < (ln : Int)) = true := by simp; omega
      go_enter Try.func4, Try.ntmps4
      go_wp2_with (first | (go_at_call 17; refine (CL.out).mono ?_; rintro e w1 ⟨rfl, hb1⟩; rw [HLT.out]) | (go_at_call 8; refine (knows3_any _).mono ?_; rintro e w2 ⟨rfl, hb2⟩))
      go_ret
      exact ⟨rfl, HB1.out.trans ((bel_go2 hb1 hb2).mono HB1.out.size)⟩
    · have t1 : decide (40 < (ln : Int)) = false := by simp; omega
      have hb : ∀ (i : Nat) (u : Value), (#[.int .i64 fr, .int .i64 mg, .slice wa wn wc, .slice pa pn pc, .slice ca cn cc] : Array Value)[i]? = some u → (w.alloc (.cells #[.int .i64 fr, .int .i64 mg, .slice wa wn wc, .slice pa pn pc, .slice ca cn cc] 52)).cell? ⟨w.heap.size, i, none⟩ = some u := fun i u hu => cell_in (heap_alloc_new w _) hu
      have HBX := Lib.hid hb; clear hb
      have cc2 : ∀ W : World, Below w.heap.size w W → Calls Try.prog 18 #[.agg #[.int .i64 fr, .int .i64 mg, .slice wa wn wc, .slice pa pn pc, .slice ca cn cc]] W fun e w' => ∃ wa' wc' pa' pc' ca' cc', e = .returned (.agg #[.int .i64 fr, .int .i64 mg, .slice wa' wn wc', .slice pa' pn pc', .slice ca' cn cc']) ∧ Below W.heap.size W w' := by
        intro W h
        refine (config_any fr mg wa pa ca wn wc pn pc cn cc W 0 w.heap.size c pvs HWN.out HPN.out HCN.out (HWS.out.keep (SameIn.of_below h (Nat.le_refl _))) (HPS.out.keep (SameIn.of_below h (Nat.le_refl _))) (HAL.out.keep (SameIn.of_below h (Nat.le_refl _))) (HCS.out.keep (SameIn.of_below h (Nat.le_refl _))) h.size (by omega) (by omega) (by omega) M4.out).mono ?_
        rintro e w' ⟨wa', wc', pa', pc', ca', cc', vs', rfl, _, _, _, _, hb'⟩
        exact ⟨wa', wc', pa', pc', ca', cc', rfl, hb'⟩
      have CC := Lib.hid cc2; clear cc2
      go_enter Try.func4, Try.ntmps4
      go_wp2_with (first | (go_at_call 17; refine (CL.out).mono ?_; rintro e w1 ⟨rfl, hb1⟩; rw [HLT.out]; have z0 := (hb1.cell (p := ⟨w.heap.size, 0, none⟩) (by simp)).trans (HBX.out 0 _ rfl); have z1 := (hb1.cell (p := ⟨w.heap.size, 1, none⟩) (by simp)).trans (HBX.out 1 _ rfl); have z2 := (hb1.cell (p := ⟨w.heap.size, 2, none⟩) (by simp)).trans (HBX.out 2 _ rfl); have z3 := (hb1.cell (p := ⟨w.heap.size, 3, none⟩) (by simp)).trans (HBX.out 3 _ rfl); have z4 := (hb1.cell (p := ⟨w.heap.size, 4, none⟩) (by simp)).trans (HBX.out 4 _ rfl)) | (go_at_call 18; refine (CC.out _ (HB1.out.trans (hb1.mono HB1.out.size))).mono ?_; rintro e w2 ⟨wa', wc', pa', pc', ca', cc', rfl, hb2⟩))
      have hw1 := hb1.size
      have hw2 := hb2.size
      simp at hw1
      have hB2 : Below w.heap.size w w2 := HB1.out.trans ((bel_go2 hb1 hb2).mono HB1.out.size)
      have hV2 : Below w.heap.size w (w2.alloc (.cells #[.int .i64 fr, .int .i64 mg, .slice wa' wn wc', .slice pa' pn pc', .slice ca' cn cc'] 58)) := hB2.alloc hB2.size _
      have ks : ∀ W : World, Below (w2.alloc (.cells #[.int .i64 fr, .int .i64 mg, .slice wa' wn wc', .slice pa' pn pc', .slice ca' cn cc'] 58)).heap.size (w2.alloc (.cells #[.int .i64 fr, .int .i64 mg, .slice wa' wn wc', .slice pa' pn pc', .slice ca' cn cc'] 58)) W → (Below (w2.alloc (.cells #[.int .i64 fr, .int .i64 mg, .slice wa' wn wc', .slice pa' pn pc', .slice ca' cn cc'] 58)).heap.size (w2.alloc (.cells #[.int .i64 fr, .int .i64 mg, .slice wa' wn wc', .slice pa' pn pc', .slice ca' cn cc'] 58)) W ∧ W.cell? ⟨w.heap.size, 0, none⟩ = some (.int .i64 fr) ∧ W.cell? ⟨w.heap.size, 1, none⟩ = some (.int .i64 mg) ∧ W.cell? ⟨w.heap.size, 2, none⟩ = some (.slice wa wn wc) ∧ W.cell? ⟨w.heap.size, 3, none⟩ = some (.slice pa pn pc) ∧ W.cell? ⟨w.heap.size, 4, none⟩ = some (.slice ca cn cc) ∧ W.cell? ⟨w2.heap.size, 0, none⟩ = some (.int .i64 fr) ∧ W.cell? ⟨w2.heap.size, 1, none⟩ = some (.int .i64 mg) ∧ W.cell? ⟨w2.heap.size, 2, none⟩ = some (.slice wa' wn wc') ∧ W.cell? ⟨w2.heap.size, 3, none⟩ = some (.slice pa' pn pc') ∧ W.cell? ⟨w2.heap.size, 4, none⟩ = some (.slice ca' cn cc')) := by
        intro W h
        have y1 := fun (i : Nat) (u : Value) (hu : (#[.int .i64 fr, .int .i64 mg, .slice wa wn wc, .slice pa pn pc, .slice ca cn cc] : Array Value)[i]? = some u) => (h.cell (p := ⟨w.heap.size, i, none⟩) (by simp; omega)).trans ((World.cell?_alloc_lt _ _ _ (by show w.heap.size < _; omega)).trans ((hb2.cell (p := ⟨w.heap.size, i, none⟩) (by show w.heap.size < _; omega)).trans ((hb1.cell (p := ⟨w.heap.size, i, none⟩) (by simp)).trans (HBX.out i _ hu))))
        have y2 := fun (i : Nat) (u : Value) (hu : (#[.int .i64 fr, .int .i64 mg, .slice wa' wn wc', .slice pa' pn pc', .slice ca' cn cc'] : Array Value)[i]? = some u) => (h.cell (p := ⟨w2.heap.size, i, none⟩) (by simp)).trans (cell_in (heap_alloc_new w2 _) hu)
        exact ⟨h, y1 0 _ rfl, y1 1 _ rfl, y1 2 _ rfl, y1 3 _ rfl, y1 4 _ rfl, y2 0 _ rfl, y2 1 _ rfl, y2 2 _ rfl, y2 3 _ rfl, y2 4 _ rfl⟩
      have KS := Lib.hid ks; have HV2 := Lib.hid hV2
      have cn1 : ∀ W : World, Below (w2.alloc (.cells #[.int .i64 fr, .int .i64 mg, .slice wa' wn wc', .slice pa' pn pc', .slice ca' cn cc'] 58)).heap.size (w2.alloc (.cells #[.int .i64 fr, .int .i64 mg, .slice wa' wn wc', .slice pa' pn pc', .slice ca' cn cc'] 58)) W → Calls Try.prog 21 #[.agg #[.int .i64 fr, .int .i64 mg, .slice wa' wn wc', .slice pa' pn pc', .slice ca' cn cc'], .int .i64 p, .slice la ln lc] W fun e w' => e = .returned (.bool (namesB pn p l)) ∧ Below W.heap.size W w' := fun W h =>
        names_any _ _ _ _ _ _ _ _ _ _ _ _ _ _ _ W 0 w.heap.size l HLN.out (HLL.out.keep (SameIn.of_below (HV2.out.trans (h.mono HV2.out.size)) (Nat.le_refl _))) (HV2.out.trans (h.mono HV2.out.size)).size (by omega) (by omega)
      have cn2 : ∀ W : World, Below (w2.alloc (.cells #[.int .i64 fr, .int .i64 mg, .slice wa' wn wc', .slice pa' pn pc', .slice ca' cn cc'] 58)).heap.size (w2.alloc (.cells #[.int .i64 fr, .int .i64 mg, .slice wa' wn wc', .slice pa' pn pc', .slice ca' cn cc'] 58)) W → Calls Try.prog 22 #[.agg #[.int .i64 fr, .int .i64 mg, .slice wa wn wc, .slice pa pn pc, .slice ca cn cc], .int .i64 p, .slice la ln lc] W fun e w' => e = .returned (.bool (namesB pn p l)) ∧ Below W.heap.size W w' := fun W h =>
        refNames_any _ _ _ _ _ _ _ _ _ _ _ _ _ _ _ W 0 w.heap.size l HLN.out (HLL.out.keep (SameIn.of_below (HV2.out.trans (h.mono HV2.out.size)) (Nat.le_refl _))) (HV2.out.trans (h.mono HV2.out.size)).size (by omega)
      have CN1 := Lib.hid cn1; have CN2 := Lib.hid cn2
      clear ks hV2 hB2 hb1 hb2 cn1 cn2 z0 z1 z2 z3 z4
      obtain ⟨_, k0, k1, k2, k3, k4, k5, k6, k7, k8, k9⟩ := KS.out _ (Below.refl _ _)
      go_region_held3 (fun W => Below (w2.alloc (.cells #[.int .i64 fr, .int .i64 mg, .slice wa' wn wc', .slice pa' pn pc', .slice ca' cn cc'] 58)).heap.size (w2.alloc (.cells #[.int .i64 fr, .int .i64 mg, .slice wa' wn wc', .slice pa' pn pc', .slice ca' cn cc'] 58)) W ∧ W.cell? ⟨w.heap.size, 0, none⟩ = some (.int .i64 fr) ∧ W.cell? ⟨w.heap.size, 1, none⟩ = some (.int .i64 mg) ∧ W.cell? ⟨w.heap.size, 2, none⟩ = some (.slice wa wn wc) ∧ W.cell? ⟨w.heap.size, 3, none⟩ = some (.slice pa pn pc) ∧ W.cell? ⟨w.heap.size, 4, none⟩ = some (.slice ca cn cc) ∧ W.cell? ⟨w2.heap.size, 0, none⟩ = some (.int .i64 fr) ∧ W.cell? ⟨w2.heap.size, 1, none⟩ = some (.int .i64 mg) ∧ W.cell? ⟨w2.heap.size, 2, none⟩ = some (.slice wa' wn wc') ∧ W.cell? ⟨w2.heap.size, 3, none⟩ = some (.slice pa' pn pc') ∧ W.cell? ⟨w2.heap.size, 4, none⟩ = some (.slice ca' cn cc'))
        (first | exact KS.out _ ((Below.refl _ _).drew) | exact KS.out _ (by assumption))
        (first
          | (go_at_call 19; refine (has_any _ _ _ _ _ _ _ _ _ _ _ _ _).mono ?_; rintro e w3 ⟨rfl, hb3⟩; have hbn : Below (w2.alloc (.cells #[.int .i64 fr, .int .i64 mg, .slice wa' wn wc', .slice pa' pn pc', .slice ca' cn cc'] 58)).heap.size (w2.alloc (.cells #[.int .i64 fr, .int .i64 mg, .slice wa' wn wc', .slice pa' pn pc', .slice ca' cn cc'] 58)) w3 := (by go_split_ands; exact bel_go2 (by assumption) hb3))
          | (go_at_call 20; refine (refHas_any _ _ _ _ _ _ _ _ _ _ _ _ _).mono ?_; rintro e w3 ⟨rfl, hb3⟩; have hbn : Below (w2.alloc (.cells #[.int .i64 fr, .int .i64 mg, .slice wa' wn wc', .slice pa' pn pc', .slice ca' cn cc'] 58)).heap.size (w2.alloc (.cells #[.int .i64 fr, .int .i64 mg, .slice wa' wn wc', .slice pa' pn pc', .slice ca' cn cc'] 58)) w3 := (by go_split_ands; exact bel_go2 (by assumption) hb3))
          | (go_at_call 21; refine (CN1.out _ (by go_split_ands; assumption)).mono ?_; rintro e w3 ⟨rfl, hb3⟩; have hbn : Below (w2.alloc (.cells #[.int .i64 fr, .int .i64 mg, .slice wa' wn wc', .slice pa' pn pc', .slice ca' cn cc'] 58)).heap.size (w2.alloc (.cells #[.int .i64 fr, .int .i64 mg, .slice wa' wn wc', .slice pa' pn pc', .slice ca' cn cc'] 58)) w3 := (by go_split_ands; exact bel_go2 (by assumption) hb3))
          | (go_at_call 22; refine (CN2.out _ (by go_split_ands; assumption)).mono ?_; rintro e w3 ⟨rfl, hb3⟩; have hbn : Below (w2.alloc (.cells #[.int .i64 fr, .int .i64 mg, .slice wa' wn wc', .slice pa' pn pc', .slice ca' cn cc'] 58)).heap.size (w2.alloc (.cells #[.int .i64 fr, .int .i64 mg, .slice wa' wn wc', .slice pa' pn pc', .slice ca' cn cc'] 58)) w3 := (by go_split_ands; exact bel_go2 (by assumption) hb3))
          | (go_at_call 8; refine (knows3_any _).mono ?_; rintro e w3 ⟨rfl, hb3⟩; have hbn : Below (w2.alloc (.cells #[.int .i64 fr, .int .i64 mg, .slice wa' wn wc', .slice pa' pn pc', .slice ca' cn cc'] 58)).heap.size (w2.alloc (.cells #[.int .i64 fr, .int .i64 mg, .slice wa' wn wc', .slice pa' pn pc', .slice ca' cn cc'] 58)) w3 := (by go_split_ands; exact bel_go2 (by assumption) hb3)))
      go_wp2_with fail
      go_ret
      exact ⟨rfl, HV2.out.trans (hbn.mono HV2.out.size)⟩
end Go.Proofs.Ythddfkdppnjeaaa
