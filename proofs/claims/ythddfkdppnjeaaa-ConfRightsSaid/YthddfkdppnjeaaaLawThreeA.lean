/- The walk of a statement of the layer of systems: which tasks, servers and partitions may be. -/
import Derived.Test.YthddfkdppnjeaaaConfI
import Derived.Test.YthddfkdppnjeaaaConfE
namespace Go.Proofs.Ythddfkdppnjeaaa
open Go.ChangeShapes Go.WideShapes Go.ChangeAt Go.RowKit
set_option linter.unusedVariables false
attribute [local go_sem ↓] Go.wp_at_zero Go.wp_at_succ

theorem bel_go {V W w1 : World} (h : Below V.heap.size V W) (k : Below W.heap.size W w1) : Below V.heap.size V w1 := h.trans (k.mono h.size)

set_option maxRecDepth 100000 in
set_option maxHeartbeats 4000000 in
theorem ConfRights_walk (b0 : Bool) (t0 d0 v0 lo0 top0 : Int) (b1 : Bool) (c1 t1 : Int) (ta sa da : Option Addr) (tn tc sn sc dn dc : Nat) (x0 x1 x2 : Int) (w : World) (ts : List Tk) (ss : List Sv) (ds : List Int) (htn : ts.length = tn) (hsn : ss.length = sn) (hdn : ds.length = dn)
    (hts : Lies w 0 w.heap.size (.slice ta tn tc) tn 6 (ts.flatMap Tk.cells)) (hss : Lies w 0 w.heap.size (.slice sa sn sc) sn 3 (ss.flatMap Sv.cells)) (hds : Lies w 0 w.heap.size (.slice da dn dc) dn 1 (ds.flatMap intCells)) :
    Calls Try.prog 3 #[.agg #[.bool b0, .int .i64 t0, .int .i64 d0, .int .i64 v0, .int .i64 lo0, .int .i64 top0], .agg #[.bool b1, .int .i64 c1, .int .i64 t1], .agg #[.slice ta tn tc, .slice sa sn sc, .slice da dn dc, .int .u8 x0, .int .u8 x1, .int .u8 x2]] w fun e w' => e = .returned (.bool true) ∧ Below w.heap.size w w' := by
  have HTN := Lib.hid htn; have HSN := Lib.hid hsn; have HDN := Lib.hid hdn
  have HT := Lib.hid hts; have HS := Lib.hid hss; have HD := Lib.hid hds
  clear hts hss hds htn hsn hdn
  by_cases hf : tn ≤ 20 ∧ sn ≤ 20 ∧ dn ≤ 20
  · obtain ⟨f1, f2, f3⟩ := hf
    have hfew : (decide (tn ≤ 20) && (decide (sn ≤ 20) && decide (dn ≤ 20))) = true := by simp [f1, f2, f3]
    have HF := Lib.hid hfew; clear hfew
    go_enter Try.func3, Try.ntmps3
    go_wp2_with (first | (go_at_call 7; refine (few_any _ _ _ _ _ _ _ _ _ _ _ _ _).mono ?_; rintro e V ⟨rfl, hb⟩; rw [HF.out]))
    have hz := hb.size
    simp at hz
    have hbV : Below w.heap.size w V := Below.trans (by repeat first | exact Below.refl _ _ | refine Below.drew ?_ | refine b_alloc ?_ (Nat.le_refl _) _) (hb.mono (by simp; omega))
    have hV : V.cell? ⟨w.heap.size, 0, none⟩ = some (.bool b0) ∧ V.cell? ⟨w.heap.size, 1, none⟩ = some (.int .i64 t0) ∧ V.cell? ⟨w.heap.size, 2, none⟩ = some (.int .i64 d0) ∧ V.cell? ⟨w.heap.size, 3, none⟩ = some (.int .i64 v0) ∧ V.cell? ⟨w.heap.size, 4, none⟩ = some (.int .i64 lo0) ∧ V.cell? ⟨w.heap.size, 5, none⟩ = some (.int .i64 top0) ∧ V.cell? ⟨w.heap.size + 1, 0, none⟩ = some (.bool b1) ∧ V.cell? ⟨w.heap.size + 1, 1, none⟩ = some (.int .i64 c1) ∧ V.cell? ⟨w.heap.size + 1, 2, none⟩ = some (.int .i64 t1) ∧ V.cell? ⟨w.heap.size + 1 + 1, 0, none⟩ = some (.slice ta tn tc) ∧ V.cell? ⟨w.heap.size + 1 + 1, 1, none⟩ = some (.slice sa sn sc) ∧ V.cell? ⟨w.heap.size + 1 + 1, 2, none⟩ = some (.slice da dn dc) ∧ V.cell? ⟨w.heap.size + 1 + 1, 3, none⟩ = some (.int .u8 x0) ∧ V.cell? ⟨w.heap.size + 1 + 1, 4, none⟩ = some (.int .u8 x1) ∧ V.cell? ⟨w.heap.size + 1 + 1, 5, none⟩ = some (.int .u8 x2) := by
      refine ⟨?_, ?_, ?_, ?_, ?_, ?_, ?_, ?_, ?_, ?_, ?_, ?_, ?_, ?_, ?_⟩ <;> (rw [hb.cell (by simp; try omega)]; simp only [World.cell?, heap_at, World.size_alloc]; simp [Nat.add_assoc])
    have ks : ∀ W : World, Below V.heap.size V W → (Below V.heap.size V W ∧ W.cell? ⟨w.heap.size, 0, none⟩ = some (.bool b0) ∧ W.cell? ⟨w.heap.size, 1, none⟩ = some (.int .i64 t0) ∧ W.cell? ⟨w.heap.size, 2, none⟩ = some (.int .i64 d0) ∧ W.cell? ⟨w.heap.size, 3, none⟩ = some (.int .i64 v0) ∧ W.cell? ⟨w.heap.size, 4, none⟩ = some (.int .i64 lo0) ∧ W.cell? ⟨w.heap.size, 5, none⟩ = some (.int .i64 top0) ∧ W.cell? ⟨w.heap.size + 1, 0, none⟩ = some (.bool b1) ∧ W.cell? ⟨w.heap.size + 1, 1, none⟩ = some (.int .i64 c1) ∧ W.cell? ⟨w.heap.size + 1, 2, none⟩ = some (.int .i64 t1) ∧ W.cell? ⟨w.heap.size + 1 + 1, 0, none⟩ = some (.slice ta tn tc) ∧ W.cell? ⟨w.heap.size + 1 + 1, 1, none⟩ = some (.slice sa sn sc) ∧ W.cell? ⟨w.heap.size + 1 + 1, 2, none⟩ = some (.slice da dn dc) ∧ W.cell? ⟨w.heap.size + 1 + 1, 3, none⟩ = some (.int .u8 x0) ∧ W.cell? ⟨w.heap.size + 1 + 1, 4, none⟩ = some (.int .u8 x1) ∧ W.cell? ⟨w.heap.size + 1 + 1, 5, none⟩ = some (.int .u8 x2)) := by
      intro W h
      refine ⟨h, ?_⟩
      simp only [h.cell (p := ⟨w.heap.size, _, none⟩) (by simp; omega), h.cell (p := ⟨w.heap.size + 1, _, none⟩) (by simp; omega), h.cell (p := ⟨w.heap.size + 1 + 1, _, none⟩) (by simp; omega)]
      exact hV
    have cp : ∀ W : World, Below V.heap.size V W → Calls Try.prog 14 #[.agg #[.slice ta tn tc, .slice sa sn sc, .slice da dn dc, .int .u8 x0, .int .u8 x1, .int .u8 x2]] W fun e w' => ∃ ta' tc' sa' sc' da' dc', e = .returned (.agg #[.slice ta' tn tc', .slice sa' sn sc', .slice da' dn dc', .int .u8 x0, .int .u8 x1, .int .u8 x2]) ∧
        Lies w' (W.heap.size + 2) w'.heap.size (.slice ta' tn tc') tn 6 (ts.flatMap Tk.cells) ∧ Lies w' (W.heap.size + 2) w'.heap.size (.slice sa' sn sc') sn 3 (ss.flatMap Sv.cells) ∧ Below W.heap.size W w' := by
      intro W h
      have hw : Below w.heap.size w W := hbV.trans (h.mono hbV.size)
      refine (part_any ta sa da tn tc sn sc dn dc x0 x1 x2 W 0 w.heap.size ts ss ds HTN.out HSN.out HDN.out (HT.out.keep (SameIn.of_below hw (Nat.le_refl _))) (HS.out.keep (SameIn.of_below hw (Nat.le_refl _))) (HD.out.keep (SameIn.of_below hw (Nat.le_refl _))) hw.size (by omega) (by omega) (by omega)).mono ?_
      rintro e w' ⟨ta', tc', sa', sc', da', dc', rfl, o1, o2, o3, hb'⟩
      exact ⟨ta', tc', sa', sc', da', dc', rfl, Lies.of_owns o1, Lies.of_owns o2, hb'⟩
    have cr : ∀ W : World, Below V.heap.size V W → Calls Try.prog 16 #[.agg #[.slice ta tn tc, .slice sa sn sc, .slice da dn dc, .int .u8 x0, .int .u8 x1, .int .u8 x2]] W fun e w' => e = .returned (.int .i64 (wrongOf ts ss x0 x1 x2)) ∧ Below W.heap.size W w' := by
      intro W h
      have hw : Below w.heap.size w W := hbV.trans (h.mono hbV.size)
      exact refRights_any ta sa da tn tc sn sc dn dc x0 x1 x2 W 0 w.heap.size ts ss HTN.out HSN.out (HT.out.keep (SameIn.of_below hw (Nat.le_refl _))) (HS.out.keep (SameIn.of_below hw (Nat.le_refl _))) hw.size (by omega) (by omega)
    have KS := Lib.hid ks; have CP := Lib.hid cp; have CR := Lib.hid cr; have HBV := Lib.hid hbV
    obtain ⟨k0, k1, k2, k3, k4, k5, k6, k7, k8, k9, k10, k11, k12, k13, k14⟩ := hV
    clear ks cp cr hbV hb
    go_region_held3 (fun W => Below V.heap.size V W ∧ W.cell? ⟨w.heap.size, 0, none⟩ = some (.bool b0) ∧ W.cell? ⟨w.heap.size, 1, none⟩ = some (.int .i64 t0) ∧ W.cell? ⟨w.heap.size, 2, none⟩ = some (.int .i64 d0) ∧ W.cell? ⟨w.heap.size, 3, none⟩ = some (.int .i64 v0) ∧ W.cell? ⟨w.heap.size, 4, none⟩ = some (.int .i64 lo0) ∧ W.cell? ⟨w.heap.size, 5, none⟩ = some (.int .i64 top0) ∧ W.cell? ⟨w.heap.size + 1, 0, none⟩ = some (.bool b1) ∧ W.cell? ⟨w.heap.size + 1, 1, none⟩ = some (.int .i64 c1) ∧ W.cell? ⟨w.heap.size + 1, 2, none⟩ = some (.int .i64 t1) ∧ W.cell? ⟨w.heap.size + 1 + 1, 0, none⟩ = some (.slice ta tn tc) ∧ W.cell? ⟨w.heap.size + 1 + 1, 1, none⟩ = some (.slice sa sn sc) ∧ W.cell? ⟨w.heap.size + 1 + 1, 2, none⟩ = some (.slice da dn dc) ∧ W.cell? ⟨w.heap.size + 1 + 1, 3, none⟩ = some (.int .u8 x0) ∧ W.cell? ⟨w.heap.size + 1 + 1, 4, none⟩ = some (.int .u8 x1) ∧ W.cell? ⟨w.heap.size + 1 + 1, 5, none⟩ = some (.int .u8 x2))
      (first | exact KS.out _ ((Below.refl _ _).drew) | exact KS.out _ (by assumption))
      (first
        | (go_at_call 9; refine (taskRight_any _ _ _ _ _ _ _).mono ?_; rintro e w1 ⟨rfl, hb1⟩; have hbn : Below V.heap.size V w1 := (by go_split_ands; exact bel_go (by assumption) hb1))
        | (go_at_call 10; refine (refTask_any _ _ _ _ _ _ _).mono ?_; rintro e w1 ⟨rfl, hb1⟩; have hbn : Below V.heap.size V w1 := (by go_split_ands; exact bel_go (by assumption) hb1))
        | (go_at_call 11; refine (serverRight_any _ _ _ _).mono ?_; rintro e w1 ⟨rfl, hb1⟩; have hbn : Below V.heap.size V w1 := (by go_split_ands; exact bel_go (by assumption) hb1))
        | (go_at_call 12; refine (refServer_any _ _ _ _).mono ?_; rintro e w1 ⟨rfl, hb1⟩; have hbn : Below V.heap.size V w1 := (by go_split_ands; exact bel_go (by assumption) hb1))
        | (go_at_call 14; refine (CP.out _ (by go_split_ands; assumption)).mono ?_; rintro e w1 ⟨ta', tc', sa', sc', da', dc', rfl, o1, o2, hb1⟩; have hbn : Below V.heap.size V w1 := (by go_split_ands; exact bel_go (by assumption) hb1); have O1 := Lib.hid o1; have O2 := Lib.hid o2; clear o1 o2)
        | (go_at_call 15; refine (rights_any _ _ _ _ _ _ _ _ _ _ _ _ _ _ _ ts ss HTN.out HSN.out O1.out O2.out (Nat.le_refl _) (by omega) (by omega)).mono ?_; rintro e w1 ⟨rfl, hb1⟩; have hbn : Below V.heap.size V w1 := (by go_split_ands; exact bel_go (by assumption) hb1))
        | (go_at_call 13; refine (num_any _ _).mono ?_; rintro e w1 ⟨rfl, hb1⟩; have hbn : Below V.heap.size V w1 := (by go_split_ands; exact bel_go (by assumption) hb1))
        | (go_at_call 16; refine (CR.out _ (by go_split_ands; assumption)).mono ?_; rintro e w1 ⟨rfl, hb1⟩; have hbn : Below V.heap.size V w1 := (by go_split_ands; exact bel_go (by assumption) hb1))
        | (go_at_call 8; refine (knows3_any _).mono ?_; rintro e w1 ⟨rfl, hb1⟩; have hbn : Below V.heap.size V w1 := (by go_split_ands; exact bel_go (by assumption) hb1)))
    go_wp2_with fail
    go_ret
    exact ⟨rfl, HBV.out.trans (hbn.mono HBV.out.size)⟩
  · have hfew : (decide (tn ≤ 20) && (decide (sn ≤ 20) && decide (dn ≤ 20))) = false := by
      rw [Bool.eq_false_iff]; intro h; simp at h; omega
    have HF := Lib.hid hfew; clear hfew
    go_enter Try.func3, Try.ntmps3
    go_wp2_with (first | (go_at_call 7; refine (few_any _ _ _ _ _ _ _ _ _ _ _ _ _).mono ?_; rintro e V ⟨rfl, hb⟩; rw [HF.out]) | (go_at_call 8; refine (knows3_any _).mono ?_; rintro e w2 ⟨rfl, hb2⟩))
    go_ret
    exact ⟨rfl, Below.trans (by repeat first | exact Below.refl _ _ | refine Below.drew ?_ | refine b_alloc ?_ (Nat.le_refl _) _) ((hb.trans (hb2.mono hb.size)).mono (by simp; omega))⟩
end Go.Proofs.Ythddfkdppnjeaaa
