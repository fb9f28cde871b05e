/- No partition, and one that nobody made. -/
import Derived.Test.YtchbehnkkcjdgaaGreatPartA
namespace Go.Proofs.YtchbehnkkcjdgaaGreat
open Go.ChangeShapes Go.WideShapes Go.ChangeAt Go.RowKit
set_option linter.unusedVariables false

def zeroPg : Obj := .cells #[.pointer none, .pointer none, .slice none 0 0, .bool false] 109 (0, 0)
/-- The pointer of none, or of one that nobody made. -/
def NoPg (a : Option Addr) (w : World) : Prop := a = none ∨ ∃ H, a = some ⟨H, 0, none⟩ ∧ w.heap[H]? = some zeroPg
theorem NoPg.later {a : Option Addr} {w w' : World} (h : NoPg a w) (hb : Below w.heap.size w w') : NoPg a w' := by
  rcases h with h | ⟨H, h1, h2⟩
  · exact .inl h
  · exact .inr ⟨H, h1, (hb.block H (lt_of_block h2)).trans h2⟩
set_option maxRecDepth 100000 in
set_option maxHeartbeats 4000000 in
theorem nmade_any (a : Option Addr) (w : World) (h : NoPg a w) : Calls Tryz.prog 67 #[.pointer a] w fun e w' => e = .returned (.bool false) ∧ w' = w := by
  rcases h with rfl | ⟨H, rfl, h⟩
  · go_enter Tryz.func67, Tryz.ntmps67
    go_wp2
    go_ret
    exact ⟨rfl, rfl⟩
  · have c0 : w.cell? ⟨H, 0, none⟩ = some (.pointer none) := cell_in h rfl
    clear h
    go_enter Tryz.func67, Tryz.ntmps67
    go_wp2
    go_ret
    exact ⟨rfl, rfl⟩
set_option maxRecDepth 100000 in
set_option maxHeartbeats 4000000 in
theorem nup_any (a : Option Addr) (w : World) (h : NoPg a w) : Calls Tryz.prog 30 #[.pointer a] w fun e w' => e = .returned (.bool false) ∧ w' = w := by
  rcases h with rfl | ⟨H, rfl, h⟩
  · go_enter Tryz.func30, Tryz.ntmps30
    go_wp2
    go_ret
    exact ⟨rfl, rfl⟩
  · have c0 : w.cell? ⟨H, 3, none⟩ = some (.bool false) := cell_in h rfl
    clear h
    go_enter Tryz.func30, Tryz.ntmps30
    go_wp2
    go_ret
    exact ⟨rfl, rfl⟩
set_option maxRecDepth 100000 in
set_option maxHeartbeats 4000000 in
theorem nhas_any (a : Option Addr) (s : Int) (w : World) (h : NoPg a w) : Calls Tryz.prog 65 #[.pointer a, .int .i64 s] w fun e w' => e = .returned (.bool false) ∧ w' = w := by
  rcases h with rfl | ⟨H, rfl, h⟩
  · go_enter Tryz.func65, Tryz.ntmps65
    go_wp2
    go_ret
    exact ⟨rfl, rfl⟩
  · have c0 : w.cell? ⟨H, 2, none⟩ = some (.slice none 0 0) := cell_in h rfl
    clear h
    by_cases h0 : s < 0
    · have d0 : decide (0 ≤ s) = false := decide_eq_false (by omega)
      go_enter Tryz.func65, Tryz.ntmps65
      go_wp2
      go_ret
      exact ⟨rfl, rfl⟩
    · have d0 : decide (0 ≤ s) = true := decide_eq_true (by omega)
      have d1 : decide (s < 0) = false := decide_eq_false h0
      go_enter Tryz.func65, Tryz.ntmps65
      go_wp2
      go_ret
      exact ⟨rfl, rfl⟩
set_option maxRecDepth 100000 in
set_option maxHeartbeats 4000000 in
theorem nopen_any (a : Option Addr) (w : World) (h : NoPg a w) : Calls Tryz.prog 60 #[.pointer a] w fun e w' => e = .returned (.int .i64 1) ∧ w' = w := by
  have HM := Lib.hid (nmade_any a w h)
  clear h
  go_enter Tryz.func60, Tryz.ntmps60
  go_wp2_with (first
    | (go_at_call 67; refine HM.out.mono ?_; rintro e w20 ⟨rfl, hw20⟩; rw [hw20]; clear hw20)
    | fail "no arm")
  go_ret
  exact ⟨rfl, rfl⟩
set_option maxRecDepth 100000 in
set_option maxHeartbeats 4000000 in
theorem nhigh_any (a : Option Addr) (w : World) (h : NoPg a w) : Calls Tryz.prog 31 #[.pointer a] w fun e w' => e = .returned (.bool false) ∧ w' = w := by
  have HM := Lib.hid (nmade_any a w h)
  clear h
  go_enter Tryz.func31, Tryz.ntmps31
  go_wp2_with (first
    | (go_at_call 67; refine HM.out.mono ?_; rintro e w20 ⟨rfl, hw20⟩; rw [hw20]; clear hw20)
    | fail "no arm")
  go_ret
  exact ⟨rfl, rfl⟩
set_option maxRecDepth 100000 in
set_option maxHeartbeats 4000000 in
theorem nstop_any (a : Option Addr) (w : World) (h : NoPg a w) : Calls Tryz.prog 24 #[.pointer a] w fun e w' => e = .returned (.tuple #[]) ∧ w' = w := by
  have HM := Lib.hid (nmade_any a w h)
  clear h
  go_enter Tryz.func24, Tryz.ntmps24
  go_wp2_with (first
    | (go_at_call 67; refine HM.out.mono ?_; rintro e w20 ⟨rfl, hw20⟩; rw [hw20]; clear hw20)
    | fail "no arm")
  refine bodyPost_ret (results_none rfl _ _ _) rfl ?_
  exact ⟨rfl, rfl⟩
set_option maxRecDepth 100000 in
set_option maxHeartbeats 4000000 in
theorem nrestart_any (a : Option Addr) (w : World) (h : NoPg a w) : Calls Tryz.prog 26 #[.pointer a] w fun e w' => e = .returned (.tuple #[]) ∧ w' = w := by
  have HM := Lib.hid (nmade_any a w h)
  have HS := Lib.hid (nstop_any a w h)
  clear h
  go_enter Tryz.func26, Tryz.ntmps26
  go_wp2_with (first
    | (go_at_call 67; refine HM.out.mono ?_; rintro e w20 ⟨rfl, hw20⟩; rw [hw20]; clear hw20)
    | (go_at_call 24; refine HS.out.mono ?_; rintro e w20 ⟨rfl, hw20⟩; rw [hw20]; clear hw20)
    | fail "no arm")
  go_end0
  exact ⟨rfl, rfl⟩
set_option maxRecDepth 100000 in
set_option maxHeartbeats 8000000 in
theorem npick_any (a : Option Addr) (w : World) (h : NoPg a w) : Calls Tryz.prog 28 #[.pointer a] w fun e w' => e = .returned (.tuple #[.agg #[.bool false, .int .i64 0], .bool false]) ∧ Below w.heap.size w w' := by
  obtain ⟨E, hE⟩ : ∃ E, E = w.heap.size := ⟨_, rfl⟩
  obtain ⟨V, hV⟩ : ∃ V, V = w.alloc (.cells #[.bool false, .int .i64 0] 52) := ⟨_, rfl⟩
  have hbV : Below w.heap.size w V := by rw [hV]; exact below1 _ _
  have hEV : V.heap[E]? = some (.cells #[.bool false, .int .i64 0] 52 (0, 0)) := by rw [hV, hE]; exact heap_alloc_new _ _
  have HU := Lib.hid (nup_any a V (h.later hbV))
  have HBV := Lib.hid hbV
  have HEV := Lib.hid hEV
  have HV := Lib.hid hV
  have HE := Lib.hid hE
  have r0 := cell_in (j := 0) hEV rfl
  have r1 := cell_in (j := 1) hEV rfl
  have s0 := free_in hEV 0
  have s1 := free_in hEV 1
  clear h hV hE hEV hbV
  go_enter Tryz.func28, Tryz.ntmps28
  go_upto_region 1 with fail
  rw [← HV.out, ← HE.out]
  go_wp2_with (first
    | (go_at_call 30; refine HU.out.mono ?_; rintro e w3 ⟨rfl, hw3⟩; rw [hw3]; clear hw3)
    | fail "no arm")
  refine bodyPost_ret (results_pairT (P := Tryz.prog) rfl _ _ E _ _ (0, 0) _ _ rfl rfl (set2q HEV.out rfl (.bool false) (.int .i64 0)) Tryz.underlying52 rfl Tryz.sizeWh20) rfl ?_
  exact ⟨rfl, (HBV.out.setCell (p := ⟨E, 0, none⟩) (Nat.le_of_eq HE.out.symm) _).setCell (p := ⟨E, 1, none⟩) (Nat.le_of_eq HE.out.symm) _⟩
set_option maxRecDepth 100000 in
set_option maxHeartbeats 8000000 in
theorem nrun_any (a : Option Addr) (w : World) (h : NoPg a w) : Calls Tryz.prog 16 #[.pointer a] w fun e w' => e = .returned (.tuple #[.agg #[.bool false, .int .i64 0], .agg #[.int .i64 0, .int .i64 0, .int .i64 0], .slice none 0 0]) ∧ Below w.heap.size w w' := by
  obtain ⟨E, hE⟩ : ∃ E, E = w.heap.size := ⟨_, rfl⟩
  obtain ⟨E2, hE2⟩ : ∃ E2, E2 = w.heap.size + 1 := ⟨_, rfl⟩
  obtain ⟨V, hV⟩ : ∃ V, V = (w.alloc (.cells #[.bool false, .int .i64 0] 52)).alloc (.cells #[.int .i64 0, .int .i64 0, .int .i64 0] 54) := ⟨_, rfl⟩
  have hbV : Below w.heap.size w V := by rw [hV]; exact b_alloc (below1 _ _) (Nat.le_refl _) _
  have hEV : V.heap[E]? = some (.cells #[.bool false, .int .i64 0] 52 (0, 0)) := by
    rw [hV, hE]
    exact ((below1 (w.alloc (.cells #[.bool false, .int .i64 0] 52)) _).block _ (by simp)).trans (heap_alloc_new _ _)
  have hEV2 : V.heap[E2]? = some (.cells #[.int .i64 0, .int .i64 0, .int .i64 0] 54 (0, 0)) := by
    rw [hV, hE2]
    have := heap_alloc_new (w.alloc (.cells #[.bool false, .int .i64 0] 52)) (.cells #[.int .i64 0, .int .i64 0, .int .i64 0] 54)
    simpa using this
  have HP := Lib.hid (npick_any a V (h.later hbV))
  have HBV := Lib.hid hbV
  have HEV := Lib.hid hEV
  have HEV2 := Lib.hid hEV2
  have HEE : Hid (E ≠ E2) := Lib.hid (by omega)
  have HV := Lib.hid hV
  have HE := Lib.hid hE
  have HE2 := Lib.hid hE2
  clear h hV hE hE2 hEV hEV2 hbV
  go_enter Tryz.func16, Tryz.ntmps16
  go_upto_region 1 with fail
  rw [← HV.out, ← HE2.out, ← HE.out]
  go_upto_region 2 with (first
    | (go_at_call 28; refine HP.out.mono ?_; rintro e w3 ⟨rfl, hb3'⟩; have hb3 := Lib.hid hb3'; clear hb3')
    | fail "no arm")
  obtain ⟨V3, hV3⟩ : ∃ V3, V3 = w3.alloc (.cells #[.bool false, .int .i64 0] 52) := ⟨_, rfl⟩
  have hb4 : Below V.heap.size V V3 := by rw [hV3]; exact hb3.out.trans ((below1 _ _).mono hb3.out.size)
  have HB4 := Lib.hid hb4
  have HEE3 := Lib.hid ((hb4.block E (lt_of_block HEV.out)).trans HEV.out)
  have HEE4 := Lib.hid ((hb4.block E2 (lt_of_block HEV2.out)).trans HEV2.out)
  have z0 := cell_in (j := 0) HEE3.out rfl
  have z1 := cell_in (j := 1) HEE3.out rfl
  have z2 := free_in HEE3.out 0
  have z3 := free_in HEE3.out 1
  have y0 := cell_in (j := 0) HEE4.out rfl
  have y1 := cell_in (j := 1) HEE4.out rfl
  have y2 := cell_in (j := 2) HEE4.out rfl
  have y3 := free_in HEE4.out 0
  have y4 := free_in HEE4.out 1
  have y5 := free_in HEE4.out 2
  have hE12 := HEE.out
  have hE21 : E2 ≠ E := fun e => HEE.out e.symm
  rw [← hV3]
  clear hV3 hb4
  go_wp2_with fail
  have hB1 : But E V3 ((V3.setCell ⟨E, 0, none⟩ (.bool false)).setCell ⟨E, 1, none⟩ (.int .i64 0)) := ((But.refl E V3).set 0 _).set 1 _
  have hB2 : But E2 ((V3.setCell ⟨E, 0, none⟩ (.bool false)).setCell ⟨E, 1, none⟩ (.int .i64 0)) (((((V3.setCell ⟨E, 0, none⟩ (.bool false)).setCell ⟨E, 1, none⟩ (.int .i64 0)).setCell ⟨E2, 0, none⟩ (.int .i64 0)).setCell ⟨E2, 1, none⟩ (.int .i64 0)).setCell ⟨E2, 2, none⟩ (.int .i64 0)) := (((But.refl E2 _).set 0 _).set 1 _).set 2 _
  have m1 := (hB2.block E (by have := lt_of_block HEE3.out; simpa using this) HEE.out).trans (set2q HEE3.out rfl (.bool false) (.int .i64 0))
  have m2 := set3x ((hB1.block E2 (lt_of_block HEE4.out) (fun e => HEE.out e.symm)).trans HEE4.out) rfl (.int .i64 0) (.int .i64 0) (.int .i64 0)
  refine bodyPost_ret (results_two (P := Tryz.prog) rfl _ _ E E2 _ _ _ _ (0, 0) (0, 0) _ _ _ rfl rfl rfl m1 m2 Tryz.underlying52 rfl Tryz.sizeWh20 Tryz.underlying54 rfl Tryz.sizeOp20) rfl ?_
  have hb5 : Below w.heap.size w V3 := HBV.out.trans (HB4.out.mono HBV.out.size)
  have hb6 := hB1.below (B := w.heap.size) (by rw [HE.out]; exact Nat.le_refl _) hb5.size
  exact ⟨rfl, (hb5.trans hb6).trans (hB2.below (by rw [HE2.out]; omega) (Nat.le_trans hb5.size hb6.size))⟩
set_option maxRecDepth 100000 in
set_option maxHeartbeats 4000000 in
theorem nbegin_any (a : Option Addr) (w : World) (now : Int) (h : NoPg a w) : Calls Tryz.prog 14 #[.pointer a, .int .i64 now] w fun e w' => e = .returned (.slice none 0 0) ∧ Below w.heap.size w w' := by
  have HM := Lib.hid (nup_any a w h)
  clear h
  go_enter Tryz.func14, Tryz.ntmps14
  go_wp2_with (first
    | (go_at_call 30; refine HM.out.mono ?_; rintro e w20 ⟨rfl, hw20⟩; rw [hw20]; clear hw20)
    | fail "no arm")
  go_ret
  exact ⟨rfl, Below.refl _ _⟩
set_option maxRecDepth 100000 in
set_option maxHeartbeats 4000000 in
theorem njobs_any (a : Option Addr) (w : World) (h : NoPg a w) : Calls Tryz.prog 33 #[.pointer a] w fun e w' => e = .returned (.slice none 0 0) ∧ Below w.heap.size w w' := by
  have HM := Lib.hid (nmade_any a w h)
  clear h
  go_enter Tryz.func33, Tryz.ntmps33
  go_wp2_with (first
    | (go_at_call 67; refine HM.out.mono ?_; rintro e w20 ⟨rfl, hw20⟩; rw [hw20]; clear hw20)
    | fail "no arm")
  go_ret
  exact ⟨rfl, Below.refl _ _⟩
set_option maxRecDepth 100000 in
set_option maxHeartbeats 4000000 in
theorem nqueue_any (a : Option Addr) (w : World) (s : Int) (h : NoPg a w) : Calls Tryz.prog 35 #[.pointer a, .int .i64 s] w fun e w' => e = .returned (.int .i64 0) ∧ Below w.heap.size w w' := by
  have HM := Lib.hid (nhas_any a s w h)
  clear h
  go_enter Tryz.func35, Tryz.ntmps35
  go_wp2_with (first
    | (go_at_call 65; refine HM.out.mono ?_; rintro e w20 ⟨rfl, hw20⟩; rw [hw20]; clear hw20)
    | fail "no arm")
  go_ret
  exact ⟨rfl, Below.refl _ _⟩
set_option maxRecDepth 100000 in
set_option maxHeartbeats 4000000 in
theorem nrequest_any (a : Option Addr) (w : World) (s n : Int) (h : NoPg a w) : Calls Tryz.prog 22 #[.pointer a, .int .i64 s, .int .i64 n] w fun e w' => e = .returned (.int .i64 1) ∧ Below w.heap.size w w' := by
  have HM := Lib.hid (nopen_any a w h)
  clear h
  go_enter Tryz.func22, Tryz.ntmps22
  go_wp2_with (first
    | (go_at_call 60; refine HM.out.mono ?_; rintro e w20 ⟨rfl, hw20⟩; rw [hw20]; clear hw20)
    | fail "no arm")
  go_ret
  exact ⟨rfl, Below.refl _ _⟩
set_option maxRecDepth 100000 in
set_option maxHeartbeats 4000000 in
theorem narrive_any (a : Option Addr) (w : World) (now t arr work done : Int) (v : Option Addr) (n c : Nat) (h : NoPg a w) : Calls Tryz.prog 19 #[.pointer a, .int .i64 now, .agg #[.int .i64 t, .int .i64 arr, .int .i64 work, .int .i64 done, .slice v n c]] w fun e w' => e = .returned (.int .i64 1) ∧ Below w.heap.size w w' := by
  have hb := below1 w (.cells #[.int .i64 t, .int .i64 arr, .int .i64 work, .int .i64 done, .slice v n c] 66)
  have HM := Lib.hid (nopen_any a _ (h.later hb))
  have HB := Lib.hid hb
  clear h hb
  go_enter Tryz.func19, Tryz.ntmps19
  go_wp2_with (first
    | (go_at_call 60; refine HM.out.mono ?_; rintro e w20 ⟨rfl, hw20⟩; rw [hw20]; clear hw20)
    | fail "no arm")
  go_ret
  exact ⟨rfl, HB.out⟩
end Go.Proofs.YtchbehnkkcjdgaaGreat
