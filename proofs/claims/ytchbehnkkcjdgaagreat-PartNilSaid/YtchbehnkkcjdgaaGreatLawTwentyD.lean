/- PartNil. -/
import Derived.Test.YtchbehnkkcjdgaaGreatPartZ
import Derived.Test.YtchbehnkkcjdgaaGreatActs20
import Derived.Test.YtchbehnkkcjdgaaGreatTaskJ
import Derived.Test.YtchbehnkkcjdgaaGreatTaskE
import Derived.BigQuiet
import Derived.Deep.CutRange
import Derived.Deep.CutBlock
namespace Go.Proofs.YtchbehnkkcjdgaaGreat
open Go.ChangeShapes Go.WideShapes Go.ChangeAt Go.RowKit
set_option linter.unusedVariables false
set_option linter.unusedSimpArgs false

theorem eqInWh (a : Bool) (b : Int) (w : World) : (Op.equalIn 10000 52 (.agg #[.bool a, .int .i64 b]) (.agg #[.bool a, .int .i64 b])).run Tryz.prog w = .ok true w := by
  have hp : Tryz.prog.stoodInHeld 52 = false := by kernel_rfl
  have ht : Tryz.prog.underlying 52 = some (.struct (Tryz.prog.fieldsOf 52)) := by simp [Program.fieldsOf, Tryz.underlying52]
  rw [show (10000 : Nat) = 9999 + 1 from rfl, run_equalIn_agg w 9999 _ _ _ ht hp]
  have rI := fun (a b : Int) => run_equalIn_int (P := Tryz.prog) w 9998 3 .i64 .i64 a b Tryz.underlying3
  have rB := fun (a b : Bool) => run_equalIn_bool (P := Tryz.prog) w 9998 4 a b Tryz.underlying4
  simp [Op.eqFields, part, Program.fieldsOf, Tryz.underlying52, rI, rB]
theorem below_drewPn {B : Nat} {a w : World} (d : Nat) (h : Below B a w) : Below B a (w.drewN d) := ⟨h.os, h.tape, h.output, h.size, h.block⟩
set_option maxRecDepth 100000 in
set_option maxHeartbeats 8000000 in
theorem PartNil_walk (kd s k t arr work done : Int) (oa : Option Addr) (n oc : Nat) (ops : List Wn) (w : World) (hn : ops.length = n) (hl : Lies w 0 w.heap.size (.slice oa n oc) n 3 (ops.flatMap Wn.cells)) :
    Calls Tryz.prog 6 #[.agg #[.int .i64 kd, .int .i64 s, .int .i64 k, .int .i64 t, .int .i64 arr, .int .i64 work, .int .i64 done, .slice oa n oc]] w fun e w' => e = .returned (.bool true) ∧ Below w.heap.size w w' := by
  obtain ⟨V, hV⟩ : ∃ V, V = w.alloc (.cells #[.int .i64 kd, .int .i64 s, .int .i64 k, .int .i64 t, .int .i64 arr, .int .i64 work, .int .i64 done, .slice oa n oc] 45) := ⟨_, rfl⟩
  obtain ⟨E, hE⟩ : ∃ E, E = w.heap.size := ⟨_, rfl⟩
  have hbV : Below w.heap.size w V := by rw [hV]; exact below1 _ _
  have hEV : V.heap[E]? = some (.cells #[.int .i64 kd, .int .i64 s, .int .i64 k, .int .i64 t, .int .i64 arr, .int .i64 work, .int .i64 done, .slice oa n oc] 45 (0, 0)) := by rw [hV, hE]; exact heap_alloc_new _ _
  have KS : Hid (∀ Y, Below V.heap.size V Y → Y.cell? ⟨E, 1, none⟩ = some (.int .i64 s) ∧ Y.cell? ⟨E, 2, none⟩ = some (.int .i64 k) ∧ Y.cell? ⟨E, 3, none⟩ = some (.int .i64 t) ∧ Y.cell? ⟨E, 4, none⟩ = some (.int .i64 arr) ∧ Y.cell? ⟨E, 5, none⟩ = some (.int .i64 work) ∧ Y.cell? ⟨E, 6, none⟩ = some (.int .i64 done) ∧ Y.cell? ⟨E, 7, none⟩ = some (.slice oa n oc)) := Lib.hid (fun Y hY => by
    have h := (hY.block _ (lt_of_block hEV)).trans hEV
    exact ⟨cell_in h rfl, cell_in h rfl, cell_in h rfl, cell_in h rfl, cell_in h rfl, cell_in h rfl, cell_in h rfl⟩)
  have c0 : V.cell? ⟨E, 0, none⟩ = some (.int .i64 kd) := cell_in hEV rfl
  obtain ⟨c1, c2, c3, c4, c5, c6, c7⟩ := KS.out V (Below.refl _ _)
  have HB := Lib.hid hbV
  have HV := Lib.hid hV
  have HE := Lib.hid hE
  have HNN := Lib.hid hn
  have KL : Hid (∀ Y, Below V.heap.size V Y → Lies Y 0 Y.heap.size (.slice oa n oc) n 3 (ops.flatMap Wn.cells)) := Lib.hid (fun Y hY => by
    have hb := hbV.trans (hY.mono hbV.size)
    exact (hl.keep (SameIn.of_below hb (Nat.le_refl _))).wider (Nat.le_refl _) hb.size)
  have HLT := Lib.hid (light20_any (V.alloc (.cells #[.int .i64 kd, .int .i64 s, .int .i64 k, .int .i64 t, .int .i64 arr, .int .i64 work, .int .i64 done, .slice oa n oc] 45)) (some ⟨V.heap.size, 0, none⟩) 1 1 [⟨kd, s, k, t, arr, work, done, .slice oa n oc, ops⟩] rfl ((one_lies (heap_alloc_new _ _) rfl).wider (Nat.zero_le _) (by simp)) (fun x hx => by
    rw [List.mem_singleton.1 hx]
    unfold Ad.Ok
    dsimp only
    rw [hn]
    exact KL.out _ (below1 _ _)))
  have hM : Tryz.prog.eqGuardType Tryz.prog.depth 54 = false := by kernel_rfl
  have hM2 : Tryz.prog.eqGuardType Tryz.prog.depth 52 = false := by kernel_rfl
  have hEQ := eqInTOp 0 0 0
  have hEQ2 := eqInWh false 0
  clear hbV hEV hV hE hn hl
  by_cases hbig : 70 < n
  · have HLV : Hid (lightP [⟨kd, s, k, t, arr, work, done, .slice oa n oc, ops⟩] = false) := Lib.hid (lightP_long (i := 0) (by simp) (by show 70 < ops.length; rw [HNN.out]; exact hbig))
    clear hbig
    go_enter Tryz.func6, Tryz.ntmps6
    go_upto_region 1 with fail
    rw [← HV.out, ← HE.out]
    go_wp2_with (first
      | (go_at_call 8; refine HLT.out.mono ?_; rintro e w3 ⟨rfl, b3⟩; rw [HLV.out]; have hb3 := Lib.hid (HB.out.trans (((below1 V _).trans (b3.mono (below1 V _).size)).mono HB.out.size)); clear b3)
      | (go_at_call 9; have _z := hb3; refine (knows20_any _).mono ?_; rintro e w4 ⟨rfl, b4⟩; have hb4 := Lib.hid (hb3.out.trans (b4.mono hb3.out.size)); clear b4)
      | fail "no arm")
    go_ret
    exact ⟨rfl, hb4.out⟩
  · have hn70 : n ≤ 70 := by omega
    have HLV : Hid (lightP [⟨kd, s, k, t, arr, work, done, .slice oa n oc, ops⟩] = true) := Lib.hid (lightP_yes (by simp) (fun i hi => by
      have : i = 0 := by simpa using hi
      subst this
      show ops.length ≤ 70
      rw [HNN.out]; exact hn70))
    clear hbig
    go_enter Tryz.func6, Tryz.ntmps6
    go_upto_region 1 with fail
    rw [← HV.out, ← HE.out]
    go_wp2_with (first
      | (go_at_call 8; refine HLT.out.mono ?_; rintro e w3 ⟨rfl, b3⟩; rw [HLV.out]; have hb3 := Lib.hid ((below1 V _).trans (b3.mono (below1 V _).size)); clear b3)
      | fail "no arm")
    go_loopw [3, 4] (fun s3 s4 wr => ∃ (i : Nat) (p : Option Addr), i ≤ 2 ∧ s4 = .int .i64 i ∧ s3 = .pointer p ∧ Hid (NoPg p wr) ∧ Hid (Below V.heap.size V wr)) (fun _ s _ => 2 - (intOf s).toNat)
    case atStart => exact ⟨0, none, by omega, rfl, rfl, Lib.hid (.inl rfl), hb3⟩
    case round =>
      clear hb3 HLT HLV c0 c1 c2 c3 c4 c5 c6 c7
      obtain ⟨i, p, hi, rfl, rfl, HN, HR⟩ := hrel
      by_cases hlt : i < 2
      · have d0 : decide ((i : Int) < 2) = true := decide_eq_true (by omega)
        obtain ⟨c1, c2, c3, c4, c5, c6, c7⟩ := KS.out wr HR.out
        go_upto_region 11 with (first
          | (go_at_call 24; refine (nstop_any p wr HN.out).mono ?_; rintro e w3 ⟨rfl, hw3⟩; rw [hw3]; clear hw3)
          | (go_at_call 26; refine (nrestart_any p wr HN.out).mono ?_; rintro e w3 ⟨rfl, hw3⟩; rw [hw3]; clear hw3)
          | (go_at_call 28; refine (npick_any p wr HN.out).mono ?_; rintro e w3 ⟨rfl, b3⟩; have hb3 := Lib.hid b3; clear b3)
          | (go_at_call 16; have _z := hb3; refine (nrun_any p _ (HN.out.later (hb3.out.alloc hb3.out.size _))).mono ?_; rintro e w4 ⟨rfl, b4⟩; have hb4 : Hid (Below wr.heap.size wr w4) := Lib.hid ((hb3.out.alloc hb3.out.size _).trans (b4.mono (hb3.out.alloc hb3.out.size _).size)); have HG5 := Lib.hid ((b4.block w3.heap.size (by simp)).trans (heap_alloc_new w3 (.cells #[.bool false, .int .i64 0] 52))); clear b4)
          | fail "no arm")
        obtain ⟨X, hX⟩ : ∃ X, X = (w4.alloc (.cells #[.bool false, .int .i64 0] 52)).alloc (.cells #[.int .i64 0, .int .i64 0, .int .i64 0] 54) := ⟨_, rfl⟩
        rw [← hX]
        obtain ⟨B5, hB5⟩ : ∃ B5, B5 = w3.heap.size := ⟨_, rfl⟩
        obtain ⟨B7, hB7⟩ : ∃ B7, B7 = w4.heap.size := ⟨_, rfl⟩
        rw [← hB5, ← hB7]
        have hbX : Hid (Below wr.heap.size wr X) := Lib.hid (by rw [hX]; exact (hb4.out.alloc hb4.out.size _).alloc (hb4.out.alloc hb4.out.size _).size _)
        have KX : Hid (∀ Y, Below X.heap.size X Y → (Y.cell? ⟨E, 1, none⟩ = some (.int .i64 s) ∧ Y.cell? ⟨E, 2, none⟩ = some (.int .i64 k) ∧ Y.cell? ⟨E, 3, none⟩ = some (.int .i64 t) ∧ Y.cell? ⟨E, 4, none⟩ = some (.int .i64 arr) ∧ Y.cell? ⟨E, 5, none⟩ = some (.int .i64 work) ∧ Y.cell? ⟨E, 6, none⟩ = some (.int .i64 done) ∧ Y.cell? ⟨E, 7, none⟩ = some (.slice oa n oc)) ∧ Y.cell? ⟨B5, 0, none⟩ = some (.bool false) ∧ Y.cell? ⟨B5, 1, none⟩ = some (.int .i64 0) ∧ Y.cell? ⟨B7, 0, none⟩ = some (.bool false) ∧ Y.cell? ⟨B7, 1, none⟩ = some (.int .i64 0) ∧ Y.cell? ⟨B7 + 1, 0, none⟩ = some (.int .i64 0) ∧ Y.cell? ⟨B7 + 1, 1, none⟩ = some (.int .i64 0) ∧ Y.cell? ⟨B7 + 1, 2, none⟩ = some (.int .i64 0)) := Lib.hid (fun Y hY => by
          have h5 := HG5.out
          rw [← hB5] at h5
          have hb := b_alloc (below1 w4 (.cells #[.bool false, .int .i64 0] 52)) (Nat.le_refl _) (.cells #[.int .i64 0, .int .i64 0, .int .i64 0] 54)
          rw [← hX] at hb
          have x5 : X.heap[B5]? = some (.cells #[.bool false, .int .i64 0] 52 (0, 0)) := (hb.block B5 (lt_of_block h5)).trans h5
          have x7 : X.heap[B7]? = some (.cells #[.bool false, .int .i64 0] 52 (0, 0)) := by
            rw [hX, hB7]
            exact ((below1 (w4.alloc (.cells #[.bool false, .int .i64 0] 52)) _).block _ (by simp)).trans (heap_alloc_new _ _)
          have x8 : X.heap[B7 + 1]? = some (.cells #[.int .i64 0, .int .i64 0, .int .i64 0] 54 (0, 0)) := by
            rw [hX, hB7]
            have := heap_alloc_new (w4.alloc (.cells #[.bool false, .int .i64 0] 52)) (.cells #[.int .i64 0, .int .i64 0, .int .i64 0] 54)
            simpa using this
          have y5 := (hY.block _ (lt_of_block x5)).trans x5
          have y7 := (hY.block _ (lt_of_block x7)).trans x7
          have y8 := (hY.block _ (lt_of_block x8)).trans x8
          exact ⟨KS.out _ (HR.out.trans ((hbX.out.trans (hY.mono hbX.out.size)).mono HR.out.size)), cell_in y5 rfl, cell_in y5 rfl, cell_in y7 rfl, cell_in y7 rfl, cell_in y8 rfl, cell_in y8 rfl, cell_in y8 rfl⟩)
        have KN : Hid (∀ Y, Below X.heap.size X Y → NoPg p Y ∧ Lies Y 0 Y.heap.size (.slice oa n oc) n 3 (ops.flatMap Wn.cells)) := Lib.hid (fun Y hY => ⟨HN.out.later (hbX.out.trans (hY.mono hbX.out.size)), KL.out _ (HR.out.trans ((hbX.out.trans (hY.mono hbX.out.size)).mono HR.out.size))⟩)
        obtain ⟨⟨x1, x2, x3, x4, x5, x6, x7⟩, x8, x9, x10, x11, x12, x13, x14⟩ := KX.out X (Below.refl _ _)
        clear hX hB5 hB7 c1 c2 c3 c4 c5 c6 c7
        go_region_held3 (fun Y => (Y.cell? ⟨E, 1, none⟩ = some (.int .i64 s) ∧ Y.cell? ⟨E, 2, none⟩ = some (.int .i64 k) ∧ Y.cell? ⟨E, 3, none⟩ = some (.int .i64 t) ∧ Y.cell? ⟨E, 4, none⟩ = some (.int .i64 arr) ∧ Y.cell? ⟨E, 5, none⟩ = some (.int .i64 work) ∧ Y.cell? ⟨E, 6, none⟩ = some (.int .i64 done) ∧ Y.cell? ⟨E, 7, none⟩ = some (.slice oa n oc)) ∧ Y.cell? ⟨B5, 0, none⟩ = some (.bool false) ∧ Y.cell? ⟨B5, 1, none⟩ = some (.int .i64 0) ∧ Y.cell? ⟨B7, 0, none⟩ = some (.bool false) ∧ Y.cell? ⟨B7, 1, none⟩ = some (.int .i64 0) ∧ Y.cell? ⟨B7 + 1, 0, none⟩ = some (.int .i64 0) ∧ Y.cell? ⟨B7 + 1, 1, none⟩ = some (.int .i64 0) ∧ Y.cell? ⟨B7 + 1, 2, none⟩ = some (.int .i64 0))
          (first | exact KX.out _ hb16.out | exact KX.out _ hb15.out | exact KX.out _ hb14.out | exact KX.out _ hb13.out | exact KX.out _ hb12.out | exact KX.out _ hb11.out | exact KX.out _ (by repeat first | exact Below.refl _ _ | refine Below.drew ?_ | refine below_drewPn _ ?_) | fail "no")
          (first
          | (go_at_call 30; have _z := hb16; refine (nup_any p _ (KN.out _ hb16.out).1).mono ?_; rintro e w20 ⟨rfl, hw20⟩; rw [hw20]; clear hw20)
          | (go_at_call 31; have _z := hb16; refine (nhigh_any p _ (KN.out _ hb16.out).1).mono ?_; rintro e w20 ⟨rfl, hw20⟩; rw [hw20]; clear hw20)
          | (go_at_call 18; refine (num20_any _ _).mono ?_; rintro e w20 ⟨rfl, hw20⟩; rw [hw20]; clear hw20)
          | (go_at_call 35; go_loud (refine (nqueue_any p _ s (KN.out _ hb15.out).1).mono ?_; rintro e w16 ⟨rfl, b9⟩; have hb16 : Hid (Below X.heap.size X w16) := Lib.hid (hb15.out.trans (b9.mono hb15.out.size)); clear b9))
          | (go_at_call 33; go_loud (refine (njobs_any p _ (KN.out _ hb14.out).1).mono ?_; rintro e w15 ⟨rfl, b9⟩; have hb15 : Hid (Below X.heap.size X w15) := Lib.hid (hb14.out.trans (b9.mono hb14.out.size)); clear b9))
          | (go_at_call 14; go_loud (refine (nbegin_any p _ 5 (KN.out _ hb13.out).1).mono ?_; rintro e w14 ⟨rfl, b9⟩; have hb14 : Hid (Below X.heap.size X w14) := Lib.hid (hb13.out.trans (b9.mono hb13.out.size)); clear b9))
          | (go_at_call 22; go_loud (refine (nrequest_any p _ s k (KN.out _ hb12.out).1).mono ?_; rintro e w13 ⟨rfl, b9⟩; have hb13 : Hid (Below X.heap.size X w13) := Lib.hid (hb12.out.trans (b9.mono hb12.out.size)); clear b9))
          | (go_at_call 19; go_loud (refine (narrive_any p _ 5 t arr work done ao n cap (KN.out _ hb11.out).1).mono ?_; rintro e w12 ⟨rfl, b9⟩; have hb12 : Hid (Below X.heap.size X w12) := Lib.hid (hb11.out.trans (b9.mono hb11.out.size)); clear b9))
          | (go_at_call 20; refine (job_any _ t arr work done oa n oc ops HNN.out (KN.out _ (by repeat first | exact Below.refl _ _ | refine Below.drew ?_ | refine below_drewPn _ ?_)).2 (by omega)).mono ?_; rintro e w11 ⟨ao, cap, rfl, l11, b11⟩; have hb11 : Hid (Below X.heap.size X w11) := Lib.hid (Below.trans (by repeat first | exact Below.refl _ _ | refine Below.drew ?_ | refine below_drewPn _ ?_) b11); clear l11 b11)
          | fail "no arm")
        go_wp2_with fail
        go_roundw
        case rel => exact ⟨i + 1, _, by omega, by go_num, rfl, Lib.hid (.inr ⟨_, rfl, heap_alloc_new _ _⟩), Lib.hid (HR.out.trans ((hbX.out.trans ((hb16.out.alloc hb16.out.size _).mono hbX.out.size)).mono HR.out.size))⟩
        case measure => simp [intOf]; omega
      · have d0 : decide ((i : Int) < 2) = false := decide_eq_false (by omega)
        go_wp2_with (first
          | (go_at_call 9; refine (knows20_any _).mono ?_; rintro e w8 ⟨rfl, b8⟩; have hb8 := Lib.hid b8; clear b8)
          | fail "no arm")
        go_ret
        exact ⟨rfl, HB.out.trans ((HR.out.trans (hb8.out.mono HR.out.size)).mono HB.out.size)⟩
end Go.Proofs.YtchbehnkkcjdgaaGreat
