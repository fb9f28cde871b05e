/- TasksNil, out of the contracts. -/
import Derived.Test.YtnenbgdonkgkfaaTaskK
import Derived.Test.YtnenbgdonkgkfaaTaskN
import Derived.Test.YtnenbgdonkgkfaaTaskE
import Derived.Deep.CutRange
import Derived.Deep.CutBlock
namespace Go.Proofs.Ytnenbgdonkgkfaa
open Go.ChangeShapes Go.WideShapes Go.ChangeAt Go.RowKit
set_option linter.unusedVariables false

theorem below_drewNn {B : Nat} {a w : World} (d : Nat) (h : Below B a w) : Below B a (w.drewN d) := ⟨h.os, h.tape, h.output, h.size, h.block⟩
set_option maxRecDepth 100000 in
set_option maxHeartbeats 8000000 in
theorem TasksNil_of (O : TasksOk) (kd k t arr work done : Int) (oa : Option Addr) (n oc : Nat) (ops : List Wn) (w : World) (hn : ops.length = n) (hl : Lies w 0 w.heap.size (.slice oa n oc) n 3 (ops.flatMap Wn.cells)) :
    Calls Try.prog 4 #[.agg #[.int .i64 kd, .int .i64 k, .int .i64 t, .int .i64 arr, .int .i64 work, .int .i64 done, .slice oa n oc]] w fun e w' => e = .returned (.bool true) ∧ Below w.heap.size w w' := by
  obtain ⟨V, hV⟩ : ∃ V, V = w.alloc (.cells #[.int .i64 kd, .int .i64 k, .int .i64 t, .int .i64 arr, .int .i64 work, .int .i64 done, .slice oa n oc] 33) := ⟨_, rfl⟩
  obtain ⟨E, hE⟩ : ∃ E, E = w.heap.size := ⟨_, rfl⟩
  have hbV : Below w.heap.size w V := by rw [hV]; exact below1 _ _
  have hEV : V.heap[E]? = some (.cells #[.int .i64 kd, .int .i64 k, .int .i64 t, .int .i64 arr, .int .i64 work, .int .i64 done, .slice oa n oc] 33 (0, 0)) := by rw [hV, hE]; exact heap_alloc_new _ _
  have KS : Hid (∀ Y, Below V.heap.size V Y → Y.cell? ⟨E, 1, none⟩ = some (.int .i64 k) ∧ Y.cell? ⟨E, 2, none⟩ = some (.int .i64 t) ∧ Y.cell? ⟨E, 3, none⟩ = some (.int .i64 arr) ∧ Y.cell? ⟨E, 4, none⟩ = some (.int .i64 work) ∧ Y.cell? ⟨E, 5, none⟩ = some (.int .i64 done) ∧ Y.cell? ⟨E, 6, none⟩ = some (.slice oa n oc)) := Lib.hid (fun Y hY => by
    have h := (hY.block _ (lt_of_block hEV)).trans hEV
    exact ⟨cell_in h rfl, cell_in h rfl, cell_in h rfl, cell_in h rfl, cell_in h rfl, cell_in h rfl⟩)
  have c0 : V.cell? ⟨E, 0, none⟩ = some (.int .i64 kd) := cell_in hEV rfl
  obtain ⟨c1, c2, c3, c4, c5, c6⟩ := KS.out V (Below.refl _ _)
  have HB := Lib.hid hbV
  have HV := Lib.hid hV
  have HE := Lib.hid hE
  have HNN := Lib.hid hn
  have KL : Hid (∀ Y, Below V.heap.size V Y → Lies Y 0 Y.heap.size (.slice oa n oc) n 3 (ops.flatMap Wn.cells)) := Lib.hid (fun Y hY => by
    have hb := hbV.trans (hY.mono hbV.size)
    exact (hl.keep (SameIn.of_below hb (Nat.le_refl _))).wider (Nat.le_refl _) hb.size)
  have HLT := Lib.hid (light_any (V.alloc (.cells #[.int .i64 kd, .int .i64 k, .int .i64 t, .int .i64 arr, .int .i64 work, .int .i64 done, .slice oa n oc] 33)) (some ⟨V.heap.size, 0, none⟩) 1 1 [⟨kd, k, t, arr, work, done, .slice oa n oc, ops⟩] rfl ((one_lies (heap_alloc_new _ _) rfl).wider (Nat.zero_le _) (by simp)) (fun x hx => by
    rw [List.mem_singleton.1 hx]
    unfold Ac.Ok
    dsimp only
    rw [hn]
    exact KL.out _ (below1 _ _)))
  have hM : Try.prog.eqGuardType Try.prog.depth 49 = false := by kernel_rfl
  have hEQ := eqInTOp 0 0 0
  clear hbV hEV hV hE hn hl
  by_cases hbig : 70 < n
  · have HLV : Hid (lightV [⟨kd, k, t, arr, work, done, .slice oa n oc, ops⟩] = false) := Lib.hid (light_long (i := 0) (by simp) (by show 70 < ops.length; rw [HNN.out]; exact hbig))
    clear hbig
    go_enter Try.func4, Try.ntmps4
    go_upto_region 1 with fail
    rw [← HV.out, ← HE.out]
    go_wp2_with (first
      | (go_at_call 6; refine HLT.out.mono ?_; rintro e w3 ⟨rfl, b3⟩; rw [HLV.out]; have hb3 := Lib.hid (HB.out.trans (((below1 V _).trans (b3.mono (below1 V _).size)).mono HB.out.size)); clear b3)
      | (go_at_call 7; have _z := hb3; refine (knows19_of O _).mono ?_; rintro e w4 ⟨rfl, b4⟩; have hb4 := Lib.hid (hb3.out.trans (b4.mono hb3.out.size)); clear b4)
      | fail "no arm")
    go_ret
    exact ⟨rfl, hb4.out⟩
  · have hn70 : n ≤ 70 := by omega
    have HLV : Hid (lightV [⟨kd, k, t, arr, work, done, .slice oa n oc, ops⟩] = true) := Lib.hid (light_yes (by simp) (fun i hi => by
      have : i = 0 := by simpa using hi
      subst this
      show ops.length ≤ 70
      rw [HNN.out]; exact hn70))
    clear hbig
    go_enter Try.func4, Try.ntmps4
    go_upto_region 1 with fail
    rw [← HV.out, ← HE.out]
    go_wp2_with (first
      | (go_at_call 6; refine HLT.out.mono ?_; rintro e w3 ⟨rfl, b3⟩; rw [HLV.out]; have hb3 := Lib.hid ((below1 V _).trans (b3.mono (below1 V _).size)); clear b3)
      | fail "no arm")
    go_loopw [3, 4] (fun s3 s4 wr => ∃ (i : Nat) (p : Option Addr), i ≤ 2 ∧ s4 = .int .i64 i ∧ s3 = .pointer p ∧ Hid (NoTb wr p) ∧ Hid (Below V.heap.size V wr)) (fun _ s _ => 2 - (intOf s).toNat)
    case atStart => exact ⟨0, none, by omega, rfl, rfl, Lib.hid (.inl rfl), hb3⟩
    case round =>
      clear hb3 HLT HLV c0 c1 c2 c3 c4 c5 c6
      obtain ⟨i, p, hi, rfl, rfl, HN, HR⟩ := hrel
      by_cases hlt : i < 2
      · have d0 : decide ((i : Int) < 2) = true := decide_eq_true (by omega)
        obtain ⟨c1, c2, c3, c4, c5, c6⟩ := KS.out wr HR.out
        have HRR : Hid (Below wr.heap.size wr wr) := Lib.hid (Below.refl _ _)
        go_upto_region 11 with (first
          | (go_at_call 18; refine (nclear wr p HN.out).mono ?_; rintro e w3 ⟨rfl, hw3⟩; rw [hw3]; clear hw3)
          | (go_at_call 14; refine (nfirst wr p HN.out).mono ?_; rintro e w3 ⟨rfl, hw3⟩; rw [hw3]; clear hw3)
          | (go_at_call 16; have _z := hb4; refine (nget _ p (HN.out.later hb4.out) k).mono ?_; rintro e w5 ⟨rfl, b5⟩; have hb5 := Lib.hid (hb4.out.trans (b5.mono hb4.out.size)); have HG8 := Lib.hid ((b5.block w4.heap.size (by simp)).trans (heap_alloc_new w4 (.cells #[.int .i64 0, .int .i64 0, .int .i64 0] 49))); clear b5)
          | (go_at_call 17; refine (nrun wr p HN.out k).mono ?_; rintro e w4 ⟨rfl, b4⟩; have hb4 : Hid (Below wr.heap.size wr (w4.alloc (.cells #[.int .i64 0, .int .i64 0, .int .i64 0] 49))) := Lib.hid (b4.alloc b4.size _); obtain ⟨y1, _⟩ := KS.out _ (HR.out.trans (hb4.out.mono HR.out.size)); clear b4)
          | fail "no arm")
        obtain ⟨X, hX⟩ : ∃ X, X = w5.alloc (.cells #[.int .i64 0, .int .i64 0, .int .i64 0, .int .i64 0, .slice none 0 0] 39) := ⟨_, rfl⟩
        rw [← hX]
        obtain ⟨B8, hB8⟩ : ∃ B8, B8 = w4.heap.size := ⟨_, rfl⟩
        rw [← hB8]
        have hbX : Hid (Below wr.heap.size wr X) := Lib.hid (by rw [hX]; exact hb5.out.alloc hb5.out.size _)
        have KX : Hid (∀ Y, Below X.heap.size X Y → (Y.cell? ⟨E, 1, none⟩ = some (.int .i64 k) ∧ Y.cell? ⟨E, 2, none⟩ = some (.int .i64 t) ∧ Y.cell? ⟨E, 3, none⟩ = some (.int .i64 arr) ∧ Y.cell? ⟨E, 4, none⟩ = some (.int .i64 work) ∧ Y.cell? ⟨E, 5, none⟩ = some (.int .i64 done) ∧ Y.cell? ⟨E, 6, none⟩ = some (.slice oa n oc)) ∧ Y.cell? ⟨B8, 0, none⟩ = some (.int .i64 0) ∧ Y.cell? ⟨B8, 1, none⟩ = some (.int .i64 0) ∧ Y.cell? ⟨B8, 2, none⟩ = some (.int .i64 0)) := Lib.hid (fun Y hY => by
          have h8 := HG8.out
          rw [← hB8] at h8
          have hx : X.heap[B8]? = some (.cells #[.int .i64 0, .int .i64 0, .int .i64 0] 49 (0, 0)) := (by rw [hX]; exact (heap_alloc_old _ _ (lt_of_block h8)).trans h8)
          have hy := (hY.block B8 (lt_of_block hx)).trans hx
          exact ⟨KS.out _ (HR.out.trans ((hbX.out.trans (hY.mono hbX.out.size)).mono HR.out.size)), cell_in hy rfl, cell_in hy rfl, cell_in hy rfl⟩)
        have KN : Hid (∀ Y, Below X.heap.size X Y → NoTb Y p ∧ Lies Y 0 Y.heap.size (.slice oa n oc) n 3 (ops.flatMap Wn.cells)) := Lib.hid (fun Y hY => ⟨HN.out.later (hbX.out.trans (hY.mono hbX.out.size)), KL.out _ (HR.out.trans ((hbX.out.trans (hY.mono hbX.out.size)).mono HR.out.size))⟩)
        obtain ⟨⟨x1, x2, x3, x4, x5, x6⟩, x7, x8, x9⟩ := KX.out X (Below.refl _ _)
        clear hX hB8 c1 c2 c3 c4 c5 c6 y1
        go_region_held3 (fun Y => (Y.cell? ⟨E, 1, none⟩ = some (.int .i64 k) ∧ Y.cell? ⟨E, 2, none⟩ = some (.int .i64 t) ∧ Y.cell? ⟨E, 3, none⟩ = some (.int .i64 arr) ∧ Y.cell? ⟨E, 4, none⟩ = some (.int .i64 work) ∧ Y.cell? ⟨E, 5, none⟩ = some (.int .i64 done) ∧ Y.cell? ⟨E, 6, none⟩ = some (.slice oa n oc)) ∧ Y.cell? ⟨B8, 0, none⟩ = some (.int .i64 0) ∧ Y.cell? ⟨B8, 1, none⟩ = some (.int .i64 0) ∧ Y.cell? ⟨B8, 2, none⟩ = some (.int .i64 0))
          (first | exact KX.out _ hb13.out | exact KX.out _ hb12.out | exact KX.out _ hb11.out | exact KX.out _ (by repeat first | exact Below.refl _ _ | refine Below.drew ?_ | refine below_drewNn _ ?_) | fail "no")
          (first
          | (go_at_call 19; have _z := hb13; refine (nlen _ p (KN.out _ hb13.out).1).mono ?_; rintro e w20 ⟨rfl, hw20⟩; rw [hw20]; clear hw20)
          | (go_at_call 15; have _z := hb13; refine (nhigh _ p (KN.out _ hb13.out).1).mono ?_; rintro e w20 ⟨rfl, hw20⟩; rw [hw20]; clear hw20)
          | (go_at_call 12; have _z := hb13; refine (nfall _ p (KN.out _ hb13.out).1).mono ?_; rintro e w20 ⟨rfl, hw20⟩; rw [hw20]; clear hw20)
          | (go_at_call 13; have _z := hb12; refine (nmissed _ p (KN.out _ hb12.out).1 k).mono ?_; rintro e w13 ⟨rfl, b13⟩; have hb13 := Lib.hid (hb12.out.trans (b13.mono hb12.out.size)); clear b13)
          | (go_at_call 11; have _z := hb12; refine (nrise _ p (KN.out _ hb12.out).1).mono ?_; rintro e w20 ⟨rfl, hw20⟩; rw [hw20]; clear hw20)
          | (go_at_call 8; refine (num19_any _ _).mono ?_; rintro e w20 ⟨rfl, hw20⟩; rw [hw20]; clear hw20)
          | (go_at_call 9; have _z := hb11; refine (nput _ p (KN.out _ hb11.out).1 t arr work done _).mono ?_; rintro e w12 ⟨rfl, b12⟩; have hb12 := Lib.hid (hb11.out.trans (b12.mono hb11.out.size)); clear b12)
          | (go_at_call 10; refine (job_any _ t arr work done oa n oc ops HNN.out (KN.out _ (by repeat first | exact Below.refl _ _ | refine Below.drew ?_ | refine below_drewNn _ ?_)).2 (by omega)).mono ?_; rintro e w11 ⟨ao, cap, rfl, l11, b11⟩; have hb11 : Hid (Below X.heap.size X w11) := Lib.hid (Below.trans (by repeat first | exact Below.refl _ _ | refine Below.drew ?_ | refine below_drewNn _ ?_) b11); clear l11 b11)
          | fail "no arm")
        go_wp2_with fail
        go_roundw
        case rel => exact ⟨i + 1, _, by omega, by go_num, rfl, Lib.hid (.inr ⟨_, rfl, heap_alloc_new _ _⟩), Lib.hid (HR.out.trans ((hbX.out.trans ((hb13.out.alloc hb13.out.size _).mono hbX.out.size)).mono HR.out.size))⟩
        case measure => simp [intOf]; omega
      · have d0 : decide ((i : Int) < 2) = false := decide_eq_false (by omega)
        go_wp2_with (first
          | (go_at_call 7; refine (knows19_of O _).mono ?_; rintro e w8 ⟨rfl, b8⟩; have hb8 := Lib.hid b8; clear b8)
          | fail "no arm")
        go_ret
        exact ⟨rfl, HB.out.trans ((HR.out.trans (hb8.out.mono HR.out.size)).mono HB.out.size)⟩
end Go.Proofs.Ytnenbgdonkgkfaa
