/- An act, with both tables. -/
import Derived.Test.YtnenbgdonkgkfaaGreatTaskD
import Derived.Deep.CutRange
import Derived.Deep.CutBlock
namespace Go.Proofs.YtnenbgdonkgkfaaGreat
open Go.ChangeShapes Go.WideShapes Go.ChangeAt Go.RowKit
set_option linter.unusedVariables false

set_option maxRecDepth 100000 in
set_option maxHeartbeats 16000000 in
theorem do19_of (O : TasksOk) (w wx : World) (H rb : Nat) (S R : Nat → Prop) (ts : List Tk) (hm : Bool) (js : Js) (ht : Both w wx (O.Tb H ts hm js) (TrG w rb ts hm js) S R) (hh : HiOk ts hm js) (kd k tk arr work done : Int) (oa : Option Addr) (m oc : Nat) (ops : List Wn) (hmm : ops.length = m) (hl : Lies w 0 w.heap.size (.slice oa m oc) m 3 (ops.flatMap Wn.cells)) (hs : m ≤ 70) :
    Calls Tryz.prog 9 #[.pointer (some ⟨H, 0, none⟩), .pointer (some ⟨rb, 0, none⟩), .agg #[.int .i64 kd, .int .i64 k, .int .i64 tk, .int .i64 arr, .int .i64 work, .int .i64 done, .slice oa m oc]] wx fun e w' => e = .returned (.bool true) ∧ ∃ S' R' hm' js', Both w w' (O.Tb H ts hm' js') (TrG w rb ts hm' js') S' R' ∧ HiOk ts hm' js' := by
  obtain ⟨V, hV⟩ : ∃ V, V = wx.alloc (.cells #[.int .i64 kd, .int .i64 k, .int .i64 tk, .int .i64 arr, .int .i64 work, .int .i64 done, .slice oa m oc] 35) := ⟨_, rfl⟩
  obtain ⟨E, hE⟩ : ∃ E, E = wx.heap.size := ⟨_, rfl⟩
  have hEV : V.heap[E]? = some (.cells #[.int .i64 kd, .int .i64 k, .int .i64 tk, .int .i64 arr, .int .i64 work, .int .i64 done, .slice oa m oc] 35 (0, 0)) := by rw [hV, hE]; exact heap_alloc_new _ _
  have hbV : Below wx.heap.size wx V := by rw [hV]; exact below1 _ _
  have HTV := Lib.hid (ht.later hbV)
  have HBD := Lib.hid (O.bd HTV.out.h)
  have HH := Lib.hid hh
  have HEK : Hid (Aside V V E S R) := Lib.hid ⟨rfl, lt_of_block hEV, fun h => by have := ht.oh.lt ht.h E h; omega, fun h => by have := ht.or.lt ht.r E h; omega⟩
  have KS : Hid (∀ Y : World, Y.heap[E]? = V.heap[E]? → Y.cell? ⟨E, 0, none⟩ = some (.int .i64 kd) ∧ Y.cell? ⟨E, 1, none⟩ = some (.int .i64 k) ∧ Y.cell? ⟨E, 2, none⟩ = some (.int .i64 tk) ∧ Y.cell? ⟨E, 3, none⟩ = some (.int .i64 arr) ∧ Y.cell? ⟨E, 4, none⟩ = some (.int .i64 work) ∧ Y.cell? ⟨E, 5, none⟩ = some (.int .i64 done) ∧ Y.cell? ⟨E, 6, none⟩ = some (.slice oa m oc)) := Lib.hid (fun Y hY => ⟨cell_in (hY.trans hEV) rfl, cell_in (hY.trans hEV) rfl, cell_in (hY.trans hEV) rfl, cell_in (hY.trans hEV) rfl, cell_in (hY.trans hEV) rfl, cell_in (hY.trans hEV) rfl, cell_in (hY.trans hEV) rfl⟩)
  have KL : Hid (∀ Y, Below w.heap.size w Y → Lies Y 0 Y.heap.size (.slice oa m oc) m 3 (ops.flatMap Wn.cells)) := Lib.hid (fun Y hY => (hl.keep (SameIn.of_below hY (Nat.le_refl _))).wider (Nat.le_refl _) hY.size)
  have HMM := Lib.hid hmm
  have HLL := Lib.hid hl
  have HS70 := Lib.hid hs
  have HV := Lib.hid hV
  have HE := Lib.hid hE
  obtain ⟨er, her⟩ : ∃ er, er = errT ts hm js tk arr work done m := ⟨_, rfl⟩
  have HER := Lib.hid her
  have hMg : Tryz.prog.eqGuardType Tryz.prog.depth 70 = false := by kernel_rfl
  obtain ⟨c0, c1, c2, c3, c4, c5, c6⟩ := KS.out V rfl
  clear hV hE hEV hbV ht hh hmm hl hs her
  go_enter Tryz.func9, Tryz.ntmps9
  go_upto_region 1 with fail
  rw [← HV.out, ← HE.out]
  by_cases q0 : kd = 0
  · subst q0
    go_upto_region 4 with fail
    go_region_held3 (fun Y => Y.cell? ⟨E, 2, none⟩ = some (.int .i64 tk) ∧ Y.cell? ⟨E, 3, none⟩ = some (.int .i64 arr) ∧ Y.cell? ⟨E, 4, none⟩ = some (.int .i64 work) ∧ Y.cell? ⟨E, 5, none⟩ = some (.int .i64 done) ∧ Y.cell? ⟨E, 6, none⟩ = some (.slice oa m oc))
      (first | exact (KS.out _ e6.out.k).2.2 | exact (KS.out _ e5.out.k).2.2 | exact (KS.out _ e4.out.k).2.2 | exact (KS.out _ rfl).2.2 | fail "no")
      (first
      | (go_at_call 27; have _z := t5; refine (rtput_any w _ rb R ts hm js t5.out.r tk arr work done oa m oc ops HMM.out HLL.out).mono ?_; rintro e w6 ⟨R6, rfl, r6, g6⟩; rw [← HER.out]; have t6 := Lib.hid (t5.out.ref r6 g6 (tr_own _ _ _ _ _)); have e6 := Lib.hid (e5.out.ref g6); clear r6 g6)
      | (go_at_call 23; refine (num19_any _ _).mono ?_; rintro e w20 ⟨rfl, hw20⟩; rw [hw20]; clear hw20)
      | (go_at_call 20; have _z := t4; refine (O.put _ H S ts hm js tk arr work done ao4 m cap4 ops t4.out.h HMM.out l4.out).mono ?_; rintro e w5 ⟨S5, rfl, h5, g5⟩; rw [← HER.out]; have t5 := Lib.hid (t4.out.prog h5 g5 (O.own _ _ _ _)); have e5 := Lib.hid (e4.out.prog g5); clear h5 g5)
      | (go_at_call 26; refine (job_any _ tk arr work done oa m oc ops HMM.out (KL.out _ (by repeat first | exact HTV.out.b | refine Below.drew ?_)) (by have := HS70.out; omega)).mono ?_; rintro e w4 ⟨ao4, cap4, rfl, l4', b4⟩; have l4 := Lib.hid (l4'.wider (Nat.zero_le _) (Nat.le_refl _)); have t4 := Lib.hid ((HTV.out.later (Below.refl _ _).drew).later b4); have e4 := Lib.hid ((HEK.out.later (Below.refl _ _).drew).later b4); clear l4' b4)
      | fail "no arm")
    go_wp2_with fail
    go_ret
    exact ⟨by simp, S5, R6, _, _, t6.out, HH.out.put tk arr work done ops⟩
  have f0 : (kd == 0) = false := by simpa using q0
  by_cases q1 : kd = 1
  · subst q1
    go_upto_region 4 with fail
    go_region_held3 (fun Y => Y.cell? ⟨E, 2, none⟩ = some (.int .i64 tk) ∧ Y.cell? ⟨E, 3, none⟩ = some (.int .i64 arr) ∧ Y.cell? ⟨E, 4, none⟩ = some (.int .i64 work) ∧ Y.cell? ⟨E, 5, none⟩ = some (.int .i64 done) ∧ Y.cell? ⟨E, 6, none⟩ = some (.slice oa m oc))
      (first | exact (KS.out _ e6.out.k).2.2 | exact (KS.out _ e5.out.k).2.2 | exact (KS.out _ e4.out.k).2.2 | exact (KS.out _ rfl).2.2 | fail "no")
      (first
      | (go_at_call 27; have _z := t5; refine (rtput_any w _ rb R ts hm js t5.out.r tk arr work done oa m oc ops HMM.out HLL.out).mono ?_; rintro e w6 ⟨R6, rfl, r6, g6⟩; rw [← HER.out]; have t6 := Lib.hid (t5.out.ref r6 g6 (tr_own _ _ _ _ _)); have e6 := Lib.hid (e5.out.ref g6); clear r6 g6)
      | (go_at_call 23; refine (num19_any _ _).mono ?_; rintro e w20 ⟨rfl, hw20⟩; rw [hw20]; clear hw20)
      | (go_at_call 20; have _z := t4; refine (O.put _ H S ts hm js tk arr work done ao4 m cap4 ops t4.out.h HMM.out l4.out).mono ?_; rintro e w5 ⟨S5, rfl, h5, g5⟩; rw [← HER.out]; have t5 := Lib.hid (t4.out.prog h5 g5 (O.own _ _ _ _)); have e5 := Lib.hid (e4.out.prog g5); clear h5 g5)
      | (go_at_call 26; refine (job_any _ tk arr work done oa m oc ops HMM.out (KL.out _ (by repeat first | exact HTV.out.b | refine Below.drew ?_)) (by have := HS70.out; omega)).mono ?_; rintro e w4 ⟨ao4, cap4, rfl, l4', b4⟩; have l4 := Lib.hid (l4'.wider (Nat.zero_le _) (Nat.le_refl _)); have t4 := Lib.hid ((HTV.out.later (Below.refl _ _).drew).later b4); have e4 := Lib.hid ((HEK.out.later (Below.refl _ _).drew).later b4); clear l4' b4)
      | fail "no arm")
    go_wp2_with fail
    go_ret
    exact ⟨by simp, S5, R6, _, _, t6.out, HH.out.put tk arr work done ops⟩
  have f1 : (kd == 1) = false := by simpa using q1
  by_cases q2 : kd = 2
  · subst q2
    cases hfo : foV ts hm js with
    | false =>
      have HF := Lib.hid hfo
      clear hfo
      obtain ⟨ov, hov⟩ : ∃ ov, ov = opT ts js k := ⟨_, rfl⟩
      obtain ⟨o, ho⟩ : ∃ o, o = outT ts hm js k := ⟨_, rfl⟩
      have HOV := Lib.hid hov
      have HOU := Lib.hid ho
      have hEq := eqInROp ov.at_ ov.len ov.part
      clear hov ho
      go_wp2_with (first
        | (go_at_call 28; have _z := t5; refine (rtrun_any w _ rb R ts hm js (t5.out.later (below1 w5 (.cells #[.int .i64 ov.at_, .int .i64 ov.len, .int .i64 ov.part] 60))).r (t5.out.later (below1 w5 (.cells #[.int .i64 ov.at_, .int .i64 ov.len, .int .i64 ov.part] 60))).b t5.out.rb k).mono ?_; rintro e w6 ⟨R6, rfl, r6, g6⟩; rw [← HOV.out, ← HOU.out]; have t6 := Lib.hid ((t5.out.later (below1 w5 (.cells #[.int .i64 ov.at_, .int .i64 ov.len, .int .i64 ov.part] 60))).ref r6 g6 (tr_own _ _ _ _ _)); have nr : ¬ R w5.heap.size := fun hs => Nat.lt_irrefl _ (t5.out.or.lt t5.out.r _ hs); have k6 := (g6.block w5.heap.size (by simp) nr).trans (heap_alloc_new w5 (.cells #[.int .i64 ov.at_, .int .i64 ov.len, .int .i64 ov.part] 60)); have k6' := (Below.heap_alloc w6 (.cells #[.int .i64 ov.at_, .int .i64 ov.len, .int .i64 ov.part] 70) _ (lt_of_block k6)).trans k6; have z0 := cell_in (j := 0) k6' rfl; have z1 := cell_in (j := 1) k6' rfl; have z2 := cell_in (j := 2) k6' rfl; clear r6 g6 nr k6 k6')
        | (go_at_call 21; have _z := t4; refine (O.run _ H S ts hm js k t4.out.h).mono ?_; rintro e w5 ⟨S5, rfl, h5, g5⟩; rw [← HOV.out, ← HOU.out]; have t5 := Lib.hid (t4.out.prog h5 g5 (O.own _ _ _ _)); clear h5 g5)
        | (go_at_call 11; refine (rtfirst_any w _ rb R ts hm js HTV.out.r).mono ?_; rintro e w4 ⟨rfl, b4⟩; rw [HF.out]; have t4 := Lib.hid (HTV.out.later b4); have e4 := Lib.hid (HEK.out.later b4); obtain ⟨x0, x1, _⟩ := KS.out _ e4.out.k; clear b4)
        | fail "no arm")
      go_ret
      exact ⟨by simp, S5, R6, _, _, t6.out.later (below1 _ _), HH.out.run _⟩
    | true =>
      have HF := Lib.hid hfo
      obtain ⟨fk, hfk⟩ : ∃ fk, fk = fkV ts hm js := ⟨_, rfl⟩
      have HFK := Lib.hid hfk
      clear hfo hfk
      obtain ⟨ov, hov⟩ : ∃ ov, ov = opT ts js fk := ⟨_, rfl⟩
      obtain ⟨o, ho⟩ : ∃ o, o = outT ts hm js fk := ⟨_, rfl⟩
      have HOV := Lib.hid hov
      have HOU := Lib.hid ho
      have hEq := eqInROp ov.at_ ov.len ov.part
      clear hov ho
      go_wp2_with (first
        | (go_at_call 28; have _z := t5; refine (rtrun_any w _ rb R ts hm js (t5.out.later (below1 w5 (.cells #[.int .i64 ov.at_, .int .i64 ov.len, .int .i64 ov.part] 60))).r (t5.out.later (below1 w5 (.cells #[.int .i64 ov.at_, .int .i64 ov.len, .int .i64 ov.part] 60))).b t5.out.rb fk).mono ?_; rintro e w6 ⟨R6, rfl, r6, g6⟩; rw [← HOV.out, ← HOU.out]; have t6 := Lib.hid ((t5.out.later (below1 w5 (.cells #[.int .i64 ov.at_, .int .i64 ov.len, .int .i64 ov.part] 60))).ref r6 g6 (tr_own _ _ _ _ _)); have nr : ¬ R w5.heap.size := fun hs => Nat.lt_irrefl _ (t5.out.or.lt t5.out.r _ hs); have k6 := (g6.block w5.heap.size (by simp) nr).trans (heap_alloc_new w5 (.cells #[.int .i64 ov.at_, .int .i64 ov.len, .int .i64 ov.part] 60)); have k6' := (Below.heap_alloc w6 (.cells #[.int .i64 ov.at_, .int .i64 ov.len, .int .i64 ov.part] 70) _ (lt_of_block k6)).trans k6; have z0 := cell_in (j := 0) k6' rfl; have z1 := cell_in (j := 1) k6' rfl; have z2 := cell_in (j := 2) k6' rfl; clear r6 g6 nr k6 k6')
        | (go_at_call 21; have _z := t4; refine (O.run _ H S ts hm js fk t4.out.h).mono ?_; rintro e w5 ⟨S5, rfl, h5, g5⟩; rw [← HOV.out, ← HOU.out]; have t5 := Lib.hid (t4.out.prog h5 g5 (O.own _ _ _ _)); clear h5 g5)
        | (go_at_call 11; refine (rtfirst_any w _ rb R ts hm js HTV.out.r).mono ?_; rintro e w4 ⟨rfl, b4⟩; rw [HF.out, ← HFK.out]; have t4 := Lib.hid (HTV.out.later b4); have e4 := Lib.hid (HEK.out.later b4); obtain ⟨x0, x1, _⟩ := KS.out _ e4.out.k; clear b4)
        | fail "no arm")
      go_ret
      exact ⟨by simp, S5, R6, _, _, t6.out.later (below1 _ _), HH.out.run _⟩
  have f2 : (kd == 2) = false := by simpa using q2
  by_cases q3 : kd = 3
  · subst q3
    cases hfo : foV ts hm js with
    | false =>
      have HF := Lib.hid hfo
      clear hfo
      obtain ⟨ov, hov⟩ : ∃ ov, ov = opT ts js k := ⟨_, rfl⟩
      obtain ⟨o, ho⟩ : ∃ o, o = outT ts hm js k := ⟨_, rfl⟩
      have HOV := Lib.hid hov
      have HOU := Lib.hid ho
      have hEq := eqInROp ov.at_ ov.len ov.part
      clear hov ho
      go_wp2_with (first
        | (go_at_call 28; have _z := t5; refine (rtrun_any w _ rb R ts hm js (t5.out.later (below1 w5 (.cells #[.int .i64 ov.at_, .int .i64 ov.len, .int .i64 ov.part] 60))).r (t5.out.later (below1 w5 (.cells #[.int .i64 ov.at_, .int .i64 ov.len, .int .i64 ov.part] 60))).b t5.out.rb k).mono ?_; rintro e w6 ⟨R6, rfl, r6, g6⟩; rw [← HOV.out, ← HOU.out]; have t6 := Lib.hid ((t5.out.later (below1 w5 (.cells #[.int .i64 ov.at_, .int .i64 ov.len, .int .i64 ov.part] 60))).ref r6 g6 (tr_own _ _ _ _ _)); have nr : ¬ R w5.heap.size := fun hs => Nat.lt_irrefl _ (t5.out.or.lt t5.out.r _ hs); have k6 := (g6.block w5.heap.size (by simp) nr).trans (heap_alloc_new w5 (.cells #[.int .i64 ov.at_, .int .i64 ov.len, .int .i64 ov.part] 60)); have k6' := (Below.heap_alloc w6 (.cells #[.int .i64 ov.at_, .int .i64 ov.len, .int .i64 ov.part] 70) _ (lt_of_block k6)).trans k6; have z0 := cell_in (j := 0) k6' rfl; have z1 := cell_in (j := 1) k6' rfl; have z2 := cell_in (j := 2) k6' rfl; clear r6 g6 nr k6 k6')
        | (go_at_call 21; have _z := t4; refine (O.run _ H S ts hm js k t4.out.h).mono ?_; rintro e w5 ⟨S5, rfl, h5, g5⟩; rw [← HOV.out, ← HOU.out]; have t5 := Lib.hid (t4.out.prog h5 g5 (O.own _ _ _ _)); clear h5 g5)
        | (go_at_call 11; refine (rtfirst_any w _ rb R ts hm js HTV.out.r).mono ?_; rintro e w4 ⟨rfl, b4⟩; rw [HF.out]; have t4 := Lib.hid (HTV.out.later b4); have e4 := Lib.hid (HEK.out.later b4); obtain ⟨x0, x1, _⟩ := KS.out _ e4.out.k; clear b4)
        | fail "no arm")
      go_ret
      exact ⟨by simp, S5, R6, _, _, t6.out.later (below1 _ _), HH.out.run _⟩
    | true =>
      have HF := Lib.hid hfo
      obtain ⟨fk, hfk⟩ : ∃ fk, fk = fkV ts hm js := ⟨_, rfl⟩
      have HFK := Lib.hid hfk
      clear hfo hfk
      obtain ⟨ov, hov⟩ : ∃ ov, ov = opT ts js fk := ⟨_, rfl⟩
      obtain ⟨o, ho⟩ : ∃ o, o = outT ts hm js fk := ⟨_, rfl⟩
      have HOV := Lib.hid hov
      have HOU := Lib.hid ho
      have hEq := eqInROp ov.at_ ov.len ov.part
      clear hov ho
      go_wp2_with (first
        | (go_at_call 28; have _z := t5; refine (rtrun_any w _ rb R ts hm js (t5.out.later (below1 w5 (.cells #[.int .i64 ov.at_, .int .i64 ov.len, .int .i64 ov.part] 60))).r (t5.out.later (below1 w5 (.cells #[.int .i64 ov.at_, .int .i64 ov.len, .int .i64 ov.part] 60))).b t5.out.rb fk).mono ?_; rintro e w6 ⟨R6, rfl, r6, g6⟩; rw [← HOV.out, ← HOU.out]; have t6 := Lib.hid ((t5.out.later (below1 w5 (.cells #[.int .i64 ov.at_, .int .i64 ov.len, .int .i64 ov.part] 60))).ref r6 g6 (tr_own _ _ _ _ _)); have nr : ¬ R w5.heap.size := fun hs => Nat.lt_irrefl _ (t5.out.or.lt t5.out.r _ hs); have k6 := (g6.block w5.heap.size (by simp) nr).trans (heap_alloc_new w5 (.cells #[.int .i64 ov.at_, .int .i64 ov.len, .int .i64 ov.part] 60)); have k6' := (Below.heap_alloc w6 (.cells #[.int .i64 ov.at_, .int .i64 ov.len, .int .i64 ov.part] 70) _ (lt_of_block k6)).trans k6; have z0 := cell_in (j := 0) k6' rfl; have z1 := cell_in (j := 1) k6' rfl; have z2 := cell_in (j := 2) k6' rfl; clear r6 g6 nr k6 k6')
        | (go_at_call 21; have _z := t4; refine (O.run _ H S ts hm js fk t4.out.h).mono ?_; rintro e w5 ⟨S5, rfl, h5, g5⟩; rw [← HOV.out, ← HOU.out]; have t5 := Lib.hid (t4.out.prog h5 g5 (O.own _ _ _ _)); clear h5 g5)
        | (go_at_call 11; refine (rtfirst_any w _ rb R ts hm js HTV.out.r).mono ?_; rintro e w4 ⟨rfl, b4⟩; rw [HF.out, ← HFK.out]; have t4 := Lib.hid (HTV.out.later b4); have e4 := Lib.hid (HEK.out.later b4); obtain ⟨x0, x1, _⟩ := KS.out _ e4.out.k; clear b4)
        | fail "no arm")
      go_ret
      exact ⟨by simp, S5, R6, _, _, t6.out.later (below1 _ _), HH.out.run _⟩
  have f3 : (kd == 3) = false := by simpa using q3
  by_cases q4 : kd = 4
  · subst q4
    cases hfo : foV ts hm js with
    | false =>
      have HF := Lib.hid hfo
      clear hfo
      obtain ⟨ov, hov⟩ : ∃ ov, ov = opT ts js k := ⟨_, rfl⟩
      obtain ⟨o, ho⟩ : ∃ o, o = outT ts hm js k := ⟨_, rfl⟩
      have HOV := Lib.hid hov
      have HOU := Lib.hid ho
      have hEq := eqInROp ov.at_ ov.len ov.part
      clear hov ho
      go_wp2_with (first
        | (go_at_call 28; have _z := t5; refine (rtrun_any w _ rb R ts hm js (t5.out.later (below1 w5 (.cells #[.int .i64 ov.at_, .int .i64 ov.len, .int .i64 ov.part] 60))).r (t5.out.later (below1 w5 (.cells #[.int .i64 ov.at_, .int .i64 ov.len, .int .i64 ov.part] 60))).b t5.out.rb k).mono ?_; rintro e w6 ⟨R6, rfl, r6, g6⟩; rw [← HOV.out, ← HOU.out]; have t6 := Lib.hid ((t5.out.later (below1 w5 (.cells #[.int .i64 ov.at_, .int .i64 ov.len, .int .i64 ov.part] 60))).ref r6 g6 (tr_own _ _ _ _ _)); have nr : ¬ R w5.heap.size := fun hs => Nat.lt_irrefl _ (t5.out.or.lt t5.out.r _ hs); have k6 := (g6.block w5.heap.size (by simp) nr).trans (heap_alloc_new w5 (.cells #[.int .i64 ov.at_, .int .i64 ov.len, .int .i64 ov.part] 60)); have k6' := (Below.heap_alloc w6 (.cells #[.int .i64 ov.at_, .int .i64 ov.len, .int .i64 ov.part] 70) _ (lt_of_block k6)).trans k6; have z0 := cell_in (j := 0) k6' rfl; have z1 := cell_in (j := 1) k6' rfl; have z2 := cell_in (j := 2) k6' rfl; clear r6 g6 nr k6 k6')
        | (go_at_call 21; have _z := t4; refine (O.run _ H S ts hm js k t4.out.h).mono ?_; rintro e w5 ⟨S5, rfl, h5, g5⟩; rw [← HOV.out, ← HOU.out]; have t5 := Lib.hid (t4.out.prog h5 g5 (O.own _ _ _ _)); clear h5 g5)
        | (go_at_call 11; refine (rtfirst_any w _ rb R ts hm js HTV.out.r).mono ?_; rintro e w4 ⟨rfl, b4⟩; rw [HF.out]; have t4 := Lib.hid (HTV.out.later b4); have e4 := Lib.hid (HEK.out.later b4); obtain ⟨x0, x1, _⟩ := KS.out _ e4.out.k; clear b4)
        | fail "no arm")
      go_ret
      exact ⟨by simp, S5, R6, _, _, t6.out.later (below1 _ _), HH.out.run _⟩
    | true =>
      have HF := Lib.hid hfo
      obtain ⟨fk, hfk⟩ : ∃ fk, fk = fkV ts hm js := ⟨_, rfl⟩
      have HFK := Lib.hid hfk
      clear hfo hfk
      obtain ⟨ov, hov⟩ : ∃ ov, ov = opT ts js fk := ⟨_, rfl⟩
      obtain ⟨o, ho⟩ : ∃ o, o = outT ts hm js fk := ⟨_, rfl⟩
      have HOV := Lib.hid hov
      have HOU := Lib.hid ho
      have hEq := eqInROp ov.at_ ov.len ov.part
      clear hov ho
      go_wp2_with (first
        | (go_at_call 28; have _z := t5; refine (rtrun_any w _ rb R ts hm js (t5.out.later (below1 w5 (.cells #[.int .i64 ov.at_, .int .i64 ov.len, .int .i64 ov.part] 60))).r (t5.out.later (below1 w5 (.cells #[.int .i64 ov.at_, .int .i64 ov.len, .int .i64 ov.part] 60))).b t5.out.rb fk).mono ?_; rintro e w6 ⟨R6, rfl, r6, g6⟩; rw [← HOV.out, ← HOU.out]; have t6 := Lib.hid ((t5.out.later (below1 w5 (.cells #[.int .i64 ov.at_, .int .i64 ov.len, .int .i64 ov.part] 60))).ref r6 g6 (tr_own _ _ _ _ _)); have nr : ¬ R w5.heap.size := fun hs => Nat.lt_irrefl _ (t5.out.or.lt t5.out.r _ hs); have k6 := (g6.block w5.heap.size (by simp) nr).trans (heap_alloc_new w5 (.cells #[.int .i64 ov.at_, .int .i64 ov.len, .int .i64 ov.part] 60)); have k6' := (Below.heap_alloc w6 (.cells #[.int .i64 ov.at_, .int .i64 ov.len, .int .i64 ov.part] 70) _ (lt_of_block k6)).trans k6; have z0 := cell_in (j := 0) k6' rfl; have z1 := cell_in (j := 1) k6' rfl; have z2 := cell_in (j := 2) k6' rfl; clear r6 g6 nr k6 k6')
        | (go_at_call 21; have _z := t4; refine (O.run _ H S ts hm js fk t4.out.h).mono ?_; rintro e w5 ⟨S5, rfl, h5, g5⟩; rw [← HOV.out, ← HOU.out]; have t5 := Lib.hid (t4.out.prog h5 g5 (O.own _ _ _ _)); clear h5 g5)
        | (go_at_call 11; refine (rtfirst_any w _ rb R ts hm js HTV.out.r).mono ?_; rintro e w4 ⟨rfl, b4⟩; rw [HF.out, ← HFK.out]; have t4 := Lib.hid (HTV.out.later b4); have e4 := Lib.hid (HEK.out.later b4); obtain ⟨x0, x1, _⟩ := KS.out _ e4.out.k; clear b4)
        | fail "no arm")
      go_ret
      exact ⟨by simp, S5, R6, _, _, t6.out.later (below1 _ _), HH.out.run _⟩
  have f4 : (kd == 4) = false := by simpa using q4
  by_cases q5 : kd = 5
  · subst q5
    cases hfo : foV ts hm js with
    | false =>
      have HF := Lib.hid hfo
      clear hfo
      obtain ⟨ov, hov⟩ : ∃ ov, ov = opT ts js k := ⟨_, rfl⟩
      obtain ⟨o, ho⟩ : ∃ o, o = outT ts hm js k := ⟨_, rfl⟩
      have HOV := Lib.hid hov
      have HOU := Lib.hid ho
      have hEq := eqInROp ov.at_ ov.len ov.part
      clear hov ho
      go_wp2_with (first
        | (go_at_call 28; have _z := t5; refine (rtrun_any w _ rb R ts hm js (t5.out.later (below1 w5 (.cells #[.int .i64 ov.at_, .int .i64 ov.len, .int .i64 ov.part] 60))).r (t5.out.later (below1 w5 (.cells #[.int .i64 ov.at_, .int .i64 ov.len, .int .i64 ov.part] 60))).b t5.out.rb k).mono ?_; rintro e w6 ⟨R6, rfl, r6, g6⟩; rw [← HOV.out, ← HOU.out]; have t6 := Lib.hid ((t5.out.later (below1 w5 (.cells #[.int .i64 ov.at_, .int .i64 ov.len, .int .i64 ov.part] 60))).ref r6 g6 (tr_own _ _ _ _ _)); have nr : ¬ R w5.heap.size := fun hs => Nat.lt_irrefl _ (t5.out.or.lt t5.out.r _ hs); have k6 := (g6.block w5.heap.size (by simp) nr).trans (heap_alloc_new w5 (.cells #[.int .i64 ov.at_, .int .i64 ov.len, .int .i64 ov.part] 60)); have k6' := (Below.heap_alloc w6 (.cells #[.int .i64 ov.at_, .int .i64 ov.len, .int .i64 ov.part] 70) _ (lt_of_block k6)).trans k6; have z0 := cell_in (j := 0) k6' rfl; have z1 := cell_in (j := 1) k6' rfl; have z2 := cell_in (j := 2) k6' rfl; clear r6 g6 nr k6 k6')
        | (go_at_call 21; have _z := t4; refine (O.run _ H S ts hm js k t4.out.h).mono ?_; rintro e w5 ⟨S5, rfl, h5, g5⟩; rw [← HOV.out, ← HOU.out]; have t5 := Lib.hid (t4.out.prog h5 g5 (O.own _ _ _ _)); clear h5 g5)
        | (go_at_call 11; refine (rtfirst_any w _ rb R ts hm js HTV.out.r).mono ?_; rintro e w4 ⟨rfl, b4⟩; rw [HF.out]; have t4 := Lib.hid (HTV.out.later b4); have e4 := Lib.hid (HEK.out.later b4); obtain ⟨x0, x1, _⟩ := KS.out _ e4.out.k; clear b4)
        | fail "no arm")
      go_ret
      exact ⟨by simp, S5, R6, _, _, t6.out.later (below1 _ _), HH.out.run _⟩
    | true =>
      have HF := Lib.hid hfo
      clear hfo
      obtain ⟨ov, hov⟩ : ∃ ov, ov = opT ts js k := ⟨_, rfl⟩
      obtain ⟨o, ho⟩ : ∃ o, o = outT ts hm js k := ⟨_, rfl⟩
      have HOV := Lib.hid hov
      have HOU := Lib.hid ho
      have hEq := eqInROp ov.at_ ov.len ov.part
      clear hov ho
      go_wp2_with (first
        | (go_at_call 28; have _z := t5; refine (rtrun_any w _ rb R ts hm js (t5.out.later (below1 w5 (.cells #[.int .i64 ov.at_, .int .i64 ov.len, .int .i64 ov.part] 60))).r (t5.out.later (below1 w5 (.cells #[.int .i64 ov.at_, .int .i64 ov.len, .int .i64 ov.part] 60))).b t5.out.rb k).mono ?_; rintro e w6 ⟨R6, rfl, r6, g6⟩; rw [← HOV.out, ← HOU.out]; have t6 := Lib.hid ((t5.out.later (below1 w5 (.cells #[.int .i64 ov.at_, .int .i64 ov.len, .int .i64 ov.part] 60))).ref r6 g6 (tr_own _ _ _ _ _)); have nr : ¬ R w5.heap.size := fun hs => Nat.lt_irrefl _ (t5.out.or.lt t5.out.r _ hs); have k6 := (g6.block w5.heap.size (by simp) nr).trans (heap_alloc_new w5 (.cells #[.int .i64 ov.at_, .int .i64 ov.len, .int .i64 ov.part] 60)); have k6' := (Below.heap_alloc w6 (.cells #[.int .i64 ov.at_, .int .i64 ov.len, .int .i64 ov.part] 70) _ (lt_of_block k6)).trans k6; have z0 := cell_in (j := 0) k6' rfl; have z1 := cell_in (j := 1) k6' rfl; have z2 := cell_in (j := 2) k6' rfl; clear r6 g6 nr k6 k6')
        | (go_at_call 21; have _z := t4; refine (O.run _ H S ts hm js k t4.out.h).mono ?_; rintro e w5 ⟨S5, rfl, h5, g5⟩; rw [← HOV.out, ← HOU.out]; have t5 := Lib.hid (t4.out.prog h5 g5 (O.own _ _ _ _)); clear h5 g5)
        | (go_at_call 11; refine (rtfirst_any w _ rb R ts hm js HTV.out.r).mono ?_; rintro e w4 ⟨rfl, b4⟩; rw [HF.out]; have t4 := Lib.hid (HTV.out.later b4); have e4 := Lib.hid (HEK.out.later b4); obtain ⟨x0, x1, _⟩ := KS.out _ e4.out.k; clear b4)
        | fail "no arm")
      go_ret
      exact ⟨by simp, S5, R6, _, _, t6.out.later (below1 _ _), HH.out.run _⟩
  have f5 : (kd == 5) = false := by simpa using q5
  by_cases q6 : kd = 6
  · subst q6
    go_wp2_with (first
      | (go_at_call 29; have _z := t5; refine (ints_any _ ao4 ao5 (riseL ts js).length cap4 cap5 _ _ _ _ (riseL ts js) rfl (l4b.out) l5.out (by have := lis_len (lowP ts) js ts.length; have := HBD.out.1; show (lisT (lowP ts) js ts.length).length ≤ 100; omega)).mono ?_; rintro e w6 ⟨rfl, b6⟩; have t6 := Lib.hid (t5.out.later b6); clear b6)
      | (go_at_call 30; have _z := t4; refine (rtrise_any w _ rb R ts hm js t4.out.r).mono ?_; rintro e w5 ⟨R5, ao5, cap5, rfl, l5', r5, g5⟩; have l5 := Lib.hid l5'; have t5 := Lib.hid (t4.out.ref r5 g5 (tr_own _ _ _ _ _)); have l4b := Lib.hid (l4.out.keep (w' := w5) (fun b h1 h2 => g5.block b h2 (fun hr => by have := HTV.out.or.lt HTV.out.r b hr; omega))); clear l5' r5 g5)
      | (go_at_call 22; refine (O.rise _ H S ts hm js HTV.out.h).mono ?_; rintro e w4 ⟨S4, ao4, cap4, rfl, l4', h4, g4⟩; have l4 := Lib.hid l4'; have t4 := Lib.hid (HTV.out.prog h4 g4 (O.own _ _ _ _)); clear l4' h4 g4)
      | fail "no arm")
    go_ret
    exact ⟨rfl, S4, R5, _, _, t6.out, HiOk.rise HBD.out.2.2⟩
  have f6 : (kd == 6) = false := by simpa using q6
  by_cases q7 : kd = 7
  · subst q7
    obtain ⟨fv, hfv⟩ : ∃ fv, fv = falV ts hm js := ⟨_, rfl⟩
    have HFV := Lib.hid hfv
    clear hfv
    go_wp2_with (first
      | (go_at_call 31; have _z := t4; refine (rtfall_any w _ rb R ts hm js t4.out.r).mono ?_; rintro e w5 ⟨R5, rfl, r5, g5⟩; rw [← HFV.out]; have t5 := Lib.hid (t4.out.ref r5 g5 (tr_own _ _ _ _ _)); clear r5 g5)
      | (go_at_call 24; refine (O.fall _ H S ts hm js HTV.out.h).mono ?_; rintro e w4 ⟨S4, rfl, h4, g4⟩; rw [← HFV.out]; have t4 := Lib.hid (HTV.out.prog h4 g4 (O.own _ _ _ _)); clear h4 g4)
      | fail "no arm")
    go_ret
    exact ⟨by simp, S4, R5, _, _, t5.out, HH.out.fall⟩
  have f7 : (kd == 7) = false := by simpa using q7
  by_cases q8 : kd = 8
  · subst q8
    go_upto_region 20 with fail
    go_region_held3 (fun Y => Y.cell? ⟨E, 1, none⟩ = some (.int .i64 k))
      (first | exact (KS.out _ e6.out.k).2.1 | exact (KS.out _ e5.out.k).2.1 | exact (KS.out _ e4.out.k).2.1 | exact (KS.out _ rfl).2.1 | fail "no")
      (first
      | (go_at_call 29; have _z := t5; refine (ints_any _ ao4 ao5 (misL ts js k).length cap4 cap5 _ _ _ _ (misL ts js k) rfl (l4b.out) l5.out (by have := lis_len (misP ts k) js ts.length; have := HBD.out.1; show (lisT (misP ts k) js ts.length).length ≤ 100; omega)).mono ?_; rintro e w6 ⟨rfl, b6⟩; have t6 := Lib.hid (t5.out.later b6); have e6 := Lib.hid (e5.out.later b6); clear b6)
      | (go_at_call 33; have _z := t4; refine (rtmissed_any w _ rb R ts hm js t4.out.r k).mono ?_; rintro e w5 ⟨R5, ao5, cap5, rfl, l5', r5, g5⟩; have l5 := Lib.hid l5'; have t5 := Lib.hid (t4.out.ref r5 g5 (tr_own _ _ _ _ _)); have e5 := Lib.hid (e4.out.ref g5); have l4b := Lib.hid (l4.out.keep (w' := w5) (fun b h1 h2 => g5.block b h2 (fun hr => by have := (HTV.out.later (Below.refl _ _).drew).or.lt (HTV.out.later (Below.refl _ _).drew).r b hr; omega))); clear l5' r5 g5)
      | (go_at_call 32; refine (O.missed _ H S ts hm js k (HTV.out.later (Below.refl _ _).drew).h).mono ?_; rintro e w4 ⟨S4, ao4, cap4, rfl, l4', h4, g4⟩; have l4 := Lib.hid l4'; have t4 := Lib.hid ((HTV.out.later (Below.refl _ _).drew).prog h4 g4 (O.own _ _ _ _)); have e4 := Lib.hid ((HEK.out.later (Below.refl _ _).drew).prog g4); clear l4' h4 g4)
      | fail "no arm")
    go_wp2_with fail
    go_ret
    exact ⟨rfl, S4, R5, _, _, t6.out, HH.out.miss k⟩
  have f8 : (kd == 8) = false := by simpa using q8
  by_cases q9 : kd = 9
  · subst q9
    go_wp2_with (first
      | (go_at_call 35; have _z := t4; refine (rtclear_any w _ rb R ts hm js t4.out.r).mono ?_; rintro e w5 ⟨R5, rfl, r5, g5⟩; have t5 := Lib.hid (t4.out.ref r5 g5 (tr_own _ _ _ _ _)); clear r5 g5)
      | (go_at_call 34; refine (O.clear _ H S ts hm js HTV.out.h).mono ?_; rintro e w4 ⟨S4, rfl, h4, g4⟩; have t4 := Lib.hid (HTV.out.prog h4 g4 (O.own _ _ _ _)); clear h4 g4)
      | fail "no arm")
    go_ret
    exact ⟨rfl, S4, R5, _, _, t5.out, fun h => by cases h⟩
  have f9 : (kd == 9) = false := by simpa using q9
  clear q0 q1 q2 q3 q4 q5 q6 q7 q8 q9
  go_wp2_with fail
  go_ret
  exact ⟨rfl, S, R, _, _, HTV.out, HH.out⟩
end Go.Proofs.YtnenbgdonkgkfaaGreat
