/- The document's table of jobs: Run. -/
import Derived.Test.YtnenbgdonkgkfaaGreatTaskRq
namespace Go.Proofs.YtnenbgdonkgkfaaGreat
open Go.ChangeShapes Go.WideShapes Go.ChangeAt Go.RowKit
set_option linter.unusedVariables false

theorem set3r {w : World} {X : Nat} {T : TypeId} {cs : Array Value} (h : w.heap[X]? = some (.cells cs T (0, 0))) (hs : cs.size = 3) (v0 v1 v2 : Value) :
    (((w.setCell ⟨X, 0, none⟩ v0).setCell ⟨X, 1, none⟩ v1).setCell ⟨X, 2, none⟩ v2).heap[X]? = some (.cells #[v0, v1, v2] T (0, 0)) := by
  have h3 := set_at (j := 2) (u := v2) (set_at (j := 1) (u := v1) (set_at (j := 0) (u := v0) h))
  rw [h3]
  match cs, hs with
  | ⟨[a, b, c]⟩, _ => rfl
set_option maxRecDepth 100000 in
set_option maxHeartbeats 16000000 in
theorem rtrun_any (W0 w : World) (rb : Nat) (R : Nat → Prop) (ts : List Tk) (hm : Bool) (js : Js) (h : TrG W0 rb ts hm js w R) (hW : Below W0.heap.size W0 w) (hR0 : ∀ k, R k → W0.heap.size ≤ k) (t : Int) :
    Calls Tryz.prog 28 #[.pointer (some ⟨rb, 0, none⟩), .int .i64 t] w fun e w' => ∃ R', e = .returned (.tuple #[.agg #[.int .i64 (opT ts js t).at_, .int .i64 (opT ts js t).len, .int .i64 (opT ts js t).part], .int .i64 (outT ts hm js t)]) ∧ TrG W0 rb ts hm (runT ts hm js t) w' R' ∧ GrowS R R' w w' := by
  have HP := Lib.hid h
  obtain ⟨ao, c, f, h⟩ := h
  obtain ⟨V, hV⟩ : ∃ V, V = w.alloc (.cells #[.int .i64 0, .int .i64 0, .int .i64 0] 70) := ⟨_, rfl⟩
  obtain ⟨E, hE⟩ : ∃ E, E = w.heap.size := ⟨_, rfl⟩
  have hbV : Hid (Below w.heap.size w V) := Lib.hid (by rw [hV]; exact below1 _ _)
  have HEV : Hid (V.heap[E]? = some (.cells #[.int .i64 0, .int .i64 0, .int .i64 0] 70 (0, 0))) := Lib.hid (by rw [hV, hE]; exact heap_alloc_new _ _)
  have HT := Lib.hid (h.later hbV.out)
  have HV := Lib.hid hV
  have HE := Lib.hid hE
  have r0 := cell_in (j := 0) HEV.out rfl
  have r1 := cell_in (j := 1) HEV.out rfl
  have r2 := cell_in (j := 2) HEV.out rfl
  have q0 := free_in HEV.out 0
  have q1 := free_in HEV.out 1
  have q2 := free_in HEV.out 2
  have c0 := HT.out.c0
  have c37 := HT.out.c37
  obtain ⟨n, hn⟩ : ∃ n, n = ts.length := ⟨_, rfl⟩
  rw [← hn] at c0
  have HNN0 := Lib.hid hn
  have n6 : n ≤ 6 := by rw [hn]; exact h.n6
  have HNO : Hid (thereT ts js t = false → ∀ Y, Y = (((V.setCell ⟨E, 0, none⟩ (.int .i64 0)).setCell ⟨E, 1, none⟩ (.int .i64 0)).setCell ⟨E, 2, none⟩ (.int .i64 0)) → ∃ R', Ending.returned (.tuple #[.agg #[.int .i64 0, .int .i64 0, .int .i64 0], .int .i64 4]) = .returned (.tuple #[.agg #[.int .i64 (opT ts js t).at_, .int .i64 (opT ts js t).len, .int .i64 (opT ts js t).part], .int .i64 (outT ts hm js t)]) ∧ TrG W0 rb ts hm (runT ts hm js t) Y R' ∧ GrowS R R' w Y) := Lib.hid (fun ht Y hY => by
    obtain ⟨g1, g2, g3⟩ := there_no (hi := hm) ht
    have hb5 : Below w.heap.size w Y := by
      rw [hY]
      exact hbV.out.trans (((((But.refl E V).set 0 _).set 1 _).set 2 _).below (by have := HE.out; omega) hbV.out.size)
    rw [g1, g2, g3]
    exact ⟨R, rfl, (tr_own _ _ _ _ _).later HP.out hb5, GrowS.of_below hb5⟩)
  have HX := Lib.hid (set3r HEV.out rfl (.int .i64 0) (.int .i64 0) (.int .i64 0))
  have HRW := Lib.hid (And.intro hW hR0)
  clear h hV hE hW hR0
  by_cases h0 : t < 0
  · have d0 : decide (t < 0) = true := decide_eq_true h0
    have HF : Hid (thereT ts js t = false) := Lib.hid (there_in (by unfold inT; rw [decide_eq_false (by omega)]; rfl))
    clear h0 hn
    go_enter Tryz.func28, Tryz.ntmps28
    go_upto_region 1 with fail
    rw [← HV.out, ← HE.out]
    go_wp2_with fail
    refine bodyPost_ret (results_pairR (P := Tryz.prog) rfl _ _ E _ _ (0, 0) _ _ rfl rfl HX.out Tryz.underlying70 rfl Tryz.sizeROp) rfl ?_
    exact HNO.out HF.out _ rfl
  · have d0 : decide (t < 0) = false := decide_eq_false h0
    by_cases h1 : (n : Int) ≤ t
    · have d1 : decide ((n : Int) ≤ t) = true := decide_eq_true h1
      have HF : Hid (thereT ts js t = false) := Lib.hid (there_in (by unfold inT; rw [← hn, decide_eq_false (show ¬ t < (n : Int) by omega), Bool.and_false]))
      clear h0 h1 hn
      go_enter Tryz.func28, Tryz.ntmps28
      go_upto_region 1 with fail
      rw [← HV.out, ← HE.out]
      go_wp2_with fail
      refine bodyPost_ret (results_pairR (P := Tryz.prog) rfl _ _ E _ _ (0, 0) _ _ rfl rfl HX.out Tryz.underlying70 rfl Tryz.sizeROp) rfl ?_
      exact HNO.out HF.out _ rfl
    · have d1 : decide ((n : Int) ≤ t) = false := decide_eq_false h1
      obtain ⟨k, hk⟩ : ∃ k : Nat, t = k := ⟨t.toNat, by omega⟩
      subst hk
      have d1' : decide (n ≤ k) = false := decide_eq_false (by omega)
      have e0 : (0 : Int) ≤ (k : Int) := by omega
      have e1 : (k : Int) < 6 := by omega
      have e2 : (k : Int) < (n : Int) := by omega
      have y0 := HT.out.is (k := k) (by omega)
      have hkt : k < ts.length := by omega
      cases hj : js k with
      | none =>
        rw [hasJ_none hj] at y0
        have HF : Hid (thereT ts js (k : Int) = false) := Lib.hid (there_f hj)
        clear h0 h1 hn hj hkt
        go_enter Tryz.func28, Tryz.ntmps28
        go_upto_region 1 with fail
        rw [← HV.out, ← HE.out]
        go_wp2_with fail
        refine bodyPost_ret (results_pairR (P := Tryz.prog) rfl _ _ E _ _ (0, 0) _ _ rfl rfl HX.out Tryz.underlying70 rfl Tryz.sizeROp) rfl ?_
        exact HNO.out HF.out _ rfl
      | some j =>
        rw [hasJ_some hj] at y0
        obtain ⟨oa, oc, a0, a1, a2, a3, a4, hlj, _⟩ := HT.out.jobAt hj
        have hbd := HT.out.ok.bd k j hj
        have HOP := Lib.hid (op_yes hkt hj)
        have HOU := Lib.hid (out_yes (hi := hm) hkt hj)
        have HRU := Lib.hid (run_yes (hi := hm) hkt hj)
        have HJ := Lib.hid hj
        have HKT := Lib.hid hkt
        have HK6 : Hid (k < 6) := Lib.hid (by omega)
        have KL := Lib.hid (ops_read rfl hlj)
        have HEN : Hid (E ≠ rb) := Lib.hid (by have := (tr_own W0 rb ts hm js).lt HP.out rb HT.out.own; have := HE.out; omega)
        obtain ⟨d, hd⟩ : ∃ d : Nat, j.done = (d : Int) := ⟨j.done.toNat, by omega⟩
        rw [hd] at a3
        have hd2 : d ≤ 1048576 := by omega
        have HD := Lib.hid hd
        clear h0 h1 hn hj hkt hlj hbd hd HNO HX
        go_enter Tryz.func28, Tryz.ntmps28
        go_upto_region 1 with fail
        rw [← HV.out, ← HE.out]
        go_upto_region 5 with fail
        obtain ⟨m, hm0⟩ : ∃ m, m = j.ops.length := ⟨_, rfl⟩
        obtain ⟨jw, hjw⟩ : ∃ jw, jw = j.work := ⟨_, rfl⟩
        obtain ⟨U, hU⟩ : ∃ U, U = (V.alloc (.cells #[.int .i64 k, .int .i64 j.arr, .int .i64 j.work, .int .i64 d, .slice oa j.ops.length oc] 33)).alloc (.cells #[.int .i64 0, .int .i64 0, .int .i64 0] 70) := ⟨_, rfl⟩
        rw [← hU]
        obtain ⟨B, hB⟩ : ∃ B, B = V.heap.size := ⟨_, rfl⟩
        rw [← hB]
        have hbU : Below V.heap.size V U := by rw [hU]; exact b_alloc (below1 _ _) (Nat.le_refl _) _
        have hU6 : U.heap[B]? = some (.cells #[.int .i64 k, .int .i64 j.arr, .int .i64 jw, .int .i64 d, .slice oa m oc] 33 (0, 0)) := by rw [hU, hB, hm0, hjw]; simp only [heap_at, World.size_alloc]; simp
        have hU7 : U.heap[B + 1]? = some (.cells #[.int .i64 0, .int .i64 0, .int .i64 0] 70 (0, 0)) := by rw [hU, hB]; simp only [heap_at, World.size_alloc]; simp
        have hUE := (hbU.block E (lt_of_block HEV.out)).trans HEV.out
        have HTU := Lib.hid (HT.out.later hbU)
        have HEB : Hid (E < B ∧ rb < B) := Lib.hid ⟨by have := lt_of_block HEV.out; omega, by have := HT.out.lt rb HT.out.own; omega⟩
        obtain ⟨ov, hov⟩ : ∃ ov, ov = j.ops.getD d zWn := ⟨_, rfl⟩
        have HOV : Hid (opT ts js (k : Int) = ov) := Lib.hid (by rw [HOP.out, HD.out, Int.toNat_natCast, hov])
        have HBU := Lib.hid hbU
        have HNL : Hid (n = ts.length) := HNN0
        have HBL : Hid (B = V.heap.size) := Lib.hid hB
        have HU7 := Lib.hid hU7
        have HUE := Lib.hid hUE
        have HU6 := Lib.hid hU6
        have g3 : U.cell? ⟨B, 3, none⟩ = some (.int .i64 d) := cell_in hU6 rfl
        have g4 : U.cell? ⟨B, 4, none⟩ = some (.slice oa m oc) := cell_in hU6 rfl
        have s0 := cell_in (j := 0) hU7 rfl
        have s1 := cell_in (j := 1) hU7 rfl
        have s2 := cell_in (j := 2) hU7 rfl
        have v0 := free_in hU7 0
        have v1 := free_in hU7 1
        have v2 := free_in hU7 2
        have HJW := Lib.hid hjw
        clear hU hB hbU hU6 hU7 hUE r0 r1 r2 q0 q1 q2 c0 c37 y0 a0 a1 a2 a3 a4 hjw
        by_cases hdm : d < m
        · have f0 : decide ((d : Int) < (m : Int)) = true := decide_eq_true (by omega)
          have f1 : (0 : Int) ≤ (d : Int) := by omega
          have f2 : (d : Int) < (m : Int) := by omega
          obtain ⟨b, off, x0, x1, x2, ea, _, hb, hy, hc⟩ := KL.out d (by omega)
          subst ea
          have hwv : Below W0.heap.size W0 U := HRW.out.1.trans ((hbV.out.trans (HBU.out.mono hbV.out.size)).mono HRW.out.1.size)
          obtain ⟨l0, l1, l2⟩ := hc U (hwv.block b hb)
          have hov2 : ov = ⟨x0, x1, x2⟩ := by rw [hov, List.getD_eq_getElem?_getD, hy]; rfl
          have HX := Lib.hid hov2
          clear hb hy hc hwv hov hov2 hm0 hdm
          go_upto_region 7 with fail
          rw [show x0 = ov.at_ by rw [HX.out], show x1 = ov.len by rw [HX.out], show x2 = ov.part by rw [HX.out]]
          obtain ⟨wc, hwc⟩ : ∃ wc, wc = ((U.setCell ⟨B + 1, 0, none⟩ (.int .i64 ov.at_)).setCell ⟨B + 1, 1, none⟩ (.int .i64 ov.len)).setCell ⟨B + 1, 2, none⟩ (.int .i64 ov.part) := ⟨_, rfl⟩
          rw [← hwc]
          have hB7 : But (B + 1) U wc := by rw [hwc]; exact (((But.refl _ _).set 0 _).set 1 _).set 2 _
          have hbw : Below w.heap.size w U := hbV.out.trans (HBU.out.mono hbV.out.size)
          have HTX : Hid (TrAt W0 wc rb R ts hm js ao c f) := Lib.hid (HTU.out.keep (fun g hg => hB7.block g (HTU.out.lt g hg) (fun e => by have := HT.out.lt g hg; have := HBL.out; omega)) hB7.size)
          have HX6 := Lib.hid ((hB7.block B (lt_of_block HU6.out) (by omega)).trans HU6.out)
          have HX7 : Hid (wc.heap[B + 1]? = some (.cells #[.int .i64 ov.at_, .int .i64 ov.len, .int .i64 ov.part] 70 (0, 0))) := Lib.hid (by rw [hwc]; exact set3r HU7.out rfl _ _ _)
          have HXE := Lib.hid ((hB7.block E (lt_of_block HUE.out) (by have := HEB.out; omega)).trans HUE.out)
          have HBX : Hid (Below w.heap.size w wc) := Lib.hid (hbw.trans (hB7.below (by have := hbV.out.size; have := HBL.out; omega) hbw.size))
          clear hwc hB7 hbw l0 l1 l2 HX x0 x1 x2
          clear f0 g3 g4 s0 s1 s2 v0 v1 v2 HTU HU6 HU7 HUE HBU
          obtain ⟨_, _, _, _, _, a3, _⟩ := HTX.out.jobAt HJ.out
          rw [HD.out] at a3
          have z3 := HTX.out.fz (1 + k * 5 + 3)
          have ew : IntKind.i64.wrap ((d : Int) + 1) = (d : Int) + 1 := IntWalk.i64_in _ (by omega)
          obtain ⟨Y, hY⟩ : ∃ Y, Y = (wc.setCell ⟨rb, 1 + k * 5 + 3, none⟩ (.int .i64 ((d : Int) + 1))).drew := ⟨_, rfl⟩
          have HY := Lib.hid hY
          have hBR : But rb wc Y := by rw [hY]; exact ((But.refl rb wc).set _ _).drew
          have hY6 := (hBR.block B (lt_of_block HX6.out) (by have := HEB.out; omega)).trans HX6.out
          have hY7 := (hBR.block (B + 1) (lt_of_block HX7.out) (by have := HEB.out; omega)).trans HX7.out
          have HYE := Lib.hid ((hBR.block E (lt_of_block HXE.out) HEN.out).trans HXE.out)
          have i2 : Y.cell? ⟨B, 2, none⟩ = some (.int .i64 jw) := cell_in hY6 rfl
          have i3 : Y.cell? ⟨B, 3, none⟩ = some (.int .i64 d) := cell_in hY6 rfl
          have s0 := cell_in (j := 0) hY7 rfl
          have s1 := cell_in (j := 1) hY7 rfl
          have s2 := cell_in (j := 2) hY7 rfl
          have r0 := cell_in (j := 0) HYE.out rfl
          have r1 := cell_in (j := 1) HYE.out rfl
          have r2 := cell_in (j := 2) HYE.out rfl
          have q0 := free_in HYE.out 0
          have q1 := free_in HYE.out 1
          have q2 := free_in HYE.out 2
          have HFIN : Hid (∀ (Z : World) (o : Int) (js' : Js), Z.heap[E]? = some (.cells #[.int .i64 0, .int .i64 0, .int .i64 0] 70 (0, 0)) → TrG W0 rb ts hm js' Z R → GrowS R R w Z → outT ts hm js (k : Int) = o → runT ts hm js (k : Int) = js' → (((Z.setCell ⟨E, 0, none⟩ (.int .i64 ov.at_)).setCell ⟨E, 1, none⟩ (.int .i64 ov.len)).setCell ⟨E, 2, none⟩ (.int .i64 ov.part)).heap[E]? = some (.cells #[.int .i64 ov.at_, .int .i64 ov.len, .int .i64 ov.part] 70 (0, 0)) ∧ ∃ R', Ending.returned (.tuple #[.agg #[.int .i64 ov.at_, .int .i64 ov.len, .int .i64 ov.part], .int .i64 o]) = .returned (.tuple #[.agg #[.int .i64 (opT ts js (k : Int)).at_, .int .i64 (opT ts js (k : Int)).len, .int .i64 (opT ts js (k : Int)).part], .int .i64 (outT ts hm js (k : Int))]) ∧ TrG W0 rb ts hm (runT ts hm js (k : Int)) (((Z.setCell ⟨E, 0, none⟩ (.int .i64 ov.at_)).setCell ⟨E, 1, none⟩ (.int .i64 ov.len)).setCell ⟨E, 2, none⟩ (.int .i64 ov.part)) R' ∧ GrowS R R' w (((Z.setCell ⟨E, 0, none⟩ (.int .i64 ov.at_)).setCell ⟨E, 1, none⟩ (.int .i64 ov.len)).setCell ⟨E, 2, none⟩ (.int .i64 ov.part))) := Lib.hid (fun Z o js' hZ hT hG ho hr => by
            have hBE : But E Z (((Z.setCell ⟨E, 0, none⟩ (.int .i64 ov.at_)).setCell ⟨E, 1, none⟩ (.int .i64 ov.len)).setCell ⟨E, 2, none⟩ (.int .i64 ov.part)) := (((But.refl _ _).set 0 _).set 1 _).set 2 _
            have hne : ¬ R E := fun hR => by have := (tr_own W0 rb ts hm js).lt HP.out E hR; have := HE.out; omega
            refine ⟨set3r hZ rfl _ _ _, R, by rw [HOV.out, ho], by rw [hr]; exact (tr_own _ _ _ _ _).keep hT (fun g hg => hBE.block g ((tr_own _ _ _ _ _).lt hT g hg) (fun e => hne (e ▸ hg))) hBE.size, ⟨hBE.os.trans hG.os, hBE.tape.trans hG.tape, hBE.output.trans hG.output, Nat.le_trans hG.size hBE.size, fun g h1 h2 => (hBE.block g (Nat.lt_of_lt_of_le h1 hG.size) (by have := HE.out; omega)).trans (hG.block g h1 h2), hG.own⟩⟩)
          have HBRU := Lib.hid hBR
          obtain ⟨tb, hao, tne, t0, _, _, t4, t5⟩ := HTX.out.tkc HKT.out
          have HHB := Lib.hid (HTX.out.ok.bd k j HJ.out)
          by_cases hdw : (d : Int) + 1 = jw
          · have w1 : (((d : Int) + 1) == jw) = true := by simpa using hdw
            obtain ⟨h7, g7⟩ := HTX.out.tickGone HK6.out ((d : Int) + 1)
            have u1 : Y.cell? ⟨rb, 31 + k, none⟩ = some (.bool (hasJ js k)) := by
              obtain ⟨cur, b1, b2, b3, b4, b5, b6⟩ := HTX.out.box
              have : Y.heap[rb]? = some (.cells (cur.setIfInBounds (1 + k * 5 + 3) (.int .i64 ((d : Int) + 1))) 51 (0, 0)) := by rw [hY]; exact set_at b1
              exact cell_in this (by rw [Array.getElem?_setIfInBounds, if_neg (by omega)]; exact b5 k HK6.out)
            have u2 : Y.frozen? ⟨rb, 31 + k, none⟩ = false := by
              obtain ⟨cur, b1, _⟩ := HTX.out.box
              have : Y.heap[rb]? = some (.cells (cur.setIfInBounds (1 + k * 5 + 3) (.int .i64 ((d : Int) + 1))) 51 (0, 0)) := by rw [hY]; exact set_at b1
              exact free_in this _
            have HO1 : Hid (outJ ts hm k j = 1) := Lib.hid (by unfold outJ; rw [if_pos (by rw [HD.out, ← HJW.out]; exact hdw)])
            obtain ⟨Z, hZ⟩ : ∃ Z, Z = Y.setCell ⟨rb, 31 + k, none⟩ (.bool false) := ⟨_, rfl⟩
            have hZt : TrG W0 rb ts hm (upd js k none) Z R ∧ GrowS R R wc Z := by
              rw [hZ, hY]
              exact ⟨⟨ao, c, _, h7.keep (fun g hg => rfl) (Nat.le_refl _)⟩, ⟨g7.os, g7.tape, g7.output, g7.size, g7.block, g7.own⟩⟩
            have hBZ : But rb Y Z := by rw [hZ]; exact (But.refl _ _).set _ _
            obtain ⟨n1, n2⟩ := HFIN.out Z 1 (upd js k none) ((hBZ.block E (lt_of_block HYE.out) HEN.out).trans HYE.out) hZt.1 ((GrowS.of_below HBX.out).trans hZt.2) (by rw [HOU.out, HO1.out]) (by rw [HRU.out, HO1.out]; rfl)
            have HZE := Lib.hid ((hBZ.block E (lt_of_block HYE.out) HEN.out).trans HYE.out)
            have hZ7 := (hBZ.block (B + 1) (lt_of_block hY7) (by have := HEB.out; omega)).trans hY7
            have m0 := cell_in (j := 0) hZ7 rfl
            have m1 := cell_in (j := 1) hZ7 rfl
            have m2 := cell_in (j := 2) hZ7 rfl
            have o0 := cell_in (j := 0) HZE.out rfl
            have o1 := cell_in (j := 1) HZE.out rfl
            have o2 := cell_in (j := 2) HZE.out rfl
            have k0 := free_in HZE.out 0
            have k1 := free_in HZE.out 1
            have k2 := free_in HZE.out 2
            have N1 := Lib.hid n1
            have N2 := Lib.hid n2
            have HZ := Lib.hid hZ
            clear h7 g7 hZ hZt hBZ hZ7 n1 n2 hY hBR hY6 hY7 hdw t0 t4 t5 tne hao
            go_region
            rw [← HY.out]
            clear a3 z3
            go_upto_region 11 with fail
            rw [← HZ.out]
            go_wp2_with fail
            refine bodyPost_ret (results_pairR (P := Tryz.prog) rfl _ _ E _ _ (0, 0) _ _ rfl rfl N1.out Tryz.underlying70 rfl Tryz.sizeROp) rfl ?_
            obtain ⟨R2, b1, b2, b3⟩ := N2.out
            first | exact ⟨R2, b1, b2, b3⟩ | exact ⟨b1, R2, b2, b3⟩
          · have w1 : (((d : Int) + 1) == jw) = false := by simpa using hdw
            obtain ⟨h7, g7⟩ := HTX.out.tick HJ.out (by have := HHB.out; rw [HD.out, ← HJW.out] at *; omega)
            rw [HD.out] at h7 g7
            obtain ⟨f7, hf7⟩ : ∃ f7, f7 = upd f k ⟨(f k).task, (f k).arr, (f k).work, (d : Int) + 1, (f k).ops⟩ := ⟨_, rfl⟩
            rw [← hf7] at h7
            have HT7 : Hid (TrAt W0 Y rb R ts hm (upd js k (some { j with done := (d : Int) + 1 })) ao c f7 ∧ GrowS R R w Y) := Lib.hid (by rw [hY]; exact ⟨h7.drew, growS_drew ((GrowS.of_below HBX.out).trans g7)⟩)
            subst hao
            obtain ⟨tb', hao', _, t0, _, _, t4, t5⟩ := HT7.out.1.tkc HKT.out
            cases hao'
            have c0 := HT7.out.1.c0
            rw [← HNL.out] at c0
            have c37 := HT7.out.1.c37
            obtain ⟨th, hth⟩ : ∃ th, th = (tkAt ts k).hi := ⟨_, rfl⟩
            obtain ⟨tlo, htlo⟩ : ∃ tlo, tlo = (tkAt ts k).lo := ⟨_, rfl⟩
            obtain ⟨ttop, httop⟩ : ∃ ttop, ttop = (tkAt ts k).top := ⟨_, rfl⟩
            rw [← hth] at t0
            rw [← htlo] at t4
            rw [← httop] at t5
            have HJN : Hid (¬ j.done + 1 = j.work) := Lib.hid (by rw [HD.out, ← HJW.out]; exact hdw)
            have HTK := Lib.hid (And.intro hth (And.intro htlo httop))
            have HBUD : Hid (budT ts hm k = if hm = true then ttop else tlo) := Lib.hid (by unfold budT; rw [htlo, httop])
            have HSTAY : Hid (outJ ts hm k j = 0 ∨ outJ ts hm k j = 3 → runT ts hm js (k : Int) = upd js k (some { j with done := (d : Int) + 1 })) := Lib.hid (fun ho => by rw [HRU.out, if_pos ho, HD.out])
            have HGONE : Hid (outJ ts hm k j = 2 → runT ts hm js (k : Int) = upd js k none) := Lib.hid (fun ho => by rw [HRU.out, ho]; rfl)
            have y31 : Y.cell? ⟨rb, 31 + k, none⟩ = some (.bool true) := by
              have := HT7.out.1.is HK6.out
              rwa [show hasJ (upd js k (some { j with done := (d : Int) + 1 })) k = true from hasJ_some (upd_at _ _ _)] at this
            have z31 := HT7.out.1.fz (31 + k)
            have HY7 := Lib.hid hY7
            clear h7 g7 hf7 hth htlo httop hY hBR hY6 hY7 hdw tne
            go_region
            rw [← HY.out]
            clear a3 z3
            cases hm with
            | true =>
              by_cases qq : (d : Int) + 1 < ttop
              · have f5 : decide ((d : Int) + 1 < ttop) = true := decide_eq_true qq
                have HO1 : Hid (outJ ts true k j = 0) := Lib.hid (by unfold outJ; rw [if_neg HJN.out, if_pos (by rw [HBUD.out, HD.out, if_pos rfl]; exact qq)])
                clear qq
                obtain ⟨Z, hZ, hbZ⟩ : ∃ Z, Z = Y ∧ Below Y.heap.size Y Z := ⟨_, rfl, Below.refl _ _⟩
                rw [← hZ]
                obtain ⟨n1, n2⟩ := HFIN.out Z 0 _ ((hbZ.block E (lt_of_block HYE.out)).trans HYE.out) ((tr_own _ _ _ _ _).later ⟨_, _, _, HT7.out.1⟩ hbZ) (HT7.out.2.trans (GrowS.of_below hbZ)) (by rw [HOU.out, HO1.out]) (HSTAY.out (by rw [HO1.out]; omega))
                have hz7 := ((hbZ.block (B + 1) (lt_of_block HY7.out)).trans HY7.out)
                have hzE := ((hbZ.block E (lt_of_block HYE.out)).trans HYE.out)
                have m0 := cell_in (j := 0) hz7 rfl
                have m1 := cell_in (j := 1) hz7 rfl
                have m2 := cell_in (j := 2) hz7 rfl
                have o0 := cell_in (j := 0) hzE rfl
                have o1 := cell_in (j := 1) hzE rfl
                have o2 := cell_in (j := 2) hzE rfl
                have k0 := free_in hzE 0
                have k1 := free_in hzE 1
                have k2 := free_in hzE 2
                have c0z : Z.cell? ⟨rb, 0, none⟩ = some (.slice (some ⟨tb, 0, none⟩) n c) := by rw [hZ]; exact c0
                have c37z : Z.cell? ⟨rb, 37, none⟩ = some (.bool true) := by rw [hZ]; exact c37
                have t4z : Z.cell? ⟨tb, k * 6 + 4, none⟩ = some (.int .i64 tlo) := by rw [hZ]; exact t4
                have t5z : Z.cell? ⟨tb, k * 6 + 5, none⟩ = some (.int .i64 ttop) := by rw [hZ]; exact t5
                have i2z : Z.cell? ⟨B, 2, none⟩ = some (.int .i64 jw) := by rw [hZ]; exact i2
                have i3z : Z.cell? ⟨B, 3, none⟩ = some (.int .i64 d) := by rw [hZ]; exact i3
                clear hZ hbZ
                have N1 := Lib.hid n1
                have N2 := Lib.hid n2
                clear hz7 hzE n1 n2
                go_wp2_with fail
                refine bodyPost_ret (results_pairR (P := Tryz.prog) rfl _ _ E _ _ (0, 0) _ _ rfl rfl N1.out Tryz.underlying70 rfl Tryz.sizeROp) rfl ?_
                obtain ⟨R2, b1, b2, b3⟩ := N2.out
                first | exact ⟨R2, b1, b2, b3⟩ | exact ⟨b1, R2, b2, b3⟩
              · have f5 : decide ((d : Int) + 1 < ttop) = false := decide_eq_false qq
                have HO1 : Hid (outJ ts true k j = 2) := Lib.hid (by unfold outJ; rw [if_neg HJN.out, if_neg (by rw [HBUD.out, HD.out, if_pos rfl]; exact qq), if_neg (by simp)])
                clear qq
                go_upto_region 17 with fail
                go_quiet (fail)
                obtain ⟨Y2, hY2, hbY2⟩ : ∃ Y2, Y2 = Y.drewN nq ∧ Below Y.heap.size Y Y2 := ⟨_, rfl, below_drewR _ (Below.refl _ _)⟩
                rw [← hY2]
                clear hY2
                obtain ⟨hg1, hg2⟩ := (HT7.out.1.later hbY2).gone HK6.out
                rw [show upd (upd js k (some { j with done := (d : Int) + 1 })) k none = upd js k none by funext i; by_cases e : i = k; (subst e; rw [upd_at, upd_at]); (rw [upd_ne _ _ e, upd_ne _ _ e, upd_ne _ _ e])] at hg1
                have y32 : Y2.cell? ⟨rb, 31 + k, none⟩ = some (.bool true) := by
                  have := (HT7.out.1.later hbY2).is HK6.out
                  rwa [show hasJ (upd js k (some { j with done := (d : Int) + 1 })) k = true from hasJ_some (upd_at _ _ _)] at this
                have z32 := (HT7.out.1.later hbY2).fz (31 + k)
                obtain ⟨Z, hZ⟩ : ∃ Z, Z = Y2.setCell ⟨rb, 31 + k, none⟩ (.bool false) := ⟨_, rfl⟩
                rw [← hZ] at hg1 hg2
                have hBZ : But rb Y2 Z := by rw [hZ]; exact (But.refl _ _).set _ _
                have hE2 := (hbY2.block E (lt_of_block HYE.out)).trans HYE.out
                have hZE := (hBZ.block E (lt_of_block hE2) HEN.out).trans hE2
                have hB2 := (hbY2.block (B + 1) (lt_of_block HY7.out)).trans HY7.out
                have hZB := (hBZ.block (B + 1) (lt_of_block hB2) (by have := HEB.out; omega)).trans hB2
                obtain ⟨n1, n2⟩ := HFIN.out Z 2 _ hZE ⟨_, _, _, hg1⟩ ((HT7.out.2.trans (GrowS.of_below hbY2)).trans hg2) (by rw [HOU.out, HO1.out]) (HGONE.out HO1.out)
                have HZ := Lib.hid hZ
                clear y31 z31 hZ
                go_upto_region 20 with fail
                rw [← HZ.out]
                have hz7 := hZB
                have hzE := hZE
                have m0 := cell_in (j := 0) hz7 rfl
                have m1 := cell_in (j := 1) hz7 rfl
                have m2 := cell_in (j := 2) hz7 rfl
                have o0 := cell_in (j := 0) hzE rfl
                have o1 := cell_in (j := 1) hzE rfl
                have o2 := cell_in (j := 2) hzE rfl
                have k0 := free_in hzE 0
                have k1 := free_in hzE 1
                have k2 := free_in hzE 2
                clear hBZ hE2 hZE hB2 hZB hg1 hg2 hbY2 y32 z32
                have N1 := Lib.hid n1
                have N2 := Lib.hid n2
                clear hz7 hzE n1 n2
                go_wp2_with fail
                refine bodyPost_ret (results_pairR (P := Tryz.prog) rfl _ _ E _ _ (0, 0) _ _ rfl rfl N1.out Tryz.underlying70 rfl Tryz.sizeROp) rfl ?_
                obtain ⟨R2, b1, b2, b3⟩ := N2.out
                first | exact ⟨R2, b1, b2, b3⟩ | exact ⟨b1, R2, b2, b3⟩
            | false =>
              by_cases qq : (d : Int) + 1 < tlo
              · have f5 : decide ((d : Int) + 1 < tlo) = true := decide_eq_true qq
                have HO1 : Hid (outJ ts false k j = 0) := Lib.hid (by unfold outJ; rw [if_neg HJN.out, if_pos (by rw [HBUD.out, HD.out, if_neg (by simp)]; exact qq)])
                clear qq
                obtain ⟨Z, hZ, hbZ⟩ : ∃ Z, Z = Y ∧ Below Y.heap.size Y Z := ⟨_, rfl, Below.refl _ _⟩
                rw [← hZ]
                obtain ⟨n1, n2⟩ := HFIN.out Z 0 _ ((hbZ.block E (lt_of_block HYE.out)).trans HYE.out) ((tr_own _ _ _ _ _).later ⟨_, _, _, HT7.out.1⟩ hbZ) (HT7.out.2.trans (GrowS.of_below hbZ)) (by rw [HOU.out, HO1.out]) (HSTAY.out (by rw [HO1.out]; omega))
                have hz7 := ((hbZ.block (B + 1) (lt_of_block HY7.out)).trans HY7.out)
                have hzE := ((hbZ.block E (lt_of_block HYE.out)).trans HYE.out)
                have m0 := cell_in (j := 0) hz7 rfl
                have m1 := cell_in (j := 1) hz7 rfl
                have m2 := cell_in (j := 2) hz7 rfl
                have o0 := cell_in (j := 0) hzE rfl
                have o1 := cell_in (j := 1) hzE rfl
                have o2 := cell_in (j := 2) hzE rfl
                have k0 := free_in hzE 0
                have k1 := free_in hzE 1
                have k2 := free_in hzE 2
                have c0z : Z.cell? ⟨rb, 0, none⟩ = some (.slice (some ⟨tb, 0, none⟩) n c) := by rw [hZ]; exact c0
                have c37z : Z.cell? ⟨rb, 37, none⟩ = some (.bool false) := by rw [hZ]; exact c37
                have t4z : Z.cell? ⟨tb, k * 6 + 4, none⟩ = some (.int .i64 tlo) := by rw [hZ]; exact t4
                have t5z : Z.cell? ⟨tb, k * 6 + 5, none⟩ = some (.int .i64 ttop) := by rw [hZ]; exact t5
                have i2z : Z.cell? ⟨B, 2, none⟩ = some (.int .i64 jw) := by rw [hZ]; exact i2
                have i3z : Z.cell? ⟨B, 3, none⟩ = some (.int .i64 d) := by rw [hZ]; exact i3
                clear hZ hbZ
                have N1 := Lib.hid n1
                have N2 := Lib.hid n2
                clear hz7 hzE n1 n2
                go_wp2_with fail
                refine bodyPost_ret (results_pairR (P := Tryz.prog) rfl _ _ E _ _ (0, 0) _ _ rfl rfl N1.out Tryz.underlying70 rfl Tryz.sizeROp) rfl ?_
                obtain ⟨R2, b1, b2, b3⟩ := N2.out
                first | exact ⟨R2, b1, b2, b3⟩ | exact ⟨b1, R2, b2, b3⟩
              · have f5 : decide ((d : Int) + 1 < tlo) = false := decide_eq_false qq
                cases th with
                | false =>
                  have HO1 : Hid (outJ ts false k j = 2) := Lib.hid (by unfold outJ; rw [if_neg HJN.out, if_neg (by rw [HBUD.out, HD.out, if_neg (by simp)]; exact qq), if_neg (fun h => by have := HTK.out.1; rw [h.2.1] at this; cases this)])
                  clear qq
                  go_upto_region 17 with fail
                  go_quiet (fail)
                  obtain ⟨Y2, hY2, hbY2⟩ : ∃ Y2, Y2 = Y.drewN nq ∧ Below Y.heap.size Y Y2 := ⟨_, rfl, below_drewR _ (Below.refl _ _)⟩
                  rw [← hY2]
                  clear hY2
                  obtain ⟨hg1, hg2⟩ := (HT7.out.1.later hbY2).gone HK6.out
                  rw [show upd (upd js k (some { j with done := (d : Int) + 1 })) k none = upd js k none by funext i; by_cases e : i = k; (subst e; rw [upd_at, upd_at]); (rw [upd_ne _ _ e, upd_ne _ _ e, upd_ne _ _ e])] at hg1
                  have y32 : Y2.cell? ⟨rb, 31 + k, none⟩ = some (.bool true) := by
                    have := (HT7.out.1.later hbY2).is HK6.out
                    rwa [show hasJ (upd js k (some { j with done := (d : Int) + 1 })) k = true from hasJ_some (upd_at _ _ _)] at this
                  have z32 := (HT7.out.1.later hbY2).fz (31 + k)
                  obtain ⟨Z, hZ⟩ : ∃ Z, Z = Y2.setCell ⟨rb, 31 + k, none⟩ (.bool false) := ⟨_, rfl⟩
                  rw [← hZ] at hg1 hg2
                  have hBZ : But rb Y2 Z := by rw [hZ]; exact (But.refl _ _).set _ _
                  have hE2 := (hbY2.block E (lt_of_block HYE.out)).trans HYE.out
                  have hZE := (hBZ.block E (lt_of_block hE2) HEN.out).trans hE2
                  have hB2 := (hbY2.block (B + 1) (lt_of_block HY7.out)).trans HY7.out
                  have hZB := (hBZ.block (B + 1) (lt_of_block hB2) (by have := HEB.out; omega)).trans hB2
                  obtain ⟨n1, n2⟩ := HFIN.out Z 2 _ hZE ⟨_, _, _, hg1⟩ ((HT7.out.2.trans (GrowS.of_below hbY2)).trans hg2) (by rw [HOU.out, HO1.out]) (HGONE.out HO1.out)
                  have HZ := Lib.hid hZ
                  clear y31 z31 hZ
                  go_upto_region 20 with fail
                  rw [← HZ.out]
                  have hz7 := hZB
                  have hzE := hZE
                  have m0 := cell_in (j := 0) hz7 rfl
                  have m1 := cell_in (j := 1) hz7 rfl
                  have m2 := cell_in (j := 2) hz7 rfl
                  have o0 := cell_in (j := 0) hzE rfl
                  have o1 := cell_in (j := 1) hzE rfl
                  have o2 := cell_in (j := 2) hzE rfl
                  have k0 := free_in hzE 0
                  have k1 := free_in hzE 1
                  have k2 := free_in hzE 2
                  clear hBZ hE2 hZE hB2 hZB hg1 hg2 hbY2 y32 z32
                  have N1 := Lib.hid n1
                  have N2 := Lib.hid n2
                  clear hz7 hzE n1 n2
                  go_wp2_with fail
                  refine bodyPost_ret (results_pairR (P := Tryz.prog) rfl _ _ E _ _ (0, 0) _ _ rfl rfl N1.out Tryz.underlying70 rfl Tryz.sizeROp) rfl ?_
                  obtain ⟨R2, b1, b2, b3⟩ := N2.out
                  first | exact ⟨R2, b1, b2, b3⟩ | exact ⟨b1, R2, b2, b3⟩
                | true =>
                  by_cases qt : tlo < ttop
                  · have f6 : decide (tlo < ttop) = true := decide_eq_true qt
                    have HO1 : Hid (outJ ts false k j = 3) := Lib.hid (by unfold outJ; rw [if_neg HJN.out, if_neg (by rw [HBUD.out, HD.out, if_neg (by simp)]; exact qq), if_pos ⟨rfl, HTK.out.1.symm, by rw [← HTK.out.2.1, ← HTK.out.2.2]; exact qt⟩])
                    clear qq qt
                    go_upto_region 17 with fail
                    go_quiet (fail)
                    obtain ⟨Z, hZ, hbZ⟩ : ∃ Z, Z = Y.drewN nq ∧ Below Y.heap.size Y Z := ⟨_, rfl, below_drewR _ (Below.refl _ _)⟩
                    rw [← hZ]
                    obtain ⟨n1, n2⟩ := HFIN.out Z 3 _ ((hbZ.block E (lt_of_block HYE.out)).trans HYE.out) ((tr_own _ _ _ _ _).later ⟨_, _, _, HT7.out.1⟩ hbZ) (HT7.out.2.trans (GrowS.of_below hbZ)) (by rw [HOU.out, HO1.out]) (HSTAY.out (by rw [HO1.out]; omega))
                    have hz7 := ((hbZ.block (B + 1) (lt_of_block HY7.out)).trans HY7.out)
                    have hzE := ((hbZ.block E (lt_of_block HYE.out)).trans HYE.out)
                    have m0 := cell_in (j := 0) hz7 rfl
                    have m1 := cell_in (j := 1) hz7 rfl
                    have m2 := cell_in (j := 2) hz7 rfl
                    have o0 := cell_in (j := 0) hzE rfl
                    have o1 := cell_in (j := 1) hzE rfl
                    have o2 := cell_in (j := 2) hzE rfl
                    have k0 := free_in hzE 0
                    have k1 := free_in hzE 1
                    have k2 := free_in hzE 2
                    clear hZ hbZ
                    have N1 := Lib.hid n1
                    have N2 := Lib.hid n2
                    clear hz7 hzE n1 n2
                    go_wp2_with fail
                    refine bodyPost_ret (results_pairR (P := Tryz.prog) rfl _ _ E _ _ (0, 0) _ _ rfl rfl N1.out Tryz.underlying70 rfl Tryz.sizeROp) rfl ?_
                    obtain ⟨R2, b1, b2, b3⟩ := N2.out
                    first | exact ⟨R2, b1, b2, b3⟩ | exact ⟨b1, R2, b2, b3⟩
                  · have f6 : decide (tlo < ttop) = false := decide_eq_false qt
                    have HO1 : Hid (outJ ts false k j = 2) := Lib.hid (by unfold outJ; rw [if_neg HJN.out, if_neg (by rw [HBUD.out, HD.out, if_neg (by simp)]; exact qq), if_neg (fun h => qt (by rw [HTK.out.2.1, HTK.out.2.2]; exact h.2.2))])
                    clear qq qt
                    go_upto_region 17 with fail
                    go_quiet (fail)
                    obtain ⟨Y2, hY2, hbY2⟩ : ∃ Y2, Y2 = Y.drewN nq ∧ Below Y.heap.size Y Y2 := ⟨_, rfl, below_drewR _ (Below.refl _ _)⟩
                    rw [← hY2]
                    clear hY2
                    obtain ⟨hg1, hg2⟩ := (HT7.out.1.later hbY2).gone HK6.out
                    rw [show upd (upd js k (some { j with done := (d : Int) + 1 })) k none = upd js k none by funext i; by_cases e : i = k; (subst e; rw [upd_at, upd_at]); (rw [upd_ne _ _ e, upd_ne _ _ e, upd_ne _ _ e])] at hg1
                    have y32 : Y2.cell? ⟨rb, 31 + k, none⟩ = some (.bool true) := by
                      have := (HT7.out.1.later hbY2).is HK6.out
                      rwa [show hasJ (upd js k (some { j with done := (d : Int) + 1 })) k = true from hasJ_some (upd_at _ _ _)] at this
                    have z32 := (HT7.out.1.later hbY2).fz (31 + k)
                    obtain ⟨Z, hZ⟩ : ∃ Z, Z = Y2.setCell ⟨rb, 31 + k, none⟩ (.bool false) := ⟨_, rfl⟩
                    rw [← hZ] at hg1 hg2
                    have hBZ : But rb Y2 Z := by rw [hZ]; exact (But.refl _ _).set _ _
                    have hE2 := (hbY2.block E (lt_of_block HYE.out)).trans HYE.out
                    have hZE := (hBZ.block E (lt_of_block hE2) HEN.out).trans hE2
                    have hB2 := (hbY2.block (B + 1) (lt_of_block HY7.out)).trans HY7.out
                    have hZB := (hBZ.block (B + 1) (lt_of_block hB2) (by have := HEB.out; omega)).trans hB2
                    obtain ⟨n1, n2⟩ := HFIN.out Z 2 _ hZE ⟨_, _, _, hg1⟩ ((HT7.out.2.trans (GrowS.of_below hbY2)).trans hg2) (by rw [HOU.out, HO1.out]) (HGONE.out HO1.out)
                    have HZ := Lib.hid hZ
                    clear y31 z31 hZ
                    go_upto_region 20 with fail
                    rw [← HZ.out]
                    have hz7 := hZB
                    have hzE := hZE
                    have m0 := cell_in (j := 0) hz7 rfl
                    have m1 := cell_in (j := 1) hz7 rfl
                    have m2 := cell_in (j := 2) hz7 rfl
                    have o0 := cell_in (j := 0) hzE rfl
                    have o1 := cell_in (j := 1) hzE rfl
                    have o2 := cell_in (j := 2) hzE rfl
                    have k0 := free_in hzE 0
                    have k1 := free_in hzE 1
                    have k2 := free_in hzE 2
                    clear hBZ hE2 hZE hB2 hZB hg1 hg2 hbY2 y32 z32
                    have N1 := Lib.hid n1
                    have N2 := Lib.hid n2
                    clear hz7 hzE n1 n2
                    go_wp2_with fail
                    refine bodyPost_ret (results_pairR (P := Tryz.prog) rfl _ _ E _ _ (0, 0) _ _ rfl rfl N1.out Tryz.underlying70 rfl Tryz.sizeROp) rfl ?_
                    obtain ⟨R2, b1, b2, b3⟩ := N2.out
                    first | exact ⟨R2, b1, b2, b3⟩ | exact ⟨b1, R2, b2, b3⟩
        · have f0 : decide ((d : Int) < (m : Int)) = false := decide_eq_false (by omega)
          have hov2 : ov = zWn := by rw [hov, List.getD_eq_getElem?_getD, List.getElem?_eq_none (by omega)]; rfl
          have HX := Lib.hid hov2
          have f0' : decide (d < m) = false := decide_eq_false hdm
          clear hov hov2 hm0
          go_upto_region 7 with fail
          clear f0' hdm
          obtain ⟨wc, hwc⟩ : ∃ wc, wc = U := ⟨_, rfl⟩
          rw [← hwc] at HTU HU6 HU7 HUE HBU ⊢
          have HTX := HTU
          have HX6 := HU6
          have HX7 : Hid (wc.heap[B + 1]? = some (.cells #[.int .i64 ov.at_, .int .i64 ov.len, .int .i64 ov.part] 70 (0, 0))) := Lib.hid (by rw [HX.out]; exact HU7.out)
          have HXE := HUE
          have HBX : Hid (Below w.heap.size w wc) := Lib.hid (hbV.out.trans (HBU.out.mono hbV.out.size))
          clear hwc
          clear f0 g3 g4 s0 s1 s2 v0 v1 v2 HTU HU6 HU7 HUE HBU
          obtain ⟨_, _, _, _, _, a3, _⟩ := HTX.out.jobAt HJ.out
          rw [HD.out] at a3
          have z3 := HTX.out.fz (1 + k * 5 + 3)
          have ew : IntKind.i64.wrap ((d : Int) + 1) = (d : Int) + 1 := IntWalk.i64_in _ (by omega)
          obtain ⟨Y, hY⟩ : ∃ Y, Y = (wc.setCell ⟨rb, 1 + k * 5 + 3, none⟩ (.int .i64 ((d : Int) + 1))).drew := ⟨_, rfl⟩
          have HY := Lib.hid hY
          have hBR : But rb wc Y := by rw [hY]; exact ((But.refl rb wc).set _ _).drew
          have hY6 := (hBR.block B (lt_of_block HX6.out) (by have := HEB.out; omega)).trans HX6.out
          have hY7 := (hBR.block (B + 1) (lt_of_block HX7.out) (by have := HEB.out; omega)).trans HX7.out
          have HYE := Lib.hid ((hBR.block E (lt_of_block HXE.out) HEN.out).trans HXE.out)
          have i2 : Y.cell? ⟨B, 2, none⟩ = some (.int .i64 jw) := cell_in hY6 rfl
          have i3 : Y.cell? ⟨B, 3, none⟩ = some (.int .i64 d) := cell_in hY6 rfl
          have s0 := cell_in (j := 0) hY7 rfl
          have s1 := cell_in (j := 1) hY7 rfl
          have s2 := cell_in (j := 2) hY7 rfl
          have r0 := cell_in (j := 0) HYE.out rfl
          have r1 := cell_in (j := 1) HYE.out rfl
          have r2 := cell_in (j := 2) HYE.out rfl
          have q0 := free_in HYE.out 0
          have q1 := free_in HYE.out 1
          have q2 := free_in HYE.out 2
          have HFIN : Hid (∀ (Z : World) (o : Int) (js' : Js), Z.heap[E]? = some (.cells #[.int .i64 0, .int .i64 0, .int .i64 0] 70 (0, 0)) → TrG W0 rb ts hm js' Z R → GrowS R R w Z → outT ts hm js (k : Int) = o → runT ts hm js (k : Int) = js' → (((Z.setCell ⟨E, 0, none⟩ (.int .i64 ov.at_)).setCell ⟨E, 1, none⟩ (.int .i64 ov.len)).setCell ⟨E, 2, none⟩ (.int .i64 ov.part)).heap[E]? = some (.cells #[.int .i64 ov.at_, .int .i64 ov.len, .int .i64 ov.part] 70 (0, 0)) ∧ ∃ R', Ending.returned (.tuple #[.agg #[.int .i64 ov.at_, .int .i64 ov.len, .int .i64 ov.part], .int .i64 o]) = .returned (.tuple #[.agg #[.int .i64 (opT ts js (k : Int)).at_, .int .i64 (opT ts js (k : Int)).len, .int .i64 (opT ts js (k : Int)).part], .int .i64 (outT ts hm js (k : Int))]) ∧ TrG W0 rb ts hm (runT ts hm js (k : Int)) (((Z.setCell ⟨E, 0, none⟩ (.int .i64 ov.at_)).setCell ⟨E, 1, none⟩ (.int .i64 ov.len)).setCell ⟨E, 2, none⟩ (.int .i64 ov.part)) R' ∧ GrowS R R' w (((Z.setCell ⟨E, 0, none⟩ (.int .i64 ov.at_)).setCell ⟨E, 1, none⟩ (.int .i64 ov.len)).setCell ⟨E, 2, none⟩ (.int .i64 ov.part))) := Lib.hid (fun Z o js' hZ hT hG ho hr => by
            have hBE : But E Z (((Z.setCell ⟨E, 0, none⟩ (.int .i64 ov.at_)).setCell ⟨E, 1, none⟩ (.int .i64 ov.len)).setCell ⟨E, 2, none⟩ (.int .i64 ov.part)) := (((But.refl _ _).set 0 _).set 1 _).set 2 _
            have hne : ¬ R E := fun hR => by have := (tr_own W0 rb ts hm js).lt HP.out E hR; have := HE.out; omega
            refine ⟨set3r hZ rfl _ _ _, R, by rw [HOV.out, ho], by rw [hr]; exact (tr_own _ _ _ _ _).keep hT (fun g hg => hBE.block g ((tr_own _ _ _ _ _).lt hT g hg) (fun e => hne (e ▸ hg))) hBE.size, ⟨hBE.os.trans hG.os, hBE.tape.trans hG.tape, hBE.output.trans hG.output, Nat.le_trans hG.size hBE.size, fun g h1 h2 => (hBE.block g (Nat.lt_of_lt_of_le h1 hG.size) (by have := HE.out; omega)).trans (hG.block g h1 h2), hG.own⟩⟩)
          have HBRU := Lib.hid hBR
          obtain ⟨tb, hao, tne, t0, _, _, t4, t5⟩ := HTX.out.tkc HKT.out
          have HHB := Lib.hid (HTX.out.ok.bd k j HJ.out)
          by_cases hdw : (d : Int) + 1 = jw
          · have w1 : (((d : Int) + 1) == jw) = true := by simpa using hdw
            obtain ⟨h7, g7⟩ := HTX.out.tickGone HK6.out ((d : Int) + 1)
            have u1 : Y.cell? ⟨rb, 31 + k, none⟩ = some (.bool (hasJ js k)) := by
              obtain ⟨cur, b1, b2, b3, b4, b5, b6⟩ := HTX.out.box
              have : Y.heap[rb]? = some (.cells (cur.setIfInBounds (1 + k * 5 + 3) (.int .i64 ((d : Int) + 1))) 51 (0, 0)) := by rw [hY]; exact set_at b1
              exact cell_in this (by rw [Array.getElem?_setIfInBounds, if_neg (by omega)]; exact b5 k HK6.out)
            have u2 : Y.frozen? ⟨rb, 31 + k, none⟩ = false := by
              obtain ⟨cur, b1, _⟩ := HTX.out.box
              have : Y.heap[rb]? = some (.cells (cur.setIfInBounds (1 + k * 5 + 3) (.int .i64 ((d : Int) + 1))) 51 (0, 0)) := by rw [hY]; exact set_at b1
              exact free_in this _
            have HO1 : Hid (outJ ts hm k j = 1) := Lib.hid (by unfold outJ; rw [if_pos (by rw [HD.out, ← HJW.out]; exact hdw)])
            obtain ⟨Z, hZ⟩ : ∃ Z, Z = Y.setCell ⟨rb, 31 + k, none⟩ (.bool false) := ⟨_, rfl⟩
            have hZt : TrG W0 rb ts hm (upd js k none) Z R ∧ GrowS R R wc Z := by
              rw [hZ, hY]
              exact ⟨⟨ao, c, _, h7.keep (fun g hg => rfl) (Nat.le_refl _)⟩, ⟨g7.os, g7.tape, g7.output, g7.size, g7.block, g7.own⟩⟩
            have hBZ : But rb Y Z := by rw [hZ]; exact (But.refl _ _).set _ _
            obtain ⟨n1, n2⟩ := HFIN.out Z 1 (upd js k none) ((hBZ.block E (lt_of_block HYE.out) HEN.out).trans HYE.out) hZt.1 ((GrowS.of_below HBX.out).trans hZt.2) (by rw [HOU.out, HO1.out]) (by rw [HRU.out, HO1.out]; rfl)
            have HZE := Lib.hid ((hBZ.block E (lt_of_block HYE.out) HEN.out).trans HYE.out)
            have hZ7 := (hBZ.block (B + 1) (lt_of_block hY7) (by have := HEB.out; omega)).trans hY7
            have m0 := cell_in (j := 0) hZ7 rfl
            have m1 := cell_in (j := 1) hZ7 rfl
            have m2 := cell_in (j := 2) hZ7 rfl
            have o0 := cell_in (j := 0) HZE.out rfl
            have o1 := cell_in (j := 1) HZE.out rfl
            have o2 := cell_in (j := 2) HZE.out rfl
            have k0 := free_in HZE.out 0
            have k1 := free_in HZE.out 1
            have k2 := free_in HZE.out 2
            have N1 := Lib.hid n1
            have N2 := Lib.hid n2
            have HZ := Lib.hid hZ
            clear h7 g7 hZ hZt hBZ hZ7 n1 n2 hY hBR hY6 hY7 hdw t0 t4 t5 tne hao
            go_region
            rw [← HY.out]
            clear a3 z3
            go_upto_region 11 with fail
            rw [← HZ.out]
            go_wp2_with fail
            refine bodyPost_ret (results_pairR (P := Tryz.prog) rfl _ _ E _ _ (0, 0) _ _ rfl rfl N1.out Tryz.underlying70 rfl Tryz.sizeROp) rfl ?_
            obtain ⟨R2, b1, b2, b3⟩ := N2.out
            first | exact ⟨R2, b1, b2, b3⟩ | exact ⟨b1, R2, b2, b3⟩
          · have w1 : (((d : Int) + 1) == jw) = false := by simpa using hdw
            obtain ⟨h7, g7⟩ := HTX.out.tick HJ.out (by have := HHB.out; rw [HD.out, ← HJW.out] at *; omega)
            rw [HD.out] at h7 g7
            obtain ⟨f7, hf7⟩ : ∃ f7, f7 = upd f k ⟨(f k).task, (f k).arr, (f k).work, (d : Int) + 1, (f k).ops⟩ := ⟨_, rfl⟩
            rw [← hf7] at h7
            have HT7 : Hid (TrAt W0 Y rb R ts hm (upd js k (some { j with done := (d : Int) + 1 })) ao c f7 ∧ GrowS R R w Y) := Lib.hid (by rw [hY]; exact ⟨h7.drew, growS_drew ((GrowS.of_below HBX.out).trans g7)⟩)
            subst hao
            obtain ⟨tb', hao', _, t0, _, _, t4, t5⟩ := HT7.out.1.tkc HKT.out
            cases hao'
            have c0 := HT7.out.1.c0
            rw [← HNL.out] at c0
            have c37 := HT7.out.1.c37
            obtain ⟨th, hth⟩ : ∃ th, th = (tkAt ts k).hi := ⟨_, rfl⟩
            obtain ⟨tlo, htlo⟩ : ∃ tlo, tlo = (tkAt ts k).lo := ⟨_, rfl⟩
            obtain ⟨ttop, httop⟩ : ∃ ttop, ttop = (tkAt ts k).top := ⟨_, rfl⟩
            rw [← hth] at t0
            rw [← htlo] at t4
            rw [← httop] at t5
            have HJN : Hid (¬ j.done + 1 = j.work) := Lib.hid (by rw [HD.out, ← HJW.out]; exact hdw)
            have HTK := Lib.hid (And.intro hth (And.intro htlo httop))
            have HBUD : Hid (budT ts hm k = if hm = true then ttop else tlo) := Lib.hid (by unfold budT; rw [htlo, httop])
            have HSTAY : Hid (outJ ts hm k j = 0 ∨ outJ ts hm k j = 3 → runT ts hm js (k : Int) = upd js k (some { j with done := (d : Int) + 1 })) := Lib.hid (fun ho => by rw [HRU.out, if_pos ho, HD.out])
            have HGONE : Hid (outJ ts hm k j = 2 → runT ts hm js (k : Int) = upd js k none) := Lib.hid (fun ho => by rw [HRU.out, ho]; rfl)
            have y31 : Y.cell? ⟨rb, 31 + k, none⟩ = some (.bool true) := by
              have := HT7.out.1.is HK6.out
              rwa [show hasJ (upd js k (some { j with done := (d : Int) + 1 })) k = true from hasJ_some (upd_at _ _ _)] at this
            have z31 := HT7.out.1.fz (31 + k)
            have HY7 := Lib.hid hY7
            clear h7 g7 hf7 hth htlo httop hY hBR hY6 hY7 hdw tne
            go_region
            rw [← HY.out]
            clear a3 z3
            cases hm with
            | true =>
              by_cases qq : (d : Int) + 1 < ttop
              · have f5 : decide ((d : Int) + 1 < ttop) = true := decide_eq_true qq
                have HO1 : Hid (outJ ts true k j = 0) := Lib.hid (by unfold outJ; rw [if_neg HJN.out, if_pos (by rw [HBUD.out, HD.out, if_pos rfl]; exact qq)])
                clear qq
                obtain ⟨Z, hZ, hbZ⟩ : ∃ Z, Z = Y ∧ Below Y.heap.size Y Z := ⟨_, rfl, Below.refl _ _⟩
                rw [← hZ]
                obtain ⟨n1, n2⟩ := HFIN.out Z 0 _ ((hbZ.block E (lt_of_block HYE.out)).trans HYE.out) ((tr_own _ _ _ _ _).later ⟨_, _, _, HT7.out.1⟩ hbZ) (HT7.out.2.trans (GrowS.of_below hbZ)) (by rw [HOU.out, HO1.out]) (HSTAY.out (by rw [HO1.out]; omega))
                have hz7 := ((hbZ.block (B + 1) (lt_of_block HY7.out)).trans HY7.out)
                have hzE := ((hbZ.block E (lt_of_block HYE.out)).trans HYE.out)
                have m0 := cell_in (j := 0) hz7 rfl
                have m1 := cell_in (j := 1) hz7 rfl
                have m2 := cell_in (j := 2) hz7 rfl
                have o0 := cell_in (j := 0) hzE rfl
                have o1 := cell_in (j := 1) hzE rfl
                have o2 := cell_in (j := 2) hzE rfl
                have k0 := free_in hzE 0
                have k1 := free_in hzE 1
                have k2 := free_in hzE 2
                have c0z : Z.cell? ⟨rb, 0, none⟩ = some (.slice (some ⟨tb, 0, none⟩) n c) := by rw [hZ]; exact c0
                have c37z : Z.cell? ⟨rb, 37, none⟩ = some (.bool true) := by rw [hZ]; exact c37
                have t4z : Z.cell? ⟨tb, k * 6 + 4, none⟩ = some (.int .i64 tlo) := by rw [hZ]; exact t4
                have t5z : Z.cell? ⟨tb, k * 6 + 5, none⟩ = some (.int .i64 ttop) := by rw [hZ]; exact t5
                have i2z : Z.cell? ⟨B, 2, none⟩ = some (.int .i64 jw) := by rw [hZ]; exact i2
                have i3z : Z.cell? ⟨B, 3, none⟩ = some (.int .i64 d) := by rw [hZ]; exact i3
                clear hZ hbZ
                have N1 := Lib.hid n1
                have N2 := Lib.hid n2
                clear hz7 hzE n1 n2
                go_wp2_with fail
                refine bodyPost_ret (results_pairR (P := Tryz.prog) rfl _ _ E _ _ (0, 0) _ _ rfl rfl N1.out Tryz.underlying70 rfl Tryz.sizeROp) rfl ?_
                obtain ⟨R2, b1, b2, b3⟩ := N2.out
                first | exact ⟨R2, b1, b2, b3⟩ | exact ⟨b1, R2, b2, b3⟩
              · have f5 : decide ((d : Int) + 1 < ttop) = false := decide_eq_false qq
                have HO1 : Hid (outJ ts true k j = 2) := Lib.hid (by unfold outJ; rw [if_neg HJN.out, if_neg (by rw [HBUD.out, HD.out, if_pos rfl]; exact qq), if_neg (by simp)])
                clear qq
                go_upto_region 17 with fail
                go_quiet (fail)
                obtain ⟨Y2, hY2, hbY2⟩ : ∃ Y2, Y2 = Y.drewN nq ∧ Below Y.heap.size Y Y2 := ⟨_, rfl, below_drewR _ (Below.refl _ _)⟩
                rw [← hY2]
                clear hY2
                obtain ⟨hg1, hg2⟩ := (HT7.out.1.later hbY2).gone HK6.out
                rw [show upd (upd js k (some { j with done := (d : Int) + 1 })) k none = upd js k none by funext i; by_cases e : i = k; (subst e; rw [upd_at, upd_at]); (rw [upd_ne _ _ e, upd_ne _ _ e, upd_ne _ _ e])] at hg1
                have y32 : Y2.cell? ⟨rb, 31 + k, none⟩ = some (.bool true) := by
                  have := (HT7.out.1.later hbY2).is HK6.out
                  rwa [show hasJ (upd js k (some { j with done := (d : Int) + 1 })) k = true from hasJ_some (upd_at _ _ _)] at this
                have z32 := (HT7.out.1.later hbY2).fz (31 + k)
                obtain ⟨Z, hZ⟩ : ∃ Z, Z = Y2.setCell ⟨rb, 31 + k, none⟩ (.bool false) := ⟨_, rfl⟩
                rw [← hZ] at hg1 hg2
                have hBZ : But rb Y2 Z := by rw [hZ]; exact (But.refl _ _).set _ _
                have hE2 := (hbY2.block E (lt_of_block HYE.out)).trans HYE.out
                have hZE := (hBZ.block E (lt_of_block hE2) HEN.out).trans hE2
                have hB2 := (hbY2.block (B + 1) (lt_of_block HY7.out)).trans HY7.out
                have hZB := (hBZ.block (B + 1) (lt_of_block hB2) (by have := HEB.out; omega)).trans hB2
                obtain ⟨n1, n2⟩ := HFIN.out Z 2 _ hZE ⟨_, _, _, hg1⟩ ((HT7.out.2.trans (GrowS.of_below hbY2)).trans hg2) (by rw [HOU.out, HO1.out]) (HGONE.out HO1.out)
                have HZ := Lib.hid hZ
                clear y31 z31 hZ
                go_upto_region 20 with fail
                rw [← HZ.out]
                have hz7 := hZB
                have hzE := hZE
                have m0 := cell_in (j := 0) hz7 rfl
                have m1 := cell_in (j := 1) hz7 rfl
                have m2 := cell_in (j := 2) hz7 rfl
                have o0 := cell_in (j := 0) hzE rfl
                have o1 := cell_in (j := 1) hzE rfl
                have o2 := cell_in (j := 2) hzE rfl
                have k0 := free_in hzE 0
                have k1 := free_in hzE 1
                have k2 := free_in hzE 2
                clear hBZ hE2 hZE hB2 hZB hg1 hg2 hbY2 y32 z32
                have N1 := Lib.hid n1
                have N2 := Lib.hid n2
                clear hz7 hzE n1 n2
                go_wp2_with fail
                refine bodyPost_ret (results_pairR (P := Tryz.prog) rfl _ _ E _ _ (0, 0) _ _ rfl rfl N1.out Tryz.underlying70 rfl Tryz.sizeROp) rfl ?_
                obtain ⟨R2, b1, b2, b3⟩ := N2.out
                first | exact ⟨R2, b1, b2, b3⟩ | exact ⟨b1, R2, b2, b3⟩
            | false =>
              by_cases qq : (d : Int) + 1 < tlo
              · have f5 : decide ((d : Int) + 1 < tlo) = true := decide_eq_true qq
                have HO1 : Hid (outJ ts false k j = 0) := Lib.hid (by unfold outJ; rw [if_neg HJN.out, if_pos (by rw [HBUD.out, HD.out, if_neg (by simp)]; exact qq)])
                clear qq
                obtain ⟨Z, hZ, hbZ⟩ : ∃ Z, Z = Y ∧ Below Y.heap.size Y Z := ⟨_, rfl, Below.refl _ _⟩
                rw [← hZ]
                obtain ⟨n1, n2⟩ := HFIN.out Z 0 _ ((hbZ.block E (lt_of_block HYE.out)).trans HYE.out) ((tr_own _ _ _ _ _).later ⟨_, _, _, HT7.out.1⟩ hbZ) (HT7.out.2.trans (GrowS.of_below hbZ)) (by rw [HOU.out, HO1.out]) (HSTAY.out (by rw [HO1.out]; omega))
                have hz7 := ((hbZ.block (B + 1) (lt_of_block HY7.out)).trans HY7.out)
                have hzE := ((hbZ.block E (lt_of_block HYE.out)).trans HYE.out)
                have m0 := cell_in (j := 0) hz7 rfl
                have m1 := cell_in (j := 1) hz7 rfl
                have m2 := cell_in (j := 2) hz7 rfl
                have o0 := cell_in (j := 0) hzE rfl
                have o1 := cell_in (j := 1) hzE rfl
                have o2 := cell_in (j := 2) hzE rfl
                have k0 := free_in hzE 0
                have k1 := free_in hzE 1
                have k2 := free_in hzE 2
                have c0z : Z.cell? ⟨rb, 0, none⟩ = some (.slice (some ⟨tb, 0, none⟩) n c) := by rw [hZ]; exact c0
                have c37z : Z.cell? ⟨rb, 37, none⟩ = some (.bool false) := by rw [hZ]; exact c37
                have t4z : Z.cell? ⟨tb, k * 6 + 4, none⟩ = some (.int .i64 tlo) := by rw [hZ]; exact t4
                have t5z : Z.cell? ⟨tb, k * 6 + 5, none⟩ = some (.int .i64 ttop) := by rw [hZ]; exact t5
                have i2z : Z.cell? ⟨B, 2, none⟩ = some (.int .i64 jw) := by rw [hZ]; exact i2
                have i3z : Z.cell? ⟨B, 3, none⟩ = some (.int .i64 d) := by rw [hZ]; exact i3
                clear hZ hbZ
                have N1 := Lib.hid n1
                have N2 := Lib.hid n2
                clear hz7 hzE n1 n2
                go_wp2_with fail
                refine bodyPost_ret (results_pairR (P := Tryz.prog) rfl _ _ E _ _ (0, 0) _ _ rfl rfl N1.out Tryz.underlying70 rfl Tryz.sizeROp) rfl ?_
                obtain ⟨R2, b1, b2, b3⟩ := N2.out
                first | exact ⟨R2, b1, b2, b3⟩ | exact ⟨b1, R2, b2, b3⟩
              · have f5 : decide ((d : Int) + 1 < tlo) = false := decide_eq_false qq
                cases th with
                | false =>
                  have HO1 : Hid (outJ ts false k j = 2) := Lib.hid (by unfold outJ; rw [if_neg HJN.out, if_neg (by rw [HBUD.out, HD.out, if_neg (by simp)]; exact qq), if_neg (fun h => by have := HTK.out.1; rw [h.2.1] at this; cases this)])
                  clear qq
                  go_upto_region 17 with fail
                  go_quiet (fail)
                  obtain ⟨Y2, hY2, hbY2⟩ : ∃ Y2, Y2 = Y.drewN nq ∧ Below Y.heap.size Y Y2 := ⟨_, rfl, below_drewR _ (Below.refl _ _)⟩
                  rw [← hY2]
                  clear hY2
                  obtain ⟨hg1, hg2⟩ := (HT7.out.1.later hbY2).gone HK6.out
                  rw [show upd (upd js k (some { j with done := (d : Int) + 1 })) k none = upd js k none by funext i; by_cases e : i = k; (subst e; rw [upd_at, upd_at]); (rw [upd_ne _ _ e, upd_ne _ _ e, upd_ne _ _ e])] at hg1
                  have y32 : Y2.cell? ⟨rb, 31 + k, none⟩ = some (.bool true) := by
                    have := (HT7.out.1.later hbY2).is HK6.out
                    rwa [show hasJ (upd js k (some { j with done := (d : Int) + 1 })) k = true from hasJ_some (upd_at _ _ _)] at this
                  have z32 := (HT7.out.1.later hbY2).fz (31 + k)
                  obtain ⟨Z, hZ⟩ : ∃ Z, Z = Y2.setCell ⟨rb, 31 + k, none⟩ (.bool false) := ⟨_, rfl⟩
                  rw [← hZ] at hg1 hg2
                  have hBZ : But rb Y2 Z := by rw [hZ]; exact (But.refl _ _).set _ _
                  have hE2 := (hbY2.block E (lt_of_block HYE.out)).trans HYE.out
                  have hZE := (hBZ.block E (lt_of_block hE2) HEN.out).trans hE2
                  have hB2 := (hbY2.block (B + 1) (lt_of_block HY7.out)).trans HY7.out
                  have hZB := (hBZ.block (B + 1) (lt_of_block hB2) (by have := HEB.out; omega)).trans hB2
                  obtain ⟨n1, n2⟩ := HFIN.out Z 2 _ hZE ⟨_, _, _, hg1⟩ ((HT7.out.2.trans (GrowS.of_below hbY2)).trans hg2) (by rw [HOU.out, HO1.out]) (HGONE.out HO1.out)
                  have HZ := Lib.hid hZ
                  clear y31 z31 hZ
                  go_upto_region 20 with fail
                  rw [← HZ.out]
                  have hz7 := hZB
                  have hzE := hZE
                  have m0 := cell_in (j := 0) hz7 rfl
                  have m1 := cell_in (j := 1) hz7 rfl
                  have m2 := cell_in (j := 2) hz7 rfl
                  have o0 := cell_in (j := 0) hzE rfl
                  have o1 := cell_in (j := 1) hzE rfl
                  have o2 := cell_in (j := 2) hzE rfl
                  have k0 := free_in hzE 0
                  have k1 := free_in hzE 1
                  have k2 := free_in hzE 2
                  clear hBZ hE2 hZE hB2 hZB hg1 hg2 hbY2 y32 z32
                  have N1 := Lib.hid n1
                  have N2 := Lib.hid n2
                  clear hz7 hzE n1 n2
                  go_wp2_with fail
                  refine bodyPost_ret (results_pairR (P := Tryz.prog) rfl _ _ E _ _ (0, 0) _ _ rfl rfl N1.out Tryz.underlying70 rfl Tryz.sizeROp) rfl ?_
                  obtain ⟨R2, b1, b2, b3⟩ := N2.out
                  first | exact ⟨R2, b1, b2, b3⟩ | exact ⟨b1, R2, b2, b3⟩
                | true =>
                  by_cases qt : tlo < ttop
                  · have f6 : decide (tlo < ttop) = true := decide_eq_true qt
                    have HO1 : Hid (outJ ts false k j = 3) := Lib.hid (by unfold outJ; rw [if_neg HJN.out, if_neg (by rw [HBUD.out, HD.out, if_neg (by simp)]; exact qq), if_pos ⟨rfl, HTK.out.1.symm, by rw [← HTK.out.2.1, ← HTK.out.2.2]; exact qt⟩])
                    clear qq qt
                    go_upto_region 17 with fail
                    go_quiet (fail)
                    obtain ⟨Z, hZ, hbZ⟩ : ∃ Z, Z = Y.drewN nq ∧ Below Y.heap.size Y Z := ⟨_, rfl, below_drewR _ (Below.refl _ _)⟩
                    rw [← hZ]
                    obtain ⟨n1, n2⟩ := HFIN.out Z 3 _ ((hbZ.block E (lt_of_block HYE.out)).trans HYE.out) ((tr_own _ _ _ _ _).later ⟨_, _, _, HT7.out.1⟩ hbZ) (HT7.out.2.trans (GrowS.of_below hbZ)) (by rw [HOU.out, HO1.out]) (HSTAY.out (by rw [HO1.out]; omega))
                    have hz7 := ((hbZ.block (B + 1) (lt_of_block HY7.out)).trans HY7.out)
                    have hzE := ((hbZ.block E (lt_of_block HYE.out)).trans HYE.out)
                    have m0 := cell_in (j := 0) hz7 rfl
                    have m1 := cell_in (j := 1) hz7 rfl
                    have m2 := cell_in (j := 2) hz7 rfl
                    have o0 := cell_in (j := 0) hzE rfl
                    have o1 := cell_in (j := 1) hzE rfl
                    have o2 := cell_in (j := 2) hzE rfl
                    have k0 := free_in hzE 0
                    have k1 := free_in hzE 1
                    have k2 := free_in hzE 2
                    clear hZ hbZ
                    have N1 := Lib.hid n1
                    have N2 := Lib.hid n2
                    clear hz7 hzE n1 n2
                    go_wp2_with fail
                    refine bodyPost_ret (results_pairR (P := Tryz.prog) rfl _ _ E _ _ (0, 0) _ _ rfl rfl N1.out Tryz.underlying70 rfl Tryz.sizeROp) rfl ?_
                    obtain ⟨R2, b1, b2, b3⟩ := N2.out
                    first | exact ⟨R2, b1, b2, b3⟩ | exact ⟨b1, R2, b2, b3⟩
                  · have f6 : decide (tlo < ttop) = false := decide_eq_false qt
                    have HO1 : Hid (outJ ts false k j = 2) := Lib.hid (by unfold outJ; rw [if_neg HJN.out, if_neg (by rw [HBUD.out, HD.out, if_neg (by simp)]; exact qq), if_neg (fun h => qt (by rw [HTK.out.2.1, HTK.out.2.2]; exact h.2.2))])
                    clear qq qt
                    go_upto_region 17 with fail
                    go_quiet (fail)
                    obtain ⟨Y2, hY2, hbY2⟩ : ∃ Y2, Y2 = Y.drewN nq ∧ Below Y.heap.size Y Y2 := ⟨_, rfl, below_drewR _ (Below.refl _ _)⟩
                    rw [← hY2]
                    clear hY2
                    obtain ⟨hg1, hg2⟩ := (HT7.out.1.later hbY2).gone HK6.out
                    rw [show upd (upd js k (some { j with done := (d : Int) + 1 })) k none = upd js k none by funext i; by_cases e : i = k; (subst e; rw [upd_at, upd_at]); (rw [upd_ne _ _ e, upd_ne _ _ e, upd_ne _ _ e])] at hg1
                    have y32 : Y2.cell? ⟨rb, 31 + k, none⟩ = some (.bool true) := by
                      have := (HT7.out.1.later hbY2).is HK6.out
                      rwa [show hasJ (upd js k (some { j with done := (d : Int) + 1 })) k = true from hasJ_some (upd_at _ _ _)] at this
                    have z32 := (HT7.out.1.later hbY2).fz (31 + k)
                    obtain ⟨Z, hZ⟩ : ∃ Z, Z = Y2.setCell ⟨rb, 31 + k, none⟩ (.bool false) := ⟨_, rfl⟩
                    rw [← hZ] at hg1 hg2
                    have hBZ : But rb Y2 Z := by rw [hZ]; exact (But.refl _ _).set _ _
                    have hE2 := (hbY2.block E (lt_of_block HYE.out)).trans HYE.out
                    have hZE := (hBZ.block E (lt_of_block hE2) HEN.out).trans hE2
                    have hB2 := (hbY2.block (B + 1) (lt_of_block HY7.out)).trans HY7.out
                    have hZB := (hBZ.block (B + 1) (lt_of_block hB2) (by have := HEB.out; omega)).trans hB2
                    obtain ⟨n1, n2⟩ := HFIN.out Z 2 _ hZE ⟨_, _, _, hg1⟩ ((HT7.out.2.trans (GrowS.of_below hbY2)).trans hg2) (by rw [HOU.out, HO1.out]) (HGONE.out HO1.out)
                    have HZ := Lib.hid hZ
                    clear y31 z31 hZ
                    go_upto_region 20 with fail
                    rw [← HZ.out]
                    have hz7 := hZB
                    have hzE := hZE
                    have m0 := cell_in (j := 0) hz7 rfl
                    have m1 := cell_in (j := 1) hz7 rfl
                    have m2 := cell_in (j := 2) hz7 rfl
                    have o0 := cell_in (j := 0) hzE rfl
                    have o1 := cell_in (j := 1) hzE rfl
                    have o2 := cell_in (j := 2) hzE rfl
                    have k0 := free_in hzE 0
                    have k1 := free_in hzE 1
                    have k2 := free_in hzE 2
                    clear hBZ hE2 hZE hB2 hZB hg1 hg2 hbY2 y32 z32
                    have N1 := Lib.hid n1
                    have N2 := Lib.hid n2
                    clear hz7 hzE n1 n2
                    go_wp2_with fail
                    refine bodyPost_ret (results_pairR (P := Tryz.prog) rfl _ _ E _ _ (0, 0) _ _ rfl rfl N1.out Tryz.underlying70 rfl Tryz.sizeROp) rfl ?_
                    obtain ⟨R2, b1, b2, b3⟩ := N2.out
                    first | exact ⟨R2, b1, b2, b3⟩ | exact ⟨b1, R2, b2, b3⟩
end Go.Proofs.YtnenbgdonkgkfaaGreat
