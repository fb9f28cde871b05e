/- The document's table of jobs: Get, Clear, Rise, Missed. -/
import Derived.Test.YtnenbgdonkgkfaaGreatTaskRn
namespace Go.Proofs.YtnenbgdonkgkfaaGreat
open Go.ChangeShapes Go.WideShapes Go.ChangeAt Go.RowKit
set_option linter.unusedVariables false

theorem there_in {ts : List Tk} {js : Js} {t : Int} (h : inT ts t = false) : thereT ts js t = false := by unfold thereT; rw [h]; rfl
set_option maxRecDepth 100000 in
set_option maxHeartbeats 4000000 in
theorem rtget_any (W0 w : World) (rb : Nat) (R : Nat → Prop) (ts : List Tk) (hm : Bool) (js : Js) (h : TrG W0 rb ts hm js w R) (t : Int) :
    Calls Tryz.prog 13 #[.pointer (some ⟨rb, 0, none⟩), .int .i64 t] w fun e w' => ∃ oa oc, e = .returned (.tuple #[.agg #[.int .i64 (getT ts js t), .int .i64 (getJ ts js t).arr, .int .i64 (getJ ts js t).work, .int .i64 (getJ ts js t).done, .slice oa (getJ ts js t).ops.length oc], .bool (thereT ts js t)]) ∧ Lies W0 0 W0.heap.size (.slice oa (getJ ts js t).ops.length oc) (getJ ts js t).ops.length 3 ((getJ ts js t).ops.flatMap Wn.cells) ∧ Below w.heap.size w w' := by
  obtain ⟨ao, c, f, h⟩ := h
  obtain ⟨V, hV⟩ : ∃ V, V = w.alloc (.cells #[.int .i64 0, .int .i64 0, .int .i64 0, .int .i64 0, .slice none 0 0] 33) := ⟨_, rfl⟩
  obtain ⟨E, hE⟩ : ∃ E, E = w.heap.size := ⟨_, rfl⟩
  have hbV : Hid (Below w.heap.size w V) := Lib.hid (by rw [hV]; exact below1 _ _)
  have HEV : Hid (V.heap[E]? = some (.cells #[.int .i64 0, .int .i64 0, .int .i64 0, .int .i64 0, .slice none 0 0] 33 (0, 0))) := Lib.hid (by rw [hV, hE]; exact heap_alloc_new _ _)
  have HT := Lib.hid (h.later hbV.out)
  have HV := Lib.hid hV
  have HE := Lib.hid hE
  have r0 := cell_in (j := 0) HEV.out rfl
  have r1 := cell_in (j := 1) HEV.out rfl
  have r2 := cell_in (j := 2) HEV.out rfl
  have r3 := cell_in (j := 3) HEV.out rfl
  have r4 := cell_in (j := 4) HEV.out rfl
  have q0 := free_in HEV.out 0
  have q1 := free_in HEV.out 1
  have q2 := free_in HEV.out 2
  have q3 := free_in HEV.out 3
  have q4 := free_in HEV.out 4
  have c0 := HT.out.c0
  obtain ⟨n, hn⟩ : ∃ n, n = ts.length := ⟨_, rfl⟩
  rw [← hn] at c0
  have n6 : n ≤ 6 := by rw [hn]; exact h.n6
  have HNO : Hid (thereT ts js t = false → ∀ Y, Y = ((((V.setCell ⟨E, 0, none⟩ (.int .i64 0)).setCell ⟨E, 1, none⟩ (.int .i64 0)).setCell ⟨E, 2, none⟩ (.int .i64 0)).setCell ⟨E, 3, none⟩ (.int .i64 0)).setCell ⟨E, 4, none⟩ (.slice none 0 0) → ∃ oa oc, Ending.returned (.tuple #[.agg #[.int .i64 0, .int .i64 0, .int .i64 0, .int .i64 0, .slice none 0 0], .bool false]) = .returned (.tuple #[.agg #[.int .i64 (getT ts js t), .int .i64 (getJ ts js t).arr, .int .i64 (getJ ts js t).work, .int .i64 (getJ ts js t).done, .slice oa (getJ ts js t).ops.length oc], .bool (thereT ts js t)]) ∧ Lies W0 0 W0.heap.size (.slice oa (getJ ts js t).ops.length oc) (getJ ts js t).ops.length 3 ((getJ ts js t).ops.flatMap Wn.cells) ∧ Below w.heap.size w Y) := Lib.hid (fun ht Y hY => by
    obtain ⟨g1, g2⟩ := get_no ht
    rw [g1, g2, ht, hY]
    exact ⟨none, 0, rfl, ⟨none, 0, rfl, rfl, fun _ => ⟨rfl, rfl⟩, .inl rfl⟩, below5 hbV.out (by rw [HE.out]; exact Nat.le_refl _) _ _ _ _ _⟩)
  have hX := set5 HEV.out rfl (.int .i64 0) (.int .i64 0) (.int .i64 0) (.int .i64 0) (.slice none 0 0)
  have HX := Lib.hid hX
  clear h hV hE hX
  by_cases h0 : t < 0
  · have d0 : decide (t < 0) = true := decide_eq_true h0
    have HF : Hid (thereT ts js t = false) := Lib.hid (there_in (by unfold inT; rw [decide_eq_false (by omega)]; rfl))
    clear h0 hn
    go_enter Tryz.func13, Tryz.ntmps13
    go_upto_region 1 with fail
    rw [← HV.out, ← HE.out]
    go_wp2_with fail
    refine bodyPost_ret (results_pairR (P := Tryz.prog) rfl _ _ E _ _ (0, 0) _ _ rfl rfl HX.out Tryz.underlying33 rfl Tryz.sizeRJob) rfl ?_
    exact HNO.out HF.out _ rfl
  · have d0 : decide (t < 0) = false := decide_eq_false h0
    by_cases h1 : (n : Int) ≤ t
    · have d1 : decide ((n : Int) ≤ t) = true := decide_eq_true h1
      have HF : Hid (thereT ts js t = false) := Lib.hid (there_in (by unfold inT; rw [← hn, decide_eq_false (show ¬ t < (n : Int) by omega), Bool.and_false]))
      clear h0 h1 hn
      go_enter Tryz.func13, Tryz.ntmps13
      go_upto_region 1 with fail
      rw [← HV.out, ← HE.out]
      go_wp2_with fail
      refine bodyPost_ret (results_pairR (P := Tryz.prog) rfl _ _ E _ _ (0, 0) _ _ rfl rfl HX.out Tryz.underlying33 rfl Tryz.sizeRJob) rfl ?_
      exact HNO.out HF.out _ rfl
    · have d1 : decide ((n : Int) ≤ t) = false := decide_eq_false h1
      obtain ⟨k, hk⟩ : ∃ k : Nat, t = k := ⟨t.toNat, by omega⟩
      subst hk
      have d1' : decide (n ≤ k) = false := decide_eq_false (by omega)
      have e0 : (0 : Int) ≤ (k : Int) := by omega
      have e1 : (k : Int) < 6 := by omega
      have y0 := HT.out.is (k := k) (by omega)
      have hkt : k < ts.length := by omega
      cases hj : js k with
      | none =>
        rw [hasJ_none hj] at y0
        have HF : Hid (thereT ts js (k : Int) = false) := Lib.hid (there_f hj)
        clear h0 h1 hn hj hkt
        go_enter Tryz.func13, Tryz.ntmps13
        go_upto_region 1 with fail
        rw [← HV.out, ← HE.out]
        go_wp2_with fail
        refine bodyPost_ret (results_pairR (P := Tryz.prog) rfl _ _ E _ _ (0, 0) _ _ rfl rfl HX.out Tryz.underlying33 rfl Tryz.sizeRJob) rfl ?_
        exact HNO.out HF.out _ rfl
      | some j =>
        rw [hasJ_some hj] at y0
        obtain ⟨oa, oc, a0, a1, a2, a3, a4, hlj, _⟩ := HT.out.jobAt hj
        obtain ⟨g1, g2⟩ := get_yes hkt hj
        have HF : Hid (thereT ts js (k : Int) = true) := Lib.hid (there_yes hkt hj)
        rw [g1, g2]
        have HLJ := Lib.hid hlj
        clear h0 h1 hn hj hkt g1 g2 hlj HNO
        go_enter Tryz.func13, Tryz.ntmps13
        go_upto_region 1 with fail
        rw [← HV.out, ← HE.out]
        go_wp2_with fail
        have hX := set5 HEV.out rfl (.int .i64 k) (.int .i64 j.arr) (.int .i64 j.work) (.int .i64 j.done) (.slice oa j.ops.length oc)
        refine bodyPost_ret (results_pairR (P := Tryz.prog) rfl _ _ E _ _ (0, 0) _ _ rfl rfl hX Tryz.underlying33 rfl Tryz.sizeRJob) rfl ?_
        exact ⟨oa, oc, by rw [HF.out]; first | done | rfl, HLJ.out, below5 hbV.out (by rw [HE.out]; exact Nat.le_refl _) _ _ _ _ _⟩
theorem TrAt.noneAll {W0 w : World} {rb : Nat} {R : Nat → Prop} {ts : List Tk} {hm : Bool} {js : Js} {ao : Option Addr} {c : Nat} {f : Nat → Rj} (h : TrAt W0 w rb R ts hm js ao c f) :
    TrAt W0 ((((((w.setCell ⟨rb, 31, none⟩ (.bool false)).setCell ⟨rb, 32, none⟩ (.bool false)).setCell ⟨rb, 33, none⟩ (.bool false)).setCell ⟨rb, 34, none⟩ (.bool false)).setCell ⟨rb, 35, none⟩ (.bool false)).setCell ⟨rb, 36, none⟩ (.bool false)) rb R ts hm (fun _ => none) ao c f ∧ GrowS R R w ((((((w.setCell ⟨rb, 31, none⟩ (.bool false)).setCell ⟨rb, 32, none⟩ (.bool false)).setCell ⟨rb, 33, none⟩ (.bool false)).setCell ⟨rb, 34, none⟩ (.bool false)).setCell ⟨rb, 35, none⟩ (.bool false)).setCell ⟨rb, 36, none⟩ (.bool false)) := by
  obtain ⟨h0, g0⟩ := h.gone (q := 0) (by omega)
  obtain ⟨h1, g1⟩ := h0.gone (q := 1) (by omega)
  obtain ⟨h2, g2⟩ := h1.gone (q := 2) (by omega)
  obtain ⟨h3, g3⟩ := h2.gone (q := 3) (by omega)
  obtain ⟨h4, g4⟩ := h3.gone (q := 4) (by omega)
  obtain ⟨h5, g5⟩ := h4.gone (q := 5) (by omega)
  have he : upd (upd (upd (upd (upd (upd js 0 none) 1 none) 2 none) 3 none) 4 none) 5 none = fun _ => none := by
    funext k
    by_cases e5 : k = 5
    · subst e5; rw [upd_at]
    rw [upd_ne _ _ e5]
    by_cases e4 : k = 4
    · subst e4; rw [upd_at]
    rw [upd_ne _ _ e4]
    by_cases e3 : k = 3
    · subst e3; rw [upd_at]
    rw [upd_ne _ _ e3]
    by_cases e2 : k = 2
    · subst e2; rw [upd_at]
    rw [upd_ne _ _ e2]
    by_cases e1 : k = 1
    · subst e1; rw [upd_at]
    rw [upd_ne _ _ e1]
    by_cases e0 : k = 0
    · subst e0; rw [upd_at]
    rw [upd_ne _ _ e0]
    exact h.ok.out k (by have := h.n6; omega)
  rw [he] at h5
  exact ⟨h5, ((((g0.trans g1).trans g2).trans g3).trans g4).trans g5⟩
set_option maxRecDepth 100000 in
set_option maxHeartbeats 4000000 in
theorem rtclear_any (W0 w : World) (rb : Nat) (R : Nat → Prop) (ts : List Tk) (hm : Bool) (js : Js) (h : TrG W0 rb ts hm js w R) :
    Calls Tryz.prog 35 #[.pointer (some ⟨rb, 0, none⟩)] w fun e w' => ∃ R', e = .returned (.tuple #[]) ∧ TrG W0 rb ts false (fun _ => none) w' R' ∧ GrowS R R' w w' := by
  obtain ⟨ao, c, f, h⟩ := h
  have y0 := h.is (k := 0) (by omega)
  have y1 := h.is (k := 1) (by omega)
  have y2 := h.is (k := 2) (by omega)
  have y3 := h.is (k := 3) (by omega)
  have y4 := h.is (k := 4) (by omega)
  have y5 := h.is (k := 5) (by omega)
  have c37 := h.c37
  have z0 := h.fz 31
  have z1 := h.fz 32
  have z2 := h.fz 33
  have z3 := h.fz 34
  have z4 := h.fz 35
  have z5 := h.fz 36
  have z6 := h.fz 37
  obtain ⟨h1, g1⟩ := h.noneAll
  obtain ⟨h2, g2⟩ := h1.setH false
  have H2 := Lib.hid h2
  have G2 := Lib.hid (g1.trans g2)
  have x37 := h1.c37
  have w37 := h1.fz 37
  simp only [Nat.add_zero, Nat.reduceAdd] at y0 y1 y2 y3 y4 y5
  clear h h1 h2 g1 g2
  go_enter Tryz.func35, Tryz.ntmps35
  go_wp2_with fail
  go_end0
  exact ⟨R, rfl, ⟨ao, c, f, H2.out⟩, G2.out⟩
set_option maxRecDepth 100000 in
set_option maxHeartbeats 8000000 in
theorem rtrise_any (W0 w : World) (rb : Nat) (R : Nat → Prop) (ts : List Tk) (hm : Bool) (js : Js) (h : TrG W0 rb ts hm js w R) :
    Calls Tryz.prog 30 #[.pointer (some ⟨rb, 0, none⟩)] w fun e w' => ∃ R' ao cap, e = .returned (.slice ao (riseL ts js).length cap) ∧ Lies w' w.heap.size w'.heap.size (.slice ao (riseL ts js).length cap) (riseL ts js).length 1 ((riseL ts js).flatMap intCells) ∧ TrG W0 rb ts true (riseT ts js) w' R' ∧ GrowS R R' w w' := by
  obtain ⟨ta, c, f, h⟩ := h
  obtain ⟨p, hp⟩ : ∃ p : Nat → Jb → Bool, p = lowP ts := ⟨_, rfl⟩
  have HP := Lib.hid hp
  have HLJ : Hid (riseL ts js = lisT p js ts.length ∧ riseT ts js = remT p js ts.length js) := Lib.hid (by rw [hp]; exact ⟨rfl, rfl⟩)
  rw [HLJ.out.1, HLJ.out.2]
  obtain ⟨n, hn⟩ : ∃ n, n = ts.length := ⟨_, rfl⟩
  rw [← hn]
  have HN := Lib.hid hn
  have n6 : n ≤ 6 := by rw [hn]; exact h.n6
  have HLT := Lib.hid h.lt
  have HJS := Lib.hid h.ok
  obtain ⟨i0, hi0, hz0, hz1, hz2⟩ := info_parts Tryz.infoRInt
  have HI := Lib.hid hi0
  have c37 := h.c37
  have z37 := h.fz 37
  obtain ⟨h1, g1⟩ := h.setH true
  obtain ⟨V, hV⟩ : ∃ V, V = w.setCell ⟨rb, 37, none⟩ (.bool true) := ⟨_, rfl⟩
  rw [← hV] at h1 g1
  have H0 := Lib.hid h1
  have HG0 := Lib.hid g1
  have HV := Lib.hid hV
  clear h1 g1 hV
  clear h hp hn hi0
  go_enter Tryz.func30, Tryz.ntmps30
  go_upto_region 3 with fail
  rw [← HV.out]
  go_wp2_with fail
  clear c37 z37
  go_loopw [3, 4] (fun s5 s14 wr => ∃ (k : Nat) (ao : Option Addr) (cap : Nat), k ≤ n ∧ s14 = .int .i64 k ∧ s5 = .slice ao (lisT p js k).length cap ∧ Hid (wr.ownsRow w.heap.size 3 1 (.slice ao (lisT p js k).length cap) (lisT p js k).length ((lisT p js k).flatMap intCells)) ∧ Hid (TrAt W0 wr rb R ts true (remT p js k js) ta c f) ∧ Hid (GrowS R R w wr)) (fun _ s _ => n - (intOf s).toNat)
  case atStart => exact ⟨0, none, 0, Nat.zero_le _, rfl, rfl, Lib.hid ⟨rfl, .inl ⟨rfl, rfl⟩⟩, Lib.hid (by rw [rem_zero]; exact H0.out), HG0⟩
  case round =>
    clear H0 HG0
    obtain ⟨k, ao, cap, hk, rfl, rfl, HO, HT, HG⟩ := hrel
    have c0 := HT.out.c0
    rw [← HN.out] at c0
    by_cases hlt : k < n
    · have d0 : decide ((k : Int) < (n : Int)) = true := decide_eq_true (by omega)
      have d1 : (0 : Int) ≤ (k : Int) := by omega
      have d2 : (k : Int) < (n : Int) := by omega
      have d3 : (k : Int) < 6 := by omega
      have HKT : Hid (k < ts.length) := Lib.hid (by rw [← HN.out]; exact hlt)
      have y0 := HT.out.is (k := k) (by omega)
      cases hj : js k with
      | none =>
        rw [show hasJ (remT p js k js) k = false from hasJ_none (by rw [rem_here]; exact hj)] at y0
        have HQ : Hid (goneT p js k = false) := Lib.hid (gone_none hj)
        clear hj
        go_wp2_with fail
        skip
        go_wp2_with fail
        go_roundw
        case rel => exact ⟨k + 1, ao, cap, by omega, by go_num, by rw [lis_no HQ.out], by rw [lis_no HQ.out]; exact Lib.hid (owns_later HO.out (by repeat first | exact Below.refl _ _ | refine Below.drew ?_ | refine below_drewR _ ?_)), by rw [rem_no HQ.out]; exact Lib.hid (HT.out.later (by repeat first | exact Below.refl _ _ | refine Below.drew ?_ | refine below_drewR _ ?_)), Lib.hid (HG.out.trans (GrowS.of_below (by repeat first | exact Below.refl _ _ | refine Below.drew ?_ | refine below_drewR _ ?_)))⟩
        case measure => simp [intOf]; omega
      | some j =>
        have hjr : remT p js k js k = some j := by rw [rem_here]; exact hj
        rw [show hasJ (remT p js k js) k = true from hasJ_some hjr] at y0
        obtain ⟨oa, oc, _, a1, _, _, _, hlj, _⟩ := HT.out.jobAt hjr
        obtain ⟨tb, rfl, tne, t0, t2, _⟩ := HT.out.tkc HKT.out
        have z0 := HT.out.fz (31 + k)
        clear hlj
        cases hb : p k j with
        | false =>
          have HQ : Hid (goneT p js k = false) := Lib.hid (by rw [gone_some hj]; exact hb)
          have hbb := hb
          rw [HP.out] at hbb
          have hth : (tkAt ts k).hi = true := by simpa [lowP] using hbb
          rw [hth] at t0
          clear hj hb hjr
          go_wp2_with fail
          skip
          go_wp2_with fail
          go_roundw
          case rel => exact ⟨k + 1, ao, cap, by omega, by go_num, by rw [lis_no HQ.out], by rw [lis_no HQ.out]; exact Lib.hid (owns_later HO.out (by repeat first | exact Below.refl _ _ | refine Below.drew ?_ | refine below_drewR _ ?_)), by rw [rem_no HQ.out]; exact Lib.hid (HT.out.later (by repeat first | exact Below.refl _ _ | refine Below.drew ?_ | refine below_drewR _ ?_)), Lib.hid (HG.out.trans (GrowS.of_below (by repeat first | exact Below.refl _ _ | refine Below.drew ?_ | refine below_drewR _ ?_)))⟩
          case measure => simp [intOf]; omega
        | true =>
          have HQ : Hid (goneT p js k = true) := Lib.hid (by rw [gone_some hj]; exact hb)
          have hbb := hb
          rw [HP.out] at hbb
          have hth : (tkAt ts k).hi = false := by simpa [lowP] using hbb
          rw [hth] at t0
          obtain ⟨q, hq⟩ : ∃ q, q = (lisT p js k).length := ⟨_, rfl⟩
          have hq6 : q ≤ 6 := by have := lis_len p js k; omega
          obtain ⟨xs, hxs⟩ : ∃ xs, xs = (lisT p js k).flatMap intCells := ⟨_, rfl⟩
          rw [← hq, ← hxs] at HO
          rw [← hq]
          have HQX := Lib.hid (And.intro hq hxs)
          clear hj hb hjr hq hxs
          go_upto_region 7 with fail
          obtain ⟨w4, hw4, hb4⟩ : ∃ w4, w4 = wr ∧ Below wr.heap.size wr w4 := ⟨_, rfl, by repeat first | exact Below.refl _ _ | refine Below.drew ?_ | refine below_drewR _ ?_⟩
          rw [← hw4]
          obtain ⟨h5', g5'⟩ := (HT.out.later hb4).gone (q := k) (by omega)
          rw [← rem_yes HQ.out] at h5'
          obtain ⟨w5, hw5⟩ : ∃ w5, w5 = w4.setCell ⟨rb, 31 + k, none⟩ (.bool false) := ⟨_, rfl⟩
          have y4 := (HT.out.later hb4).is (k := k) (by omega)
          have z4 := (HT.out.later hb4).fz (31 + k)
          rw [← hw5] at h5' g5'
          have HB4 := Lib.hid hb4
          have H5 := Lib.hid h5'
          have G5 : Hid (GrowS R R w w5) := Lib.hid ((HG.out.trans (GrowS.of_below hb4)).trans g5')
          have HVB : Hid (Below w5.heap.size w5 (w5.alloc (.cells #[.int .i64 (k : Int)] 3))) := Lib.hid (below1 _ _)
          have HV : Hid ((w5.alloc (.cells #[.int .i64 (k : Int)] 3)).ownsRow w.heap.size 3 1 (.slice ao q cap) q xs ∧ Lies (w5.alloc (.cells #[.int .i64 (k : Int)] 3)) w5.heap.size (w5.heap.size + 1) (.slice (some ⟨w5.heap.size, 0, none⟩) 1 1) 1 1 [.int .i64 (k : Int)] ∧ w.heap.size ≤ (w5.alloc (.cells #[.int .i64 (k : Int)] 3)).heap.size) := Lib.hid ⟨owns_later (owns_hold HO.out ⟨by have := g5'.size; have := hb4.size; omega, fun g hg => (g5'.block g (by have := (owns_own HO.out g hg).2; have := hb4.size; omega) (fun hs => by have := HLT.out g hs; have := (owns_own HO.out g hg).1; omega)).trans (hb4.block g (owns_own HO.out g hg).2)⟩) (below1 _ _), one_lies (heap_alloc_new _ _) rfl, by have := G5.out.size; simp; omega⟩
          have HW5 := Lib.hid hw5
          clear h5' g5' hb4 hw4 hw5 y0 z0 c0 a1 t0 t2
          go_upto_region 8 with fail
          rw [← HW5.out]
          go_wp2_with (first
            | (refine wpList_append_lie2 (by rfl) (.tmp 39) (.tmp 41) 63 (by rfl) w.heap.size 3 i0 _ 1 8 Tryz.underlying63 HI.out hz0 hz1 hz2 rfl (by omega) (.slice ao q cap) q xs (by rfl) HV.out.1 (.slice (some ⟨w5.heap.size, 0, none⟩) 1 1) w5.heap.size (w5.heap.size + 1) 1 [.int .i64 (k : Int)] (by rfl) HV.out.2.1 (in_one (k : Int)) (q + 1) rfl (by simp only [maxLen]; omega) (by omega) HV.out.2.2 ?_
               intro ao2 cap2 w6 hown6' hgrow6' hob6'
               have hown6 := Lib.hid hown6'
               have B6 : Hid (Below w.heap.size w5 w6) := Lib.hid ((HVB.out.mono G5.out.size).grown hgrow6' (by have := HVB.out.size; have := G5.out.size; omega) (fun g hg => (owns_block HV.out.1 g hg).1))
               clear hown6' hgrow6' hob6')
            | fail "no arm")
          go_roundw
          case rel => exact ⟨k + 1, ao2, cap2, by omega, by go_num, by rw [lis_yes HQ.out, List.length_append, ← HQX.out.1]; rfl, by rw [lis_yes HQ.out, List.length_append, ← HQX.out.1, List.flatMap_append, ← HQX.out.2]; exact hown6, Lib.hid (H5.out.keep (fun g hg => B6.out.block g (HLT.out g hg)) B6.out.size), Lib.hid ⟨B6.out.os.trans G5.out.os, B6.out.tape.trans G5.out.tape, B6.out.output.trans G5.out.output, Nat.le_trans G5.out.size B6.out.size, fun g h1 h2 => (B6.out.block g h1).trans (G5.out.block g h1 h2), fun g h1 => .inl h1⟩⟩
          case measure => simp [intOf]; omega
    · have d0 : decide ((k : Int) < (n : Int)) = false := decide_eq_false (by omega)
      have hkn : k = n := by omega
      subst hkn
      go_wp2_with fail
      go_ret
      exact ⟨R, ao, cap, rfl, Lies.of_owns HO.out, ⟨ta, c, f, HT.out⟩, HG.out⟩
set_option maxRecDepth 100000 in
set_option maxHeartbeats 8000000 in
theorem rtmissed_any (W0 w : World) (rb : Nat) (R : Nat → Prop) (ts : List Tk) (hm : Bool) (js : Js) (h : TrG W0 rb ts hm js w R) (now : Int) :
    Calls Tryz.prog 33 #[.pointer (some ⟨rb, 0, none⟩), .int .i64 now] w fun e w' => ∃ R' ao cap, e = .returned (.slice ao (misL ts js now).length cap) ∧ Lies w' w.heap.size w'.heap.size (.slice ao (misL ts js now).length cap) (misL ts js now).length 1 ((misL ts js now).flatMap intCells) ∧ TrG W0 rb ts hm (misT ts js now) w' R' ∧ GrowS R R' w w' := by
  obtain ⟨ta, c, f, h⟩ := h
  obtain ⟨p, hp⟩ : ∃ p : Nat → Jb → Bool, p = misP ts now := ⟨_, rfl⟩
  have HP := Lib.hid hp
  have HLJ : Hid (misL ts js now = lisT p js ts.length ∧ misT ts js now = remT p js ts.length js) := Lib.hid (by rw [hp]; exact ⟨rfl, rfl⟩)
  rw [HLJ.out.1, HLJ.out.2]
  obtain ⟨n, hn⟩ : ∃ n, n = ts.length := ⟨_, rfl⟩
  rw [← hn]
  have HN := Lib.hid hn
  have n6 : n ≤ 6 := by rw [hn]; exact h.n6
  have HLT := Lib.hid h.lt
  have HJS := Lib.hid h.ok
  obtain ⟨i0, hi0, hz0, hz1, hz2⟩ := info_parts Tryz.infoRInt
  have HI := Lib.hid hi0
  have H0 := Lib.hid h
  have HG0 : Hid (GrowS R R w w) := Lib.hid (GrowS.of_below (Below.refl _ _))
  clear h hp hn hi0
  go_enter Tryz.func33, Tryz.ntmps33
  go_wp2_with fail
  go_loopw [5, 6] (fun s5 s14 wr => ∃ (k : Nat) (ao : Option Addr) (cap : Nat), k ≤ n ∧ s14 = .int .i64 k ∧ s5 = .slice ao (lisT p js k).length cap ∧ Hid (wr.ownsRow w.heap.size 3 1 (.slice ao (lisT p js k).length cap) (lisT p js k).length ((lisT p js k).flatMap intCells)) ∧ Hid (TrAt W0 wr rb R ts hm (remT p js k js) ta c f) ∧ Hid (GrowS R R w wr)) (fun _ s _ => n - (intOf s).toNat)
  case atStart => exact ⟨0, none, 0, Nat.zero_le _, rfl, rfl, Lib.hid ⟨rfl, .inl ⟨rfl, rfl⟩⟩, Lib.hid (by rw [rem_zero]; exact H0.out), HG0⟩
  case round =>
    clear H0 HG0
    obtain ⟨k, ao, cap, hk, rfl, rfl, HO, HT, HG⟩ := hrel
    have c0 := HT.out.c0
    rw [← HN.out] at c0
    by_cases hlt : k < n
    · have d0 : decide ((k : Int) < (n : Int)) = true := decide_eq_true (by omega)
      have d1 : (0 : Int) ≤ (k : Int) := by omega
      have d2 : (k : Int) < (n : Int) := by omega
      have d3 : (k : Int) < 6 := by omega
      have HKT : Hid (k < ts.length) := Lib.hid (by rw [← HN.out]; exact hlt)
      have y0 := HT.out.is (k := k) (by omega)
      cases hj : js k with
      | none =>
        rw [show hasJ (remT p js k js) k = false from hasJ_none (by rw [rem_here]; exact hj)] at y0
        have HQ : Hid (goneT p js k = false) := Lib.hid (gone_none hj)
        clear hj
        go_wp2_with fail
        go_quiet (fail)
        go_wp2_with fail
        go_roundw
        case rel => exact ⟨k + 1, ao, cap, by omega, by go_num, by rw [lis_no HQ.out], by rw [lis_no HQ.out]; exact Lib.hid (owns_later HO.out (by repeat first | exact Below.refl _ _ | refine Below.drew ?_ | refine below_drewR _ ?_)), by rw [rem_no HQ.out]; exact Lib.hid (HT.out.later (by repeat first | exact Below.refl _ _ | refine Below.drew ?_ | refine below_drewR _ ?_)), Lib.hid (HG.out.trans (GrowS.of_below (by repeat first | exact Below.refl _ _ | refine Below.drew ?_ | refine below_drewR _ ?_)))⟩
        case measure => simp [intOf]; omega
      | some j =>
        have hjr : remT p js k js k = some j := by rw [rem_here]; exact hj
        rw [show hasJ (remT p js k js) k = true from hasJ_some hjr] at y0
        obtain ⟨oa, oc, _, a1, _, _, _, hlj, _⟩ := HT.out.jobAt hjr
        obtain ⟨tb, rfl, tne, t0, t2, _⟩ := HT.out.tkc HKT.out
        have z0 := HT.out.fz (31 + k)
        have hbd := HJS.out.bd k j hj
        have htb := ok_bd19 HT.out.tk HKT.out
        obtain ⟨arr, harr⟩ : ∃ arr, arr = j.arr := ⟨_, rfl⟩
        obtain ⟨d, hd⟩ : ∃ d, d = (tkAt ts k).d := ⟨_, rfl⟩
        rw [← harr] at a1 hbd
        rw [← hd] at t2 htb
        have w1 : IntKind.i64.wrap (arr + d) = arr + d := IntWalk.i64_in _ (by omega)
        have HAD := Lib.hid (And.intro harr hd)
        clear hbd htb harr hd
        clear hlj
        cases hb : p k j with
        | false =>
          have HQ : Hid (goneT p js k = false) := Lib.hid (by rw [gone_some hj]; exact hb)
          have hbb := hb
          rw [HP.out] at hbb
          have hth : decide (arr + d ≤ now) = false := by rw [HAD.out.1, HAD.out.2]; exact hbb
          clear hbb
          clear hj hb hjr
          go_wp2_with fail
          go_quiet (fail)
          go_wp2_with fail
          go_roundw
          case rel => exact ⟨k + 1, ao, cap, by omega, by go_num, by rw [lis_no HQ.out], by rw [lis_no HQ.out]; exact Lib.hid (owns_later HO.out (by repeat first | exact Below.refl _ _ | refine Below.drew ?_ | refine below_drewR _ ?_)), by rw [rem_no HQ.out]; exact Lib.hid (HT.out.later (by repeat first | exact Below.refl _ _ | refine Below.drew ?_ | refine below_drewR _ ?_)), Lib.hid (HG.out.trans (GrowS.of_below (by repeat first | exact Below.refl _ _ | refine Below.drew ?_ | refine below_drewR _ ?_)))⟩
          case measure => simp [intOf]; omega
        | true =>
          have HQ : Hid (goneT p js k = true) := Lib.hid (by rw [gone_some hj]; exact hb)
          have hbb := hb
          rw [HP.out] at hbb
          have hth : decide (arr + d ≤ now) = true := by rw [HAD.out.1, HAD.out.2]; exact hbb
          clear hbb
          obtain ⟨q, hq⟩ : ∃ q, q = (lisT p js k).length := ⟨_, rfl⟩
          have hq6 : q ≤ 6 := by have := lis_len p js k; omega
          obtain ⟨xs, hxs⟩ : ∃ xs, xs = (lisT p js k).flatMap intCells := ⟨_, rfl⟩
          rw [← hq, ← hxs] at HO
          rw [← hq]
          have HQX := Lib.hid (And.intro hq hxs)
          clear hj hb hjr hq hxs
          go_upto_region 5 with fail
          go_quiet (fail)
          go_upto_region 6 with fail
          obtain ⟨w4, hw4, hb4⟩ : ∃ w4, w4 = wr.drewN nq ∧ Below wr.heap.size wr w4 := ⟨_, rfl, by repeat first | exact Below.refl _ _ | refine Below.drew ?_ | refine below_drewR _ ?_⟩
          rw [← hw4]
          obtain ⟨h5', g5'⟩ := (HT.out.later hb4).gone (q := k) (by omega)
          rw [← rem_yes HQ.out] at h5'
          obtain ⟨w5, hw5⟩ : ∃ w5, w5 = w4.setCell ⟨rb, 31 + k, none⟩ (.bool false) := ⟨_, rfl⟩
          have y4 := (HT.out.later hb4).is (k := k) (by omega)
          have z4 := (HT.out.later hb4).fz (31 + k)
          rw [← hw5] at h5' g5'
          have HB4 := Lib.hid hb4
          have H5 := Lib.hid h5'
          have G5 : Hid (GrowS R R w w5) := Lib.hid ((HG.out.trans (GrowS.of_below hb4)).trans g5')
          have HVB : Hid (Below w5.heap.size w5 (w5.alloc (.cells #[.int .i64 (k : Int)] 3))) := Lib.hid (below1 _ _)
          have HV : Hid ((w5.alloc (.cells #[.int .i64 (k : Int)] 3)).ownsRow w.heap.size 3 1 (.slice ao q cap) q xs ∧ Lies (w5.alloc (.cells #[.int .i64 (k : Int)] 3)) w5.heap.size (w5.heap.size + 1) (.slice (some ⟨w5.heap.size, 0, none⟩) 1 1) 1 1 [.int .i64 (k : Int)] ∧ w.heap.size ≤ (w5.alloc (.cells #[.int .i64 (k : Int)] 3)).heap.size) := Lib.hid ⟨owns_later (owns_hold HO.out ⟨by have := g5'.size; have := hb4.size; omega, fun g hg => (g5'.block g (by have := (owns_own HO.out g hg).2; have := hb4.size; omega) (fun hs => by have := HLT.out g hs; have := (owns_own HO.out g hg).1; omega)).trans (hb4.block g (owns_own HO.out g hg).2)⟩) (below1 _ _), one_lies (heap_alloc_new _ _) rfl, by have := G5.out.size; simp; omega⟩
          have HW5 := Lib.hid hw5
          clear h5' g5' hb4 hw4 hw5 y0 z0 c0 a1 t0 t2
          go_upto_region 7 with fail
          rw [← HW5.out]
          go_wp2_with (first
            | (refine wpList_append_lie2 (by rfl) (.tmp 47) (.tmp 49) 63 (by rfl) w.heap.size 3 i0 _ 1 8 Tryz.underlying63 HI.out hz0 hz1 hz2 rfl (by omega) (.slice ao q cap) q xs (by rfl) HV.out.1 (.slice (some ⟨w5.heap.size, 0, none⟩) 1 1) w5.heap.size (w5.heap.size + 1) 1 [.int .i64 (k : Int)] (by rfl) HV.out.2.1 (in_one (k : Int)) (q + 1) rfl (by simp only [maxLen]; omega) (by omega) HV.out.2.2 ?_
               intro ao2 cap2 w6 hown6' hgrow6' hob6'
               have hown6 := Lib.hid hown6'
               have B6 : Hid (Below w.heap.size w5 w6) := Lib.hid ((HVB.out.mono G5.out.size).grown hgrow6' (by have := HVB.out.size; have := G5.out.size; omega) (fun g hg => (owns_block HV.out.1 g hg).1))
               clear hown6' hgrow6' hob6')
            | fail "no arm")
          go_roundw
          case rel => exact ⟨k + 1, ao2, cap2, by omega, by go_num, by rw [lis_yes HQ.out, List.length_append, ← HQX.out.1]; rfl, by rw [lis_yes HQ.out, List.length_append, ← HQX.out.1, List.flatMap_append, ← HQX.out.2]; exact hown6, Lib.hid (H5.out.keep (fun g hg => B6.out.block g (HLT.out g hg)) B6.out.size), Lib.hid ⟨B6.out.os.trans G5.out.os, B6.out.tape.trans G5.out.tape, B6.out.output.trans G5.out.output, Nat.le_trans G5.out.size B6.out.size, fun g h1 h2 => (B6.out.block g h1).trans (G5.out.block g h1 h2), fun g h1 => .inl h1⟩⟩
          case measure => simp [intOf]; omega
    · have d0 : decide ((k : Int) < (n : Int)) = false := decide_eq_false (by omega)
      have hkn : k = n := by omega
      subst hkn
      go_wp2_with fail
      go_ret
      exact ⟨R, ao, cap, rfl, Lies.of_owns HO.out, ⟨ta, c, f, HT.out⟩, HG.out⟩
end Go.Proofs.YtnenbgdonkgkfaaGreat
