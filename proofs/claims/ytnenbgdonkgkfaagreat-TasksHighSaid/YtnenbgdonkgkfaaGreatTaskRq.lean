/- The document's table of jobs: Put, Run. -/
import Derived.Test.YtnenbgdonkgkfaaGreatTaskRp
namespace Go.Proofs.YtnenbgdonkgkfaaGreat
open Go.ChangeShapes Go.WideShapes Go.ChangeAt Go.RowKit
set_option linter.unusedVariables false

theorem set5_ne (cur : Array Value) (o : Nat) (v0 v1 v2 v3 v4 : Value) {i : Nat} (h : i < o ∨ o + 5 ≤ i) : (((((cur.setIfInBounds o v0).setIfInBounds (o + 1) v1).setIfInBounds (o + 2) v2).setIfInBounds (o + 3) v3).setIfInBounds (o + 4) v4)[i]? = cur[i]? := by
  rw [Array.getElem?_setIfInBounds, if_neg (by omega), Array.getElem?_setIfInBounds, if_neg (by omega), Array.getElem?_setIfInBounds, if_neg (by omega), Array.getElem?_setIfInBounds, if_neg (by omega), Array.getElem?_setIfInBounds, if_neg (by omega)]
theorem set5_in (cur : Array Value) (o : Nat) (v0 v1 v2 v3 v4 : Value) (h : o + 5 ≤ cur.size) : (((((cur.setIfInBounds o v0).setIfInBounds (o + 1) v1).setIfInBounds (o + 2) v2).setIfInBounds (o + 3) v3).setIfInBounds (o + 4) v4)[o]? = some v0 ∧ (((((cur.setIfInBounds o v0).setIfInBounds (o + 1) v1).setIfInBounds (o + 2) v2).setIfInBounds (o + 3) v3).setIfInBounds (o + 4) v4)[o + 1]? = some v1 ∧ (((((cur.setIfInBounds o v0).setIfInBounds (o + 1) v1).setIfInBounds (o + 2) v2).setIfInBounds (o + 3) v3).setIfInBounds (o + 4) v4)[o + 2]? = some v2 ∧ (((((cur.setIfInBounds o v0).setIfInBounds (o + 1) v1).setIfInBounds (o + 2) v2).setIfInBounds (o + 3) v3).setIfInBounds (o + 4) v4)[o + 3]? = some v3 ∧ (((((cur.setIfInBounds o v0).setIfInBounds (o + 1) v1).setIfInBounds (o + 2) v2).setIfInBounds (o + 3) v3).setIfInBounds (o + 4) v4)[o + 4]? = some v4 := by
  refine ⟨?_, ?_, ?_, ?_, ?_⟩
  · rw [Array.getElem?_setIfInBounds, if_neg (by omega), Array.getElem?_setIfInBounds, if_neg (by omega), Array.getElem?_setIfInBounds, if_neg (by omega), Array.getElem?_setIfInBounds, if_neg (by omega), Array.getElem?_setIfInBounds, if_pos rfl, if_pos (by omega)]
  · rw [Array.getElem?_setIfInBounds, if_neg (by omega), Array.getElem?_setIfInBounds, if_neg (by omega), Array.getElem?_setIfInBounds, if_neg (by omega), Array.getElem?_setIfInBounds, if_pos rfl, if_pos (by simp; omega)]
  · rw [Array.getElem?_setIfInBounds, if_neg (by omega), Array.getElem?_setIfInBounds, if_neg (by omega), Array.getElem?_setIfInBounds, if_pos rfl, if_pos (by simp; omega)]
  · rw [Array.getElem?_setIfInBounds, if_neg (by omega), Array.getElem?_setIfInBounds, if_pos rfl, if_pos (by simp; omega)]
  · rw [Array.getElem?_setIfInBounds, if_pos rfl, if_pos (by simp; omega)]
section
variable {W0 w : World} {rb : Nat} {R : Nat → Prop} {ts : List Tk} {hm : Bool} {js : Js} {ao : Option Addr} {c : Nat} {f : Nat → Rj}
/-- A seat without a job gets another one's cells. -/
theorem TrAt.job (h : TrAt W0 w rb R ts hm js ao c f) {q : Nat} (hq : q < 6) (hn : js q = none) (x : Rj) : TrAt W0 (((((w.setCell ⟨rb, 1 + q * 5, none⟩ (.int .i64 x.task)).setCell ⟨rb, 1 + q * 5 + 1, none⟩ (.int .i64 x.arr)).setCell ⟨rb, 1 + q * 5 + 2, none⟩ (.int .i64 x.work)).setCell ⟨rb, 1 + q * 5 + 3, none⟩ (.int .i64 x.done)).setCell ⟨rb, 1 + q * 5 + 4, none⟩ x.ops) rb R ts hm js ao c (upd f q x) ∧ GrowS R R w (((((w.setCell ⟨rb, 1 + q * 5, none⟩ (.int .i64 x.task)).setCell ⟨rb, 1 + q * 5 + 1, none⟩ (.int .i64 x.arr)).setCell ⟨rb, 1 + q * 5 + 2, none⟩ (.int .i64 x.work)).setCell ⟨rb, 1 + q * 5 + 3, none⟩ (.int .i64 x.done)).setCell ⟨rb, 1 + q * 5 + 4, none⟩ x.ops) := by
  obtain ⟨cur, h1, h2, h3, h4, h5, h6⟩ := h.box
  refine h.put ((((((But.refl rb w).set _ _).set _ _).set _ _).set _ _).set _ _) ⟨_, set_at (set_at (set_at (set_at (set_at h1)))), by simp [h2], ?_, fun k hk => ?_, fun k hk => ?_, ?_⟩ h.ok (fun k j hj => ?_)
  · rw [set5_ne _ _ _ _ _ _ _ (by omega)]; exact h3
  · by_cases e : k = q
    · subst e
      rw [upd_at]
      exact set5_in cur (1 + k * 5) _ _ _ _ _ (by omega)
    · rw [upd_ne _ _ e]
      obtain ⟨a, b, c, d, e'⟩ := h4 k hk
      exact ⟨by rw [set5_ne _ _ _ _ _ _ _ (by omega)]; exact a, by rw [set5_ne _ _ _ _ _ _ _ (by omega)]; exact b, by rw [set5_ne _ _ _ _ _ _ _ (by omega)]; exact c, by rw [set5_ne _ _ _ _ _ _ _ (by omega)]; exact d, by rw [set5_ne _ _ _ _ _ _ _ (by omega)]; exact e'⟩
  · rw [set5_ne _ _ _ _ _ _ _ (by omega)]; exact h5 k hk
  · rw [set5_ne _ _ _ _ _ _ _ (by omega)]; exact h6
  · have e : k ≠ q := fun e => by subst e; rw [hn] at hj; cases hj
    rw [upd_ne _ _ e]; exact h.jb k j hj
/-- The job is there. -/
theorem TrAt.come (h : TrAt W0 w rb R ts hm js ao c f) {q : Nat} (hq : q < ts.length) {j : Jb} (hb : 0 ≤ j.arr ∧ j.arr ≤ 4611686018427387904 ∧ 1 ≤ j.work ∧ j.work ≤ 1048576 ∧ 0 ≤ j.done ∧ j.done < j.work ∧ j.ops.length ≤ 64) (hf : f q = ⟨q, j.arr, j.work, j.done, (f q).ops⟩) (hl : Lies W0 0 W0.heap.size (f q).ops j.ops.length 3 (j.ops.flatMap Wn.cells)) :
    TrAt W0 (w.setCell ⟨rb, 31 + q, none⟩ (.bool true)) rb R ts hm (upd js q (some j)) ao c f ∧ GrowS R R w (w.setCell ⟨rb, 31 + q, none⟩ (.bool true)) := by
  have hq6 : q < 6 := by have := h.n6; omega
  obtain ⟨cur, h1, h2, h3, h4, h5, h6⟩ := h.box
  refine h.put ((But.refl rb w).set _ _) ⟨_, set_at h1, by simp [h2], ?_, fun k hk => ?_, fun k hk => ?_, ?_⟩ (h.ok.set hq hb) (fun k x hx => ?_)
  · rw [Array.getElem?_setIfInBounds, if_neg (by omega)]; exact h3
  · obtain ⟨a, b, c, d, e⟩ := h4 k hk
    exact ⟨by rw [Array.getElem?_setIfInBounds, if_neg (by omega)]; exact a, by rw [Array.getElem?_setIfInBounds, if_neg (by omega)]; exact b, by rw [Array.getElem?_setIfInBounds, if_neg (by omega)]; exact c, by rw [Array.getElem?_setIfInBounds, if_neg (by omega)]; exact d, by rw [Array.getElem?_setIfInBounds, if_neg (by omega)]; exact e⟩
  · rw [box_is hq6 h2 h5 true k hk]
    by_cases e : k = q
    · subst e; rw [if_pos rfl, hasJ_some (upd_at _ _ _)]
    · rw [if_neg e, hasJ_ne js _ e]
  · rw [Array.getElem?_setIfInBounds, if_neg (by omega)]; exact h6
  · by_cases e : k = q
    · subst e
      rw [upd_at] at hx
      cases hx
      exact ⟨hf, hl⟩
    · rw [upd_ne _ _ e] at hx; exact h.jb k x hx
/-- One more tick of it is done. -/
theorem TrAt.tick (h : TrAt W0 w rb R ts hm js ao c f) {q : Nat} {j : Jb} (hj : js q = some j) (hd : j.done + 1 < j.work) : TrAt W0 (w.setCell ⟨rb, 1 + q * 5 + 3, none⟩ (.int .i64 (j.done + 1))) rb R ts hm (upd js q (some { j with done := j.done + 1 })) ao c (upd f q ⟨(f q).task, (f q).arr, (f q).work, j.done + 1, (f q).ops⟩) ∧ GrowS R R w (w.setCell ⟨rb, 1 + q * 5 + 3, none⟩ (.int .i64 (j.done + 1))) := by
  have hqt := h.ok.lt hj
  have hq6 : q < 6 := by have := h.n6; omega
  obtain ⟨cur, h1, h2, h3, h4, h5, h6⟩ := h.box
  have hb := h.ok.bd q j hj
  refine h.put ((But.refl rb w).set _ _) ⟨_, set_at h1, by simp [h2], ?_, fun k hk => ?_, fun k hk => ?_, ?_⟩ (h.ok.set hqt ⟨hb.1, hb.2.1, hb.2.2.1, hb.2.2.2.1, by show 0 ≤ j.done + 1; omega, hd, hb.2.2.2.2.2.2⟩) (fun k x hx => ?_)
  · rw [Array.getElem?_setIfInBounds, if_neg (by omega)]; exact h3
  · obtain ⟨a, b, c, d, e⟩ := h4 k hk
    by_cases e1 : k = q
    · subst e1
      rw [upd_at]
      exact ⟨by rw [Array.getElem?_setIfInBounds, if_neg (by omega)]; exact a, by rw [Array.getElem?_setIfInBounds, if_neg (by omega)]; exact b, by rw [Array.getElem?_setIfInBounds, if_neg (by omega)]; exact c, by rw [Array.getElem?_setIfInBounds, if_pos rfl, if_pos (by omega)], by rw [Array.getElem?_setIfInBounds, if_neg (by omega)]; exact e⟩
    · rw [upd_ne _ _ e1]
      exact ⟨by rw [Array.getElem?_setIfInBounds, if_neg (by omega)]; exact a, by rw [Array.getElem?_setIfInBounds, if_neg (by omega)]; exact b, by rw [Array.getElem?_setIfInBounds, if_neg (by omega)]; exact c, by rw [Array.getElem?_setIfInBounds, if_neg (by omega)]; exact d, by rw [Array.getElem?_setIfInBounds, if_neg (by omega)]; exact e⟩
  · rw [Array.getElem?_setIfInBounds, if_neg (by omega), h5 k hk]
    by_cases e : k = q
    · subst e; rw [hasJ_some hj, hasJ_some (upd_at _ _ _)]
    · rw [hasJ_ne js _ e]
  · rw [Array.getElem?_setIfInBounds, if_neg (by omega)]; exact h6
  · obtain ⟨g1, g2⟩ := h.jb q j hj
    by_cases e : k = q
    · subst e
      rw [upd_at] at hx
      cases hx
      rw [upd_at]
      exact ⟨by rw [g1], g2⟩
    · rw [upd_ne _ _ e] at hx ⊢; exact h.jb k x hx
/-- One more tick of it is done, and it is gone. -/
theorem TrAt.tickGone (h : TrAt W0 w rb R ts hm js ao c f) {q : Nat} (hq6 : q < 6) (v : Int) : TrAt W0 ((w.setCell ⟨rb, 1 + q * 5 + 3, none⟩ (.int .i64 v)).setCell ⟨rb, 31 + q, none⟩ (.bool false)) rb R ts hm (upd js q none) ao c (upd f q ⟨(f q).task, (f q).arr, (f q).work, v, (f q).ops⟩) ∧ GrowS R R w ((w.setCell ⟨rb, 1 + q * 5 + 3, none⟩ (.int .i64 v)).setCell ⟨rb, 31 + q, none⟩ (.bool false)) := by
  obtain ⟨cur, h1, h2, h3, h4, h5, h6⟩ := h.box
  refine h.put (((But.refl rb w).set _ _).set _ _) ⟨_, set_at (set_at h1), by simp [h2], ?_, fun k hk => ?_, fun k hk => ?_, ?_⟩ (h.ok.rem q) (fun k x hx => ?_)
  · rw [Array.getElem?_setIfInBounds, if_neg (by omega), Array.getElem?_setIfInBounds, if_neg (by omega)]; exact h3
  · obtain ⟨a, b, c, d, e⟩ := h4 k hk
    by_cases e1 : k = q
    · subst e1
      rw [upd_at]
      exact ⟨by rw [Array.getElem?_setIfInBounds, if_neg (by omega), Array.getElem?_setIfInBounds, if_neg (by omega)]; exact a, by rw [Array.getElem?_setIfInBounds, if_neg (by omega), Array.getElem?_setIfInBounds, if_neg (by omega)]; exact b, by rw [Array.getElem?_setIfInBounds, if_neg (by omega), Array.getElem?_setIfInBounds, if_neg (by omega)]; exact c, by rw [Array.getElem?_setIfInBounds, if_neg (by omega), Array.getElem?_setIfInBounds, if_pos rfl, if_pos (by omega)], by rw [Array.getElem?_setIfInBounds, if_neg (by omega), Array.getElem?_setIfInBounds, if_neg (by omega)]; exact e⟩
    · rw [upd_ne _ _ e1]
      exact ⟨by rw [Array.getElem?_setIfInBounds, if_neg (by omega), Array.getElem?_setIfInBounds, if_neg (by omega)]; exact a, by rw [Array.getElem?_setIfInBounds, if_neg (by omega), Array.getElem?_setIfInBounds, if_neg (by omega)]; exact b, by rw [Array.getElem?_setIfInBounds, if_neg (by omega), Array.getElem?_setIfInBounds, if_neg (by omega)]; exact c, by rw [Array.getElem?_setIfInBounds, if_neg (by omega), Array.getElem?_setIfInBounds, if_neg (by omega)]; exact d, by rw [Array.getElem?_setIfInBounds, if_neg (by omega), Array.getElem?_setIfInBounds, if_neg (by omega)]; exact e⟩
  · rw [box_is (cur := cur.setIfInBounds (1 + q * 5 + 3) (.int .i64 v)) hq6 (by simp [h2]) (g := hasJ js) (fun k hk => by rw [Array.getElem?_setIfInBounds, if_neg (by omega)]; exact h5 k hk) false k hk]
    by_cases e : k = q
    · subst e; rw [if_pos rfl, hasJ_none (upd_at _ _ _)]
    · rw [if_neg e, hasJ_ne js _ e]
  · rw [Array.getElem?_setIfInBounds, if_neg (by omega), Array.getElem?_setIfInBounds, if_neg (by omega)]; exact h6
  · by_cases e : k = q
    · subst e; rw [upd_at] at hx; cases hx
    · rw [upd_ne _ _ e] at hx ⊢; exact h.jb k x hx
theorem TrAt.drew (h : TrAt W0 w rb R ts hm js ao c f) : TrAt W0 w.drew rb R ts hm js ao c f := h.later (Below.refl _ _).drew
end
theorem growS_drew {S : Nat → Prop} {a b : World} (g : GrowS S S a b) : GrowS S S a b.drew := ⟨g.os, g.tape, g.output, g.size, g.block, g.own⟩
theorem growS_drewN {S : Nat → Prop} {a b : World} (d : Nat) (g : GrowS S S a b) : GrowS S S a (b.drewN d) := ⟨g.os, g.tape, g.output, g.size, g.block, g.own⟩
set_option maxRecDepth 100000 in
set_option maxHeartbeats 16000000 in
theorem rtput_any (W0 w : World) (rb : Nat) (R : Nat → Prop) (ts : List Tk) (hm : Bool) (js : Js) (h : TrG W0 rb ts hm js w R) (t arr work done : Int) (oa : Option Addr) (m oc : Nat) (ops : List Wn) (hm' : ops.length = m) (hl : Lies W0 0 W0.heap.size (.slice oa m oc) m 3 (ops.flatMap Wn.cells)) :
    Calls Tryz.prog 27 #[.pointer (some ⟨rb, 0, none⟩), .agg #[.int .i64 t, .int .i64 arr, .int .i64 work, .int .i64 done, .slice oa m oc]] w fun e w' => ∃ R', e = .returned (.int .i64 (errT ts hm js t arr work done m)) ∧ TrG W0 rb ts hm (putT ts hm js t arr work done ops) w' R' ∧ GrowS R R' w w' := by
  have HP := Lib.hid h
  obtain ⟨ao, c, f, h⟩ := h
  obtain ⟨V, hV⟩ : ∃ V, V = w.alloc (.cells #[.int .i64 t, .int .i64 arr, .int .i64 work, .int .i64 done, .slice oa m oc] 33) := ⟨_, rfl⟩
  obtain ⟨E, hE⟩ : ∃ E, E = w.heap.size := ⟨_, rfl⟩
  have hbV : Hid (Below w.heap.size w V) := Lib.hid (by rw [hV]; exact below1 _ _)
  have HEV : Hid (V.heap[E]? = some (.cells #[.int .i64 t, .int .i64 arr, .int .i64 work, .int .i64 done, .slice oa m oc] 33 (0, 0))) := Lib.hid (by rw [hV, hE]; exact heap_alloc_new _ _)
  have HT := Lib.hid (h.later hbV.out)
  have HV := Lib.hid hV
  have HE := Lib.hid hE
  obtain ⟨n, hn⟩ : ∃ n, n = ts.length := ⟨_, rfl⟩
  have HN := Lib.hid hn
  have n6 : n ≤ 6 := by rw [hn]; exact h.n6
  have HEN : Hid (E ≠ rb) := Lib.hid (by have := h.lt rb h.own; omega)
  have KC : Hid (∀ Y, Below V.heap.size V Y → Y.cell? ⟨rb, 0, none⟩ = some (.slice ao n c) ∧ Y.cell? ⟨rb, 37, none⟩ = some (.bool hm) ∧ Y.cell? ⟨E, 0, none⟩ = some (.int .i64 t) ∧ Y.cell? ⟨E, 1, none⟩ = some (.int .i64 arr) ∧ Y.cell? ⟨E, 2, none⟩ = some (.int .i64 work) ∧ Y.cell? ⟨E, 3, none⟩ = some (.int .i64 done) ∧ Y.cell? ⟨E, 4, none⟩ = some (.slice oa m oc)) := Lib.hid (fun Y hY => by
    have hx := (hY.block E (lt_of_block HEV.out)).trans HEV.out
    rw [hn]
    exact ⟨(HT.out.later hY).c0, (HT.out.later hY).c37, cell_in hx rfl, cell_in hx rfl, cell_in hx rfl, cell_in hx rfl, cell_in hx rfl⟩)
  have HMM := Lib.hid hm'
  have HLL := Lib.hid hl
  have HSAME : Hid (∀ Y o, errT ts hm js t arr work done m = o → o ≠ 0 → Below w.heap.size w Y → ∃ R', Ending.returned (.int .i64 o) = .returned (.int .i64 (errT ts hm js t arr work done m)) ∧ TrG W0 rb ts hm (putT ts hm js t arr work done ops) Y R' ∧ GrowS R R' w Y) := Lib.hid (fun Y o ho hne hY => ⟨R, by rw [ho], by rw [put_no (by rw [hm', ho]; exact hne)]; exact (tr_own _ _ _ _ _).later HP.out hY, GrowS.of_below hY⟩)
  obtain ⟨y0, y1, x0, x1, x2, x3, x4⟩ := KC.out V (Below.refl _ _)
  clear h hV hE hm' hl
  by_cases q1 : t < 0
  · have d1 : decide (t < 0) = true := decide_eq_true (by omega)
    have HER := Lib.hid (err_arg (ts := ts) (hi := hm) (js := js) (t := t) (arr := arr) (work := work) (done := done) (n := m) (fun h => by have := h.1; unfold inT at this; simp at this; omega))
    clear hn q1
    go_enter Tryz.func27, Tryz.ntmps27
    go_upto_region 1 with fail
    rw [← HV.out, ← HE.out]
    go_quiet (fail)
    go_wp2_with fail
    go_ret
    exact HSAME.out _ 1 HER.out (by omega) (by repeat first | exact hbV.out | refine Below.drew ?_ | refine below_drewR _ ?_)
  have d1 : decide (t < 0) = false := decide_eq_false (by omega)
  by_cases q2 : (n : Int) ≤ t
  · have d2 : decide ((n : Int) ≤ t) = true := decide_eq_true (by omega)
    have HER := Lib.hid (err_arg (ts := ts) (hi := hm) (js := js) (t := t) (arr := arr) (work := work) (done := done) (n := m) (fun h => by have := h.1; unfold inT at this; simp at this; omega))
    clear hn q1 q2
    go_enter Tryz.func27, Tryz.ntmps27
    go_upto_region 1 with fail
    rw [← HV.out, ← HE.out]
    go_quiet (fail)
    go_wp2_with fail
    go_ret
    exact HSAME.out _ 1 HER.out (by omega) (by repeat first | exact hbV.out | refine Below.drew ?_ | refine below_drewR _ ?_)
  have d2 : decide ((n : Int) ≤ t) = false := decide_eq_false (by omega)
  by_cases q3 : arr < 0
  · have d3 : decide (arr < 0) = true := decide_eq_true (by omega)
    have HER := Lib.hid (err_arg (ts := ts) (hi := hm) (js := js) (t := t) (arr := arr) (work := work) (done := done) (n := m) (fun h => by have := h.2.1; omega))
    clear hn q1 q2 q3
    go_enter Tryz.func27, Tryz.ntmps27
    go_upto_region 1 with fail
    rw [← HV.out, ← HE.out]
    go_quiet (fail)
    go_wp2_with fail
    go_ret
    exact HSAME.out _ 1 HER.out (by omega) (by repeat first | exact hbV.out | refine Below.drew ?_ | refine below_drewR _ ?_)
  have d3 : decide (arr < 0) = false := decide_eq_false (by omega)
  by_cases q4 : 4611686018427387904 < arr
  · have d4 : decide (4611686018427387904 < arr) = true := decide_eq_true (by omega)
    have HER := Lib.hid (err_arg (ts := ts) (hi := hm) (js := js) (t := t) (arr := arr) (work := work) (done := done) (n := m) (fun h => by have := h.2.2.1; omega))
    clear hn q1 q2 q3 q4
    go_enter Tryz.func27, Tryz.ntmps27
    go_upto_region 1 with fail
    rw [← HV.out, ← HE.out]
    go_quiet (fail)
    go_wp2_with fail
    go_ret
    exact HSAME.out _ 1 HER.out (by omega) (by repeat first | exact hbV.out | refine Below.drew ?_ | refine below_drewR _ ?_)
  have d4 : decide (4611686018427387904 < arr) = false := decide_eq_false (by omega)
  by_cases q5 : work < 1
  · have d5 : decide (work < 1) = true := decide_eq_true (by omega)
    have HER := Lib.hid (err_arg (ts := ts) (hi := hm) (js := js) (t := t) (arr := arr) (work := work) (done := done) (n := m) (fun h => by have := h.2.2.2.1; omega))
    clear hn q1 q2 q3 q4 q5
    go_enter Tryz.func27, Tryz.ntmps27
    go_upto_region 1 with fail
    rw [← HV.out, ← HE.out]
    go_quiet (fail)
    go_wp2_with fail
    go_ret
    exact HSAME.out _ 1 HER.out (by omega) (by repeat first | exact hbV.out | refine Below.drew ?_ | refine below_drewR _ ?_)
  have d5 : decide (work < 1) = false := decide_eq_false (by omega)
  by_cases q6 : 1048576 < work
  · have d6 : decide (1048576 < work) = true := decide_eq_true (by omega)
    have HER := Lib.hid (err_arg (ts := ts) (hi := hm) (js := js) (t := t) (arr := arr) (work := work) (done := done) (n := m) (fun h => by have := h.2.2.2.2.1; omega))
    clear hn q1 q2 q3 q4 q5 q6
    go_enter Tryz.func27, Tryz.ntmps27
    go_upto_region 1 with fail
    rw [← HV.out, ← HE.out]
    go_quiet (fail)
    go_wp2_with fail
    go_ret
    exact HSAME.out _ 1 HER.out (by omega) (by repeat first | exact hbV.out | refine Below.drew ?_ | refine below_drewR _ ?_)
  have d6 : decide (1048576 < work) = false := decide_eq_false (by omega)
  by_cases q7 : ¬ done = 0
  · have d7 : (done == 0) = false := by simp; omega
    have HER := Lib.hid (err_arg (ts := ts) (hi := hm) (js := js) (t := t) (arr := arr) (work := work) (done := done) (n := m) (fun h => absurd h.2.2.2.2.2.1 q7))
    have d7b : (done != 0) = true := by simpa using q7
    have d7c : decide (done = 0) = false := decide_eq_false q7
    clear hn q1 q2 q3 q4 q5 q6 q7
    go_enter Tryz.func27, Tryz.ntmps27
    go_upto_region 1 with fail
    rw [← HV.out, ← HE.out]
    go_quiet (fail)
    go_wp2_with fail
    go_ret
    exact HSAME.out _ 1 HER.out (by omega) (by repeat first | exact hbV.out | refine Below.drew ?_ | refine below_drewR _ ?_)
  have d7 : (done == 0) = true := by simpa using q7
  have d7b : (done != 0) = false := by simpa using q7
  by_cases q8 : 64 < m
  · have d8 : decide (64 < (m : Int)) = true := decide_eq_true (by omega)
    have HER := Lib.hid (err_arg (ts := ts) (hi := hm) (js := js) (t := t) (arr := arr) (work := work) (done := done) (n := m) (fun h => by have := h.2.2.2.2.2.2; omega))
    clear hn q1 q2 q3 q4 q5 q6 q7 q8
    go_enter Tryz.func27, Tryz.ntmps27
    go_upto_region 1 with fail
    rw [← HV.out, ← HE.out]
    go_quiet (fail)
    go_wp2_with fail
    go_ret
    exact HSAME.out _ 1 HER.out (by omega) (by repeat first | exact hbV.out | refine Below.drew ?_ | refine below_drewR _ ?_)
  have d8 : decide (64 < (m : Int)) = false := decide_eq_false (by omega)
  have hin : inT ts t = true := by unfold inT; rw [← hn, decide_eq_true (show 0 ≤ t by omega), decide_eq_true (show t < (n : Int) by omega)]; rfl
  have hall : inT ts t = true ∧ 0 ≤ arr ∧ arr ≤ 4611686018427387904 ∧ 1 ≤ work ∧ work ≤ 1048576 ∧ done = 0 ∧ m ≤ 64 := ⟨hin, by omega, by omega, by omega, by omega, by omega, by omega⟩
  have HALL := Lib.hid hall
  have HKT : Hid (t.toNat < ts.length) := Lib.hid (by omega)
  have HK6 : Hid (t.toNat < 6) := Lib.hid (by omega)
  have e0 : (0 : Int) ≤ t := by omega
  have e1 : t < 6 := by omega
  have e2 : t < (n : Int) := by omega
  have KI : Hid (∀ Y, Below V.heap.size V Y → Y.cell? ⟨rb, 31 + t.toNat, none⟩ = some (.bool (hasJ js t.toNat))) := Lib.hid (fun Y hY => (HT.out.later hY).is HK6.out)
  clear q1 q2 q3 q4 q5 q6 q7 q8 hin hn
  cases hj : hasJ js t.toNat with
  | true =>
    have HER := Lib.hid (err_there (hi := hm) hall hj)
    rw [hj] at KI
    clear hj hall
    go_enter Tryz.func27, Tryz.ntmps27
    go_upto_region 1 with fail
    rw [← HV.out, ← HE.out]
    go_quiet (fail)
    obtain ⟨V1, hV1, hb1⟩ : ∃ V1, V1 = V.drewN nq ∧ Below V.heap.size V V1 := ⟨_, rfl, below_drewR _ (Below.refl _ _)⟩
    rw [← hV1]
    have HB1 := Lib.hid hb1
    have z0 := KI.out _ hb1
    obtain ⟨y0, y1, x0, x1, x2, x3, x4⟩ := KC.out _ hb1
    clear hV1 hb1
    go_upto_region 3 with fail
    go_quiet (fail)
    go_wp2_with fail
    go_ret
    exact HSAME.out _ 4 HER.out (by omega) (hbV.out.trans (Below.mono (by repeat first | exact HB1.out | refine Below.drew ?_ | refine below_drewR _ ?_) hbV.out.size))
  | false =>
    rw [hj] at KI
    have HJN := Lib.hid (hasJ_f hj)
    obtain ⟨tb, rfl, tne, _⟩ := HT.out.tkc HKT.out
    obtain ⟨th, hth⟩ : ∃ th, th = (tkAt ts t.toNat).hi := ⟨_, rfl⟩
    have KH : Hid (∀ Y, Below V.heap.size V Y → Y.cell? ⟨tb, t.toNat * 6, none⟩ = some (.bool th)) := Lib.hid (fun Y hY => by
      obtain ⟨tb', e, _, g, _⟩ := (HT.out.later hY).tkc HKT.out
      cases e
      rw [hth]; exact g)
    clear tne
    by_cases hdr : hm = true ∧ th = false
    · have HER := Lib.hid (err_drop (ts := ts) (hi := hm) (js := js) hall hj (by rw [← hth]; exact hdr))
      obtain ⟨rfl, rfl⟩ := hdr
      clear hj hall hth
      go_enter Tryz.func27, Tryz.ntmps27
      go_upto_region 1 with fail
      rw [← HV.out, ← HE.out]
      go_quiet (fail)
      obtain ⟨V1, hV1, hb1⟩ : ∃ V1, V1 = V.drewN nq ∧ Below V.heap.size V V1 := ⟨_, rfl, below_drewR _ (Below.refl _ _)⟩
      rw [← hV1]
      have HB1 := Lib.hid hb1
      have z0 := KI.out _ hb1
      have h0 := KH.out _ hb1
      obtain ⟨y0, y1, x0, x1, x2, x3, x4⟩ := KC.out _ hb1
      clear hV1 hb1
      go_upto_region 3 with fail
      go_quiet (fail)
      obtain ⟨V2, hV2, hb2⟩ : ∃ V2, V2 = V1.drewN nq ∧ Below V.heap.size V V2 := ⟨_, rfl, below_drewR _ HB1.out⟩
      rw [← hV2]
      have HB2 := Lib.hid hb2
      have z0 := KI.out _ hb2
      have h0 := KH.out _ hb2
      obtain ⟨y0, y1, x0, x1, x2, x3, x4⟩ := KC.out _ hb2
      clear hV2 hb2
      go_upto_region 5 with fail
      go_quiet (fail)
      go_wp2_with fail
      go_ret
      exact HSAME.out _ 42 HER.out (by omega) (hbV.out.trans (Below.mono (by repeat first | exact HB2.out | refine Below.drew ?_ | refine below_drewR _ ?_) hbV.out.size))
    · have HER := Lib.hid (err_ok (ts := ts) (hi := hm) (js := js) hall hj (by rw [← hth]; exact hdr))
      have HPU : Hid (putT ts hm js t arr work done ops = upd js t.toNat (some ⟨arr, work, 0, ops⟩)) := Lib.hid (put_yes (by rw [HMM.out]; exact HER.out))
      clear hj hall hth
      cases hm with
      | false =>
        clear hdr
        go_enter Tryz.func27, Tryz.ntmps27
        go_upto_region 1 with fail
        rw [← HV.out, ← HE.out]
        go_quiet (fail)
        obtain ⟨V1, hV1, hb1⟩ : ∃ V1, V1 = V.drewN nq ∧ Below V.heap.size V V1 := ⟨_, rfl, below_drewR _ (Below.refl _ _)⟩
        rw [← hV1]
        have HB1 := Lib.hid hb1
        have z0 := KI.out _ hb1
        have h0 := KH.out _ hb1
        obtain ⟨y0, y1, x0, x1, x2, x3, x4⟩ := KC.out _ hb1
        clear hV1 hb1
        go_upto_region 3 with fail
        go_quiet (fail)
        obtain ⟨V2, hV2, hb2⟩ : ∃ V2, V2 = V1.drewN nq ∧ Below V.heap.size V V2 := ⟨_, rfl, below_drewR _ HB1.out⟩
        rw [← hV2]
        have HB2 := Lib.hid hb2
        have z0 := KI.out _ hb2
        have h0 := KH.out _ hb2
        obtain ⟨y0, y1, x0, x1, x2, x3, x4⟩ := KC.out _ hb2
        clear hV2 hb2
        go_upto_region 5 with fail
        go_quiet (fail)
        obtain ⟨V3, hV3, hb3⟩ : ∃ V3, V3 = V2.drewN nq ∧ Below V.heap.size V V3 := ⟨_, rfl, below_drewR _ HB2.out⟩
        rw [← hV3]
        have HB3 := Lib.hid hb3
        have z0 := KI.out _ hb3
        have h0 := KH.out _ hb3
        obtain ⟨y0, y1, x0, x1, x2, x3, x4⟩ := KC.out _ hb3
        clear hV3 hb3
        obtain ⟨w0, w1, w2, w3, w4⟩ := (HT.out.later HB3.out).j HK6.out
        have p0 := (HT.out.later HB3.out).fz (1 + t.toNat * 5)
        have p1 := (HT.out.later HB3.out).fz (1 + t.toNat * 5 + 1)
        have p2 := (HT.out.later HB3.out).fz (1 + t.toNat * 5 + 2)
        have p3 := (HT.out.later HB3.out).fz (1 + t.toNat * 5 + 3)
        have p4 := (HT.out.later HB3.out).fz (1 + t.toNat * 5 + 4)
        obtain ⟨h7, g7⟩ := (HT.out.later HB3.out).job HK6.out HJN.out (⟨t, arr, work, done, .slice oa m oc⟩ : Rj)
        obtain ⟨X7, hX7⟩ : ∃ X7, X7 = ((((V3.setCell ⟨rb, 1 + t.toNat * 5, none⟩ (.int .i64 t)).setCell ⟨rb, 1 + t.toNat * 5 + 1, none⟩ (.int .i64 arr)).setCell ⟨rb, 1 + t.toNat * 5 + 2, none⟩ (.int .i64 work)).setCell ⟨rb, 1 + t.toNat * 5 + 3, none⟩ (.int .i64 done)).setCell ⟨rb, 1 + t.toNat * 5 + 4, none⟩ (.slice oa m oc) := ⟨_, rfl⟩
        have hE3 := (HB3.out.block E (lt_of_block HEV.out)).trans HEV.out
        have hE7 : X7.heap[E]? = some (.cells #[.int .i64 t, .int .i64 arr, .int .i64 work, .int .i64 done, .slice oa m oc] 33 (0, 0)) := by
          rw [hX7]
          exact (((((((But.refl rb V3).set _ _).set _ _).set _ _).set _ _).set _ _).block E (lt_of_block hE3) HEN.out).trans hE3
        rw [← hX7] at h7 g7
        have HX7 := Lib.hid hX7
        have H7 := Lib.hid h7
        have G7 : Hid (GrowS R R w X7) := Lib.hid (((GrowS.of_below hbV.out).trans (GrowS.of_below HB3.out)).trans g7)
        have u0 : X7.cell? ⟨E, 0, none⟩ = some (.int .i64 t) := cell_in hE7 rfl
        have u1 := h7.is HK6.out
        have u2 := h7.fz (31 + t.toNat)
        obtain ⟨h8, g8⟩ := h7.come (j := ⟨arr, work, 0, ops⟩) HKT.out ⟨HALL.out.2.1, HALL.out.2.2.1, HALL.out.2.2.2.1, HALL.out.2.2.2.2.1, Int.le_refl _, by show (0 : Int) < work; have := HALL.out.2.2.2.1; omega, by show ops.length ≤ 64; have := HMM.out; have := HALL.out.2.2.2.2.2.2; omega⟩ (by rw [upd_at]; have := HALL.out.2.2.2.2.2.1; subst this; rw [show ((t.toNat : Nat) : Int) = t by omega]) (by rw [upd_at]; show Lies W0 0 W0.heap.size (.slice oa m oc) ops.length 3 _; rw [HMM.out]; exact HLL.out)
        have H8 := Lib.hid h8
        have G8 := Lib.hid g8
        clear h7 g7 h8 g8 hX7 hE3 hE7
        go_upto_region 7 with fail
        go_region
        rw [← HX7.out]
        clear w0 w1 w2 w3 w4 p0 p1 p2 p3 p4 y0 y1 x0 x1 x2 x3 x4 z0 h0
        go_upto_region 8 with fail
        go_region
        go_wp2_with fail
        go_ret
        exact ⟨R, by rw [HER.out]; first | done | rfl, by rw [HPU.out]; exact ⟨some ⟨tb, 0, none⟩, c, _, H8.out.drew.drew⟩, growS_drew (growS_drew (G7.out.trans G8.out))⟩
      | true =>
        have hth1 : th = true := by cases th <;> simp_all
        subst hth1
        clear hdr
        go_enter Tryz.func27, Tryz.ntmps27
        go_upto_region 1 with fail
        rw [← HV.out, ← HE.out]
        go_quiet (fail)
        obtain ⟨V1, hV1, hb1⟩ : ∃ V1, V1 = V.drewN nq ∧ Below V.heap.size V V1 := ⟨_, rfl, below_drewR _ (Below.refl _ _)⟩
        rw [← hV1]
        have HB1 := Lib.hid hb1
        have z0 := KI.out _ hb1
        have h0 := KH.out _ hb1
        obtain ⟨y0, y1, x0, x1, x2, x3, x4⟩ := KC.out _ hb1
        clear hV1 hb1
        go_upto_region 3 with fail
        go_quiet (fail)
        obtain ⟨V2, hV2, hb2⟩ : ∃ V2, V2 = V1.drewN nq ∧ Below V.heap.size V V2 := ⟨_, rfl, below_drewR _ HB1.out⟩
        rw [← hV2]
        have HB2 := Lib.hid hb2
        have z0 := KI.out _ hb2
        have h0 := KH.out _ hb2
        obtain ⟨y0, y1, x0, x1, x2, x3, x4⟩ := KC.out _ hb2
        clear hV2 hb2
        go_upto_region 5 with fail
        go_quiet (fail)
        obtain ⟨V3, hV3, hb3⟩ : ∃ V3, V3 = V2.drewN nq ∧ Below V.heap.size V V3 := ⟨_, rfl, below_drewR _ HB2.out⟩
        rw [← hV3]
        have HB3 := Lib.hid hb3
        have z0 := KI.out _ hb3
        have h0 := KH.out _ hb3
        obtain ⟨y0, y1, x0, x1, x2, x3, x4⟩ := KC.out _ hb3
        clear hV3 hb3
        obtain ⟨w0, w1, w2, w3, w4⟩ := (HT.out.later HB3.out).j HK6.out
        have p0 := (HT.out.later HB3.out).fz (1 + t.toNat * 5)
        have p1 := (HT.out.later HB3.out).fz (1 + t.toNat * 5 + 1)
        have p2 := (HT.out.later HB3.out).fz (1 + t.toNat * 5 + 2)
        have p3 := (HT.out.later HB3.out).fz (1 + t.toNat * 5 + 3)
        have p4 := (HT.out.later HB3.out).fz (1 + t.toNat * 5 + 4)
        obtain ⟨h7, g7⟩ := (HT.out.later HB3.out).job HK6.out HJN.out (⟨t, arr, work, done, .slice oa m oc⟩ : Rj)
        obtain ⟨X7, hX7⟩ : ∃ X7, X7 = ((((V3.setCell ⟨rb, 1 + t.toNat * 5, none⟩ (.int .i64 t)).setCell ⟨rb, 1 + t.toNat * 5 + 1, none⟩ (.int .i64 arr)).setCell ⟨rb, 1 + t.toNat * 5 + 2, none⟩ (.int .i64 work)).setCell ⟨rb, 1 + t.toNat * 5 + 3, none⟩ (.int .i64 done)).setCell ⟨rb, 1 + t.toNat * 5 + 4, none⟩ (.slice oa m oc) := ⟨_, rfl⟩
        have hE3 := (HB3.out.block E (lt_of_block HEV.out)).trans HEV.out
        have hE7 : X7.heap[E]? = some (.cells #[.int .i64 t, .int .i64 arr, .int .i64 work, .int .i64 done, .slice oa m oc] 33 (0, 0)) := by
          rw [hX7]
          exact (((((((But.refl rb V3).set _ _).set _ _).set _ _).set _ _).set _ _).block E (lt_of_block hE3) HEN.out).trans hE3
        rw [← hX7] at h7 g7
        have HX7 := Lib.hid hX7
        have H7 := Lib.hid h7
        have G7 : Hid (GrowS R R w X7) := Lib.hid (((GrowS.of_below hbV.out).trans (GrowS.of_below HB3.out)).trans g7)
        have u0 : X7.cell? ⟨E, 0, none⟩ = some (.int .i64 t) := cell_in hE7 rfl
        have u1 := h7.is HK6.out
        have u2 := h7.fz (31 + t.toNat)
        obtain ⟨h8, g8⟩ := h7.come (j := ⟨arr, work, 0, ops⟩) HKT.out ⟨HALL.out.2.1, HALL.out.2.2.1, HALL.out.2.2.2.1, HALL.out.2.2.2.2.1, Int.le_refl _, by show (0 : Int) < work; have := HALL.out.2.2.2.1; omega, by show ops.length ≤ 64; have := HMM.out; have := HALL.out.2.2.2.2.2.2; omega⟩ (by rw [upd_at]; have := HALL.out.2.2.2.2.2.1; subst this; rw [show ((t.toNat : Nat) : Int) = t by omega]) (by rw [upd_at]; show Lies W0 0 W0.heap.size (.slice oa m oc) ops.length 3 _; rw [HMM.out]; exact HLL.out)
        have H8 := Lib.hid h8
        have G8 := Lib.hid g8
        clear h7 g7 h8 g8 hX7 hE3 hE7
        go_upto_region 7 with fail
        go_region
        rw [← HX7.out]
        clear w0 w1 w2 w3 w4 p0 p1 p2 p3 p4 y0 y1 x0 x1 x2 x3 x4 z0 h0
        go_upto_region 8 with fail
        go_region
        go_wp2_with fail
        go_ret
        exact ⟨R, by rw [HER.out]; first | done | rfl, by rw [HPU.out]; exact ⟨some ⟨tb, 0, none⟩, c, _, H8.out.drew.drew⟩, growS_drew (growS_drew (G7.out.trans G8.out))⟩
end Go.Proofs.YtnenbgdonkgkfaaGreat
