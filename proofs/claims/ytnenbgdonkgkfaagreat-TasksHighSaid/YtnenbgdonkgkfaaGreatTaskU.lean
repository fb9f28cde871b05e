/- The program's table of jobs: what comes of a tick; First, High, Len, Fall, Get, Run. -/
import Derived.Test.YtnenbgdonkgkfaaGreatTaskT
import Derived.Test.YtnenbgdonkgkfaaGreatHeapLs
namespace Go.Proofs.YtnenbgdonkgkfaaGreat
open Go.ChangeShapes Go.WideShapes Go.ChangeAt Go.RowKit
set_option linter.unusedVariables false

theorem results_pairT {P : Program} {fn : Func} {p u : Tmp} {ty : TypeId} (h : fn.results = #[.cell p ty, .tmp u]) (tmps : Array Value) (w : World) (g : Nat) (t : TypeId) (cs : Array Value) (fr : Nat × Nat) (d : TypeDesc) (x : Value)
    (hp : tmps.getD p undef = .pointer (some ⟨g, 0, none⟩)) (hx : tmps.getD u undef = x) (hg : w.heap[g]? = some (.cells cs t fr))
    (hu : P.underlying ty = some d) (hd : (match d with | .struct _ | .array _ _ => true | _ => false) = true) (hi : (P.info? ty).map (·.size) = some cs.size) :
    (results fn tmps).run P w = .ok (.tuple #[.agg cs, x]) w := by
  rw [results_cell_tmp h, hp, hx]
  simp [asAddr, run_loadVar_row w g t ty cs fr d hg hu hd hi, Result.andThen]
/-- What comes of a job after a tick. -/
def outW (ts : List Tk) (hm : Bool) (k : Nat) (j : Jb) : Int :=
  if j.work ≤ j.done then 1 else if j.done < budT ts hm k then 0 else if hm = false ∧ (tkAt ts k).hi = true ∧ (tkAt ts k).lo < (tkAt ts k).top then 3 else 2
theorem outW_J {ts : List Tk} {hm : Bool} {k : Nat} {j : Jb} (h : j.done + 1 ≤ j.work) : outW ts hm k { j with done := j.done + 1 } = outJ ts hm k j := by
  unfold outW outJ
  by_cases e : j.done + 1 = j.work
  · rw [if_pos e, if_pos (by show j.work ≤ j.done + 1; omega)]
  · rw [if_neg e, if_neg (by show ¬ j.work ≤ j.done + 1; omega)]
def stayT {α : Type} (o : Int) (a b : α) : α := if o = 0 ∨ o = 3 then a else b
theorem stay_yes {α : Type} {o : Int} (h : o = 0 ∨ o = 3) (a b : α) : stayT o a b = a := if_pos h
theorem stay_no {α : Type} {o : Int} (h : ¬ (o = 0 ∨ o = 3)) (a b : α) : stayT o a b = b := if_neg h
section
variable {w : World} {T G lo hi H W X m : Nat} {S : Nat → Prop} {ts : List Tk} {hm : Bool} {js : Js} {D : Nat → Option Int} {f : Nat → Jc}
theorem TbD.ended (h : TbD w T G lo hi H W X m S ts hm js D f) {k : Nat} {j : Jb} (hj : js k = some j) : Calls Tryz.prog 65 #[.pointer (some ⟨G, k * 11, none⟩)] w fun e w' => e = .returned (.bool (decide (j.work ≤ j.done))) ∧ Below w.heap.size w w' := by
  obtain ⟨_, _, _, _, g2, g3, _⟩ := h.jobAt hj
  exact (tended_any w G (k * 11) j.work j.done g2 g3).mono (fun e w' h => ⟨h.1, by obtain ⟨n, hn⟩ := h.2; rw [hn]; exact below_drewM _ (Below.refl _ _)⟩)
theorem TbD.spent (h : TbD w T G lo hi H W X m S ts hm js D f) {k : Nat} {j : Jb} (hj : js k = some j) : Calls Tryz.prog 66 #[.pointer (some ⟨G, k * 11, none⟩), .bool hm] w fun e w' => e = .returned (.bool (decide (budT ts hm k ≤ j.done))) ∧ Below w.heap.size w w' := by
  obtain ⟨_, _, _, _, _, g3, _⟩ := h.jobAt hj
  obtain ⟨_, _, _, _, _, _, _, _, g9, g10⟩ := h.seatAt (h.ok.lt hj)
  exact (tspent_any w G (k * 11) j.done (tkAt ts k).lo (tkAt ts k).top hm g3 g9 g10).mono (fun e w' h => ⟨h.1, by obtain ⟨n, hn⟩ := h.2; rw [hn]; exact below_drewM _ (Below.refl _ _)⟩)
theorem TbD.rises (h : TbD w T G lo hi H W X m S ts hm js D f) {k : Nat} {j : Jb} (hj : js k = some j) : Calls Tryz.prog 67 #[.pointer (some ⟨G, k * 11, none⟩), .bool hm] w fun e w' => e = .returned (.bool (!hm && ((tkAt ts k).hi && decide ((tkAt ts k).lo < (tkAt ts k).top)))) ∧ Below w.heap.size w w' := by
  obtain ⟨_, _, _, _, _, g5, _, _, g9, g10⟩ := h.seatAt (h.ok.lt hj)
  exact (trises_any w G (k * 11) (tkAt ts k).lo (tkAt ts k).top (tkAt ts k).hi hm g5 g9 g10).mono (fun e w' h => ⟨h.1, by obtain ⟨n, hn⟩ := h.2; rw [hn]; exact below_drewM _ (Below.refl _ _)⟩)
theorem TbD.due (h : TbD w T G lo hi H W X m S ts hm js D f) {k : Nat} {j : Jb} (hj : js k = some j) (b : Bool) : Calls Tryz.prog 46 #[.pointer (some ⟨G, k * 11, none⟩), .bool b] w fun e w' => e = .returned (.int .i64 (dueT ts b k j)) ∧ ∃ n, w' = w.drewN n := by
  obtain ⟨_, _, _, g1, _⟩ := h.jobAt hj
  obtain ⟨_, _, _, _, _, _, g7, g8, _⟩ := h.seatAt (h.ok.lt hj)
  have hb := h.ok.bd k j hj
  have ht := okTk_bd h.tk (h.ok.lt hj)
  exact tdue_any w G (k * 11) j.arr (tkAt ts k).d (tkAt ts k).v b g1 g7 g8 ⟨hb.1, hb.2.1⟩ (by omega) (by omega)
end
set_option maxRecDepth 100000 in
set_option maxHeartbeats 4000000 in
theorem toutcome_any (w : World) (T G lo hi H W X m : Nat) (S : Nat → Prop) (ts : List Tk) (hm : Bool) (js : Js) (D : Nat → Option Int) (f : Nat → Jc) (h : TbD w T G lo hi H W X m S ts hm js D f) (k : Nat) (j : Jb) (hj : js k = some j) :
    Calls Tryz.prog 48 #[.pointer (some ⟨T, 0, none⟩), .int .i64 k] w fun e w' => ∃ m' f', e = .returned (.int .i64 (outW ts hm k j)) ∧ TbD w' T G lo hi H W X m' S ts hm (stayT (outW ts hm k j) js (upd js k none)) (stayT (outW ts hm k j) D (upd D k none)) f' ∧ GrowS S S w w' := by
  have HJ := Lib.hid hj
  have KT : Hid (∀ Y, Below w.heap.size w Y → TbD Y T G lo hi H W X m S ts hm js D f) := Lib.hid (fun Y hY => h.later hY)
  obtain ⟨n, hn⟩ : ∃ n, n = ts.length := ⟨_, rfl⟩
  have d1 : (0 : Int) ≤ (k : Int) := by omega
  have d2 : (k : Int) < (n : Int) := by have := h.ok.lt hj; omega
  have KC : Hid (∀ Y, Below w.heap.size w Y → Y.cell? ⟨T, 0, none⟩ = some (.slice (some ⟨G, 0, none⟩) n n) ∧ Y.cell? ⟨T, 2, none⟩ = some (.bool hm)) := Lib.hid (fun Y hY => by rw [hn]; exact ⟨(h.later hY).c0, (h.later hY).c2⟩)
  obtain ⟨o, ho⟩ : ∃ o, o = outW ts hm k j := ⟨_, rfl⟩
  rw [← ho]
  have HR : Hid (Below w.heap.size w w) := Lib.hid (Below.refl _ _)
  obtain ⟨c0, _⟩ := KC.out w (Below.refl _ _)
  clear h hj hn
  by_cases q1 : j.work ≤ j.done
  · have HE : Hid (decide (j.work ≤ j.done) = true) := Lib.hid (decide_eq_true q1)
    have HO : Hid (o = 1) := Lib.hid (by rw [ho]; unfold outW; rw [if_pos q1])
    clear ho q1
    go_enter Tryz.func48, Tryz.ntmps48
    go_wp2_with (first
      | (go_at_call 65; refine ((KT.out w HR.out).ended HJ.out).mono ?_; rintro e w3 ⟨rfl, hb3⟩; rw [HE.out]; have HB3 := Lib.hid hb3; clear hb3)
      | (go_at_call 68; refine (tleave_any w3 T G lo hi H W X m S ts hm js D f (KT.out w3 HB3.out) k j HJ.out).mono ?_; rintro e w4 ⟨m4, rfl, h4, g4⟩; have H4 := Lib.hid h4; have G4 := Lib.hid g4; clear h4 g4)
      | fail "no arm")
    go_ret
    have ho := HO.out
    subst ho
    exact ⟨m4, _, rfl, by rw [stay_no (by omega), stay_no (by omega)]; exact H4.out, (GrowS.of_below HB3.out).trans G4.out⟩
  · have HE : Hid (decide (j.work ≤ j.done) = false) := Lib.hid (decide_eq_false q1)
    by_cases q2 : j.done < budT ts hm k
    · have HS : Hid (decide (budT ts hm k ≤ j.done) = false) := Lib.hid (decide_eq_false (by omega))
      have HO : Hid (o = 0) := Lib.hid (by rw [ho]; unfold outW; rw [if_neg q1, if_pos q2])
      clear ho q1 q2
      go_enter Tryz.func48, Tryz.ntmps48
      go_wp2_with (first
        | (go_at_call 65; refine ((KT.out w HR.out).ended HJ.out).mono ?_; rintro e w3 ⟨rfl, hb3⟩; rw [HE.out]; obtain ⟨y0, y1⟩ := KC.out w3 hb3; have HB3 := Lib.hid hb3; clear hb3)
        | (go_at_call 66; refine ((KT.out w3 HB3.out).spent HJ.out).mono ?_; rintro e w4 ⟨rfl, hb4⟩; rw [HS.out]; have HB4 := Lib.hid (HB3.out.trans (hb4.mono HB3.out.size)); clear hb4)
        | fail "no arm")
      go_ret
      have ho := HO.out
      subst ho
      exact ⟨m, f, rfl, by rw [stay_yes (by omega), stay_yes (by omega)]; exact KT.out _ HB4.out, GrowS.of_below HB4.out⟩
    · have HS : Hid (decide (budT ts hm k ≤ j.done) = true) := Lib.hid (decide_eq_true (by omega))
      by_cases q3 : hm = false ∧ (tkAt ts k).hi = true ∧ (tkAt ts k).lo < (tkAt ts k).top
      · have HV : Hid ((!hm && ((tkAt ts k).hi && decide ((tkAt ts k).lo < (tkAt ts k).top))) = true) := Lib.hid (by rw [q3.1, q3.2.1, decide_eq_true q3.2.2]; rfl)
        have HO : Hid (o = 3) := Lib.hid (by rw [ho]; unfold outW; rw [if_neg q1, if_neg q2, if_pos q3])
        clear ho q1 q2 q3
        go_enter Tryz.func48, Tryz.ntmps48
        go_wp2_with (first
          | (go_at_call 67; have _z := HB4; refine ((KT.out w4 HB4.out).rises HJ.out).mono ?_; rintro e w5 ⟨rfl, hb5⟩; rw [HV.out]; have HB5 := Lib.hid (HB4.out.trans (hb5.mono HB4.out.size)); clear hb5)
          | (go_at_call 65; refine ((KT.out w HR.out).ended HJ.out).mono ?_; rintro e w3 ⟨rfl, hb3⟩; rw [HE.out]; obtain ⟨y0, y1⟩ := KC.out w3 hb3; have HB3 := Lib.hid hb3; clear hb3)
          | (go_at_call 66; refine ((KT.out w3 HB3.out).spent HJ.out).mono ?_; rintro e w4 ⟨rfl, hb4⟩; rw [HS.out]; have HB4 := Lib.hid (HB3.out.trans (hb4.mono HB3.out.size)); obtain ⟨z0, z1⟩ := KC.out w4 HB4.out; clear hb4)
          | fail "no arm")
        go_ret
        have ho := HO.out
        subst ho
        exact ⟨m, f, rfl, by rw [stay_yes (by omega), stay_yes (by omega)]; exact KT.out _ HB5.out, GrowS.of_below HB5.out⟩
      · have HV : Hid ((!hm && ((tkAt ts k).hi && decide ((tkAt ts k).lo < (tkAt ts k).top))) = false) := Lib.hid (by
          cases hv : (!hm && ((tkAt ts k).hi && decide ((tkAt ts k).lo < (tkAt ts k).top))) with
          | false => rfl
          | true =>
            simp only [Bool.and_eq_true, Bool.not_eq_true', decide_eq_true_eq] at hv
            exact absurd hv q3)
        have HO : Hid (o = 2) := Lib.hid (by rw [ho]; unfold outW; rw [if_neg q1, if_neg q2, if_neg q3])
        clear ho q1 q2 q3
        go_enter Tryz.func48, Tryz.ntmps48
        go_wp2_with (first
          | (go_at_call 67; have _z := HB4; refine ((KT.out w4 HB4.out).rises HJ.out).mono ?_; rintro e w5 ⟨rfl, hb5⟩; rw [HV.out]; have HB5 := Lib.hid (HB4.out.trans (hb5.mono HB4.out.size)); clear hb5)
          | (go_at_call 65; refine ((KT.out w HR.out).ended HJ.out).mono ?_; rintro e w3 ⟨rfl, hb3⟩; rw [HE.out]; obtain ⟨y0, y1⟩ := KC.out w3 hb3; have HB3 := Lib.hid hb3; clear hb3)
          | (go_at_call 66; refine ((KT.out w3 HB3.out).spent HJ.out).mono ?_; rintro e w4 ⟨rfl, hb4⟩; rw [HS.out]; have HB4 := Lib.hid (HB3.out.trans (hb4.mono HB3.out.size)); obtain ⟨z0, z1⟩ := KC.out w4 HB4.out; clear hb4)
          | (go_at_call 68; refine (tleave_any w5 T G lo hi H W X m S ts hm js D f (KT.out w5 HB5.out) k j HJ.out).mono ?_; rintro e w6 ⟨m6, rfl, h6, g6⟩; have H6 := Lib.hid h6; have G6 := Lib.hid g6; clear h6 g6)
          | fail "no arm")
        go_ret
        have ho := HO.out
        subst ho
        exact ⟨m6, _, rfl, by rw [stay_no (by omega), stay_no (by omega)]; exact H6.out, (GrowS.of_below HB5.out).trans G6.out⟩
set_option maxRecDepth 100000 in
set_option maxHeartbeats 4000000 in
theorem thigh_any (w : World) (T : Nat) (S : Nat → Prop) (ts : List Tk) (hm : Bool) (js : Js) (h : TbP T ts hm js w S) :
    Calls Tryz.prog 18 #[.pointer (some ⟨T, 0, none⟩)] w fun e w' => e = .returned (.bool hm) ∧ Below w.heap.size w w' := by
  obtain ⟨_, G, lo, hi, H, W, X, m, f, h⟩ := h
  have c2 := h.c2
  clear h
  go_enter Tryz.func18, Tryz.ntmps18
  go_wp2
  go_ret
  exact ⟨rfl, Below.refl _ _⟩
set_option maxRecDepth 100000 in
set_option maxHeartbeats 4000000 in
theorem tlen_any (w : World) (T : Nat) (S : Nat → Prop) (ts : List Tk) (hm : Bool) (js : Js) (h : TbP T ts hm js w S) :
    Calls Tryz.prog 16 #[.pointer (some ⟨T, 0, none⟩)] w fun e w' => e = .returned (.int .i64 (cntT js ts.length : Nat)) ∧ Below w.heap.size w w' := by
  obtain ⟨_, G, lo, hi, H, W, X, m, f, h⟩ := h
  have c1 := h.c1
  obtain ⟨f', x, hx, _⟩ := h.hp
  have HL := Lib.hid (hlen_any w lo hi H W X ts.length m f' x hx)
  have HC := Lib.hid h.cnt
  clear h hx
  go_enter Tryz.func16, Tryz.ntmps16
  go_wp2_with (go_at_call 40; refine HL.out.mono ?_; rintro e w3 ⟨rfl, hw3⟩; rw [hw3]; clear hw3)
  go_ret
  exact ⟨by rw [← HC.out]; first | done | rfl, Below.refl _ _⟩
set_option maxRecDepth 100000 in
set_option maxHeartbeats 4000000 in
theorem tfirst_any (w : World) (T : Nat) (S : Nat → Prop) (ts : List Tk) (hm : Bool) (js : Js) (h : TbP T ts hm js w S) :
    Calls Tryz.prog 10 #[.pointer (some ⟨T, 0, none⟩)] w fun e w' => e = .returned (.tuple #[.int .i64 (fkV ts hm js), .int .i64 (fdV ts hm js), .bool (foV ts hm js)]) ∧ Below w.heap.size w w' := by
  obtain ⟨ho, G, lo, hi, H, W, X, m, f, h⟩ := h
  have c1 := h.c1
  obtain ⟨R, hR, _⟩ := h.hp.list
  obtain ⟨f', x, hx, hg, hod⟩ := h.hp
  have HF := Lib.hid (hfirst_any w lo hi H W X ts.length m f' x _ R hx hg hod hR)
  have HV : Hid (fstV R = .tuple #[.int .i64 (fkV ts hm js), .int .i64 (fdV ts hm js), .bool (foV ts hm js)]) := Lib.hid (by
    rcases first_rep ho hR with ⟨h1, h2⟩ | ⟨b, d, R', h1, h2, h3⟩
    · subst h1; unfold fkV fdV foV; rw [h2]; rfl
    · subst h1; unfold fkV fdV foV; rw [h2, h3]; rfl)
  clear h hx hg hod hR ho
  go_enter Tryz.func10, Tryz.ntmps10
  go_wp2_with (go_at_call 36; refine HF.out.mono ?_; rintro e w3 ⟨rfl, hb3⟩; rw [HV.out])
  ((try simp only [Exit.inBlock, Exit.then]); refine bodyPost_ret (results_tmp3 rfl _ _ _) rfl ?_)
  exact ⟨rfl, hb3⟩
set_option maxRecDepth 100000 in
set_option maxHeartbeats 4000000 in
theorem tfall_any (w : World) (T : Nat) (S : Nat → Prop) (ts : List Tk) (hm : Bool) (js : Js) (h : TbP T ts hm js w S) :
    Calls Tryz.prog 24 #[.pointer (some ⟨T, 0, none⟩)] w fun e w' => ∃ S', e = .returned (.bool (falV ts hm js)) ∧ TbP T ts (falH ts hm js) js w' S' ∧ GrowS S S' w w' := by
  have HP := Lib.hid h
  have HH := Lib.hid (thigh_any w T S ts hm js h)
  cases hm with
  | false =>
    clear h
    go_enter Tryz.func24, Tryz.ntmps24
    go_wp2_with (go_at_call 18; refine HH.out.mono ?_; rintro e w3 ⟨rfl, hb3⟩)
    go_ret
    exact ⟨S, rfl, (tb_own _ _ _ _).later HP.out hb3, GrowS.of_below hb3⟩
  | true =>
    have KL : Hid (∀ Y, Below w.heap.size w Y → Calls Tryz.prog 16 #[.pointer (some ⟨T, 0, none⟩)] Y fun e w' => e = .returned (.int .i64 (cntT js ts.length : Nat)) ∧ Below Y.heap.size Y w') := Lib.hid (fun Y hY => tlen_any Y T S ts true js ((tb_own _ _ _ _).later HP.out hY))
    obtain ⟨c, hc⟩ : ∃ c, c = cntT js ts.length := ⟨_, rfl⟩
    rw [← hc] at KL
    by_cases h0 : c = 0
    · subst h0
      have HF : Hid (falV ts true js = true ∧ falH ts true js = false) := Lib.hid (by unfold falH; have : falV ts true js = true := (by unfold falV; rw [← hc]; rfl); rw [this]; exact ⟨rfl, rfl⟩)
      obtain ⟨ho, G, lo, hi, H, W, X, m, f, h⟩ := h
      have HJ := Lib.hid (fal_dm ts true js ho HF.out.1)
      have HT := Lib.hid h
      have HO := Lib.hid ho
      clear h ho hc
      go_enter Tryz.func24, Tryz.ntmps24
      go_wp2_with (first
        | (go_at_call 18; refine HH.out.mono ?_; rintro e w3 ⟨rfl, hb3⟩; have HB3 := Lib.hid hb3; clear hb3)
        | (go_at_call 16; refine (KL.out w3 HB3.out).mono ?_; rintro e w4 ⟨rfl, hb4⟩; have HB4 := Lib.hid (HB3.out.trans (hb4.mono HB3.out.size)); have x1 := (HT.out.later HB4.out).box; have y2 : w4.cell? ⟨T, 2, none⟩ = some (.bool true) := cell_in x1 rfl; have f2 := free_in x1 2; clear hb4 x1)
        | fail "no arm")
      go_ret
      obtain ⟨h5, g5⟩ := (HT.out.later HB4.out).mode false
      have hd : dmT ts true js = dmT ts false js := by rw [HJ.out]; rfl
      rw [hd] at h5
      exact ⟨S, by rw [HF.out.1]; first | done | rfl, by rw [HF.out.2]; exact ⟨HO.out, G, lo, hi, H, W, X, m, f, h5⟩, (GrowS.of_below HB4.out).trans g5⟩
    · have t0 : decide (0 < (c : Int)) = true := decide_eq_true (by omega)
      have HF : Hid (falV ts true js = false ∧ falH ts true js = true) := Lib.hid (by unfold falH; have : falV ts true js = false := (by unfold falV; rw [← hc, decide_eq_false h0]; rfl); rw [this]; exact ⟨rfl, rfl⟩)
      clear h hc
      go_enter Tryz.func24, Tryz.ntmps24
      go_wp2_with (first
        | (go_at_call 18; refine HH.out.mono ?_; rintro e w3 ⟨rfl, hb3⟩; have HB3 := Lib.hid hb3; clear hb3)
        | (go_at_call 16; refine (KL.out w3 HB3.out).mono ?_; rintro e w4 ⟨rfl, hb4⟩; have HB4 := Lib.hid (HB3.out.trans (hb4.mono HB3.out.size)); clear hb4)
        | fail "no arm")
      go_ret
      exact ⟨S, by rw [HF.out.1]; first | done | rfl, by rw [HF.out.2]; exact (tb_own _ _ _ _).later HP.out HB4.out, GrowS.of_below HB4.out⟩
end Go.Proofs.YtnenbgdonkgkfaaGreat
