/- TasksBudgets, out of the contracts. -/
import Derived.Test.YtnenbgdonkgkfaaTaskK
import Derived.Deep.CutRange
import Derived.Deep.CutBlock
namespace Go.Proofs.Ytnenbgdonkgkfaa
open Go.ChangeShapes Go.WideShapes Go.ChangeAt Go.RowKit
set_option linter.unusedVariables false

/-- One thing in blocks of its own, made behind w. -/
structure One (w wx : World) (P : World → (Nat → Prop) → Prop) (S : Nat → Prop) : Prop where
  h : P wx S
  oh : OwnP P
  sb : ∀ k, S k → w.heap.size ≤ k
  b : Below w.heap.size w wx
section
variable {w wx Y : World} {P P' : World → (Nat → Prop) → Prop} {S S' : Nat → Prop}
theorem One.later (t : One w wx P S) (hb : Below wx.heap.size wx Y) : One w Y P S := ⟨t.oh.later t.h hb, t.oh, t.sb, t.b.trans (hb.mono t.b.size)⟩
theorem One.prog (t : One w wx P S) (h : P' Y S') (g : GrowS S S' wx Y) (o : OwnP P') : One w Y P' S' := ⟨h, o, (g.step t.b t.sb).2, (g.step t.b t.sb).1⟩
theorem One.but {Q : Nat} (t : One w wx P S) (h : But Q wx Y) (hQ : ¬ S Q) (hw : w.heap.size ≤ Q) : One w Y P S := ⟨t.oh.keep t.h (fun k hk => h.block k (t.oh.lt t.h k hk) (fun e => hQ (e ▸ hk))) h.size, t.oh, t.sb, t.b.trans (h.below hw t.b.size)⟩
end
theorem below_drewB {B : Nat} {a w : World} (d : Nat) (h : Below B a w) : Below B a (w.drewN d) := ⟨h.os, h.tape, h.output, h.size, h.block⟩
/-- How many ticks each got. -/
def GotAt (w : World) (Q : Nat) (S : Nat → Prop) (g : Nat → Int) : Prop := (∃ cur, w.heap[Q]? = some (.cells cur 28 (0, 0)) ∧ cur.size = 6 ∧ ∀ i, i < 6 → cur[i]? = some (.int .i64 (g i))) ∧ ¬ S Q
section
variable {w w' : World} {Q : Nat} {S S' : Nat → Prop} {g : Nat → Int}
theorem GotAt.lt (h : GotAt w Q S g) : Q < w.heap.size := by obtain ⟨⟨cur, h1, _⟩, _⟩ := h; exact lt_of_block h1
theorem GotAt.later (h : GotAt w Q S g) (hb : Below w.heap.size w w') : GotAt w' Q S g := by
  obtain ⟨⟨cur, h1, h2⟩, h3⟩ := h
  exact ⟨⟨cur, (hb.block Q (lt_of_block h1)).trans h1, h2⟩, h3⟩
theorem GotAt.prog (h : GotAt w Q S g) (hg : GrowS S S' w w') : GotAt w' Q S' g := by
  have hl := h.lt
  obtain ⟨⟨cur, h1, h2⟩, h3⟩ := h
  exact ⟨⟨cur, (hg.block Q hl h3).trans h1, h2⟩, hg.not hl h3⟩
theorem GotAt.at_ (h : GotAt w Q S g) {i : Nat} (hi : i < 6) : w.cell? ⟨Q, i, none⟩ = some (.int .i64 (g i)) ∧ w.frozen? ⟨Q, i, none⟩ = false := by
  obtain ⟨⟨cur, h1, _, h3⟩, _⟩ := h
  exact ⟨cell_in h1 (h3 i hi), free_in h1 _⟩
theorem GotAt.set (h : GotAt w Q S g) {i : Nat} (hi : i < 6) (v : Int) : GotAt (w.setCell ⟨Q, i, none⟩ (.int .i64 v)) Q S (upd g i v) := by
  obtain ⟨⟨cur, h1, h2, h3⟩, h4⟩ := h
  refine ⟨⟨_, set_at h1, by simp [h2], fun k hk => ?_⟩, h4⟩
  rw [Array.getElem?_setIfInBounds]
  by_cases e : k = i
  · subst e; rw [upd_at, if_pos rfl, if_pos (by omega)]
  · rw [upd_ne _ _ e, if_neg (fun e' => e e'.symm)]; exact h3 k hk
end
/-- What each job got is what is done of it, and less than its budget. -/
def BudOk (ts : List Tk) (hm : Bool) (js : Js) (g : Nat → Int) : Prop := ∀ k j, js k = some j → g k = j.done ∧ j.done < budT ts hm k
theorem tk_bd {ts : List Tk} (h : ∀ x ∈ ts, okTk x = true) {k : Nat} (hk : k < ts.length) : 1 ≤ (tkAt ts k).lo ∧ (tkAt ts k).lo ≤ (tkAt ts k).top := by
  have := h (tkAt ts k) (by rw [tkAt_eq hk]; exact List.getElem_mem hk)
  unfold okTk at this
  obtain ⟨a, b, c, d, e, f, g, h⟩ := of_decide_eq_true this
  exact ⟨a, f⟩
theorem bud_pos {ts : List Tk} (h : ∀ x ∈ ts, okTk x = true) {k : Nat} (hk : k < ts.length) (hm : Bool) : 0 < budT ts hm k ∧ budT ts hm k ≤ budT ts true k := by
  have := tk_bd h hk
  unfold budT
  cases hm <;> simp <;> omega
theorem BudOk.put {ts : List Tk} {hm : Bool} {js : Js} {g : Nat → Int} (h : BudOk ts hm js g) (hk : ∀ x ∈ ts, okTk x = true) {t : Nat} (ht : t < ts.length) (arr work : Int) (ops : List Wn) : BudOk ts hm (upd js t (some ⟨arr, work, 0, ops⟩)) (upd g t 0) := by
  intro k j e
  by_cases c : k = t
  · subst c; rw [upd_at] at e; cases e; rw [upd_at]; exact ⟨rfl, (bud_pos hk ht hm).1⟩
  · rw [upd_ne _ _ c] at e ⊢; exact h k j e
theorem BudOk.rise {ts : List Tk} {hm : Bool} {js : Js} {g : Nat → Int} (h : BudOk ts hm js g) (ho : JsOk ts js) (hk : ∀ x ∈ ts, okTk x = true) : BudOk ts true (riseT ts js) g := by
  intro k j e
  have h1 := (rem_sub e).1
  obtain ⟨g1, g2⟩ := h k j h1
  have := (bud_pos hk (ho.lt h1) hm).2
  exact ⟨g1, by omega⟩
theorem BudOk.fall {ts : List Tk} {hm : Bool} {js : Js} {g : Nat → Int} (h : BudOk ts hm js g) (ho : JsOk ts js) : BudOk ts (falH ts hm js) js g := by
  cases hf : falV ts hm js with
  | true =>
    intro k j e
    rw [fal_dm ts hm js ho hf] at e
    cases e
  | false =>
    have : falH ts hm js = hm := by unfold falH; rw [hf]; cases hm <;> rfl
    rw [this]; exact h
theorem BudOk.miss {ts : List Tk} {hm : Bool} {js : Js} {g : Nat → Int} (h : BudOk ts hm js g) (now : Int) : BudOk ts hm (misT ts js now) g := fun k j e => h k j (rem_sub e).1
/-- A tick of a job: what it answers, what it leaves. -/
theorem BudOk.run {ts : List Tk} {hm : Bool} {js : Js} {g : Nat → Int} (h : BudOk ts hm js g) (ho : JsOk ts js) (hk : ∀ x ∈ ts, okTk x = true) {k : Nat} {j : Jb} (hj : js k = some j) :
    g k + 1 = j.done + 1 ∧ j.done + 1 ≤ budT ts hm k ∧ (outT ts hm js k = 1 ↔ g k + 1 = j.work) ∧ (outT ts hm js k = 3 → hm = false ∧ (tkAt ts k).hi = true ∧ BudOk ts true (riseT ts (runT ts hm js k)) (upd g k (g k + 1))) ∧ (outT ts hm js k ≠ 3 → BudOk ts hm (runT ts hm js k) (upd g k (g k + 1))) := by
  obtain ⟨g1, g2⟩ := h k j hj
  have hkt := ho.lt hj
  have hb := tk_bd hk hkt
  rw [out_yes hkt hj, run_yes hkt hj, g1]
  have key : ∀ i x, (if outJ ts hm k j = 0 ∨ outJ ts hm k j = 3 then upd js k (some { j with done := j.done + 1 }) else upd js k none) i = some x → (i = k ∧ x = { j with done := j.done + 1 } ∧ (outJ ts hm k j = 0 ∨ outJ ts hm k j = 3)) ∨ (i ≠ k ∧ js i = some x) := fun i x e => by
    split at e
    · rename_i c
      by_cases e1 : i = k
      · subst e1; rw [upd_at] at e; cases e; exact .inl ⟨rfl, rfl, c⟩
      · rw [upd_ne _ _ e1] at e; exact .inr ⟨e1, e⟩
    · by_cases e1 : i = k
      · subst e1; rw [upd_at] at e; cases e
      · rw [upd_ne _ _ e1] at e; exact .inr ⟨e1, e⟩
  refine ⟨rfl, by omega, ?_, fun h3 => ?_, fun h3 => ?_⟩
  · unfold outJ
    by_cases c : j.done + 1 = j.work
    · rw [if_pos c]; exact ⟨fun _ => c, fun _ => rfl⟩
    · rw [if_neg c]
      refine ⟨fun e => ?_, fun e => absurd e c⟩
      split at e
      · omega
      · split at e <;> omega
  · have hc : hm = false ∧ (tkAt ts k).hi = true ∧ (tkAt ts k).lo < (tkAt ts k).top := by
      unfold outJ at h3
      split at h3
      · omega
      · split at h3
        · omega
        · split at h3
          · assumption
          · omega
    refine ⟨hc.1, hc.2.1, fun i x e => ?_⟩
    have e' := (rem_sub e).1
    rcases key i x e' with ⟨rfl, rfl, _⟩ | ⟨e1, e2⟩
    · rw [upd_at]
      refine ⟨rfl, ?_⟩
      show j.done + 1 < budT ts true _
      unfold budT at g2 ⊢
      rw [hc.1] at g2
      simp at g2 ⊢
      omega
    · rw [upd_ne _ _ e1]
      obtain ⟨q1, q2⟩ := h i x e2
      have := (bud_pos hk (ho.lt e2) hm).2
      exact ⟨q1, by omega⟩
  · intro i x e
    rcases key i x e with ⟨rfl, rfl, c⟩ | ⟨e1, e2⟩
    · rw [upd_at]
      refine ⟨rfl, ?_⟩
      show j.done + 1 < budT ts hm _
      rcases c with c | c
      · unfold outJ at c
        split at c
        · omega
        · split at c
          · assumption
          · split at c <;> omega
      · exact absurd c h3
    · rw [upd_ne _ _ e1]
      exact h i x e2
set_option maxRecDepth 100000 in
set_option maxHeartbeats 16000000 in
theorem TasksBudgets_of (O : TasksOk) (a0 : Option Addr) (n0 c0 : Nat) (a1 : Option Addr) (n1 c1 : Nat) (w : World) (ts : List Tk) (l1 : List Ac) (hn0 : ts.length = n0) (hl0 : Lies w 0 w.heap.size (.slice a0 n0 c0) n0 6 (ts.flatMap Tk.cells)) (hi0 : ∀ x ∈ ts, x.In) (hs0 : n0 * 48 ≤ 140737488355328) (hn1 : l1.length = n1) (hl1 : Lies w 0 w.heap.size (.slice a1 n1 c1) n1 7 (l1.flatMap Ac.cells)) (ho1 : ∀ x ∈ l1, x.Ok w) :
    Calls Try.prog 3 #[.slice a0 n0 c0, .slice a1 n1 c1] w fun e w' => e = .returned (.bool true) ∧ Below w.heap.size w w' := by
  have HK := Lib.hid (knows19_of O)
  have HLA : Hid (∀ Y, Below w.heap.size w Y → Calls Try.prog 6 #[.slice a1 n1 c1] Y fun e w' => e = .returned (.bool (lightV l1)) ∧ Below Y.heap.size Y w') := Lib.hid (fun Y hY => light_any Y a1 n1 c1 l1 hn1 ((hl1.keep (SameIn.of_below hY (Nat.le_refl _))).wider (Nat.le_refl _) hY.size) (fun x hx => ((ho1 x hx).keep (SameIn.of_below hY (Nat.le_refl _))).wider (Nat.le_refl _) hY.size))
  have KA := Lib.hid (acts19_read hn1 hl1 ho1)
  have KT := Lib.hid (tks_read hn0 hl0)
  have hown := own19_of O w a0 n0 c0 ts hn0 hl0 hi0 hs0
  have HNN := Lib.hid hn0
  have HN1 := Lib.hid hn1
  clear hl0 hi0 hs0 hl1 ho1
  cases hok : okN ts with
  | false =>
    have HOWN := Lib.hid (hown.mono (fun e w' h => And.intro (h.2.1 hok) h.2.2))
    clear hown hok
    by_cases hbig : 20 < n0
    · have t0 : decide ((20 : Int) < (n0 : Int)) = true := decide_eq_true (by omega)
      clear hbig hn0 hn1
      go_enter Try.func3, Try.ntmps3
      go_wp2_with (first
        | (go_at_call 7; have _z := hb1; refine (HK.out _).mono ?_; rintro e w3 ⟨rfl, b3⟩; have hb3 := Lib.hid (hb1.out.trans (b3.mono hb1.out.size)); clear b3)
        | (go_at_call 5; refine HOWN.out.mono ?_; rintro e w1 ⟨rfl, b1⟩; have hb1 := Lib.hid b1; clear b1)
        | fail "no arm")
      go_ret
      exact ⟨rfl, hb3.out⟩
    · have t0 : decide ((20 : Int) < (n0 : Int)) = false := decide_eq_false (by omega)
      cases hlv : lightV l1 with
      | false =>
        have HLV := Lib.hid hlv
        clear hbig hn0 hn1 hlv
        go_enter Try.func3, Try.ntmps3
        go_wp2_with (first
          | (go_at_call 7; have _z := hb2; refine (HK.out _).mono ?_; rintro e w3 ⟨rfl, b3⟩; have hb3 := Lib.hid (hb2.out.trans (b3.mono hb2.out.size)); clear b3)
          | (go_at_call 6; have _z := hb1; refine (HLA.out _ hb1.out).mono ?_; rintro e w2 ⟨rfl, b2⟩; rw [HLV.out]; have hb2 := Lib.hid (hb1.out.trans (b2.mono hb1.out.size)); clear b2)
          | (go_at_call 5; refine HOWN.out.mono ?_; rintro e w1 ⟨rfl, b1⟩; have hb1 := Lib.hid b1; clear b1)
          | fail "no arm")
        go_ret
        exact ⟨rfl, hb3.out⟩
      | true =>
        have HLV := Lib.hid hlv
        clear hbig hn0 hn1 hlv
        go_enter Try.func3, Try.ntmps3
        go_wp2_with (first
          | (go_at_call 7; have _z := hb2; refine (HK.out _).mono ?_; rintro e w3 ⟨rfl, b3⟩; have hb3 := Lib.hid (hb2.out.trans (b3.mono hb2.out.size)); clear b3)
          | (go_at_call 6; have _z := hb1; refine (HLA.out _ hb1.out).mono ?_; rintro e w2 ⟨rfl, b2⟩; rw [HLV.out]; have hb2 := Lib.hid (hb1.out.trans (b2.mono hb1.out.size)); clear b2)
          | (go_at_call 5; refine HOWN.out.mono ?_; rintro e w1 ⟨rfl, b1⟩; have hb1 := Lib.hid b1; clear b1)
          | fail "no arm")
        go_ret
        exact ⟨rfl, hb3.out⟩
  | true =>
    have HOWN := Lib.hid (hown.mono (fun e w' h => And.intro (h.1 hok) h.2.2))
    have hn6 : n0 ≤ 6 := by
      unfold okN at hok
      rw [Bool.and_eq_true, decide_eq_true_eq] at hok
      omega
    have t0 : decide ((20 : Int) < (n0 : Int)) = false := decide_eq_false (by omega)
    clear hown hok
    cases hlv : lightV l1 with
    | false =>
      have HLV := Lib.hid hlv
      clear hn0 hn1 hlv
      go_enter Try.func3, Try.ntmps3
      go_wp2_with (first
        | (go_at_call 7; have _z := hb2; refine (HK.out _).mono ?_; rintro e w3 ⟨rfl, b3⟩; have hb3 := Lib.hid (hb2.out.trans (b3.mono hb2.out.size)); clear b3)
        | (go_at_call 6; have _z := hb1; refine (HLA.out _ hb1.out).mono ?_; rintro e w2 ⟨rfl, b2⟩; rw [HLV.out]; have hb2 := Lib.hid (hb1.out.trans (b2.mono hb1.out.size)); clear b2)
        | (go_at_call 5; refine HOWN.out.mono ?_; rintro e w1 ⟨⟨H, S, rfl, _, _⟩, b1⟩; have hb1 := Lib.hid b1; clear b1)
        | fail "no arm")
      go_ret
      exact ⟨rfl, hb3.out⟩
    | true =>
      have HLV := Lib.hid hlv
      have HL70 := Lib.hid (light_bd hlv)
      have hs1 : n1 ≤ 120 := by have := HL70.out.1; omega
      clear hn0 hn1 hlv
      go_enter Try.func3, Try.ntmps3
      go_wp2_with (first
        | (go_at_call 7; have _z := hb2; refine (HK.out _).mono ?_; rintro e w3 ⟨rfl, b3⟩; have t3 := Lib.hid ((t1.out.later (hb2'.out.trans (b3.mono hb2'.out.size)))); clear b3)
        | (go_at_call 6; have _z := hb1; refine (HLA.out _ hb1.out).mono ?_; rintro e w2 ⟨rfl, b2⟩; rw [HLV.out]; have hb2' := Lib.hid b2; have hb2 := Lib.hid (hb1.out.trans (b2.mono hb1.out.size)); clear b2)
        | (go_at_call 5; refine HOWN.out.mono ?_; rintro e w1 ⟨⟨H, S1, rfl, h1', s1'⟩, b1⟩; have hb1 := Lib.hid b1; have t1 : Hid (One w w1 (O.Tb H ts false (fun _ => none)) S1) := Lib.hid ⟨h1', O.own _ _ _ _, s1', b1⟩; clear b1 h1' s1')
        | fail "no arm")
      obtain ⟨Q, hQ⟩ : ∃ Q, Q = w3.heap.size := ⟨_, rfl⟩
      obtain ⟨X3, hX3⟩ : ∃ X3, X3 = w3.alloc (.cells #[.int .i64 0, .int .i64 0, .int .i64 0, .int .i64 0, .int .i64 0, .int .i64 0] 28) := ⟨_, rfl⟩
      rw [← hQ, ← hX3]
      have HBX : Hid (Below w3.heap.size w3 X3) := Lib.hid (by rw [hX3]; exact below1 _ _)
      have HT0 : Hid (One w X3 (O.Tb H ts false (fun _ => none)) S1) := Lib.hid (t3.out.later HBX.out)
      have HG0 : Hid (GotAt X3 Q S1 (fun _ => 0)) := Lib.hid ⟨⟨_, by rw [hX3, hQ]; exact heap_alloc_new _ _, rfl, fun i hi => by
        match i, hi with
        | 0, _ => rfl
        | 1, _ => rfl
        | 2, _ => rfl
        | 3, _ => rfl
        | 4, _ => rfl
        | 5, _ => rfl⟩, fun hs => by have := t3.out.oh.lt t3.out.h Q hs; omega⟩
      have HQ : Hid (w.heap.size ≤ Q) := Lib.hid (by rw [hQ]; exact t3.out.b.size)
      have HU0 : Hid (BudOk ts false (fun _ => none) (fun _ => 0)) := Lib.hid (fun _ _ h => by cases h)
      clear hQ hX3 HBX t3 hb2 hb2' hb1 t1
      go_loopw [7] (fun s wr => ∃ (k : Nat) (S : Nat → Prop) (hm : Bool) (js : Js) (g : Nat → Int), k ≤ n1 ∧ s = .int .i64 k ∧ Hid (One w wr (O.Tb H ts hm js) S) ∧ Hid (GotAt wr Q S g) ∧ Hid (BudOk ts hm js g)) (fun s _ => n1 - (intOf s).toNat)
      case atStart => exact ⟨0, _, _, _, _, Nat.zero_le _, rfl, HT0, HG0, HU0⟩
      case round =>
        clear HT0 HG0 HU0
        obtain ⟨k, S, hm, js, g, hk, rfl, HT, HG, HU⟩ := hrel
        by_cases hlt : k < n1
        · have d0 : decide ((k : Int) < (n1 : Int)) = true := decide_eq_true (by omega)
          have d1 : (0 : Int) ≤ (k : Int) := by omega
          have d2 : (k : Int) < (n1 : Int) := by omega
          obtain ⟨b, off, oa, oc, ea, ⟨k0, k1, k2, k3, k4, k5, k6⟩, hb, hlo⟩ := KA.out wr HT.out.b k hlt
          have K1 : Hid (∀ Y, Below w.heap.size w Y → Y.cell? ⟨b, off + k * 7 + 2, none⟩ = some (.int .i64 (acAt l1 k).task)) := Lib.hid (fun Y hY => by
            obtain ⟨b', off', _, _, ea', ⟨_, _, y2, _⟩, _⟩ := KA.out Y hY k hlt
            cases ea.symm.trans ea'
            exact y2)
          subst ea
          have HO70 : Hid ((acAt l1 k).ops.length ≤ 70) := Lib.hid (HL70.out.2 k (by have := HN1.out; omega))
          obtain ⟨x, hx⟩ : ∃ x, x = acAt l1 k := ⟨_, rfl⟩
          rw [← hx] at k0 k1 k2 k3 k4 k5 k6 hlo K1 HO70
          obtain ⟨kd, kk, tk, arr, work, done, ov, ops⟩ := x
          dsimp only at k0 k1 k2 k3 k4 k5 k6 hlo K1 HO70
          obtain ⟨m, hm'⟩ : ∃ m, m = ops.length := ⟨_, rfl⟩
          rw [← hm'] at k6 hlo HO70
          have HMO := Lib.hid hm'.symm
          have HLO : Hid (Lies wr 0 wr.heap.size (.slice oa m oc) m 3 (ops.flatMap Wn.cells)) := Lib.hid ((hlo.keep (SameIn.of_below HT.out.b (Nat.le_refl _))).wider (Nat.le_refl _) HT.out.b.size)
          have HBD := Lib.hid (O.bd HT.out.h)
          clear hx hb hlo hm'
          by_cases q01 : kd = 0 ∨ kd = 1
          · by_cases he : errT ts hm js tk arr work done m = 0
            · have z1 := (err_zero he).1.1
              have ht : tk.toNat < ts.length := by obtain ⟨t, rfl, ht⟩ := inT_nat z1; simpa using ht
              have HE := Lib.hid he
              have HPU : Hid (putT ts hm js tk arr work done ops = upd js tk.toNat (some ⟨arr, work, 0, ops⟩)) := Lib.hid (put_yes (by rw [HMO.out]; exact he))
              have HTL := Lib.hid ht
              have e1 : (0 : Int) ≤ tk := by obtain ⟨t, rfl, ht⟩ := inT_nat z1; omega
              have e2 : tk < 6 := by have := HBD.out.1; omega
              have HT6 : Hid (tk.toNat < 6) := Lib.hid (by omega)
              clear z1 he ht
              rcases q01 with rfl | rfl
              · go_wp2_with (first
                  | (go_at_call 8; refine (num19_any _ _).mono ?_; rintro e w20 ⟨rfl, hw20⟩; rw [hw20]; clear hw20)
                  | (go_at_call 9; have _z := t4; refine (O.put _ H S ts hm js tk arr work done ao4 m cap4 ops t4.out.h HMO.out l4.out).mono ?_; rintro e w5 ⟨S5, rfl, h5, g5⟩; rw [HE.out]; rw [HPU.out] at h5; have t5 := Lib.hid (t4.out.prog h5 g5 (O.own _ _ _ _)); have p5 := Lib.hid (p4.out.prog g5); have j2 := K1.out _ t5.out.b; obtain ⟨z5, f5⟩ := p5.out.at_ HT6.out; clear h5 g5)
                  | (go_at_call 10; refine (job_any _ tk arr work done oa m oc ops HMO.out HLO.out (by have := HO70.out; omega)).mono ?_; rintro e w4 ⟨ao4, cap4, rfl, l4', b4⟩; have l4 := Lib.hid (l4'.wider (Nat.zero_le _) (Nat.le_refl _)); have t4 := Lib.hid (HT.out.later b4); have p4 := Lib.hid (HG.out.later b4); clear l4' b4)
                  | fail "no arm")
                have p6 := Lib.hid (p5.out.set HT6.out 0)
                have t6 := Lib.hid (t5.out.but ((But.refl _ _).set tk.toNat (.int .i64 0)) p5.out.2 HQ.out)
                go_roundw
                case rel => exact ⟨k + 1, _, _, _, _, by omega, by go_num, t6, p6, Lib.hid (HU.out.put HBD.out.2.1 HTL.out arr work ops)⟩
                case measure => simp [intOf]; omega
              · go_wp2_with (first
                  | (go_at_call 8; refine (num19_any _ _).mono ?_; rintro e w20 ⟨rfl, hw20⟩; rw [hw20]; clear hw20)
                  | (go_at_call 9; have _z := t4; refine (O.put _ H S ts hm js tk arr work done ao4 m cap4 ops t4.out.h HMO.out l4.out).mono ?_; rintro e w5 ⟨S5, rfl, h5, g5⟩; rw [HE.out]; rw [HPU.out] at h5; have t5 := Lib.hid (t4.out.prog h5 g5 (O.own _ _ _ _)); have p5 := Lib.hid (p4.out.prog g5); have j2 := K1.out _ t5.out.b; obtain ⟨z5, f5⟩ := p5.out.at_ HT6.out; clear h5 g5)
                  | (go_at_call 10; refine (job_any _ tk arr work done oa m oc ops HMO.out HLO.out (by have := HO70.out; omega)).mono ?_; rintro e w4 ⟨ao4, cap4, rfl, l4', b4⟩; have l4 := Lib.hid (l4'.wider (Nat.zero_le _) (Nat.le_refl _)); have t4 := Lib.hid (HT.out.later b4); have p4 := Lib.hid (HG.out.later b4); clear l4' b4)
                  | fail "no arm")
                have p6 := Lib.hid (p5.out.set HT6.out 0)
                have t6 := Lib.hid (t5.out.but ((But.refl _ _).set tk.toNat (.int .i64 0)) p5.out.2 HQ.out)
                go_roundw
                case rel => exact ⟨k + 1, _, _, _, _, by omega, by go_num, t6, p6, Lib.hid (HU.out.put HBD.out.2.1 HTL.out arr work ops)⟩
                case measure => simp [intOf]; omega
            · have HE : Hid ((errT ts hm js tk arr work done m == 0) = false) := Lib.hid (by simpa using he)
              have HPU : Hid (putT ts hm js tk arr work done ops = js) := Lib.hid (put_no (by rw [HMO.out]; exact he))
              obtain ⟨er, her⟩ : ∃ er, er = errT ts hm js tk arr work done m := ⟨_, rfl⟩
              have HER := Lib.hid her
              rw [← her] at HE
              have fe : (er == 0) = false := HE.out
              clear he her
              rcases q01 with rfl | rfl
              · go_wp2_with (first
                  | (go_at_call 8; refine (num19_any _ _).mono ?_; rintro e w20 ⟨rfl, hw20⟩; rw [hw20]; clear hw20)
                  | (go_at_call 9; have _z := t4; refine (O.put _ H S ts hm js tk arr work done ao4 m cap4 ops t4.out.h HMO.out l4.out).mono ?_; rintro e w5 ⟨S5, rfl, h5, g5⟩; rw [← HER.out]; rw [HPU.out] at h5; have t5 := Lib.hid (t4.out.prog h5 g5 (O.own _ _ _ _)); have p5 := Lib.hid (p4.out.prog g5); clear h5 g5)
                  | (go_at_call 10; refine (job_any _ tk arr work done oa m oc ops HMO.out HLO.out (by have := HO70.out; omega)).mono ?_; rintro e w4 ⟨ao4, cap4, rfl, l4', b4⟩; have l4 := Lib.hid (l4'.wider (Nat.zero_le _) (Nat.le_refl _)); have t4 := Lib.hid (HT.out.later b4); have p4 := Lib.hid (HG.out.later b4); clear l4' b4)
                  | fail "no arm")
                go_roundw
                case rel => exact ⟨k + 1, _, _, _, _, by omega, by go_num, t5, p5, HU⟩
                case measure => simp [intOf]; omega
              · go_wp2_with (first
                  | (go_at_call 8; refine (num19_any _ _).mono ?_; rintro e w20 ⟨rfl, hw20⟩; rw [hw20]; clear hw20)
                  | (go_at_call 9; have _z := t4; refine (O.put _ H S ts hm js tk arr work done ao4 m cap4 ops t4.out.h HMO.out l4.out).mono ?_; rintro e w5 ⟨S5, rfl, h5, g5⟩; rw [← HER.out]; rw [HPU.out] at h5; have t5 := Lib.hid (t4.out.prog h5 g5 (O.own _ _ _ _)); have p5 := Lib.hid (p4.out.prog g5); clear h5 g5)
                  | (go_at_call 10; refine (job_any _ tk arr work done oa m oc ops HMO.out HLO.out (by have := HO70.out; omega)).mono ?_; rintro e w4 ⟨ao4, cap4, rfl, l4', b4⟩; have l4 := Lib.hid (l4'.wider (Nat.zero_le _) (Nat.le_refl _)); have t4 := Lib.hid (HT.out.later b4); have p4 := Lib.hid (HG.out.later b4); clear l4' b4)
                  | fail "no arm")
                go_roundw
                case rel => exact ⟨k + 1, _, _, _, _, by omega, by go_num, t5, p5, HU⟩
                case measure => simp [intOf]; omega
          have f0 : (kd == 0) = false := by simp; omega
          have f1 : (kd == 1) = false := by simp; omega
          by_cases q6 : kd = 6
          · subst q6
            go_wp2_with (first
              | (go_at_call 11; refine (O.rise _ H S ts hm js HT.out.h).mono ?_; rintro e w5 ⟨S5, ao5, cap5, rfl, l5, h5, g5⟩; clear l5; have t5 := Lib.hid (HT.out.prog h5 g5 (O.own _ _ _ _)); have p5 := Lib.hid (HG.out.prog g5); clear h5 g5)
              | fail "no arm")
            go_roundw
            case rel => exact ⟨k + 1, _, _, _, g, by omega, by go_num, t5, p5, Lib.hid (HU.out.rise HBD.out.2.2 HBD.out.2.1)⟩
            case measure => simp [intOf]; omega
          have f6 : (kd == 6) = false := by simpa using q6
          by_cases q7 : kd = 7
          · subst q7
            go_wp2_with (first
              | (go_at_call 12; refine (O.fall _ H S ts hm js HT.out.h).mono ?_; rintro e w5 ⟨S5, rfl, h5, g5⟩; have t5 := Lib.hid (HT.out.prog h5 g5 (O.own _ _ _ _)); have p5 := Lib.hid (HG.out.prog g5); clear h5 g5)
              | fail "no arm")
            go_roundw
            case rel => exact ⟨k + 1, _, _, _, g, by omega, by go_num, t5, p5, Lib.hid (HU.out.fall HBD.out.2.2)⟩
            case measure => simp [intOf]; omega
          have f7 : (kd == 7) = false := by simpa using q7
          by_cases q8 : kd = 8
          · subst q8
            go_wp2_with (first
              | (go_at_call 13; refine (O.missed _ H S ts hm js kk HT.out.h).mono ?_; rintro e w5 ⟨S5, ao5, cap5, rfl, l5, h5, g5⟩; clear l5; have t5 := Lib.hid (HT.out.prog h5 g5 (O.own _ _ _ _)); have p5 := Lib.hid (HG.out.prog g5); clear h5 g5)
              | fail "no arm")
            go_roundw
            case rel => exact ⟨k + 1, _, _, _, g, by omega, by go_num, t5, p5, Lib.hid (HU.out.miss kk)⟩
            case measure => simp [intOf]; omega
          have f8 : (kd == 8) = false := by simpa using q8
          clear q01 q6 q7 q8
          cases hfo : foV ts hm js with
          | false =>
            have HF := Lib.hid hfo
            clear hfo
            go_wp2_with (first
              | (go_at_call 14; refine (O.first _ H S ts hm js HT.out.h).mono ?_; rintro e w5 ⟨rfl, b5⟩; rw [HF.out]; have t5 := Lib.hid (HT.out.later b5); have p5 := Lib.hid (HG.out.later b5); clear b5)
              | fail "no arm")
            go_roundw
            case rel => exact ⟨k + 1, S, hm, js, g, by omega, by go_num, t5, p5, HU⟩
            case measure => simp [intOf]; omega
          | true =>
            obtain ⟨q, hq1, hq2, hq3, j, hj⟩ := fo_t hfo
            have HF := Lib.hid (And.intro hfo hq2)
            have HQN := Lib.hid hq3
            obtain ⟨r1, r2, r3, r4, r5⟩ := HU.out.run HBD.out.2.2 HBD.out.2.1 hj
            have hgj := (HU.out q j hj).1
            have hjd := HBD.out.2.2.bd q j hj
            have HGET : Hid (getT ts js (q : Int) = q ∧ getJ ts js (q : Int) = j) := Lib.hid (get_yes hq3 hj)
            have HTHE : Hid (thereT ts js (q : Int) = true) := Lib.hid (there_yes hq3 hj)
            have e1 : (0 : Int) ≤ (q : Int) := by omega
            have e2 : (q : Int) < 6 := by have := HBD.out.1; omega
            have e3 : (q : Int) < (n0 : Int) := by have := HNN.out; omega
            have HQ6 : Hid (q < 6) := Lib.hid (by omega)
            have hqn : q < n0 := by have := HNN.out; omega
            have ew : IntKind.i64.wrap (j.done + 1) = j.done + 1 := IntWalk.i64_in _ (by omega)
            rw [hgj] at r3 r4 r5
            obtain ⟨jd, hjd0⟩ : ∃ jd, jd = j.done := ⟨_, rfl⟩
            obtain ⟨jw, hjw0⟩ : ∃ jw, jw = j.work := ⟨_, rfl⟩
            rw [← hjd0] at r2 r3 r4 r5 ew hgj
            rw [← hjw0] at r3
            obtain ⟨o, ho⟩ : ∃ o, o = outT ts hm js q := ⟨_, rfl⟩
            rw [← ho] at r3 r4 r5
            have HO := Lib.hid ho
            have HJD := Lib.hid (And.intro hjd0 hjw0)
            have R4 := Lib.hid r4
            have R5 := Lib.hid r5
            have HGJ := Lib.hid hgj
            obtain ⟨bt, oft, eat, ⟨y0, y1, y2, y3, y4, y5⟩, yy⟩ := KT.out wr HT.out.b q hqn
            have KTQ : Hid (∀ Y, Below w.heap.size w Y → Y.cell? ⟨bt, oft + q * 6, none⟩ = some (.bool (tkAt ts q).hi) ∧ Y.cell? ⟨bt, oft + q * 6 + 4, none⟩ = some (.int .i64 (tkAt ts q).lo) ∧ Y.cell? ⟨bt, oft + q * 6 + 5, none⟩ = some (.int .i64 (tkAt ts q).top)) := Lib.hid (fun Y hY => by
              obtain ⟨bt', oft', eat', ⟨y0, y1, y2, y3, y4, y5⟩, _⟩ := KT.out Y hY q hqn
              cases eat.symm.trans eat'
              exact ⟨y0, y4, y5⟩)
            subst eat
            obtain ⟨bb, hbb1, hbb2⟩ : ∃ bb : Bool, (o == 1) = bb ∧ (jd + 1 == jw) = bb := ⟨decide (o = 1), by rw [Bool.eq_iff_iff]; simp, by rw [Bool.eq_iff_iff]; simp only [beq_iff_eq, decide_eq_true_eq]; exact r3.symm⟩
            have HBUD : Hid (jd + 1 ≤ budT ts hm q) := Lib.hid r2
            obtain ⟨thi, hthi⟩ : ∃ thi, thi = (tkAt ts q).hi := ⟨_, rfl⟩
            obtain ⟨tlo, htlo⟩ : ∃ tlo, tlo = (tkAt ts q).lo := ⟨_, rfl⟩
            obtain ⟨ttop, httop⟩ : ∃ ttop, ttop = (tkAt ts q).top := ⟨_, rfl⟩
            rw [← hthi, ← htlo, ← httop] at KTQ
            have HTK := Lib.hid (And.intro hthi (And.intro htlo httop))
            clear yy hfo hq1 hq2 hq3 hj r1 r2 r3 r4 r5 hgj hjd hjd0 hjw0 ho y0 y1 y2 y3 y4 y5 hthi htlo httop
            go_upto_region 14 with (first
              | (go_at_call 17; have _z := t7; refine (O.run _ H S ts hm js (q : Int) t7.out.h).mono ?_; rintro e w8 ⟨S8, rfl, h8, g8⟩; rw [← HO.out]; have t8 := Lib.hid (t7.out.prog h8 g8 (O.own _ _ _ _)); have p8 := Lib.hid (p7.out.prog g8); have z8 := Lib.hid (And.intro ((g8.block _ (lt_of_block z7.out) n7.out.1).trans z7.out) (g8.not (lt_of_block z7.out) n7.out.1)); clear h8 g8)
              | (go_at_call 16; have _z := t6; refine (O.get _ H S ts hm js (q : Int) t6.out.h).mono ?_; rintro e w7 ⟨ao7, cap7, rfl, l7, b7⟩; clear l7; rw [HGET.out.1, HGET.out.2, HTHE.out, ← HJD.out.1, ← HJD.out.2]; have t7 := Lib.hid ((t6.out.later b7).later (below1 w7 (.cells #[.int .i64 q, .int .i64 j.arr, .int .i64 jw, .int .i64 jd, .slice ao7 j.ops.length cap7] 39))); have p7 := Lib.hid ((p6.out.later b7).later (below1 w7 (.cells #[.int .i64 q, .int .i64 j.arr, .int .i64 jw, .int .i64 jd, .slice ao7 j.ops.length cap7] 39))); have z7 := Lib.hid (heap_alloc_new w7 (.cells #[.int .i64 q, .int .i64 j.arr, .int .i64 jw, .int .i64 jd, .slice ao7 j.ops.length cap7] 39)); have n7 : Hid (¬ S w7.heap.size ∧ Q < w7.heap.size) := Lib.hid ⟨fun hs => by have := t6.out.oh.lt t6.out.h _ hs; have := b7.size; omega, Nat.lt_of_lt_of_le p6.out.lt b7.size⟩; clear b7)
              | (go_at_call 15; have _z := t5; refine (O.high _ H S ts hm js t5.out.h).mono ?_; rintro e w6 ⟨rfl, b6⟩; have t6 := Lib.hid (t5.out.later b6); have p6 := Lib.hid (p5.out.later b6); clear b6)
              | (go_at_call 14; refine (O.first _ H S ts hm js HT.out.h).mono ?_; rintro e w5 ⟨rfl, b5⟩; rw [HF.out.1, HF.out.2]; have t5 := Lib.hid (HT.out.later b5); have p5 := Lib.hid (HG.out.later b5); clear b5)
              | fail "no arm")
            obtain ⟨X, hX⟩ : ∃ X, X = w8.alloc (.cells #[.int .i64 (opT ts js (q : Int)).at_, .int .i64 (opT ts js (q : Int)).len, .int .i64 (opT ts js (q : Int)).part] 49) := ⟨_, rfl⟩
            rw [← hX]
            obtain ⟨B12, hB12⟩ : ∃ B12, B12 = w7.heap.size := ⟨_, rfl⟩
            rw [← hB12] at z8
            rw [← hB12]
            have hbX : Below w8.heap.size w8 X := by rw [hX]; exact below1 _ _
            have tX := Lib.hid (t8.out.later hbX)
            have pX := Lib.hid (p8.out.later hbX)
            have zX := Lib.hid ((hbX.block B12 (lt_of_block z8.out.1)).trans z8.out.1)
            have hBQ : B12 ≠ Q := by have := n7.out.2; omega
            have HBQ := Lib.hid hBQ
            obtain ⟨g0, g1⟩ := pX.out.at_ HQ6.out
            rw [HGJ.out] at g0
            clear hX hB12 hbX hBQ
            go_upto_region 15 with fail
            obtain ⟨X2, hX2⟩ : ∃ X2, X2 = X.setCell ⟨Q, q, none⟩ (.int .i64 (jd + 1)) := ⟨_, rfl⟩
            rw [← hX2]
            have hBX2 : But Q X X2 := by rw [hX2]; exact (But.refl _ _).set q _
            have t2 := Lib.hid (tX.out.but hBX2 pX.out.2 HQ.out)
            have p2 : Hid (GotAt X2 Q S8 (upd g q (jd + 1))) := Lib.hid (by rw [hX2]; exact pX.out.set HQ6.out (jd + 1))
            have z2 := Lib.hid ((hBX2.block B12 (lt_of_block zX.out) HBQ.out).trans zX.out)
            have KZ : Hid (∀ Y S', GrowS S8 S' X2 Y → (Y.cell? ⟨Q, q, none⟩ = some (.int .i64 (jd + 1))) ∧ Y.cell? ⟨B12, 2, none⟩ = some (.int .i64 jw) ∧ Y.cell? ⟨B12, 3, none⟩ = some (.int .i64 jd)) := Lib.hid (fun Y S' hY => by
              have h1 := ((p2.out.prog hY).at_ HQ6.out).1
              rw [upd_at] at h1
              have h2 := (hY.block B12 (lt_of_block z2.out) z8.out.2).trans z2.out
              exact ⟨h1, cell_in h2 rfl, cell_in h2 rfl⟩)
            obtain ⟨y0, y4, y5⟩ := KTQ.out X2 t2.out.b
            obtain ⟨u0, u1, u2⟩ := KZ.out X2 S8 (GrowS.of_below (Below.refl _ _))
            clear hX2 hBX2 g0 g1 k0 k1 k2 k3 k4 k5 k6
            cases hm with
            | true =>
              have f3 : (o == 3) = false := by
                cases h : (o == 3) with
                | false => rfl
                | true => have := (R4.out (by simpa using h)).1; cases this
              have HU2 := Lib.hid (R5.out (by simpa using f3))
              have dm : decide (ttop < jd + 1) = false := decide_eq_false (by have := HBUD.out; unfold budT at this; rw [if_pos rfl, ← HTK.out.2.2] at this; omega)
              go_wp2_with fail
              go_quiet (fail)
              cases bb with
              | true =>
                go_wp2_with fail
                go_roundw
                case rel => exact ⟨k + 1, S8, true, _, _, by omega, by go_num, Lib.hid (t2.out.later (by repeat first | exact Below.refl _ _ | refine Below.drew ?_ | refine below_drewB _ ?_)), Lib.hid (p2.out.later (by repeat first | exact Below.refl _ _ | refine Below.drew ?_ | refine below_drewB _ ?_)), HU2⟩
                case measure => simp [intOf]; omega
              | false =>
                go_wp2_with fail
                go_roundw
                case rel => exact ⟨k + 1, S8, true, _, _, by omega, by go_num, Lib.hid (t2.out.later (by repeat first | exact Below.refl _ _ | refine Below.drew ?_ | refine below_drewB _ ?_)), Lib.hid (p2.out.later (by repeat first | exact Below.refl _ _ | refine Below.drew ?_ | refine below_drewB _ ?_)), HU2⟩
                case measure => simp [intOf]; omega
            | false =>
              have dm : decide (tlo < jd + 1) = false := decide_eq_false (by have := HBUD.out; unfold budT at this; rw [if_neg (by simp), ← HTK.out.2.1] at this; omega)
              by_cases ho3 : o = 3
              · subst ho3
                have hb0 : bb = false := hbb1.symm
                subst hb0
                obtain ⟨_, x2, x3⟩ := R4.out rfl
                have HU2 := Lib.hid x3
                have hth : thi = true := by rw [HTK.out.1]; exact x2
                subst hth
                clear x2 x3
                go_wp2_with (first
                  | (go_at_call 11; refine (O.rise _ H S8 ts false _ t2.out.h).mono ?_; rintro e w9 ⟨S9, ao9, cap9, rfl, l9, h9, g9⟩; clear l9; have t9 := Lib.hid (t2.out.prog h9 g9 (O.own _ _ _ _)); have p9 := Lib.hid (p2.out.prog g9); obtain ⟨v0, v1, v2⟩ := KZ.out w9 S9 g9; clear h9 g9)
                  | fail "no arm")
                go_quiet (fail)
                go_wp2_with fail
                go_roundw
                case rel => exact ⟨k + 1, S9, true, _, _, by omega, by go_num, Lib.hid (t9.out.later (by repeat first | exact Below.refl _ _ | refine Below.drew ?_ | refine below_drewB _ ?_)), Lib.hid (p9.out.later (by repeat first | exact Below.refl _ _ | refine Below.drew ?_ | refine below_drewB _ ?_)), HU2⟩
                case measure => simp [intOf]; omega
              · have f3 : (o == 3) = false := by simpa using ho3
                have HU2 := Lib.hid (R5.out ho3)
                clear ho3
                go_wp2_with fail
                go_quiet (fail)
                cases bb with
                | true =>
                  go_wp2_with fail
                  go_roundw
                  case rel => exact ⟨k + 1, S8, false, _, _, by omega, by go_num, Lib.hid (t2.out.later (by repeat first | exact Below.refl _ _ | refine Below.drew ?_ | refine below_drewB _ ?_)), Lib.hid (p2.out.later (by repeat first | exact Below.refl _ _ | refine Below.drew ?_ | refine below_drewB _ ?_)), HU2⟩
                  case measure => simp [intOf]; omega
                | false =>
                  go_wp2_with fail
                  go_roundw
                  case rel => exact ⟨k + 1, S8, false, _, _, by omega, by go_num, Lib.hid (t2.out.later (by repeat first | exact Below.refl _ _ | refine Below.drew ?_ | refine below_drewB _ ?_)), Lib.hid (p2.out.later (by repeat first | exact Below.refl _ _ | refine Below.drew ?_ | refine below_drewB _ ?_)), HU2⟩
                  case measure => simp [intOf]; omega
        · have d0 : decide ((k : Int) < (n1 : Int)) = false := decide_eq_false (by omega)
          go_wp2_with fail
          go_ret
          exact ⟨rfl, HT.out.b⟩
end Go.Proofs.Ytnenbgdonkgkfaa
