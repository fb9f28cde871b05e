/- The document's table of jobs. -/
import Derived.Test.YtnenbgdonkgkfaaGreatTaskC
import Derived.Test.YtnenbgdonkgkfaaGreatTaskE
import Derived.BigQuiet
import Derived.BigRegion
import Derived.Deep.CutRange
import Derived.Deep.CutBlock
namespace Go.Proofs.YtnenbgdonkgkfaaGreat
open Go.ChangeShapes Go.WideShapes Go.ChangeAt Go.RowKit
set_option linter.unusedVariables false

/-- A job in the document's table: task, and the rest; its row of ops is in W0. -/
structure Rj where
  task : Int
  arr : Int
  work : Int
  done : Int
  ops : Value
/-- The document's table in memory: its box rb, its tasks in R; f: what stands of each job. W0: where the rows of ops lie. -/
structure TrAt (W0 : World) (w : World) (rb : Nat) (R : Nat → Prop) (ts : List Tk) (hm : Bool) (js : Js) (ao : Option Addr) (c : Nat) (f : Nat → Rj) : Prop where
  box : ∃ cur, w.heap[rb]? = some (.cells cur 51 (0, 0)) ∧ cur.size = 38 ∧ cur[0]? = some (.slice ao ts.length c) ∧
    (∀ k, k < 6 → cur[1 + k * 5]? = some (.int .i64 (f k).task) ∧ cur[1 + k * 5 + 1]? = some (.int .i64 (f k).arr) ∧ cur[1 + k * 5 + 2]? = some (.int .i64 (f k).work) ∧ cur[1 + k * 5 + 3]? = some (.int .i64 (f k).done) ∧ cur[1 + k * 5 + 4]? = some (f k).ops) ∧
    (∀ k, k < 6 → cur[31 + k]? = some (.bool (hasJ js k))) ∧ cur[37]? = some (.bool hm)
  rt : RowR w rb R 54 6 ao ts.length c (ts.flatMap Tk.cells)
  own : R rb
  lt : ∀ k, R k → k < w.heap.size
  n6 : ts.length ≤ 6
  ok : JsOk ts js
  tk : ∀ x ∈ ts, okTk x = true
  jb : ∀ k j, js k = some j → f k = ⟨k, j.arr, j.work, j.done, (f k).ops⟩ ∧ Lies W0 0 W0.heap.size (f k).ops j.ops.length 3 (j.ops.flatMap Wn.cells)
def TrG (W0 : World) (rb : Nat) (ts : List Tk) (hm : Bool) (js : Js) (w : World) (R : Nat → Prop) : Prop := ∃ ao c f, TrAt W0 w rb R ts hm js ao c f
section
variable {W0 w w' : World} {rb : Nat} {R : Nat → Prop} {ts : List Tk} {hm : Bool} {js : Js} {ao : Option Addr} {c : Nat} {f : Nat → Rj}
theorem TrAt.keep (h : TrAt W0 w rb R ts hm js ao c f) (hs : ∀ k, R k → w'.heap[k]? = w.heap[k]?) (hz : w.heap.size ≤ w'.heap.size) : TrAt W0 w' rb R ts hm js ao c f := by
  obtain ⟨cur, h1, h2⟩ := h.box
  exact ⟨⟨cur, (hs rb h.own).trans h1, h2⟩, h.rt.keep (fun k hk _ => hs k hk) hz (fun _ h => h), h.own, fun k hk => Nat.lt_of_lt_of_le (h.lt k hk) hz, h.n6, h.ok, h.tk, h.jb⟩
theorem TrAt.later (h : TrAt W0 w rb R ts hm js ao c f) (hb : Below w.heap.size w w') : TrAt W0 w' rb R ts hm js ao c f := h.keep (fun k hk => hb.block k (h.lt k hk)) hb.size
theorem tr_own (W0 : World) (rb : Nat) (ts : List Tk) (hm : Bool) (js : Js) : OwnP (TrG W0 rb ts hm js) := ⟨fun ⟨ao, c, f, h⟩ hs hz => ⟨ao, c, f, h.keep hs hz⟩, fun ⟨_, _, _, h⟩ => h.lt⟩
theorem TrAt.c0 (h : TrAt W0 w rb R ts hm js ao c f) : w.cell? ⟨rb, 0, none⟩ = some (.slice ao ts.length c) := by obtain ⟨cur, h1, _, h3, _⟩ := h.box; exact cell_in h1 h3
theorem TrAt.c37 (h : TrAt W0 w rb R ts hm js ao c f) : w.cell? ⟨rb, 37, none⟩ = some (.bool hm) := by obtain ⟨cur, h1, _, _, _, _, h3⟩ := h.box; exact cell_in h1 h3
theorem TrAt.fz (h : TrAt W0 w rb R ts hm js ao c f) (j : Nat) : w.frozen? ⟨rb, j, none⟩ = false := by obtain ⟨cur, h1, _⟩ := h.box; exact free_in h1 _
theorem TrAt.is (h : TrAt W0 w rb R ts hm js ao c f) {k : Nat} (hk : k < 6) : w.cell? ⟨rb, 31 + k, none⟩ = some (.bool (hasJ js k)) := by obtain ⟨cur, h1, _, _, _, h3, _⟩ := h.box; exact cell_in h1 (h3 k hk)
theorem TrAt.j (h : TrAt W0 w rb R ts hm js ao c f) {k : Nat} (hk : k < 6) : w.cell? ⟨rb, 1 + k * 5, none⟩ = some (.int .i64 (f k).task) ∧ w.cell? ⟨rb, 1 + k * 5 + 1, none⟩ = some (.int .i64 (f k).arr) ∧ w.cell? ⟨rb, 1 + k * 5 + 2, none⟩ = some (.int .i64 (f k).work) ∧ w.cell? ⟨rb, 1 + k * 5 + 3, none⟩ = some (.int .i64 (f k).done) ∧ w.cell? ⟨rb, 1 + k * 5 + 4, none⟩ = some (f k).ops := by
  obtain ⟨cur, h1, _, _, h3, _⟩ := h.box
  obtain ⟨a, b, c, d, e⟩ := h3 k hk
  exact ⟨cell_in h1 a, cell_in h1 b, cell_in h1 c, cell_in h1 d, cell_in h1 e⟩
theorem TrAt.jobAt (h : TrAt W0 w rb R ts hm js ao c f) {k : Nat} {j : Jb} (hj : js k = some j) : ∃ oa oc, w.cell? ⟨rb, 1 + k * 5, none⟩ = some (.int .i64 k) ∧ w.cell? ⟨rb, 1 + k * 5 + 1, none⟩ = some (.int .i64 j.arr) ∧ w.cell? ⟨rb, 1 + k * 5 + 2, none⟩ = some (.int .i64 j.work) ∧ w.cell? ⟨rb, 1 + k * 5 + 3, none⟩ = some (.int .i64 j.done) ∧ w.cell? ⟨rb, 1 + k * 5 + 4, none⟩ = some (.slice oa j.ops.length oc) ∧ Lies W0 0 W0.heap.size (.slice oa j.ops.length oc) j.ops.length 3 (j.ops.flatMap Wn.cells) ∧ (f k).ops = .slice oa j.ops.length oc := by
  have hk : k < 6 := by have := h.ok.lt hj; have := h.n6; omega
  obtain ⟨a0, a1, a2, a3, a4⟩ := h.j hk
  obtain ⟨e, hl⟩ := h.jb k j hj
  obtain ⟨oa, oc, eo, _⟩ := id hl
  rw [e] at a0 a1 a2 a3
  rw [eo] at a4 hl
  exact ⟨oa, oc, a0, a1, a2, a3, a4, hl, eo⟩
/-- A task's fields. -/
theorem TrAt.tkc (h : TrAt W0 w rb R ts hm js ao c f) {i : Nat} (hi : i < ts.length) : ∃ b, ao = some ⟨b, 0, none⟩ ∧ b ≠ rb ∧ w.cell? ⟨b, i * 6, none⟩ = some (.bool (tkAt ts i).hi) ∧ w.cell? ⟨b, i * 6 + 2, none⟩ = some (.int .i64 (tkAt ts i).d) ∧ w.cell? ⟨b, i * 6 + 3, none⟩ = some (.int .i64 (tkAt ts i).v) ∧ w.cell? ⟨b, i * 6 + 4, none⟩ = some (.int .i64 (tkAt ts i).lo) ∧ w.cell? ⟨b, i * 6 + 5, none⟩ = some (.int .i64 (tkAt ts i).top) := by
  rcases h.rt.1.2 with ⟨h1, h2⟩ | ⟨g, cap', cur, hv, hb, hg, h1, h2, h3, h4⟩
  · exfalso; injection h1 with _ e2 _; omega
  · cases hv
    have hx : ts[i]? = some (tkAt ts i) := by rw [List.getElem?_eq_getElem hi, tkAt_eq hi]
    have hln := h.rt.1.1
    have key : ∀ r u, r < 6 → (Tk.cells (tkAt ts i))[r]? = some u → w.cell? ⟨g, i * 6 + r, none⟩ = some u := fun r u hr hu => by
      have f0 := flat_at Tk.cells 6 (fun _ => rfl) ts i r _ hx hr
      rw [← h4, List.getElem?_take_of_lt (by omega)] at f0
      exact cell_in hg (by rw [← hu, ← f0]; simp)
    exact ⟨g, rfl, (h.rt.2 g rfl).2, key 0 _ (by omega) rfl, key 2 _ (by omega) rfl, key 3 _ (by omega) rfl, key 4 _ (by omega) rfl, key 5 _ (by omega) rfl⟩
/-- A cell of the box is another one. -/
theorem TrAt.put (h : TrAt W0 w rb R ts hm js ao c f) (hB : But rb w w') {hm' : Bool} {js' : Js} {f' : Nat → Rj} (hx : ∃ cur, w'.heap[rb]? = some (.cells cur 51 (0, 0)) ∧ cur.size = 38 ∧ cur[0]? = some (.slice ao ts.length c) ∧
    (∀ k, k < 6 → cur[1 + k * 5]? = some (.int .i64 (f' k).task) ∧ cur[1 + k * 5 + 1]? = some (.int .i64 (f' k).arr) ∧ cur[1 + k * 5 + 2]? = some (.int .i64 (f' k).work) ∧ cur[1 + k * 5 + 3]? = some (.int .i64 (f' k).done) ∧ cur[1 + k * 5 + 4]? = some (f' k).ops) ∧
    (∀ k, k < 6 → cur[31 + k]? = some (.bool (hasJ js' k))) ∧ cur[37]? = some (.bool hm')) (ho : JsOk ts js')
    (hj : ∀ k j, js' k = some j → f' k = ⟨k, j.arr, j.work, j.done, (f' k).ops⟩ ∧ Lies W0 0 W0.heap.size (f' k).ops j.ops.length 3 (j.ops.flatMap Wn.cells)) : TrAt W0 w' rb R ts hm' js' ao c f' ∧ GrowS R R w w' :=
  ⟨⟨hx, h.rt.keep (fun k hk hne => hB.block k (h.lt k hk) hne) hB.size (fun _ h => h), h.own, fun k hk => Nat.lt_of_lt_of_le (h.lt k hk) hB.size, h.n6, ho, h.tk, hj⟩, ⟨hB.os, hB.tape, hB.output, hB.size, fun k hk hR => hB.block k hk (fun e => hR (e ▸ h.own)), fun k hk => .inl hk⟩⟩
theorem TrAt.setH (h : TrAt W0 w rb R ts hm js ao c f) (b : Bool) : TrAt W0 (w.setCell ⟨rb, 37, none⟩ (.bool b)) rb R ts b js ao c f ∧ GrowS R R w (w.setCell ⟨rb, 37, none⟩ (.bool b)) := by
  obtain ⟨cur, h1, h2, h3, h4, h5, h6⟩ := h.box
  refine h.put ((But.refl rb w).set 37 _) ⟨_, set_at h1, by simp [h2], ?_, fun k hk => ?_, fun k hk => ?_, ?_⟩ h.ok h.jb
  · rw [Array.getElem?_setIfInBounds, if_neg (by omega)]; exact h3
  · obtain ⟨a, b, c, d, e⟩ := h4 k hk
    exact ⟨by rw [Array.getElem?_setIfInBounds, if_neg (by omega)]; exact a, by rw [Array.getElem?_setIfInBounds, if_neg (by omega)]; exact b, by rw [Array.getElem?_setIfInBounds, if_neg (by omega)]; exact c, by rw [Array.getElem?_setIfInBounds, if_neg (by omega)]; exact d, by rw [Array.getElem?_setIfInBounds, if_neg (by omega)]; exact e⟩
  · rw [Array.getElem?_setIfInBounds, if_neg (by omega)]; exact h5 k hk
  · rw [Array.getElem?_setIfInBounds, if_pos rfl, if_pos (by omega)]
/-- Whether there is a job: another answer. -/
theorem box_is {cur : Array Value} {q : Nat} (hq : q < 6) (h2 : cur.size = 38) {g : Nat → Bool} (h5 : ∀ k, k < 6 → cur[31 + k]? = some (.bool (g k))) (b : Bool) : ∀ k, k < 6 → (cur.setIfInBounds (31 + q) (.bool b))[31 + k]? = some (.bool (if k = q then b else g k)) := fun k hk => by
  rw [Array.getElem?_setIfInBounds]
  by_cases e : k = q
  · subst e; rw [if_pos rfl, if_pos (by omega), if_pos rfl]
  · rw [if_neg (by omega), if_neg e]; exact h5 k hk
theorem TrAt.gone (h : TrAt W0 w rb R ts hm js ao c f) {q : Nat} (hq : q < 6) : TrAt W0 (w.setCell ⟨rb, 31 + q, none⟩ (.bool false)) rb R ts hm (upd js q none) ao c f ∧ GrowS R R w (w.setCell ⟨rb, 31 + q, none⟩ (.bool false)) := by
  obtain ⟨cur, h1, h2, h3, h4, h5, h6⟩ := h.box
  refine h.put ((But.refl rb w).set _ _) ⟨_, set_at h1, by simp [h2], ?_, fun k hk => ?_, fun k hk => ?_, ?_⟩ (h.ok.rem q) (fun k j hj => ?_)
  · rw [Array.getElem?_setIfInBounds, if_neg (by omega)]; exact h3
  · obtain ⟨a, b, c, d, e⟩ := h4 k hk
    exact ⟨by rw [Array.getElem?_setIfInBounds, if_neg (by omega)]; exact a, by rw [Array.getElem?_setIfInBounds, if_neg (by omega)]; exact b, by rw [Array.getElem?_setIfInBounds, if_neg (by omega)]; exact c, by rw [Array.getElem?_setIfInBounds, if_neg (by omega)]; exact d, by rw [Array.getElem?_setIfInBounds, if_neg (by omega)]; exact e⟩
  · rw [box_is hq h2 h5 false k hk]
    by_cases e : k = q
    · subst e; rw [if_pos rfl, hasJ_none (upd_at _ _ _)]
    · rw [if_neg e, hasJ_ne js _ e]
  · rw [Array.getElem?_setIfInBounds, if_neg (by omega)]; exact h6
  · by_cases e : k = q
    · subst e; rw [upd_at] at hj; cases hj
    · rw [upd_ne _ _ e] at hj; exact h.jb k j hj
end
theorem below_drewR {B : Nat} {a w : World} (d : Nat) (h : Below B a w) : Below B a (w.drewN d) := ⟨h.os, h.tape, h.output, h.size, h.block⟩
theorem ok_bd19 {ts : List Tk} (h : ∀ x ∈ ts, okTk x = true) {k : Nat} (hk : k < ts.length) : 1 ≤ (tkAt ts k).lo ∧ (tkAt ts k).lo ≤ (tkAt ts k).v ∧ (tkAt ts k).v ≤ (tkAt ts k).d ∧ (tkAt ts k).d ≤ 1000 ∧ (tkAt ts k).top ≤ (tkAt ts k).d := by
  have := h (tkAt ts k) (by rw [tkAt_eq hk]; exact List.getElem_mem hk)
  unfold okTk at this
  obtain ⟨a, b, c, d, e, f, g, h⟩ := of_decide_eq_true this
  exact ⟨a, b, c, by omega, g⟩
set_option maxRecDepth 100000 in
set_option maxHeartbeats 4000000 in
theorem rdueT_any (W0 w : World) (rb : Nat) (R : Nat → Prop) (ts : List Tk) (hm : Bool) (js : Js) (ao : Option Addr) (c : Nat) (f : Nat → Rj) (h : TrAt W0 w rb R ts hm js ao c f) (k : Nat) (j : Jb) (hj : js k = some j) :
    Calls Tryz.prog 37 #[.pointer (some ⟨rb, 0, none⟩), .int .i64 k] w fun e w' => e = .returned (.int .i64 (dueT ts hm k j)) ∧ Below w.heap.size w w' := by
  have hk := h.ok.lt hj
  obtain ⟨oa, oc, _, a1, _⟩ := h.jobAt hj
  obtain ⟨b, rfl, _, _, t2, t3, _⟩ := h.tkc hk
  have c0 := h.c0
  have c37 := h.c37
  have hb := h.ok.bd k j hj
  have ht := ok_bd19 h.tk hk
  have e0 : (0 : Int) ≤ (k : Int) := by omega
  have e1 : (k : Int) < 6 := by have := h.n6; omega
  obtain ⟨n, hn⟩ : ∃ n, n = ts.length := ⟨_, rfl⟩
  rw [← hn] at c0
  have e2 : (k : Int) < (n : Int) := by omega
  obtain ⟨d, hd⟩ : ∃ d, d = (tkAt ts k).d := ⟨_, rfl⟩
  obtain ⟨v, hv⟩ : ∃ v, v = (tkAt ts k).v := ⟨_, rfl⟩
  rw [← hd] at t2
  rw [← hv] at t3
  obtain ⟨arr, harr⟩ : ∃ arr, arr = j.arr := ⟨_, rfl⟩
  rw [← harr] at a1
  have w1 : IntKind.i64.wrap (arr + d) = arr + d := IntWalk.i64_in _ (by omega)
  have w2 : IntKind.i64.wrap (arr + v) = arr + v := IntWalk.i64_in _ (by omega)
  have HDU : Hid (dueT ts hm k j = arr + (if hm = true then d else v)) := Lib.hid (by unfold dueT; rw [harr, hd, hv])
  clear h hb ht hj hk hn hd hv harr
  rw [HDU.out]
  cases hm with
  | true =>
    go_enter Tryz.func37, Tryz.ntmps37
    go_wp2_with fail
    go_quiet (fail)
    go_wp2_with fail
    go_ret
    exact ⟨rfl, by repeat first | exact Below.refl _ _ | refine Below.drew ?_ | refine below_drewR _ ?_⟩
  | false =>
    go_enter Tryz.func37, Tryz.ntmps37
    go_wp2_with fail
    go_quiet (fail)
    go_wp2_with fail
    go_ret
    exact ⟨rfl, by repeat first | exact Below.refl _ _ | refine Below.drew ?_ | refine below_drewR _ ?_⟩
end Go.Proofs.YtnenbgdonkgkfaaGreat
