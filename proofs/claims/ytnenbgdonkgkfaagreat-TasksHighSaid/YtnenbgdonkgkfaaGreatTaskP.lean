/- The program's table of jobs in memory; what its seats tell. -/
import Derived.Test.YtnenbgdonkgkfaaGreatTaskC
import Derived.Test.YtnenbgdonkgkfaaGreatHeapG
import Derived.BigQuiet
import Derived.BigRegion
namespace Go.Proofs.YtnenbgdonkgkfaaGreat
open Go.ChangeShapes Go.WideShapes Go.ChangeAt Go.RowKit
set_option linter.unusedVariables false

/-- A seat's job, as it stands in memory. -/
structure Jc where
  task : Int
  arr : Int
  work : Int
  done : Int
  ops : Value
def Jc.z : Jc := ⟨0, 0, 0, 0, .slice none 0 0⟩
def seatV (f : Nat → Jc) (ts : List Tk) (i r : Nat) : Value :=
  match r with
  | 0 => .int .i64 (f i).task
  | 1 => .int .i64 (f i).arr
  | 2 => .int .i64 (f i).work
  | 3 => .int .i64 (f i).done
  | 4 => (f i).ops
  | 5 => .bool (tkAt ts i).hi
  | 6 => .int .i64 (tkAt ts i).t
  | 7 => .int .i64 (tkAt ts i).d
  | 8 => .int .i64 (tkAt ts i).v
  | 9 => .int .i64 (tkAt ts i).lo
  | _ => .int .i64 (tkAt ts i).top
/-- All cells of a row of seats, by place. -/
def SeatsC (w : World) (G n : Nat) (c : Nat → Nat → Value) : Prop := ∃ cur, w.heap[G]? = some (.cells cur 82 (0, 0)) ∧ cur.size = n * 11 ∧ ∀ i, i < n → ∀ r, r < 11 → cur[i * 11 + r]? = some (c i r)
section
variable {w w' : World} {G n : Nat} {c c' : Nat → Nat → Value}
theorem SeatsC.same (h : SeatsC w G n c) (hs : w'.heap[G]? = w.heap[G]?) : SeatsC w' G n c := by
  obtain ⟨cur, h1, h2⟩ := h
  exact ⟨cur, hs.trans h1, h2⟩
theorem SeatsC.lt (h : SeatsC w G n c) : G < w.heap.size := by obtain ⟨cur, h1, _⟩ := h; exact lt_of_block h1
theorem SeatsC.at_ (h : SeatsC w G n c) {i r : Nat} (hi : i < n) (hr : r < 11) : w.cell? ⟨G, i * 11 + r, none⟩ = some (c i r) := by
  obtain ⟨cur, h1, _, h3⟩ := h
  exact cell_in h1 (h3 i hi r hr)
theorem SeatsC.free (h : SeatsC w G n c) (j : Nat) : w.frozen? ⟨G, j, none⟩ = false := by
  obtain ⟨cur, h1, _⟩ := h
  exact free_in h1 _
theorem SeatsC.set (h : SeatsC w G n c) {k q : Nat} (hk : k < n) (hq : q < 11) (u : Value) : SeatsC (w.setCell ⟨G, k * 11 + q, none⟩ u) G n (fun i r => if i = k ∧ r = q then u else c i r) := by
  obtain ⟨cur, h1, h2, h3⟩ := h
  refine ⟨_, set_at h1, by simp [h2], fun i hi r hr => ?_⟩
  rw [Array.getElem?_setIfInBounds, h2]
  show _ = some (if i = k ∧ r = q then u else c i r)
  by_cases e : i = k ∧ r = q
  · obtain ⟨rfl, rfl⟩ := e
    rw [if_pos rfl, if_pos (by omega), if_pos ⟨rfl, rfl⟩]
  · rw [if_neg (by omega), if_neg e]
    exact h3 i hi r hr
theorem SeatsC.congr (h : SeatsC w G n c) (he : ∀ i, i < n → ∀ r, r < 11 → c i r = c' i r) : SeatsC w G n c' := by
  obtain ⟨cur, h1, h2, h3⟩ := h
  exact ⟨cur, h1, h2, fun i hi r hr => by rw [← he i hi r hr]; exact h3 i hi r hr⟩
end
/-- A table's blocks in memory: D tells when the heap has each due. -/
structure TbD (w : World) (T G lo hi H W X m : Nat) (S : Nat → Prop) (ts : List Tk) (hm : Bool) (js : Js) (D : Nat → Option Int) (f : Nat → Jc) : Prop where
  box : w.heap[T]? = some (.cells #[.slice (some ⟨G, 0, none⟩) ts.length ts.length, .pointer (some ⟨H, 0, none⟩), .bool hm] 78 (0, 0))
  st : SeatsC w G ts.length (seatV f ts)
  hp : HpD w lo hi H W X ts.length m D
  cnt : m = cntT js ts.length
  ok : JsW ts js
  dd : ∀ k, (D k).isSome = hasJ js k
  jb : ∀ k j, js k = some j → f k = ⟨k, j.arr, j.work, j.done, (f k).ops⟩ ∧ ORow w 60 3 (f k).ops j.ops.length (j.ops.flatMap Wn.cells) ∧ ∀ g, (f k).ops.ownBlock = some g → S g ∧ g ≠ T ∧ g ≠ G ∧ ¬ (lo ≤ g ∧ g < hi)
  tg : T ≠ G ∧ ¬ (lo ≤ T ∧ T < hi) ∧ ¬ (lo ≤ G ∧ G < hi)
  own : S T ∧ S G ∧ ∀ k, lo ≤ k → k < hi → S k
  lt : ∀ k, S k → k < w.heap.size
  n6 : ts.length ≤ 6
  tk : ∀ x ∈ ts, okTk x = true
def TbP (T : Nat) (ts : List Tk) (hm : Bool) (js : Js) (w : World) (S : Nat → Prop) : Prop := JsOk ts js ∧ ∃ G lo hi H W X m f, TbD w T G lo hi H W X m S ts hm js (dmT ts hm js) f
section
variable {w w' : World} {T G lo hi H W X m m' : Nat} {S : Nat → Prop} {ts : List Tk} {hm : Bool} {js js' : Js} {D D' : Nat → Option Int} {f : Nat → Jc}
theorem TbD.keep (h : TbD w T G lo hi H W X m S ts hm js D f) (hs : ∀ k, S k → w'.heap[k]? = w.heap[k]?) (hz : w.heap.size ≤ w'.heap.size) : TbD w' T G lo hi H W X m S ts hm js D f :=
  ⟨(hs T h.own.1).trans h.box, h.st.same (hs G h.own.2.1), h.hp.keep (fun k h1 h2 => hs k (h.own.2.2 k h1 h2)) hz, h.cnt, h.ok, h.dd, fun k j hj => ⟨(h.jb k j hj).1, (h.jb k j hj).2.1.hold (fun g hg => hs g ((h.jb k j hj).2.2 g hg).1), (h.jb k j hj).2.2⟩, h.tg, h.own, fun k hk => Nat.lt_of_lt_of_le (h.lt k hk) hz, h.n6, h.tk⟩
theorem TbD.later (h : TbD w T G lo hi H W X m S ts hm js D f) (hb : Below w.heap.size w w') : TbD w' T G lo hi H W X m S ts hm js D f := h.keep (fun k hk => hb.block k (h.lt k hk)) hb.size
theorem TbD.drew (h : TbD w T G lo hi H W X m S ts hm js D f) : TbD w.drew T G lo hi H W X m S ts hm js D f := h.later (Below.refl _ _).drew
theorem TbD.c0 (h : TbD w T G lo hi H W X m S ts hm js D f) : w.cell? ⟨T, 0, none⟩ = some (.slice (some ⟨G, 0, none⟩) ts.length ts.length) := cell_in h.box rfl
theorem TbD.c1 (h : TbD w T G lo hi H W X m S ts hm js D f) : w.cell? ⟨T, 1, none⟩ = some (.pointer (some ⟨H, 0, none⟩)) := cell_in h.box rfl
theorem TbD.c2 (h : TbD w T G lo hi H W X m S ts hm js D f) : w.cell? ⟨T, 2, none⟩ = some (.bool hm) := cell_in h.box rfl
theorem tb_own (T : Nat) (ts : List Tk) (hm : Bool) (js : Js) : OwnP (TbP T ts hm js) :=
  ⟨fun ⟨ho, G, lo, hi, H, W, X, m, f, h⟩ hs hz => ⟨ho, G, lo, hi, H, W, X, m, f, h.keep hs hz⟩, fun ⟨_, _, _, _, _, _, _, _, _, h⟩ => h.lt⟩
theorem tb_bd {w : World} {S : Nat → Prop} (h : TbP T ts hm js w S) : ts.length ≤ 6 ∧ (∀ x ∈ ts, okTk x = true) ∧ JsOk ts js := by
  obtain ⟨ho, _, _, _, _, _, _, _, _, h⟩ := h
  exact ⟨h.n6, h.tk, ho⟩
/-- The heap changed, and some jobs are gone. -/
theorem TbD.heap (h : TbD w T G lo hi H W X m S ts hm js D f) (hp : HpD w' lo hi H W X ts.length m' D') (hM : Mv lo hi w w') (hc : m' = cntT js' ts.length) (hd : ∀ k, (D' k).isSome = hasJ js' k) (hj : ∀ k j, js' k = some j → js k = some j) : TbD w' T G lo hi H W X m' S ts hm js' D' f ∧ GrowS S S w w' := by
  have hz := hM.below.size
  have hk : ∀ k, k < w.heap.size → ¬ (lo ≤ k ∧ k < hi) → w'.heap[k]? = w.heap[k]? := fun k hk hn => by
    rcases Nat.lt_or_ge k lo with g | g
    · exact hM.below.block k g
    · exact hM.above k (by omega) hk
  exact ⟨⟨(hk T (h.lt T h.own.1) h.tg.2.1).trans h.box, h.st.same (hk G (h.lt G h.own.2.1) h.tg.2.2), hp, hc, h.ok.sub hj, hd, fun k j e => ⟨(h.jb k j (hj k j e)).1, (h.jb k j (hj k j e)).2.1.hold (fun g hg => hk g (h.lt g ((h.jb k j (hj k j e)).2.2 g hg).1) ((h.jb k j (hj k j e)).2.2 g hg).2.2.2), (h.jb k j (hj k j e)).2.2⟩, h.tg, h.own, fun k hk => Nat.lt_of_lt_of_le (h.lt k hk) hz, h.n6, h.tk⟩,
    ⟨hM.below.os, hM.below.tape, hM.below.output, hz, fun k h1 h2 => hk k h1 (fun h3 => h2 (h.own.2.2 k h3.1 h3.2)), fun k hk => .inl hk⟩⟩
/-- Only the row of seats changed. -/
theorem TbD.seat (h : TbD w T G lo hi H W X m S ts hm js D f) (hB : But G w w') {f' : Nat → Jc} (hs : SeatsC w' G ts.length (seatV f' ts)) (hc : m = cntT js' ts.length) (ho : JsW ts js') (hd : ∀ k, (D k).isSome = hasJ js' k)
    (hj : ∀ k j, js' k = some j → f' k = ⟨k, j.arr, j.work, j.done, (f' k).ops⟩ ∧ ∃ j0, js k = some j0 ∧ j0.ops = j.ops ∧ (f' k).ops = (f k).ops) : TbD w' T G lo hi H W X m S ts hm js' D f' ∧ GrowS S S w w' := by
  have hz := hB.size
  have hk : ∀ k, k < w.heap.size → k ≠ G → w'.heap[k]? = w.heap[k]? := fun k h1 h2 => hB.block k h1 h2
  refine ⟨⟨(hk T (h.lt T h.own.1) h.tg.1).trans h.box, hs, h.hp.keep (fun k h1 h2 => hk k (h.lt k (h.own.2.2 k h1 h2)) (fun e => h.tg.2.2 (by subst e; exact ⟨h1, h2⟩))) hz, hc, ho, hd, fun k j e => ?_, h.tg, h.own, fun k hk => Nat.lt_of_lt_of_le (h.lt k hk) hz, h.n6, h.tk⟩, ⟨hB.os, hB.tape, hB.output, hz, fun k h1 h2 => hk k h1 (fun e => h2 (e ▸ h.own.2.1)), fun k hk => .inl hk⟩⟩
  obtain ⟨h1, j0, h2, h3, h4⟩ := hj k j e
  obtain ⟨g1, g2, g3⟩ := h.jb k j0 h2
  rw [h3] at g2
  rw [h4]
  exact ⟨by rw [← h4]; exact h1, g2.hold (fun g hg => hk g (h.lt g (g3 g hg).1) (g3 g hg).2.2.1), g3⟩
/-- Only the mode changed. -/
theorem TbD.mode (h : TbD w T G lo hi H W X m S ts hm js D f) (b : Bool) : TbD (w.setCell ⟨T, 2, none⟩ (.bool b)) T G lo hi H W X m S ts b js D f ∧ GrowS S S w (w.setCell ⟨T, 2, none⟩ (.bool b)) := by
  have hB : But T w (w.setCell ⟨T, 2, none⟩ (.bool b)) := (But.refl T w).set 2 _
  have hz := hB.size
  have hk : ∀ k, k < w.heap.size → k ≠ T → (w.setCell ⟨T, 2, none⟩ (.bool b)).heap[k]? = w.heap[k]? := fun k h1 h2 => hB.block k h1 h2
  exact ⟨⟨by rw [set_at h.box]; rfl, h.st.same (hk G (h.lt G h.own.2.1) h.tg.1.symm), h.hp.keep (fun k h1 h2 => hk k (h.lt k (h.own.2.2 k h1 h2)) (fun e => h.tg.2.1 (by subst e; exact ⟨h1, h2⟩))) hz, h.cnt, h.ok, h.dd, fun k j e => ⟨(h.jb k j e).1, (h.jb k j e).2.1.hold (fun g hg => hk g (h.lt g ((h.jb k j e).2.2 g hg).1) ((h.jb k j e).2.2 g hg).2.1), (h.jb k j e).2.2⟩, h.tg, h.own, fun k hk => Nat.lt_of_lt_of_le (h.lt k hk) hz, h.n6, h.tk⟩, ⟨hB.os, hB.tape, hB.output, hz, fun k h1 h2 => hk k h1 (fun e => h2 (e ▸ h.own.1)), fun k hk => .inl hk⟩⟩
theorem TbD.seatAt (h : TbD w T G lo hi H W X m S ts hm js D f) {k : Nat} (hk : k < ts.length) : w.cell? ⟨G, k * 11, none⟩ = some (.int .i64 (f k).task) ∧ w.cell? ⟨G, k * 11 + 1, none⟩ = some (.int .i64 (f k).arr) ∧ w.cell? ⟨G, k * 11 + 2, none⟩ = some (.int .i64 (f k).work) ∧ w.cell? ⟨G, k * 11 + 3, none⟩ = some (.int .i64 (f k).done) ∧ w.cell? ⟨G, k * 11 + 4, none⟩ = some (f k).ops ∧ w.cell? ⟨G, k * 11 + 5, none⟩ = some (.bool (tkAt ts k).hi) ∧ w.cell? ⟨G, k * 11 + 7, none⟩ = some (.int .i64 (tkAt ts k).d) ∧ w.cell? ⟨G, k * 11 + 8, none⟩ = some (.int .i64 (tkAt ts k).v) ∧ w.cell? ⟨G, k * 11 + 9, none⟩ = some (.int .i64 (tkAt ts k).lo) ∧ w.cell? ⟨G, k * 11 + 10, none⟩ = some (.int .i64 (tkAt ts k).top) :=
  ⟨h.st.at_ (r := 0) hk (by omega), h.st.at_ (r := 1) hk (by omega), h.st.at_ (r := 2) hk (by omega), h.st.at_ (r := 3) hk (by omega), h.st.at_ (r := 4) hk (by omega), h.st.at_ (r := 5) hk (by omega), h.st.at_ (r := 7) hk (by omega), h.st.at_ (r := 8) hk (by omega), h.st.at_ (r := 9) hk (by omega), h.st.at_ (r := 10) hk (by omega)⟩
/-- A job's cells. -/
theorem TbD.jobAt (h : TbD w T G lo hi H W X m S ts hm js D f) {k : Nat} {j : Jb} (hj : js k = some j) : ∃ oa oc, w.cell? ⟨G, k * 11, none⟩ = some (.int .i64 k) ∧ w.cell? ⟨G, k * 11 + 1, none⟩ = some (.int .i64 j.arr) ∧ w.cell? ⟨G, k * 11 + 2, none⟩ = some (.int .i64 j.work) ∧ w.cell? ⟨G, k * 11 + 3, none⟩ = some (.int .i64 j.done) ∧ w.cell? ⟨G, k * 11 + 4, none⟩ = some (.slice oa j.ops.length oc) ∧ ORow w 60 3 (.slice oa j.ops.length oc) j.ops.length (j.ops.flatMap Wn.cells) ∧ (f k).ops = .slice oa j.ops.length oc := by
  obtain ⟨a0, a1, a2, a3, a4, _⟩ := h.seatAt (h.ok.lt hj)
  obtain ⟨e, hr, _⟩ := h.jb k j hj
  obtain ⟨oa, oc, eo⟩ : ∃ oa oc, (f k).ops = .slice oa j.ops.length oc := by
    obtain ⟨_, ⟨h1, h2⟩ | ⟨g, off, cap, cur, h1, _⟩⟩ := hr
    · exact ⟨none, 0, by rw [h1, h2]⟩
    · exact ⟨_, _, h1⟩
  rw [e] at a0 a1 a2 a3
  rw [eo] at a4 hr
  exact ⟨oa, oc, a0, a1, a2, a3, a4, hr, eo⟩
end
theorem dv_there {ts : List Tk} {js : Js} {D : Nat → Option Int} (ho : JsW ts js) (hd : ∀ k, (D k).isSome = hasJ js k) (id : Int) : (Dv D id).isSome = thereT ts js id := by
  unfold Dv thereT
  by_cases h0 : 0 ≤ id
  · rw [if_pos h0, hd]
    cases hj : hasJ js id.toNat with
    | false => simp
    | true =>
      obtain ⟨j, e⟩ := hasJ_t hj
      have := ho.lt e
      unfold inT
      rw [decide_eq_true h0, decide_eq_true (by omega)]; rfl
  · rw [if_neg h0]
    unfold inT
    rw [decide_eq_false h0]; rfl
theorem okTk_bd {ts : List Tk} (h : ∀ x ∈ ts, okTk x = true) {k : Nat} (hk : k < ts.length) : 1 ≤ (tkAt ts k).lo ∧ (tkAt ts k).lo ≤ (tkAt ts k).v ∧ (tkAt ts k).v ≤ (tkAt ts k).d ∧ (tkAt ts k).d ≤ 1000 ∧ (tkAt ts k).lo ≤ (tkAt ts k).top ∧ (tkAt ts k).top ≤ (tkAt ts k).d ∧ ((tkAt ts k).hi = true ∨ (tkAt ts k).top = (tkAt ts k).lo) := by
  have := h (tkAt ts k) (by rw [tkAt_eq hk]; exact List.getElem_mem hk)
  unfold okTk at this
  have := of_decide_eq_true this
  obtain ⟨a, b, c, d, e, f, g, h⟩ := this
  exact ⟨a, b, c, by omega, f, g, h.imp id (·.2)⟩
set_option maxRecDepth 100000 in
set_option maxHeartbeats 4000000 in
theorem thas_any (w : World) (T G lo hi H W X m : Nat) (S : Nat → Prop) (ts : List Tk) (hm : Bool) (js : Js) (D : Nat → Option Int) (f : Nat → Jc) (h : TbD w T G lo hi H W X m S ts hm js D f) (id : Int) :
    Calls Tryz.prog 43 #[.pointer (some ⟨T, 0, none⟩), .int .i64 id] w fun e w' => e = .returned (.bool (inT ts id)) ∧ w' = w := by
  have c0 := h.c0
  clear h
  unfold inT
  by_cases h0 : 0 ≤ id
  · have d0 : decide (0 ≤ id) = true := decide_eq_true h0
    go_enter Tryz.func43, Tryz.ntmps43
    go_wp2
    go_ret
    exact ⟨by first | rfl | (rw [d0]; rfl) | simp, rfl⟩
  · have d0 : decide (0 ≤ id) = false := decide_eq_false h0
    go_enter Tryz.func43, Tryz.ntmps43
    go_wp2
    go_ret
    exact ⟨by first | rfl | (rw [d0]; rfl) | simp, rfl⟩
set_option maxRecDepth 100000 in
set_option maxHeartbeats 4000000 in
theorem tthere_any (w : World) (T G lo hi H W X m : Nat) (S : Nat → Prop) (ts : List Tk) (hm : Bool) (js : Js) (D : Nat → Option Int) (f : Nat → Jc) (h : TbD w T G lo hi H W X m S ts hm js D f) (id : Int) :
    Calls Tryz.prog 38 #[.pointer (some ⟨T, 0, none⟩), .int .i64 id] w fun e w' => e = .returned (.bool (thereT ts js id)) ∧ w' = w := by
  have c1 := h.c1
  have HD := Lib.hid (hdue_any w lo hi H W X ts.length m D h.hp id)
  have HT := Lib.hid (dv_there h.ok h.dd id)
  clear h
  go_enter Tryz.func38, Tryz.ntmps38
  go_wp2_with (go_at_call 57; refine HD.out.mono ?_; rintro e w3 ⟨rfl, hw3⟩; rw [hw3, HT.out]; clear hw3)
  go_ret
  exact ⟨rfl, rfl⟩
set_option maxRecDepth 100000 in
set_option maxHeartbeats 4000000 in
theorem tmade_any (w : World) (T G lo hi H W X m : Nat) (S : Nat → Prop) (ts : List Tk) (hm : Bool) (js : Js) (D : Nat → Option Int) (f : Nat → Jc) (h : TbD w T G lo hi H W X m S ts hm js D f) :
    Calls Tryz.prog 49 #[.pointer (some ⟨T, 0, none⟩)] w fun e w' => e = .returned (.bool true) ∧ w' = w := by
  have c1 := h.c1
  clear h
  go_enter Tryz.func49, Tryz.ntmps49
  go_wp2
  go_ret
  exact ⟨rfl, rfl⟩
set_option maxRecDepth 100000 in
set_option maxHeartbeats 4000000 in
theorem tdead_any (w : World) (G o : Nat) (arr d : Int) (b1 : w.cell? ⟨G, o + 1, none⟩ = some (.int .i64 arr)) (b7 : w.cell? ⟨G, o + 7, none⟩ = some (.int .i64 d)) (h1 : 0 ≤ arr ∧ arr ≤ 4611686018427387904) (h2 : 0 ≤ d ∧ d ≤ 1000) :
    Calls Tryz.prog 55 #[.pointer (some ⟨G, o, none⟩)] w fun e w' => e = .returned (.int .i64 (arr + d)) ∧ ∃ n, w' = w.drewN n := by
  have e1 : IntKind.i64.wrap (arr + d) = arr + d := IntWalk.i64_in _ (by omega)
  go_enter Tryz.func55, Tryz.ntmps55
  go_wp2_with fail
  go_quiet (fail)
  go_wp2_with fail
  go_ret
  exact ⟨rfl, _, rfl⟩
end Go.Proofs.YtnenbgdonkgkfaaGreat
