/- Joined of TaskP, TaskQ, TaskS, TaskT, TaskU, TaskV, TaskW, TaskY: The program's table of jobs in memory; what its seats tell. -/
import Derived.Test.YtchbehnkkcjdgaaGreatTaskC
import Derived.Test.YtchbehnkkcjdgaaGreatHeapPg
import Derived.BigQuiet
import Derived.BigRegion
import Derived.Deep.CutRange
import Derived.Deep.CutBlock
import Derived.Test.YtchbehnkkcjdgaaGreatTks
import Derived.Lib.SliceRun
import Derived.Test.YtchbehnkkcjdgaaGreatBuild
namespace Go.Proofs.YtchbehnkkcjdgaaGreat
open Go.ChangeShapes Go.WideShapes Go.ChangeAt Go.RowKit
set_option linter.unusedVariables false
/-- A seat's job, as it stands in memory. -/
structure Jc where
 task : Int
 arr : Int
 work : Int
 done : Int
 ops : Value
def Jc.z : Jc := ⟨0, 0, 0, 0, .slice none 0 0⟩
def seatV (f : Nat → Jc) (ts : List Tk) (i r : Nat) : Value :=
 match r with
 | 0 => .int .i64 (f i).task
 | 1 => .int .i64 (f i).arr
 | 2 => .int .i64 (f i).work
 | 3 => .int .i64 (f i).done
 | 4 => (f i).ops
 | 5 => .bool (tkAt ts i).hi
 | 6 => .int .i64 (tkAt ts i).t
 | 7 => .int .i64 (tkAt ts i).d
 | 8 => .int .i64 (tkAt ts i).v
 | 9 => .int .i64 (tkAt ts i).lo
 | _ => .int .i64 (tkAt ts i).top
/-- All cells of a row of seats, by place. -/
def SeatsC (w : World) (G n : Nat) (c : Nat → Nat → Value) : Prop := ∃ cur, w.heap[G]? = some (.cells cur 213 (0, 0)) ∧ cur.size = n * 11 ∧ ∀ i, i < n → ∀ r, r < 11 → cur[i * 11 + r]? = some (c i r)
section
variable {w w' : World} {G n : Nat} {c c' : Nat → Nat → Value}
theorem SeatsC.same (h : SeatsC w G n c) (hs : w'.heap[G]? = w.heap[G]?) : SeatsC w' G n c := by
 obtain ⟨cur, h1, h2⟩ := h
 exact ⟨cur, hs.trans h1, h2⟩
theorem SeatsC.lt (h : SeatsC w G n c) : G < w.heap.size := by obtain ⟨cur, h1, _⟩ := h; exact lt_of_block h1
theorem SeatsC.at_ (h : SeatsC w G n c) {i r : Nat} (hi : i < n) (hr : r < 11) : w.cell? ⟨G, i * 11 + r, none⟩ = some (c i r) := by
 obtain ⟨cur, h1, _, h3⟩ := h
 exact cell_in h1 (h3 i hi r hr)
theorem SeatsC.free (h : SeatsC w G n c) (j : Nat) : w.frozen? ⟨G, j, none⟩ = false := by
 obtain ⟨cur, h1, _⟩ := h
 exact free_in h1 _
theorem SeatsC.set (h : SeatsC w G n c) {k q : Nat} (hk : k < n) (hq : q < 11) (u : Value) : SeatsC (w.setCell ⟨G, k * 11 + q, none⟩ u) G n (fun i r => if i = k ∧ r = q then u else c i r) := by
 obtain ⟨cur, h1, h2, h3⟩ := h
 refine ⟨_, set_at h1, by simp [h2], fun i hi r hr => ?_⟩
 rw [Array.getElem?_setIfInBounds, h2]
 show _ = some (if i = k ∧ r = q then u else c i r)
 by_cases e : i = k ∧ r = q
 ·obtain ⟨rfl, rfl⟩ := e
  rw [if_pos rfl, if_pos (by omega), if_pos ⟨rfl, rfl⟩]
 ·rw [if_neg (by omega), if_neg e]
  exact h3 i hi r hr
theorem SeatsC.congr (h : SeatsC w G n c) (he : ∀ i, i < n → ∀ r, r < 11 → c i r = c' i r) : SeatsC w G n c' := by
 obtain ⟨cur, h1, h2, h3⟩ := h
 exact ⟨cur, h1, h2, fun i hi r hr => by rw [← he i hi r hr]; exact h3 i hi r hr⟩
end
/-- A table's blocks in memory: D tells when the heap has each due. -/
structure TbD (w : World) (T G lo hi H W X m : Nat) (S : Nat → Prop) (ts : List Tk) (hm : Bool) (js : Js) (D : Nat → Option Int) (f : Nat → Jc) : Prop where
 box : w.heap[T]? = some (.cells #[.slice (some ⟨G, 0, none⟩) ts.length ts.length, .pointer (some ⟨H, 0, none⟩), .bool hm] 196 (0, 0))
 st : SeatsC w G ts.length (seatV f ts)
 hp : HpD w lo hi H W X ts.length m D
 cnt : m = cntT js ts.length
 ok : JsW ts js
 dd : ∀ k, (D k).isSome = hasJ js k
 jb : ∀ k j, js k = some j → f k = ⟨k, j.arr, j.work, j.done, (f k).ops⟩ ∧ ORow w 54 3 (f k).ops j.ops.length (j.ops.flatMap Wn.cells) ∧ ∀ g, (f k).ops.ownBlock = some g → S g ∧ g ≠ T ∧ g ≠ G ∧ ¬ (lo ≤ g ∧ g < hi)
 tg : T ≠ G ∧ ¬ (lo ≤ T ∧ T < hi) ∧ ¬ (lo ≤ G ∧ G < hi)
 own : S T ∧ S G ∧ ∀ k, lo ≤ k → k < hi → S k
 lt : ∀ k, S k → k < w.heap.size
 n6 : ts.length ≤ 6
 tk : ∀ x ∈ ts, okTk x = true
def TbP (T : Nat) (ts : List Tk) (hm : Bool) (js : Js) (w : World) (S : Nat → Prop) : Prop := JsOk ts js ∧ ∃ G lo hi H W X m f, TbD w T G lo hi H W X m S ts hm js (dmT ts hm js) f
section
variable {w w' : World} {T G lo hi H W X m m' : Nat} {S : Nat → Prop} {ts : List Tk} {hm : Bool} {js js' : Js} {D D' : Nat → Option Int} {f : Nat → Jc}
theorem TbD.keep (h : TbD w T G lo hi H W X m S ts hm js D f) (hs : ∀ k, S k → w'.heap[k]? = w.heap[k]?) (hz : w.heap.size ≤ w'.heap.size) : TbD w' T G lo hi H W X m S ts hm js D f :=
 ⟨(hs T h.own.1).trans h.box, h.st.same (hs G h.own.2.1), h.hp.keep (fun k h1 h2 => hs k (h.own.2.2 k h1 h2)) hz, h.cnt, h.ok, h.dd, fun k j hj => ⟨(h.jb k j hj).1, (h.jb k j hj).2.1.hold (fun g hg => hs g ((h.jb k j hj).2.2 g hg).1), (h.jb k j hj).2.2⟩, h.tg, h.own, fun k hk => Nat.lt_of_lt_of_le (h.lt k hk) hz, h.n6, h.tk⟩
theorem TbD.later (h : TbD w T G lo hi H W X m S ts hm js D f) (hb : Below w.heap.size w w') : TbD w' T G lo hi H W X m S ts hm js D f := h.keep (fun k hk => hb.block k (h.lt k hk)) hb.size
theorem TbD.drew (h : TbD w T G lo hi H W X m S ts hm js D f) : TbD w.drew T G lo hi H W X m S ts hm js D f := h.later (Below.refl _ _).drew
theorem TbD.c0 (h : TbD w T G lo hi H W X m S ts hm js D f) : w.cell? ⟨T, 0, none⟩ = some (.slice (some ⟨G, 0, none⟩) ts.length ts.length) := cell_in h.box rfl
theorem TbD.c1 (h : TbD w T G lo hi H W X m S ts hm js D f) : w.cell? ⟨T, 1, none⟩ = some (.pointer (some ⟨H, 0, none⟩)) := cell_in h.box rfl
theorem TbD.c2 (h : TbD w T G lo hi H W X m S ts hm js D f) : w.cell? ⟨T, 2, none⟩ = some (.bool hm) := cell_in h.box rfl
theorem tb_own (T : Nat) (ts : List Tk) (hm : Bool) (js : Js) : OwnP (TbP T ts hm js) :=
 ⟨fun ⟨ho, G, lo, hi, H, W, X, m, f, h⟩ hs hz => ⟨ho, G, lo, hi, H, W, X, m, f, h.keep hs hz⟩, fun ⟨_, _, _, _, _, _, _, _, _, h⟩ => h.lt⟩
theorem tb_bd {w : World} {S : Nat → Prop} (h : TbP T ts hm js w S) : ts.length ≤ 6 ∧ (∀ x ∈ ts, okTk x = true) ∧ JsOk ts js := by
 obtain ⟨ho, _, _, _, _, _, _, _, _, h⟩ := h
 exact ⟨h.n6, h.tk, ho⟩
/-- The heap changed, and some jobs are gone. -/
theorem TbD.heap (h : TbD w T G lo hi H W X m S ts hm js D f) (hp : HpD w' lo hi H W X ts.length m' D') (hM : Mv lo hi w w') (hc : m' = cntT js' ts.length) (hd : ∀ k, (D' k).isSome = hasJ js' k) (hj : ∀ k j, js' k = some j → js k = some j) : TbD w' T G lo hi H W X m' S ts hm js' D' f ∧ GrowS S S w w' := by
 have hz := hM.below.size
 have hk : ∀ k, k < w.heap.size → ¬ (lo ≤ k ∧ k < hi) → w'.heap[k]? = w.heap[k]? := fun k hk hn => by
  rcases Nat.lt_or_ge k lo with g | g
  ·exact hM.below.block k g
  ·exact hM.above k (by omega) hk
 exact ⟨⟨(hk T (h.lt T h.own.1) h.tg.2.1).trans h.box, h.st.same (hk G (h.lt G h.own.2.1) h.tg.2.2), hp, hc, h.ok.sub hj, hd, fun k j e => ⟨(h.jb k j (hj k j e)).1, (h.jb k j (hj k j e)).2.1.hold (fun g hg => hk g (h.lt g ((h.jb k j (hj k j e)).2.2 g hg).1) ((h.jb k j (hj k j e)).2.2 g hg).2.2.2), (h.jb k j (hj k j e)).2.2⟩, h.tg, h.own, fun k hk => Nat.lt_of_lt_of_le (h.lt k hk) hz, h.n6, h.tk⟩,
  ⟨hM.below.os, hM.below.tape, hM.below.output, hz, fun k h1 h2 => hk k h1 (fun h3 => h2 (h.own.2.2 k h3.1 h3.2)), fun k hk => .inl hk⟩⟩
/-- Only the row of seats changed. -/
theorem TbD.seat (h : TbD w T G lo hi H W X m S ts hm js D f) (hB : But G w w') {f' : Nat → Jc} (hs : SeatsC w' G ts.length (seatV f' ts)) (hc : m = cntT js' ts.length) (ho : JsW ts js') (hd : ∀ k, (D k).isSome = hasJ js' k)
 (hj : ∀ k j, js' k = some j → f' k = ⟨k, j.arr, j.work, j.done, (f' k).ops⟩ ∧ ∃ j0, js k = some j0 ∧ j0.ops = j.ops ∧ (f' k).ops = (f k).ops) : TbD w' T G lo hi H W X m S ts hm js' D f' ∧ GrowS S S w w' := by
 have hz := hB.size
 have hk : ∀ k, k < w.heap.size → k ≠ G → w'.heap[k]? = w.heap[k]? := fun k h1 h2 => hB.block k h1 h2
 refine ⟨⟨(hk T (h.lt T h.own.1) h.tg.1).trans h.box, hs, h.hp.keep (fun k h1 h2 => hk k (h.lt k (h.own.2.2 k h1 h2)) (fun e => h.tg.2.2 (by subst e; exact ⟨h1, h2⟩))) hz, hc, ho, hd, fun k j e => ?_, h.tg, h.own, fun k hk => Nat.lt_of_lt_of_le (h.lt k hk) hz, h.n6, h.tk⟩, ⟨hB.os, hB.tape, hB.output, hz, fun k h1 h2 => hk k h1 (fun e => h2 (e ▸ h.own.2.1)), fun k hk => .inl hk⟩⟩
 obtain ⟨h1, j0, h2, h3, h4⟩ := hj k j e
 obtain ⟨g1, g2, g3⟩ := h.jb k j0 h2
 rw [h3] at g2
 rw [h4]
 exact ⟨by rw [← h4]; exact h1, g2.hold (fun g hg => hk g (h.lt g (g3 g hg).1) (g3 g hg).2.2.1), g3⟩
/-- Only the mode changed. -/
theorem TbD.mode (h : TbD w T G lo hi H W X m S ts hm js D f) (b : Bool) : TbD (w.setCell ⟨T, 2, none⟩ (.bool b)) T G lo hi H W X m S ts b js D f ∧ GrowS S S w (w.setCell ⟨T, 2, none⟩ (.bool b)) := by
 have hB : But T w (w.setCell ⟨T, 2, none⟩ (.bool b)) := (But.refl T w).set 2 _
 have hz := hB.size
 have hk : ∀ k, k < w.heap.size → k ≠ T → (w.setCell ⟨T, 2, none⟩ (.bool b)).heap[k]? = w.heap[k]? := fun k h1 h2 => hB.block k h1 h2
 exact ⟨⟨by rw [set_at h.box]; rfl, h.st.same (hk G (h.lt G h.own.2.1) h.tg.1.symm), h.hp.keep (fun k h1 h2 => hk k (h.lt k (h.own.2.2 k h1 h2)) (fun e => h.tg.2.1 (by subst e; exact ⟨h1, h2⟩))) hz, h.cnt, h.ok, h.dd, fun k j e => ⟨(h.jb k j e).1, (h.jb k j e).2.1.hold (fun g hg => hk g (h.lt g ((h.jb k j e).2.2 g hg).1) ((h.jb k j e).2.2 g hg).2.1), (h.jb k j e).2.2⟩, h.tg, h.own, fun k hk => Nat.lt_of_lt_of_le (h.lt k hk) hz, h.n6, h.tk⟩, ⟨hB.os, hB.tape, hB.output, hz, fun k h1 h2 => hk k h1 (fun e => h2 (e ▸ h.own.1)), fun k hk => .inl hk⟩⟩
theorem TbD.seatAt (h : TbD w T G lo hi H W X m S ts hm js D f) {k : Nat} (hk : k < ts.length) : w.cell? ⟨G, k * 11, none⟩ = some (.int .i64 (f k).task) ∧ w.cell? ⟨G, k * 11 + 1, none⟩ = some (.int .i64 (f k).arr) ∧ w.cell? ⟨G, k * 11 + 2, none⟩ = some (.int .i64 (f k).work) ∧ w.cell? ⟨G, k * 11 + 3, none⟩ = some (.int .i64 (f k).done) ∧ w.cell? ⟨G, k * 11 + 4, none⟩ = some (f k).ops ∧ w.cell? ⟨G, k * 11 + 5, none⟩ = some (.bool (tkAt ts k).hi) ∧ w.cell? ⟨G, k * 11 + 7, none⟩ = some (.int .i64 (tkAt ts k).d) ∧ w.cell? ⟨G, k * 11 + 8, none⟩ = some (.int .i64 (tkAt ts k).v) ∧ w.cell? ⟨G, k * 11 + 9, none⟩ = some (.int .i64 (tkAt ts k).lo) ∧ w.cell? ⟨G, k * 11 + 10, none⟩ = some (.int .i64 (tkAt ts k).top) :=
 ⟨h.st.at_ (r := 0) hk (by omega), h.st.at_ (r := 1) hk (by omega), h.st.at_ (r := 2) hk (by omega), h.st.at_ (r := 3) hk (by omega), h.st.at_ (r := 4) hk (by omega), h.st.at_ (r := 5) hk (by omega), h.st.at_ (r := 7) hk (by omega), h.st.at_ (r := 8) hk (by omega), h.st.at_ (r := 9) hk (by omega), h.st.at_ (r := 10) hk (by omega)⟩
/-- A job's cells. -/
theorem TbD.jobAt (h : TbD w T G lo hi H W X m S ts hm js D f) {k : Nat} {j : Jb} (hj : js k = some j) : ∃ oa oc, w.cell? ⟨G, k * 11, none⟩ = some (.int .i64 k) ∧ w.cell? ⟨G, k * 11 + 1, none⟩ = some (.int .i64 j.arr) ∧ w.cell? ⟨G, k * 11 + 2, none⟩ = some (.int .i64 j.work) ∧ w.cell? ⟨G, k * 11 + 3, none⟩ = some (.int .i64 j.done) ∧ w.cell? ⟨G, k * 11 + 4, none⟩ = some (.slice oa j.ops.length oc) ∧ ORow w 54 3 (.slice oa j.ops.length oc) j.ops.length (j.ops.flatMap Wn.cells) ∧ (f k).ops = .slice oa j.ops.length oc := by
 obtain ⟨a0, a1, a2, a3, a4, _⟩ := h.seatAt (h.ok.lt hj)
 obtain ⟨e, hr, _⟩ := h.jb k j hj
 obtain ⟨oa, oc, eo⟩ : ∃ oa oc, (f k).ops = .slice oa j.ops.length oc := by
  obtain ⟨_, ⟨h1, h2⟩ | ⟨g, off, cap, cur, h1, _⟩⟩ := hr
  ·exact ⟨none, 0, by rw [h1, h2]⟩
  ·exact ⟨_, _, h1⟩
 rw [e] at a0 a1 a2 a3
 rw [eo] at a4 hr
 exact ⟨oa, oc, a0, a1, a2, a3, a4, hr, eo⟩
end
theorem dv_there {ts : List Tk} {js : Js} {D : Nat → Option Int} (ho : JsW ts js) (hd : ∀ k, (D k).isSome = hasJ js k) (id : Int) : (Dv D id).isSome = thereT ts js id := by
 unfold Dv thereT
 by_cases h0 : 0 ≤ id
 ·rw [if_pos h0, hd]
  cases hj : hasJ js id.toNat with
  | false => simp
  | true =>
    obtain ⟨j, e⟩ := hasJ_t hj
    have := ho.lt e
    unfold inT
    rw [decide_eq_true h0, decide_eq_true (by omega)]; rfl
 ·rw [if_neg h0]
  unfold inT
  rw [decide_eq_false h0]; rfl
theorem okTk_bd {ts : List Tk} (h : ∀ x ∈ ts, okTk x = true) {k : Nat} (hk : k < ts.length) : 1 ≤ (tkAt ts k).lo ∧ (tkAt ts k).lo ≤ (tkAt ts k).v ∧ (tkAt ts k).v ≤ (tkAt ts k).d ∧ (tkAt ts k).d ≤ 1000 ∧ (tkAt ts k).lo ≤ (tkAt ts k).top ∧ (tkAt ts k).top ≤ (tkAt ts k).d ∧ ((tkAt ts k).hi = true ∨ (tkAt ts k).top = (tkAt ts k).lo) := by
 have := h (tkAt ts k) (by rw [tkAt_eq hk]; exact List.getElem_mem hk)
 unfold okTk at this
 have := of_decide_eq_true this
 obtain ⟨a, b, c, d, e, f, g, h⟩ := this
 exact ⟨a, b, c, by omega, f, g, h.imp id (·.2)⟩
set_option maxRecDepth 100000 in
set_option maxHeartbeats 4000000 in
theorem thas_any (w : World) (T G lo hi H W X m : Nat) (S : Nat → Prop) (ts : List Tk) (hm : Bool) (js : Js) (D : Nat → Option Int) (f : Nat → Jc) (h : TbD w T G lo hi H W X m S ts hm js D f) (id : Int) :
 Calls Tryz.prog 159 #[.pointer (some ⟨T, 0, none⟩), .int .i64 id] w fun e w' => e = .returned (.bool (inT ts id)) ∧ w' = w := by
 have c0 := h.c0
 clear h
 unfold inT
 by_cases h0 : 0 ≤ id
 ·have d0 : decide (0 ≤ id) = true := decide_eq_true h0
  go_enter Tryz.func159, Tryz.ntmps159
  go_wp2
  go_ret
  exact ⟨by first | rfl | (rw [d0]; rfl) | simp, rfl⟩
 ·have d0 : decide (0 ≤ id) = false := decide_eq_false h0
  go_enter Tryz.func159, Tryz.ntmps159
  go_wp2
  go_ret
  exact ⟨by first | rfl | (rw [d0]; rfl) | simp, rfl⟩
set_option maxRecDepth 100000 in
set_option maxHeartbeats 4000000 in
theorem tthere_any (w : World) (T G lo hi H W X m : Nat) (S : Nat → Prop) (ts : List Tk) (hm : Bool) (js : Js) (D : Nat → Option Int) (f : Nat → Jc) (h : TbD w T G lo hi H W X m S ts hm js D f) (id : Int) :
 Calls Tryz.prog 143 #[.pointer (some ⟨T, 0, none⟩), .int .i64 id] w fun e w' => e = .returned (.bool (thereT ts js id)) ∧ w' = w := by
 have c1 := h.c1
 have HD := Lib.hid (hdue_any w lo hi H W X ts.length m D h.hp id)
 have HT := Lib.hid (dv_there h.ok h.dd id)
 clear h
 go_enter Tryz.func143, Tryz.ntmps143
 go_wp2_with (go_at_call 179; refine HD.out.mono ?_; rintro e w3 ⟨rfl, hw3⟩; rw [hw3, HT.out]; clear hw3)
 go_ret
 exact ⟨rfl, rfl⟩
set_option maxRecDepth 100000 in
set_option maxHeartbeats 4000000 in
theorem tmade_any (w : World) (T G lo hi H W X m : Nat) (S : Nat → Prop) (ts : List Tk) (hm : Bool) (js : Js) (D : Nat → Option Int) (f : Nat → Jc) (h : TbD w T G lo hi H W X m S ts hm js D f) :
 Calls Tryz.prog 167 #[.pointer (some ⟨T, 0, none⟩)] w fun e w' => e = .returned (.bool true) ∧ w' = w := by
 have c1 := h.c1
 clear h
 go_enter Tryz.func167, Tryz.ntmps167
 go_wp2
 go_ret
 exact ⟨rfl, rfl⟩
set_option maxRecDepth 100000 in
set_option maxHeartbeats 4000000 in
theorem tdead_any (w : World) (G o : Nat) (arr d : Int) (b1 : w.cell? ⟨G, o + 1, none⟩ = some (.int .i64 arr)) (b7 : w.cell? ⟨G, o + 7, none⟩ = some (.int .i64 d)) (h1 : 0 ≤ arr ∧ arr ≤ 4611686018427387904) (h2 : 0 ≤ d ∧ d ≤ 1000) :
 Calls Tryz.prog 98 #[.pointer (some ⟨G, o, none⟩)] w fun e w' => e = .returned (.int .i64 (arr + d)) ∧ ∃ n, w' = w.drewN n := by
 have e1 : IntKind.i64.wrap (arr + d) = arr + d := IntWalk.i64_in _ (by omega)
 go_enter Tryz.func98, Tryz.ntmps98
 go_wp2_with fail
 go_quiet (fail)
 go_wp2_with fail
 go_ret
 exact ⟨rfl, _, rfl⟩
end Go.Proofs.YtchbehnkkcjdgaaGreat
namespace Go.Proofs.YtchbehnkkcjdgaaGreat
open Go.ChangeShapes Go.WideShapes Go.ChangeAt Go.RowKit
set_option linter.unusedVariables false
theorem set3t {w : World} {X : Nat} {T : TypeId} {cs : Array Value} (h : w.heap[X]? = some (.cells cs T (0, 0))) (hs : cs.size = 3) (v0 v1 v2 : Value) :
 (((w.setCell ⟨X, 0, none⟩ v0).setCell ⟨X, 1, none⟩ v1).setCell ⟨X, 2, none⟩ v2).heap[X]? = some (.cells #[v0, v1, v2] T (0, 0)) := by
 have h3 := set_at (j := 2) (u := v2) (set_at (j := 1) (u := v1) (set_at (j := 0) (u := v0) h))
 rw [h3]
 match cs, hs with
 | ⟨[a, b, c]⟩, _ => rfl
theorem Tryz.sizeTOp : (Tryz.prog.info? 54).map (·.size) = some 3 := by kernel_rfl
theorem Tryz.sizeTJob : (Tryz.prog.info? 66).map (·.size) = some 5 := by kernel_rfl
theorem Tryz.infoTOp : (Tryz.prog.info? 54).map (fun i => (i.zero, i.size, i.bytes)) = some (some (.agg #[.int .i64 0, .int .i64 0, .int .i64 0]), 3, 24) := by kernel_rfl
set_option maxRecDepth 100000 in
set_option maxHeartbeats 4000000 in
theorem tdue_any (w : World) (G o : Nat) (arr d v : Int) (hm : Bool) (b1 : w.cell? ⟨G, o + 1, none⟩ = some (.int .i64 arr)) (b7 : w.cell? ⟨G, o + 7, none⟩ = some (.int .i64 d)) (b8 : w.cell? ⟨G, o + 8, none⟩ = some (.int .i64 v)) (h1 : 0 ≤ arr ∧ arr ≤ 4611686018427387904) (h2 : 0 ≤ d ∧ d ≤ 1000) (h3 : 0 ≤ v ∧ v ≤ 1000) :
 Calls Tryz.prog 163 #[.pointer (some ⟨G, o, none⟩), .bool hm] w fun e w' => e = .returned (.int .i64 (arr + (if hm = true then d else v))) ∧ ∃ n, w' = w.drewN n := by
 cases hm with
 | true =>
   have HD := Lib.hid (tdead_any w G o arr d b1 b7 h1 h2)
   clear b1 b7 b8 h1 h2 h3
   go_enter Tryz.func163, Tryz.ntmps163
   go_wp2_with (go_at_call 98; refine HD.out.mono ?_; rintro e w3 ⟨rfl, n3, rfl⟩)
   go_ret
   exact ⟨rfl, _, rfl⟩
 | false =>
   have e1 : IntKind.i64.wrap (arr + v) = arr + v := IntWalk.i64_in _ (by omega)
   go_enter Tryz.func163, Tryz.ntmps163
   go_wp2_with fail
   go_quiet (fail)
   go_wp2_with fail
   go_ret
   exact ⟨rfl, _, rfl⟩
set_option maxRecDepth 100000 in
set_option maxHeartbeats 4000000 in
theorem tspent_any (w : World) (G o : Nat) (done lo top : Int) (hm : Bool) (b3 : w.cell? ⟨G, o + 3, none⟩ = some (.int .i64 done)) (b9 : w.cell? ⟨G, o + 9, none⟩ = some (.int .i64 lo)) (b10 : w.cell? ⟨G, o + 10, none⟩ = some (.int .i64 top)) :
 Calls Tryz.prog 185 #[.pointer (some ⟨G, o, none⟩), .bool hm] w fun e w' => e = .returned (.bool (decide ((if hm = true then top else lo) ≤ done))) ∧ ∃ n, w' = w.drewN n := by
 cases hm with
 | true =>
   go_enter Tryz.func185, Tryz.ntmps185
   go_wp2_with fail
   go_quiet (fail)
   go_wp2_with fail
   go_ret
   exact ⟨rfl, _, rfl⟩
 | false =>
   go_enter Tryz.func185, Tryz.ntmps185
   go_wp2_with fail
   go_quiet (fail)
   go_wp2_with fail
   go_ret
   exact ⟨rfl, _, rfl⟩
set_option maxRecDepth 100000 in
set_option maxHeartbeats 4000000 in
theorem trises_any (w : World) (G o : Nat) (lo top : Int) (th hm : Bool) (b5 : w.cell? ⟨G, o + 5, none⟩ = some (.bool th)) (b9 : w.cell? ⟨G, o + 9, none⟩ = some (.int .i64 lo)) (b10 : w.cell? ⟨G, o + 10, none⟩ = some (.int .i64 top)) :
 Calls Tryz.prog 186 #[.pointer (some ⟨G, o, none⟩), .bool hm] w fun e w' => e = .returned (.bool (!hm && (th && decide (lo < top)))) ∧ ∃ n, w' = w.drewN n := by
 by_cases hl : lo < top
 ·have d0 : decide (lo < top) = true := decide_eq_true hl
  cases hm <;> cases th <;>
  ( go_enter Tryz.func186, Tryz.ntmps186
    go_wp2_with fail
    try go_quiet (fail)
    try go_wp2_with fail
    go_ret
    first | exact ⟨rfl, _, rfl⟩ | exact ⟨rfl, 0, rfl⟩ | exact ⟨by simp [d0], _, rfl⟩ | exact ⟨by simp [d0], 0, rfl⟩)
 ·have d0 : decide (lo < top) = false := decide_eq_false hl
  cases hm <;> cases th <;>
  ( go_enter Tryz.func186, Tryz.ntmps186
    go_wp2_with fail
    try go_quiet (fail)
    try go_wp2_with fail
    go_ret
    first | exact ⟨rfl, _, rfl⟩ | exact ⟨rfl, 0, rfl⟩ | exact ⟨by simp [d0], _, rfl⟩ | exact ⟨by simp [d0], 0, rfl⟩)
set_option maxRecDepth 100000 in
set_option maxHeartbeats 4000000 in
theorem tended_any (w : World) (G o : Nat) (work done : Int) (b2 : w.cell? ⟨G, o + 2, none⟩ = some (.int .i64 work)) (b3 : w.cell? ⟨G, o + 3, none⟩ = some (.int .i64 done)) :
 Calls Tryz.prog 184 #[.pointer (some ⟨G, o, none⟩)] w fun e w' => e = .returned (.bool (decide (work ≤ done))) ∧ ∃ n, w' = w.drewN n := by
 go_enter Tryz.func184, Tryz.ntmps184
 go_wp2_with fail
 go_quiet (fail)
 go_wp2_with fail
 go_ret
 exact ⟨rfl, _, rfl⟩
def rightV (arr work done : Int) (n : Nat) : Bool := decide (0 ≤ arr ∧ arr ≤ 4611686018427387904 ∧ 1 ≤ work ∧ work ≤ 1048576 ∧ done = 0 ∧ n ≤ 64)
set_option maxRecDepth 100000 in
set_option maxHeartbeats 4000000 in
theorem tright_any (w : World) (G o : Nat) (arr work done : Int) (a : Option Addr) (n c : Nat) (b1 : w.cell? ⟨G, o + 1, none⟩ = some (.int .i64 arr)) (b2 : w.cell? ⟨G, o + 2, none⟩ = some (.int .i64 work)) (b3 : w.cell? ⟨G, o + 3, none⟩ = some (.int .i64 done)) (b4 : w.cell? ⟨G, o + 4, none⟩ = some (.slice a n c)) :
 Calls Tryz.prog 160 #[.pointer (some ⟨G, o, none⟩)] w fun e w' => e = .returned (.bool (rightV arr work done n)) ∧ w' = w := by
 by_cases h0 : 0 ≤ arr
 ·have d0 : decide (0 ≤ arr) = true := decide_eq_true h0
  by_cases h1 : arr ≤ 4611686018427387904
  ·have d1 : decide (arr ≤ 4611686018427387904) = true := decide_eq_true h1
   by_cases h2 : 1 ≤ work
   ·have d2 : decide (1 ≤ work) = true := decide_eq_true h2
    by_cases h3 : work ≤ 1048576
    ·have d3 : decide (work ≤ 1048576) = true := decide_eq_true h3
     by_cases h4 : done = 0
     ·subst h4
      by_cases h5 : n ≤ 64
      ·have d5 : decide ((n : Int) ≤ 64) = true := decide_eq_true (by omega)
       have HR := Lib.hid (show rightV arr work 0 n = true from decide_eq_true ⟨h0, h1, h2, h3, rfl, h5⟩)
       go_enter Tryz.func160, Tryz.ntmps160
       go_wp2
       go_ret
       exact ⟨by rw [HR.out]; first | done | rfl, rfl⟩
      ·have d5 : decide ((n : Int) ≤ 64) = false := decide_eq_false (by omega)
       have HR := Lib.hid (show rightV arr work 0 n = false from decide_eq_false (fun h => h5 h.2.2.2.2.2))
       go_enter Tryz.func160, Tryz.ntmps160
       go_wp2
       go_ret
       exact ⟨by rw [HR.out]; first | done | rfl, rfl⟩
     ·have d4 : (done == 0) = false := by simpa using h4
      have HR := Lib.hid (show rightV arr work done n = false from decide_eq_false (fun h => h4 h.2.2.2.2.1))
      go_enter Tryz.func160, Tryz.ntmps160
      go_wp2
      go_ret
      exact ⟨by rw [HR.out]; first | done | rfl, rfl⟩
    ·have d3 : decide (work ≤ 1048576) = false := decide_eq_false h3
     have HR := Lib.hid (show rightV arr work done n = false from decide_eq_false (fun h => h3 h.2.2.2.1))
     go_enter Tryz.func160, Tryz.ntmps160
     go_wp2
     go_ret
     exact ⟨by rw [HR.out]; first | done | rfl, rfl⟩
   ·have d2 : decide (1 ≤ work) = false := decide_eq_false h2
    have HR := Lib.hid (show rightV arr work done n = false from decide_eq_false (fun h => h2 h.2.2.1))
    go_enter Tryz.func160, Tryz.ntmps160
    go_wp2
    go_ret
    exact ⟨by rw [HR.out]; first | done | rfl, rfl⟩
  ·have d1 : decide (arr ≤ 4611686018427387904) = false := decide_eq_false h1
   have HR := Lib.hid (show rightV arr work done n = false from decide_eq_false (fun h => h1 h.2.1))
   go_enter Tryz.func160, Tryz.ntmps160
   go_wp2
   go_ret
   exact ⟨by rw [HR.out]; first | done | rfl, rfl⟩
 ·have d0 : decide (0 ≤ arr) = false := decide_eq_false h0
  have HR := Lib.hid (show rightV arr work done n = false from decide_eq_false (fun h => h0 h.1))
  go_enter Tryz.func160, Tryz.ntmps160
  go_wp2
  go_ret
  exact ⟨by rw [HR.out]; first | done | rfl, rfl⟩
set_option maxRecDepth 100000 in
set_option maxHeartbeats 4000000 in
/-- A job with ops of its own. -/
theorem tapart_any (w : World) (B o : Nat) (t arr work done : Int) (a : Option Addr) (n c lo hi : Nat) (cs : List Value) (b0 : w.cell? ⟨B, o, none⟩ = some (.int .i64 t)) (b1 : w.cell? ⟨B, o + 1, none⟩ = some (.int .i64 arr)) (b2 : w.cell? ⟨B, o + 2, none⟩ = some (.int .i64 work)) (b3 : w.cell? ⟨B, o + 3, none⟩ = some (.int .i64 done)) (b4 : w.cell? ⟨B, o + 4, none⟩ = some (.slice a n c))
 (hl : Lies w lo hi (.slice a n c) n 3 cs) (hone : ∀ u ∈ cs, u.oneCell' = true) (hhi : hi ≤ w.heap.size) (hs : n ≤ 64) :
 Calls Tryz.prog 161 #[.pointer (some ⟨B, o, none⟩)] w fun e w' => ∃ ao cap, e = .returned (.agg #[.int .i64 t, .int .i64 arr, .int .i64 work, .int .i64 done, .slice ao n cap]) ∧ w'.ownsRow (w.heap.size + 2) 54 3 (.slice ao n cap) n cs ∧ Below w.heap.size w w' := by
 obtain ⟨i0, hi0, hz0, hz1, hz2⟩ := info_parts Tryz.infoTOp
 have HI := Lib.hid hi0
 have HL := Lib.hid hl
 have HN := Lib.hid hone
 have hB : B < w.heap.size := by
  rcases Nat.lt_or_ge B w.heap.size with g | g
  ·exact g
  ·exfalso
   unfold World.cell? at b0
   rw [Array.getElem?_eq_none g] at b0
   cases b0
 obtain ⟨V, hV⟩ : ∃ V, V = (w.alloc (.cells #[.int .i64 0, .int .i64 0, .int .i64 0, .int .i64 0, .slice none 0 0] 66)).alloc (.cells #[.int .i64 t, .int .i64 arr, .int .i64 work, .int .i64 done, .slice a n c] 66) := ⟨_, rfl⟩
 have B0 : Hid (Below w.heap.size w V) := Lib.hid (by rw [hV]; exact b_alloc (below1 _ _) (Nat.le_refl _) _)
 have s1 : Hid (V.heap[w.heap.size]? = some (.cells #[.int .i64 0, .int .i64 0, .int .i64 0, .int .i64 0, .slice none 0 0] 66 (0, 0))) := Lib.hid (by rw [hV]; simp only [heap_at, World.size_alloc]; simp)
 have s2 : Hid (V.heap[w.heap.size + 1]? = some (.cells #[.int .i64 t, .int .i64 arr, .int .i64 work, .int .i64 done, .slice a n c] 66 (0, 0))) := Lib.hid (by rw [hV]; simp only [heap_at, World.size_alloc]; simp)
 have z2 : Hid (V.heap.size = w.heap.size + 2) := Lib.hid (by rw [hV]; simp)
 have y4 : V.cell? ⟨B, o + 4, none⟩ = some (.slice a n c) := by
  unfold World.cell? at b4 ⊢
  rw [B0.out.block B hB]; exact b4
 have HV := Lib.hid hV
 clear hi0 hl hone
 go_enter Tryz.func161, Tryz.ntmps161
 go_upto_region 2 with fail
 rw [← HV.out]
 clear b0 b1 b2 b3 b4 hV
 go_wp2_with (first
  | (refine wpList_append_lie (by rfl) (.const (.slice none 0 0)) (.tmp 10) 64 (by rfl) V.heap.size 54 i0 _ 3 24 Tryz.underlying64 HI.out hz0 hz1 hz2 rfl (by omega) (.slice none 0 0) 0 [] (by rfl) (World.ownsRow_nil _ _ _ _) (.slice a n c) lo hi n cs (by rfl) (HL.out.keep (SameIn.of_below B0.out hhi)) HN.out n (by omega) (by simp [maxLen]; omega) (by omega) (Nat.le_refl _) ?_
     intro ao cap w5 hown hgrow
     have hk : ∀ k, k < V.heap.size → w5.heap[k]? = V.heap[k]? := fun k hk => hgrow.block k hk (by simp [Value.ownBlock])
     have x1 : w5.heap[w.heap.size]? = some (.cells #[.int .i64 0, .int .i64 0, .int .i64 0, .int .i64 0, .slice none 0 0] 66 (0, 0)) := (hk _ (lt_of_block s1.out)).trans s1.out
     have x2 : w5.heap[w.heap.size + 1]? = some (.cells #[.int .i64 t, .int .i64 arr, .int .i64 work, .int .i64 done, .slice a n c] 66 (0, 0)) := (hk _ (lt_of_block s2.out)).trans s2.out
     have X1 := Lib.hid x1
     have X2 := Lib.hid x2
     have B5 : Hid (Below w.heap.size w w5) := Lib.hid (B0.out.grown hgrow B0.out.size (fun k hk => by simp [Value.ownBlock] at hk))
     have O5 := Lib.hid hown
     have r0 := cell_in (j := 0) x1 rfl
     have r1 := cell_in (j := 1) x1 rfl
     have r2 := cell_in (j := 2) x1 rfl
     have r3 := cell_in (j := 3) x1 rfl
     have r4 := cell_in (j := 4) x1 rfl
     have q0 := free_in x1 0
     have q1 := free_in x1 1
     have q2 := free_in x1 2
     have q3 := free_in x1 3
     have q4 := free_in x1 4
     have t0 := cell_in (j := 0) x2 rfl
     have t1 := cell_in (j := 1) x2 rfl
     have t2 := cell_in (j := 2) x2 rfl
     have t3 := cell_in (j := 3) x2 rfl
     have t4 := cell_in (j := 4) x2 rfl
     have u4 := free_in x2 4
     clear x1 x2 hown hgrow hk)
  | fail "no arm")
 have x1 := (Below.heap_setCell w5 ⟨w.heap.size + 1, 4, none⟩ (.slice ao n cap) w.heap.size (by simp)).trans X1.out
 have hX := set5 x1 rfl (.int .i64 t) (.int .i64 arr) (.int .i64 work) (.int .i64 done) (.slice ao n cap)
 refine bodyPost_ret (results_cell_row (P := Tryz.prog) rfl _ _ w.heap.size _ _ (0, 0) _ rfl hX Tryz.underlying66 rfl Tryz.sizeTJob) rfl ?_
 have hb1 : But (w.heap.size + 1) w5 (w5.setCell ⟨w.heap.size + 1, 4, none⟩ (.slice ao n cap)) := (But.refl _ _).set 4 _
 have hb5 : But w.heap.size (w5.setCell ⟨w.heap.size + 1, 4, none⟩ (.slice ao n cap)) ((((((w5.setCell ⟨w.heap.size + 1, 4, none⟩ (.slice ao n cap)).setCell ⟨w.heap.size, 0, none⟩ (.int .i64 t)).setCell ⟨w.heap.size, 1, none⟩ (.int .i64 arr)).setCell ⟨w.heap.size, 2, none⟩ (.int .i64 work)).setCell ⟨w.heap.size, 3, none⟩ (.int .i64 done)).setCell ⟨w.heap.size, 4, none⟩ (.slice ao n cap)) := (((((But.refl _ _).set 0 _).set 1 _).set 2 _).set 3 _).set 4 _
 refine ⟨ao, cap, rfl, ?_, below5 (B5.out.setCell (by show w.heap.size ≤ w.heap.size + 1; omega) _) (Nat.le_refl _) _ _ _ _ _⟩
 have ho := O5.out
 rw [z2.out, List.nil_append] at ho
 have ho2 := owns_hold ho ⟨hb1.size, fun g hg => hb1.block g (owns_own ho g hg).2 (by have := (owns_own ho g hg).1; omega)⟩
 exact owns_hold ho2 ⟨hb5.size, fun g hg => hb5.block g (owns_own ho2 g hg).2 (by have := (owns_own ho2 g hg).1; omega)⟩
end Go.Proofs.YtchbehnkkcjdgaaGreat
namespace Go.Proofs.YtchbehnkkcjdgaaGreat
open Go.ChangeShapes Go.WideShapes Go.ChangeAt Go.RowKit
set_option linter.unusedVariables false
theorem growS_then {S : Nat → Prop} {a b c : World} (g : GrowS S S a b) (h : Below a.heap.size b c) : GrowS S S a c :=
 ⟨h.os.trans g.os, h.tape.trans g.tape, h.output.trans g.output, Nat.le_trans g.size h.size, fun k hk hs => (h.block k hk).trans (g.block k hk hs), fun k hk => .inl hk⟩
set_option maxRecDepth 100000 in
set_option maxHeartbeats 4000000 in
/-- A tick of a job is done. -/
theorem trun_any (w : World) (G o d : Nat) (a : Option Addr) (n c lo hi : Nat) (ops : List Wn) (cur : Array Value) (ty : TypeId) (hG : w.heap[G]? = some (.cells cur ty (0, 0))) (b3 : w.cell? ⟨G, o + 3, none⟩ = some (.int .i64 d)) (b4 : w.cell? ⟨G, o + 4, none⟩ = some (.slice a n c))
 (hn : ops.length = n) (hl : Lies w lo hi (.slice a n c) n 3 (ops.flatMap Wn.cells)) (hg : ∀ g, (Value.slice a n c).ownBlock = some g → g ≠ G) (hhi : hi ≤ w.heap.size) (hd : d ≤ 2000000) :
 Calls Tryz.prog 151 #[.pointer (some ⟨G, o, none⟩)] w fun e w' => e = .returned (.agg #[.int .i64 (ops.getD d zWn).at_, .int .i64 (ops.getD d zWn).len, .int .i64 (ops.getD d zWn).part]) ∧ But G w w' ∧ w'.heap[G]? = some (.cells (cur.setIfInBounds (o + 3) (.int .i64 ((d : Int) + 1))) ty (0, 0)) := by
 have e1 : IntKind.i64.wrap ((d : Int) + 1) = (d : Int) + 1 := IntWalk.i64_in _ (by omega)
 have hGl := lt_of_block hG
 have KA := Lib.hid (ops_read hn hl)
 have HNN := Lib.hid hn
 obtain ⟨V, hV⟩ : ∃ V, V = w.alloc (.cells #[.int .i64 0, .int .i64 0, .int .i64 0] 54) := ⟨_, rfl⟩
 have hbV : Hid (Below w.heap.size w V) := Lib.hid (by rw [hV]; exact below1 _ _)
 have hEV : V.heap[w.heap.size]? = some (.cells #[.int .i64 0, .int .i64 0, .int .i64 0] 54 (0, 0)) := by rw [hV]; exact heap_alloc_new _ _
 have hGV : V.heap[G]? = some (.cells cur ty (0, 0)) := (hbV.out.block G hGl).trans hG
 have y3 : V.cell? ⟨G, o + 3, none⟩ = some (.int .i64 d) := by unfold World.cell? at b3 ⊢; rw [hbV.out.block G hGl]; exact b3
 have y4 : V.cell? ⟨G, o + 4, none⟩ = some (.slice a n c) := by unfold World.cell? at b4 ⊢; rw [hbV.out.block G hGl]; exact b4
 have f3 := free_in hGV (o + 3)
 obtain ⟨E, hE⟩ : ∃ E, E = w.heap.size := ⟨_, rfl⟩
 have hne : E ≠ G := by omega
 obtain ⟨V1, hV1⟩ : ∃ V1, V1 = V.setCell ⟨G, o + 3, none⟩ (.int .i64 ((d : Int) + 1)) := ⟨_, rfl⟩
 have hB1 : But G V V1 := by rw [hV1]; exact (But.refl _ _).set _ _
 have hG1 : Hid (V1.heap[G]? = some (.cells (cur.setIfInBounds (o + 3) (.int .i64 ((d : Int) + 1))) ty (0, 0))) := Lib.hid (by rw [hV1]; exact set_at hGV)
 have z4 : V1.cell? ⟨G, o + 4, none⟩ = some (.slice a n c) := by
  have yc : cur[o + 4]? = some (.slice a n c) := by simpa [World.cell?, hGV] using y4
  exact cell_in hG1.out (by rw [Array.getElem?_setIfInBounds, if_neg (by omega)]; exact yc)
 rw [← hE] at hEV
 have hE1 : V1.heap[E]? = some (.cells #[.int .i64 0, .int .i64 0, .int .i64 0] 54 (0, 0)) := (hB1.block E (lt_of_block hEV) hne).trans hEV
 have HE1 := Lib.hid hE1
 have r0 := cell_in (j := 0) hE1 rfl
 have r1 := cell_in (j := 1) hE1 rfl
 have r2 := cell_in (j := 2) hE1 rfl
 have q0 := free_in hE1 0
 have q1 := free_in hE1 1
 have q2 := free_in hE1 2
 have HB : Hid (But G w V1) := Lib.hid ((But.of_below hbV.out).trans hB1)
 have HV := Lib.hid hV
 have HV1 := Lib.hid hV1
 have HE := Lib.hid hE
 have HNE := Lib.hid hne
 have hfin : Hid (∀ u0 u1 u2, (((V1.setCell ⟨E, 0, none⟩ u0).setCell ⟨E, 1, none⟩ u1).setCell ⟨E, 2, none⟩ u2).heap[E]? = some (.cells #[u0, u1, u2] 54 (0, 0)) ∧ But G w (((V1.setCell ⟨E, 0, none⟩ u0).setCell ⟨E, 1, none⟩ u1).setCell ⟨E, 2, none⟩ u2) ∧ (((V1.setCell ⟨E, 0, none⟩ u0).setCell ⟨E, 1, none⟩ u1).setCell ⟨E, 2, none⟩ u2).heap[G]? = some (.cells (cur.setIfInBounds (o + 3) (.int .i64 ((d : Int) + 1))) ty (0, 0))) := Lib.hid (fun u0 u1 u2 => by
  have hBE : But E V1 (((V1.setCell ⟨E, 0, none⟩ u0).setCell ⟨E, 1, none⟩ u1).setCell ⟨E, 2, none⟩ u2) := (((But.refl _ _).set 0 _).set 1 _).set 2 _
  refine ⟨set3t HE1.out rfl _ _ _, ?_, (hBE.block G (lt_of_block hG1.out) (fun e => HNE.out e.symm)).trans hG1.out⟩
  exact ⟨hBE.os.trans HB.out.os, hBE.tape.trans HB.out.tape, hBE.output.trans HB.out.output, Nat.le_trans HB.out.size hBE.size, fun k hk hkg => (hBE.block k (Nat.lt_of_lt_of_le hk HB.out.size) (by have := HE.out; omega)).trans (HB.out.block k hk hkg)⟩)
 clear hV hV1 hE hne hB1 hGV hEV hE1 hn hl hG hbV hGl
 go_enter Tryz.func151, Tryz.ntmps151
 go_upto_region 1 with fail
 rw [← HV.out, ← HE.out]
 clear b3 b4
 go_upto_region 3 with fail
 rw [← HV1.out]
 clear y3 y4 f3
 by_cases hlt : d < n
 ·have d0 : decide ((n : Int) ≤ (d : Int)) = false := decide_eq_false (by omega)
  have d1 : (0 : Int) ≤ (d : Int) := by omega
  have d2 : (d : Int) < (n : Int) := by omega
  obtain ⟨b, off, y0, y1, y2, rfl, hb1, hb, hy, hc⟩ := KA.out d hlt
  have hbG : b ≠ G := hg b rfl
  obtain ⟨k0, k1, k2⟩ := hc V1 (HB.out.block b (by omega) hbG)
  have HO : Hid (ops.getD d zWn = ⟨y0, y1, y2⟩) := Lib.hid (by rw [List.getD_eq_getElem?_getD, hy]; rfl)
  clear hb1 hb hy hc hbG
  go_wp2_with fail
  obtain ⟨x1, x2, x3⟩ := hfin.out (.int .i64 y0) (.int .i64 y1) (.int .i64 y2)
  refine bodyPost_ret (results_cell_row (P := Tryz.prog) rfl _ _ E _ _ (0, 0) _ rfl x1 Tryz.underlying54 rfl Tryz.sizeTOp) rfl ?_
  exact ⟨by rw [HO.out], x2, x3⟩
 ·have d0 : decide ((n : Int) ≤ (d : Int)) = true := decide_eq_true (by omega)
  have HO : Hid (ops.getD d zWn = zWn) := Lib.hid (by rw [List.getD_eq_getElem?_getD, List.getElem?_eq_none (by have := HNN.out; omega)]; rfl)
  go_wp2_with fail
  obtain ⟨x1, x2, x3⟩ := hfin.out (.int .i64 0) (.int .i64 0) (.int .i64 0)
  refine bodyPost_ret (results_cell_row (P := Tryz.prog) rfl _ _ E _ _ (0, 0) _ rfl x1 Tryz.underlying54 rfl Tryz.sizeTOp) rfl ?_
  exact ⟨by rw [HO.out]; rfl, x2, x3⟩
theorem seat_z (f : Nat → Jc) (ts : List Tk) (k : Nat) (x : Jc) : ∀ i r, (if i = k ∧ r = 4 then x.ops else if i = k ∧ r = 3 then .int .i64 x.done else if i = k ∧ r = 2 then .int .i64 x.work else if i = k ∧ r = 1 then .int .i64 x.arr else if i = k ∧ r = 0 then .int .i64 x.task else seatV f ts i r) = seatV (upd f k x) ts i r := by
 intro i r
 by_cases e : i = k
 ·subst e
  match r with
  | 0 => simp [seatV, upd_at]
  | 1 => simp [seatV, upd_at]
  | 2 => simp [seatV, upd_at]
  | 3 => simp [seatV, upd_at]
  | 4 => simp [seatV, upd_at]
  | 5 => simp [seatV]
  | 6 => simp [seatV]
  | 7 => simp [seatV]
  | 8 => simp [seatV]
  | 9 => simp [seatV]
  | (m + 10) => simp [seatV]
 ·have h2 : upd f k x i = f i := upd_ne _ _ e
  simp only [e, false_and, if_false]
  unfold seatV
  rw [h2]
theorem SeatsC.job {w : World} {G n : Nat} {f : Nat → Jc} {ts : List Tk} (h : SeatsC w G n (seatV f ts)) {k : Nat} (hk : k < n) (x : Jc) : SeatsC (((((w.setCell ⟨G, k * 11, none⟩ (.int .i64 x.task)).setCell ⟨G, k * 11 + 1, none⟩ (.int .i64 x.arr)).setCell ⟨G, k * 11 + 2, none⟩ (.int .i64 x.work)).setCell ⟨G, k * 11 + 3, none⟩ (.int .i64 x.done)).setCell ⟨G, k * 11 + 4, none⟩ x.ops) G n (seatV (upd f k x) ts) :=
 (((((h.set (q := 0) hk (by omega) _).set (q := 1) hk (by omega) _).set (q := 2) hk (by omega) _).set (q := 3) hk (by omega) _).set (q := 4) hk (by omega) _).congr (fun i _ r _ => seat_z f ts k x i r)
theorem dd_rem {js : Js} {D : Nat → Option Int} (h : ∀ k, (D k).isSome = hasJ js k) (k : Nat) : ∀ i, ((upd D k none) i).isSome = hasJ (upd js k none) i := fun i => by
 by_cases e : i = k
 ·subst e; rw [upd_at, hasJ_none (upd_at _ _ _)]; rfl
 ·rw [upd_ne _ _ e, hasJ_ne js _ e]; exact h i
theorem rem_keeps {js : Js} {k : Nat} : ∀ i j, (upd js k none) i = some j → js i = some j := fun i j h => by
 by_cases e : i = k
 ·subst e; rw [upd_at] at h; cases h
 ·rwa [upd_ne _ _ e] at h
set_option maxRecDepth 100000 in
set_option maxHeartbeats 4000000 in
/-- A job is gone. -/
theorem tleave_any (w : World) (T G lo hi H W X m : Nat) (S : Nat → Prop) (ts : List Tk) (hm : Bool) (js : Js) (D : Nat → Option Int) (f : Nat → Jc) (h : TbD w T G lo hi H W X m S ts hm js D f) (k : Nat) (j : Jb) (hj : js k = some j) :
 Calls Tryz.prog 144 #[.pointer (some ⟨T, 0, none⟩), .int .i64 k] w fun e w' => ∃ m', e = .returned (.tuple #[]) ∧ TbD w' T G lo hi H W X m' S ts hm (upd js k none) (upd D k none) (upd f k Jc.z) ∧ GrowS S S w w' := by
 have hk := h.ok.lt hj
 have c1 := h.c1
 obtain ⟨d, hd⟩ : ∃ d, D k = some d := Option.isSome_iff_exists.1 (by rw [h.dd]; exact hasJ_some hj)
 have HR := Lib.hid (hremove_in w lo hi H W X ts.length m D h.hp k d hd)
 have HT := Lib.hid h
 have HJ := Lib.hid hj
 have d1 : (0 : Int) ≤ (k : Int) := by omega
 obtain ⟨n, hn⟩ : ∃ n, n = ts.length := ⟨_, rfl⟩
 have HN := Lib.hid hn
 have d2 : (k : Int) < (n : Int) := by omega
 clear h hd hj hk hn
 go_enter Tryz.func144, Tryz.ntmps144
 go_wp2_with (first
  | (go_at_call 180; refine HR.out.mono ?_; rintro e w3 ⟨m', rfl, hm', hp', hM'⟩
     obtain ⟨h3, g3⟩ := HT.out.heap hp' hM' (by have := HT.out.cnt; have := cnt_rem HJ.out ts.length (HT.out.ok.lt HJ.out); omega) (dd_rem HT.out.dd k) rem_keeps
     have H3 := Lib.hid h3
     have G3 := Lib.hid g3
     have c0 := h3.c0
     rw [← HN.out] at c0
     obtain ⟨s0, s1, s2, s3, s4, _⟩ := h3.seatAt (HT.out.ok.lt HJ.out)
     have q0 := h3.st.free (k * 11)
     have q1 := h3.st.free (k * 11 + 1)
     have q2 := h3.st.free (k * 11 + 2)
     have q3 := h3.st.free (k * 11 + 3)
     have q4 := h3.st.free (k * 11 + 4)
     clear hm' hp' hM' h3 g3)
  | fail "no arm")
 go_end0
 have hs := H3.out.st.job (HT.out.ok.lt HJ.out) Jc.z
 obtain ⟨h4, g4⟩ := H3.out.seat (js' := upd js k none) (f' := upd f k Jc.z) ((((((But.refl G w3).set _ _).set _ _).set _ _).set _ _).set _ _) hs H3.out.cnt H3.out.ok H3.out.dd (fun i j' hi => by
  have hne : i ≠ k := fun e => by subst e; rw [upd_at] at hi; cases hi
  rw [upd_ne _ _ hne]
  exact ⟨(H3.out.jb i j' hi).1, j', hi, rfl, rfl⟩)
 exact ⟨m', rfl, h4, G3.out.trans g4⟩
end Go.Proofs.YtchbehnkkcjdgaaGreat
namespace Go.Proofs.YtchbehnkkcjdgaaGreat
open Go.ChangeShapes Go.WideShapes Go.ChangeAt Go.RowKit
set_option linter.unusedVariables false
theorem Tryz.infoTInt : (Tryz.prog.info? 3).map (fun i => (i.zero, i.size, i.bytes)) = some (some (.int .i64 0), 1, 8) := by kernel_rfl
theorem below_drewMT {B : Nat} {a w : World} (d : Nat) (h : Below B a w) : Below B a (w.drewN d) := ⟨h.os, h.tape, h.output, h.size, h.block⟩
set_option maxRecDepth 100000 in
set_option maxHeartbeats 4000000 in
theorem rise1_any (w : World) (G o : Nat) (th : Bool) (b5 : w.cell? ⟨G, o + 5, none⟩ = some (.bool th)) :
 Calls Tryz.prog 196 #[.pointer (some ⟨G, o, none⟩)] w fun e w' => e = .returned (.bool (!th)) ∧ ∃ n, w' = w.drewN n := by
 go_enter Tryz.func196, Tryz.ntmps196
 go_wp2
 go_ret
 exact ⟨rfl, 0, rfl⟩
set_option maxRecDepth 100000 in
set_option maxHeartbeats 4000000 in
theorem clear1_any (w : World) (v : Value) :
 Calls Tryz.prog 168 #[v] w fun e w' => e = .returned (.bool true) ∧ ∃ n, w' = w.drewN n := by
 go_enter Tryz.func168, Tryz.ntmps168
 go_wp2
 go_ret
 exact ⟨rfl, 0, rfl⟩
set_option maxRecDepth 100000 in
set_option maxHeartbeats 4000000 in
theorem missed1_any (w : World) (G o B : Nat) (arr d now : Int) (b1 : w.cell? ⟨G, o + 1, none⟩ = some (.int .i64 arr)) (b7 : w.cell? ⟨G, o + 7, none⟩ = some (.int .i64 d)) (h1 : 0 ≤ arr ∧ arr ≤ 4611686018427387904) (h2 : 0 ≤ d ∧ d ≤ 1000) (bB : w.cell? ⟨B, 0, none⟩ = some (.int .i64 now)) :
 Calls Tryz.prog 97 #[.pointer (some ⟨G, o, none⟩), .pointer (some ⟨B, 0, none⟩)] w fun e w' => e = .returned (.bool (decide (arr + d ≤ now))) ∧ ∃ n, w' = w.drewN n := by
 have HD : Hid (∀ W : World, W.heap = w.heap → Calls Tryz.prog 98 #[.pointer (some ⟨G, o, none⟩)] W fun e w' => e = .returned (.int .i64 (arr + d)) ∧ ∃ m, w' = W.drewN m) := Lib.hid (fun W hW => tdead_any W G o arr d (by unfold World.cell? at b1 ⊢; rw [hW]; exact b1) (by unfold World.cell? at b7 ⊢; rw [hW]; exact b7) h1 h2)
 clear b1 b7 h1 h2
 go_enter Tryz.func97, Tryz.ntmps97
 go_wp2_with fail
 go_quiet (first | (go_at_call 98; exact Calls.quiet_of (HD.out _ rfl)))
 go_wp2_with fail
 go_ret
 exact ⟨rfl, _, rfl⟩
set_option maxRecDepth 100000 in
set_option maxHeartbeats 8000000 in
theorem tdrop_rise (w : World) (T G lo hi H W X m : Nat) (S : Nat → Prop) (ts : List Tk) (hm : Bool) (js : Js) (D : Nat → Option Int) (f : Nat → Jc) (h : TbD w T G lo hi H W X m S ts hm js D f) :
 Calls Tryz.prog 96 #[.pointer (some ⟨T, 0, none⟩), .func (.func 196) #[] #[]] w fun e w' => ∃ m' f' ao cap, e = .returned (.slice ao (lisT (lowP ts) js ts.length).length cap) ∧ Lies w' w.heap.size w'.heap.size (.slice ao (lisT (lowP ts) js ts.length).length cap) (lisT (lowP ts) js ts.length).length 1 ((lisT (lowP ts) js ts.length).flatMap intCells) ∧ TbD w' T G lo hi H W X m' S ts hm (remT (lowP ts) js ts.length js) (remT (lowP ts) js ts.length D) f' ∧ GrowS S S w w' := by
 obtain ⟨p, hp⟩ : ∃ p : Nat → Jb → Bool, p = lowP ts := ⟨_, rfl⟩
 rw [← hp]
 have HP := Lib.hid hp
 have HTS := Lib.hid h.tk
 have HLT := Lib.hid h.lt
 have HW := Lib.hid h.ok
 have c0 := h.c0
 obtain ⟨n, hn⟩ : ∃ n, n = ts.length := ⟨_, rfl⟩
 rw [← hn] at c0
 rw [← hn]
 have HN := Lib.hid hn
 have n6 : n ≤ 6 := by rw [hn]; exact h.n6
 have H0 : Hid (TbD w T G lo hi H W X m S ts hm (remT p js 0 js) (remT p js 0 D) f) := Lib.hid (by rw [rem_zero, rem_zero]; exact h)
 obtain ⟨i0, hi0, hz0, hz1, hz2⟩ := info_parts Tryz.infoTInt
 have HI := Lib.hid hi0
 clear h hp hn hi0
 go_enter Tryz.func96, Tryz.ntmps96
 go_wp2_with fail
 go_loopw [5, 14] (fun s5 s14 wr => ∃ (k : Nat) (ao : Option Addr) (cap m' : Nat) (f' : Nat → Jc), k ≤ n ∧ s14 = .int .i64 k ∧ s5 = .slice ao (lisT p js k).length cap ∧ Hid (wr.ownsRow w.heap.size 3 1 (.slice ao (lisT p js k).length cap) (lisT p js k).length ((lisT p js k).flatMap intCells)) ∧ Hid (TbD wr T G lo hi H W X m' S ts hm (remT p js k js) (remT p js k D) f') ∧ Hid (GrowS S S w wr)) (fun _ s _ => n - (intOf s).toNat)
 case atStart => exact ⟨0, none, 0, m, f, Nat.zero_le _, rfl, rfl, Lib.hid ⟨rfl, .inl ⟨rfl, rfl⟩⟩, H0, Lib.hid (GrowS.of_below (Below.refl _ _))⟩
 case round =>
  clear H0 c0
  obtain ⟨k, ao, cap, m1, f1, hk, rfl, rfl, HO, HT, HG⟩ := hrel
  by_cases hlt : k < n
  ·have d0 : decide ((k : Int) < (n : Int)) = true := decide_eq_true (by omega)
   have d1 : (0 : Int) ≤ (k : Int) := by omega
   have d2 : (k : Int) < (n : Int) := by omega
   have HKT : Hid (k < ts.length) := Lib.hid (by rw [← HN.out]; exact hlt)
   have HTH := Lib.hid (tthere_any wr T G lo hi H W X m1 S ts hm _ _ f1 HT.out (k : Int))
   cases hj : js k with
   | none =>
     have HF : Hid (thereT ts (remT p js k js) (k : Int) = false) := Lib.hid (there_f (by rw [rem_here]; exact hj))
     have HQ : Hid (goneT p js k = false) := Lib.hid (gone_none hj)
     clear hj
     go_wp2_with (first
      | (go_at_call 143; refine HTH.out.mono ?_; rintro e w3 ⟨rfl, hw3⟩; rw [hw3, HF.out]; clear hw3)
      | fail "no arm")
     go_roundw
     case rel => exact ⟨k + 1, ao, cap, m1, f1, by omega, by go_num, by rw [lis_no HQ.out], by rw [lis_no HQ.out]; exact HO, by rw [rem_no HQ.out, rem_no HQ.out]; exact HT, HG⟩
     case measure => simp [intOf]; omega
   | some j =>
     have HF : Hid (thereT ts (remT p js k js) (k : Int) = true) := Lib.hid (there_yes HKT.out (by rw [rem_here]; exact hj))
     have HJ := Lib.hid hj
     have HR : Hid (remT p js k js k = some j) := Lib.hid (by rw [rem_here]; exact hj)
     have c0 := HT.out.c0
     rw [← HN.out] at c0
     cases hb : p k j with
     | false =>
       have HQ : Hid (goneT p js k = false) := Lib.hid (by rw [gone_some hj]; exact hb)
       have HCL : Hid (Calls Tryz.prog 196 #[.pointer (some ⟨G, k * 11, none⟩)] wr fun e w' => e = .returned (.bool false) ∧ Below wr.heap.size wr w') := Lib.hid (by
        have hbb := hb
        rw [HP.out] at hbb
        have := rise1_any wr G (k * 11) (tkAt ts k).hi ((HT.out.seatAt HKT.out).2.2.2.2.2.1)
        rw [show (!(tkAt ts k).hi) = false from hbb] at this
        exact this.mono (fun e w' h => ⟨h.1, by obtain ⟨n, hn⟩ := h.2; rw [hn]; exact below_drewMT _ (Below.refl _ _)⟩))
       clear hj hb
       go_wp2_with (first
        | (go_at_call 143; refine HTH.out.mono ?_; rintro e w3 ⟨rfl, hw3⟩; rw [hw3, HF.out]; clear hw3)
        | (go_at_call 196; refine HCL.out.mono ?_; rintro e w4 ⟨rfl, hb4⟩; have HB4 := Lib.hid hb4; clear hb4)
        | fail "no arm")
       go_roundw
       case rel => exact ⟨k + 1, ao, cap, m1, f1, by omega, by go_num, by rw [lis_no HQ.out], by rw [lis_no HQ.out]; exact Lib.hid (owns_later HO.out HB4.out), by rw [rem_no HQ.out, rem_no HQ.out]; exact Lib.hid (HT.out.later HB4.out), Lib.hid (growS_then HG.out (HB4.out.mono HG.out.size))⟩
       case measure => simp [intOf]; omega
     | true =>
       have HQ : Hid (goneT p js k = true) := Lib.hid (by rw [gone_some hj]; exact hb)
       have HCL : Hid (Calls Tryz.prog 196 #[.pointer (some ⟨G, k * 11, none⟩)] wr fun e w' => e = .returned (.bool true) ∧ Below wr.heap.size wr w') := Lib.hid (by
        have hbb := hb
        rw [HP.out] at hbb
        have := rise1_any wr G (k * 11) (tkAt ts k).hi ((HT.out.seatAt HKT.out).2.2.2.2.2.1)
        rw [show (!(tkAt ts k).hi) = true from hbb] at this
        exact this.mono (fun e w' h => ⟨h.1, by obtain ⟨n, hn⟩ := h.2; rw [hn]; exact below_drewMT _ (Below.refl _ _)⟩))
       obtain ⟨q, hq⟩ : ∃ q, q = (lisT p js k).length := ⟨_, rfl⟩
       have hq6 : q ≤ 6 := by have := lis_len p js k; omega
       obtain ⟨xs, hxs⟩ : ∃ xs, xs = (lisT p js k).flatMap intCells := ⟨_, rfl⟩
       rw [← hq, ← hxs] at HO
       rw [← hq]
       have HQX := Lib.hid (And.intro hq hxs)
       clear hj hb hq hxs
       go_wp2_with (first
        | (go_at_call 143; refine HTH.out.mono ?_; rintro e w3 ⟨rfl, hw3⟩; rw [hw3, HF.out]; clear hw3)
        | (go_at_call 196; refine HCL.out.mono ?_; rintro e w4 ⟨rfl, hb4⟩; have HB4 := Lib.hid hb4; clear hb4)
        | (go_at_call 144; refine (tleave_any w4 T G lo hi H W X m1 S ts hm _ _ f1 (HT.out.later HB4.out) k j HR.out).mono ?_; rintro e w5 ⟨m5, rfl, h5', g5'⟩
           rw [← rem_yes HQ.out, ← rem_yes HQ.out] at h5'
           have H5 := Lib.hid h5'
           have G5 : Hid (GrowS S S w w5) := Lib.hid ((growS_then HG.out (HB4.out.mono HG.out.size)).trans g5')
           have HVB : Hid (Below w5.heap.size w5 (w5.alloc (.cells #[.int .i64 (k : Int)] 3))) := Lib.hid (below1 _ _)
           have HV : Hid ((w5.alloc (.cells #[.int .i64 (k : Int)] 3)).ownsRow w.heap.size 3 1 (.slice ao q cap) q xs ∧ Lies (w5.alloc (.cells #[.int .i64 (k : Int)] 3)) w5.heap.size (w5.heap.size + 1) (.slice (some ⟨w5.heap.size, 0, none⟩) 1 1) 1 1 [.int .i64 (k : Int)] ∧ w.heap.size ≤ (w5.alloc (.cells #[.int .i64 (k : Int)] 3)).heap.size) := Lib.hid ⟨owns_later (owns_hold HO.out ⟨by have := g5'.size; have := HB4.out.size; omega, fun g hg => (g5'.block g (by have := (owns_own HO.out g hg).2; have := HB4.out.size; omega) (fun hs => by have := HLT.out g hs; have := (owns_own HO.out g hg).1; omega)).trans (HB4.out.block g (owns_own HO.out g hg).2)⟩) (below1 _ _), one_lies (heap_alloc_new _ _) rfl, by have := G5.out.size; simp; omega⟩
           clear h5' g5')
        | (refine wpList_append_lie2 (by rfl) (.tmp 33) (.tmp 35) 24 (by rfl) w.heap.size 3 i0 _ 1 8 Tryz.underlying24 HI.out hz0 hz1 hz2 rfl (by omega) (.slice ao q cap) q xs (by rfl) HV.out.1 (.slice (some ⟨w5.heap.size, 0, none⟩) 1 1) w5.heap.size (w5.heap.size + 1) 1 [.int .i64 (k : Int)] (by rfl) HV.out.2.1 (in_one (k : Int)) (q + 1) rfl (by simp only [maxLen]; omega) (by omega) HV.out.2.2 ?_
           intro ao2 cap2 w6 hown6' hgrow6' hob6'
           have hown6 := Lib.hid hown6'
           have B6 : Hid (Below w.heap.size w5 w6) := Lib.hid ((HVB.out.mono G5.out.size).grown hgrow6' (by have := HVB.out.size; have := G5.out.size; omega) (fun g hg => (owns_block HV.out.1 g hg).1))
           clear hown6' hgrow6' hob6')
        | fail "no arm")
       go_roundw
       case rel => exact ⟨k + 1, ao2, cap2, m5, upd f1 k Jc.z, by omega, by go_num, by rw [lis_yes HQ.out, List.length_append, ← HQX.out.1]; rfl, by rw [lis_yes HQ.out, List.length_append, ← HQX.out.1, List.flatMap_append, ← HQX.out.2]; exact hown6, Lib.hid (H5.out.keep (fun g hg => B6.out.block g (HLT.out g hg)) B6.out.size), Lib.hid (growS_then G5.out B6.out)⟩
       case measure => simp [intOf]; omega
  ·have d0 : decide ((k : Int) < (n : Int)) = false := decide_eq_false (by omega)
   have hkn : k = n := by omega
   subst hkn
   go_wp2_with fail
   go_ret
   exact ⟨m1, f1, ao, cap, rfl, Lies.of_owns HO.out, HT.out, HG.out⟩
set_option maxRecDepth 100000 in
set_option maxHeartbeats 8000000 in
theorem tdrop_clear (w : World) (T G lo hi H W X m : Nat) (S : Nat → Prop) (ts : List Tk) (hm : Bool) (js : Js) (D : Nat → Option Int) (f : Nat → Jc) (h : TbD w T G lo hi H W X m S ts hm js D f) :
 Calls Tryz.prog 96 #[.pointer (some ⟨T, 0, none⟩), .func (.func 168) #[] #[]] w fun e w' => ∃ m' f' ao cap, e = .returned (.slice ao (lisT (fun _ _ => true) js ts.length).length cap) ∧ Lies w' w.heap.size w'.heap.size (.slice ao (lisT (fun _ _ => true) js ts.length).length cap) (lisT (fun _ _ => true) js ts.length).length 1 ((lisT (fun _ _ => true) js ts.length).flatMap intCells) ∧ TbD w' T G lo hi H W X m' S ts hm (remT (fun _ _ => true) js ts.length js) (remT (fun _ _ => true) js ts.length D) f' ∧ GrowS S S w w' := by
 obtain ⟨p, hp⟩ : ∃ p : Nat → Jb → Bool, p = fun _ _ => true := ⟨_, rfl⟩
 rw [← hp]
 have HP := Lib.hid hp
 have HTS := Lib.hid h.tk
 have HLT := Lib.hid h.lt
 have HW := Lib.hid h.ok
 have c0 := h.c0
 obtain ⟨n, hn⟩ : ∃ n, n = ts.length := ⟨_, rfl⟩
 rw [← hn] at c0
 rw [← hn]
 have HN := Lib.hid hn
 have n6 : n ≤ 6 := by rw [hn]; exact h.n6
 have H0 : Hid (TbD w T G lo hi H W X m S ts hm (remT p js 0 js) (remT p js 0 D) f) := Lib.hid (by rw [rem_zero, rem_zero]; exact h)
 obtain ⟨i0, hi0, hz0, hz1, hz2⟩ := info_parts Tryz.infoTInt
 have HI := Lib.hid hi0
 clear h hp hn hi0
 go_enter Tryz.func96, Tryz.ntmps96
 go_wp2_with fail
 go_loopw [5, 14] (fun s5 s14 wr => ∃ (k : Nat) (ao : Option Addr) (cap m' : Nat) (f' : Nat → Jc), k ≤ n ∧ s14 = .int .i64 k ∧ s5 = .slice ao (lisT p js k).length cap ∧ Hid (wr.ownsRow w.heap.size 3 1 (.slice ao (lisT p js k).length cap) (lisT p js k).length ((lisT p js k).flatMap intCells)) ∧ Hid (TbD wr T G lo hi H W X m' S ts hm (remT p js k js) (remT p js k D) f') ∧ Hid (GrowS S S w wr)) (fun _ s _ => n - (intOf s).toNat)
 case atStart => exact ⟨0, none, 0, m, f, Nat.zero_le _, rfl, rfl, Lib.hid ⟨rfl, .inl ⟨rfl, rfl⟩⟩, H0, Lib.hid (GrowS.of_below (Below.refl _ _))⟩
 case round =>
  clear H0 c0
  obtain ⟨k, ao, cap, m1, f1, hk, rfl, rfl, HO, HT, HG⟩ := hrel
  by_cases hlt : k < n
  ·have d0 : decide ((k : Int) < (n : Int)) = true := decide_eq_true (by omega)
   have d1 : (0 : Int) ≤ (k : Int) := by omega
   have d2 : (k : Int) < (n : Int) := by omega
   have HKT : Hid (k < ts.length) := Lib.hid (by rw [← HN.out]; exact hlt)
   have HTH := Lib.hid (tthere_any wr T G lo hi H W X m1 S ts hm _ _ f1 HT.out (k : Int))
   cases hj : js k with
   | none =>
     have HF : Hid (thereT ts (remT p js k js) (k : Int) = false) := Lib.hid (there_f (by rw [rem_here]; exact hj))
     have HQ : Hid (goneT p js k = false) := Lib.hid (gone_none hj)
     clear hj
     go_wp2_with (first
      | (go_at_call 143; refine HTH.out.mono ?_; rintro e w3 ⟨rfl, hw3⟩; rw [hw3, HF.out]; clear hw3)
      | fail "no arm")
     go_roundw
     case rel => exact ⟨k + 1, ao, cap, m1, f1, by omega, by go_num, by rw [lis_no HQ.out], by rw [lis_no HQ.out]; exact HO, by rw [rem_no HQ.out, rem_no HQ.out]; exact HT, HG⟩
     case measure => simp [intOf]; omega
   | some j =>
     have HF : Hid (thereT ts (remT p js k js) (k : Int) = true) := Lib.hid (there_yes HKT.out (by rw [rem_here]; exact hj))
     have HJ := Lib.hid hj
     have HR : Hid (remT p js k js k = some j) := Lib.hid (by rw [rem_here]; exact hj)
     have c0 := HT.out.c0
     rw [← HN.out] at c0
     cases hb : p k j with
     | false =>
       have HQ : Hid (goneT p js k = false) := Lib.hid (by rw [gone_some hj]; exact hb)
       have HCL : Hid (Calls Tryz.prog 168 #[.pointer (some ⟨G, k * 11, none⟩)] wr fun e w' => e = .returned (.bool false) ∧ Below wr.heap.size wr w') := Lib.hid (by
        have hbb := hb
        rw [HP.out] at hbb
        have := clear1_any wr (.pointer (some ⟨G, k * 11, none⟩))
        rw [show true = false from hbb] at this
        exact this.mono (fun e w' h => ⟨h.1, by obtain ⟨n, hn⟩ := h.2; rw [hn]; exact below_drewMT _ (Below.refl _ _)⟩))
       clear hj hb
       go_wp2_with (first
        | (go_at_call 143; refine HTH.out.mono ?_; rintro e w3 ⟨rfl, hw3⟩; rw [hw3, HF.out]; clear hw3)
        | (go_at_call 168; refine HCL.out.mono ?_; rintro e w4 ⟨rfl, hb4⟩; have HB4 := Lib.hid hb4; clear hb4)
        | fail "no arm")
       go_roundw
       case rel => exact ⟨k + 1, ao, cap, m1, f1, by omega, by go_num, by rw [lis_no HQ.out], by rw [lis_no HQ.out]; exact Lib.hid (owns_later HO.out HB4.out), by rw [rem_no HQ.out, rem_no HQ.out]; exact Lib.hid (HT.out.later HB4.out), Lib.hid (growS_then HG.out (HB4.out.mono HG.out.size))⟩
       case measure => simp [intOf]; omega
     | true =>
       have HQ : Hid (goneT p js k = true) := Lib.hid (by rw [gone_some hj]; exact hb)
       have HCL : Hid (Calls Tryz.prog 168 #[.pointer (some ⟨G, k * 11, none⟩)] wr fun e w' => e = .returned (.bool true) ∧ Below wr.heap.size wr w') := Lib.hid (by
        have hbb := hb
        rw [HP.out] at hbb
        have := clear1_any wr (.pointer (some ⟨G, k * 11, none⟩))
        rw [show true = true from rfl] at this
        exact this.mono (fun e w' h => ⟨h.1, by obtain ⟨n, hn⟩ := h.2; rw [hn]; exact below_drewMT _ (Below.refl _ _)⟩))
       obtain ⟨q, hq⟩ : ∃ q, q = (lisT p js k).length := ⟨_, rfl⟩
       have hq6 : q ≤ 6 := by have := lis_len p js k; omega
       obtain ⟨xs, hxs⟩ : ∃ xs, xs = (lisT p js k).flatMap intCells := ⟨_, rfl⟩
       rw [← hq, ← hxs] at HO
       rw [← hq]
       have HQX := Lib.hid (And.intro hq hxs)
       clear hj hb hq hxs
       go_wp2_with (first
        | (go_at_call 143; refine HTH.out.mono ?_; rintro e w3 ⟨rfl, hw3⟩; rw [hw3, HF.out]; clear hw3)
        | (go_at_call 168; refine HCL.out.mono ?_; rintro e w4 ⟨rfl, hb4⟩; have HB4 := Lib.hid hb4; clear hb4)
        | (go_at_call 144; refine (tleave_any w4 T G lo hi H W X m1 S ts hm _ _ f1 (HT.out.later HB4.out) k j HR.out).mono ?_; rintro e w5 ⟨m5, rfl, h5', g5'⟩
           rw [← rem_yes HQ.out, ← rem_yes HQ.out] at h5'
           have H5 := Lib.hid h5'
           have G5 : Hid (GrowS S S w w5) := Lib.hid ((growS_then HG.out (HB4.out.mono HG.out.size)).trans g5')
           have HVB : Hid (Below w5.heap.size w5 (w5.alloc (.cells #[.int .i64 (k : Int)] 3))) := Lib.hid (below1 _ _)
           have HV : Hid ((w5.alloc (.cells #[.int .i64 (k : Int)] 3)).ownsRow w.heap.size 3 1 (.slice ao q cap) q xs ∧ Lies (w5.alloc (.cells #[.int .i64 (k : Int)] 3)) w5.heap.size (w5.heap.size + 1) (.slice (some ⟨w5.heap.size, 0, none⟩) 1 1) 1 1 [.int .i64 (k : Int)] ∧ w.heap.size ≤ (w5.alloc (.cells #[.int .i64 (k : Int)] 3)).heap.size) := Lib.hid ⟨owns_later (owns_hold HO.out ⟨by have := g5'.size; have := HB4.out.size; omega, fun g hg => (g5'.block g (by have := (owns_own HO.out g hg).2; have := HB4.out.size; omega) (fun hs => by have := HLT.out g hs; have := (owns_own HO.out g hg).1; omega)).trans (HB4.out.block g (owns_own HO.out g hg).2)⟩) (below1 _ _), one_lies (heap_alloc_new _ _) rfl, by have := G5.out.size; simp; omega⟩
           clear h5' g5')
        | (refine wpList_append_lie2 (by rfl) (.tmp 33) (.tmp 35) 24 (by rfl) w.heap.size 3 i0 _ 1 8 Tryz.underlying24 HI.out hz0 hz1 hz2 rfl (by omega) (.slice ao q cap) q xs (by rfl) HV.out.1 (.slice (some ⟨w5.heap.size, 0, none⟩) 1 1) w5.heap.size (w5.heap.size + 1) 1 [.int .i64 (k : Int)] (by rfl) HV.out.2.1 (in_one (k : Int)) (q + 1) rfl (by simp only [maxLen]; omega) (by omega) HV.out.2.2 ?_
           intro ao2 cap2 w6 hown6' hgrow6' hob6'
           have hown6 := Lib.hid hown6'
           have B6 : Hid (Below w.heap.size w5 w6) := Lib.hid ((HVB.out.mono G5.out.size).grown hgrow6' (by have := HVB.out.size; have := G5.out.size; omega) (fun g hg => (owns_block HV.out.1 g hg).1))
           clear hown6' hgrow6' hob6')
        | fail "no arm")
       go_roundw
       case rel => exact ⟨k + 1, ao2, cap2, m5, upd f1 k Jc.z, by omega, by go_num, by rw [lis_yes HQ.out, List.length_append, ← HQX.out.1]; rfl, by rw [lis_yes HQ.out, List.length_append, ← HQX.out.1, List.flatMap_append, ← HQX.out.2]; exact hown6, Lib.hid (H5.out.keep (fun g hg => B6.out.block g (HLT.out g hg)) B6.out.size), Lib.hid (growS_then G5.out B6.out)⟩
       case measure => simp [intOf]; omega
  ·have d0 : decide ((k : Int) < (n : Int)) = false := decide_eq_false (by omega)
   have hkn : k = n := by omega
   subst hkn
   go_wp2_with fail
   go_ret
   exact ⟨m1, f1, ao, cap, rfl, Lies.of_owns HO.out, HT.out, HG.out⟩
set_option maxRecDepth 100000 in
set_option maxHeartbeats 8000000 in
theorem tdrop_miss (w : World) (T G lo hi H W X m : Nat) (S : Nat → Prop) (ts : List Tk) (hm : Bool) (js : Js) (D : Nat → Option Int) (f : Nat → Jc) (h : TbD w T G lo hi H W X m S ts hm js D f) (now : Int) (B : Nat) (hB : w.cell? ⟨B, 0, none⟩ = some (.int .i64 now)) (hBl : B < w.heap.size) (hBS : ¬ S B) :
 Calls Tryz.prog 96 #[.pointer (some ⟨T, 0, none⟩), .func (.func 97) #[] #[.pointer (some ⟨B, 0, none⟩)]] w fun e w' => ∃ m' f' ao cap, e = .returned (.slice ao (lisT (misP ts now) js ts.length).length cap) ∧ Lies w' w.heap.size w'.heap.size (.slice ao (lisT (misP ts now) js ts.length).length cap) (lisT (misP ts now) js ts.length).length 1 ((lisT (misP ts now) js ts.length).flatMap intCells) ∧ TbD w' T G lo hi H W X m' S ts hm (remT (misP ts now) js ts.length js) (remT (misP ts now) js ts.length D) f' ∧ GrowS S S w w' := by
 obtain ⟨p, hp⟩ : ∃ p : Nat → Jb → Bool, p = misP ts now := ⟨_, rfl⟩
 rw [← hp]
 have HP := Lib.hid hp
 have HTS := Lib.hid h.tk
 have HLT := Lib.hid h.lt
 have HW := Lib.hid h.ok
 have c0 := h.c0
 obtain ⟨n, hn⟩ : ∃ n, n = ts.length := ⟨_, rfl⟩
 rw [← hn] at c0
 rw [← hn]
 have HN := Lib.hid hn
 have n6 : n ≤ 6 := by rw [hn]; exact h.n6
 have KB : Hid (∀ Y, GrowS S S w Y → Y.cell? ⟨B, 0, none⟩ = some (.int .i64 now)) := Lib.hid (fun Y hY => by unfold World.cell? at hB ⊢; rw [hY.block B hBl hBS]; exact hB)
 clear hB hBl hBS
 have H0 : Hid (TbD w T G lo hi H W X m S ts hm (remT p js 0 js) (remT p js 0 D) f) := Lib.hid (by rw [rem_zero, rem_zero]; exact h)
 obtain ⟨i0, hi0, hz0, hz1, hz2⟩ := info_parts Tryz.infoTInt
 have HI := Lib.hid hi0
 clear h hp hn hi0
 go_enter Tryz.func96, Tryz.ntmps96
 go_wp2_with fail
 go_loopw [5, 14] (fun s5 s14 wr => ∃ (k : Nat) (ao : Option Addr) (cap m' : Nat) (f' : Nat → Jc), k ≤ n ∧ s14 = .int .i64 k ∧ s5 = .slice ao (lisT p js k).length cap ∧ Hid (wr.ownsRow w.heap.size 3 1 (.slice ao (lisT p js k).length cap) (lisT p js k).length ((lisT p js k).flatMap intCells)) ∧ Hid (TbD wr T G lo hi H W X m' S ts hm (remT p js k js) (remT p js k D) f') ∧ Hid (GrowS S S w wr)) (fun _ s _ => n - (intOf s).toNat)
 case atStart => exact ⟨0, none, 0, m, f, Nat.zero_le _, rfl, rfl, Lib.hid ⟨rfl, .inl ⟨rfl, rfl⟩⟩, H0, Lib.hid (GrowS.of_below (Below.refl _ _))⟩
 case round =>
  clear H0 c0
  obtain ⟨k, ao, cap, m1, f1, hk, rfl, rfl, HO, HT, HG⟩ := hrel
  by_cases hlt : k < n
  ·have d0 : decide ((k : Int) < (n : Int)) = true := decide_eq_true (by omega)
   have d1 : (0 : Int) ≤ (k : Int) := by omega
   have d2 : (k : Int) < (n : Int) := by omega
   have HKT : Hid (k < ts.length) := Lib.hid (by rw [← HN.out]; exact hlt)
   have HTH := Lib.hid (tthere_any wr T G lo hi H W X m1 S ts hm _ _ f1 HT.out (k : Int))
   cases hj : js k with
   | none =>
     have HF : Hid (thereT ts (remT p js k js) (k : Int) = false) := Lib.hid (there_f (by rw [rem_here]; exact hj))
     have HQ : Hid (goneT p js k = false) := Lib.hid (gone_none hj)
     clear hj
     go_wp2_with (first
      | (go_at_call 143; refine HTH.out.mono ?_; rintro e w3 ⟨rfl, hw3⟩; rw [hw3, HF.out]; clear hw3)
      | fail "no arm")
     go_roundw
     case rel => exact ⟨k + 1, ao, cap, m1, f1, by omega, by go_num, by rw [lis_no HQ.out], by rw [lis_no HQ.out]; exact HO, by rw [rem_no HQ.out, rem_no HQ.out]; exact HT, HG⟩
     case measure => simp [intOf]; omega
   | some j =>
     have HF : Hid (thereT ts (remT p js k js) (k : Int) = true) := Lib.hid (there_yes HKT.out (by rw [rem_here]; exact hj))
     have HJ := Lib.hid hj
     have HR : Hid (remT p js k js k = some j) := Lib.hid (by rw [rem_here]; exact hj)
     have c0 := HT.out.c0
     rw [← HN.out] at c0
     cases hb : p k j with
     | false =>
       have HQ : Hid (goneT p js k = false) := Lib.hid (by rw [gone_some hj]; exact hb)
       have HCL : Hid (Calls Tryz.prog 97 #[.pointer (some ⟨G, k * 11, none⟩), .pointer (some ⟨B, 0, none⟩)] wr fun e w' => e = .returned (.bool false) ∧ Below wr.heap.size wr w') := Lib.hid (by
        have hbb := hb
        rw [HP.out] at hbb
        have := missed1_any wr G (k * 11) B j.arr (tkAt ts k).d now (by obtain ⟨_, _, _, g, _⟩ := HT.out.jobAt HR.out; exact g) ((HT.out.seatAt HKT.out).2.2.2.2.2.2.1) ⟨(HW.out.bd k j hj).1, (HW.out.bd k j hj).2.1⟩ (by have := okTk_bd HTS.out HKT.out; omega) (KB.out wr HG.out)
        rw [show decide (j.arr + (tkAt ts k).d ≤ now) = false from hbb] at this
        exact this.mono (fun e w' h => ⟨h.1, by obtain ⟨n, hn⟩ := h.2; rw [hn]; exact below_drewMT _ (Below.refl _ _)⟩))
       clear hj hb
       go_wp2_with (first
        | (go_at_call 143; refine HTH.out.mono ?_; rintro e w3 ⟨rfl, hw3⟩; rw [hw3, HF.out]; clear hw3)
        | (go_at_call 97; refine HCL.out.mono ?_; rintro e w4 ⟨rfl, hb4⟩; have HB4 := Lib.hid hb4; clear hb4)
        | fail "no arm")
       go_roundw
       case rel => exact ⟨k + 1, ao, cap, m1, f1, by omega, by go_num, by rw [lis_no HQ.out], by rw [lis_no HQ.out]; exact Lib.hid (owns_later HO.out HB4.out), by rw [rem_no HQ.out, rem_no HQ.out]; exact Lib.hid (HT.out.later HB4.out), Lib.hid (growS_then HG.out (HB4.out.mono HG.out.size))⟩
       case measure => simp [intOf]; omega
     | true =>
       have HQ : Hid (goneT p js k = true) := Lib.hid (by rw [gone_some hj]; exact hb)
       have HCL : Hid (Calls Tryz.prog 97 #[.pointer (some ⟨G, k * 11, none⟩), .pointer (some ⟨B, 0, none⟩)] wr fun e w' => e = .returned (.bool true) ∧ Below wr.heap.size wr w') := Lib.hid (by
        have hbb := hb
        rw [HP.out] at hbb
        have := missed1_any wr G (k * 11) B j.arr (tkAt ts k).d now (by obtain ⟨_, _, _, g, _⟩ := HT.out.jobAt HR.out; exact g) ((HT.out.seatAt HKT.out).2.2.2.2.2.2.1) ⟨(HW.out.bd k j hj).1, (HW.out.bd k j hj).2.1⟩ (by have := okTk_bd HTS.out HKT.out; omega) (KB.out wr HG.out)
        rw [show decide (j.arr + (tkAt ts k).d ≤ now) = true from hbb] at this
        exact this.mono (fun e w' h => ⟨h.1, by obtain ⟨n, hn⟩ := h.2; rw [hn]; exact below_drewMT _ (Below.refl _ _)⟩))
       obtain ⟨q, hq⟩ : ∃ q, q = (lisT p js k).length := ⟨_, rfl⟩
       have hq6 : q ≤ 6 := by have := lis_len p js k; omega
       obtain ⟨xs, hxs⟩ : ∃ xs, xs = (lisT p js k).flatMap intCells := ⟨_, rfl⟩
       rw [← hq, ← hxs] at HO
       rw [← hq]
       have HQX := Lib.hid (And.intro hq hxs)
       clear hj hb hq hxs
       go_wp2_with (first
        | (go_at_call 143; refine HTH.out.mono ?_; rintro e w3 ⟨rfl, hw3⟩; rw [hw3, HF.out]; clear hw3)
        | (go_at_call 97; refine HCL.out.mono ?_; rintro e w4 ⟨rfl, hb4⟩; have HB4 := Lib.hid hb4; clear hb4)
        | (go_at_call 144; refine (tleave_any w4 T G lo hi H W X m1 S ts hm _ _ f1 (HT.out.later HB4.out) k j HR.out).mono ?_; rintro e w5 ⟨m5, rfl, h5', g5'⟩
           rw [← rem_yes HQ.out, ← rem_yes HQ.out] at h5'
           have H5 := Lib.hid h5'
           have G5 : Hid (GrowS S S w w5) := Lib.hid ((growS_then HG.out (HB4.out.mono HG.out.size)).trans g5')
           have HVB : Hid (Below w5.heap.size w5 (w5.alloc (.cells #[.int .i64 (k : Int)] 3))) := Lib.hid (below1 _ _)
           have HV : Hid ((w5.alloc (.cells #[.int .i64 (k : Int)] 3)).ownsRow w.heap.size 3 1 (.slice ao q cap) q xs ∧ Lies (w5.alloc (.cells #[.int .i64 (k : Int)] 3)) w5.heap.size (w5.heap.size + 1) (.slice (some ⟨w5.heap.size, 0, none⟩) 1 1) 1 1 [.int .i64 (k : Int)] ∧ w.heap.size ≤ (w5.alloc (.cells #[.int .i64 (k : Int)] 3)).heap.size) := Lib.hid ⟨owns_later (owns_hold HO.out ⟨by have := g5'.size; have := HB4.out.size; omega, fun g hg => (g5'.block g (by have := (owns_own HO.out g hg).2; have := HB4.out.size; omega) (fun hs => by have := HLT.out g hs; have := (owns_own HO.out g hg).1; omega)).trans (HB4.out.block g (owns_own HO.out g hg).2)⟩) (below1 _ _), one_lies (heap_alloc_new _ _) rfl, by have := G5.out.size; simp; omega⟩
           clear h5' g5')
        | (refine wpList_append_lie2 (by rfl) (.tmp 33) (.tmp 35) 24 (by rfl) w.heap.size 3 i0 _ 1 8 Tryz.underlying24 HI.out hz0 hz1 hz2 rfl (by omega) (.slice ao q cap) q xs (by rfl) HV.out.1 (.slice (some ⟨w5.heap.size, 0, none⟩) 1 1) w5.heap.size (w5.heap.size + 1) 1 [.int .i64 (k : Int)] (by rfl) HV.out.2.1 (in_one (k : Int)) (q + 1) rfl (by simp only [maxLen]; omega) (by omega) HV.out.2.2 ?_
           intro ao2 cap2 w6 hown6' hgrow6' hob6'
           have hown6 := Lib.hid hown6'
           have B6 : Hid (Below w.heap.size w5 w6) := Lib.hid ((HVB.out.mono G5.out.size).grown hgrow6' (by have := HVB.out.size; have := G5.out.size; omega) (fun g hg => (owns_block HV.out.1 g hg).1))
           clear hown6' hgrow6' hob6')
        | fail "no arm")
       go_roundw
       case rel => exact ⟨k + 1, ao2, cap2, m5, upd f1 k Jc.z, by omega, by go_num, by rw [lis_yes HQ.out, List.length_append, ← HQX.out.1]; rfl, by rw [lis_yes HQ.out, List.length_append, ← HQX.out.1, List.flatMap_append, ← HQX.out.2]; exact hown6, Lib.hid (H5.out.keep (fun g hg => B6.out.block g (HLT.out g hg)) B6.out.size), Lib.hid (growS_then G5.out B6.out)⟩
       case measure => simp [intOf]; omega
  ·have d0 : decide ((k : Int) < (n : Int)) = false := decide_eq_false (by omega)
   have hkn : k = n := by omega
   subst hkn
   go_wp2_with fail
   go_ret
   exact ⟨m1, f1, ao, cap, rfl, Lies.of_owns HO.out, HT.out, HG.out⟩
end Go.Proofs.YtchbehnkkcjdgaaGreat
namespace Go.Proofs.YtchbehnkkcjdgaaGreat
open Go.ChangeShapes Go.WideShapes Go.ChangeAt Go.RowKit
set_option linter.unusedVariables false
theorem results_pairT {P : Program} {fn : Func} {p u : Tmp} {ty : TypeId} (h : fn.results = #[.cell p ty, .tmp u]) (tmps : Array Value) (w : World) (g : Nat) (t : TypeId) (cs : Array Value) (fr : Nat × Nat) (d : TypeDesc) (x : Value)
 (hp : tmps.getD p undef = .pointer (some ⟨g, 0, none⟩)) (hx : tmps.getD u undef = x) (hg : w.heap[g]? = some (.cells cs t fr))
 (hu : P.underlying ty = some d) (hd : (match d with | .struct _ | .array _ _ => true | _ => false) = true) (hi : (P.info? ty).map (·.size) = some cs.size) :
 (results fn tmps).run P w = .ok (.tuple #[.agg cs, x]) w := by
 rw [results_cell_tmp h, hp, hx]
 simp [asAddr, run_loadVar_row w g t ty cs fr d hg hu hd hi, Result.andThen]
/-- What comes of a job after a tick. -/
def outW (ts : List Tk) (hm : Bool) (k : Nat) (j : Jb) : Int :=
 if j.work ≤ j.done then 1 else if j.done < budT ts hm k then 0 else if hm = false ∧ (tkAt ts k).hi = true ∧ (tkAt ts k).lo < (tkAt ts k).top then 3 else 2
theorem outW_J {ts : List Tk} {hm : Bool} {k : Nat} {j : Jb} (h : j.done + 1 ≤ j.work) : outW ts hm k { j with done := j.done + 1 } = outJ ts hm k j := by
 unfold outW outJ
 by_cases e : j.done + 1 = j.work
 ·rw [if_pos e, if_pos (by show j.work ≤ j.done + 1; omega)]
 ·rw [if_neg e, if_neg (by show ¬ j.work ≤ j.done + 1; omega)]
def stayT {α : Type} (o : Int) (a b : α) : α := if o = 0 ∨ o = 3 then a else b
theorem stay_yes {α : Type} {o : Int} (h : o = 0 ∨ o = 3) (a b : α) : stayT o a b = a := if_pos h
theorem stay_no {α : Type} {o : Int} (h : ¬ (o = 0 ∨ o = 3)) (a b : α) : stayT o a b = b := if_neg h
section
variable {w : World} {T G lo hi H W X m : Nat} {S : Nat → Prop} {ts : List Tk} {hm : Bool} {js : Js} {D : Nat → Option Int} {f : Nat → Jc}
theorem TbD.ended (h : TbD w T G lo hi H W X m S ts hm js D f) {k : Nat} {j : Jb} (hj : js k = some j) : Calls Tryz.prog 184 #[.pointer (some ⟨G, k * 11, none⟩)] w fun e w' => e = .returned (.bool (decide (j.work ≤ j.done))) ∧ Below w.heap.size w w' := by
 obtain ⟨_, _, _, _, g2, g3, _⟩ := h.jobAt hj
 exact (tended_any w G (k * 11) j.work j.done g2 g3).mono (fun e w' h => ⟨h.1, by obtain ⟨n, hn⟩ := h.2; rw [hn]; exact below_drewMT _ (Below.refl _ _)⟩)
theorem TbD.spent (h : TbD w T G lo hi H W X m S ts hm js D f) {k : Nat} {j : Jb} (hj : js k = some j) : Calls Tryz.prog 185 #[.pointer (some ⟨G, k * 11, none⟩), .bool hm] w fun e w' => e = .returned (.bool (decide (budT ts hm k ≤ j.done))) ∧ Below w.heap.size w w' := by
 obtain ⟨_, _, _, _, _, g3, _⟩ := h.jobAt hj
 obtain ⟨_, _, _, _, _, _, _, _, g9, g10⟩ := h.seatAt (h.ok.lt hj)
 exact (tspent_any w G (k * 11) j.done (tkAt ts k).lo (tkAt ts k).top hm g3 g9 g10).mono (fun e w' h => ⟨h.1, by obtain ⟨n, hn⟩ := h.2; rw [hn]; exact below_drewMT _ (Below.refl _ _)⟩)
theorem TbD.rises (h : TbD w T G lo hi H W X m S ts hm js D f) {k : Nat} {j : Jb} (hj : js k = some j) : Calls Tryz.prog 186 #[.pointer (some ⟨G, k * 11, none⟩), .bool hm] w fun e w' => e = .returned (.bool (!hm && ((tkAt ts k).hi && decide ((tkAt ts k).lo < (tkAt ts k).top)))) ∧ Below w.heap.size w w' := by
 obtain ⟨_, _, _, _, _, g5, _, _, g9, g10⟩ := h.seatAt (h.ok.lt hj)
 exact (trises_any w G (k * 11) (tkAt ts k).lo (tkAt ts k).top (tkAt ts k).hi hm g5 g9 g10).mono (fun e w' h => ⟨h.1, by obtain ⟨n, hn⟩ := h.2; rw [hn]; exact below_drewMT _ (Below.refl _ _)⟩)
theorem TbD.due (h : TbD w T G lo hi H W X m S ts hm js D f) {k : Nat} {j : Jb} (hj : js k = some j) (b : Bool) : Calls Tryz.prog 163 #[.pointer (some ⟨G, k * 11, none⟩), .bool b] w fun e w' => e = .returned (.int .i64 (dueT ts b k j)) ∧ ∃ n, w' = w.drewN n := by
 obtain ⟨_, _, _, g1, _⟩ := h.jobAt hj
 obtain ⟨_, _, _, _, _, _, g7, g8, _⟩ := h.seatAt (h.ok.lt hj)
 have hb := h.ok.bd k j hj
 have ht := okTk_bd h.tk (h.ok.lt hj)
 exact tdue_any w G (k * 11) j.arr (tkAt ts k).d (tkAt ts k).v b g1 g7 g8 ⟨hb.1, hb.2.1⟩ (by omega) (by omega)
end
set_option maxRecDepth 100000 in
set_option maxHeartbeats 4000000 in
theorem toutcome_any (w : World) (T G lo hi H W X m : Nat) (S : Nat → Prop) (ts : List Tk) (hm : Bool) (js : Js) (D : Nat → Option Int) (f : Nat → Jc) (h : TbD w T G lo hi H W X m S ts hm js D f) (k : Nat) (j : Jb) (hj : js k = some j) :
 Calls Tryz.prog 152 #[.pointer (some ⟨T, 0, none⟩), .int .i64 k] w fun e w' => ∃ m' f', e = .returned (.int .i64 (outW ts hm k j)) ∧ TbD w' T G lo hi H W X m' S ts hm (stayT (outW ts hm k j) js (upd js k none)) (stayT (outW ts hm k j) D (upd D k none)) f' ∧ GrowS S S w w' := by
 have HJ := Lib.hid hj
 have KT : Hid (∀ Y, Below w.heap.size w Y → TbD Y T G lo hi H W X m S ts hm js D f) := Lib.hid (fun Y hY => h.later hY)
 obtain ⟨n, hn⟩ : ∃ n, n = ts.length := ⟨_, rfl⟩
 have d1 : (0 : Int) ≤ (k : Int) := by omega
 have d2 : (k : Int) < (n : Int) := by have := h.ok.lt hj; omega
 have KC : Hid (∀ Y, Below w.heap.size w Y → Y.cell? ⟨T, 0, none⟩ = some (.slice (some ⟨G, 0, none⟩) n n) ∧ Y.cell? ⟨T, 2, none⟩ = some (.bool hm)) := Lib.hid (fun Y hY => by rw [hn]; exact ⟨(h.later hY).c0, (h.later hY).c2⟩)
 obtain ⟨o, ho⟩ : ∃ o, o = outW ts hm k j := ⟨_, rfl⟩
 rw [← ho]
 have HR : Hid (Below w.heap.size w w) := Lib.hid (Below.refl _ _)
 obtain ⟨c0, _⟩ := KC.out w (Below.refl _ _)
 clear h hj hn
 by_cases q1 : j.work ≤ j.done
 ·have HE : Hid (decide (j.work ≤ j.done) = true) := Lib.hid (decide_eq_true q1)
  have HO : Hid (o = 1) := Lib.hid (by rw [ho]; unfold outW; rw [if_pos q1])
  clear ho q1
  go_enter Tryz.func152, Tryz.ntmps152
  go_wp2_with (first
   | (go_at_call 184; refine ((KT.out w HR.out).ended HJ.out).mono ?_; rintro e w3 ⟨rfl, hb3⟩; rw [HE.out]; have HB3 := Lib.hid hb3; clear hb3)
   | (go_at_call 144; refine (tleave_any w3 T G lo hi H W X m S ts hm js D f (KT.out w3 HB3.out) k j HJ.out).mono ?_; rintro e w4 ⟨m4, rfl, h4, g4⟩; have H4 := Lib.hid h4; have G4 := Lib.hid g4; clear h4 g4)
   | fail "no arm")
  go_ret
  have ho := HO.out
  subst ho
  exact ⟨m4, _, rfl, by rw [stay_no (by omega), stay_no (by omega)]; exact H4.out, (GrowS.of_below HB3.out).trans G4.out⟩
 ·have HE : Hid (decide (j.work ≤ j.done) = false) := Lib.hid (decide_eq_false q1)
  by_cases q2 : j.done < budT ts hm k
  ·have HS : Hid (decide (budT ts hm k ≤ j.done) = false) := Lib.hid (decide_eq_false (by omega))
   have HO : Hid (o = 0) := Lib.hid (by rw [ho]; unfold outW; rw [if_neg q1, if_pos q2])
   clear ho q1 q2
   go_enter Tryz.func152, Tryz.ntmps152
   go_wp2_with (first
    | (go_at_call 184; refine ((KT.out w HR.out).ended HJ.out).mono ?_; rintro e w3 ⟨rfl, hb3⟩; rw [HE.out]; obtain ⟨y0, y1⟩ := KC.out w3 hb3; have HB3 := Lib.hid hb3; clear hb3)
    | (go_at_call 185; refine ((KT.out w3 HB3.out).spent HJ.out).mono ?_; rintro e w4 ⟨rfl, hb4⟩; rw [HS.out]; have HB4 := Lib.hid (HB3.out.trans (hb4.mono HB3.out.size)); clear hb4)
    | fail "no arm")
   go_ret
   have ho := HO.out
   subst ho
   exact ⟨m, f, rfl, by rw [stay_yes (by omega), stay_yes (by omega)]; exact KT.out _ HB4.out, GrowS.of_below HB4.out⟩
  ·have HS : Hid (decide (budT ts hm k ≤ j.done) = true) := Lib.hid (decide_eq_true (by omega))
   by_cases q3 : hm = false ∧ (tkAt ts k).hi = true ∧ (tkAt ts k).lo < (tkAt ts k).top
   ·have HV : Hid ((!hm && ((tkAt ts k).hi && decide ((tkAt ts k).lo < (tkAt ts k).top))) = true) := Lib.hid (by rw [q3.1, q3.2.1, decide_eq_true q3.2.2]; rfl)
    have HO : Hid (o = 3) := Lib.hid (by rw [ho]; unfold outW; rw [if_neg q1, if_neg q2, if_pos q3])
    clear ho q1 q2 q3
    go_enter Tryz.func152, Tryz.ntmps152
    go_wp2_with (first
     | (go_at_call 186; have _z := HB4; refine ((KT.out w4 HB4.out).rises HJ.out).mono ?_; rintro e w5 ⟨rfl, hb5⟩; rw [HV.out]; have HB5 := Lib.hid (HB4.out.trans (hb5.mono HB4.out.size)); clear hb5)
     | (go_at_call 184; refine ((KT.out w HR.out).ended HJ.out).mono ?_; rintro e w3 ⟨rfl, hb3⟩; rw [HE.out]; obtain ⟨y0, y1⟩ := KC.out w3 hb3; have HB3 := Lib.hid hb3; clear hb3)
     | (go_at_call 185; refine ((KT.out w3 HB3.out).spent HJ.out).mono ?_; rintro e w4 ⟨rfl, hb4⟩; rw [HS.out]; have HB4 := Lib.hid (HB3.out.trans (hb4.mono HB3.out.size)); obtain ⟨z0, z1⟩ := KC.out w4 HB4.out; clear hb4)
     | fail "no arm")
    go_ret
    have ho := HO.out
    subst ho
    exact ⟨m, f, rfl, by rw [stay_yes (by omega), stay_yes (by omega)]; exact KT.out _ HB5.out, GrowS.of_below HB5.out⟩
   ·have HV : Hid ((!hm && ((tkAt ts k).hi && decide ((tkAt ts k).lo < (tkAt ts k).top))) = false) := Lib.hid (by
     cases hv : (!hm && ((tkAt ts k).hi && decide ((tkAt ts k).lo < (tkAt ts k).top))) with
     | false => rfl
     | true =>
       simp only [Bool.and_eq_true, Bool.not_eq_true', decide_eq_true_eq] at hv
       exact absurd hv q3)
    have HO : Hid (o = 2) := Lib.hid (by rw [ho]; unfold outW; rw [if_neg q1, if_neg q2, if_neg q3])
    clear ho q1 q2 q3
    go_enter Tryz.func152, Tryz.ntmps152
    go_wp2_with (first
     | (go_at_call 186; have _z := HB4; refine ((KT.out w4 HB4.out).rises HJ.out).mono ?_; rintro e w5 ⟨rfl, hb5⟩; rw [HV.out]; have HB5 := Lib.hid (HB4.out.trans (hb5.mono HB4.out.size)); clear hb5)
     | (go_at_call 184; refine ((KT.out w HR.out).ended HJ.out).mono ?_; rintro e w3 ⟨rfl, hb3⟩; rw [HE.out]; obtain ⟨y0, y1⟩ := KC.out w3 hb3; have HB3 := Lib.hid hb3; clear hb3)
     | (go_at_call 185; refine ((KT.out w3 HB3.out).spent HJ.out).mono ?_; rintro e w4 ⟨rfl, hb4⟩; rw [HS.out]; have HB4 := Lib.hid (HB3.out.trans (hb4.mono HB3.out.size)); obtain ⟨z0, z1⟩ := KC.out w4 HB4.out; clear hb4)
     | (go_at_call 144; refine (tleave_any w5 T G lo hi H W X m S ts hm js D f (KT.out w5 HB5.out) k j HJ.out).mono ?_; rintro e w6 ⟨m6, rfl, h6, g6⟩; have H6 := Lib.hid h6; have G6 := Lib.hid g6; clear h6 g6)
     | fail "no arm")
    go_ret
    have ho := HO.out
    subst ho
    exact ⟨m6, _, rfl, by rw [stay_no (by omega), stay_no (by omega)]; exact H6.out, (GrowS.of_below HB5.out).trans G6.out⟩
set_option maxRecDepth 100000 in
set_option maxHeartbeats 4000000 in
theorem thigh_any (w : World) (T : Nat) (S : Nat → Prop) (ts : List Tk) (hm : Bool) (js : Js) (h : TbP T ts hm js w S) :
 Calls Tryz.prog 76 #[.pointer (some ⟨T, 0, none⟩)] w fun e w' => e = .returned (.bool hm) ∧ Below w.heap.size w w' := by
 obtain ⟨_, G, lo, hi, H, W, X, m, f, h⟩ := h
 have c2 := h.c2
 clear h
 go_enter Tryz.func76, Tryz.ntmps76
 go_wp2
 go_ret
 exact ⟨rfl, Below.refl _ _⟩
set_option maxRecDepth 100000 in
set_option maxHeartbeats 4000000 in
theorem tlen_any (w : World) (T : Nat) (S : Nat → Prop) (ts : List Tk) (hm : Bool) (js : Js) (h : TbP T ts hm js w S) :
 Calls Tryz.prog 181 #[.pointer (some ⟨T, 0, none⟩)] w fun e w' => e = .returned (.int .i64 (cntT js ts.length : Nat)) ∧ Below w.heap.size w w' := by
 obtain ⟨_, G, lo, hi, H, W, X, m, f, h⟩ := h
 have c1 := h.c1
 obtain ⟨f', x, hx, _⟩ := h.hp
 have HL := Lib.hid (hlen_any w lo hi H W X ts.length m f' x hx)
 have HC := Lib.hid h.cnt
 clear h hx
 go_enter Tryz.func181, Tryz.ntmps181
 go_wp2_with (go_at_call 169; refine HL.out.mono ?_; rintro e w3 ⟨rfl, hw3⟩; rw [hw3]; clear hw3)
 go_ret
 exact ⟨by rw [← HC.out]; first | done | rfl, Below.refl _ _⟩
set_option maxRecDepth 100000 in
set_option maxHeartbeats 4000000 in
theorem tfirst_any (w : World) (T : Nat) (S : Nat → Prop) (ts : List Tk) (hm : Bool) (js : Js) (h : TbP T ts hm js w S) :
 Calls Tryz.prog 72 #[.pointer (some ⟨T, 0, none⟩)] w fun e w' => e = .returned (.tuple #[.int .i64 (fkV ts hm js), .int .i64 (fdV ts hm js), .bool (foV ts hm js)]) ∧ Below w.heap.size w w' := by
 obtain ⟨ho, G, lo, hi, H, W, X, m, f, h⟩ := h
 have c1 := h.c1
 obtain ⟨R, hR, _⟩ := h.hp.list
 obtain ⟨f', x, hx, hg, hod⟩ := h.hp
 have HF := Lib.hid (hfirst_any w lo hi H W X ts.length m f' x _ R hx hg hod hR)
 have HV : Hid (fstV R = .tuple #[.int .i64 (fkV ts hm js), .int .i64 (fdV ts hm js), .bool (foV ts hm js)]) := Lib.hid (by
  rcases first_rep ho hR with ⟨h1, h2⟩ | ⟨b, d, R', h1, h2, h3⟩
  ·subst h1; unfold fkV fdV foV; rw [h2]; rfl
  ·subst h1; unfold fkV fdV foV; rw [h2, h3]; rfl)
 clear h hx hg hod hR ho
 go_enter Tryz.func72, Tryz.ntmps72
 go_wp2_with (go_at_call 124; refine HF.out.mono ?_; rintro e w3 ⟨rfl, hb3⟩; rw [HV.out])
 ((try simp only [Exit.inBlock, Exit.then]); refine bodyPost_ret (results_tmp3 rfl _ _ _) rfl ?_)
 exact ⟨rfl, hb3⟩
set_option maxRecDepth 100000 in
set_option maxHeartbeats 4000000 in
theorem tfall_any (w : World) (T : Nat) (S : Nat → Prop) (ts : List Tk) (hm : Bool) (js : Js) (h : TbP T ts hm js w S) :
 Calls Tryz.prog 145 #[.pointer (some ⟨T, 0, none⟩)] w fun e w' => ∃ S', e = .returned (.bool (falV ts hm js)) ∧ TbP T ts (falH ts hm js) js w' S' ∧ GrowS S S' w w' := by
 have HP := Lib.hid h
 have HH := Lib.hid (thigh_any w T S ts hm js h)
 cases hm with
 | false =>
   clear h
   go_enter Tryz.func145, Tryz.ntmps145
   go_wp2_with (go_at_call 76; refine HH.out.mono ?_; rintro e w3 ⟨rfl, hb3⟩)
   go_ret
   exact ⟨S, rfl, (tb_own _ _ _ _).later HP.out hb3, GrowS.of_below hb3⟩
 | true =>
   have KL : Hid (∀ Y, Below w.heap.size w Y → Calls Tryz.prog 181 #[.pointer (some ⟨T, 0, none⟩)] Y fun e w' => e = .returned (.int .i64 (cntT js ts.length : Nat)) ∧ Below Y.heap.size Y w') := Lib.hid (fun Y hY => tlen_any Y T S ts true js ((tb_own _ _ _ _).later HP.out hY))
   obtain ⟨c, hc⟩ : ∃ c, c = cntT js ts.length := ⟨_, rfl⟩
   rw [← hc] at KL
   by_cases h0 : c = 0
   ·subst h0
    have HF : Hid (falV ts true js = true ∧ falH ts true js = false) := Lib.hid (by unfold falH; have : falV ts true js = true := (by unfold falV; rw [← hc]; rfl); rw [this]; exact ⟨rfl, rfl⟩)
    obtain ⟨ho, G, lo, hi, H, W, X, m, f, h⟩ := h
    have HJ := Lib.hid (fal_dm ts true js ho HF.out.1)
    have HT := Lib.hid h
    have HO := Lib.hid ho
    clear h ho hc
    go_enter Tryz.func145, Tryz.ntmps145
    go_wp2_with (first
     | (go_at_call 76; refine HH.out.mono ?_; rintro e w3 ⟨rfl, hb3⟩; have HB3 := Lib.hid hb3; clear hb3)
     | (go_at_call 181; refine (KL.out w3 HB3.out).mono ?_; rintro e w4 ⟨rfl, hb4⟩; have HB4 := Lib.hid (HB3.out.trans (hb4.mono HB3.out.size)); have x1 := (HT.out.later HB4.out).box; have y2 : w4.cell? ⟨T, 2, none⟩ = some (.bool true) := cell_in x1 rfl; have f2 := free_in x1 2; clear hb4 x1)
     | fail "no arm")
    go_ret
    obtain ⟨h5, g5⟩ := (HT.out.later HB4.out).mode false
    have hd : dmT ts true js = dmT ts false js := by rw [HJ.out]; rfl
    rw [hd] at h5
    exact ⟨S, by rw [HF.out.1]; first | done | rfl, by rw [HF.out.2]; exact ⟨HO.out, G, lo, hi, H, W, X, m, f, h5⟩, (GrowS.of_below HB4.out).trans g5⟩
   ·have t0 : decide (0 < (c : Int)) = true := decide_eq_true (by omega)
    have HF : Hid (falV ts true js = false ∧ falH ts true js = true) := Lib.hid (by unfold falH; have : falV ts true js = false := (by unfold falV; rw [← hc, decide_eq_false h0]; rfl); rw [this]; exact ⟨rfl, rfl⟩)
    clear h hc
    go_enter Tryz.func145, Tryz.ntmps145
    go_wp2_with (first
     | (go_at_call 76; refine HH.out.mono ?_; rintro e w3 ⟨rfl, hb3⟩; have HB3 := Lib.hid hb3; clear hb3)
     | (go_at_call 181; refine (KL.out w3 HB3.out).mono ?_; rintro e w4 ⟨rfl, hb4⟩; have HB4 := Lib.hid (HB3.out.trans (hb4.mono HB3.out.size)); clear hb4)
     | fail "no arm")
    go_ret
    exact ⟨S, by rw [HF.out.1]; first | done | rfl, by rw [HF.out.2]; exact (tb_own _ _ _ _).later HP.out HB4.out, GrowS.of_below HB4.out⟩
end Go.Proofs.YtchbehnkkcjdgaaGreat
namespace Go.Proofs.YtchbehnkkcjdgaaGreat
open Go.ChangeShapes Go.WideShapes Go.ChangeAt Go.RowKit
set_option linter.unusedVariables false
theorem growS_new {S : Nat → Prop} {E : Nat} {w a b : World} (g : GrowS S S w a) (h : But E a b) (hE : w.heap.size ≤ E) : GrowS S S w b :=
 ⟨h.os.trans g.os, h.tape.trans g.tape, h.output.trans g.output, Nat.le_trans g.size h.size, fun k hk hs => (h.block k (Nat.lt_of_lt_of_le hk g.size) (by omega)).trans (g.block k hk hs), fun k hk => .inl hk⟩
theorem upd_upd {α : Type} (f : Nat → α) (k : Nat) (a b : α) : upd (upd f k a) k b = upd f k b := by
 funext i
 by_cases e : i = k
 ·subst e; rw [upd_at, upd_at]
 ·rw [upd_ne _ _ e, upd_ne _ _ e, upd_ne _ _ e]
theorem upd_self {α : Type} (f : Nat → α) (k : Nat) : upd f k (f k) = f := by
 funext i
 by_cases e : i = k
 ·subst e; rw [upd_at]
 ·rw [upd_ne _ _ e]
theorem lies_any {w : World} {e sz n c : Nat} {a : Option Addr} {xs : List Value} (h : ORow w e sz (.slice a n c) n xs) : Lies w 0 w.heap.size (.slice a n c) n sz xs := h.lies (fun g hg => ⟨Nat.zero_le _, h.lt g hg⟩)
theorem wn_flat (l : List Wn) : ∀ u ∈ l.flatMap Wn.cells, u.oneCell' = true := flat_one _ wn_one _
set_option maxRecDepth 100000 in
set_option maxHeartbeats 4000000 in
theorem tget_any (w : World) (T : Nat) (S : Nat → Prop) (ts : List Tk) (hm : Bool) (js : Js) (h : TbP T ts hm js w S) (t : Int) :
 Calls Tryz.prog 128 #[.pointer (some ⟨T, 0, none⟩), .int .i64 t] w fun e w' => ∃ ao cap, e = .returned (.tuple #[.agg #[.int .i64 (getT ts js t), .int .i64 (getJ ts js t).arr, .int .i64 (getJ ts js t).work, .int .i64 (getJ ts js t).done, .slice ao (getJ ts js t).ops.length cap], .bool (thereT ts js t)]) ∧ Lies w' w.heap.size w'.heap.size (.slice ao (getJ ts js t).ops.length cap) (getJ ts js t).ops.length 3 ((getJ ts js t).ops.flatMap Wn.cells) ∧ Below w.heap.size w w' := by
 obtain ⟨_, G, lo, hi, H, W, X, m, f, h⟩ := h
 obtain ⟨V, hV⟩ : ∃ V, V = w.alloc (.cells #[.int .i64 0, .int .i64 0, .int .i64 0, .int .i64 0, .slice none 0 0] 66) := ⟨_, rfl⟩
 obtain ⟨E, hE⟩ : ∃ E, E = w.heap.size := ⟨_, rfl⟩
 have hbV : Hid (Below w.heap.size w V) := Lib.hid (by rw [hV]; exact below1 _ _)
 have hEV : V.heap[E]? = some (.cells #[.int .i64 0, .int .i64 0, .int .i64 0, .int .i64 0, .slice none 0 0] 66 (0, 0)) := by rw [hV, hE]; exact heap_alloc_new _ _
 have HEV := Lib.hid hEV
 have HT := Lib.hid (h.later hbV.out)
 have HTH := Lib.hid (tthere_any V T G lo hi H W X m S ts hm js _ f HT.out t)
 have HV := Lib.hid hV
 have HE := Lib.hid hE
 have r0 := cell_in (j := 0) hEV rfl
 have r1 := cell_in (j := 1) hEV rfl
 have r2 := cell_in (j := 2) hEV rfl
 have r3 := cell_in (j := 3) hEV rfl
 have r4 := cell_in (j := 4) hEV rfl
 have q0 := free_in hEV 0
 have q1 := free_in hEV 1
 have q2 := free_in hEV 2
 have q3 := free_in hEV 3
 have q4 := free_in hEV 4
 clear h hV hE hEV
 cases ht : thereT ts js t with
 | false =>
   obtain ⟨g1, g2⟩ := get_no ht
   have HF := Lib.hid ht
   rw [g1, g2]
   clear ht g1 g2
   go_enter Tryz.func128, Tryz.ntmps128
   go_upto_region 1 with fail
   rw [← HV.out, ← HE.out]
   go_wp2_with (first
    | (go_at_call 143; refine HTH.out.mono ?_; rintro e w3 ⟨rfl, hw3⟩; rw [hw3, HF.out]; clear hw3)
    | fail "no arm")
   have hX := set5 HEV.out rfl (.int .i64 0) (.int .i64 0) (.int .i64 0) (.int .i64 0) (.slice none 0 0)
   refine bodyPost_ret (results_pairT (P := Tryz.prog) rfl _ _ E _ _ (0, 0) _ _ rfl rfl hX Tryz.underlying66 rfl Tryz.sizeTJob) rfl ?_
   exact ⟨none, 0, rfl, ⟨none, 0, rfl, rfl, fun _ => ⟨rfl, rfl⟩, .inl rfl⟩, below5 hbV.out (by rw [HE.out]; exact Nat.le_refl _) _ _ _ _ _⟩
 | true =>
   obtain ⟨k, j, rfl, hk, hj⟩ := there_nat ht
   obtain ⟨g1, g2⟩ := get_yes hk hj
   have HF := Lib.hid ht
   rw [g1, g2]
   obtain ⟨oa, oc, a0, a1, a2, a3, a4, hr, eo⟩ := HT.out.jobAt hj
   have HA := Lib.hid (tapart_any V G (k * 11) k j.arr j.work j.done oa j.ops.length oc 0 V.heap.size _ a0 a1 a2 a3 a4 (lies_any hr) (wn_flat _) (Nat.le_refl _) (HT.out.ok.bd k j hj).2.2.2.2.2.2)
   have c0 := HT.out.c0
   obtain ⟨n, hn⟩ : ∃ n, n = ts.length := ⟨_, rfl⟩
   rw [← hn] at c0
   have d1 : (0 : Int) ≤ (k : Int) := by omega
   have d2 : (k : Int) < (n : Int) := by omega
   clear ht g1 g2 a0 a1 a2 a3 a4 hr eo hj hk hn
   go_enter Tryz.func128, Tryz.ntmps128
   go_upto_region 1 with fail
   rw [← HV.out, ← HE.out]
   go_wp2_with (first
    | (go_at_call 143; refine HTH.out.mono ?_; rintro e w3 ⟨rfl, hw3⟩; rw [hw3, HF.out]; clear hw3)
    | (go_at_call 161; refine HA.out.mono ?_; rintro e w4 ⟨ao, cap, rfl, ho4, hb4⟩
       have X4 := Lib.hid ((hb4.block E (lt_of_block HEV.out)).trans HEV.out)
       have O4 := Lib.hid ho4
       have B4 := Lib.hid hb4
       have z0 := cell_in (j := 0) X4.out rfl
       have z1 := cell_in (j := 1) X4.out rfl
       have z2 := cell_in (j := 2) X4.out rfl
       have z3 := cell_in (j := 3) X4.out rfl
       have z4 := cell_in (j := 4) X4.out rfl
       have p0 := free_in X4.out 0
       have p1 := free_in X4.out 1
       have p2 := free_in X4.out 2
       have p3 := free_in X4.out 3
       have p4 := free_in X4.out 4
       clear ho4 hb4)
    | fail "no arm")
   have hX := set5 X4.out rfl (.int .i64 k) (.int .i64 j.arr) (.int .i64 j.work) (.int .i64 j.done) (.slice ao j.ops.length cap)
   refine bodyPost_ret (results_pairT (P := Tryz.prog) rfl _ _ E _ _ (0, 0) _ _ rfl rfl hX Tryz.underlying66 rfl Tryz.sizeTJob) rfl ?_
   have hB5 : But E w4 (((((w4.setCell ⟨E, 0, none⟩ (.int .i64 k)).setCell ⟨E, 1, none⟩ (.int .i64 j.arr)).setCell ⟨E, 2, none⟩ (.int .i64 j.work)).setCell ⟨E, 3, none⟩ (.int .i64 j.done)).setCell ⟨E, 4, none⟩ (.slice ao j.ops.length cap)) := (((((But.refl _ _).set 0 _).set 1 _).set 2 _).set 3 _).set 4 _
   have hz : E < V.heap.size := lt_of_block HEV.out
   have he := HE.out
   exact ⟨ao, cap, rfl, (Lies.of_owns (owns_hold O4.out ⟨hB5.size, fun g hg => hB5.block g (owns_own O4.out g hg).2 (by have := (owns_own O4.out g hg).1; omega)⟩)).wider (by omega) (Nat.le_refl _), below5 (hbV.out.trans (B4.out.mono hbV.out.size)) (by omega) _ _ _ _ _⟩
theorem seat_done (f : Nat → Jc) (ts : List Tk) (k : Nat) (d : Int) : ∀ i r, (if i = k ∧ r = 3 then .int .i64 d else seatV f ts i r) = seatV (upd f k ⟨(f k).task, (f k).arr, (f k).work, d, (f k).ops⟩) ts i r := by
 intro i r
 by_cases e : i = k
 ·subst e
  match r with
  | 0 => simp [seatV, upd_at]
  | 1 => simp [seatV, upd_at]
  | 2 => simp [seatV, upd_at]
  | 3 => simp [seatV, upd_at]
  | 4 => simp [seatV, upd_at]
  | 5 => simp [seatV]
  | 6 => simp [seatV]
  | 7 => simp [seatV]
  | 8 => simp [seatV]
  | 9 => simp [seatV]
  | (m + 10) => simp [seatV]
 ·have h2 : upd f k ⟨(f k).task, (f k).arr, (f k).work, d, (f k).ops⟩ i = f i := upd_ne _ _ e
  simp only [e, false_and, if_false]
  unfold seatV
  rw [h2]
/-- A tick of a task's job. -/
theorem TbD.tick {w : World} {T G lo hi H W X m : Nat} {S : Nat → Prop} {ts : List Tk} {hm : Bool} {js : Js} {D : Nat → Option Int} {f : Nat → Jc} (h : TbD w T G lo hi H W X m S ts hm js D f) {k : Nat} {j : Jb} (hj : js k = some j) (hd : j.done < j.work) :
 Calls Tryz.prog 151 #[.pointer (some ⟨G, k * 11, none⟩)] w fun e w' => ∃ f', e = .returned (.agg #[.int .i64 (opT ts js k).at_, .int .i64 (opT ts js k).len, .int .i64 (opT ts js k).part]) ∧ TbD w' T G lo hi H W X m S ts hm (upd js k (some { j with done := j.done + 1 })) D f' ∧ GrowS S S w w' := by
 have hk := h.ok.lt hj
 obtain ⟨oa, oc, a0, a1, a2, a3, a4, hr, eo⟩ := h.jobAt hj
 obtain ⟨e0, _, hg⟩ := h.jb k j hj
 have hb := h.ok.bd k j hj
 obtain ⟨d, hd'⟩ : ∃ d : Nat, j.done = (d : Int) := ⟨j.done.toNat, by omega⟩
 have hst := h.st
 obtain ⟨cur, h1, h2, h3⟩ := hst
 rw [hd'] at a3
 have hrun := trun_any w G (k * 11) d oa j.ops.length oc 0 w.heap.size j.ops cur _ h1 a3 a4 rfl (lies_any hr) (fun g hgg => (hg g (by rw [eo]; exact hgg)).2.2.1) (Nat.le_refl _) (by omega)
 refine hrun.mono ?_
 rintro e w' ⟨rfl, hB, hGx⟩
 refine ⟨upd f k ⟨(f k).task, (f k).arr, (f k).work, (d : Int) + 1, (f k).ops⟩, ?_, ?_⟩
 ·rw [op_yes hk hj, hd', Int.toNat_natCast]
 ·refine h.seat hB ?_ (by rw [cnt_same hj]; exact h.cnt) (h.ok.set hk ⟨hb.1, hb.2.1, hb.2.2.1, hb.2.2.2.1, by show 0 ≤ j.done + 1; omega, by show j.done + 1 ≤ j.work; omega, hb.2.2.2.2.2.2⟩) (fun i => ?_) (fun i x hx => ?_)
  ·refine ((h.st.set (q := 3) hk (by omega) (.int .i64 ((d : Int) + 1))).same ?_).congr (fun i _ r _ => seat_done f ts k _ i r)
   rw [hGx, set_at h1]
  ·rw [h.dd]
   by_cases e : i = k
   ·subst e; rw [hasJ_some hj, hasJ_some (upd_at _ _ _)]
   ·rw [hasJ_ne js _ e]
  ·by_cases e : i = k
   ·subst e
    rw [upd_at] at hx
    cases hx
    rw [upd_at]
    refine ⟨?_, j, hj, rfl, rfl⟩
    rw [e0, hd']
   ·rw [upd_ne _ _ e] at hx
    rw [upd_ne _ _ e]
    exact ⟨(h.jb i x hx).1, x, hx, rfl, rfl⟩
theorem due_done (ts : List Tk) (hm : Bool) (k : Nat) (j : Jb) (d : Int) : dueT ts hm k { j with done := d } = dueT ts hm k j := rfl
theorem dm_done {ts : List Tk} {hm : Bool} {js : Js} {k : Nat} {j : Jb} (hj : js k = some j) (d : Int) : dmT ts hm (upd js k (some { j with done := d })) = dmT ts hm js := by
 rw [dm_upd, due_done]
 have : dmT ts hm js k = some (dueT ts hm k j) := by unfold dmT; rw [hj]; rfl
 rw [← this, upd_self]
set_option maxRecDepth 100000 in
set_option maxHeartbeats 4000000 in
theorem trunT_any (w : World) (T : Nat) (S : Nat → Prop) (ts : List Tk) (hm : Bool) (js : Js) (h : TbP T ts hm js w S) (t : Int) :
 Calls Tryz.prog 107 #[.pointer (some ⟨T, 0, none⟩), .int .i64 t] w fun e w' => ∃ S', e = .returned (.tuple #[.agg #[.int .i64 (opT ts js t).at_, .int .i64 (opT ts js t).len, .int .i64 (opT ts js t).part], .int .i64 (outT ts hm js t)]) ∧ TbP T ts hm (runT ts hm js t) w' S' ∧ GrowS S S' w w' := by
 have HP := Lib.hid h
 obtain ⟨hok, G, lo, hi, H, W, X, m, f, h⟩ := h
 obtain ⟨V, hV⟩ : ∃ V, V = w.alloc (.cells #[.int .i64 0, .int .i64 0, .int .i64 0] 54) := ⟨_, rfl⟩
 obtain ⟨E, hE⟩ : ∃ E, E = w.heap.size := ⟨_, rfl⟩
 have hbV : Hid (Below w.heap.size w V) := Lib.hid (by rw [hV]; exact below1 _ _)
 have hEV : V.heap[E]? = some (.cells #[.int .i64 0, .int .i64 0, .int .i64 0] 54 (0, 0)) := by rw [hV, hE]; exact heap_alloc_new _ _
 have HEV := Lib.hid hEV
 have HT := Lib.hid (h.later hbV.out)
 have HLT := Lib.hid h.lt
 have HTH := Lib.hid (tthere_any V T G lo hi H W X m S ts hm js _ f HT.out t)
 have HV := Lib.hid hV
 have HE := Lib.hid hE
 have r0 := cell_in (j := 0) hEV rfl
 have r1 := cell_in (j := 1) hEV rfl
 have r2 := cell_in (j := 2) hEV rfl
 have q0 := free_in hEV 0
 have q1 := free_in hEV 1
 have q2 := free_in hEV 2
 have HOK := Lib.hid hok
 clear h hV hE hEV hok
 cases ht : thereT ts js t with
 | false =>
   obtain ⟨g1, g2, g3⟩ := there_no (hi := hm) ht
   have HF := Lib.hid ht
   rw [g1, g2, g3]
   clear ht g1 g2 g3
   go_enter Tryz.func107, Tryz.ntmps107
   go_upto_region 1 with fail
   rw [← HV.out, ← HE.out]
   go_wp2_with (first
    | (go_at_call 143; refine HTH.out.mono ?_; rintro e w3 ⟨rfl, hw3⟩; rw [hw3, HF.out]; clear hw3)
    | fail "no arm")
   have hX := set3t HEV.out rfl (.int .i64 0) (.int .i64 0) (.int .i64 0)
   have hB5 : But E V (((V.setCell ⟨E, 0, none⟩ (.int .i64 0)).setCell ⟨E, 1, none⟩ (.int .i64 0)).setCell ⟨E, 2, none⟩ (.int .i64 0)) := (((But.refl _ _).set 0 _).set 1 _).set 2 _
   refine bodyPost_ret (results_pairT (P := Tryz.prog) rfl _ _ E _ _ (0, 0) _ _ rfl rfl hX Tryz.underlying54 rfl Tryz.sizeTOp) rfl ?_
   have hb5 : Below w.heap.size w (((V.setCell ⟨E, 0, none⟩ (.int .i64 0)).setCell ⟨E, 1, none⟩ (.int .i64 0)).setCell ⟨E, 2, none⟩ (.int .i64 0)) := hbV.out.trans (hB5.below (by have := HE.out; omega) hbV.out.size)
   exact ⟨S, rfl, (tb_own _ _ _ _).later HP.out hb5, GrowS.of_below hb5⟩
 | true =>
   obtain ⟨k, j, rfl, hk, hj⟩ := there_nat ht
   have HF := Lib.hid ht
   have hbd := HOK.out.bd k j hj
   have HO : Hid (outT ts hm js k = outW ts hm k { j with done := j.done + 1 } ∧ runT ts hm js k = stayT (outT ts hm js k) (upd js k (some { j with done := j.done + 1 })) (upd js k none)) := Lib.hid (by
    refine ⟨by rw [out_yes hk hj, outW_J (by omega)], ?_⟩
    rw [run_yes hk hj, out_yes hk hj]; rfl)
   have HR := Lib.hid (HT.out.tick hj (by omega))
   have HJ := Lib.hid hj
   obtain ⟨ov, hov⟩ : ∃ ov, ov = opT ts js k := ⟨_, rfl⟩
   rw [← hov] at HR ⊢
   obtain ⟨o, ho⟩ : ∃ o, o = outT ts hm js k := ⟨_, rfl⟩
   rw [← ho] at HO ⊢
   have c0 := HT.out.c0
   obtain ⟨n, hn⟩ : ∃ n, n = ts.length := ⟨_, rfl⟩
   rw [← hn] at c0
   have d1 : (0 : Int) ≤ (k : Int) := by omega
   have d2 : (k : Int) < (n : Int) := by omega
   clear ht hj hk hn hbd hov ho
   go_enter Tryz.func107, Tryz.ntmps107
   go_upto_region 1 with fail
   rw [← HV.out, ← HE.out]
   go_upto_region 4 with (first
    | (go_at_call 143; refine HTH.out.mono ?_; rintro e w3 ⟨rfl, hw3⟩; rw [hw3, HF.out]; clear hw3)
    | (go_at_call 151; refine HR.out.mono ?_; rintro e w3 ⟨f3, rfl, h3, g3⟩; have H3 := Lib.hid h3; have G3 := Lib.hid g3; clear h3 g3)
    | fail "no arm")
   obtain ⟨V4, hV4⟩ : ∃ V4, V4 = w3.alloc (.cells #[.int .i64 ov.at_, .int .i64 ov.len, .int .i64 ov.part] 54) := ⟨_, rfl⟩
   obtain ⟨E4, hE4⟩ : ∃ E4, E4 = w3.heap.size := ⟨_, rfl⟩
   rw [← hV4, ← hE4]
   have hb4 : Hid (Below w3.heap.size w3 V4) := Lib.hid (by rw [hV4]; exact below1 _ _)
   have KS : Hid (∀ Y : World, Y.heap[E4]? = V4.heap[E4]? → Y.cell? ⟨E4, 0, none⟩ = some (.int .i64 ov.at_) ∧ Y.cell? ⟨E4, 1, none⟩ = some (.int .i64 ov.len) ∧ Y.cell? ⟨E4, 2, none⟩ = some (.int .i64 ov.part)) := Lib.hid (fun Y hY => by
    have hEV4 : V4.heap[E4]? = some (.cells #[.int .i64 ov.at_, .int .i64 ov.len, .int .i64 ov.part] 54 (0, 0)) := by rw [hV4, hE4]; exact heap_alloc_new _ _
    exact ⟨cell_in (hY.trans hEV4) rfl, cell_in (hY.trans hEV4) rfl, cell_in (hY.trans hEV4) rfl⟩)
   have H4 := Lib.hid (H3.out.later hb4.out)
   have G4 : Hid (GrowS S S w V4) := Lib.hid (((GrowS.of_below hbV.out).trans G3.out).trans (GrowS.of_below hb4.out))
   have hzE : Hid (E < w3.heap.size ∧ ¬ S E ∧ ¬ S E4 ∧ E4 < V4.heap.size ∧ w.heap.size ≤ E ∧ E4 ≠ E) := Lib.hid ⟨by have := lt_of_block HEV.out; have := G3.out.size; omega, fun hs => by have := HLT.out E hs; have := HE.out; omega, fun hs => by have := HLT.out E4 hs; have := G3.out.size; have := hbV.out.size; omega, by rw [hV4, hE4]; simp, by have := HE.out; omega, by have := lt_of_block HEV.out; have := G3.out.size; omega⟩
   have X4 : Hid (V4.heap[E]? = some (.cells #[.int .i64 0, .int .i64 0, .int .i64 0] 54 (0, 0))) := Lib.hid ((hb4.out.block E hzE.out.1).trans ((G3.out.block E (lt_of_block HEV.out) hzE.out.2.1).trans HEV.out))
   obtain ⟨k0, k1, k2⟩ := KS.out V4 rfl
   clear hV4 hE4 r0 r1 r2 q0 q1 q2 c0
   go_region_held3 (fun Y => Y.cell? ⟨E4, 0, none⟩ = some (.int .i64 ov.at_) ∧ Y.cell? ⟨E4, 1, none⟩ = some (.int .i64 ov.len) ∧ Y.cell? ⟨E4, 2, none⟩ = some (.int .i64 ov.part))
    (first | exact KS.out _ (KX.out _ ((((But.refl _ _).set 0 _).set 1 _).set 2 _)) | exact KS.out _ K6.out | exact KS.out _ rfl | fail "no")
    (first
    | (go_at_call 152; refine (toutcome_any _ T G lo hi H W X m S ts hm _ _ f3 (H4.out.later (Below.refl _ _).drew) k _ (upd_at _ _ _)).mono ?_; rintro e w6 ⟨m6, f6, rfl, h6, g6⟩
       rw [← HO.out.1, upd_upd] at h6
       rw [← HO.out.1]
       have H6 := Lib.hid h6
       have G6 : Hid (GrowS S S V4 w6) := Lib.hid ((GrowS.of_below (Below.refl _ _).drew).trans g6)
       have K6 : Hid (w6.heap[E4]? = V4.heap[E4]?) := Lib.hid (G6.out.block E4 hzE.out.2.2.2.1 hzE.out.2.2.1)
       have KX : Hid (∀ Y, But E w6 Y → Y.heap[E4]? = V4.heap[E4]?) := Lib.hid (fun Y hY => (hY.block E4 (Nat.lt_of_lt_of_le hzE.out.2.2.2.1 G6.out.size) hzE.out.2.2.2.2.2).trans K6.out)
       have X6 : Hid (w6.heap[E]? = some (.cells #[.int .i64 0, .int .i64 0, .int .i64 0] 54 (0, 0))) := Lib.hid ((G6.out.block E (lt_of_block X4.out) hzE.out.2.1).trans X4.out)
       have r0 := cell_in (j := 0) X6.out rfl
       have r1 := cell_in (j := 1) X6.out rfl
       have r2 := cell_in (j := 2) X6.out rfl
       have q0 := free_in X6.out 0
       have q1 := free_in X6.out 1
       have q2 := free_in X6.out 2
       clear h6 g6)
    | fail "no arm")
   go_wp2_with fail
   have hX := set3t X6.out rfl (.int .i64 ov.at_) (.int .i64 ov.len) (.int .i64 ov.part)
   have hB7 : But E w6 (((w6.setCell ⟨E, 0, none⟩ (.int .i64 ov.at_)).setCell ⟨E, 1, none⟩ (.int .i64 ov.len)).setCell ⟨E, 2, none⟩ (.int .i64 ov.part)) := (((But.refl _ _).set 0 _).set 1 _).set 2 _
   refine bodyPost_ret (results_pairT (P := Tryz.prog) rfl _ _ E _ _ (0, 0) _ _ rfl rfl hX Tryz.underlying54 rfl Tryz.sizeTOp) rfl ?_
   refine ⟨S, rfl, ?_, growS_new (G4.out.trans G6.out) hB7 hzE.out.2.2.2.2.1⟩
   have hr := HOK.out.runOk (hi := hm) (k : Int)
   rw [HO.out.2] at hr ⊢
   refine ⟨hr, G, lo, hi, H, W, X, m6, f6, ?_⟩
   have h7 := H6.out.keep (fun g hg => hB7.block g (H6.out.lt g hg) (fun e => hzE.out.2.1 (e ▸ hg))) hB7.size
   have hD : stayT o (dmT ts hm js) (upd (dmT ts hm js) k none) = dmT ts hm (stayT o (upd js k (some { j with done := j.done + 1 })) (upd js k none)) := by
    unfold stayT
    split
    ·rw [dm_done HJ.out]
    ·rw [dm_rem]
   rw [← hD]
   exact h7
set_option maxRecDepth 100000 in
set_option maxHeartbeats 4000000 in
theorem tmissed_any (w : World) (T : Nat) (S : Nat → Prop) (ts : List Tk) (hm : Bool) (js : Js) (h : TbP T ts hm js w S) (now : Int) :
 Calls Tryz.prog 47 #[.pointer (some ⟨T, 0, none⟩), .int .i64 now] w fun e w' => ∃ S' ao cap, e = .returned (.slice ao (misL ts js now).length cap) ∧ Lies w' w.heap.size w'.heap.size (.slice ao (misL ts js now).length cap) (misL ts js now).length 1 ((misL ts js now).flatMap intCells) ∧ TbP T ts hm (misT ts js now) w' S' ∧ GrowS S S' w w' := by
 obtain ⟨hok, G, lo, hi, H, W, X, m, f, h⟩ := h
 obtain ⟨V, hV⟩ : ∃ V, V = w.alloc (.cells #[.int .i64 now] 3) := ⟨_, rfl⟩
 obtain ⟨E, hE⟩ : ∃ E, E = w.heap.size := ⟨_, rfl⟩
 have hbV : Hid (Below w.heap.size w V) := Lib.hid (by rw [hV]; exact below1 _ _)
 have hEV : V.heap[E]? = some (.cells #[.int .i64 now] 3 (0, 0)) := by rw [hV, hE]; exact heap_alloc_new _ _
 have HC := Lib.hid (tdrop_miss V T G lo hi H W X m S ts hm js _ f (h.later hbV.out) now E (cell_in hEV rfl) (lt_of_block hEV) (fun hs => by have := h.lt E hs; omega))
 have HV := Lib.hid hV
 have HE := Lib.hid hE
 have HOK := Lib.hid hok
 clear h hV hE hEV hok
 go_enter Tryz.func47, Tryz.ntmps47
 go_upto_region 1 with fail
 rw [← HV.out, ← HE.out]
 go_wp2_with (first
  | (go_at_call 96; refine HC.out.mono ?_; rintro e w3 ⟨m3, f3, ao, cap, rfl, l3, h3, g3⟩; have L3 := Lib.hid l3; have H3 := Lib.hid h3; have G3 := Lib.hid g3; clear l3 h3 g3)
  | fail "no arm")
 go_ret
 have hz := hbV.out.size
 refine ⟨S, ao, cap, rfl, L3.out.wider hz (Nat.le_refl _), ⟨HOK.out.remOk _ _, G, lo, hi, H, W, X, m3, f3, ?_⟩, (GrowS.of_below hbV.out).trans G3.out⟩
 have := H3.out
 rw [rem_dm] at this
 exact this
set_option maxRecDepth 100000 in
set_option maxHeartbeats 4000000 in
theorem tclear_any (w : World) (T : Nat) (S : Nat → Prop) (ts : List Tk) (hm : Bool) (js : Js) (h : TbP T ts hm js w S) :
 Calls Tryz.prog 119 #[.pointer (some ⟨T, 0, none⟩)] w fun e w' => ∃ S', e = .returned (.tuple #[]) ∧ TbP T ts false (fun _ => none) w' S' ∧ GrowS S S' w w' := by
 obtain ⟨hok, G, lo, hi, H, W, X, m, f, h⟩ := h
 have HM := Lib.hid (tmade_any w T G lo hi H W X m S ts hm js _ f h)
 have HC := Lib.hid (tdrop_clear w T G lo hi H W X m S ts hm js _ f h)
 have HJ := Lib.hid (rem_all hok)
 clear h hok
 go_enter Tryz.func119, Tryz.ntmps119
 go_wp2_with (first
  | (go_at_call 167; refine HM.out.mono ?_; rintro e w3 ⟨rfl, hw3⟩; rw [hw3]; clear hw3)
  | (go_at_call 96; refine HC.out.mono ?_; rintro e w4 ⟨m4, f4, ao, cap, rfl, l4, h4, g4⟩
     rw [rem_dm, HJ.out, dm_none ts hm, ← dm_none ts false] at h4
     have H4 := Lib.hid h4; have G4 := Lib.hid g4
     have c2 := h4.c2
     have f2 := free_in h4.box 2
     clear l4 h4 g4)
  | fail "no arm")
 go_end0
 obtain ⟨h5, g5⟩ := H4.out.mode false
 exact ⟨S, rfl, ⟨JsOk.none ts, G, lo, hi, H, W, X, m4, f4, h5⟩, G4.out.trans g5⟩
end Go.Proofs.YtchbehnkkcjdgaaGreat
namespace Go.Proofs.YtchbehnkkcjdgaaGreat
open Go.ChangeShapes Go.WideShapes Go.ChangeAt Go.RowKit
set_option linter.unusedVariables false
/-- Of those that were told of so far, the new dues. -/
def chgT (R : List En) (i : Nat) (D1 D2 : Nat → Option Int) : Nat → Option Int := fun k => if k ∈ (R.take i).map Prod.fst then D2 k else D1 k
theorem chg_zero (R : List En) (D1 D2 : Nat → Option Int) : chgT R 0 D1 D2 = D1 := by funext k; simp [chgT]
theorem chg_step {R : List En} {i : Nat} (h : i < R.length) (D1 D2 : Nat → Option Int) : upd (chgT R i D1 D2) R[i].1 (D2 R[i].1) = chgT R (i + 1) D1 D2 := by
 funext k
 have ht : R.take (i + 1) = R.take i ++ [R[i]] := by rw [List.take_add_one, List.getElem?_eq_getElem h]; rfl
 by_cases e : k = R[i].1
 ·subst e
  rw [upd_at]
  unfold chgT
  rw [if_pos (List.mem_map.2 ⟨R[i], by rw [ht]; exact List.mem_append_right _ (List.mem_singleton.2 rfl), rfl⟩)]
 ·rw [upd_ne _ _ e]
  unfold chgT
  rw [ht]
  have : (k ∈ ((R.take i) ++ [R[i]]).map Prod.fst) ↔ (k ∈ (R.take i).map Prod.fst) := by
   rw [List.map_append, List.mem_append]
   simp [e]
  by_cases c : k ∈ (R.take i).map Prod.fst
  ·rw [if_pos c, if_pos (this.2 c)]
  ·rw [if_neg c, if_neg (fun c' => c (this.1 c'))]
theorem chg_all {R : List En} {D1 D2 : Nat → Option Int} (hR : Rep R D1) (h : ∀ k, D1 k = none → D2 k = none) : chgT R R.length D1 D2 = D2 := by
 funext k
 unfold chgT
 rw [List.take_length]
 cases e : D1 k with
 | none => rw [h k e]; simp
 | some d =>
   rw [if_pos (List.mem_map.2 ⟨(k, d), (hR.2 k d).2 e, rfl⟩)]
theorem chg_some {R : List En} {i : Nat} {D1 D2 : Nat → Option Int} {js : Js} (h1 : ∀ k, (D1 k).isSome = hasJ js k) (h2 : ∀ k, (D2 k).isSome = hasJ js k) (k : Nat) : (chgT R i D1 D2 k).isSome = hasJ js k := by
 unfold chgT
 split
 ·exact h2 k
 ·exact h1 k
theorem dm_some (ts : List Tk) (hm : Bool) (js : Js) (k : Nat) : (dmT ts hm js k).isSome = hasJ js k := by
 unfold dmT hasJ
 rw [Option.isSome_map]
set_option maxRecDepth 100000 in
set_option maxHeartbeats 8000000 in
theorem trise_any (w : World) (T : Nat) (S : Nat → Prop) (ts : List Tk) (hm : Bool) (js : Js) (h : TbP T ts hm js w S) :
 Calls Tryz.prog 187 #[.pointer (some ⟨T, 0, none⟩)] w fun e w' => ∃ ao cap, e = .returned (.slice ao (riseL ts js).length cap) ∧ Lies w' w.heap.size w'.heap.size (.slice ao (riseL ts js).length cap) (riseL ts js).length 1 ((riseL ts js).flatMap intCells) ∧ TbP T ts true (riseT ts js) w' S ∧ GrowS S S w w' := by
 obtain ⟨hok, G, lo, hi, H, W, X, m, f, h⟩ := h
 have HM := Lib.hid (tmade_any w T G lo hi H W X m S ts hm js _ f h)
 have c2 := h.c2
 have f2 := free_in h.box 2
 obtain ⟨h1, g1⟩ := h.mode true
 obtain ⟨V, hV⟩ : ∃ V, V = w.setCell ⟨T, 2, none⟩ (.bool true) := ⟨_, rfl⟩
 rw [← hV] at h1 g1
 have HC := Lib.hid (tdrop_rise V T G lo hi H W X m S ts true js _ f h1)
 have G1 := Lib.hid g1
 have HV := Lib.hid hV
 have HOK : Hid (JsOk ts (riseT ts js)) := Lib.hid (hok.remOk _ _)
 have HLT := Lib.hid h.lt
 have HZ : Hid (V.heap.size = w.heap.size) := Lib.hid (by rw [hV]; simp)
 obtain ⟨js1, hjs1⟩ : ∃ js1, js1 = riseT ts js := ⟨_, rfl⟩
 obtain ⟨L, hL⟩ : ∃ L, L = riseL ts js := ⟨_, rfl⟩
 have hd : remT (lowP ts) js ts.length (dmT ts hm js) = dmT ts hm js1 := by rw [rem_dm, hjs1]; rfl
 rw [hd] at HC
 rw [show remT (lowP ts) js ts.length js = js1 from hjs1.symm, show lisT (lowP ts) js ts.length = L from hL.symm] at HC
 rw [← hjs1] at HOK ⊢
 rw [← hL]
 obtain ⟨D1, hD1⟩ : ∃ D1, D1 = dmT ts hm js1 := ⟨_, rfl⟩
 rw [← hD1] at HC
 obtain ⟨D2, hD2⟩ : ∃ D2, D2 = dmT ts true js1 := ⟨_, rfl⟩
 have HD : Hid (D1 = dmT ts hm js1 ∧ D2 = dmT ts true js1) := Lib.hid ⟨hD1, hD2⟩
 have HD1 : Hid (∀ k, (D1 k).isSome = hasJ js1 k) := Lib.hid (by rw [hD1]; exact dm_some ts hm js1)
 have HD2 : Hid (∀ k, (D2 k).isSome = hasJ js1 k) := Lib.hid (by rw [hD2]; exact dm_some ts true js1)
 obtain ⟨n, hn⟩ : ∃ n, n = ts.length := ⟨_, rfl⟩
 have HN := Lib.hid hn
 clear h h1 g1 hV hok hjs1 hL hd hD1 hD2 hn
 go_enter Tryz.func187, Tryz.ntmps187
 go_upto_region 4 with (first
  | (go_at_call 167; refine HM.out.mono ?_; rintro e w3 ⟨rfl, hw3⟩; rw [hw3]; clear hw3)
  | fail "no arm")
 rw [← HV.out]
 clear c2 f2
 go_wp2_with (first
  | (go_at_call 197; refine HA.out.mono ?_; rintro e w4 ⟨Gr, y, rfl, hge, hw, hy, hb⟩
     have HW4 := Lib.hid hw; have HY := Lib.hid hy; have HB4 := Lib.hid hb; have HGE := Lib.hid hge
     clear hge hw hy hb)
  | (go_at_call 96; refine HC.out.mono ?_; rintro e w3 ⟨m3, f3, ao, cap, rfl, l3, h3, g3⟩
     have L3 := Lib.hid l3; have H3 := Lib.hid h3; have G3 := Lib.hid g3
     have c1 := h3.c1
     obtain ⟨R, hR, hRl⟩ := h3.hp.list
     obtain ⟨fx, xx, hx, hg, _⟩ := h3.hp
     have HA := Lib.hid (hall_any w3 lo hi H W X ts.length m3 fx xx D1 R hx hg hR)
     have HR := Lib.hid hR
     have HRL := Lib.hid hRl
     clear l3 h3 g3 hR hRl hx hg)
  | fail "no arm")
 have HT4 := Lib.hid (H3.out.later HB4.out)
 have hs3 : m3 ≤ 6 := by have := H3.out.cnt; have := cnt_le js1 ts.length; have := H3.out.n6; omega
 have KY : Hid (∀ Y, GrowS S S w4 Y → ∀ i (hi : i < m3), Y.cell? ⟨Gr, i, none⟩ = some (.int .i64 (y i))) := Lib.hid (fun Y hY i hi => by
  have := (HW4.out.at_ (i := i) hi).1
  unfold World.cell? at this ⊢
  rw [hY.block Gr HW4.out.lt (fun hs => by have := H3.out.lt Gr hs; have := HGE.out; omega)]
  exact this)
 go_loopw [20] (fun s wr => ∃ i : Nat, i ≤ m3 ∧ s = .int .i64 i ∧ Hid (TbD wr T G lo hi H W X m3 S ts true js1 (chgT R i D1 D2) f3) ∧ Hid (GrowS S S w4 wr)) (fun s _ => m3 - (intOf s).toNat)
 case atStart => exact ⟨0, Nat.zero_le _, rfl, by rw [chg_zero]; exact HT4, Lib.hid (GrowS.of_below (Below.refl _ _))⟩
 case round =>
  obtain ⟨i, hi', rfl, HT, HG⟩ := hrel
  by_cases hlt : i < m3
  ·have d0 : decide ((i : Int) < (m3 : Int)) = true := decide_eq_true (by omega)
   have d1 : (0 : Int) ≤ (i : Int) := by omega
   have d2 : (i : Int) < (m3 : Int) := by omega
   have hiR : i < R.length := by have := HRL.out; omega
   have y0 := KY.out wr HG.out i hlt
   obtain ⟨k, hk⟩ : ∃ k, k = (R[i]).1 := ⟨_, rfl⟩
   rw [HY.out i hiR, ← hk] at y0
   have hjj : ∃ j, js1 k = some j := by
    have h1 := HD1.out k
    rw [hk, (HR.out.find hiR)] at h1
    rw [hk]
    exact hasJ_t h1.symm
   obtain ⟨j, hj⟩ := hjj
   have HJ := Lib.hid hj
   have hkt := HT.out.ok.lt hj
   have e1 : (0 : Int) ≤ (k : Int) := by omega
   have e2 : (k : Int) < (n : Int) := by have := HN.out; omega
   have KC : Hid (∀ Y, Below wr.heap.size wr Y → Y.cell? ⟨T, 0, none⟩ = some (.slice (some ⟨G, 0, none⟩) n n) ∧ Y.cell? ⟨T, 1, none⟩ = some (.pointer (some ⟨H, 0, none⟩)) ∧ Y.cell? ⟨T, 2, none⟩ = some (.bool true)) := Lib.hid (fun Y hY => by rw [HN.out]; exact ⟨(HT.out.later hY).c0, (HT.out.later hY).c1, (HT.out.later hY).c2⟩)
   have HST : Hid (upd (chgT R i D1 D2) k (some (dueT ts true k j)) = chgT R (i + 1) D1 D2) := Lib.hid (by
    have := chg_step hiR D1 D2
    rw [← hk] at this
    rw [← this, HD.out.2]
    unfold dmT
    rw [hj]; rfl)
   obtain ⟨d, hd⟩ : ∃ d, chgT R i D1 D2 k = some d := Option.isSome_iff_exists.1 (by rw [HT.out.dd]; exact hasJ_some hj)
   have HDK := Lib.hid hd
   obtain ⟨c0, c1', c2⟩ := KC.out wr (Below.refl _ _)
   clear hj hk hkt hd hiR
   go_wp2_with fail
   go_region_held3 (fun Y => Y.cell? ⟨T, 0, none⟩ = some (.slice (some ⟨G, 0, none⟩) n n) ∧ Y.cell? ⟨T, 1, none⟩ = some (.pointer (some ⟨H, 0, none⟩)) ∧ Y.cell? ⟨T, 2, none⟩ = some (.bool true))
    (first | exact K6.out | exact KC.out _ HB5.out | exact KC.out _ (by repeat first | exact Below.refl _ _ | refine Below.drew ?_ | refine below_drewMT _ ?_) | fail "no")
    (first
    | (go_at_call 198; refine (hchange_in w5 lo hi H W X ts.length m3 _ (HT.out.later HB5.out).hp k (dueT ts true k j) d HDK.out).mono ?_; rintro e w6 ⟨rfl, hp6, hM6⟩
       obtain ⟨h6, g6⟩ := (HT.out.later HB5.out).heap (js' := js1) hp6 hM6 HT.out.cnt (by rw [HST.out]; exact chg_some HD1.out HD2.out) (fun _ _ h => h)
       rw [HST.out] at h6
       have H6 := Lib.hid h6
       have G6 : Hid (GrowS S S w4 w6) := Lib.hid ((HG.out.trans (GrowS.of_below HB5.out)).trans g6)
       have K6 : Hid (w6.cell? ⟨T, 0, none⟩ = some (.slice (some ⟨G, 0, none⟩) n n) ∧ w6.cell? ⟨T, 1, none⟩ = some (.pointer (some ⟨H, 0, none⟩)) ∧ w6.cell? ⟨T, 2, none⟩ = some (.bool true)) := Lib.hid (by rw [HN.out]; exact ⟨h6.c0, h6.c1, h6.c2⟩)
       clear hp6 hM6 h6 g6)
    | (go_at_call 163; refine ((HT.out.later (by repeat first | exact Below.refl _ _ | refine Below.drew ?_ | refine below_drewMT _ ?_)).due HJ.out true).mono ?_; rintro e w5 ⟨rfl, n5, hw5⟩
       have HB5 : Hid (Below wr.heap.size wr w5) := Lib.hid (by rw [hw5]; repeat first | exact Below.refl _ _ | refine Below.drew ?_ | refine below_drewMT _ ?_)
       clear hw5)
    | fail "no arm")
   go_wp2_with fail
   go_roundw
   case rel => exact ⟨i + 1, by omega, by go_num, H6, G6⟩
   case measure => simp [intOf]; omega
  ·have d0 : decide ((i : Int) < (m3 : Int)) = false := decide_eq_false (by omega)
   have him : i = m3 := by omega
   have HIM := Lib.hid him
   clear him
   go_wp2_with fail
   go_ret
   have hz := HZ.out
   have him := HIM.out
   have hz3 := G3.out.size
   have hbb : ∀ b, V.heap.size ≤ b → b < w3.heap.size → wr.heap[b]? = w3.heap[b]? := fun b h1 h2 => by
    have ns : ¬ S b := fun hs => by have := HLT.out b hs; omega
    exact (HG.out.block b (Nat.lt_of_lt_of_le h2 HB4.out.size) ns).trans (HB4.out.block b h2)
   refine ⟨ao, cap, rfl, ?_, ⟨HOK.out, G, lo, hi, H, W, X, m3, f3, ?_⟩, ((G1.out.trans G3.out).trans (GrowS.of_below HB4.out)).trans HG.out⟩
   ·have := (L3.out.keep (w' := wr) (fun b h1 h2 => hbb b h1 h2)).wider (Nat.le_of_eq hz.symm) (Nat.le_trans HB4.out.size HG.out.size)
    exact this
   ·have h := HT.out
    rw [him, ← HRL.out, chg_all HR.out (fun k hk => by
     have h1 := HD1.out k
     rw [hk] at h1
     have h2 := HD2.out k
     rw [← h1] at h2
     simpa using h2), HD.out.2] at h
    rw [HRL.out] at h
    exact h
/-- A job is there. -/
theorem TbD.put {w w' : World} {T G lo hi H W X m : Nat} {S : Nat → Prop} {ts : List Tk} {hm : Bool} {js : Js} {D : Nat → Option Int} {f : Nat → Jc} (h : TbD w T G lo hi H W X m S ts hm js D f) {k : Nat} {j : Jb} {d : Int} (hk : k < ts.length) (hn : js k = none) (hp : HpD w' lo hi H W X ts.length (m + 1) (upd D k (some d))) (hM : Mv lo hi w w')
 (hb : 0 ≤ j.arr ∧ j.arr ≤ 4611686018427387904 ∧ 1 ≤ j.work ∧ j.work ≤ 1048576 ∧ 0 ≤ j.done ∧ j.done ≤ j.work ∧ j.ops.length ≤ 64) (hf : f k = ⟨k, j.arr, j.work, j.done, (f k).ops⟩) (hr : ORow w 54 3 (f k).ops j.ops.length (j.ops.flatMap Wn.cells)) (hg : ∀ g, (f k).ops.ownBlock = some g → ¬ S g) :
 TbD w' T G lo hi H W X (m + 1) (fun g => S g ∨ (f k).ops.ownBlock = some g) ts hm (upd js k (some j)) (upd D k (some d)) f ∧ GrowS S S w w' := by
 have hz := hM.below.size
 have hks : ∀ k, k < w.heap.size → ¬ (lo ≤ k ∧ k < hi) → w'.heap[k]? = w.heap[k]? := fun k hk hn => by
  rcases Nat.lt_or_ge k lo with g | g
  ·exact hM.below.block k g
  ·exact hM.above k (by omega) hk
 refine ⟨⟨(hks T (h.lt T h.own.1) h.tg.2.1).trans h.box, h.st.same (hks G (h.lt G h.own.2.1) h.tg.2.2), hp, by rw [cnt_put j hn _ hk, h.cnt], h.ok.set hk hb, fun i => ?_, fun i x hx => ?_, h.tg, ⟨.inl h.own.1, .inl h.own.2.1, fun g h1 h2 => .inl (h.own.2.2 g h1 h2)⟩, fun g hgg => ?_, h.n6, h.tk⟩,
  ⟨hM.below.os, hM.below.tape, hM.below.output, hz, fun k h1 h2 => hks k h1 (fun h3 => h2 (h.own.2.2 k h3.1 h3.2)), fun k hk => .inl hk⟩⟩
 ·by_cases e : i = k
  ·subst e; rw [upd_at, hasJ_some (upd_at _ _ _)]; rfl
  ·rw [upd_ne _ _ e, hasJ_ne js _ e]; exact h.dd i
 ·by_cases e : i = k
  ·subst e
   rw [upd_at] at hx
   cases hx
   have hgo : ∀ g, (f i).ops.ownBlock = some g → g ≠ T ∧ g ≠ G ∧ ¬ (lo ≤ g ∧ g < hi) := fun g hgg => ⟨fun e => hg g hgg (e ▸ h.own.1), fun e => hg g hgg (e ▸ h.own.2.1), fun e => hg g hgg (h.own.2.2 g e.1 e.2)⟩
   exact ⟨hf, hr.hold (fun g hgg => hks g (hr.lt g hgg) (hgo g hgg).2.2), fun g hgg => ⟨.inr hgg, hgo g hgg⟩⟩
  ·rw [upd_ne _ _ e] at hx
   obtain ⟨g1, g2, g3⟩ := h.jb i x hx
   exact ⟨g1, g2.hold (fun g hg => hks g (h.lt g (g3 g hg).1) (g3 g hg).2.2.2), fun g hg => ⟨.inl (g3 g hg).1, (g3 g hg).2⟩⟩
 ·rcases hgg with hgg | hgg
  ·exact Nat.lt_of_lt_of_le (h.lt g hgg) hz
  ·exact Nat.lt_of_lt_of_le (hr.lt g hgg) hz
set_option maxRecDepth 100000 in
set_option maxHeartbeats 8000000 in
theorem tput_any (w : World) (T : Nat) (S : Nat → Prop) (ts : List Tk) (hm : Bool) (js : Js) (t arr work done : Int) (a : Option Addr) (n c : Nat) (ops : List Wn) (h : TbP T ts hm js w S) (hn : ops.length = n) (hl : Lies w 0 w.heap.size (.slice a n c) n 3 (ops.flatMap Wn.cells)) :
 Calls Tryz.prog 115 #[.pointer (some ⟨T, 0, none⟩), .agg #[.int .i64 t, .int .i64 arr, .int .i64 work, .int .i64 done, .slice a n c]] w fun e w' => ∃ S', e = .returned (.int .i64 (errT ts hm js t arr work done n)) ∧ TbP T ts hm (putT ts hm js t arr work done ops) w' S' ∧ GrowS S S' w w' := by
 have HP := Lib.hid h
 obtain ⟨hok, G, lo, hi, H, W, X, m, f, h⟩ := h
 obtain ⟨V, hV⟩ : ∃ V, V = w.alloc (.cells #[.int .i64 t, .int .i64 arr, .int .i64 work, .int .i64 done, .slice a n c] 66) := ⟨_, rfl⟩
 obtain ⟨E, hE⟩ : ∃ E, E = w.heap.size := ⟨_, rfl⟩
 have hbV : Hid (Below w.heap.size w V) := Lib.hid (by rw [hV]; exact below1 _ _)
 have hEV : Hid (V.heap[E]? = some (.cells #[.int .i64 t, .int .i64 arr, .int .i64 work, .int .i64 done, .slice a n c] 66 (0, 0))) := Lib.hid (by rw [hV, hE]; exact heap_alloc_new _ _)
 have HT := Lib.hid (h.later hbV.out)
 have HTH := Lib.hid (thas_any V T G lo hi H W X m S ts hm js _ f HT.out t)
 have HTR := Lib.hid (tright_any V E 0 arr work done a n c (cell_in hEV.out rfl) (cell_in hEV.out rfl) (cell_in hEV.out rfl) (cell_in hEV.out rfl))
 have b0 : V.cell? ⟨E, 0, none⟩ = some (.int .i64 t) := cell_in hEV.out rfl
 have HV := Lib.hid hV
 have HE := Lib.hid hE
 have HNN := Lib.hid hn
 have HLI := Lib.hid hl
 have HOK := Lib.hid hok
 have HSAME : Hid (∀ Y o, errT ts hm js t arr work done n = o → o ≠ 0 → Below w.heap.size w Y → ∃ S', Ending.returned (.int .i64 o) = .returned (.int .i64 (errT ts hm js t arr work done n)) ∧ TbP T ts hm (putT ts hm js t arr work done ops) Y S' ∧ GrowS S S' w Y) := Lib.hid (fun Y o ho hne hY => ⟨S, by rw [ho], by rw [put_no (by rw [hn, ho]; exact hne)]; exact (tb_own _ _ _ _).later HP.out hY, GrowS.of_below hY⟩)
 clear h hV hE hok hl hn
 cases hin : inT ts t with
 | false =>
   have HIN := Lib.hid hin
   have HER := Lib.hid (err_arg (ts := ts) (hi := hm) (js := js) (t := t) (arr := arr) (work := work) (done := done) (n := n) (fun h => by rw [hin] at h; exact absurd h.1 (by simp)))
   clear hin
   go_enter Tryz.func115, Tryz.ntmps115
   go_upto_region 1 with fail
   rw [← HV.out, ← HE.out]
   go_wp2_with (first
    | (go_at_call 159; refine HTH.out.mono ?_; rintro e w3 ⟨rfl, hw3⟩; rw [hw3, HIN.out]; clear hw3)
    | fail "no arm")
   go_ret
   exact HSAME.out V 1 HER.out (by omega) hbV.out
 | true =>
   have HIN := Lib.hid hin
   cases hrt : rightV arr work done n with
   | false =>
     have HRT := Lib.hid hrt
     have HER := Lib.hid (err_arg (ts := ts) (hi := hm) (js := js) (t := t) (arr := arr) (work := work) (done := done) (n := n) (fun h => by
      unfold rightV at hrt
      exact of_decide_eq_false hrt h.2))
     clear hin hrt
     go_enter Tryz.func115, Tryz.ntmps115
     go_upto_region 1 with fail
     rw [← HV.out, ← HE.out]
     go_wp2_with (first
      | (go_at_call 159; refine HTH.out.mono ?_; rintro e w3 ⟨rfl, hw3⟩; rw [hw3, HIN.out]; clear hw3)
      | (go_at_call 160; refine HTR.out.mono ?_; rintro e w3 ⟨rfl, hw3⟩; rw [hw3, HRT.out]; clear hw3)
      | fail "no arm")
     go_ret
     exact HSAME.out V 1 HER.out (by omega) hbV.out
   | true =>
     have HRT := Lib.hid hrt
     have hall : inT ts t = true ∧ 0 ≤ arr ∧ arr ≤ 4611686018427387904 ∧ 1 ≤ work ∧ work ≤ 1048576 ∧ done = 0 ∧ n ≤ 64 := ⟨hin, by unfold rightV at hrt; exact of_decide_eq_true hrt⟩
     obtain ⟨k, rfl, hk⟩ := inT_nat hin
     have HTT := Lib.hid (tthere_any V T G lo hi H W X m S ts hm js _ f HT.out (k : Int))
     cases hj : hasJ js k with
     | true =>
       have HF : Hid (thereT ts js (k : Int) = true) := Lib.hid (by unfold thereT; rw [hin, Int.toNat_natCast, hj]; rfl)
       have HER := Lib.hid (err_there (hi := hm) hall (by rw [Int.toNat_natCast]; exact hj))
       clear hin hrt hj hall hk
       go_enter Tryz.func115, Tryz.ntmps115
       go_upto_region 1 with fail
       rw [← HV.out, ← HE.out]
       go_wp2_with (first
        | (go_at_call 159; refine HTH.out.mono ?_; rintro e w3 ⟨rfl, hw3⟩; rw [hw3, HIN.out]; clear hw3)
        | (go_at_call 160; refine HTR.out.mono ?_; rintro e w3 ⟨rfl, hw3⟩; rw [hw3, HRT.out]; clear hw3)
        | (go_at_call 143; refine HTT.out.mono ?_; rintro e w3 ⟨rfl, hw3⟩; rw [hw3, HF.out]; clear hw3)
        | fail "no arm")
       go_ret
       exact HSAME.out V 4 HER.out (by omega) hbV.out
     | false =>
       have HF : Hid (thereT ts js (k : Int) = false) := Lib.hid (there_f (hasJ_f hj))
       have HJ := Lib.hid (hasJ_f hj)
       have HK := Lib.hid hk
       obtain ⟨q, hq⟩ : ∃ q, q = ts.length := ⟨_, rfl⟩
       have HQ := Lib.hid hq
       have d1 : (0 : Int) ≤ (k : Int) := by omega
       have d2 : (k : Int) < (q : Int) := by omega
       have c0 := HT.out.c0
       rw [← hq] at c0
       have c2 := HT.out.c2
       have s5 := (HT.out.seatAt hk).2.2.2.2.2.1
       obtain ⟨th, hth⟩ : ∃ th, th = (tkAt ts k).hi := ⟨_, rfl⟩
       rw [← hth] at s5
       by_cases hdr : hm = true ∧ th = false
       ·have HER := Lib.hid (err_drop (ts := ts) (hi := hm) (js := js) hall (by rw [Int.toNat_natCast]; exact hj) (by rw [Int.toNat_natCast, ← hth]; exact hdr))
        obtain ⟨rfl, rfl⟩ := hdr
        clear hin hrt hj hall hk hq hth
        go_enter Tryz.func115, Tryz.ntmps115
        go_upto_region 1 with fail
        rw [← HV.out, ← HE.out]
        go_wp2_with (first
         | (go_at_call 159; refine HTH.out.mono ?_; rintro e w3 ⟨rfl, hw3⟩; rw [hw3, HIN.out]; clear hw3)
         | (go_at_call 160; refine HTR.out.mono ?_; rintro e w3 ⟨rfl, hw3⟩; rw [hw3, HRT.out]; clear hw3)
         | (go_at_call 143; refine HTT.out.mono ?_; rintro e w3 ⟨rfl, hw3⟩; rw [hw3, HF.out]; clear hw3)
         | fail "no arm")
        go_quiet (fail)
        go_wp2_with fail
        go_ret
        exact HSAME.out _ 42 HER.out (by omega) (by repeat first | exact hbV.out | refine Below.drew ?_ | refine below_drewMT _ ?_)
       ·have HER := Lib.hid (err_ok (ts := ts) (hi := hm) (js := js) hall (by rw [Int.toNat_natCast]; exact hj) (by rw [Int.toNat_natCast, ← hth]; exact hdr))
        have HALL := Lib.hid hall
        have KT : Hid (∀ Y, Below V.heap.size V Y → Y.cell? ⟨T, 0, none⟩ = some (.slice (some ⟨G, 0, none⟩) q q) ∧ Y.cell? ⟨E, 0, none⟩ = some (.int .i64 k)) := Lib.hid (fun Y hY => by rw [hq]; exact ⟨(HT.out.later hY).c0, cell_in ((hY.block E (lt_of_block hEV.out)).trans hEV.out) rfl⟩)
        have KA : Hid (∀ Y, Below V.heap.size V Y → Calls Tryz.prog 161 #[.pointer (some ⟨E, 0, none⟩)] Y fun e w' => ∃ ao cap, e = .returned (.agg #[.int .i64 k, .int .i64 arr, .int .i64 work, .int .i64 done, .slice ao n cap]) ∧ w'.ownsRow (Y.heap.size + 2) 54 3 (.slice ao n cap) n (ops.flatMap Wn.cells) ∧ Below Y.heap.size Y w') := Lib.hid (fun Y hY => by
         have hx := (hY.block E (lt_of_block hEV.out)).trans hEV.out
         have hbw : Below w.heap.size w Y := hbV.out.trans (hY.mono hbV.out.size)
         exact tapart_any Y E 0 k arr work done a n c 0 w.heap.size _ (cell_in hx rfl) (cell_in hx rfl) (cell_in hx rfl) (cell_in hx rfl) (cell_in hx rfl) (HLI.out.keep (SameIn.of_below hbw (Nat.le_refl _))) (wn_flat _) hbw.size HALL.out.2.2.2.2.2.2)
        have hEn : Hid (E ≠ T ∧ E ≠ G ∧ T ≠ G ∧ ¬ S E) := Lib.hid (by
         have hse : ¬ S E := fun hs => by
          have := (tb_own T ts hm js).lt HP.out E hs
          have := HE.out; omega
         exact ⟨fun e => hse (e ▸ HT.out.own.1), fun e => hse (e ▸ HT.out.own.2.1), HT.out.tg.1, hse⟩)
        clear hin hrt hj hall hk hq hth
        go_enter Tryz.func115, Tryz.ntmps115
        go_upto_region 1 with fail
        rw [← HV.out, ← HE.out]
        cases hm with
        | false =>
          go_upto_region 5 with (first
           | (go_at_call 159; refine HTH.out.mono ?_; rintro e w3 ⟨rfl, hw3⟩; rw [hw3, HIN.out]; clear hw3)
           | (go_at_call 160; refine HTR.out.mono ?_; rintro e w3 ⟨rfl, hw3⟩; rw [hw3, HRT.out]; clear hw3)
           | (go_at_call 143; refine HTT.out.mono ?_; rintro e w3 ⟨rfl, hw3⟩; rw [hw3, HF.out]; clear hw3)
           | fail "no arm")
          go_quiet (fail)
          go_upto_region 7 with fail
          go_region_held3 (fun Y => Y.cell? ⟨T, 0, none⟩ = some (.slice (some ⟨G, 0, none⟩) q q) ∧ Y.cell? ⟨E, 0, none⟩ = some (.int .i64 k))
           (first | exact KX.out _ ((((((But.refl _ _).set _ _).set _ _).set _ _).set _ _).set _ _) | exact KT.out _ HB6.out | exact KT.out _ (by repeat first | exact Below.refl _ _ | refine Below.drew ?_ | refine below_drewMT _ ?_) | fail "no")
           (first
           | (go_at_call 161; refine (KA.out _ (by repeat first | exact Below.refl _ _ | refine Below.drew ?_ | refine below_drewMT _ ?_)).mono ?_; rintro e w6 ⟨ao, cap, rfl, o6, b6⟩
              have HB6 : Hid (Below V.heap.size V w6) := Lib.hid (Below.trans (by repeat first | exact Below.refl _ _ | refine Below.drew ?_ | refine below_drewMT _ ?_) b6)
              have O6 : Hid (w6.ownsRow (V.heap.size + 2) 54 3 (.slice ao n cap) n (ops.flatMap Wn.cells)) := Lib.hid o6
              have H6 := Lib.hid (HT.out.later HB6.out)
              obtain ⟨z0, z1, z2, z3, z4, _⟩ := H6.out.seatAt HK.out
              have p0 := H6.out.st.free (k * 11)
              have p1 := H6.out.st.free (k * 11 + 1)
              have p2 := H6.out.st.free (k * 11 + 2)
              have p3 := H6.out.st.free (k * 11 + 3)
              have p4 := H6.out.st.free (k * 11 + 4)
              have KX : Hid (∀ Y, But G w6 Y → Y.cell? ⟨T, 0, none⟩ = some (.slice (some ⟨G, 0, none⟩) q q) ∧ Y.cell? ⟨E, 0, none⟩ = some (.int .i64 k)) := Lib.hid (fun Y hY => by
               rw [HQ.out]
               have hE6 := (HB6.out.block E (lt_of_block hEV.out)).trans hEV.out
               exact ⟨cell_in ((hY.block T (lt_of_block H6.out.box) hEn.out.2.2.1).trans H6.out.box) rfl, cell_in ((hY.block E (lt_of_block hE6) hEn.out.2.1).trans hE6) rfl⟩)
              clear o6 b6)
           | fail "no arm")
          obtain ⟨V8, hV8⟩ : ∃ V8, V8 = ((((w6.setCell ⟨G, k * 11, none⟩ (.int .i64 k)).setCell ⟨G, k * 11 + 1, none⟩ (.int .i64 arr)).setCell ⟨G, k * 11 + 2, none⟩ (.int .i64 work)).setCell ⟨G, k * 11 + 3, none⟩ (.int .i64 done)).setCell ⟨G, k * 11 + 4, none⟩ (.slice ao n cap) := ⟨_, rfl⟩
          rw [← hV8]
          obtain ⟨f8, hf8⟩ : ∃ f8, f8 = upd f k (⟨k, arr, work, done, .slice ao n cap⟩ : Jc) := ⟨_, rfl⟩
          have hB8 : But G w6 V8 := by rw [hV8]; exact (((((But.refl _ _).set _ _).set _ _).set _ _).set _ _).set _ _
          have hs8 : SeatsC V8 G ts.length (seatV f8 ts) := by rw [hV8, hf8]; exact H6.out.st.job HK.out (⟨k, arr, work, done, .slice ao n cap⟩ : Jc)
          obtain ⟨h8, g8⟩ := H6.out.seat (js' := js) (f' := f8) hB8 hs8 H6.out.cnt H6.out.ok H6.out.dd (fun i x hx => by
           have hne : i ≠ k := fun e => by subst e; rw [HJ.out] at hx; cases hx
           rw [hf8, upd_ne _ _ hne]
           exact ⟨(H6.out.jb i x hx).1, x, hx, rfl, rfl⟩)
          have H8 := Lib.hid h8
          have G8 : Hid (GrowS S S w V8) := Lib.hid (((GrowS.of_below hbV.out).trans (GrowS.of_below HB6.out)).trans g8)
          have HF8 : Hid (f8 k = ⟨k, arr, work, done, .slice ao n cap⟩) := Lib.hid (by rw [hf8, upd_at])
          have hE6 := (HB6.out.block E (lt_of_block hEV.out)).trans hEV.out
          have hE8 : Hid (V8.heap[E]? = some (.cells #[.int .i64 k, .int .i64 arr, .int .i64 work, .int .i64 done, .slice a n c] 66 (0, 0))) := Lib.hid ((hB8.block E (lt_of_block hE6) hEn.out.2.1).trans hE6)
          have O8 : Hid (ORow V8 54 3 (.slice ao n cap) n (ops.flatMap Wn.cells)) := Lib.hid ((ORow.of_owns O6.out).hold (fun g hg => hB8.block g (owns_own O6.out g hg).2 (fun e => by have := (owns_own O6.out g hg).1; have := HT.out.st.lt; omega)))
          have HGO : Hid (∀ g, (Value.slice ao n cap).ownBlock = some g → ¬ S g ∧ w.heap.size ≤ g) := Lib.hid (fun g hg => by
           have h1 := (owns_own O6.out g hg).1
           have h2 := hbV.out.size
           exact ⟨fun hs => by have := (tb_own T ts _ js).lt HP.out g hs; omega, by omega⟩)
          have KC8 : Hid (∀ Y, Below V8.heap.size V8 Y → Y.cell? ⟨T, 0, none⟩ = some (.slice (some ⟨G, 0, none⟩) q q) ∧ Y.cell? ⟨T, 1, none⟩ = some (.pointer (some ⟨H, 0, none⟩)) ∧ Y.cell? ⟨T, 2, none⟩ = some (.bool false) ∧ Y.cell? ⟨E, 0, none⟩ = some (.int .i64 k)) := Lib.hid (fun Y hY => by
           rw [HQ.out]
           exact ⟨(H8.out.later hY).c0, (H8.out.later hY).c1, (H8.out.later hY).c2, cell_in ((hY.block E (lt_of_block hE8.out)).trans hE8.out) rfl⟩)
          have KD : Hid (∀ Y, Below V8.heap.size V8 Y → Calls Tryz.prog 163 #[.pointer (some ⟨G, k * 11, none⟩), .bool false] Y fun e w' => e = .returned (.int .i64 (dueT ts false k ⟨arr, work, done, ops⟩)) ∧ Below Y.heap.size Y w') := Lib.hid (fun Y hY => by
           obtain ⟨_, y1, _, _, _, _, y7, y8, _⟩ := (H8.out.later hY).seatAt HK.out
           rw [HF8.out] at y1
           have ht := okTk_bd HT.out.tk HK.out
           exact (tdue_any Y G (k * 11) arr (tkAt ts k).d (tkAt ts k).v false y1 y7 y8 ⟨HALL.out.2.1, HALL.out.2.2.1⟩ (by omega) (by omega)).mono (fun e w' h => ⟨h.1, by obtain ⟨n, hn⟩ := h.2; rw [hn]; exact below_drewMT _ (Below.refl _ _)⟩))
          obtain ⟨u0, u1, u2, u3⟩ := KC8.out V8 (Below.refl _ _)
          clear hV8 hf8 hB8 hs8 h8 g8 hE6 z0 z1 z2 z3 z4 p0 p1 p2 p3 p4 c0 c2 s5 b0
          go_wp2_with fail
          go_region_held3 (fun Y => Y.cell? ⟨T, 0, none⟩ = some (.slice (some ⟨G, 0, none⟩) q q) ∧ Y.cell? ⟨T, 1, none⟩ = some (.pointer (some ⟨H, 0, none⟩)) ∧ Y.cell? ⟨T, 2, none⟩ = some (.bool false) ∧ Y.cell? ⟨E, 0, none⟩ = some (.int .i64 k))
           (first | exact K10.out | exact KC8.out _ HB9.out | exact KC8.out _ (by repeat first | exact Below.refl _ _ | refine Below.drew ?_ | refine below_drewMT _ ?_) | fail "no")
           (first
           | (go_at_call 162; refine (hput_in w9 lo hi H W X ts.length m _ (H8.out.later HB9.out).hp k _ HK.out (by unfold dmT; rw [HJ.out]; rfl)).mono ?_; rintro e w10 ⟨rfl, hp10, hM10⟩
              obtain ⟨h10, g10⟩ := (H8.out.later HB9.out).put (j := ⟨arr, work, done, ops⟩) HK.out HJ.out hp10 hM10 (by obtain ⟨_, y1, y2, y3, y4, y5, y6⟩ := HALL.out; exact ⟨y1, y2, y3, y4, by show 0 ≤ done; omega, by show done ≤ work; omega, by show ops.length ≤ 64; have := HNN.out; omega⟩) (by rw [HF8.out]) (by rw [HF8.out]; have := HNN.out; subst this; exact O8.out.later HB9.out) (fun g hg => by rw [HF8.out] at hg; exact (HGO.out g hg).1)
              have H10 := Lib.hid h10
              have G10 : Hid (GrowS S S w w10) := Lib.hid ((G8.out.trans (GrowS.of_below HB9.out)).trans g10)
              have K10 : Hid (w10.cell? ⟨T, 0, none⟩ = some (.slice (some ⟨G, 0, none⟩) q q) ∧ w10.cell? ⟨T, 1, none⟩ = some (.pointer (some ⟨H, 0, none⟩)) ∧ w10.cell? ⟨T, 2, none⟩ = some (.bool false) ∧ w10.cell? ⟨E, 0, none⟩ = some (.int .i64 k)) := Lib.hid (by
               rw [HQ.out]
               have hE9 := (HB9.out.block E (lt_of_block hE8.out)).trans hE8.out
               exact ⟨h10.c0, h10.c1, h10.c2, cell_in ((g10.block E (lt_of_block hE9) hEn.out.2.2.2).trans hE9) rfl⟩)
              clear hp10 hM10 h10 g10)
           | (go_at_call 163; refine (KD.out _ (by repeat first | exact Below.refl _ _ | refine Below.drew ?_ | refine below_drewMT _ ?_)).mono ?_; rintro e w9 ⟨rfl, hb9⟩
              have HB9 : Hid (Below V8.heap.size V8 w9) := Lib.hid (Below.trans (by repeat first | exact Below.refl _ _ | refine Below.drew ?_ | refine below_drewMT _ ?_) hb9)
              clear hb9)
           | fail "no arm")
          go_wp2_with fail
          go_ret
          have hnn := HNN.out
          have hd0 := HALL.out.2.2.2.2.2.1
          refine ⟨(fun g => S g ∨ (f8 k).ops.ownBlock = some g), by rw [HER.out]; first | done | rfl, ?_, ⟨G10.out.os, G10.out.tape, G10.out.output, G10.out.size, G10.out.block, fun g hg => Or.elim hg .inl (fun e => .inr (by rw [HF8.out] at e; exact (HGO.out g e).2))⟩⟩
          have hpk := HOK.out.putOk (hi := false) (k : Int) arr work done ops
          rw [put_yes (by rw [hnn]; exact HER.out), Int.toNat_natCast] at hpk ⊢
          refine ⟨hpk, G, lo, hi, H, W, X, m + 1, f8, ?_⟩
          have h := H10.out
          rw [dm_upd]
          subst hd0
          exact h
        | true =>
          have hth1 : th = true := by cases th <;> simp_all
          subst hth1
          go_upto_region 5 with (first
           | (go_at_call 159; refine HTH.out.mono ?_; rintro e w3 ⟨rfl, hw3⟩; rw [hw3, HIN.out]; clear hw3)
           | (go_at_call 160; refine HTR.out.mono ?_; rintro e w3 ⟨rfl, hw3⟩; rw [hw3, HRT.out]; clear hw3)
           | (go_at_call 143; refine HTT.out.mono ?_; rintro e w3 ⟨rfl, hw3⟩; rw [hw3, HF.out]; clear hw3)
           | fail "no arm")
          go_quiet (fail)
          go_upto_region 7 with fail
          go_region_held3 (fun Y => Y.cell? ⟨T, 0, none⟩ = some (.slice (some ⟨G, 0, none⟩) q q) ∧ Y.cell? ⟨E, 0, none⟩ = some (.int .i64 k))
           (first | exact KX.out _ ((((((But.refl _ _).set _ _).set _ _).set _ _).set _ _).set _ _) | exact KT.out _ HB6.out | exact KT.out _ (by repeat first | exact Below.refl _ _ | refine Below.drew ?_ | refine below_drewMT _ ?_) | fail "no")
           (first
           | (go_at_call 161; refine (KA.out _ (by repeat first | exact Below.refl _ _ | refine Below.drew ?_ | refine below_drewMT _ ?_)).mono ?_; rintro e w6 ⟨ao, cap, rfl, o6, b6⟩
              have HB6 : Hid (Below V.heap.size V w6) := Lib.hid (Below.trans (by repeat first | exact Below.refl _ _ | refine Below.drew ?_ | refine below_drewMT _ ?_) b6)
              have O6 : Hid (w6.ownsRow (V.heap.size + 2) 54 3 (.slice ao n cap) n (ops.flatMap Wn.cells)) := Lib.hid o6
              have H6 := Lib.hid (HT.out.later HB6.out)
              obtain ⟨z0, z1, z2, z3, z4, _⟩ := H6.out.seatAt HK.out
              have p0 := H6.out.st.free (k * 11)
              have p1 := H6.out.st.free (k * 11 + 1)
              have p2 := H6.out.st.free (k * 11 + 2)
              have p3 := H6.out.st.free (k * 11 + 3)
              have p4 := H6.out.st.free (k * 11 + 4)
              have KX : Hid (∀ Y, But G w6 Y → Y.cell? ⟨T, 0, none⟩ = some (.slice (some ⟨G, 0, none⟩) q q) ∧ Y.cell? ⟨E, 0, none⟩ = some (.int .i64 k)) := Lib.hid (fun Y hY => by
               rw [HQ.out]
               have hE6 := (HB6.out.block E (lt_of_block hEV.out)).trans hEV.out
               exact ⟨cell_in ((hY.block T (lt_of_block H6.out.box) hEn.out.2.2.1).trans H6.out.box) rfl, cell_in ((hY.block E (lt_of_block hE6) hEn.out.2.1).trans hE6) rfl⟩)
              clear o6 b6)
           | fail "no arm")
          obtain ⟨V8, hV8⟩ : ∃ V8, V8 = ((((w6.setCell ⟨G, k * 11, none⟩ (.int .i64 k)).setCell ⟨G, k * 11 + 1, none⟩ (.int .i64 arr)).setCell ⟨G, k * 11 + 2, none⟩ (.int .i64 work)).setCell ⟨G, k * 11 + 3, none⟩ (.int .i64 done)).setCell ⟨G, k * 11 + 4, none⟩ (.slice ao n cap) := ⟨_, rfl⟩
          rw [← hV8]
          obtain ⟨f8, hf8⟩ : ∃ f8, f8 = upd f k (⟨k, arr, work, done, .slice ao n cap⟩ : Jc) := ⟨_, rfl⟩
          have hB8 : But G w6 V8 := by rw [hV8]; exact (((((But.refl _ _).set _ _).set _ _).set _ _).set _ _).set _ _
          have hs8 : SeatsC V8 G ts.length (seatV f8 ts) := by rw [hV8, hf8]; exact H6.out.st.job HK.out (⟨k, arr, work, done, .slice ao n cap⟩ : Jc)
          obtain ⟨h8, g8⟩ := H6.out.seat (js' := js) (f' := f8) hB8 hs8 H6.out.cnt H6.out.ok H6.out.dd (fun i x hx => by
           have hne : i ≠ k := fun e => by subst e; rw [HJ.out] at hx; cases hx
           rw [hf8, upd_ne _ _ hne]
           exact ⟨(H6.out.jb i x hx).1, x, hx, rfl, rfl⟩)
          have H8 := Lib.hid h8
          have G8 : Hid (GrowS S S w V8) := Lib.hid (((GrowS.of_below hbV.out).trans (GrowS.of_below HB6.out)).trans g8)
          have HF8 : Hid (f8 k = ⟨k, arr, work, done, .slice ao n cap⟩) := Lib.hid (by rw [hf8, upd_at])
          have hE6 := (HB6.out.block E (lt_of_block hEV.out)).trans hEV.out
          have hE8 : Hid (V8.heap[E]? = some (.cells #[.int .i64 k, .int .i64 arr, .int .i64 work, .int .i64 done, .slice a n c] 66 (0, 0))) := Lib.hid ((hB8.block E (lt_of_block hE6) hEn.out.2.1).trans hE6)
          have O8 : Hid (ORow V8 54 3 (.slice ao n cap) n (ops.flatMap Wn.cells)) := Lib.hid ((ORow.of_owns O6.out).hold (fun g hg => hB8.block g (owns_own O6.out g hg).2 (fun e => by have := (owns_own O6.out g hg).1; have := HT.out.st.lt; omega)))
          have HGO : Hid (∀ g, (Value.slice ao n cap).ownBlock = some g → ¬ S g ∧ w.heap.size ≤ g) := Lib.hid (fun g hg => by
           have h1 := (owns_own O6.out g hg).1
           have h2 := hbV.out.size
           exact ⟨fun hs => by have := (tb_own T ts _ js).lt HP.out g hs; omega, by omega⟩)
          have KC8 : Hid (∀ Y, Below V8.heap.size V8 Y → Y.cell? ⟨T, 0, none⟩ = some (.slice (some ⟨G, 0, none⟩) q q) ∧ Y.cell? ⟨T, 1, none⟩ = some (.pointer (some ⟨H, 0, none⟩)) ∧ Y.cell? ⟨T, 2, none⟩ = some (.bool true) ∧ Y.cell? ⟨E, 0, none⟩ = some (.int .i64 k)) := Lib.hid (fun Y hY => by
           rw [HQ.out]
           exact ⟨(H8.out.later hY).c0, (H8.out.later hY).c1, (H8.out.later hY).c2, cell_in ((hY.block E (lt_of_block hE8.out)).trans hE8.out) rfl⟩)
          have KD : Hid (∀ Y, Below V8.heap.size V8 Y → Calls Tryz.prog 163 #[.pointer (some ⟨G, k * 11, none⟩), .bool true] Y fun e w' => e = .returned (.int .i64 (dueT ts true k ⟨arr, work, done, ops⟩)) ∧ Below Y.heap.size Y w') := Lib.hid (fun Y hY => by
           obtain ⟨_, y1, _, _, _, _, y7, y8, _⟩ := (H8.out.later hY).seatAt HK.out
           rw [HF8.out] at y1
           have ht := okTk_bd HT.out.tk HK.out
           exact (tdue_any Y G (k * 11) arr (tkAt ts k).d (tkAt ts k).v true y1 y7 y8 ⟨HALL.out.2.1, HALL.out.2.2.1⟩ (by omega) (by omega)).mono (fun e w' h => ⟨h.1, by obtain ⟨n, hn⟩ := h.2; rw [hn]; exact below_drewMT _ (Below.refl _ _)⟩))
          obtain ⟨u0, u1, u2, u3⟩ := KC8.out V8 (Below.refl _ _)
          clear hV8 hf8 hB8 hs8 h8 g8 hE6 z0 z1 z2 z3 z4 p0 p1 p2 p3 p4 c0 c2 s5 b0
          go_wp2_with fail
          go_region_held3 (fun Y => Y.cell? ⟨T, 0, none⟩ = some (.slice (some ⟨G, 0, none⟩) q q) ∧ Y.cell? ⟨T, 1, none⟩ = some (.pointer (some ⟨H, 0, none⟩)) ∧ Y.cell? ⟨T, 2, none⟩ = some (.bool true) ∧ Y.cell? ⟨E, 0, none⟩ = some (.int .i64 k))
           (first | exact K10.out | exact KC8.out _ HB9.out | exact KC8.out _ (by repeat first | exact Below.refl _ _ | refine Below.drew ?_ | refine below_drewMT _ ?_) | fail "no")
           (first
           | (go_at_call 162; refine (hput_in w9 lo hi H W X ts.length m _ (H8.out.later HB9.out).hp k _ HK.out (by unfold dmT; rw [HJ.out]; rfl)).mono ?_; rintro e w10 ⟨rfl, hp10, hM10⟩
              obtain ⟨h10, g10⟩ := (H8.out.later HB9.out).put (j := ⟨arr, work, done, ops⟩) HK.out HJ.out hp10 hM10 (by obtain ⟨_, y1, y2, y3, y4, y5, y6⟩ := HALL.out; exact ⟨y1, y2, y3, y4, by show 0 ≤ done; omega, by show done ≤ work; omega, by show ops.length ≤ 64; have := HNN.out; omega⟩) (by rw [HF8.out]) (by rw [HF8.out]; have := HNN.out; subst this; exact O8.out.later HB9.out) (fun g hg => by rw [HF8.out] at hg; exact (HGO.out g hg).1)
              have H10 := Lib.hid h10
              have G10 : Hid (GrowS S S w w10) := Lib.hid ((G8.out.trans (GrowS.of_below HB9.out)).trans g10)
              have K10 : Hid (w10.cell? ⟨T, 0, none⟩ = some (.slice (some ⟨G, 0, none⟩) q q) ∧ w10.cell? ⟨T, 1, none⟩ = some (.pointer (some ⟨H, 0, none⟩)) ∧ w10.cell? ⟨T, 2, none⟩ = some (.bool true) ∧ w10.cell? ⟨E, 0, none⟩ = some (.int .i64 k)) := Lib.hid (by
               rw [HQ.out]
               have hE9 := (HB9.out.block E (lt_of_block hE8.out)).trans hE8.out
               exact ⟨h10.c0, h10.c1, h10.c2, cell_in ((g10.block E (lt_of_block hE9) hEn.out.2.2.2).trans hE9) rfl⟩)
              clear hp10 hM10 h10 g10)
           | (go_at_call 163; refine (KD.out _ (by repeat first | exact Below.refl _ _ | refine Below.drew ?_ | refine below_drewMT _ ?_)).mono ?_; rintro e w9 ⟨rfl, hb9⟩
              have HB9 : Hid (Below V8.heap.size V8 w9) := Lib.hid (Below.trans (by repeat first | exact Below.refl _ _ | refine Below.drew ?_ | refine below_drewMT _ ?_) hb9)
              clear hb9)
           | fail "no arm")
          go_wp2_with fail
          go_ret
          have hnn := HNN.out
          have hd0 := HALL.out.2.2.2.2.2.1
          refine ⟨(fun g => S g ∨ (f8 k).ops.ownBlock = some g), by rw [HER.out]; first | done | rfl, ?_, ⟨G10.out.os, G10.out.tape, G10.out.output, G10.out.size, G10.out.block, fun g hg => Or.elim hg .inl (fun e => .inr (by rw [HF8.out] at e; exact (HGO.out g e).2))⟩⟩
          have hpk := HOK.out.putOk (hi := true) (k : Int) arr work done ops
          rw [put_yes (by rw [hnn]; exact HER.out), Int.toNat_natCast] at hpk ⊢
          refine ⟨hpk, G, lo, hi, H, W, X, m + 1, f8, ?_⟩
          have h := H10.out
          rw [dm_upd]
          subst hd0
          exact h
end Go.Proofs.YtchbehnkkcjdgaaGreat
namespace Go.Proofs.YtchbehnkkcjdgaaGreat
open Go.ChangeShapes Go.WideShapes Go.ChangeAt Go.RowKit
set_option linter.unusedVariables false
set_option maxRecDepth 100000 in
theorem built_part19 (a : Option Addr) (n c : Nat) : Tryz.prog.built 37 [(0, .slice a n c)] = some #[.slice a n c, .slice none 0 0, .slice none 0 0, .int .u8 0, .int .u8 0, .int .u8 0] := by kernel_rfl
def seatZ : Array Value := #[.int .i64 0, .int .i64 0, .int .i64 0, .int .i64 0, .slice none 0 0, .bool false, .int .i64 0, .int .i64 0, .int .i64 0, .int .i64 0, .int .i64 0]
theorem Tryz.infoSeat : (Tryz.prog.info? 213).map (fun i => (i.zero, i.size, i.bytes)) = some (some (.agg seatZ), 11, 104) := by kernel_rfl
def seatObj (n : Nat) : Obj := .cells (madeCells (Value.agg seatZ).cells (n * 11)) 213
theorem run_make_seats (n : Nat) (hn : n ≤ 6) (W : World) : (Instr.makeSlice 193 (.int .i64 (n : Int)) (.int .i64 (n : Int))).run Tryz.prog W = .ok (.slice (some ⟨W.heap.size, 0, none⟩) n n) (W.alloc (seatObj n)) := by
 obtain ⟨i0, hi0, hz0, hz1, hz2⟩ := info_parts Tryz.infoSeat
 have h := run_make (P := Tryz.prog) W 193 213 i0 _ Tryz.underlying193 hi0 hz0 .i64 .i64 (n : Int) (n : Int) (by omega) (by omega) (by rw [hz2]; omega) (by omega)
 rw [h, hz1]
 rfl
theorem tk0 (i : Nat) : tkAt [] i = ⟨false, 0, 0, 0, 0, 0⟩ := by unfold tkAt; simp
theorem seats_made {w : World} {G n : Nat} (h : w.heap[G]? = some (seatObj n)) : SeatsC w G n (seatV (fun _ => Jc.z) []) := by
 refine ⟨_, h, by simp [madeCells], fun i hi r hr => ?_⟩
 have hz : (i * 11 + r) % 11 = r := by omega
 have hlt : i * 11 + r < n * 11 := by omega
 simp only [madeCells, Value.cells]
 simp only [Array.getElem?_map, Array.getElem?_range, hlt, if_true, Option.map_some]
 have hs : seatZ.size = 11 := rfl
 rw [hs, hz]
 match r, hr with
 | 0, _ => rfl
 | 1, _ => rfl
 | 2, _ => rfl
 | 3, _ => rfl
 | 4, _ => rfl
 | 5, _ => simp only [seatV, tk0]; rfl
 | 6, _ => simp only [seatV, tk0]; rfl
 | 7, _ => simp only [seatV, tk0]; rfl
 | 8, _ => simp only [seatV, tk0]; rfl
 | 9, _ => simp only [seatV, tk0]; rfl
 | 10, _ => simp only [seatV, tk0]; rfl
theorem seat_of (ts : List Tk) (k : Nat) (hk : k < ts.length) : ∀ i r, r < 11 → (if i = k ∧ r = 10 then .int .i64 (tkAt ts k).top else if i = k ∧ r = 9 then .int .i64 (tkAt ts k).lo else if i = k ∧ r = 8 then .int .i64 (tkAt ts k).v else if i = k ∧ r = 7 then .int .i64 (tkAt ts k).d else if i = k ∧ r = 6 then .int .i64 (tkAt ts k).t else if i = k ∧ r = 5 then .bool (tkAt ts k).hi else seatV (fun _ => Jc.z) (ts.take k) i r) = seatV (fun _ => Jc.z) (ts.take (k + 1)) i r := by
 intro i r hr
 have ht := tkAt_take hk i
 by_cases e : i = k
 ·subst e
  rw [if_pos rfl] at ht
  match r, hr with
  | 0, _ => simp [seatV]
  | 1, _ => simp [seatV]
  | 2, _ => simp [seatV]
  | 3, _ => simp [seatV]
  | 4, _ => simp [seatV]
  | 5, _ => simp [seatV, ht]
  | 6, _ => simp [seatV, ht]
  | 7, _ => simp [seatV, ht]
  | 8, _ => simp [seatV, ht]
  | 9, _ => simp [seatV, ht]
  | 10, _ => simp [seatV, ht]
 ·rw [if_neg e] at ht
  simp only [e, false_and, if_false]
  unfold seatV
  rw [ht]
/-- What New has made, ahead of its loop. -/
structure NwAt (w0 w : World) (T G lo hi H W X n : Nat) : Prop where
 box : w.heap[T]? = some (.cells #[.slice (some ⟨G, 0, none⟩) n n, .pointer (some ⟨H, 0, none⟩), .bool false] 196 (0, 0))
 hp : HpD w lo hi H W X n 0 (fun _ => none)
 tg : T ≠ G ∧ ¬ (lo ≤ T ∧ T < hi) ∧ ¬ (lo ≤ G ∧ G < hi)
 new : w0.heap.size ≤ T ∧ w0.heap.size ≤ G ∧ w0.heap.size ≤ lo
 b : Below w0.heap.size w0 w
theorem NwAt.drew {w0 w : World} {T G lo hi H W X n : Nat} (h : NwAt w0 w T G lo hi H W X n) : NwAt w0 w.drew T G lo hi H W X n := ⟨h.box, h.hp.later (Below.refl _ _).drew, h.tg, h.new, h.b.drew⟩
theorem SeatsC.drew {w : World} {G n : Nat} {c : Nat → Nat → Value} (h : SeatsC w G n c) : SeatsC w.drew G n c := h.same rfl
set_option maxRecDepth 100000 in
set_option maxHeartbeats 8000000 in
theorem tnew_any (w : World) (a : Option Addr) (n c : Nat) (ts : List Tk) (hn : ts.length = n) (hl : Lies w 0 w.heap.size (.slice a n c) n 6 (ts.flatMap Tk.cells)) :
 Calls Tryz.prog 90 #[.slice a n c] w fun e w' => (okN ts = true → ∃ H S, e = .returned (.pointer (some ⟨H, 0, none⟩)) ∧ TbP H ts false (fun _ => none) w' S ∧ ∀ k, S k → w.heap.size ≤ k) ∧ (okN ts = false → e = .returned (.pointer none)) ∧ Below w.heap.size w w' := by
 have hR := rights_tasks a n c w ts hn hl
 have HP := Lib.hid (built_part19 a n c)
 cases ho : okN ts with
 | false =>
   rw [ho] at hR
   have HR := Lib.hid hR
   clear hR ho hl hn
   go_enter Tryz.func90, Tryz.ntmps90
   go_wp2_with (first
    | (go_at_call 37; refine HR.out.mono ?_; rintro e w2 ⟨rfl, hb2'⟩; have hb2 := Lib.hid hb2'; clear hb2')
    | (refine wpList_build3 (by rfl) 37 _ (by rfl) [(0, .slice a n c)] (by rfl) _ HP.out ?_)
    | fail "no arm")
   go_ret
   exact ⟨fun h => (by cases h), fun _ => rfl, hb2.out⟩
 | true =>
   rw [ho] at hR
   have HR := Lib.hid hR
   have hn6 : n ≤ 6 := by
    unfold okN at ho
    rw [Bool.and_eq_true, decide_eq_true_eq] at ho
    omega
   have HO : Hid (∀ x ∈ ts, okTk x = true) := Lib.hid (by
    unfold okN at ho
    rw [Bool.and_eq_true, List.all_eq_true] at ho
    exact ho.2)
   have hmk := run_make_seats n hn6
   have KA := Lib.hid (tks_read hn hl)
   have HNN := Lib.hid hn
   have HNW : Hid (∀ Y : World, Calls Tryz.prog 140 #[.int .i64 (n : Int)] Y fun e w' => ∃ hi H W X, e = .returned (.pointer (some ⟨H, 0, none⟩)) ∧ HpD w' Y.heap.size hi H W X n 0 (fun _ => none) ∧ Below Y.heap.size Y w') := Lib.hid (fun Y => by
    have := hnew_any (n : Int) Y
    rw [show (min (max (n : Int) 0) 1024).toNat = n by omega] at this
    exact this)
   clear hR ho hl hn
   go_enter Tryz.func90, Tryz.ntmps90
   go_upto_region 3 with (first
    | (go_at_call 37; refine HR.out.mono ?_; rintro e w2 ⟨rfl, hb2'⟩; have hb2 := Lib.hid hb2'; clear hb2')
    | (refine wpList_build3 (by rfl) 37 _ (by rfl) [(0, .slice a n c)] (by rfl) _ HP.out ?_)
    | fail "no arm")
   go_cut [3] from 10 to 17 (fun s3 wx => ∃ T G lo hi H W X, s3 = .pointer (some ⟨T, 0, none⟩) ∧ Hid (NwAt w wx T G lo hi H W X n) ∧ Hid (SeatsC wx G n (seatV (fun _ => Jc.z) (ts.take 0))))
   case first =>
    go_region_held3 (fun X => True)
     (first | trivial | fail "no")
     (first | (go_at_call 140; refine (HNW.out _).mono ?_; rintro e w3 ⟨hi, H, W, X, rfl, hp3, hb3⟩; have HP3 := Lib.hid hp3; have HB3 := Lib.hid hb3; clear hp3 hb3) | fail "no arm")
    ·go_wp2_with fail
     go_meet
     case rel =>
      have hz2 := hb2.out.size
      have hz3 := HB3.out.size
      have hh := HP3.out.lo
      have hs1 : (w2.alloc (seatObj n)).drew.heap.size = w2.heap.size + 1 := by simp
      rw [hs1] at hz3 hh
      have hG : w3.heap[w2.heap.size]? = some (seatObj n) := (HB3.out.block w2.heap.size (by rw [hs1]; omega)).trans (heap_alloc_new _ _)
      have hB2 : Below w.heap.size w (w2.alloc (seatObj n)).drew := (hb2.out.alloc hz2 _).drew
      have hb3 : Below w.heap.size w w3 := hB2.trans (HB3.out.mono hB2.size)
      refine ⟨w3.heap.size, w2.heap.size, w2.heap.size + 1, hi, H, W, X, rfl, Lib.hid ⟨heap_alloc_new _ _, ?_, ⟨by omega, by omega, by omega⟩, ⟨by omega, hz2, by omega⟩, hb3.alloc hb3.size _⟩, Lib.hid (seats_made ((Below.heap_alloc _ _ _ (by omega)).trans hG))⟩
      have := HP3.out.later (below1 w3 (.cells #[.slice (some ⟨w2.heap.size, 0, none⟩) n n, .pointer (some ⟨H, 0, none⟩), .bool false] 196))
      rw [hs1] at this
      exact this
    ·go_wp2_with fail
     go_meet
     case rel =>
      have hz2 := hb2.out.size
      have hz3 : w2.heap.size ≤ w3.heap.size := HB3.out.size
      have hh := HP3.out.lo
      have hb3 : Below w.heap.size w w3 := hb2.out.drew.trans (HB3.out.mono hb2.out.drew.size)
      have hn := heap_alloc_new (w3.alloc (seatObj n)) (.cells #[.slice (some ⟨w3.heap.size, 0, none⟩) n n, .pointer (some ⟨H, 0, none⟩), .bool false] 196)
      have hs4 : (w3.alloc (seatObj n)).heap.size = w3.heap.size + 1 := by simp
      rw [hs4] at hn
      refine ⟨w3.heap.size + 1, w3.heap.size, w2.heap.size, hi, H, W, X, rfl, Lib.hid ⟨hn, (HP3.out.later (below1 w3 (seatObj n))).later (below1 _ _), ⟨by omega, by omega, by omega⟩, ⟨by omega, by omega, hz2⟩, b_alloc (hb3.alloc hb3.size _) (Nat.le_refl _) _⟩, Lib.hid (seats_made ((Below.heap_alloc _ _ _ (by rw [hs4]; omega)).trans (heap_alloc_new _ _)))⟩
   case rest =>
   obtain ⟨T, G, lo, hi, H, W, X, rfl, HW0, HS0⟩ := hcut
   clear HP HR hmk HNW
   go_wp2_with fail
   go_loopw [20] (fun s wr => ∃ (k : Nat), k ≤ n ∧ s = .int .i64 k ∧ Hid (NwAt w wr T G lo hi H W X n) ∧ Hid (SeatsC wr G n (seatV (fun _ => Jc.z) (ts.take k)))) (fun s _ => n - (intOf s).toNat)
   case atStart => exact ⟨0, Nat.zero_le _, rfl, HW0, HS0⟩
   case round =>
    clear HW0 HS0
    obtain ⟨k, hk, rfl, HW, HS⟩ := hrel
    by_cases hlt : k < n
    ·have d0 : decide ((k : Int) < (n : Int)) = true := decide_eq_true (by omega)
     have d1 : (0 : Int) ≤ (k : Int) := by omega
     have d2 : (k : Int) < (n : Int) := by omega
     have hkL : k < ts.length := by have := HNN.out; omega
     obtain ⟨b, off, ea, ⟨k0, k1, k2, k3, k4, k5⟩, hb⟩ := KA.out wr HW.out.b k hlt
     subst ea
     have HM := Lib.hid (seat_of ts k hkL)
     obtain ⟨x, hx⟩ : ∃ x, x = tkAt ts k := ⟨_, rfl⟩
     rw [← hx] at k0 k1 k2 k3 k4 k5 HM
     clear hb hx hkL
     obtain ⟨x0, x1, x2, x3, x4, x5⟩ := x
     dsimp only at k0 k1 k2 k3 k4 k5 HM
     obtain ⟨V, hV⟩ : ∃ V, V = wr.alloc (.cells #[.bool x0, .int .i64 x1, .int .i64 x2, .int .i64 x3, .int .i64 x4, .int .i64 x5] 111) := ⟨_, rfl⟩
     obtain ⟨E, hE⟩ : ∃ E, E = wr.heap.size := ⟨_, rfl⟩
     have hbl : V.heap[E]? = some (.cells #[.bool x0, .int .i64 x1, .int .i64 x2, .int .i64 x3, .int .i64 x4, .int .i64 x5] 111 (0, 0)) := by rw [hV, hE]; exact heap_alloc_new _ _
     have hVB : Below wr.heap.size wr V := by rw [hV]; exact below1 _ _
     have hC0 := HS.out.same (hVB.block G HS.out.lt)
     obtain ⟨W6, hW6⟩ : ∃ W6, W6 = ((((((V.setCell ⟨G, k * 11 + 5, none⟩ (.bool x0)).setCell ⟨G, k * 11 + 6, none⟩ (.int .i64 x1)).setCell ⟨G, k * 11 + 7, none⟩ (.int .i64 x2)).setCell ⟨G, k * 11 + 8, none⟩ (.int .i64 x3)).setCell ⟨G, k * 11 + 9, none⟩ (.int .i64 x4)).setCell ⟨G, k * 11 + 10, none⟩ (.int .i64 x5)) := ⟨_, rfl⟩
     have hB : But G V W6 := by rw [hW6]; exact ((((((But.refl _ _).set _ _).set _ _).set _ _).set _ _).set _ _).set _ _
     have hC6 : SeatsC W6 G n (seatV (fun _ => Jc.z) (ts.take (k + 1))) := by
      rw [hW6]
      exact ((((((hC0.set (q := 5) hlt (by omega) (.bool x0)).set (q := 6) hlt (by omega) (.int .i64 x1)).set (q := 7) hlt (by omega) (.int .i64 x2)).set (q := 8) hlt (by omega) (.int .i64 x3)).set (q := 9) hlt (by omega) (.int .i64 x4)).set (q := 10) hlt (by omega) (.int .i64 x5)).congr (fun i _ r hr => HM.out i r hr)
     have c0 : V.cell? ⟨T, 0, none⟩ = some (.slice (some ⟨G, 0, none⟩) n n) := cell_in ((hVB.block T (lt_of_block HW.out.box)).trans HW.out.box) rfl
     have hw6 : NwAt w W6 T G lo hi H W X n := by
      have hw := HW.out
      have hv : Below w.heap.size w V := hw.b.trans (hVB.mono hw.b.size)
      have hbox := (hB.block T (lt_of_block ((hVB.block T (lt_of_block hw.box)).trans hw.box)) hw.tg.1).trans ((hVB.block T (lt_of_block hw.box)).trans hw.box)
      have hh := hw.hp.lo
      have hz := hVB.size
      exact ⟨hbox, (hw.hp.later hVB).keep (fun g h1 h2 => hB.block g (by omega) (fun e => hw.tg.2.2 (by subst e; exact ⟨h1, h2⟩))) hB.size, hw.tg, hw.new, hv.trans (hB.below hw.new.2.1 hv.size)⟩
     rw [hW6] at hw6 hC6
     have HFIN := Lib.hid (And.intro hC6 hw6)
     clear hw6 hW6
     have e0 : V.cell? ⟨E, 0, none⟩ = some (.bool x0) := cell_in hbl rfl
     have e1 : V.cell? ⟨E, 1, none⟩ = some (.int .i64 x1) := cell_in hbl rfl
     have e2 : V.cell? ⟨E, 2, none⟩ = some (.int .i64 x2) := cell_in hbl rfl
     have e3 : V.cell? ⟨E, 3, none⟩ = some (.int .i64 x3) := cell_in hbl rfl
     have e4 : V.cell? ⟨E, 4, none⟩ = some (.int .i64 x4) := cell_in hbl rfl
     have e5 : V.cell? ⟨E, 5, none⟩ = some (.int .i64 x5) := cell_in hbl rfl
     have p0 := hC0.at_ (r := 5) hlt (by omega)
     have p1 := hC0.at_ (r := 6) hlt (by omega)
     have p2 := hC0.at_ (r := 7) hlt (by omega)
     have p3 := hC0.at_ (r := 8) hlt (by omega)
     have p4 := hC0.at_ (r := 9) hlt (by omega)
     have p5 := hC0.at_ (r := 10) hlt (by omega)
     have f0 := hC0.free (k * 11 + 5)
     have f1 := hC0.free (k * 11 + 6)
     have f2 := hC0.free (k * 11 + 7)
     have f3 := hC0.free (k * 11 + 8)
     have f4 := hC0.free (k * 11 + 9)
     have f5 := hC0.free (k * 11 + 10)
     have HV := Lib.hid hV
     have HE := Lib.hid hE
     clear hbl hVB hC0 hB hC6 hV hE
     go_upto_region 7 with fail
     rw [← HV.out, ← HE.out]
     clear k0 k1 k2 k3 k4 k5
     go_region
     go_wp2_with fail
     go_roundw
     case rel => exact ⟨k + 1, by omega, by go_num, Lib.hid HFIN.out.2.drew, Lib.hid HFIN.out.1.drew⟩
     case measure => simp [intOf]; omega
    ·have d0 : decide ((k : Int) < (n : Int)) = false := decide_eq_false (by omega)
     have hkn : k = n := by omega
     subst hkn
     go_wp2_with fail
     go_ret
     have hw := HW.out
     have hnn := HNN.out
     have hs := HS.out
     rw [List.take_of_length_le (by omega)] at hs
     subst hnn
     have hh := hw.hp.lo
     refine ⟨fun _ => ⟨T, fun g => g = T ∨ g = G ∨ (lo ≤ g ∧ g < hi), rfl, ⟨JsOk.none ts, G, lo, hi, H, W, X, 0, fun _ => Jc.z, ?_⟩, ?_⟩, fun h => (by cases h), hw.b⟩
     ·refine ⟨hw.box, hs, hw.hp, (cnt_none _).symm, (JsOk.none ts).w, fun _ => rfl, (fun _ _ h => by cases h), hw.tg, ⟨.inl rfl, .inr (.inl rfl), fun g h1 h2 => .inr (.inr ⟨h1, h2⟩)⟩, ?_, hn6, HO.out⟩
      rintro g (rfl | rfl | hg)
      ·exact lt_of_block hw.box
      ·exact hs.lt
      ·omega
     ·rintro g (rfl | rfl | hg)
      ·exact hw.new.1
      ·exact hw.new.2.1
      ·have := hw.new.2.2; omega
/-- The program keeps the contracts. -/
def tasksOk : TasksOk where
 Tb := TbP
 own := tb_own
 bd := tb_bd
 new := fun w a n c ts hn hl _ => tnew_any w a n c ts hn hl
 put := fun w H S ts hi js t arr work done a n c ops h hn hl => tput_any w H S ts hi js t arr work done a n c ops h hn hl
 first := fun w H S ts hi js h => tfirst_any w H S ts hi js h
 run := fun w H S ts hi js t h => trunT_any w H S ts hi js h t
 rise := fun w H S ts hi js h => (trise_any w H S ts hi js h).mono (by rintro e w' ⟨ao, cap, h⟩; exact ⟨S, ao, cap, h⟩)
 fall := fun w H S ts hi js h => tfall_any w H S ts hi js h
 high := fun w H S ts hi js h => thigh_any w H S ts hi js h
 missed := fun w H S ts hi js now h => tmissed_any w H S ts hi js h now
 get := fun w H S ts hi js t h => tget_any w H S ts hi js h t
 len := fun w H S ts hi js h => tlen_any w H S ts hi js h
 clear := fun w H S ts hi js h => tclear_any w H S ts hi js h
end Go.Proofs.YtchbehnkkcjdgaaGreat
