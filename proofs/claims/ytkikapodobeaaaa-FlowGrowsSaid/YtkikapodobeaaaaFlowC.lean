/- All of a set of edges, in some order: maps.Keys, slices.AppendSeq, slices.Collect. -/
import Derived.Test.YtkikapodobeaaaaFlowA
import Derived.RangeFuncNested
import Derived.RangeFuncBound
import Derived.RangeFuncCalls
import Derived.RangeFuncLeaves
import Derived.Shelf.Abstract
import Derived.Sort.MapsRangeIn
import Derived.Sort.KeysCollected
import Derived.WalkKit
import Derived.OwnWalkIn
import Derived.TacticsInMore
import Derived.LoopNIn
import Derived.LoopIn
import Derived.Maps.AppendAt
namespace Go.Proofs.Ytkikapodobeaaaa
open Go.RowKit Go.Maps Go.Sort Go.Shelf
set_option linter.unusedVariables false
attribute [local go_sem] Oper.semAt_some

/-- What has come of a set, and what is left. -/
def CollE (S : Int × Int → Bool) (left : Lit → Bool) (ss : List (Int × Int)) : Prop :=
  ss.Nodup ∧ (∀ e ∈ ss, EIn e ∧ S e = true) ∧ ∀ e, EIn e → left (kE e) = (S e && !decide (e ∈ ss))
theorem CollE.step {S : Int × Int → Bool} {left : Lit → Bool} {ss : List (Int × Int)} (h : CollE S left ss) {e : Int × Int} (he : EIn e) (hl : left (kE e) = true) :
    CollE S (fun z => left z && !z.sameKey (kE e)) (ss ++ [e]) := by
  obtain ⟨h1, h2, h3⟩ := h
  have hn : e ∉ ss := by
    intro hc
    rw [h3 e he] at hl
    simp [hc] at hl
  refine ⟨?_, fun x hx => ?_, fun x hx => ?_⟩
  · rw [List.nodup_append]
    exact ⟨h1, by simp, fun a ha b hb => by simp at hb; subst hb; rintro rfl; exact hn ha⟩
  · rcases List.mem_append.1 hx with hx | hx
    · exact h2 x hx
    · simp at hx; subst hx
      rw [h3 _ he, Bool.and_eq_true] at hl
      exact ⟨he, hl.1⟩
  · show (left (kE x) && !(kE x).sameKey (kE e)) = _
    rw [kE_same hx he, h3 x hx]
    by_cases hxe : x = e
    · subst hxe; simp
    · simp [hxe]
/-- All that a set holds, each once. -/
def AllE (S : Int × Int → Bool) (ss : List (Int × Int)) : Prop := ss.Nodup ∧ (∀ e ∈ ss, EIn e) ∧ ∀ e, EIn e → (e ∈ ss ↔ S e = true)
theorem CollE.end {S : Int × Int → Bool} {left : Lit → Bool} {ss : List (Int × Int)} (h : CollE S left ss) (hl : ∀ kl, left kl = false) : AllE S ss := by
  obtain ⟨h1, h2, h3⟩ := h
  refine ⟨h1, fun e he => (h2 e he).1, fun e he => ?_⟩
  have := h3 e he
  rw [hl] at this
  constructor
  · intro hm
    exact (h2 e hm).2
  · intro hs
    rw [hs] at this
    simpa using this

/-- The same, and as many as there is room for at most. -/
def AllN (S : Int × Int → Bool) (nn : Nat) (ss : List (Int × Int)) : Prop := AllE S ss ∧ ss.length ≤ nn
set_option maxRecDepth 100000 in
set_option maxHeartbeats 1000000 in
theorem keysE_in (F : Fence) (n : Nat) (h10 : F.fn 50) (hro : F.round = none) (hn : 1 ≤ n) (l Bm b nn : Nat) (S : Int × Int → Bool) (J Jx : List (Int × Int) → World → Prop)
    (hY : ∀ pre x W, J pre W → pre.length < nn → YieldAt F (n - 1) Try.prog l #[.agg #[.int .i64 x.1, .int .i64 x.2]] W fun e W' =>
      (e = .returned (.bool true) ∧ J (pre ++ [x]) W' ∧ KeepsWalks W W') ∨ (e = .returned (.bool false) ∧ Jx (pre ++ [x]) W'))
    (W : World) (hJ : AbidesFrom W.heap.size J) (hm : W.cell? ⟨Bm, 0, none⟩ = some (.map (some b))) (hown : SetE W b nn S) (h0 : J [] W) :
    CallsIn F n Try.prog 50 #[.func (.yield l) #[] #[], .pointer (some ⟨Bm, 0, none⟩)] W fun e W' => (∃ v, e = .returned v) ∧
      ((∃ ss, AllN S nn ss ∧ J ss W') ∨ (∃ pre, True ∧ Jx pre W')) := by
  obtain ⟨D0, hown, hS⟩ := hown
  refine callsIn_of_wp Try.func50 rfl h10 ?_ hro
  simp only [Try.ntmps50, List.size_toArray, List.length_cons, List.length_nil, Nat.reduceAdd, Nat.reduceSub, Array.replicate_succ, Array.replicate_zero, List.push_toArray, List.append_toArray, List.nil_append, List.cons_append]
  gi_wp2_with (first
    | (gi_at_range; refine wpListIn_range_own _ rfl _ 71 rfl 41 91 Try.lawE Try.underlying71 _ b nn _ rfl hown ?_; intro w0 hrg0 hg0 hs0)
    | gi_in)
  go_frame
  gi_loopw [3] (fun _ wr => ∃ (left : Lit → Bool) (cnt : Nat) (ss : List (Int × Int)), wr.ranges Try.prog 41 unitElem b W.heap.size nn D0 left cnt ∧ ss.length + cnt ≤ Maps.size D0 ∧ CollE S left ss ∧ J ss wr)
    (fun _ wr => wr.rangeLeft b W.heap.size)
  case atStart =>
    exact ⟨_, _, [], hrg0, by simp, ⟨List.nodup_nil, by simp, fun e he => by rw [hS e he]; simp⟩, hJ [] W w0 none h0 hg0 (fun r e => by cases e)⟩
  case round =>
    obtain ⟨left, cnt, ss, hrg, hcs, hC, hJs⟩ := hrel
    gi_wp2_with (first
      | (gi_at_next; refine wpListIn_next_ranges _ rfl _ rfl 41 Try.lawE unitElem (fun e : Int × Int => Value.agg #[.int .i64 e.1, .int .i64 e.2]) id (fun key kl hk => by obtain ⟨x, hx, _⟩ := key_inv hk; exact ⟨x, hx⟩) (fun v _ _ => ⟨v, rfl⟩) b W.heap.size nn _ _ _ rfl hrg ?_ ?_)
      | gi_in)
    · intro hc0 hl0
      gi_wp2
      go_end0
      exact ⟨⟨_, rfl⟩, .inl ⟨ss, ⟨hC.end hl0, by have := hown.size_le; omega⟩, hJs⟩⟩
    · intro x y c kl yd yp w2 cnt2 hkey hlk hv hat hrg2 hlt hg2 hs2 hen
      obtain ⟨x', ex, rfl, hx⟩ := key_inv hkey
      obtain ⟨x2, y2⟩ := x'
      simp only [eV, Value.agg.injEq] at ex
      simp at ex
      obtain ⟨rfl, rfl⟩ := ex
      have hsz : Maps.size D0 ≤ nn := hown.size_le
      have hJ2 : J ss w2 := hJ ss wr w2 (some W.heap.size) hJs hg2 (fun r e => by cases e; exact ⟨Nat.le_refl _, hrg.iter_walk⟩)
      have hJ3 : J ss (w2.alloc (.cells #[.int .i64 x, .int .i64 y] 41)) := hJ ss w2 _ none hJ2 (World.grownBy_alloc _ _ none) (fun r e => by cases e)
      have hrg3 := hrg2.alloc (.cells #[.int .i64 x, .int .i64 y] 41)
      obtain ⟨fn, tmps, assign, body, hy, hR⟩ := hY ss (x, y) _ hJ3 (by omega)
      dsimp only at hy
      clear hs2
      gi_wp2
      refine hR.mono ?_
      have hC2 := hC.step hx hlk
      rintro e W3 (⟨rfl, hJ4, hk4⟩ | ⟨rfl, hJx4⟩)
      · gi_wp2
        have hrg4 := hrg3.of_walks hk4
        go_roundw
        case rel => exact ⟨_, cnt2, ss ++ [(x, y)], hrg4, by simp; omega, hC2, hJ4⟩
        case measure => rw [hrg4.left_eq, hrg.left_eq]; exact hlt
      · gi_wp2
        refine bodyPost_ret (results_none rfl _ _ _) rfl ?_
        exact ⟨⟨_, rfl⟩, .inr ⟨ss ++ [(x, y)], trivial, hJx4⟩⟩

theorem keysE_stops (F : Fence) (n : Nat) (h10 : F.fn 50) (hro : F.round = none) (hn : 1 ≤ n) (Bm b nn : Nat) (S : Int × Int → Bool) (w : World) (hBm : Bm < w.heap.size)
    (hm : w.cell? ⟨Bm, 0, none⟩ = some (.map (some b))) (hown : SetE w b nn S) :
    SeqStopsK F n Try.prog 50 #[.pointer (some ⟨Bm, 0, none⟩)] (fun x : Int × Int => #[.agg #[.int .i64 x.1, .int .i64 x.2]]) KeepsWalks (AllN S nn) (fun _ => True) nn w := fun l J Jx W hW hJ _ hY h0 =>
  keysE_in F n h10 hro hn l Bm b nn S J Jx hY W hJ ((hW.cell (p := ⟨Bm, 0, none⟩) hBm).trans hm) (hown.later hW) h0

theorem keysMade_in (F : Fence) (n : Nat) (h5 : F.fn 37) (hro : F.round = none) (mb : Option Nat) (w : World) :
    CallsIn F n Try.prog 37 #[.map mb] w fun e w' => e = .returned (.func (.func 50) #[] #[.pointer (some ⟨w.heap.size, 0, none⟩)]) ∧ w' = w.alloc (.cells #[.map mb] 71) := by
  refine callsIn_of_wp Try.func37 rfl h5 ?_ hro
  simp only [Try.ntmps37, List.size_toArray, List.length_cons, List.length_nil, Nat.reduceAdd, Nat.reduceSub, Array.replicate_succ, Array.replicate_zero, List.push_toArray, List.append_toArray, List.nil_append, List.cons_append]
  gi_wp2
  go_ret
  exact ⟨rfl, rfl⟩

/-! ### slices.AppendSeq(nil, seq), slices.Collect(seq) -/
def eC (e : Int × Int) : List Value := [.int .i64 e.1, .int .i64 e.2]
theorem eC_len (e : Int × Int) : (eC e).length = 2 := rfl
theorem eC_one (e : Int × Int) : ∀ u ∈ eC e, u.oneCell' = true := by intro u hu; simp [eC] at hu; rcases hu with h | h <;> subst h <;> rfl
theorem Try.infoE : (Try.prog.info? 41).map (fun i => (i.zero, i.size, i.bytes)) = some (some (.agg #[.int .i64 0, .int .i64 0]), 2, 16) := by kernel_rfl
/-- The round's own edge. -/
def Box2 (W : World) (B : Nat) (e : Int × Int) : Prop := W.heap[B]? = some (.cells #[.int .i64 e.1, .int .i64 e.2] 41 (0, 0))
theorem Box2.kept {W W' : World} {row : Option Nat} {B : Nat} {e : Int × Int} (h : Box2 W B e) (hg : W.grownBy W' row) (hne : some B ≠ row) : Box2 W' B e := (hg.block B (lt_of_block h) hne).trans h
theorem Box2.own {β : Type} (B : Nat) (f : β → Int × Int) : Own (fun s W => Box2 W B (f s)) := fun s X Y row hs hg hrow =>
  hs.kept hg (fun e' => by obtain ⟨o, ho, hc⟩ := hrow B e'.symm; rw [show X.heap[B]? = _ from hs] at ho; cases ho; cases hc)
theorem cell_two_new (w : World) (x y : Value) (t : TypeId) : ∀ j u, [x, y][j]? = some u → (w.alloc (.cells #[x, y] t)).cell? ((⟨w.heap.size, 0, none⟩ : Addr).add j) = some u := by
  intro j u hu
  rw [add_at, Nat.zero_add]
  exact cell_in (heap_alloc_new w _) (by simpa using hu)

set_option maxRecDepth 100000 in
set_option maxHeartbeats 4000000 in
theorem appendE_in (F : Fence) (n : Nat) (h11 : F.fn 53) (hro : F.round = none) (hn : 2 ≤ n) (g : Nat) (lb : Array Value) (hFg : F.fn g) (eg : ∀ args w, (callFunc g args).run Try.prog w = .ok (.enter g args) w)
    (S : List (Int × Int) → Prop) (N : Nat) (hN : N ≤ maxLen) (hNb : N * 16 ≤ 140737488355328) (w : World)
    (hseq : SeqStopsK F (n - 1) Try.prog g lb (fun x : Int × Int => #[.agg #[.int .i64 x.1, .int .i64 x.2]]) KeepsWalks S (fun _ => True) N w) :
    CallsIn F n Try.prog 53 #[.slice none 0 0, .func (.func g) #[] lb] w fun e w' => ∃ (v : Value) (ss : List (Int × Int)), e = .returned v ∧ S ss ∧ w'.ownsRow w.heap.size 41 2 v ss.length (ss.flatMap eC) ∧ Below w.heap.size w w' := by
  have h1 : 1 ≤ n := by omega
  obtain ⟨i0, hi, hz0, hz1, hz2⟩ := info_parts Try.infoE
  refine callsIn_of_wp_marks Try.func53 rfl h11 ?_ hro
  simp only [Try.ntmps53, List.size_toArray, List.length_cons, List.length_nil, Nat.reduceAdd, Nat.reduceSub, Array.replicate_succ, Array.replicate_zero, List.push_toArray, List.append_toArray, List.nil_append, List.cons_append]
  gi_wp2
  have bv := Boxed.new w 29 (.slice none 0 0)
  have hB0 := below1 w (.cells #[.slice none 0 0] 29)
  have hs1 : (w.alloc (.cells #[.slice none 0 0] 29)).heap.size = w.heap.size + 1 := by simp
  obtain ⟨W0, hW0⟩ : ∃ W0, w.alloc (.cells #[.slice none 0 0] 29) = W0 := ⟨_, rfl⟩
  rw [hW0] at bv hB0 hs1 ⊢
  clear hW0
  refine wpIn_rangeFunc_ownH hro h1 (gf := g) (lb := lb) rfl hFg eg hseq walksK_t walksK_b hB0 (fun _ => rfl)
    (fun pre W => (∃ v, Boxed W w.heap.size 29 v ∧ W.ownsRow w.heap.size 41 2 v pre.length (pre.flatMap eC) ∧ True) ∧ Below w.heap.size w W)
    (fun _ _ _ => False)
    (OwnFrom.and (Own.from (holdsRow_own w.heap.size w.heap.size 29 41 2 (fun pre : List (Int × Int) => pre.length) (fun pre => pre.flatMap eC) (fun _ _ => True)) _) (ownFrom_below (Nat.le_refl _) (by omega)))
    (fun _ _ _ _ _ hs _ _ => hs)
    ⟨⟨_, bv, World.ownsRow_nil _ _ _ _, trivial⟩, hB0⟩
    (fun x a' W => ∃ Bx, w.heap.size < Bx ∧ Box2 W Bx x ∧ a' = { tmps := #[.slice none 0 0, .func (.func g) #[] lb, .pointer (some ⟨w.heap.size, 0, none⟩), undef, .slice none 0 0, .pointer (some ⟨Bx, 0, none⟩), .func (.func g) #[] lb, .agg #[.int .i64 x.1, .int .i64 x.2], undef, undef, undef, undef, undef], defers := [] })
    (fun x a' _ A B row hs hg hr => by
      obtain ⟨Bx, h1, h2, h3⟩ := hs
      exact ⟨Bx, h1, Box2.own (β := Unit) Bx (fun _ => x) () A B row h2 hg (fun r e => (hr r e).2), h3⟩)
    ?assign ?body ?done ?stop
  case assign =>
    rintro l pre ⟨x, y⟩ W K ⟨⟨v, hv, hrow, _⟩, hB⟩ hK
    gi_wp2
    exact hK _ _ ((KeepsOthers.alloc _ _).from _) (KeepsWalks.alloc _ _) ⟨⟨v, hv.alloc _, hrow.alloc _, trivial⟩, hB.alloc hB.size _⟩ ⟨W.heap.size, hv.lt, heap_alloc_new _ _, rfl⟩
  case body =>
    rintro l pre ⟨x, y⟩ a' W hl ⟨r, hr⟩ ⟨⟨v, hv, hrow, _⟩, hB⟩ ⟨Bx, hBx, hbx, rfl⟩ hlen
    have hbx' : W.heap[Bx]? = some (.cells #[.int .i64 x, .int .i64 y] 41 (0, 0)) := hbx
    have c0 := hv.cell
    have c1 : W.cell? ⟨Bx, 0, none⟩ = some (.int .i64 x) := cell_in hbx' rfl
    have c2 : W.cell? ⟨Bx, 1, none⟩ = some (.int .i64 y) := cell_in hbx' rfl
    have hle := hv.lt
    gi_wp2_with (first
      | (gi_at_builtin; refine wpListIn_append_own _ rfl _ _ 29 rfl w.heap.size 41 i0 (.agg #[.int .i64 0, .int .i64 0]) 2 16 Try.underlying29 hi hz0 hz1 hz2 rfl (by decide) _ _ _ rfl (hrow.alloc _) ⟨W.heap.size, 0, none⟩ 1 1 [.int .i64 x, .int .i64 y] rfl rfl (cell_two_new _ _ _ _) (eC_one (x, y)) (by omega) (by omega) (by have := hB.size; simp; omega) ?_; intro v' w1 hown' hgrow _; obtain ⟨g', cap', rfl⟩ := ownsRow_succ hown'; obtain ⟨hv1, hv2, hr2, hk2, hb2⟩ := hv.appended (by decide) hrow hB.size (Nat.le_refl _) hown' hgrow; have hc1 := hv1.cell; have hf1 := hv1.frozen)
      | gi_in)
    exact ⟨hk2.from _, hk2.walks, ⟨⟨_, hv2, by simpa [List.flatMap_append, eC] using hr2⟩, hB.trans hb2⟩⟩
  case done =>
    rintro D xs W hD hS ⟨⟨v, hv, hrow, _⟩, hB⟩ hK
    have c0 := hv.cell
    gi_wp2
    refine ⟨by simp, .inl ⟨_, _, rfl, run_takeDeferred hK, ?_⟩⟩
    exact ⟨_, results_tmp rfl _ _ _, v, xs, rfl, hS, ownsRow_putObj hrow _ hK rfl, hB.trans (belowK_b (w := w) (Nat.le_refl _) W D _ _ (by omega) hK rfl rfl)⟩
  case stop =>
    rintro D c pre W _ _ h _
    exact h.elim

set_option maxHeartbeats 1000000 in
theorem collectE_in (F : Fence) (n : Nat) (h8 : F.fn 48) (h11 : F.fn 53) (hro : F.round = none) (hn : 3 ≤ n) (g : Nat) (lb : Array Value) (hFg : F.fn g) (eg : ∀ args w, (callFunc g args).run Try.prog w = .ok (.enter g args) w)
    (S : List (Int × Int) → Prop) (N : Nat) (hN : N ≤ maxLen) (hNb : N * 16 ≤ 140737488355328) (w : World)
    (hseq : SeqStopsK F (n - 1 - 1) Try.prog g lb (fun x : Int × Int => #[.agg #[.int .i64 x.1, .int .i64 x.2]]) KeepsWalks S (fun _ => True) N w) :
    CallsIn F n Try.prog 48 #[.func (.func g) #[] lb] w fun e w' => ∃ (v : Value) (ss : List (Int × Int)), e = .returned v ∧ S ss ∧ w'.ownsRow w.heap.size 41 2 v ss.length (ss.flatMap eC) ∧ Below w.heap.size w w' := by
  have h1 : 1 ≤ n := by omega
  refine callsIn_of_wp Try.func48 rfl h8 ?_ hro
  simp only [Try.ntmps48, List.size_toArray, List.length_cons, List.length_nil, Nat.reduceAdd, Nat.reduceSub, Array.replicate_succ, Array.replicate_zero, List.push_toArray, List.append_toArray, List.nil_append, List.cons_append]
  gi_wp2_with (gi_at_call 53; refine (appendE_in F (n - 1) h11 hro (by omega) g lb hFg eg S N hN hNb _ hseq).mono ?_; rintro e w' ⟨v, ss, rfl, hS, hrow, hb⟩)
  go_ret
  exact ⟨v, ss, rfl, hS, hrow, hb⟩

/-- All of a set, in some order, each once. -/
theorem collectE_any (Bm b nn : Nat) (S : Int × Int → Bool) (w : World) (hm : w.cell? ⟨Bm, 0, none⟩ = some (.map (some b))) (hBm : Bm < w.heap.size) (hown : SetE w b nn S) (hN : nn * 16 ≤ 140737488355328) :
    Calls Try.prog 48 #[.func (.func 50) #[] #[.pointer (some ⟨Bm, 0, none⟩)]] w fun e w' => ∃ (v : Value) (ss : List (Int × Int)), e = .returned v ∧ AllN S nn ss ∧ w'.ownsRow w.heap.size 41 2 v ss.length (ss.flatMap eC) ∧ Below w.heap.size w w' :=
  (callsIn_wide (n := 3)).1 (collectE_in Fence.wide 3 trivial trivial rfl (by omega) _ _ trivial (enters_of Try.func50 (by kernel_rfl) rfl) (AllN S nn) nn (by unfold maxLen; omega) hN w (keysE_stops Fence.wide _ trivial rfl (by omega) Bm b nn S w hBm hm hown))
theorem keysMade_any (mb : Option Nat) (w : World) : Calls Try.prog 37 #[.map mb] w fun e w' => e = .returned (.func (.func 50) #[] #[.pointer (some ⟨w.heap.size, 0, none⟩)]) ∧ w' = w.alloc (.cells #[.map mb] 71) :=
  (callsIn_wide (n := 1)).1 (keysMade_in Fence.wide 1 trivial rfl mb w)
end Go.Proofs.Ytkikapodobeaaaa
