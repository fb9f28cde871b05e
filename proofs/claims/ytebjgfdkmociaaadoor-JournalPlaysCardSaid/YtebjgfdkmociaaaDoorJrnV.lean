/- The kinds as a sequence, collected, sorted. -/
import Derived.Test.YtebjgfdkmociaaaDoorJrnL
import Derived.Sort.OwnSortedInts
import Derived.RangeFuncNested
import Derived.RangeFuncBound
import Derived.RangeFuncCalls
import Derived.RangeFuncLeaves
import Derived.Shelf.Abstract
import Derived.Sort.MapsRangeIn
import Derived.WalkKit
import Derived.OwnWalkIn
import Derived.TacticsInMore
import Derived.LoopNIn
import Derived.LoopIn
import Derived.Maps.AppendAt
namespace Go.Proofs.YtebjgfdkmociaaaDoor
open Go.RowKit Go.Sort Go.Shelf Go.Lib
set_option linter.unusedVariables false
set_option linter.unusedSimpArgs false
attribute [local go_sem] Oper.semAt_some

/-- All below B0 stays. -/
structure KeepJ (B0 : Nat) (A C : World) : Prop where
  size : A.heap.size ≤ C.heap.size
  same : ∀ k, k < B0 → C.heap[k]? = A.heap[k]?
theorem KeepJ.trans {B0 : Nat} {A B C : World} (h : KeepJ B0 A B) (k : KeepJ B0 B C) : KeepJ B0 A C := ⟨Nat.le_trans h.size k.size, fun i hi => (k.same i hi).trans (h.same i hi)⟩
theorem KeepJ.of_below {B0 B : Nat} {A C : World} (h : Below B A C) (hB : B0 ≤ B) : KeepJ B0 A C := ⟨h.size, fun k hk => h.block k (by omega)⟩
theorem keepJ_put {B0 l : Nat} (W : World) (hl : B0 ≤ l) (o' : Obj) : KeepJ B0 W (W.putObj l o') :=
  ⟨by simp [World.putObj], fun k hk => by simp [World.putObj, Array.getElem?_setIfInBounds, show l ≠ k by omega]⟩
theorem Tryd.infoJI : (Tryd.prog.info? 3).map (fun i => (i.zero, i.size, i.bytes)) = some (some (.int .i64 0), 1, 8) := by kernel_rfl
theorem cell_one_new (w : World) (x : Value) (t : TypeId) : ∀ j u, [x][j]? = some u → (w.alloc (.cells #[x] t)).cell? ((⟨w.heap.size, 0, none⟩ : Addr).add j) = some u := by
  intro j u hu
  rw [add_at, Nat.zero_add]
  exact cell_in (heap_alloc_new w _) (by simpa using hu)

set_option maxRecDepth 100000 in
set_option maxHeartbeats 4000000 in
theorem appendJ_in (F : Fence) (n : Nat) (h11 : F.fn 31) (hro : F.round = none) (hn : 2 ≤ n) (g : Nat) (lb : Array Value) (hFg : F.fn g) (eg : ∀ args w, (callFunc g args).run Tryd.prog w = .ok (.enter g args) w)
    (S : List Int → Prop) (N : Nat) (hN : N ≤ maxLen) (hNb : N * 8 ≤ 140737488355328) (w : World)
    (hseq : SeqStopsK F (n - 1) Tryd.prog g lb (fun x : Int => #[.int .i64 x]) (KeepJ w.heap.size) S (fun _ => True) N w) :
    CallsIn F n Tryd.prog 31 #[.slice none 0 0, .func (.func g) #[] lb] w fun e w' => ∃ (v : Value) (ss : List Int), e = .returned v ∧ S ss ∧ w'.ownsRow w.heap.size 3 1 v ss.length (ss.flatMap intCells) ∧ Below w.heap.size w w' := by
  have h1 : 1 ≤ n := by omega
  obtain ⟨i0, hi, hz0, hz1, hz2⟩ := info_parts Tryd.infoJI
  refine callsIn_of_wp_marks Tryd.func31 rfl h11 ?_ hro
  simp only [Tryd.ntmps31, List.size_toArray, List.length_cons, List.length_nil, Nat.reduceAdd, Nat.reduceSub, Array.replicate_succ, Array.replicate_zero, List.push_toArray, List.append_toArray, List.nil_append, List.cons_append]
  gi_wp2
  have bv := Boxed.new w 23 (.slice none 0 0)
  have hB0 := below1 w (.cells #[.slice none 0 0] 23)
  have hs1 : (w.alloc (.cells #[.slice none 0 0] 23)).heap.size = w.heap.size + 1 := by simp
  obtain ⟨W0, hW0⟩ : ∃ W0, w.alloc (.cells #[.slice none 0 0] 23) = W0 := ⟨_, rfl⟩
  rw [hW0] at bv hB0 hs1 ⊢
  clear hW0
  refine wpIn_rangeFunc_ownH hro h1 (gf := g) (lb := lb) rfl hFg eg hseq (fun h k => h.trans k) (fun W l o o' hl h _ _ => keepJ_put W (by omega) o') hB0 (fun _ => rfl)
    (fun pre W => (∃ v, Boxed W w.heap.size 23 v ∧ W.ownsRow w.heap.size 3 1 v pre.length (pre.flatMap intCells) ∧ True) ∧ Below w.heap.size w W)
    (fun _ _ _ => False)
    (OwnFrom.and (Own.from (holdsRow_own w.heap.size w.heap.size 23 3 1 (fun pre : List Int => pre.length) (fun pre => pre.flatMap intCells) (fun _ _ => True)) _) (ownFrom_below (Nat.le_refl _) (by omega)))
    (fun _ _ _ _ _ hs _ _ => hs)
    ⟨⟨_, bv, World.ownsRow_nil _ _ _ _, trivial⟩, hB0⟩
    (fun x a' W => a' = { tmps := #[.slice none 0 0, .func (.func g) #[] lb, .pointer (some ⟨w.heap.size, 0, none⟩), undef, .slice none 0 0, .int .i64 x, .func (.func g) #[] lb, .int .i64 x, undef, undef, undef, undef, undef], defers := [] })
    (fun x a' _ A B row hs hg hr => hs)
    ?assign ?body ?done ?stop
  case assign =>
    rintro l pre x W K ⟨⟨v, hv, hrow, _⟩, hB⟩ hK
    gi_wp2
    exact hK _ _ ((KeepsOthers.refl _).from _) ⟨Nat.le_refl _, fun _ _ => rfl⟩ ⟨⟨v, hv, hrow, trivial⟩, hB⟩ rfl
  case body =>
    rintro l pre x a' W hl ⟨r, hr⟩ ⟨⟨v, hv, hrow, _⟩, hB⟩ rfl hlen
    have c0 := hv.cell
    have hle := hv.lt
    gi_wp2_with (first
      | (gi_at_builtin; refine wpListIn_append_own _ rfl _ _ 23 rfl w.heap.size 3 i0 (.int .i64 0) 1 8 Tryd.underlying23 hi hz0 hz1 hz2 rfl (by decide) _ _ _ rfl (hrow.alloc _) ⟨W.heap.size, 0, none⟩ 1 1 [.int .i64 x] rfl rfl (cell_one_new _ _ _) (in_one x) (by omega) (by omega) (by have := hB.size; simp; omega) ?_; intro v' w1 hown' hgrow _; obtain ⟨g', cap', rfl⟩ := ownsRow_succ hown'; obtain ⟨hv1, hv2, hr2, hk2, hb2⟩ := hv.appended (by decide) hrow hB.size (Nat.le_refl _) hown' hgrow; have hc1 := hv1.cell; have hf1 := hv1.frozen)
      | gi_in)
    exact ⟨hk2.from _, KeepJ.of_below hb2 (Nat.le_refl _), ⟨⟨_, hv2, by simpa [List.flatMap_append, intCells] using hr2⟩, hB.trans hb2⟩⟩
  case done =>
    rintro D xs W hD hS ⟨⟨v, hv, hrow, _⟩, hB⟩ hK
    have c0 := hv.cell
    gi_wp2
    refine ⟨by simp, .inl ⟨_, _, rfl, run_takeDeferred hK, ?_⟩⟩
    exact ⟨_, results_tmp rfl _ _ _, v, xs, rfl, hS, ownsRow_putObj hrow _ hK rfl, hB.trans (belowK_b (w := w) (Nat.le_refl _) W D _ _ (by omega) hK rfl rfl)⟩
  case stop =>
    rintro D c pre W _ _ h _
    exact h.elim

set_option maxHeartbeats 1000000 in
theorem collectJ_in (F : Fence) (n : Nat) (h8 : F.fn 26) (h11 : F.fn 31) (hro : F.round = none) (hn : 3 ≤ n) (g : Nat) (lb : Array Value) (hFg : F.fn g) (eg : ∀ args w, (callFunc g args).run Tryd.prog w = .ok (.enter g args) w)
    (S : List Int → Prop) (N : Nat) (hN : N ≤ maxLen) (hNb : N * 8 ≤ 140737488355328) (w : World)
    (hseq : SeqStopsK F (n - 1 - 1) Tryd.prog g lb (fun x : Int => #[.int .i64 x]) (KeepJ w.heap.size) S (fun _ => True) N w) :
    CallsIn F n Tryd.prog 26 #[.func (.func g) #[] lb] w fun e w' => ∃ (v : Value) (ss : List Int), e = .returned v ∧ S ss ∧ w'.ownsRow w.heap.size 3 1 v ss.length (ss.flatMap intCells) ∧ Below w.heap.size w w' := by
  have h1 : 1 ≤ n := by omega
  refine callsIn_of_wp Tryd.func26 rfl h8 ?_ hro
  simp only [Tryd.ntmps26, List.size_toArray, List.length_cons, List.length_nil, Nat.reduceAdd, Nat.reduceSub, Array.replicate_succ, Array.replicate_zero, List.push_toArray, List.append_toArray, List.nil_append, List.cons_append]
  gi_wp2_with (gi_at_call 31; refine (appendJ_in F (n - 1) h11 hro (by omega) g lb hFg eg S N hN hNb _ hseq).mono ?_; rintro e w' ⟨v, ss, rfl, hS, hrow, hb⟩)
  go_ret
  exact ⟨v, ss, rfl, hS, hrow, hb⟩


set_option maxRecDepth 100000 in
set_option maxHeartbeats 2000000 in
theorem valuesJ_in (F : Fence) (nn : Nat) (h10 : F.fn 28) (hro : F.round = none) (hn : 1 ≤ nn) (l Bm n c : Nat) (a : Option Addr) (ks : List Int) (w0 : World) (hm : w0.heap[Bm]? = some (.cells #[.slice a n c] 23 (0, 0))) (hks : ks.length = n) (hl : Lies w0 0 w0.heap.size (.slice a n c) n 1 (ks.flatMap intCells)) (hsm : n ≤ 100000) (J Jx : List Int → World → Prop)
    (hY : ∀ pre x W, J pre W → pre.length < n → YieldAt F (nn - 1) Tryd.prog l #[.int .i64 x] W fun e W' =>
      (e = .returned (.bool true) ∧ J (pre ++ [x]) W' ∧ KeepJ w0.heap.size W W') ∨ (e = .returned (.bool false) ∧ Jx (pre ++ [x]) W'))
    (W : World) (hJ : AbidesFrom W.heap.size J) (hb0 : Below w0.heap.size w0 W) (h0 : J [] W) :
    CallsIn F nn Tryd.prog 28 #[.func (.yield l) #[] #[], .pointer (some ⟨Bm, 0, none⟩)] W fun e W' => (∃ v, e = .returned v) ∧
      ((∃ ss, ss = ks ∧ J ss W') ∨ (∃ pre, True ∧ Jx pre W')) := by
  have KA := Lib.hid (ints_read hks hl)
  have HKS := Lib.hid hks
  have ks1 : ∀ Y : World, KeepJ w0.heap.size w0 Y → Y.cell? ⟨Bm, 0, none⟩ = some (.slice a n c) := fun Y hY => cell_in ((hY.same _ (lt_of_block hm)).trans hm) rfl
  have hk0 : KeepJ w0.heap.size w0 W := KeepJ.of_below hb0 (Nat.le_refl _)
  have q0 := ks1 W hk0
  have KS := Lib.hid ks1
  clear ks1 hm hl hks
  refine callsIn_of_wp Tryd.func28 rfl h10 ?_ hro
  simp only [Tryd.ntmps28, List.size_toArray, List.length_cons, List.length_nil, Nat.reduceAdd, Nat.reduceSub, Array.replicate_succ, Array.replicate_zero, List.push_toArray, List.append_toArray, List.nil_append, List.cons_append]
  gi_wp2
  gi_loopw [7] (fun s wr => ∃ k : Nat, k ≤ n ∧ s = .int .i64 k ∧ KeepJ w0.heap.size w0 wr ∧ J (ks.take k) wr) (fun s _ => n - (RowKit.intOf s).toNat)
  case atStart =>
    exact ⟨0, Nat.zero_le _, rfl, hk0, h0⟩
  case round =>
    obtain ⟨k, hk, rfl, hkb, hJk⟩ := hrel
    by_cases hlt : k < n
    · have l0 : decide ((k : Int) < (n : Int)) = true := decide_eq_true (by omega)
      have l1 : (0 : Int) ≤ (k : Int) := by omega
      have l2 : (k : Int) < (n : Int) := by omega
      obtain ⟨g, off, rfl, c0, _, hg⟩ := KA.out wr (fun b _ hb => hkb.same b hb) k hlt
      obtain ⟨x, hx⟩ : ∃ x, x = ks.getD k 0 := ⟨_, rfl⟩
      rw [← hx] at c0
      have HX := Lib.hid hx
      obtain ⟨fn, tmps, assign, body, hy, hR⟩ := hY (ks.take k) x _ hJk (by rw [List.length_take, HKS.out]; omega)
      have HKB := Lib.hid hkb
      clear hkb hx hg
      gi_wp2
      refine hR.mono ?_
      rintro e W3 (⟨rfl, hJ4, hk4⟩ | ⟨rfl, hJx4⟩)
      · gi_wp2
        go_roundw
        case rel => exact ⟨k + 1, by omega, by go_num, HKB.out.trans hk4, by
          have e : ks.take (k + 1) = ks.take k ++ [x] := by
            rw [List.take_add_one, List.getElem?_eq_getElem (by rw [HKS.out]; exact hlt), HX.out, List.getD_eq_getElem?_getD, List.getElem?_eq_getElem (by rw [HKS.out]; exact hlt)]; rfl
          rw [e]; exact hJ4⟩
        case measure => simp [RowKit.intOf]; omega
      · gi_wp2
        refine bodyPost_ret (results_none rfl _ _ _) rfl ?_
        exact ⟨⟨_, rfl⟩, .inr ⟨_, trivial, hJx4⟩⟩
    · have l0 : decide ((k : Int) < (n : Int)) = false := decide_eq_false (by omega)
      gi_wp2
      go_end0
      obtain rfl : k = n := by omega
      rw [List.take_of_length_le (by rw [HKS.out]; exact Nat.le_refl _)] at hJk
      exact ⟨⟨_, rfl⟩, .inl ⟨_, rfl, hJk⟩⟩
theorem valuesJ_stops (F : Fence) (nn : Nat) (h10 : F.fn 28) (hro : F.round = none) (hn : 1 ≤ nn) (Bm n c : Nat) (a : Option Addr) (ks : List Int) (w0 : World) (hm : w0.heap[Bm]? = some (.cells #[.slice a n c] 23 (0, 0))) (hks : ks.length = n) (hl : Lies w0 0 w0.heap.size (.slice a n c) n 1 (ks.flatMap intCells)) (hsm : n ≤ 100000) :
    SeqStopsK F nn Tryd.prog 28 #[.pointer (some ⟨Bm, 0, none⟩)] (fun x : Int => #[.int .i64 x]) (KeepJ w0.heap.size) (fun ss => ss = ks) (fun _ => True) n w0 := fun l J Jx W hW hJ _ hY h0 =>
  valuesJ_in F nn h10 hro hn l Bm n c a ks w0 hm hks hl hsm J Jx hY W hJ hW h0
theorem collectJ_any (Bm n c : Nat) (a : Option Addr) (ks : List Int) (w : World) (hm : w.heap[Bm]? = some (.cells #[.slice a n c] 23 (0, 0))) (hks : ks.length = n) (hl : Lies w 0 w.heap.size (.slice a n c) n 1 (ks.flatMap intCells)) (hsm : n ≤ 100000) :
    Calls Tryd.prog 26 #[.func (.func 28) #[] #[.pointer (some ⟨Bm, 0, none⟩)]] w fun e w' => ∃ (v : Value) (ss : List Int), e = .returned v ∧ ss = ks ∧ w'.ownsRow w.heap.size 3 1 v ss.length (ss.flatMap intCells) ∧ Below w.heap.size w w' :=
  (callsIn_wide (n := 3)).1 (collectJ_in Fence.wide 3 trivial trivial rfl (by omega) _ _ trivial (enters_of Tryd.func28 (by kernel_rfl) rfl) _ n (by unfold maxLen; omega) (by omega) w (valuesJ_stops Fence.wide _ trivial rfl (by omega) Bm n c a ks w hm hks hl hsm))
set_option maxRecDepth 100000 in
set_option maxHeartbeats 2000000 in
theorem valuesMadeJ_any (ad : Option Addr) (ln cp : Nat) (w : World) : Calls Tryd.prog 24 #[.slice ad ln cp] w fun e w' => e = .returned (.func (.func 28) #[] #[.pointer (some ⟨w.heap.size, 0, none⟩)]) ∧ w' = w.alloc (.cells #[.slice ad ln cp] 23) := by
  go_enter Tryd.func24, Tryd.ntmps24
  go_wp2
  go_ret
  exact ⟨rfl, rfl⟩

/-- The sort of a row of one's own. -/
theorem sortJ_any (w : World) (base : Nat) (v : Value) (ss : List Int) (hC : ss.length ≤ 100000) (h : w.ownsRow base 3 1 v ss.length (ss.flatMap intCells)) :
    Calls Tryd.prog 27 #[v] w fun e w' => e = .returned (.tuple #[]) ∧ w'.ownsRow base 3 1 v ss.length ((ss.mergeSort fun a b => decide (a ≤ b)).map (Value.int .i64)) ∧ w.grownBy w' v.ownBlock := by
  have hfm : ∀ l : List Int, l.flatMap intCells = l.map (Value.int .i64) := fun l => by induction l with | nil => rfl | cons x l ih => rw [List.flatMap_cons, ih]; rfl
  rcases h.2 with ⟨rfl, h0⟩ | ⟨g, c', cur, rfl, hb, hg, a1, a2, a3, a4⟩
  · have : ss = [] := List.eq_nil_of_length_eq_zero h0
    subst this
    refine (Any.slices_Sort_int_none Tryd.jlSort none 0 w).mono ?_
    rintro e w' ⟨rfl, rfl⟩
    exact ⟨rfl, by simpa using h, World.grownBy.refl _ _⟩
  · have ht : cur.toList.take ss.length = ss.map (Value.int .i64) := by rw [← Nat.mul_one ss.length, a4, hfm]
    have := Any.slices_Sort_int Tryd.jlSort g 0 c' ss w (holds_of_blockI hg ht) (lt_of_block hg) (by omega)
    refine this.mono ?_
    rintro e w' ⟨rfl, q, os, rfl⟩
    refine ⟨rfl, ?_, grownBy_sortedI _⟩
    exact ownsRow_sortedI (n := q) (os := os) (base := base) (cap := c') (ss := ss) (ts := ss.mergeSort fun a b => decide (a ≤ b)) (List.length_mergeSort _) hb hg (by omega) a2 a3
set_option maxRecDepth 100000 in
set_option maxHeartbeats 2000000 in
theorem sortedJ_any (Bm n c : Nat) (a : Option Addr) (ks : List Int) (w : World) (hm : w.heap[Bm]? = some (.cells #[.slice a n c] 23 (0, 0))) (hks : ks.length = n) (hl : Lies w 0 w.heap.size (.slice a n c) n 1 (ks.flatMap intCells)) (hsm : n ≤ 100000) :
    Calls Tryd.prog 23 #[.func (.func 28) #[] #[.pointer (some ⟨Bm, 0, none⟩)]] w fun e w' => ∃ v, e = .returned v ∧ w'.ownsRow w.heap.size 3 1 v n ((ks.mergeSort fun a b => decide (a ≤ b)).map (Value.int .i64)) ∧ Below w.heap.size w w' := by
  have HC := Lib.hid (collectJ_any Bm n c a ks w hm hks hl hsm)
  have HKS := Lib.hid hks
  clear hm hl hks
  go_enter Tryd.func23, Tryd.ntmps23
  go_wp2_with (first
    | (go_at_call 27; refine (sortJ_any _ _ _ _ (by rw [HKS.out]; exact hsm) q3.out).mono ?_; rintro e w4 ⟨rfl, ho4, hg4⟩)
    | (go_at_call 26; refine HC.out.mono ?_; rintro e w3 ⟨v3, ss, rfl, rfl, ho3, hb3⟩; have q3 := Lib.hid ho3; clear ho3)
    | fail "no arm")
  go_ret
  rw [HKS.out] at ho4
  exact ⟨_, rfl, ho4, hb3.grown hg4 hb3.size (fun k hk => (owns_own q3.out k hk).1)⟩
end Go.Proofs.YtebjgfdkmociaaaDoor
