/- All that are in, as they would be popped. -/
import Derived.Test.YtnenbgdonkgkfaaHeapN
import Derived.Test.YtnenbgdonkgkfaaRead
import Derived.RangeFuncNested
import Derived.RangeFuncBound
import Derived.RangeFuncCalls
import Derived.RangeFuncLeaves
import Derived.Shelf.Abstract
import Derived.Sort.MapsRangeIn
import Derived.WalkKit
import Derived.OwnWalkIn
import Derived.TacticsInMore
import Derived.LoopNIn
import Derived.LoopIn
import Derived.Maps.AppendAt
import Derived.Shelf.SlSortCmp.NoneTotal
import Derived.Shelf.SlSortCmp.WholeK
import Derived.Ground.SlsfProg
namespace Go.Proofs.Ytnenbgdonkgkfaa
open Go.RowKit Go.Sort Go.Shelf Go.Lib
set_option linter.unusedVariables false
set_option linter.unusedSimpArgs false
attribute [local go_sem] Oper.semAt_some

/-- All below B0 stays. -/
structure KeepB (B0 : Nat) (A C : World) : Prop where
  size : A.heap.size ≤ C.heap.size
  same : ∀ k, k < B0 → C.heap[k]? = A.heap[k]?
theorem KeepB.trans {B0 : Nat} {A B C : World} (h : KeepB B0 A B) (k : KeepB B0 B C) : KeepB B0 A C := ⟨Nat.le_trans h.size k.size, fun i hi => (k.same i hi).trans (h.same i hi)⟩
theorem KeepB.of_below {B0 B : Nat} {A C : World} (h : Below B A C) (hB : B0 ≤ B) : KeepB B0 A C := ⟨h.size, fun k hk => h.block k (by omega)⟩
theorem keepB_put {B0 l : Nat} (W : World) (hl : B0 ≤ l) (o' : Obj) : KeepB B0 W (W.putObj l o') :=
  ⟨by simp [World.putObj], fun k hk => by simp [World.putObj, Array.getElem?_setIfInBounds, show l ≠ k by omega]⟩
theorem enC_len (e : En) : (enC e).length = 2 := rfl
theorem enC_one (e : En) : ∀ u ∈ enC e, u.oneCell' = true := by intro u hu; simp [enC] at hu; rcases hu with h | h <;> subst h <;> rfl
theorem But.of_grownH {w w' : World} {b : Nat} (h : w.grownBy w' (some b)) : But b w w' := ⟨h.os, h.tape, h.output, h.size, fun k hk hne => h.block k hk (fun e => hne (by cases e; rfl))⟩
theorem rowH_succ (k : Nat) (f : Nat → En) : rowH (k + 1) f = rowH k f ++ [f k] := by simp [rowH, List.range_succ]
theorem eq_of_not {x y : En} (h1 : ¬ ltH x y) (h2 : ¬ ltH y x) : x = y := by
  unfold ltH at h1 h2
  exact Prod.ext (by omega) (by omega)
theorem swoH : SWO (ltOf cmpH) where
  irrefl x := by rw [lt_cmpH]; simp [ltH.irrefl]
  trans x y z h1 h2 := by rw [lt_cmpH] at *; simp only [decide_eq_true_eq] at *; exact h1.trans h2
  ntrans x y z h1 h2 := by rw [lt_cmpH] at *; simp only [decide_eq_false_iff_not] at *; exact ltH.le_trans h2 h1
def Try.sortEn_ren : Go.Shelf.Ren := ⟨fun | 6 => 60 | 15 => 72 | 14 => 71 | 28 => 84 | 29 => 85 | 20 => 76 | 21 => 77 | 22 => 78 | 23 => 79 | 24 => 80 | 25 => 81 | 26 => 82 | 27 => 83 | 46 => 88 | 47 => 89 | 48 => 90 | 49 => 91 | 50 => 92 | 57 => 93 | n => n, fun | 22 => 86 | 24 => 94 | 25 => 100 | 3 => 3 | 39 => 120 | 0 => 0 | 53 => 131 | 55 => 133 | 4 => 4 | 46 => 125 | 45 => 124 | 50 => 83 | 5 => 5 | 9 => 9 | 66 => 138 | 70 => 142 | 76 => 144 | 77 => 145 | n => n, fun | n => n⟩
theorem Try.sortEn : Go.Proofs.SlLaysF0.n6 Try.prog Try.sortEn_ren := {
  mixed := by kernel_rfl
  f6 := ⟨Try.f60.name, by decide, Try.func60.trans (congrArg some (by kernel_rfl))⟩
  f14 := ⟨Try.f71.name, by decide, Try.func71.trans (congrArg some (by kernel_rfl))⟩
  f15 := Try.func72.trans (congrArg some (by kernel_rfl))
  f20 := ⟨Try.f76.name, by decide, Try.func76.trans (congrArg some (by kernel_rfl))⟩
  f21 := ⟨Try.f77.name, by decide, Try.func77.trans (congrArg some (by kernel_rfl))⟩
  f22 := ⟨Try.f78.name, by decide, Try.func78.trans (congrArg some (by kernel_rfl))⟩
  f23 := ⟨Try.f79.name, by decide, Try.func79.trans (congrArg some (by kernel_rfl))⟩
  f24 := ⟨Try.f80.name, by decide, Try.func80.trans (congrArg some (by kernel_rfl))⟩
  f25 := ⟨Try.f81.name, by decide, Try.func81.trans (congrArg some (by kernel_rfl))⟩
  f26 := ⟨Try.f82.name, by decide, Try.func82.trans (congrArg some (by kernel_rfl))⟩
  f27 := ⟨Try.f83.name, by decide, Try.func83.trans (congrArg some (by kernel_rfl))⟩
  f28 := Try.func84.trans (congrArg some (by kernel_rfl))
  f29 := Try.func85.trans (congrArg some (by kernel_rfl))
  f46 := ⟨Try.f88.name, by decide, Try.func88.trans (congrArg some (by kernel_rfl))⟩
  f47 := Try.func89.trans (congrArg some (by kernel_rfl))
  f48 := Try.func90.trans (congrArg some (by kernel_rfl))
  f49 := ⟨Try.f91.name, by decide, Try.func91.trans (congrArg some (by kernel_rfl))⟩
  f50 := ⟨Try.f92.name, by decide, Try.func92.trans (congrArg some (by kernel_rfl))⟩
  f57 := ⟨Try.f93.name, by decide, Try.func93.trans (congrArg some (by kernel_rfl))⟩
  t0 := Try.underlying0
  a0 := Try.isAgg0
  z0 := Try.sizeOf0
  v0 := Try.zeroValue0
  t3 := Try.underlying3
  a3 := Try.isAgg3
  z3 := Try.sizeOf3
  v3 := Try.zeroValue3
  t4 := Try.underlying4
  a4 := Try.isAgg4
  z4 := Try.sizeOf4
  v4 := Try.zeroValue4
  t5 := Try.underlying5
  a5 := Try.isAgg5
  z5 := Try.sizeOf5
  v5 := Try.zeroValue5
  t9 := Try.underlying9
  a9 := Try.isAgg9
  z9 := Try.sizeOf9
  v9 := Try.zeroValue9
  t22 := Try.underlying86
  a22 := Try.isAgg86
  z22 := Try.sizeOf86
  v22 := Try.zeroValue86
  t25 := Try.underlying100
  a25 := Try.isAgg100
  z25 := Try.sizeOf100
  v25 := Try.zeroValue100
  t39 := Try.underlying120
  a39 := Try.isAgg120
  z39 := Try.sizeOf120
  v39 := Try.zeroValue120
  t45 := Try.underlying124
  a45 := Try.isAgg124
  z45 := Try.sizeOf124
  v45 := Try.zeroValue124
  t46 := Try.underlying125
  a46 := Try.isAgg125
  z46 := Try.sizeOf125
  v46 := Try.zeroValue125
  t50 := Try.underlying83
  a50 := Try.isAgg83
  z50 := Try.sizeOf83
  v50 := Try.zeroValue83
  t53 := Try.underlying131
  a53 := Try.isAgg131
  z53 := Try.sizeOf131
  v53 := Try.zeroValue131
  t55 := Try.underlying133
  a55 := Try.isAgg133
  z55 := Try.sizeOf133
  v55 := Try.zeroValue133
  t66 := Try.underlying138
  a66 := Try.isAgg138
  z66 := Try.sizeOf138
  v66 := Try.zeroValue138
  t70 := Try.underlying142
  a70 := Try.isAgg142
  z70 := Try.sizeOf142
  v70 := Try.zeroValue142
  t76 := Try.underlying144
  a76 := Try.isAgg144
  z76 := Try.sizeOf144
  v76 := Try.zeroValue144
  t77 := Try.underlying145
  a77 := Try.isAgg145
  z77 := Try.sizeOf145
  v77 := Try.zeroValue145 }
theorem Try.infoEn2 : (Try.prog.info? 94).map (fun i => (i.zero, i.size, i.bytes)) = some (some (.agg #[.int .i64 0, .int .i64 0]), 2, 16) := by kernel_rfl
/-- The round's own edge. -/
def Box2 (W : World) (B : Nat) (e : En) : Prop := W.heap[B]? = some (.cells #[.int .i64 e.1, .int .i64 e.2] 94 (0, 0))
theorem Box2.kept {W W' : World} {row : Option Nat} {B : Nat} {e : En} (h : Box2 W B e) (hg : W.grownBy W' row) (hne : some B ≠ row) : Box2 W' B e := (hg.block B (lt_of_block h) hne).trans h
theorem Box2.own {β : Type} (B : Nat) (f : β → En) : Own (fun s W => Box2 W B (f s)) := fun s X Y row hs hg hrow =>
  hs.kept hg (fun e' => by obtain ⟨o, ho, hc⟩ := hrow B e'.symm; rw [show X.heap[B]? = _ from hs] at ho; cases ho; cases hc)
theorem cell_two_new (w : World) (x y : Value) (t : TypeId) : ∀ j u, [x, y][j]? = some u → (w.alloc (.cells #[x, y] t)).cell? ((⟨w.heap.size, 0, none⟩ : Addr).add j) = some u := by
  intro j u hu
  rw [add_at, Nat.zero_add]
  exact cell_in (heap_alloc_new w _) (by simpa using hu)

set_option maxRecDepth 100000 in
set_option maxHeartbeats 4000000 in
theorem appendE_in (F : Fence) (n : Nat) (h11 : F.fn 70) (hro : F.round = none) (hn : 2 ≤ n) (g : Nat) (lb : Array Value) (hFg : F.fn g) (eg : ∀ args w, (callFunc g args).run Try.prog w = .ok (.enter g args) w)
    (S : List (En) → Prop) (N : Nat) (hN : N ≤ maxLen) (hNb : N * 16 ≤ 140737488355328) (w : World)
    (hseq : SeqStopsK F (n - 1) Try.prog g lb (fun x : En => #[.agg #[.int .i64 x.1, .int .i64 x.2]]) (KeepB w.heap.size) S (fun _ => True) N w) :
    CallsIn F n Try.prog 70 #[.slice none 0 0, .func (.func g) #[] lb] w fun e w' => ∃ (v : Value) (ss : List (En)), e = .returned v ∧ S ss ∧ w'.ownsRow w.heap.size 94 2 v ss.length (ss.flatMap enC) ∧ Below w.heap.size w w' := by
  have h1 : 1 ≤ n := by omega
  obtain ⟨i0, hi, hz0, hz1, hz2⟩ := info_parts Try.infoEn2
  refine callsIn_of_wp_marks Try.func70 rfl h11 ?_ hro
  simp only [Try.ntmps70, List.size_toArray, List.length_cons, List.length_nil, Nat.reduceAdd, Nat.reduceSub, Array.replicate_succ, Array.replicate_zero, List.push_toArray, List.append_toArray, List.nil_append, List.cons_append]
  gi_wp2
  have bv := Boxed.new w 86 (.slice none 0 0)
  have hB0 := below1 w (.cells #[.slice none 0 0] 86)
  have hs1 : (w.alloc (.cells #[.slice none 0 0] 86)).heap.size = w.heap.size + 1 := by simp
  obtain ⟨W0, hW0⟩ : ∃ W0, w.alloc (.cells #[.slice none 0 0] 86) = W0 := ⟨_, rfl⟩
  rw [hW0] at bv hB0 hs1 ⊢
  clear hW0
  refine wpIn_rangeFunc_ownH hro h1 (gf := g) (lb := lb) rfl hFg eg hseq (fun h k => h.trans k) (fun W l o o' hl h _ _ => keepB_put W (by omega) o') hB0 (fun _ => rfl)
    (fun pre W => (∃ v, Boxed W w.heap.size 86 v ∧ W.ownsRow w.heap.size 94 2 v pre.length (pre.flatMap enC) ∧ True) ∧ Below w.heap.size w W)
    (fun _ _ _ => False)
    (OwnFrom.and (Own.from (holdsRow_own w.heap.size w.heap.size 86 94 2 (fun pre : List (En) => pre.length) (fun pre => pre.flatMap enC) (fun _ _ => True)) _) (ownFrom_below (Nat.le_refl _) (by omega)))
    (fun _ _ _ _ _ hs _ _ => hs)
    ⟨⟨_, bv, World.ownsRow_nil _ _ _ _, trivial⟩, hB0⟩
    (fun x a' W => ∃ Bx, w.heap.size < Bx ∧ Box2 W Bx x ∧ a' = { tmps := #[.slice none 0 0, .func (.func g) #[] lb, .pointer (some ⟨w.heap.size, 0, none⟩), undef, .slice none 0 0, .pointer (some ⟨Bx, 0, none⟩), .func (.func g) #[] lb, .agg #[.int .i64 x.1, .int .i64 x.2], undef, undef, undef, undef, undef], defers := [] })
    (fun x a' _ A B row hs hg hr => by
      obtain ⟨Bx, h1, h2, h3⟩ := hs
      exact ⟨Bx, h1, Box2.own (β := Unit) Bx (fun _ => x) () A B row h2 hg (fun r e => (hr r e).2), h3⟩)
    ?assign ?body ?done ?stop
  case assign =>
    rintro l pre ⟨x, y⟩ W K ⟨⟨v, hv, hrow, _⟩, hB⟩ hK
    gi_wp2
    exact hK _ _ ((KeepsOthers.alloc _ _).from _) (KeepB.of_below (below1 _ _) (by have := hB.size; omega)) ⟨⟨v, hv.alloc _, hrow.alloc _, trivial⟩, hB.alloc hB.size _⟩ ⟨W.heap.size, hv.lt, heap_alloc_new _ _, rfl⟩
  case body =>
    rintro l pre ⟨x, y⟩ a' W hl ⟨r, hr⟩ ⟨⟨v, hv, hrow, _⟩, hB⟩ ⟨Bx, hBx, hbx, rfl⟩ hlen
    have hbx' : W.heap[Bx]? = some (.cells #[.int .i64 x, .int .i64 y] 94 (0, 0)) := hbx
    have c0 := hv.cell
    have c1 : W.cell? ⟨Bx, 0, none⟩ = some (.int .i64 x) := cell_in hbx' rfl
    have c2 : W.cell? ⟨Bx, 1, none⟩ = some (.int .i64 y) := cell_in hbx' rfl
    have hle := hv.lt
    gi_wp2_with (first
      | (gi_at_builtin; refine wpListIn_append_own _ rfl _ _ 86 rfl w.heap.size 94 i0 (.agg #[.int .i64 0, .int .i64 0]) 2 16 Try.underlying86 hi hz0 hz1 hz2 rfl (by decide) _ _ _ rfl (hrow.alloc _) ⟨W.heap.size, 0, none⟩ 1 1 [.int .i64 x, .int .i64 y] rfl rfl (cell_two_new _ _ _ _) (enC_one (x, y)) (by omega) (by omega) (by have := hB.size; simp; omega) ?_; intro v' w1 hown' hgrow _; obtain ⟨g', cap', rfl⟩ := ownsRow_succ hown'; obtain ⟨hv1, hv2, hr2, hk2, hb2⟩ := hv.appended (by decide) hrow hB.size (Nat.le_refl _) hown' hgrow; have hc1 := hv1.cell; have hf1 := hv1.frozen)
      | gi_in)
    exact ⟨hk2.from _, KeepB.of_below hb2 (Nat.le_refl _), ⟨⟨_, hv2, by simpa [List.flatMap_append, enC] using hr2⟩, hB.trans hb2⟩⟩
  case done =>
    rintro D xs W hD hS ⟨⟨v, hv, hrow, _⟩, hB⟩ hK
    have c0 := hv.cell
    gi_wp2
    refine ⟨by simp, .inl ⟨_, _, rfl, run_takeDeferred hK, ?_⟩⟩
    exact ⟨_, results_tmp rfl _ _ _, v, xs, rfl, hS, ownsRow_putObj hrow _ hK rfl, hB.trans (belowK_b (w := w) (Nat.le_refl _) W D _ _ (by omega) hK rfl rfl)⟩
  case stop =>
    rintro D c pre W _ _ h _
    exact h.elim

set_option maxHeartbeats 1000000 in
theorem collectE_in (F : Fence) (n : Nat) (h8 : F.fn 59) (h11 : F.fn 70) (hro : F.round = none) (hn : 3 ≤ n) (g : Nat) (lb : Array Value) (hFg : F.fn g) (eg : ∀ args w, (callFunc g args).run Try.prog w = .ok (.enter g args) w)
    (S : List (En) → Prop) (N : Nat) (hN : N ≤ maxLen) (hNb : N * 16 ≤ 140737488355328) (w : World)
    (hseq : SeqStopsK F (n - 1 - 1) Try.prog g lb (fun x : En => #[.agg #[.int .i64 x.1, .int .i64 x.2]]) (KeepB w.heap.size) S (fun _ => True) N w) :
    CallsIn F n Try.prog 59 #[.func (.func g) #[] lb] w fun e w' => ∃ (v : Value) (ss : List (En)), e = .returned v ∧ S ss ∧ w'.ownsRow w.heap.size 94 2 v ss.length (ss.flatMap enC) ∧ Below w.heap.size w w' := by
  have h1 : 1 ≤ n := by omega
  refine callsIn_of_wp Try.func59 rfl h8 ?_ hro
  simp only [Try.ntmps59, List.size_toArray, List.length_cons, List.length_nil, Nat.reduceAdd, Nat.reduceSub, Array.replicate_succ, Array.replicate_zero, List.push_toArray, List.append_toArray, List.nil_append, List.cons_append]
  gi_wp2_with (gi_at_call 70; refine (appendE_in F (n - 1) h11 hro (by omega) g lb hFg eg S N hN hNb _ hseq).mono ?_; rintro e w' ⟨v, ss, rfl, hS, hrow, hb⟩)
  go_ret
  exact ⟨v, ss, rfl, hS, hrow, hb⟩

theorem flatEn (ts : List (En)) : (flatK enC 2 ts.toArray).toList = ts.flatMap enC := by
  apply List.ext_getElem?
  intro j
  by_cases hj : j < ts.length * 2
  · have h1 : j / 2 < ts.length := by omega
    have h2 : j % 2 < 2 := by omega
    have h3 := flat_at enC 2 enC_len ts (j / 2) (j % 2) ts[j / 2] (by simp [h1]) h2
    rw [show j / 2 * 2 + j % 2 = j by omega] at h3
    rw [h3, Array.getElem?_toList]
    have h4 : j < (flatK enC 2 ts.toArray).size := by simpa using hj
    have h5 := get_flatK enC 2 ts.toArray j (by simpa using hj)
    rw [Array.getElem?_eq_getElem h4, ← getElem!_pos _ j h4, h5]
    have h6 : ts.toArray[j / 2]! = ts[j / 2] := by rw [getElem!_pos _ _ (by simpa using h1)]; simp
    rw [h6]
    have h7 : j % 2 < (enC (ts[j / 2])).length := h2
    rw [List.getElem?_eq_getElem h7, getElem!_pos (enC (ts[j / 2])) (j % 2) h7]
  · rw [List.getElem?_eq_none (by simpa using hj), List.getElem?_eq_none (by rw [flat_len enC 2 enC_len]; omega)]
theorem holdsEn {w : World} {g : Nat} {cur : Array Value} {e : TypeId} {ss : List (En)} (hb : w.heap[g]? = some (.cells cur e (0, 0))) (ht : cur.toList.take (ss.length * 2) = ss.flatMap enC) : HoldsK enC 2 w g 0 ss.toArray := by
  intro j hj
  have hj' : j < ss.length * 2 := by simpa using hj
  refine ⟨?_, by simp [World.frozen?, hb]⟩
  have h1 : (cur.toList.take (ss.length * 2))[j]? = (flatK enC 2 ss.toArray).toList[j]? := by rw [ht, flatEn]
  rw [List.getElem?_take_of_lt hj'] at h1
  simp only [World.cell?, hb, Nat.zero_add]
  simp only [Option.isSome_none, Bool.false_eq_true, if_false]
  rw [← Array.getElem?_toList, h1, Array.getElem?_toList, Array.getElem?_eq_getElem hj, getElem!_pos _ j hj]
  rfl
theorem heap_sortedEn {w : World} {g n : Nat} {os : Array Obj} {cur : Array Value} {e : TypeId} {fr : Nat × Nat} (d : Array (En)) (hb : w.heap[g]? = some (.cells cur e fr)) :
    (sortWorldK enC 2 w g 0 n d os).heap[g]? = some (.cells (putCells id 0 (flatK enC 2 d) cur) e fr) := by
  have hg : g < w.heap.size := (Array.getElem?_eq_some_iff.1 hb).1
  unfold sortWorldK putRowK
  rw [heap_grow_old _ _ (by simpa using hg)]
  simp [putRow, mapBlock, Sort.ahead, Array.getElem?_modify, hb, onCells]
theorem grownBy_sortedEn {w : World} {g n : Nat} {os : Array Obj} (d : Array (En)) : w.grownBy (sortWorldK enC 2 w g 0 n d os) (some g) := by
  unfold sortWorldK putRowK
  refine ⟨rfl, rfl, rfl, by simp, fun k hk hne => ?_⟩
  rw [heap_grow_old _ _ (by simpa using hk)]
  have : g ≠ k := fun e => hne (by rw [e])
  simp [putRow, mapBlock, Sort.ahead, Array.getElem?_modify, this]
theorem take_putCellsEn (cur : Array Value) (ts : List (En)) (h : ts.length * 2 ≤ cur.size) : (putCells id 0 (flatK enC 2 ts.toArray) cur).toList.take (ts.length * 2) = ts.flatMap enC := by
  rw [← flatEn]
  apply List.ext_getElem?
  intro j
  by_cases hj : j < ts.length * 2
  · rw [List.getElem?_take_of_lt hj, Array.getElem?_toList, Array.getElem?_toList]
    have h4 : j < (flatK enC 2 ts.toArray).size := by simpa using hj
    rw [Array.getElem?_eq_getElem h4, ← getElem!_pos _ j h4]
    simp [putCells, hj, show j < cur.size by omega]
  · rw [List.getElem?_take_eq_none (by omega), List.getElem?_eq_none (by simpa using hj)]
theorem Try.aggEn (w : World) : (isAgg 94).run Try.prog w = .ok true w := by kernel_rfl
theorem Try.sizeEn (w : World) : (Go.sizeOf 94).run Try.prog w = .ok 2 w := by kernel_rfl
/-- As they would be popped. -/
def sortH (ss : List (En)) : List (En) := ss.mergeSort fun x y => !(ltOf cmpH) y x
theorem sortH_len (ss : List (En)) : (sortH ss).length = ss.length := List.length_mergeSort _
set_option maxHeartbeats 1000000 in
theorem sortEn_any (v : Value) (base : Nat) (ss : List (En)) (w : World) (hown : w.ownsRow base 94 2 v ss.length (ss.flatMap enC)) (hlen : ss.length < 4611686018427387904) :
    Calls Try.prog 60 #[v, .func (.func 48) #[] #[]] w fun e w' => e = .returned (.tuple #[]) ∧ w'.ownsRow base 94 2 v ss.length ((sortH ss).flatMap enC) ∧ Below base w w' := by
  rcases hown.2 with ⟨rfl, h0⟩ | ⟨g, cap, cur, rfl, hbase, hb, h1, h2, h3, h4⟩
  · have hs : ss = [] := List.eq_nil_of_length_eq_zero h0
    subst hs
    refine Calls.mono (AnyF.slices_SortFunc_none Try.sortEn none 0 (.func (.func 48) #[] #[]) w) ?_
    rintro e w' ⟨rfl, rfl⟩
    refine ⟨rfl, ?_, Below.refl _ _⟩
    simpa [sortH] using hown
  · have eg : ∀ args w, (callFunc 48 args).run Try.prog w = .ok (.enter 48 args) w := enters_of Try.func48 (by kernel_rfl) rfl
    have hcon := AnyQ.slices_SortFunc_total Try.sortEn 2 Try.aggEn Try.sizeEn enC enC_len enC_one cmpH swoH 48 #[] g 0 cap ss.toArray w eg (fun _ _ _ _ x y => cmpH_any x y _) (holdsEn hb h4) (lt_of_block hb) (by simpa using hlen)
      (fun x y h1 h2 => by rw [lt_cmpH] at h1 h2; exact eq_of_not (of_decide_eq_false h1) (of_decide_eq_false h2))
    change Calls Try.prog 60 _ _ _ at hcon
    simp only [List.size_toArray] at hcon
    refine hcon.mono ?_
    rintro e w' ⟨rfl, n, os, rfl⟩
    refine ⟨rfl, ⟨by rw [flat_len enC 2 enC_len, sortH_len], .inr ⟨g, cap, _, rfl, hbase, heap_sortedEn _ hb, h1, h2, by simp [putCells, h3], ?_⟩⟩, ?_⟩
    · have := take_putCellsEn cur (sortH ss) (by rw [sortH_len, h3]; exact Nat.mul_le_mul_right _ h1)
      rw [sortH_len] at this
      exact this
    · exact ((But.of_grownH (grownBy_sortedEn _)).below hbase (by have := lt_of_block hb; omega))
set_option maxRecDepth 100000 in
set_option maxHeartbeats 1000000 in
theorem values_in (F : Fence) (nn : Nat) (h10 : F.fn 61) (hro : F.round = none) (hn : 1 ≤ nn) (l Bm G n room : Nat) (f : Nat → En) (hnr : n ≤ room) (hroom : room ≤ 1024) (w0 : World) (hm : w0.heap[Bm]? = some (.cells #[.slice (some ⟨G, 0, none⟩) n room] 87 (0, 0))) (hG : WhoAt w0 G room f) (J Jx : List En → World → Prop)
    (hY : ∀ pre x W, J pre W → pre.length < n → YieldAt F (nn - 1) Try.prog l #[.agg #[.int .i64 x.1, .int .i64 x.2]] W fun e W' =>
      (e = .returned (.bool true) ∧ J (pre ++ [x]) W' ∧ KeepB w0.heap.size W W') ∨ (e = .returned (.bool false) ∧ Jx (pre ++ [x]) W'))
    (W : World) (hJ : AbidesFrom W.heap.size J) (hb0 : Below w0.heap.size w0 W) (h0 : J [] W) :
    CallsIn F nn Try.prog 61 #[.func (.yield l) #[] #[], .pointer (some ⟨Bm, 0, none⟩)] W fun e W' => (∃ v, e = .returned v) ∧
      ((∃ ss, ss = rowH n f ∧ J ss W') ∨ (∃ pre, True ∧ Jx pre W')) := by
  have ks : ∀ Y : World, KeepB w0.heap.size w0 Y → Y.cell? ⟨Bm, 0, none⟩ = some (.slice (some ⟨G, 0, none⟩) n room) ∧ WhoAt Y G room f := fun Y hY => ⟨cell_in ((hY.same _ (lt_of_block hm)).trans hm) rfl, hG.same (hY.same _ hG.lt)⟩
  have hk0 : KeepB w0.heap.size w0 W := KeepB.of_below hb0 (Nat.le_refl _)
  have q0 := (ks W hk0).1
  have KS := Lib.hid ks
  have HGL := Lib.hid hG.lt
  clear ks hm hG
  refine callsIn_of_wp Try.func61 rfl h10 ?_ hro
  simp only [Try.ntmps61, List.size_toArray, List.length_cons, List.length_nil, Nat.reduceAdd, Nat.reduceSub, Array.replicate_succ, Array.replicate_zero, List.push_toArray, List.append_toArray, List.nil_append, List.cons_append]
  gi_wp2

  gi_loopw [7] (fun s wr => ∃ k : Nat, k ≤ n ∧ s = .int .i64 k ∧ KeepB w0.heap.size w0 wr ∧ J (rowH k f) wr) (fun s _ => n - (RowKit.intOf s).toNat)
  case atStart =>
    exact ⟨0, Nat.zero_le _, rfl, hk0, h0⟩
  case round =>
    obtain ⟨k, hk, rfl, hkb, hJk⟩ := hrel
    by_cases hlt : k < n
    · have l0 : decide ((k : Int) < (n : Int)) = true := decide_eq_true (by omega)
      have l1 : (0 : Int) ≤ (k : Int) := by omega
      have l2 : (k : Int) < (n : Int) := by omega
      obtain ⟨c0, c1, _, _⟩ := (KS.out _ hkb).2.at_ (show k < room by omega)
      have hGl : G < wr.heap.size := (KS.out _ hkb).2.lt
      have hJ3 : J (rowH k f) (wr.alloc (.cells #[.int .i64 ((f k).1 : Nat), .int .i64 (f k).2] 94)) := hJ _ wr _ none hJk (World.grownBy_alloc _ _ none) (fun r e => by cases e)
      obtain ⟨fn, tmps, assign, body, hy, hR⟩ := hY (rowH k f) (f k) _ hJ3 (by simp [rowH]; omega)
      have HKB := Lib.hid hkb
      clear hkb
      gi_wp2
      refine hR.mono ?_
      rintro e W3 (⟨rfl, hJ4, hk4⟩ | ⟨rfl, hJx4⟩)
      · gi_wp2
        go_roundw
        case rel => exact ⟨k + 1, by omega, by go_num, (HKB.out.trans (KeepB.of_below (below1 _ _) HKB.out.size)).trans hk4, by rw [rowH_succ]; exact hJ4⟩
        case measure => simp [RowKit.intOf]; omega
      · gi_wp2
        refine bodyPost_ret (results_none rfl _ _ _) rfl ?_
        exact ⟨⟨_, rfl⟩, .inr ⟨_, trivial, hJx4⟩⟩
    · have l0 : decide ((k : Int) < (n : Int)) = false := decide_eq_false (by omega)
      gi_wp2
      go_end0
      obtain rfl : k = n := by omega
      exact ⟨⟨_, rfl⟩, .inl ⟨_, rfl, hJk⟩⟩
theorem values_stops (F : Fence) (nn : Nat) (h10 : F.fn 61) (hro : F.round = none) (hn : 1 ≤ nn) (Bm G n room : Nat) (f : Nat → En) (hnr : n ≤ room) (hroom : room ≤ 1024) (w0 : World) (hm : w0.heap[Bm]? = some (.cells #[.slice (some ⟨G, 0, none⟩) n room] 87 (0, 0))) (hG : WhoAt w0 G room f) :
    SeqStopsK F nn Try.prog 61 #[.pointer (some ⟨Bm, 0, none⟩)] (fun x : En => #[.agg #[.int .i64 x.1, .int .i64 x.2]]) (KeepB w0.heap.size) (fun ss => ss = rowH n f) (fun _ => True) n w0 := fun l J Jx W hW hJ _ hY h0 =>
  values_in F nn h10 hro hn l Bm G n room f hnr hroom w0 hm hG J Jx hY W hJ hW h0
theorem collect_any (Bm G n room : Nat) (f : Nat → En) (hnr : n ≤ room) (hroom : room ≤ 1024) (w : World) (hm : w.heap[Bm]? = some (.cells #[.slice (some ⟨G, 0, none⟩) n room] 87 (0, 0))) (hG : WhoAt w G room f) :
    Calls Try.prog 59 #[.func (.func 61) #[] #[.pointer (some ⟨Bm, 0, none⟩)]] w fun e w' => ∃ (v : Value) (ss : List En), e = .returned v ∧ ss = rowH n f ∧ w'.ownsRow w.heap.size 94 2 v ss.length (ss.flatMap enC) ∧ Below w.heap.size w w' :=
  (callsIn_wide (n := 3)).1 (collectE_in Fence.wide 3 trivial trivial rfl (by omega) _ _ trivial (enters_of Try.func61 (by kernel_rfl) rfl) _ n (by unfold maxLen; omega) (by omega) w (values_stops Fence.wide _ trivial rfl (by omega) Bm G n room f hnr hroom w hm hG))
set_option maxRecDepth 100000 in
set_option maxHeartbeats 2000000 in
theorem sorted_any (Bm G n room : Nat) (f : Nat → En) (hnr : n ≤ room) (hroom : room ≤ 1024) (w : World) (hm : w.heap[Bm]? = some (.cells #[.slice (some ⟨G, 0, none⟩) n room] 87 (0, 0))) (hG : WhoAt w G room f) :
    Calls Try.prog 46 #[.func (.func 61) #[] #[.pointer (some ⟨Bm, 0, none⟩)], .func (.func 48) #[] #[]] w fun e w' => ∃ v, e = .returned v ∧ w'.ownsRow w.heap.size 94 2 v n ((sortH (rowH n f)).flatMap enC) ∧ Below w.heap.size w w' := by
  have HC := Lib.hid (collect_any Bm G n room f hnr hroom w hm hG)
  have hl : (rowH n f).length = n := by simp [rowH]
  clear hm hG
  go_enter Try.func46, Try.ntmps46
  go_wp2_with (first
    | (go_at_call 60; refine (sortEn_any v3 w.heap.size (rowH n f) _ ho3.out (by rw [hl]; omega)).mono ?_; rintro e w4 ⟨rfl, ho4, hb4⟩)
    | (go_at_call 59; refine HC.out.mono ?_; rintro e w3 ⟨v3, ss, rfl, rfl, ho3', hb3⟩; have ho3 := Lib.hid ho3'; clear ho3')
    | fail "no arm")
  go_ret
  rw [hl] at ho4
  exact ⟨_, rfl, ho4, hb3.trans hb4⟩
end Go.Proofs.Ytnenbgdonkgkfaa
