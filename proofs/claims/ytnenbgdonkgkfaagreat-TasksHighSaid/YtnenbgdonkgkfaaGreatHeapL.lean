/- All that are in, as they would be popped. -/
import Derived.Test.YtnenbgdonkgkfaaGreatHeapN
import Derived.Test.YtnenbgdonkgkfaaGreatRead
import Derived.RangeFuncNested
import Derived.RangeFuncBound
import Derived.RangeFuncCalls
import Derived.RangeFuncLeaves
import Derived.Shelf.Abstract
import Derived.Sort.MapsRangeIn
import Derived.WalkKit
import Derived.OwnWalkIn
import Derived.TacticsInMore
import Derived.LoopNIn
import Derived.LoopIn
import Derived.Maps.AppendAt
import Derived.Shelf.SlSortCmp.NoneTotal
import Derived.Shelf.SlSortCmp.WholeK
import Derived.Ground.SlsfProg
namespace Go.Proofs.YtnenbgdonkgkfaaGreat
open Go.RowKit Go.Sort Go.Shelf Go.Lib
set_option linter.unusedVariables false
set_option linter.unusedSimpArgs false
attribute [local go_sem] Oper.semAt_some

/-- All below B0 stays. -/
structure KeepB (B0 : Nat) (A C : World) : Prop where
  size : A.heap.size ≤ C.heap.size
  same : ∀ k, k < B0 → C.heap[k]? = A.heap[k]?
theorem KeepB.trans {B0 : Nat} {A B C : World} (h : KeepB B0 A B) (k : KeepB B0 B C) : KeepB B0 A C := ⟨Nat.le_trans h.size k.size, fun i hi => (k.same i hi).trans (h.same i hi)⟩
theorem KeepB.of_below {B0 B : Nat} {A C : World} (h : Below B A C) (hB : B0 ≤ B) : KeepB B0 A C := ⟨h.size, fun k hk => h.block k (by omega)⟩
theorem keepB_put {B0 l : Nat} (W : World) (hl : B0 ≤ l) (o' : Obj) : KeepB B0 W (W.putObj l o') :=
  ⟨by simp [World.putObj], fun k hk => by simp [World.putObj, Array.getElem?_setIfInBounds, show l ≠ k by omega]⟩
theorem enC_len (e : En) : (enC e).length = 2 := rfl
theorem enC_one (e : En) : ∀ u ∈ enC e, u.oneCell' = true := by intro u hu; simp [enC] at hu; rcases hu with h | h <;> subst h <;> rfl
theorem But.of_grownH {w w' : World} {b : Nat} (h : w.grownBy w' (some b)) : But b w w' := ⟨h.os, h.tape, h.output, h.size, fun k hk hne => h.block k hk (fun e => hne (by cases e; rfl))⟩
theorem rowH_succ (k : Nat) (f : Nat → En) : rowH (k + 1) f = rowH k f ++ [f k] := by simp [rowH, List.range_succ]
theorem eq_of_not {x y : En} (h1 : ¬ ltH x y) (h2 : ¬ ltH y x) : x = y := by
  unfold ltH at h1 h2
  exact Prod.ext (by omega) (by omega)
theorem swoH : SWO (ltOf cmpH) where
  irrefl x := by rw [lt_cmpH]; simp [ltH.irrefl]
  trans x y z h1 h2 := by rw [lt_cmpH] at *; simp only [decide_eq_true_eq] at *; exact h1.trans h2
  ntrans x y z h1 h2 := by rw [lt_cmpH] at *; simp only [decide_eq_false_iff_not] at *; exact ltH.le_trans h2 h1
def Tryz.sortEn_ren : Go.Shelf.Ren := ⟨fun | 6 => 77 | 15 => 89 | 14 => 88 | 28 => 102 | 29 => 103 | 20 => 94 | 21 => 95 | 22 => 96 | 23 => 97 | 24 => 98 | 25 => 99 | 26 => 100 | 27 => 101 | 46 => 104 | 47 => 105 | 48 => 106 | 49 => 107 | 50 => 108 | 57 => 109 | n => n, fun | 22 => 98 | 24 => 97 | 25 => 120 | 3 => 3 | 39 => 131 | 0 => 0 | 53 => 137 | 55 => 140 | 4 => 4 | 46 => 145 | 45 => 144 | 50 => 105 | 5 => 5 | 9 => 9 | 66 => 152 | 70 => 156 | 76 => 158 | 77 => 159 | n => n, fun | n => n⟩
theorem Tryz.sortEn : Go.Proofs.SlLaysF0.n6 Tryz.prog Tryz.sortEn_ren := {
  mixed := by kernel_rfl
  f6 := ⟨Tryz.f77.name, by decide, Tryz.func77.trans (congrArg some (by kernel_rfl))⟩
  f14 := ⟨Tryz.f88.name, by decide, Tryz.func88.trans (congrArg some (by kernel_rfl))⟩
  f15 := Tryz.func89.trans (congrArg some (by kernel_rfl))
  f20 := ⟨Tryz.f94.name, by decide, Tryz.func94.trans (congrArg some (by kernel_rfl))⟩
  f21 := ⟨Tryz.f95.name, by decide, Tryz.func95.trans (congrArg some (by kernel_rfl))⟩
  f22 := ⟨Tryz.f96.name, by decide, Tryz.func96.trans (congrArg some (by kernel_rfl))⟩
  f23 := ⟨Tryz.f97.name, by decide, Tryz.func97.trans (congrArg some (by kernel_rfl))⟩
  f24 := ⟨Tryz.f98.name, by decide, Tryz.func98.trans (congrArg some (by kernel_rfl))⟩
  f25 := ⟨Tryz.f99.name, by decide, Tryz.func99.trans (congrArg some (by kernel_rfl))⟩
  f26 := ⟨Tryz.f100.name, by decide, Tryz.func100.trans (congrArg some (by kernel_rfl))⟩
  f27 := ⟨Tryz.f101.name, by decide, Tryz.func101.trans (congrArg some (by kernel_rfl))⟩
  f28 := Tryz.func102.trans (congrArg some (by kernel_rfl))
  f29 := Tryz.func103.trans (congrArg some (by kernel_rfl))
  f46 := ⟨Tryz.f104.name, by decide, Tryz.func104.trans (congrArg some (by kernel_rfl))⟩
  f47 := Tryz.func105.trans (congrArg some (by kernel_rfl))
  f48 := Tryz.func106.trans (congrArg some (by kernel_rfl))
  f49 := ⟨Tryz.f107.name, by decide, Tryz.func107.trans (congrArg some (by kernel_rfl))⟩
  f50 := ⟨Tryz.f108.name, by decide, Tryz.func108.trans (congrArg some (by kernel_rfl))⟩
  f57 := ⟨Tryz.f109.name, by decide, Tryz.func109.trans (congrArg some (by kernel_rfl))⟩
  t0 := Tryz.underlying0
  a0 := Tryz.isAgg0
  z0 := Tryz.sizeOf0
  v0 := Tryz.zeroValue0
  t3 := Tryz.underlying3
  a3 := Tryz.isAgg3
  z3 := Tryz.sizeOf3
  v3 := Tryz.zeroValue3
  t4 := Tryz.underlying4
  a4 := Tryz.isAgg4
  z4 := Tryz.sizeOf4
  v4 := Tryz.zeroValue4
  t5 := Tryz.underlying5
  a5 := Tryz.isAgg5
  z5 := Tryz.sizeOf5
  v5 := Tryz.zeroValue5
  t9 := Tryz.underlying9
  a9 := Tryz.isAgg9
  z9 := Tryz.sizeOf9
  v9 := Tryz.zeroValue9
  t22 := Tryz.underlying98
  a22 := Tryz.isAgg98
  z22 := Tryz.sizeOf98
  v22 := Tryz.zeroValue98
  t25 := Tryz.underlying120
  a25 := Tryz.isAgg120
  z25 := Tryz.sizeOf120
  v25 := Tryz.zeroValue120
  t39 := Tryz.underlying131
  a39 := Tryz.isAgg131
  z39 := Tryz.sizeOf131
  v39 := Tryz.zeroValue131
  t45 := Tryz.underlying144
  a45 := Tryz.isAgg144
  z45 := Tryz.sizeOf144
  v45 := Tryz.zeroValue144
  t46 := Tryz.underlying145
  a46 := Tryz.isAgg145
  z46 := Tryz.sizeOf145
  v46 := Tryz.zeroValue145
  t50 := Tryz.underlying105
  a50 := Tryz.isAgg105
  z50 := Tryz.sizeOf105
  v50 := Tryz.zeroValue105
  t53 := Tryz.underlying137
  a53 := Tryz.isAgg137
  z53 := Tryz.sizeOf137
  v53 := Tryz.zeroValue137
  t55 := Tryz.underlying140
  a55 := Tryz.isAgg140
  z55 := Tryz.sizeOf140
  v55 := Tryz.zeroValue140
  t66 := Tryz.underlying152
  a66 := Tryz.isAgg152
  z66 := Tryz.sizeOf152
  v66 := Tryz.zeroValue152
  t70 := Tryz.underlying156
  a70 := Tryz.isAgg156
  z70 := Tryz.sizeOf156
  v70 := Tryz.zeroValue156
  t76 := Tryz.underlying158
  a76 := Tryz.isAgg158
  z76 := Tryz.sizeOf158
  v76 := Tryz.zeroValue158
  t77 := Tryz.underlying159
  a77 := Tryz.isAgg159
  z77 := Tryz.sizeOf159
  v77 := Tryz.zeroValue159 }
theorem Tryz.infoEn2 : (Tryz.prog.info? 97).map (fun i => (i.zero, i.size, i.bytes)) = some (some (.agg #[.int .i64 0, .int .i64 0]), 2, 16) := by kernel_rfl
/-- The round's own edge. -/
def Box2 (W : World) (B : Nat) (e : En) : Prop := W.heap[B]? = some (.cells #[.int .i64 e.1, .int .i64 e.2] 97 (0, 0))
theorem Box2.kept {W W' : World} {row : Option Nat} {B : Nat} {e : En} (h : Box2 W B e) (hg : W.grownBy W' row) (hne : some B ≠ row) : Box2 W' B e := (hg.block B (lt_of_block h) hne).trans h
theorem Box2.own {β : Type} (B : Nat) (f : β → En) : Own (fun s W => Box2 W B (f s)) := fun s X Y row hs hg hrow =>
  hs.kept hg (fun e' => by obtain ⟨o, ho, hc⟩ := hrow B e'.symm; rw [show X.heap[B]? = _ from hs] at ho; cases ho; cases hc)
theorem cell_two_new (w : World) (x y : Value) (t : TypeId) : ∀ j u, [x, y][j]? = some u → (w.alloc (.cells #[x, y] t)).cell? ((⟨w.heap.size, 0, none⟩ : Addr).add j) = some u := by
  intro j u hu
  rw [add_at, Nat.zero_add]
  exact cell_in (heap_alloc_new w _) (by simpa using hu)

set_option maxRecDepth 100000 in
set_option maxHeartbeats 4000000 in
theorem appendE_in (F : Fence) (n : Nat) (h11 : F.fn 87) (hro : F.round = none) (hn : 2 ≤ n) (g : Nat) (lb : Array Value) (hFg : F.fn g) (eg : ∀ args w, (callFunc g args).run Tryz.prog w = .ok (.enter g args) w)
    (S : List (En) → Prop) (N : Nat) (hN : N ≤ maxLen) (hNb : N * 16 ≤ 140737488355328) (w : World)
    (hseq : SeqStopsK F (n - 1) Tryz.prog g lb (fun x : En => #[.agg #[.int .i64 x.1, .int .i64 x.2]]) (KeepB w.heap.size) S (fun _ => True) N w) :
    CallsIn F n Tryz.prog 87 #[.slice none 0 0, .func (.func g) #[] lb] w fun e w' => ∃ (v : Value) (ss : List (En)), e = .returned v ∧ S ss ∧ w'.ownsRow w.heap.size 97 2 v ss.length (ss.flatMap enC) ∧ Below w.heap.size w w' := by
  have h1 : 1 ≤ n := by omega
  obtain ⟨i0, hi, hz0, hz1, hz2⟩ := info_parts Tryz.infoEn2
  refine callsIn_of_wp_marks Tryz.func87 rfl h11 ?_ hro
  simp only [Tryz.ntmps87, List.size_toArray, List.length_cons, List.length_nil, Nat.reduceAdd, Nat.reduceSub, Array.replicate_succ, Array.replicate_zero, List.push_toArray, List.append_toArray, List.nil_append, List.cons_append]
  gi_wp2
  have bv := Boxed.new w 98 (.slice none 0 0)
  have hB0 := below1 w (.cells #[.slice none 0 0] 98)
  have hs1 : (w.alloc (.cells #[.slice none 0 0] 98)).heap.size = w.heap.size + 1 := by simp
  obtain ⟨W0, hW0⟩ : ∃ W0, w.alloc (.cells #[.slice none 0 0] 98) = W0 := ⟨_, rfl⟩
  rw [hW0] at bv hB0 hs1 ⊢
  clear hW0
  refine wpIn_rangeFunc_ownH hro h1 (gf := g) (lb := lb) rfl hFg eg hseq (fun h k => h.trans k) (fun W l o o' hl h _ _ => keepB_put W (by omega) o') hB0 (fun _ => rfl)
    (fun pre W => (∃ v, Boxed W w.heap.size 98 v ∧ W.ownsRow w.heap.size 97 2 v pre.length (pre.flatMap enC) ∧ True) ∧ Below w.heap.size w W)
    (fun _ _ _ => False)
    (OwnFrom.and (Own.from (holdsRow_own w.heap.size w.heap.size 98 97 2 (fun pre : List (En) => pre.length) (fun pre => pre.flatMap enC) (fun _ _ => True)) _) (ownFrom_below (Nat.le_refl _) (by omega)))
    (fun _ _ _ _ _ hs _ _ => hs)
    ⟨⟨_, bv, World.ownsRow_nil _ _ _ _, trivial⟩, hB0⟩
    (fun x a' W => ∃ Bx, w.heap.size < Bx ∧ Box2 W Bx x ∧ a' = { tmps := #[.slice none 0 0, .func (.func g) #[] lb, .pointer (some ⟨w.heap.size, 0, none⟩), undef, .slice none 0 0, .pointer (some ⟨Bx, 0, none⟩), .func (.func g) #[] lb, .agg #[.int .i64 x.1, .int .i64 x.2], undef, undef, undef, undef, undef], defers := [] })
    (fun x a' _ A B row hs hg hr => by
      obtain ⟨Bx, h1, h2, h3⟩ := hs
      exact ⟨Bx, h1, Box2.own (β := Unit) Bx (fun _ => x) () A B row h2 hg (fun r e => (hr r e).2), h3⟩)
    ?assign ?body ?done ?stop
  case assign =>
    rintro l pre ⟨x, y⟩ W K ⟨⟨v, hv, hrow, _⟩, hB⟩ hK
    gi_wp2
    exact hK _ _ ((KeepsOthers.alloc _ _).from _) (KeepB.of_below (below1 _ _) (by have := hB.size; omega)) ⟨⟨v, hv.alloc _, hrow.alloc _, trivial⟩, hB.alloc hB.size _⟩ ⟨W.heap.size, hv.lt, heap_alloc_new _ _, rfl⟩
  case body =>
    rintro l pre ⟨x, y⟩ a' W hl ⟨r, hr⟩ ⟨⟨v, hv, hrow, _⟩, hB⟩ ⟨Bx, hBx, hbx, rfl⟩ hlen
    have hbx' : W.heap[Bx]? = some (.cells #[.int .i64 x, .int .i64 y] 97 (0, 0)) := hbx
    have c0 := hv.cell
    have c1 : W.cell? ⟨Bx, 0, none⟩ = some (.int .i64 x) := cell_in hbx' rfl
    have c2 : W.cell? ⟨Bx, 1, none⟩ = some (.int .i64 y) := cell_in hbx' rfl
    have hle := hv.lt
    gi_wp2_with (first
      | (gi_at_builtin; refine wpListIn_append_own _ rfl _ _ 98 rfl w.heap.size 97 i0 (.agg #[.int .i64 0, .int .i64 0]) 2 16 Tryz.underlying98 hi hz0 hz1 hz2 rfl (by decide) _ _ _ rfl (hrow.alloc _) ⟨W.heap.size, 0, none⟩ 1 1 [.int .i64 x, .int .i64 y] rfl rfl (cell_two_new _ _ _ _) (enC_one (x, y)) (by omega) (by omega) (by have := hB.size; simp; omega) ?_; intro v' w1 hown' hgrow _; obtain ⟨g', cap', rfl⟩ := ownsRow_succ hown'; obtain ⟨hv1, hv2, hr2, hk2, hb2⟩ := hv.appended (by decide) hrow hB.size (Nat.le_refl _) hown' hgrow; have hc1 := hv1.cell; have hf1 := hv1.frozen)
      | gi_in)
    exact ⟨hk2.from _, KeepB.of_below hb2 (Nat.le_refl _), ⟨⟨_, hv2, by simpa [List.flatMap_append, enC] using hr2⟩, hB.trans hb2⟩⟩
  case done =>
    rintro D xs W hD hS ⟨⟨v, hv, hrow, _⟩, hB⟩ hK
    have c0 := hv.cell
    gi_wp2
    refine ⟨by simp, .inl ⟨_, _, rfl, run_takeDeferred hK, ?_⟩⟩
    exact ⟨_, results_tmp rfl _ _ _, v, xs, rfl, hS, ownsRow_putObj hrow _ hK rfl, hB.trans (belowK_b (w := w) (Nat.le_refl _) W D _ _ (by omega) hK rfl rfl)⟩
  case stop =>
    rintro D c pre W _ _ h _
    exact h.elim

set_option maxHeartbeats 1000000 in
theorem collectE_in (F : Fence) (n : Nat) (h8 : F.fn 76) (h11 : F.fn 87) (hro : F.round = none) (hn : 3 ≤ n) (g : Nat) (lb : Array Value) (hFg : F.fn g) (eg : ∀ args w, (callFunc g args).run Tryz.prog w = .ok (.enter g args) w)
    (S : List (En) → Prop) (N : Nat) (hN : N ≤ maxLen) (hNb : N * 16 ≤ 140737488355328) (w : World)
    (hseq : SeqStopsK F (n - 1 - 1) Tryz.prog g lb (fun x : En => #[.agg #[.int .i64 x.1, .int .i64 x.2]]) (KeepB w.heap.size) S (fun _ => True) N w) :
    CallsIn F n Tryz.prog 76 #[.func (.func g) #[] lb] w fun e w' => ∃ (v : Value) (ss : List (En)), e = .returned v ∧ S ss ∧ w'.ownsRow w.heap.size 97 2 v ss.length (ss.flatMap enC) ∧ Below w.heap.size w w' := by
  have h1 : 1 ≤ n := by omega
  refine callsIn_of_wp Tryz.func76 rfl h8 ?_ hro
  simp only [Tryz.ntmps76, List.size_toArray, List.length_cons, List.length_nil, Nat.reduceAdd, Nat.reduceSub, Array.replicate_succ, Array.replicate_zero, List.push_toArray, List.append_toArray, List.nil_append, List.cons_append]
  gi_wp2_with (gi_at_call 87; refine (appendE_in F (n - 1) h11 hro (by omega) g lb hFg eg S N hN hNb _ hseq).mono ?_; rintro e w' ⟨v, ss, rfl, hS, hrow, hb⟩)
  go_ret
  exact ⟨v, ss, rfl, hS, hrow, hb⟩

theorem flatEn (ts : List (En)) : (flatK enC 2 ts.toArray).toList = ts.flatMap enC := by
  apply List.ext_getElem?
  intro j
  by_cases hj : j < ts.length * 2
  · have h1 : j / 2 < ts.length := by omega
    have h2 : j % 2 < 2 := by omega
    have h3 := flat_at enC 2 enC_len ts (j / 2) (j % 2) ts[j / 2] (by simp [h1]) h2
    rw [show j / 2 * 2 + j % 2 = j by omega] at h3
    rw [h3, Array.getElem?_toList]
    have h4 : j < (flatK enC 2 ts.toArray).size := by simpa using hj
    have h5 := get_flatK enC 2 ts.toArray j (by simpa using hj)
    rw [Array.getElem?_eq_getElem h4, ← getElem!_pos _ j h4, h5]
    have h6 : ts.toArray[j / 2]! = ts[j / 2] := by rw [getElem!_pos _ _ (by simpa using h1)]; simp
    rw [h6]
    have h7 : j % 2 < (enC (ts[j / 2])).length := h2
    rw [List.getElem?_eq_getElem h7, getElem!_pos (enC (ts[j / 2])) (j % 2) h7]
  · rw [List.getElem?_eq_none (by simpa using hj), List.getElem?_eq_none (by rw [flat_len enC 2 enC_len]; omega)]
theorem holdsEn {w : World} {g : Nat} {cur : Array Value} {e : TypeId} {ss : List (En)} (hb : w.heap[g]? = some (.cells cur e (0, 0))) (ht : cur.toList.take (ss.length * 2) = ss.flatMap enC) : HoldsK enC 2 w g 0 ss.toArray := by
  intro j hj
  have hj' : j < ss.length * 2 := by simpa using hj
  refine ⟨?_, by simp [World.frozen?, hb]⟩
  have h1 : (cur.toList.take (ss.length * 2))[j]? = (flatK enC 2 ss.toArray).toList[j]? := by rw [ht, flatEn]
  rw [List.getElem?_take_of_lt hj'] at h1
  simp only [World.cell?, hb, Nat.zero_add]
  simp only [Option.isSome_none, Bool.false_eq_true, if_false]
  rw [← Array.getElem?_toList, h1, Array.getElem?_toList, Array.getElem?_eq_getElem hj, getElem!_pos _ j hj]
  rfl
theorem heap_sortedEn {w : World} {g n : Nat} {os : Array Obj} {cur : Array Value} {e : TypeId} {fr : Nat × Nat} (d : Array (En)) (hb : w.heap[g]? = some (.cells cur e fr)) :
    (sortWorldK enC 2 w g 0 n d os).heap[g]? = some (.cells (putCells id 0 (flatK enC 2 d) cur) e fr) := by
  have hg : g < w.heap.size := (Array.getElem?_eq_some_iff.1 hb).1
  unfold sortWorldK putRowK
  rw [heap_grow_old _ _ (by simpa using hg)]
  simp [putRow, mapBlock, Sort.ahead, Array.getElem?_modify, hb, onCells]
theorem grownBy_sortedEn {w : World} {g n : Nat} {os : Array Obj} (d : Array (En)) : w.grownBy (sortWorldK enC 2 w g 0 n d os) (some g) := by
  unfold sortWorldK putRowK
  refine ⟨rfl, rfl, rfl, by simp, fun k hk hne => ?_⟩
  rw [heap_grow_old _ _ (by simpa using hk)]
  have : g ≠ k := fun e => hne (by rw [e])
  simp [putRow, mapBlock, Sort.ahead, Array.getElem?_modify, this]
theorem take_putCellsEn (cur : Array Value) (ts : List (En)) (h : ts.length * 2 ≤ cur.size) : (putCells id 0 (flatK enC 2 ts.toArray) cur).toList.take (ts.length * 2) = ts.flatMap enC := by
  rw [← flatEn]
  apply List.ext_getElem?
  intro j
  by_cases hj : j < ts.length * 2
  · rw [List.getElem?_take_of_lt hj, Array.getElem?_toList, Array.getElem?_toList]
    have h4 : j < (flatK enC 2 ts.toArray).size := by simpa using hj
    rw [Array.getElem?_eq_getElem h4, ← getElem!_pos _ j h4]
    simp [putCells, hj, show j < cur.size by omega]
  · rw [List.getElem?_take_eq_none (by omega), List.getElem?_eq_none (by simpa using hj)]
theorem Tryz.aggEn (w : World) : (isAgg 97).run Tryz.prog w = .ok true w := by kernel_rfl
theorem Tryz.sizeEn (w : World) : (Go.sizeOf 97).run Tryz.prog w = .ok 2 w := by kernel_rfl
/-- As they would be popped. -/
def sortH (ss : List (En)) : List (En) := ss.mergeSort fun x y => !(ltOf cmpH) y x
theorem sortH_len (ss : List (En)) : (sortH ss).length = ss.length := List.length_mergeSort _
set_option maxHeartbeats 1000000 in
theorem sortEn_any (v : Value) (base : Nat) (ss : List (En)) (w : World) (hown : w.ownsRow base 97 2 v ss.length (ss.flatMap enC)) (hlen : ss.length < 4611686018427387904) :
    Calls Tryz.prog 77 #[v, .func (.func 71) #[] #[]] w fun e w' => e = .returned (.tuple #[]) ∧ w'.ownsRow base 97 2 v ss.length ((sortH ss).flatMap enC) ∧ Below base w w' := by
  rcases hown.2 with ⟨rfl, h0⟩ | ⟨g, cap, cur, rfl, hbase, hb, h1, h2, h3, h4⟩
  · have hs : ss = [] := List.eq_nil_of_length_eq_zero h0
    subst hs
    refine Calls.mono (AnyF.slices_SortFunc_none Tryz.sortEn none 0 (.func (.func 71) #[] #[]) w) ?_
    rintro e w' ⟨rfl, rfl⟩
    refine ⟨rfl, ?_, Below.refl _ _⟩
    simpa [sortH] using hown
  · have eg : ∀ args w, (callFunc 71 args).run Tryz.prog w = .ok (.enter 71 args) w := enters_of Tryz.func71 (by kernel_rfl) rfl
    have hcon := AnyQ.slices_SortFunc_total Tryz.sortEn 2 Tryz.aggEn Tryz.sizeEn enC enC_len enC_one cmpH swoH 71 #[] g 0 cap ss.toArray w eg (fun _ _ _ _ x y => cmpH_any x y _) (holdsEn hb h4) (lt_of_block hb) (by simpa using hlen)
      (fun x y h1 h2 => by rw [lt_cmpH] at h1 h2; exact eq_of_not (of_decide_eq_false h1) (of_decide_eq_false h2))
    change Calls Tryz.prog 77 _ _ _ at hcon
    simp only [List.size_toArray] at hcon
    refine hcon.mono ?_
    rintro e w' ⟨rfl, n, os, rfl⟩
    refine ⟨rfl, ⟨by rw [flat_len enC 2 enC_len, sortH_len], .inr ⟨g, cap, _, rfl, hbase, heap_sortedEn _ hb, h1, h2, by simp [putCells, h3], ?_⟩⟩, ?_⟩
    · have := take_putCellsEn cur (sortH ss) (by rw [sortH_len, h3]; exact Nat.mul_le_mul_right _ h1)
      rw [sortH_len] at this
      exact this
    · exact ((But.of_grownH (grownBy_sortedEn _)).below hbase (by have := lt_of_block hb; omega))
set_option maxRecDepth 100000 in
set_option maxHeartbeats 1000000 in
theorem values_in (F : Fence) (nn : Nat) (h10 : F.fn 78) (hro : F.round = none) (hn : 1 ≤ nn) (l Bm G n room : Nat) (f : Nat → En) (hnr : n ≤ room) (hroom : room ≤ 1024) (w0 : World) (hm : w0.heap[Bm]? = some (.cells #[.slice (some ⟨G, 0, none⟩) n room] 99 (0, 0))) (hG : WhoAt w0 G room f) (J Jx : List En → World → Prop)
    (hY : ∀ pre x W, J pre W → pre.length < n → YieldAt F (nn - 1) Tryz.prog l #[.agg #[.int .i64 x.1, .int .i64 x.2]] W fun e W' =>
      (e = .returned (.bool true) ∧ J (pre ++ [x]) W' ∧ KeepB w0.heap.size W W') ∨ (e = .returned (.bool false) ∧ Jx (pre ++ [x]) W'))
    (W : World) (hJ : AbidesFrom W.heap.size J) (hb0 : Below w0.heap.size w0 W) (h0 : J [] W) :
    CallsIn F nn Tryz.prog 78 #[.func (.yield l) #[] #[], .pointer (some ⟨Bm, 0, none⟩)] W fun e W' => (∃ v, e = .returned v) ∧
      ((∃ ss, ss = rowH n f ∧ J ss W') ∨ (∃ pre, True ∧ Jx pre W')) := by
  have ks : ∀ Y : World, KeepB w0.heap.size w0 Y → Y.cell? ⟨Bm, 0, none⟩ = some (.slice (some ⟨G, 0, none⟩) n room) ∧ WhoAt Y G room f := fun Y hY => ⟨cell_in ((hY.same _ (lt_of_block hm)).trans hm) rfl, hG.same (hY.same _ hG.lt)⟩
  have hk0 : KeepB w0.heap.size w0 W := KeepB.of_below hb0 (Nat.le_refl _)
  have q0 := (ks W hk0).1
  have KS := Lib.hid ks
  have HGL := Lib.hid hG.lt
  clear ks hm hG
  refine callsIn_of_wp Tryz.func78 rfl h10 ?_ hro
  simp only [Tryz.ntmps78, List.size_toArray, List.length_cons, List.length_nil, Nat.reduceAdd, Nat.reduceSub, Array.replicate_succ, Array.replicate_zero, List.push_toArray, List.append_toArray, List.nil_append, List.cons_append]
  gi_wp2

  gi_loopw [7] (fun s wr => ∃ k : Nat, k ≤ n ∧ s = .int .i64 k ∧ KeepB w0.heap.size w0 wr ∧ J (rowH k f) wr) (fun s _ => n - (RowKit.intOf s).toNat)
  case atStart =>
    exact ⟨0, Nat.zero_le _, rfl, hk0, h0⟩
  case round =>
    obtain ⟨k, hk, rfl, hkb, hJk⟩ := hrel
    by_cases hlt : k < n
    · have l0 : decide ((k : Int) < (n : Int)) = true := decide_eq_true (by omega)
      have l1 : (0 : Int) ≤ (k : Int) := by omega
      have l2 : (k : Int) < (n : Int) := by omega
      obtain ⟨c0, c1, _, _⟩ := (KS.out _ hkb).2.at_ (show k < room by omega)
      have hGl : G < wr.heap.size := (KS.out _ hkb).2.lt
      have hJ3 : J (rowH k f) (wr.alloc (.cells #[.int .i64 ((f k).1 : Nat), .int .i64 (f k).2] 97)) := hJ _ wr _ none hJk (World.grownBy_alloc _ _ none) (fun r e => by cases e)
      obtain ⟨fn, tmps, assign, body, hy, hR⟩ := hY (rowH k f) (f k) _ hJ3 (by simp [rowH]; omega)
      have HKB := Lib.hid hkb
      clear hkb
      gi_wp2
      refine hR.mono ?_
      rintro e W3 (⟨rfl, hJ4, hk4⟩ | ⟨rfl, hJx4⟩)
      · gi_wp2
        go_roundw
        case rel => exact ⟨k + 1, by omega, by go_num, (HKB.out.trans (KeepB.of_below (below1 _ _) HKB.out.size)).trans hk4, by rw [rowH_succ]; exact hJ4⟩
        case measure => simp [RowKit.intOf]; omega
      · gi_wp2
        refine bodyPost_ret (results_none rfl _ _ _) rfl ?_
        exact ⟨⟨_, rfl⟩, .inr ⟨_, trivial, hJx4⟩⟩
    · have l0 : decide ((k : Int) < (n : Int)) = false := decide_eq_false (by omega)
      gi_wp2
      go_end0
      obtain rfl : k = n := by omega
      exact ⟨⟨_, rfl⟩, .inl ⟨_, rfl, hJk⟩⟩
theorem values_stops (F : Fence) (nn : Nat) (h10 : F.fn 78) (hro : F.round = none) (hn : 1 ≤ nn) (Bm G n room : Nat) (f : Nat → En) (hnr : n ≤ room) (hroom : room ≤ 1024) (w0 : World) (hm : w0.heap[Bm]? = some (.cells #[.slice (some ⟨G, 0, none⟩) n room] 99 (0, 0))) (hG : WhoAt w0 G room f) :
    SeqStopsK F nn Tryz.prog 78 #[.pointer (some ⟨Bm, 0, none⟩)] (fun x : En => #[.agg #[.int .i64 x.1, .int .i64 x.2]]) (KeepB w0.heap.size) (fun ss => ss = rowH n f) (fun _ => True) n w0 := fun l J Jx W hW hJ _ hY h0 =>
  values_in F nn h10 hro hn l Bm G n room f hnr hroom w0 hm hG J Jx hY W hJ hW h0
theorem collect_any (Bm G n room : Nat) (f : Nat → En) (hnr : n ≤ room) (hroom : room ≤ 1024) (w : World) (hm : w.heap[Bm]? = some (.cells #[.slice (some ⟨G, 0, none⟩) n room] 99 (0, 0))) (hG : WhoAt w G room f) :
    Calls Tryz.prog 76 #[.func (.func 78) #[] #[.pointer (some ⟨Bm, 0, none⟩)]] w fun e w' => ∃ (v : Value) (ss : List En), e = .returned v ∧ ss = rowH n f ∧ w'.ownsRow w.heap.size 97 2 v ss.length (ss.flatMap enC) ∧ Below w.heap.size w w' :=
  (callsIn_wide (n := 3)).1 (collectE_in Fence.wide 3 trivial trivial rfl (by omega) _ _ trivial (enters_of Tryz.func78 (by kernel_rfl) rfl) _ n (by unfold maxLen; omega) (by omega) w (values_stops Fence.wide _ trivial rfl (by omega) Bm G n room f hnr hroom w hm hG))
set_option maxRecDepth 100000 in
set_option maxHeartbeats 2000000 in
theorem sorted_any (Bm G n room : Nat) (f : Nat → En) (hnr : n ≤ room) (hroom : room ≤ 1024) (w : World) (hm : w.heap[Bm]? = some (.cells #[.slice (some ⟨G, 0, none⟩) n room] 99 (0, 0))) (hG : WhoAt w G room f) :
    Calls Tryz.prog 69 #[.func (.func 78) #[] #[.pointer (some ⟨Bm, 0, none⟩)], .func (.func 71) #[] #[]] w fun e w' => ∃ v, e = .returned v ∧ w'.ownsRow w.heap.size 97 2 v n ((sortH (rowH n f)).flatMap enC) ∧ Below w.heap.size w w' := by
  have HC := Lib.hid (collect_any Bm G n room f hnr hroom w hm hG)
  have hl : (rowH n f).length = n := by simp [rowH]
  clear hm hG
  go_enter Tryz.func69, Tryz.ntmps69
  go_wp2_with (first
    | (go_at_call 77; refine (sortEn_any v3 w.heap.size (rowH n f) _ ho3.out (by rw [hl]; omega)).mono ?_; rintro e w4 ⟨rfl, ho4, hb4⟩)
    | (go_at_call 76; refine HC.out.mono ?_; rintro e w3 ⟨v3, ss, rfl, rfl, ho3', hb3⟩; have ho3 := Lib.hid ho3'; clear ho3')
    | fail "no arm")
  go_ret
  rw [hl] at ho4
  exact ⟨_, rfl, ho4, hb3.trans hb4⟩
end Go.Proofs.YtnenbgdonkgkfaaGreat
