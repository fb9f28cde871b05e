/- How edges are compared, and sorted. -/
import Derived.Test.YtkikapodobeaaaaFlowA
import Derived.Test.YtkikapodobeaaaaFlowC
import Derived.Shelf.SlSortCmp.NoneTotal
import Derived.Shelf.SlSortCmp.WholeK
import Derived.Shelf.SlicesG.Cmp
import Derived.Shelf.Lay
import Derived.Ground.SlsfProg
import Derived.Ground.SlgcProg
namespace Go.Proofs.Ytkikapodobeaaaa
open Go.Shelf Go.RowKit Go.Lib Go.Sort
set_option linter.unusedVariables false
shelf_lay_g SlLaysC2.n5 Slgc 5 at Try 40 as Try.cmpInt
shelf_lay_g SlLaysF0.n6 Slsf 6 at Try 49 as Try.sortE

/-- Which of two edges comes first. -/
def orV (a b : Int) : Int := if a = 0 then b else a
def cmpE (x y : Int × Int) : Int := orV (Lib.compareInt x.1 y.1) (Lib.compareInt x.2 y.2)
theorem compare_is (a b : Int) : Lib.compareInt a b = if a < b then -1 else if b < a then 1 else 0 := by unfold Lib.compareInt; rfl
def ltE (x y : Int × Int) : Bool := decide (x.1 < y.1 ∨ (x.1 = y.1 ∧ x.2 < y.2))
theorem lt_cmpE : ltOf cmpE = ltE := by
  funext x y
  unfold ltOf cmpE orV ltE
  rw [compare_is, compare_is, Bool.eq_iff_iff, decide_eq_true_eq, decide_eq_true_eq]
  repeat' split
  all_goals omega
theorem swoE : SWO (ltOf cmpE) where
  irrefl x := by rw [lt_cmpE]; simp [ltE]
  trans x y z h1 h2 := by rw [lt_cmpE] at *; simp [ltE] at *; omega
  ntrans x y z h1 h2 := by rw [lt_cmpE] at *; simp [ltE] at *; omega
/-- A world that has grown and drawn alone. -/
def Gr (W X : World) : Prop := ∃ q os, X = grow (W.drewN q) os
theorem Gr.refl (W : World) : Gr W W := ⟨0, #[], by simp; rfl⟩
theorem Gr.drew {W X : World} (h : Gr W X) : Gr W X.drew := by
  obtain ⟨q, os, rfl⟩ := h
  exact ⟨q + 1, os, rfl⟩
theorem Gr.alloc {W X : World} (h : Gr W X) (o : Obj) : Gr W (X.alloc o) := by
  obtain ⟨q, os, rfl⟩ := h
  exact ⟨q, os ++ #[o], by rw [alloc_eq_grow, grow_grow]⟩
theorem Gr.block {W X : World} (h : Gr W X) {b : Nat} {o : Obj} (hb : W.heap[b]? = some o) : X.heap[b]? = some o := by
  obtain ⟨q, os, rfl⟩ := h
  show (W.heap ++ os)[b]? = some o
  rw [Array.getElem?_append_left (lt_of_block hb)]
  exact hb
theorem Gr.below {W X : World} (h : Gr W X) : Below W.heap.size W X := by
  obtain ⟨q, os, rfl⟩ := h
  refine ⟨rfl, rfl, rfl, ?_, fun k hk => ?_⟩
  · show W.heap.size ≤ (W.heap ++ os).size
    simp
  · show (W.heap ++ os)[k]? = _
    exact Array.getElem?_append_left hk

set_option maxRecDepth 100000 in
set_option maxHeartbeats 2000000 in
theorem or_any (b : Nat) (x y : Int) (w : World) (h0 : w.cell? ⟨b, 0, none⟩ = some (.int .i64 x)) (h1 : w.cell? ⟨b, 1, none⟩ = some (.int .i64 y)) :
    Calls Try.prog 39 #[.slice (some ⟨b, 0, none⟩) 2 2] w fun e w' => e = .returned (.int .i64 (orV x y)) ∧ w' = w := by
  have HR : Hid (orV x y = if x = 0 then y else x) := Lib.hid rfl
  go_enter Try.func39, Try.ntmps39
  go_wp2
  go_loopw [8] (fun i wr => wr = w ∧ ∃ k : Nat, k ≤ 2 ∧ i = .int .i64 k ∧ Hid (1 ≤ k → x = 0) ∧ Hid (2 ≤ k → y = 0)) (fun i _ => 2 - (intOf i).toNat)
  case atStart => exact ⟨rfl, 0, by omega, rfl, Lib.hid (by omega), Lib.hid (by omega)⟩
  case round =>
    obtain ⟨rfl, k, hk, rfl, HX, HY⟩ := hrel
    rcases (show k = 0 ∨ k = 1 ∨ k = 2 by omega) with rfl | rfl | rfl
    · by_cases hx : x = 0
      · have hxn : decide (x = 0) = true := by simpa using hx
        have hxp : Hid (x = 0) := Lib.hid hx
        go_wp2
        go_roundw
        case rel => exact ⟨trivial, 1, by omega, rfl, Lib.hid (fun _ => hxp.out), Lib.hid (by omega)⟩
        case measure => simp [intOf]
      · go_wp2
        go_ret
        exact ⟨by rw [HR.out, if_neg hx]; rfl, rfl⟩
    · have hx0 := HX.out (by omega)
      by_cases hy : y = 0
      · have hyp : Hid (y = 0) := Lib.hid hy
        go_wp2
        go_roundw
        case rel => exact ⟨trivial, 2, by omega, rfl, Lib.hid (fun _ => hx0), Lib.hid (fun _ => hyp.out)⟩
        case measure => simp [intOf]
      · go_wp2
        go_ret
        exact ⟨by rw [HR.out, if_pos hx0]; rfl, rfl⟩
    · have hx0 := HX.out (by omega)
      have hy0 := HY.out (by omega)
      go_wp2
      go_ret
      exact ⟨by rw [HR.out, if_pos hx0, hy0]; rfl, rfl⟩
theorem compare_any (x y : Int) (w : World) : Calls Try.prog 40 #[.int .i64 x, .int .i64 y] w fun e w' => e = .returned (.int .i64 (Lib.compareInt x y)) ∧ w' = w := by
  have h := AnyG.cmp_Compare_int Try.cmpInt x y w
  change Calls Try.prog 40 _ _ _ at h
  exact h
set_option maxRecDepth 100000 in
set_option maxHeartbeats 4000000 in
theorem cmpE_any (x y : Int × Int) (W : World) : Calls Try.prog 38 #[.agg #[.int .i64 x.1, .int .i64 x.2], .agg #[.int .i64 y.1, .int .i64 y.2]] W fun e w' => e = .returned (.int .i64 (cmpE x y)) ∧ Gr W w' := by
  obtain ⟨x0, x1⟩ := x
  obtain ⟨y0, y1⟩ := y
  have HR : Hid (cmpE (x0, x1) (y0, y1) = orV (Lib.compareInt x0 y0) (Lib.compareInt x1 y1)) := Lib.hid rfl
  obtain ⟨V, hV⟩ : ∃ V, V = (W.alloc (.cells #[.int .i64 x0, .int .i64 x1] 41)).alloc (.cells #[.int .i64 y0, .int .i64 y1] 41) := ⟨_, rfl⟩
  have HG : Hid (Gr W V) := Lib.hid (by rw [hV]; exact ((Gr.refl W).alloc _).alloc _)
  have b0 : V.heap[W.heap.size]? = some (.cells #[.int .i64 x0, .int .i64 x1] 41 (0, 0)) := by rw [hV]; exact (Below.heap_alloc _ _ _ (by simp)).trans (heap_alloc_new _ _)
  have b1 : V.heap[W.heap.size + 1]? = some (.cells #[.int .i64 y0, .int .i64 y1] 41 (0, 0)) := by
    rw [hV]
    have := heap_alloc_new (W.alloc (.cells #[.int .i64 x0, .int .i64 x1] 41)) (.cells #[.int .i64 y0, .int .i64 y1] 41)
    simpa using this
  have ks : ∀ X : World, Gr V X → (Gr V X ∧ X.cell? ⟨W.heap.size, 0, none⟩ = some (.int .i64 x0) ∧ X.cell? ⟨W.heap.size, 1, none⟩ = some (.int .i64 x1) ∧ X.cell? ⟨W.heap.size + 1, 0, none⟩ = some (.int .i64 y0) ∧ X.cell? ⟨W.heap.size + 1, 1, none⟩ = some (.int .i64 y1)) :=
    fun X h => ⟨h, cell_in (h.block b0) rfl, cell_in (h.block b0) rfl, cell_in (h.block b1) rfl, cell_in (h.block b1) rfl⟩
  have KS := Lib.hid ks
  have HV := Lib.hid hV
  obtain ⟨_, k0, k1, k2, k3⟩ := ks V (Gr.refl V)
  clear ks b0 b1 hV
  go_enter Try.func38, Try.ntmps38
  go_wp2_with fail
  rw [← HV.out]
  go_region_held3 (fun X => Gr V X ∧ X.cell? ⟨W.heap.size, 0, none⟩ = some (.int .i64 x0) ∧ X.cell? ⟨W.heap.size, 1, none⟩ = some (.int .i64 x1) ∧ X.cell? ⟨W.heap.size + 1, 0, none⟩ = some (.int .i64 y0) ∧ X.cell? ⟨W.heap.size + 1, 1, none⟩ = some (.int .i64 y1))
    (first | exact KS.out _ ((Gr.refl V).drew) | exact KS.out _ (((Gr.refl V).drew).alloc _) | exact KS.out _ (((Gr.refl V).alloc _).drew) | (go_split_ands; exact KS.out _ (Gr.drew (by assumption))) | (go_split_ands; exact KS.out _ (Gr.alloc (by assumption) _)) | (go_split_ands; exact KS.out _ (by assumption)))
    (first
    | (go_at_call 39; refine (or_any _ _ _ _ (cell_in (cs := #[.int .i64 (Lib.compareInt x0 y0), .int .i64 (Lib.compareInt x1 y1)]) (t := 3) (by (show (World.alloc _ _).heap[_]? = _; rw [heap_at, if_pos (by simp)])) rfl) (cell_in (cs := #[.int .i64 (Lib.compareInt x0 y0), .int .i64 (Lib.compareInt x1 y1)]) (t := 3) (by (show (World.alloc _ _).heap[_]? = _; rw [heap_at, if_pos (by simp)])) rfl)).mono ?_; rintro e w3 ⟨rfl, rfl⟩)
    | (go_at_call 40; refine (compare_any _ _ _).mono ?_; rintro e w4 ⟨rfl, rfl⟩))
  go_wp2_with fail
  go_ret
  exact ⟨by rw [HR.out]; rfl, (HG.out.alloc _).drew⟩

theorem flatE (ts : List (Int × Int)) : (flatK eC 2 ts.toArray).toList = ts.flatMap eC := by
  apply List.ext_getElem?
  intro j
  by_cases hj : j < ts.length * 2
  · have h1 : j / 2 < ts.length := by omega
    have h2 : j % 2 < 2 := by omega
    have h3 := flat_at eC 2 eC_len ts (j / 2) (j % 2) ts[j / 2] (by simp [h1]) h2
    rw [show j / 2 * 2 + j % 2 = j by omega] at h3
    rw [h3, Array.getElem?_toList]
    have h4 : j < (flatK eC 2 ts.toArray).size := by simpa using hj
    have h5 := get_flatK eC 2 ts.toArray j (by simpa using hj)
    rw [Array.getElem?_eq_getElem h4, ← getElem!_pos _ j h4, h5]
    have h6 : ts.toArray[j / 2]! = ts[j / 2] := by rw [getElem!_pos _ _ (by simpa using h1)]; simp
    rw [h6]
    have h7 : j % 2 < (eC (ts[j / 2])).length := h2
    rw [List.getElem?_eq_getElem h7, getElem!_pos (eC (ts[j / 2])) (j % 2) h7]
  · rw [List.getElem?_eq_none (by simpa using hj), List.getElem?_eq_none (by rw [flat_len eC 2 eC_len]; omega)]
theorem holdsE {w : World} {g : Nat} {cur : Array Value} {e : TypeId} {ss : List (Int × Int)} (hb : w.heap[g]? = some (.cells cur e (0, 0))) (ht : cur.toList.take (ss.length * 2) = ss.flatMap eC) : HoldsK eC 2 w g 0 ss.toArray := by
  intro j hj
  have hj' : j < ss.length * 2 := by simpa using hj
  refine ⟨?_, by simp [World.frozen?, hb]⟩
  have h1 : (cur.toList.take (ss.length * 2))[j]? = (flatK eC 2 ss.toArray).toList[j]? := by rw [ht, flatE]
  rw [List.getElem?_take_of_lt hj'] at h1
  simp only [World.cell?, hb, Nat.zero_add]
  simp only [Option.isSome_none, Bool.false_eq_true, if_false]
  rw [← Array.getElem?_toList, h1, Array.getElem?_toList, Array.getElem?_eq_getElem hj, getElem!_pos _ j hj]
  rfl
theorem heap_sortedE {w : World} {g n : Nat} {os : Array Obj} {cur : Array Value} {e : TypeId} {fr : Nat × Nat} (d : Array (Int × Int)) (hb : w.heap[g]? = some (.cells cur e fr)) :
    (sortWorldK eC 2 w g 0 n d os).heap[g]? = some (.cells (putCells id 0 (flatK eC 2 d) cur) e fr) := by
  have hg : g < w.heap.size := (Array.getElem?_eq_some_iff.1 hb).1
  unfold sortWorldK putRowK
  rw [heap_grow_old _ _ (by simpa using hg)]
  simp [putRow, mapBlock, Sort.ahead, Array.getElem?_modify, hb, onCells]
theorem grownBy_sortedE {w : World} {g n : Nat} {os : Array Obj} (d : Array (Int × Int)) : w.grownBy (sortWorldK eC 2 w g 0 n d os) (some g) := by
  unfold sortWorldK putRowK
  refine ⟨rfl, rfl, rfl, by simp, fun k hk hne => ?_⟩
  rw [heap_grow_old _ _ (by simpa using hk)]
  have : g ≠ k := fun e => hne (by rw [e])
  simp [putRow, mapBlock, Sort.ahead, Array.getElem?_modify, this]
theorem take_putCellsE (cur : Array Value) (ts : List (Int × Int)) (h : ts.length * 2 ≤ cur.size) : (putCells id 0 (flatK eC 2 ts.toArray) cur).toList.take (ts.length * 2) = ts.flatMap eC := by
  rw [← flatE]
  apply List.ext_getElem?
  intro j
  by_cases hj : j < ts.length * 2
  · rw [List.getElem?_take_of_lt hj, Array.getElem?_toList, Array.getElem?_toList]
    have h4 : j < (flatK eC 2 ts.toArray).size := by simpa using hj
    rw [Array.getElem?_eq_getElem h4, ← getElem!_pos _ j h4]
    simp [putCells, hj, show j < cur.size by omega]
  · rw [List.getElem?_take_eq_none (by omega), List.getElem?_eq_none (by simpa using hj)]
theorem Try.aggE (w : World) : (isAgg 41).run Try.prog w = .ok true w := by kernel_rfl
theorem Try.sizeE (w : World) : (Go.sizeOf 41).run Try.prog w = .ok 2 w := by kernel_rfl
/-- Edges, rising. -/
def sortV (ss : List (Int × Int)) : List (Int × Int) := ss.mergeSort fun x y => !(ltOf cmpE) y x
theorem sortV_len (ss : List (Int × Int)) : (sortV ss).length = ss.length := List.length_mergeSort _
set_option maxHeartbeats 1000000 in
theorem sortE_any (v : Value) (base : Nat) (ss : List (Int × Int)) (w : World) (hown : w.ownsRow base 41 2 v ss.length (ss.flatMap eC)) (hlen : ss.length < 4611686018427387904) :
    Calls Try.prog 49 #[v, .func (.func 38) #[] #[]] w fun e w' => e = .returned (.tuple #[]) ∧ w'.ownsRow base 41 2 v ss.length ((sortV ss).flatMap eC) ∧ Below base w w' := by
  rcases hown.2 with ⟨rfl, h0⟩ | ⟨g, cap, cur, rfl, hbase, hb, h1, h2, h3, h4⟩
  · have hs : ss = [] := List.eq_nil_of_length_eq_zero h0
    subst hs
    refine Calls.mono (AnyF.slices_SortFunc_none Try.sortE none 0 (.func (.func 38) #[] #[]) w) ?_
    rintro e w' ⟨rfl, rfl⟩
    refine ⟨rfl, ?_, Below.refl _ _⟩
    simpa [sortV] using hown
  · have eg : ∀ args w, (callFunc 38 args).run Try.prog w = .ok (.enter 38 args) w := enters_of Try.func38 (by kernel_rfl) rfl
    have hcon := AnyQ.slices_SortFunc_total Try.sortE 2 Try.aggE Try.sizeE eC eC_len eC_one cmpE swoE 38 #[] g 0 cap ss.toArray w eg (fun _ _ _ _ x y => cmpE_any x y _) (holdsE hb h4) (lt_of_block hb) (by simpa using hlen)
      (fun x y h1 h2 => by rw [lt_cmpE] at h1 h2; simp [ltE] at h1 h2; exact Prod.ext (by omega) (by omega))
    change Calls Try.prog 49 _ _ _ at hcon
    simp only [List.size_toArray] at hcon
    refine hcon.mono ?_
    rintro e w' ⟨rfl, n, os, rfl⟩
    refine ⟨rfl, ⟨by rw [flat_len eC 2 eC_len, sortV_len], .inr ⟨g, cap, _, rfl, hbase, heap_sortedE _ hb, h1, h2, by simp [putCells, h3], ?_⟩⟩, ?_⟩
    · have := take_putCellsE cur (sortV ss) (by rw [sortV_len, h3]; exact Nat.mul_le_mul_right _ h1)
      rw [sortV_len] at this
      exact this
    · exact ((But.of_grown (grownBy_sortedE _)).below hbase (by have := lt_of_block hb; omega))
end Go.Proofs.Ytkikapodobeaaaa
