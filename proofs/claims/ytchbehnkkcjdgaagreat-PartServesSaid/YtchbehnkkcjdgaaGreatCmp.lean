/- cmp.Or and cmp.Compare of ints; worlds that have grown and drawn alone. -/
import Derived.Test.YtchbehnkkcjdgaaGreatBase
import Derived.Sort.Grow
import Derived.Sort.Row
import Derived.WalkKit
import Derived.Shelf.SlicesG.Cmp
import Derived.Ground.SlgcProg
namespace Go.Proofs.YtchbehnkkcjdgaaGreat
open Go.ChangeShapes Go.WideShapes Go.ChangeAt Go.RowKit Go.Shelf Go.Lib Go.Sort
set_option linter.unusedVariables false
def Tryz.cmpInt_ren : Go.Shelf.Ren := ⟨fun | 5 => 216 | 7 => 220 | n => n, fun | 22 => 3 | 3 => 3 | 4 => 4 | n => n, fun | n => n⟩
theorem Tryz.cmpInt : Go.Proofs.SlLaysC2.n5 Tryz.prog Tryz.cmpInt_ren := {
 mixed := by kernel_rfl
 f5 := ⟨Tryz.f216.name, by decide, Tryz.func216.trans (congrArg some (by kernel_rfl))⟩
 f7 := ⟨Tryz.f220.name, by decide, Tryz.func220.trans (congrArg some (by kernel_rfl))⟩
 t3 := Tryz.underlying3
 a3 := Tryz.isAgg3
 z3 := Tryz.sizeOf3
 v3 := Tryz.zeroValue3
 t4 := Tryz.underlying4
 a4 := Tryz.isAgg4
 z4 := Tryz.sizeOf4
 v4 := Tryz.zeroValue4
 t22 := Tryz.underlying3
 a22 := Tryz.isAgg3
 z22 := Tryz.sizeOf3
 v22 := Tryz.zeroValue3 }
def orV (a b : Int) : Int := if a = 0 then b else a
theorem compare_is (a b : Int) : Lib.compareInt a b = if a < b then -1 else if b < a then 1 else 0 := by unfold Lib.compareInt; rfl
/-- A world that has grown and drawn alone. -/
def Gr (W X : World) : Prop := ∃ q os, X = grow (W.drewN q) os
theorem Gr.refl (W : World) : Gr W W := ⟨0, #[], by simp; rfl⟩
theorem Gr.drew {W X : World} (h : Gr W X) : Gr W X.drew := by
 obtain ⟨q, os, rfl⟩ := h
 exact ⟨q + 1, os, rfl⟩
theorem Gr.alloc {W X : World} (h : Gr W X) (o : Obj) : Gr W (X.alloc o) := by
 obtain ⟨q, os, rfl⟩ := h
 exact ⟨q, os ++ #[o], by rw [alloc_eq_grow, grow_grow]⟩
theorem Gr.block {W X : World} (h : Gr W X) {b : Nat} {o : Obj} (hb : W.heap[b]? = some o) : X.heap[b]? = some o := by
 obtain ⟨q, os, rfl⟩ := h
 show (W.heap ++ os)[b]? = some o
 rw [Array.getElem?_append_left (lt_of_block hb)]
 exact hb
theorem Gr.below {W X : World} (h : Gr W X) : Below W.heap.size W X := by
 obtain ⟨q, os, rfl⟩ := h
 refine ⟨rfl, rfl, rfl, ?_, fun k hk => ?_⟩
 ·show W.heap.size ≤ (W.heap ++ os).size
  simp
 ·show (W.heap ++ os)[k]? = _
  exact Array.getElem?_append_left hk
set_option maxRecDepth 100000 in
set_option maxHeartbeats 2000000 in
theorem or_any (b : Nat) (x y : Int) (w : World) (h0 : w.cell? ⟨b, 0, none⟩ = some (.int .i64 x)) (h1 : w.cell? ⟨b, 1, none⟩ = some (.int .i64 y)) :
 Calls Tryz.prog 215 #[.slice (some ⟨b, 0, none⟩) 2 2] w fun e w' => e = .returned (.int .i64 (orV x y)) ∧ w' = w := by
 have HR : Hid (orV x y = if x = 0 then y else x) := Lib.hid rfl
 go_enter Tryz.func215, Tryz.ntmps215
 go_wp2
 go_loopw [8] (fun i wr => wr = w ∧ ∃ k : Nat, k ≤ 2 ∧ i = .int .i64 k ∧ Hid (1 ≤ k → x = 0) ∧ Hid (2 ≤ k → y = 0)) (fun i _ => 2 - (RowKit.intOf i).toNat)
 case atStart => exact ⟨rfl, 0, by omega, rfl, Lib.hid (by omega), Lib.hid (by omega)⟩
 case round =>
  obtain ⟨rfl, k, hk, rfl, HX, HY⟩ := hrel
  rcases (show k = 0 ∨ k = 1 ∨ k = 2 by omega) with rfl | rfl | rfl
  ·by_cases hx : x = 0
   ·have hxn : decide (x = 0) = true := by simpa using hx
    have hxp : Hid (x = 0) := Lib.hid hx
    go_wp2
    go_roundw
    case rel => exact ⟨trivial, 1, by omega, rfl, Lib.hid (fun _ => hxp.out), Lib.hid (by omega)⟩
    case measure => simp [RowKit.intOf]
   ·go_wp2
    go_ret
    exact ⟨by rw [HR.out, if_neg hx]; rfl, rfl⟩
  ·have hx0 := HX.out (by omega)
   by_cases hy : y = 0
   ·have hyp : Hid (y = 0) := Lib.hid hy
    go_wp2
    go_roundw
    case rel => exact ⟨trivial, 2, by omega, rfl, Lib.hid (fun _ => hx0), Lib.hid (fun _ => hyp.out)⟩
    case measure => simp [RowKit.intOf]
   ·go_wp2
    go_ret
    exact ⟨by rw [HR.out, if_pos hx0]; rfl, rfl⟩
  ·have hx0 := HX.out (by omega)
   have hy0 := HY.out (by omega)
   go_wp2
   go_ret
   exact ⟨by rw [HR.out, if_pos hx0, hy0]; rfl, rfl⟩
theorem compare_any (x y : Int) (w : World) : Calls Tryz.prog 216 #[.int .i64 x, .int .i64 y] w fun e w' => e = .returned (.int .i64 (Lib.compareInt x y)) ∧ w' = w := by
 have h := AnyG.cmp_Compare_int Tryz.cmpInt x y w
 change Calls Tryz.prog 216 _ _ _ at h
 exact h
end Go.Proofs.YtchbehnkkcjdgaaGreat
