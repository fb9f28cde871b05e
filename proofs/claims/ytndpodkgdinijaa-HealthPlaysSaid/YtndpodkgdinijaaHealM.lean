/- Faults: both monitors in memory, what they answer; the names. -/
import Derived.Test.YtndpodkgdinijaaRights
import Derived.Test.YtndpodkgdinijaaPlain
import Derived.Laws.StructEq
import Derived.OwnWalk
import Derived.Deep.CutRange
import Derived.Deep.CutBlock
import Derived.Deep.RegionHeld3
namespace Go.Proofs.Ytndpodkgdinijaa
open Go.ChangeShapes Go.WideShapes Go.ChangeAt Go.RowKit
set_option linter.unusedVariables false
set_option linter.unusedSimpArgs false

def bumpV (k j v : Int) : Int := if k = j then v + 1 else v
def actV (k a b c : Int) : Int := if k = 0 then a else if k = 1 then b else if k = 2 then c else 0
def kndE (k : Int) : Int := if 0 ≤ k ∧ k ≤ 2 then 0 else 1
def cntK (k x y z : Int) : Int := if k = 0 then x else if k = 1 then y else if k = 2 then z else 0
def nameV (k : Int) : List UInt8 := if k = 0 then [109, 105, 115, 115, 101, 100] else if k = 1 then [111, 118, 101, 114, 114, 117, 110] else if k = 2 then [111, 100, 100] else []
def doesV (k : Int) : List UInt8 := if k = 0 then [110, 111, 116, 101] else if k = 1 then [115, 116, 111, 112] else if k = 2 then [97, 103, 97, 105, 110] else []
theorem four22 (k : Int) : (k < 0 ∨ 2 < k) ∨ k = 0 ∨ k = 1 ∨ k = 2 := by omega
theorem kndE_no {k : Int} (h : k < 0 ∨ 2 < k) : kndE k = 1 := by unfold kndE; rw [if_neg (by omega)]
theorem actV_no {k a b c : Int} (h : k < 0 ∨ 2 < k) : actV k a b c = 0 := by unfold actV; rw [if_neg (by omega), if_neg (by omega), if_neg (by omega)]
theorem cntK_no {k a b c : Int} (h : k < 0 ∨ 2 < k) : cntK k a b c = 0 := by unfold cntK; rw [if_neg (by omega), if_neg (by omega), if_neg (by omega)]
theorem bumpV_no {k j v : Int} (h : k < 0 ∨ 2 < k) (hj : 0 ≤ j ∧ j ≤ 2) : bumpV k j v = v := by unfold bumpV; rw [if_neg (by omega)]
theorem nameV_no {k : Int} (h : k < 0 ∨ 2 < k) : nameV k = [] := by unfold nameV; rw [if_neg (by omega), if_neg (by omega), if_neg (by omega)]
theorem doesV_no {k : Int} (h : k < 0 ∨ 2 < k) : doesV k = [] := by unfold doesV; rw [if_neg (by omega), if_neg (by omega), if_neg (by omega)]

/-- The program's monitor at H. -/
def HmAt (H : Nat) (a b c x y z : Int) (w : World) : Prop := w.heap[H]? = some (.cells #[.bool true, .int .u8 a, .int .u8 b, .int .u8 c, .int .i64 x, .int .i64 y, .int .i64 z] 50 (0, 0))
/-- The document's monitor at H. -/
def HrAt (H : Nat) (a b c x y z : Int) (w : World) : Prop := w.heap[H]? = some (.cells #[.int .u8 a, .int .u8 b, .int .u8 c, .int .i64 x, .int .i64 y, .int .i64 z] 39 (0, 0))
theorem lies_nil22 (w : World) (hi sz : Nat) : Lies w 0 hi (.slice none 0 0) 0 sz [] := ⟨none, 0, rfl, by simp, fun _ => ⟨rfl, rfl⟩, .inl rfl⟩
theorem rights22 (w : World) (a b c : Int) : Calls Try.prog 17 #[.agg #[.slice none 0 0, .slice none 0 0, .slice none 0 0, .int .u8 a, .int .u8 b, .int .u8 c]] w fun e w' => e = .returned (.int .i64 (if okActs a b c = true then 0 else 26)) ∧ Below w.heap.size w w' := by
  have h := rights_any none none none 0 0 0 0 0 0 a b c w 0 w.heap.size [] [] rfl rfl (lies_nil22 _ _ _) (lies_nil22 _ _ _) (Nat.le_refl _) (by omega) (by omega)
  have e : wrongOf [] [] a b c = if okActs a b c = true then 0 else 26 := by
    unfold wrongOf; cases okActs a b c <;> simp
  rw [e] at h
  exact h

set_option maxRecDepth 100000 in
set_option maxHeartbeats 4000000 in
theorem hnum_any (x : Int) (w : World) : Calls Try.prog 10 #[.int .i64 x] w fun e w' => e = .returned (.int .i64 x) ∧ w' = w := by
  go_enter Try.func10, Try.ntmps10
  go_wp2_with fail
  go_ret
  exact ⟨rfl, rfl⟩

set_option maxRecDepth 100000 in
set_option maxHeartbeats 4000000 in
theorem hknows_nil (w : World) (k : Int) : Calls Try.prog 18 #[.pointer none, .int .i64 k] w fun e w' => e = .returned (.bool false) ∧ w' = w := by
  go_enter Try.func18, Try.ntmps18
  go_wp2
  go_ret
  exact ⟨rfl, rfl⟩

set_option maxRecDepth 100000 in
set_option maxHeartbeats 4000000 in
theorem hknows_any (w : World) (H : Nat) (a b c x y z k : Int) (h : HmAt H a b c x y z w) : Calls Try.prog 18 #[.pointer (some ⟨H, 0, none⟩), .int .i64 k] w fun e w' => e = .returned (.bool (kndE k == 0)) ∧ w' = w := by
  have b0 : w.cell? ⟨H, 0, none⟩ = some (.bool true) := cell_in h rfl
  clear h
  by_cases c0 : 0 ≤ k
  · have t0 : decide (0 ≤ k) = true := decide_eq_true c0
    by_cases c1 : k < 3
    · have t1 : decide (k < 3) = true := decide_eq_true c1
      rw [show (kndE k == 0) = true by unfold kndE; rw [if_pos (by omega)]; rfl]
      go_enter Try.func18, Try.ntmps18
      go_wp2
      go_ret
      exact ⟨rfl, rfl⟩
    · have t1 : decide (k < 3) = false := decide_eq_false c1
      rw [show (kndE k == 0) = false by unfold kndE; rw [if_neg (by omega)]; rfl]
      go_enter Try.func18, Try.ntmps18
      go_wp2
      go_ret
      exact ⟨rfl, rfl⟩
  · have t0 : decide (0 ≤ k) = false := decide_eq_false c0
    rw [show (kndE k == 0) = false by unfold kndE; rw [if_neg (by omega)]; rfl]
    go_enter Try.func18, Try.ntmps18
    go_wp2
    go_ret
    exact ⟨rfl, rfl⟩

set_option maxRecDepth 100000 in
set_option maxHeartbeats 4000000 in
theorem hfault_no (w : World) (p : Option Addr) (k : Int) (HM : Hid (Calls Try.prog 18 #[.pointer p, .int .i64 k] w fun e w' => e = .returned (.bool false) ∧ w' = w)) : Calls Try.prog 8 #[.pointer p, .int .i64 k] w fun e w' => e = .returned (.tuple #[.int .u8 0, .int .i64 1]) ∧ w' = w := by
  go_enter Try.func8, Try.ntmps8
  go_wp2_with (first
    | (go_at_call 18; refine HM.out.mono ?_; rintro e w2 ⟨rfl, hw2⟩; rw [hw2]; clear hw2)
    | fail "no arm")
  go_ret2
  exact ⟨rfl, rfl⟩

set_option maxRecDepth 100000 in
set_option maxHeartbeats 4000000 in
theorem hcount_no (w : World) (p : Option Addr) (k : Int) (HM : Hid (Calls Try.prog 18 #[.pointer p, .int .i64 k] w fun e w' => e = .returned (.bool false) ∧ w' = w)) : Calls Try.prog 12 #[.pointer p, .int .i64 k] w fun e w' => e = .returned (.int .i64 0) ∧ w' = w := by
  go_enter Try.func12, Try.ntmps12
  go_wp2_with (first
    | (go_at_call 18; refine HM.out.mono ?_; rintro e w2 ⟨rfl, hw2⟩; rw [hw2]; clear hw2)
    | fail "no arm")
  go_ret
  exact ⟨rfl, rfl⟩

set_option maxRecDepth 100000 in
set_option maxHeartbeats 4000000 in
theorem hfault_0 (w : World) (H : Nat) (a b c x y z : Int) (h : HmAt H a b c x y z w) (hx : 0 ≤ x ∧ x ≤ 1000) : Calls Try.prog 8 #[.pointer (some ⟨H, 0, none⟩), .int .i64 0] w fun e w' => e = .returned (.tuple #[.int .u8 a, .int .i64 0]) ∧ HmAt H a b c (x + 1) y z w' ∧ But H w w' := by
  have HM := Lib.hid (hknows_any w H a b c x y z 0 h)
  have b1 : w.cell? ⟨H, 1, none⟩ = some (.int .u8 a) := cell_in h rfl
  have b4 : w.cell? ⟨H, 4, none⟩ = some (.int .i64 x) := cell_in h rfl
  have f4 := free_in h 4
  have e1 : IntKind.i64.wrap (x + 1) = x + 1 := IntWalk.i64_in _ (by omega)
  have e2 : wrap64 (x + 1) = x + 1 := IntWalk.wrap64_in _ (by omega)
  have HFIN : Hid (∀ W : World, W.heap = (w.setCell ⟨H, 4, none⟩ (.int .i64 (x + 1))).heap → HmAt H a b c (x + 1) y z W) := Lib.hid (fun W hW => by unfold HmAt; rw [hW]; exact set_at h)
  have HB := Lib.hid ((But.refl H w).set 4 (.int .i64 (x + 1)))
  have HB2 := Lib.hid ((But.refl H w).drew.set 4 (.int .i64 (x + 1)))
  clear h hx
  go_enter Try.func8, Try.ntmps8
  go_upto_region 3 with (first
    | (go_at_call 18; refine HM.out.mono ?_; rintro e w2 ⟨rfl, hw2⟩; rw [hw2]; clear hw2)
    | fail "no arm")
  go_region
  go_wp2_with fail
  go_ret2
  first
    | exact ⟨rfl, HFIN.out _ rfl, HB2.out⟩
    | exact ⟨rfl, HFIN.out _ rfl, HB.out⟩

set_option maxRecDepth 100000 in
set_option maxHeartbeats 4000000 in
theorem hcount_0 (w : World) (H : Nat) (a b c x y z : Int) (h : HmAt H a b c x y z w) : Calls Try.prog 12 #[.pointer (some ⟨H, 0, none⟩), .int .i64 0] w fun e w' => e = .returned (.int .i64 x) ∧ w' = w := by
  have HM := Lib.hid (hknows_any w H a b c x y z 0 h)
  have b4 : w.cell? ⟨H, 4, none⟩ = some (.int .i64 x) := cell_in h rfl
  clear h
  go_enter Try.func12, Try.ntmps12
  go_wp2_with (first
    | (go_at_call 18; refine HM.out.mono ?_; rintro e w2 ⟨rfl, hw2⟩; rw [hw2]; clear hw2)
    | fail "no arm")
  go_ret
  exact ⟨rfl, rfl⟩

set_option maxRecDepth 100000 in
set_option maxHeartbeats 4000000 in
theorem hfault_1 (w : World) (H : Nat) (a b c x y z : Int) (h : HmAt H a b c x y z w) (hx : 0 ≤ y ∧ y ≤ 1000) : Calls Try.prog 8 #[.pointer (some ⟨H, 0, none⟩), .int .i64 1] w fun e w' => e = .returned (.tuple #[.int .u8 b, .int .i64 0]) ∧ HmAt H a b c x (y + 1) z w' ∧ But H w w' := by
  have HM := Lib.hid (hknows_any w H a b c x y z 1 h)
  have b1 : w.cell? ⟨H, 2, none⟩ = some (.int .u8 b) := cell_in h rfl
  have b4 : w.cell? ⟨H, 5, none⟩ = some (.int .i64 y) := cell_in h rfl
  have f4 := free_in h 5
  have e1 : IntKind.i64.wrap (y + 1) = y + 1 := IntWalk.i64_in _ (by omega)
  have e2 : wrap64 (y + 1) = y + 1 := IntWalk.wrap64_in _ (by omega)
  have HFIN : Hid (∀ W : World, W.heap = (w.setCell ⟨H, 5, none⟩ (.int .i64 (y + 1))).heap → HmAt H a b c x (y + 1) z W) := Lib.hid (fun W hW => by unfold HmAt; rw [hW]; exact set_at h)
  have HB := Lib.hid ((But.refl H w).set 5 (.int .i64 (y + 1)))
  have HB2 := Lib.hid ((But.refl H w).drew.set 5 (.int .i64 (y + 1)))
  clear h hx
  go_enter Try.func8, Try.ntmps8
  go_upto_region 3 with (first
    | (go_at_call 18; refine HM.out.mono ?_; rintro e w2 ⟨rfl, hw2⟩; rw [hw2]; clear hw2)
    | fail "no arm")
  go_region
  go_wp2_with fail
  go_ret2
  first
    | exact ⟨rfl, HFIN.out _ rfl, HB2.out⟩
    | exact ⟨rfl, HFIN.out _ rfl, HB.out⟩

set_option maxRecDepth 100000 in
set_option maxHeartbeats 4000000 in
theorem hcount_1 (w : World) (H : Nat) (a b c x y z : Int) (h : HmAt H a b c x y z w) : Calls Try.prog 12 #[.pointer (some ⟨H, 0, none⟩), .int .i64 1] w fun e w' => e = .returned (.int .i64 y) ∧ w' = w := by
  have HM := Lib.hid (hknows_any w H a b c x y z 1 h)
  have b4 : w.cell? ⟨H, 5, none⟩ = some (.int .i64 y) := cell_in h rfl
  clear h
  go_enter Try.func12, Try.ntmps12
  go_wp2_with (first
    | (go_at_call 18; refine HM.out.mono ?_; rintro e w2 ⟨rfl, hw2⟩; rw [hw2]; clear hw2)
    | fail "no arm")
  go_ret
  exact ⟨rfl, rfl⟩

set_option maxRecDepth 100000 in
set_option maxHeartbeats 4000000 in
theorem hfault_2 (w : World) (H : Nat) (a b c x y z : Int) (h : HmAt H a b c x y z w) (hx : 0 ≤ z ∧ z ≤ 1000) : Calls Try.prog 8 #[.pointer (some ⟨H, 0, none⟩), .int .i64 2] w fun e w' => e = .returned (.tuple #[.int .u8 c, .int .i64 0]) ∧ HmAt H a b c x y (z + 1) w' ∧ But H w w' := by
  have HM := Lib.hid (hknows_any w H a b c x y z 2 h)
  have b1 : w.cell? ⟨H, 3, none⟩ = some (.int .u8 c) := cell_in h rfl
  have b4 : w.cell? ⟨H, 6, none⟩ = some (.int .i64 z) := cell_in h rfl
  have f4 := free_in h 6
  have e1 : IntKind.i64.wrap (z + 1) = z + 1 := IntWalk.i64_in _ (by omega)
  have e2 : wrap64 (z + 1) = z + 1 := IntWalk.wrap64_in _ (by omega)
  have HFIN : Hid (∀ W : World, W.heap = (w.setCell ⟨H, 6, none⟩ (.int .i64 (z + 1))).heap → HmAt H a b c x y (z + 1) W) := Lib.hid (fun W hW => by unfold HmAt; rw [hW]; exact set_at h)
  have HB := Lib.hid ((But.refl H w).set 6 (.int .i64 (z + 1)))
  have HB2 := Lib.hid ((But.refl H w).drew.set 6 (.int .i64 (z + 1)))
  clear h hx
  go_enter Try.func8, Try.ntmps8
  go_upto_region 3 with (first
    | (go_at_call 18; refine HM.out.mono ?_; rintro e w2 ⟨rfl, hw2⟩; rw [hw2]; clear hw2)
    | fail "no arm")
  go_region
  go_wp2_with fail
  go_ret2
  first
    | exact ⟨rfl, HFIN.out _ rfl, HB2.out⟩
    | exact ⟨rfl, HFIN.out _ rfl, HB.out⟩

set_option maxRecDepth 100000 in
set_option maxHeartbeats 4000000 in
theorem hcount_2 (w : World) (H : Nat) (a b c x y z : Int) (h : HmAt H a b c x y z w) : Calls Try.prog 12 #[.pointer (some ⟨H, 0, none⟩), .int .i64 2] w fun e w' => e = .returned (.int .i64 z) ∧ w' = w := by
  have HM := Lib.hid (hknows_any w H a b c x y z 2 h)
  have b4 : w.cell? ⟨H, 6, none⟩ = some (.int .i64 z) := cell_in h rfl
  clear h
  go_enter Try.func12, Try.ntmps12
  go_wp2_with (first
    | (go_at_call 18; refine HM.out.mono ?_; rintro e w2 ⟨rfl, hw2⟩; rw [hw2]; clear hw2)
    | fail "no arm")
  go_ret
  exact ⟨rfl, rfl⟩

set_option maxRecDepth 100000 in
set_option maxHeartbeats 4000000 in
theorem rfault_no (w : World) (p : Option Addr) (k : Int) (hk : k < 0 ∨ 2 < k) : Calls Try.prog 9 #[.pointer p, .int .i64 k] w fun e w' => e = .returned (.tuple #[.int .u8 0, .int .i64 1]) ∧ w' = w := by
  by_cases c0 : k < 0
  · have t0 : decide (k < 0) = true := decide_eq_true c0
    go_enter Try.func9, Try.ntmps9
    go_wp2
    go_ret2
    exact ⟨rfl, rfl⟩
  · have t0 : decide (k < 0) = false := decide_eq_false c0
    have t1 : decide (2 < k) = true := decide_eq_true (by omega)
    go_enter Try.func9, Try.ntmps9
    go_wp2
    go_ret2
    exact ⟨rfl, rfl⟩

set_option maxRecDepth 100000 in
set_option maxHeartbeats 4000000 in
theorem rfault_0 (w : World) (H : Nat) (a b c x y z : Int) (h : HrAt H a b c x y z w) (hx : 0 ≤ x ∧ x ≤ 1000) : Calls Try.prog 9 #[.pointer (some ⟨H, 0, none⟩), .int .i64 0] w fun e w' => e = .returned (.tuple #[.int .u8 a, .int .i64 0]) ∧ HrAt H a b c (x + 1) y z w' ∧ But H w w' := by
  have b1 : w.cell? ⟨H, 0, none⟩ = some (.int .u8 a) := cell_in h rfl
  have b4 : w.cell? ⟨H, 3, none⟩ = some (.int .i64 x) := cell_in h rfl
  have f4 := free_in h 3
  have e1 : IntKind.i64.wrap (x + 1) = x + 1 := IntWalk.i64_in _ (by omega)
  have e2 : wrap64 (x + 1) = x + 1 := IntWalk.wrap64_in _ (by omega)
  have HFIN : Hid (∀ W : World, W.heap = (w.setCell ⟨H, 3, none⟩ (.int .i64 (x + 1))).heap → HrAt H a b c (x + 1) y z W) := Lib.hid (fun W hW => by unfold HrAt; rw [hW]; exact set_at h)
  have HB := Lib.hid ((But.refl H w).set 3 (.int .i64 (x + 1)))
  have HB2 := Lib.hid ((But.refl H w).drew.set 3 (.int .i64 (x + 1)))
  clear h hx
  go_enter Try.func9, Try.ntmps9
  go_upto_region 3 with fail
  go_region
  go_wp2_with fail
  go_ret2
  first
    | exact ⟨rfl, HFIN.out _ rfl, HB2.out⟩
    | exact ⟨rfl, HFIN.out _ rfl, HB.out⟩

set_option maxRecDepth 100000 in
set_option maxHeartbeats 4000000 in
theorem rfault_1 (w : World) (H : Nat) (a b c x y z : Int) (h : HrAt H a b c x y z w) (hx : 0 ≤ y ∧ y ≤ 1000) : Calls Try.prog 9 #[.pointer (some ⟨H, 0, none⟩), .int .i64 1] w fun e w' => e = .returned (.tuple #[.int .u8 b, .int .i64 0]) ∧ HrAt H a b c x (y + 1) z w' ∧ But H w w' := by
  have b1 : w.cell? ⟨H, 1, none⟩ = some (.int .u8 b) := cell_in h rfl
  have b4 : w.cell? ⟨H, 4, none⟩ = some (.int .i64 y) := cell_in h rfl
  have f4 := free_in h 4
  have e1 : IntKind.i64.wrap (y + 1) = y + 1 := IntWalk.i64_in _ (by omega)
  have e2 : wrap64 (y + 1) = y + 1 := IntWalk.wrap64_in _ (by omega)
  have HFIN : Hid (∀ W : World, W.heap = (w.setCell ⟨H, 4, none⟩ (.int .i64 (y + 1))).heap → HrAt H a b c x (y + 1) z W) := Lib.hid (fun W hW => by unfold HrAt; rw [hW]; exact set_at h)
  have HB := Lib.hid ((But.refl H w).set 4 (.int .i64 (y + 1)))
  have HB2 := Lib.hid ((But.refl H w).drew.set 4 (.int .i64 (y + 1)))
  clear h hx
  go_enter Try.func9, Try.ntmps9
  go_upto_region 3 with fail
  go_region
  go_wp2_with fail
  go_ret2
  first
    | exact ⟨rfl, HFIN.out _ rfl, HB2.out⟩
    | exact ⟨rfl, HFIN.out _ rfl, HB.out⟩

set_option maxRecDepth 100000 in
set_option maxHeartbeats 4000000 in
theorem rfault_2 (w : World) (H : Nat) (a b c x y z : Int) (h : HrAt H a b c x y z w) (hx : 0 ≤ z ∧ z ≤ 1000) : Calls Try.prog 9 #[.pointer (some ⟨H, 0, none⟩), .int .i64 2] w fun e w' => e = .returned (.tuple #[.int .u8 c, .int .i64 0]) ∧ HrAt H a b c x y (z + 1) w' ∧ But H w w' := by
  have b1 : w.cell? ⟨H, 2, none⟩ = some (.int .u8 c) := cell_in h rfl
  have b4 : w.cell? ⟨H, 5, none⟩ = some (.int .i64 z) := cell_in h rfl
  have f4 := free_in h 5
  have e1 : IntKind.i64.wrap (z + 1) = z + 1 := IntWalk.i64_in _ (by omega)
  have e2 : wrap64 (z + 1) = z + 1 := IntWalk.wrap64_in _ (by omega)
  have HFIN : Hid (∀ W : World, W.heap = (w.setCell ⟨H, 5, none⟩ (.int .i64 (z + 1))).heap → HrAt H a b c x y (z + 1) W) := Lib.hid (fun W hW => by unfold HrAt; rw [hW]; exact set_at h)
  have HB := Lib.hid ((But.refl H w).set 5 (.int .i64 (z + 1)))
  have HB2 := Lib.hid ((But.refl H w).drew.set 5 (.int .i64 (z + 1)))
  clear h hx
  go_enter Try.func9, Try.ntmps9
  go_upto_region 3 with fail
  go_region
  go_wp2_with fail
  go_ret2
  first
    | exact ⟨rfl, HFIN.out _ rfl, HB2.out⟩
    | exact ⟨rfl, HFIN.out _ rfl, HB.out⟩

theorem hfault_any (w : World) (H : Nat) (a b c x y z k : Int) (h : HmAt H a b c x y z w) (hx : (0 ≤ x ∧ x ≤ 1000) ∧ (0 ≤ y ∧ y ≤ 1000) ∧ (0 ≤ z ∧ z ≤ 1000)) : Calls Try.prog 8 #[.pointer (some ⟨H, 0, none⟩), .int .i64 k] w fun e w' => e = .returned (.tuple #[.int .u8 (actV k a b c), .int .i64 (kndE k)]) ∧ HmAt H a b c (bumpV k 0 x) (bumpV k 1 y) (bumpV k 2 z) w' ∧ But H w w' := by
  rcases four22 k with hk | rfl | rfl | rfl
  · rw [actV_no hk, kndE_no hk, bumpV_no hk (by omega), bumpV_no hk (by omega), bumpV_no hk (by omega)]
    have HM := hknows_any w H a b c x y z k h
    rw [kndE_no hk] at HM
    exact (hfault_no w _ k (Lib.hid HM)).mono (by rintro e w' ⟨rfl, rfl⟩; exact ⟨rfl, h, But.refl _ _⟩)
  · exact hfault_0 w H a b c x y z h hx.1
  · exact hfault_1 w H a b c x y z h hx.2.1
  · exact hfault_2 w H a b c x y z h hx.2.2
theorem rfault_any (w : World) (H : Nat) (a b c x y z k : Int) (h : HrAt H a b c x y z w) (hx : (0 ≤ x ∧ x ≤ 1000) ∧ (0 ≤ y ∧ y ≤ 1000) ∧ (0 ≤ z ∧ z ≤ 1000)) : Calls Try.prog 9 #[.pointer (some ⟨H, 0, none⟩), .int .i64 k] w fun e w' => e = .returned (.tuple #[.int .u8 (actV k a b c), .int .i64 (kndE k)]) ∧ HrAt H a b c (bumpV k 0 x) (bumpV k 1 y) (bumpV k 2 z) w' ∧ But H w w' := by
  rcases four22 k with hk | rfl | rfl | rfl
  · rw [actV_no hk, kndE_no hk, bumpV_no hk (by omega), bumpV_no hk (by omega), bumpV_no hk (by omega)]
    exact (rfault_no w _ k hk).mono (by rintro e w' ⟨rfl, rfl⟩; exact ⟨rfl, h, But.refl _ _⟩)
  · exact rfault_0 w H a b c x y z h hx.1
  · exact rfault_1 w H a b c x y z h hx.2.1
  · exact rfault_2 w H a b c x y z h hx.2.2
theorem hcount_any (w : World) (H : Nat) (a b c x y z k : Int) (h : HmAt H a b c x y z w) : Calls Try.prog 12 #[.pointer (some ⟨H, 0, none⟩), .int .i64 k] w fun e w' => e = .returned (.int .i64 (cntK k x y z)) ∧ w' = w := by
  rcases four22 k with hk | rfl | rfl | rfl
  · rw [cntK_no hk]
    have HM := hknows_any w H a b c x y z k h
    rw [kndE_no hk] at HM
    exact hcount_no w _ k (Lib.hid HM)
  · exact hcount_0 w H a b c x y z h
  · exact hcount_1 w H a b c x y z h
  · exact hcount_2 w H a b c x y z h

theorem Try.sizeA22 : (Try.prog.info? 22).map (·.size) = some 3 := by kernel_rfl
theorem set3h {w : World} {X : Nat} {T : TypeId} {cs : Array Value} (h : w.heap[X]? = some (.cells cs T (0, 0))) (hs : cs.size = 3) (v0 v1 v2 : Value) :
    (((w.setCell ⟨X, 0, none⟩ v0).setCell ⟨X, 1, none⟩ v1).setCell ⟨X, 2, none⟩ v2).heap[X]? = some (.cells #[v0, v1, v2] T (0, 0)) := by
  have h2 := set_at (j := 2) (u := v2) (set_at (j := 1) (u := v1) (set_at (j := 0) (u := v0) h))
  obtain ⟨cs⟩ := cs
  match cs, hs with
  | [a, b, c], _ => exact h2
set_option maxRecDepth 100000 in
set_option maxHeartbeats 4000000 in
theorem hacts_nil (w : World) : Calls Try.prog 11 #[.pointer none] w fun e w' => e = .returned (.agg #[.int .u8 0, .int .u8 0, .int .u8 0]) ∧ Below w.heap.size w w' := by
  obtain ⟨V, hV⟩ : ∃ V, V = w.alloc (.cells #[.int .u8 0, .int .u8 0, .int .u8 0] 22) := ⟨_, rfl⟩
  obtain ⟨E, hE⟩ : ∃ E, E = w.heap.size := ⟨_, rfl⟩
  have hbV : Below w.heap.size w V := by rw [hV]; exact below1 _ _
  have hEV : V.heap[E]? = some (.cells #[.int .u8 0, .int .u8 0, .int .u8 0] 22 (0, 0)) := by rw [hV, hE]; exact heap_alloc_new _ _
  have k0 : V.cell? ⟨E, 0, none⟩ = some (.int .u8 0) := cell_in hEV rfl
  have k1 : V.cell? ⟨E, 1, none⟩ = some (.int .u8 0) := cell_in hEV rfl
  have k2 : V.cell? ⟨E, 2, none⟩ = some (.int .u8 0) := cell_in hEV rfl
  have y0 := free_in hEV 0
  have y1 := free_in hEV 1
  have y2 := free_in hEV 2
  have HV := Lib.hid hV
  have HE := Lib.hid hE
  have HEV := Lib.hid hEV
  have HBV := Lib.hid hbV
  clear hV hE hEV hbV
  go_enter Try.func11, Try.ntmps11
  go_upto_region 1 with fail
  rw [← HV.out, ← HE.out]
  go_wp2
  have hX := set3h HEV.out rfl (.int .u8 0) (.int .u8 0) (.int .u8 0)
  refine bodyPost_ret (results_cell_row (P := Try.prog) rfl _ _ E _ _ (0, 0) _ rfl hX Try.underlying22 rfl Try.sizeA22) rfl ?_
  exact ⟨rfl, ((HBV.out.setCell (p := ⟨E, 0, none⟩) (by rw [HE.out]; exact Nat.le_refl _) _).setCell (p := ⟨E, 1, none⟩) (by rw [HE.out]; exact Nat.le_refl _) _).setCell (p := ⟨E, 2, none⟩) (by rw [HE.out]; exact Nat.le_refl _) _⟩

set_option maxRecDepth 100000 in
set_option maxHeartbeats 4000000 in
theorem hacts_any (w : World) (H : Nat) (a b c x y z : Int) (h : HmAt H a b c x y z w) : Calls Try.prog 11 #[.pointer (some ⟨H, 0, none⟩)] w fun e w' => e = .returned (.agg #[.int .u8 a, .int .u8 b, .int .u8 c]) ∧ Below w.heap.size w w' := by
  obtain ⟨V, hV⟩ : ∃ V, V = w.alloc (.cells #[.int .u8 0, .int .u8 0, .int .u8 0] 22) := ⟨_, rfl⟩
  obtain ⟨E, hE⟩ : ∃ E, E = w.heap.size := ⟨_, rfl⟩
  have hbV : Below w.heap.size w V := by rw [hV]; exact below1 _ _
  have hEV : V.heap[E]? = some (.cells #[.int .u8 0, .int .u8 0, .int .u8 0] 22 (0, 0)) := by rw [hV, hE]; exact heap_alloc_new _ _
  have k0 : V.cell? ⟨E, 0, none⟩ = some (.int .u8 0) := cell_in hEV rfl
  have k1 : V.cell? ⟨E, 1, none⟩ = some (.int .u8 0) := cell_in hEV rfl
  have k2 : V.cell? ⟨E, 2, none⟩ = some (.int .u8 0) := cell_in hEV rfl
  have y0 := free_in hEV 0
  have y1 := free_in hEV 1
  have y2 := free_in hEV 2
  have g1 : V.cell? ⟨H, 1, none⟩ = some (.int .u8 a) := cell_in ((hbV.block _ (lt_of_block h)).trans h) rfl
  have g2 : V.cell? ⟨H, 2, none⟩ = some (.int .u8 b) := cell_in ((hbV.block _ (lt_of_block h)).trans h) rfl
  have g3 : V.cell? ⟨H, 3, none⟩ = some (.int .u8 c) := cell_in ((hbV.block _ (lt_of_block h)).trans h) rfl
  have HV := Lib.hid hV
  have HE := Lib.hid hE
  have HEV := Lib.hid hEV
  have HBV := Lib.hid hbV
  clear hV hE hEV hbV h
  go_enter Try.func11, Try.ntmps11
  go_upto_region 1 with fail
  rw [← HV.out, ← HE.out]
  go_wp2
  have hX := set3h HEV.out rfl (.int .u8 a) (.int .u8 b) (.int .u8 c)
  refine bodyPost_ret (results_cell_row (P := Try.prog) rfl _ _ E _ _ (0, 0) _ rfl hX Try.underlying22 rfl Try.sizeA22) rfl ?_
  exact ⟨rfl, ((HBV.out.setCell (p := ⟨E, 0, none⟩) (by rw [HE.out]; exact Nat.le_refl _) _).setCell (p := ⟨E, 1, none⟩) (by rw [HE.out]; exact Nat.le_refl _) _).setCell (p := ⟨E, 2, none⟩) (by rw [HE.out]; exact Nat.le_refl _) _⟩

theorem okActs_iff (a b c : Int) : okActs a b c = true ↔ (a ≤ 2 ∧ b ≤ 2 ∧ c ≤ 2) := by unfold okActs; simp [and_assoc]
set_option maxRecDepth 100000 in
set_option maxHeartbeats 4000000 in
theorem hnew_no (w : World) (a b c : Int) (hok : okActs a b c = false) : Calls Try.prog 6 #[.agg #[.int .u8 a, .int .u8 b, .int .u8 c]] w fun e w' => e = .returned (.pointer none) ∧ Below w.heap.size w w' := by
  obtain ⟨V, hV⟩ : ∃ V, V = w.alloc (.cells #[.int .u8 a, .int .u8 b, .int .u8 c] 22) := ⟨_, rfl⟩
  obtain ⟨E, hE⟩ : ∃ E, E = w.heap.size := ⟨_, rfl⟩
  have hbV : Below w.heap.size w V := by rw [hV]; exact below1 _ _
  have hEV : V.heap[E]? = some (.cells #[.int .u8 a, .int .u8 b, .int .u8 c] 22 (0, 0)) := by rw [hV, hE]; exact heap_alloc_new _ _
  have KS : Hid (∀ Y : World, Below V.heap.size V Y → Y.cell? ⟨E, 0, none⟩ = some (.int .u8 a) ∧ Y.cell? ⟨E, 1, none⟩ = some (.int .u8 b) ∧ Y.cell? ⟨E, 2, none⟩ = some (.int .u8 c)) := Lib.hid (fun Y hY => ⟨cell_in ((hY.block _ (lt_of_block hEV)).trans hEV) rfl, cell_in ((hY.block _ (lt_of_block hEV)).trans hEV) rfl, cell_in ((hY.block _ (lt_of_block hEV)).trans hEV) rfl⟩)
  obtain ⟨k0, k1, k2⟩ := KS.out V (Below.refl _ _)
  have HRT := rights22 V a b c
  rw [hok] at HRT
  have HR := Lib.hid HRT
  have HV := Lib.hid hV
  have HE := Lib.hid hE
  have HBV := Lib.hid hbV
  clear hV hE hEV hbV hok HRT
  go_enter Try.func6, Try.ntmps6
  go_upto_region 1 with fail
  rw [← HV.out, ← HE.out]
  go_wp2_with (first
    | (go_at_call 17; refine HR.out.mono ?_; rintro e w2 ⟨rfl, hb2'⟩; have hb2 := Lib.hid hb2'; obtain ⟨m0, m1, m2⟩ := KS.out w2 hb2'; clear hb2' k0 k1 k2)
    | fail "no arm")
  go_ret
  exact ⟨rfl, HBV.out.trans (hb2.out.mono HBV.out.size)⟩

set_option maxRecDepth 100000 in
set_option maxHeartbeats 4000000 in
theorem hnew_yes (w : World) (a b c : Int) (hok : okActs a b c = true) : Calls Try.prog 6 #[.agg #[.int .u8 a, .int .u8 b, .int .u8 c]] w fun e w' => ∃ H, e = .returned (.pointer (some ⟨H, 0, none⟩)) ∧ HmAt H a b c 0 0 0 w' ∧ w.heap.size ≤ H ∧ Below w.heap.size w w' := by
  obtain ⟨V, hV⟩ : ∃ V, V = w.alloc (.cells #[.int .u8 a, .int .u8 b, .int .u8 c] 22) := ⟨_, rfl⟩
  obtain ⟨E, hE⟩ : ∃ E, E = w.heap.size := ⟨_, rfl⟩
  have hbV : Below w.heap.size w V := by rw [hV]; exact below1 _ _
  have hEV : V.heap[E]? = some (.cells #[.int .u8 a, .int .u8 b, .int .u8 c] 22 (0, 0)) := by rw [hV, hE]; exact heap_alloc_new _ _
  have KS : Hid (∀ Y : World, Below V.heap.size V Y → Y.cell? ⟨E, 0, none⟩ = some (.int .u8 a) ∧ Y.cell? ⟨E, 1, none⟩ = some (.int .u8 b) ∧ Y.cell? ⟨E, 2, none⟩ = some (.int .u8 c)) := Lib.hid (fun Y hY => ⟨cell_in ((hY.block _ (lt_of_block hEV)).trans hEV) rfl, cell_in ((hY.block _ (lt_of_block hEV)).trans hEV) rfl, cell_in ((hY.block _ (lt_of_block hEV)).trans hEV) rfl⟩)
  obtain ⟨k0, k1, k2⟩ := KS.out V (Below.refl _ _)
  have HRT := rights22 V a b c
  rw [hok] at HRT
  have HR := Lib.hid HRT
  have HV := Lib.hid hV
  have HE := Lib.hid hE
  have HBV := Lib.hid hbV
  clear hV hE hEV hbV hok HRT
  go_enter Try.func6, Try.ntmps6
  go_upto_region 1 with fail
  rw [← HV.out, ← HE.out]
  go_wp2_with (first
    | (go_at_call 17; refine HR.out.mono ?_; rintro e w2 ⟨rfl, hb2'⟩; have hb2 := Lib.hid hb2'; obtain ⟨m0, m1, m2⟩ := KS.out w2 hb2'; clear hb2' k0 k1 k2)
    | fail "no arm")
  go_ret
  have hb := HBV.out.trans (hb2.out.mono HBV.out.size)
  exact ⟨_, rfl, heap_alloc_new _ _, hb.size, hb.trans ((below1 _ _).mono hb.size)⟩

set_option maxRecDepth 100000 in
set_option maxHeartbeats 4000000 in
theorem rnew22_yes (w : World) (a b c : Int) (hok : a ≤ 2 ∧ b ≤ 2 ∧ c ≤ 2) : Calls Try.prog 7 #[.agg #[.int .u8 a, .int .u8 b, .int .u8 c]] w fun e w' => ∃ H, e = .returned (.pointer (some ⟨H, 0, none⟩)) ∧ HrAt H a b c 0 0 0 w' ∧ w.heap.size ≤ H ∧ Below w.heap.size w w' := by
  have t0 : decide (2 < a) = false := decide_eq_false (by omega)
  have t1 : decide (2 < b) = false := decide_eq_false (by omega)
  have t2 : decide (2 < c) = false := decide_eq_false (by omega)
  obtain ⟨V, hV⟩ : ∃ V, V = w.alloc (.cells #[.int .u8 a, .int .u8 b, .int .u8 c] 22) := ⟨_, rfl⟩
  obtain ⟨E, hE⟩ : ∃ E, E = w.heap.size := ⟨_, rfl⟩
  have hbV : Below w.heap.size w V := by rw [hV]; exact below1 _ _
  have hEV : V.heap[E]? = some (.cells #[.int .u8 a, .int .u8 b, .int .u8 c] 22 (0, 0)) := by rw [hV, hE]; exact heap_alloc_new _ _
  have k0 : V.cell? ⟨E, 0, none⟩ = some (.int .u8 a) := cell_in hEV rfl
  have k1 : V.cell? ⟨E, 1, none⟩ = some (.int .u8 b) := cell_in hEV rfl
  have k2 : V.cell? ⟨E, 2, none⟩ = some (.int .u8 c) := cell_in hEV rfl
  have HV := Lib.hid hV
  have HE := Lib.hid hE
  have HBV := Lib.hid hbV
  clear hV hE hEV hbV hok
  go_enter Try.func7, Try.ntmps7
  go_upto_region 1 with fail
  rw [← HV.out, ← HE.out]
  go_wp2_with fail
  go_ret
  exact ⟨_, rfl, heap_alloc_new _ _, HBV.out.size, HBV.out.trans ((below1 _ _).mono HBV.out.size)⟩

set_option maxRecDepth 100000 in
set_option maxHeartbeats 4000000 in
theorem rnew22_noa (w : World) (a b c : Int) (hok : 2 < a) : Calls Try.prog 7 #[.agg #[.int .u8 a, .int .u8 b, .int .u8 c]] w fun e w' => e = .returned (.pointer none) ∧ Below w.heap.size w w' := by
  have t0 : decide (2 < a) = true := decide_eq_true (by omega)
  obtain ⟨V, hV⟩ : ∃ V, V = w.alloc (.cells #[.int .u8 a, .int .u8 b, .int .u8 c] 22) := ⟨_, rfl⟩
  obtain ⟨E, hE⟩ : ∃ E, E = w.heap.size := ⟨_, rfl⟩
  have hbV : Below w.heap.size w V := by rw [hV]; exact below1 _ _
  have hEV : V.heap[E]? = some (.cells #[.int .u8 a, .int .u8 b, .int .u8 c] 22 (0, 0)) := by rw [hV, hE]; exact heap_alloc_new _ _
  have k0 : V.cell? ⟨E, 0, none⟩ = some (.int .u8 a) := cell_in hEV rfl
  have k1 : V.cell? ⟨E, 1, none⟩ = some (.int .u8 b) := cell_in hEV rfl
  have k2 : V.cell? ⟨E, 2, none⟩ = some (.int .u8 c) := cell_in hEV rfl
  have HV := Lib.hid hV
  have HE := Lib.hid hE
  have HBV := Lib.hid hbV
  clear hV hE hEV hbV hok
  go_enter Try.func7, Try.ntmps7
  go_upto_region 1 with fail
  rw [← HV.out, ← HE.out]
  go_wp2_with fail
  go_ret
  exact ⟨rfl, HBV.out⟩

set_option maxRecDepth 100000 in
set_option maxHeartbeats 4000000 in
theorem rnew22_nob (w : World) (a b c : Int) (hok : a ≤ 2 ∧ 2 < b) : Calls Try.prog 7 #[.agg #[.int .u8 a, .int .u8 b, .int .u8 c]] w fun e w' => e = .returned (.pointer none) ∧ Below w.heap.size w w' := by
  have t0 : decide (2 < a) = false := decide_eq_false (by omega)
  have t1 : decide (2 < b) = true := decide_eq_true (by omega)
  obtain ⟨V, hV⟩ : ∃ V, V = w.alloc (.cells #[.int .u8 a, .int .u8 b, .int .u8 c] 22) := ⟨_, rfl⟩
  obtain ⟨E, hE⟩ : ∃ E, E = w.heap.size := ⟨_, rfl⟩
  have hbV : Below w.heap.size w V := by rw [hV]; exact below1 _ _
  have hEV : V.heap[E]? = some (.cells #[.int .u8 a, .int .u8 b, .int .u8 c] 22 (0, 0)) := by rw [hV, hE]; exact heap_alloc_new _ _
  have k0 : V.cell? ⟨E, 0, none⟩ = some (.int .u8 a) := cell_in hEV rfl
  have k1 : V.cell? ⟨E, 1, none⟩ = some (.int .u8 b) := cell_in hEV rfl
  have k2 : V.cell? ⟨E, 2, none⟩ = some (.int .u8 c) := cell_in hEV rfl
  have HV := Lib.hid hV
  have HE := Lib.hid hE
  have HBV := Lib.hid hbV
  clear hV hE hEV hbV hok
  go_enter Try.func7, Try.ntmps7
  go_upto_region 1 with fail
  rw [← HV.out, ← HE.out]
  go_wp2_with fail
  go_ret
  exact ⟨rfl, HBV.out⟩

set_option maxRecDepth 100000 in
set_option maxHeartbeats 4000000 in
theorem rnew22_noc (w : World) (a b c : Int) (hok : a ≤ 2 ∧ b ≤ 2 ∧ 2 < c) : Calls Try.prog 7 #[.agg #[.int .u8 a, .int .u8 b, .int .u8 c]] w fun e w' => e = .returned (.pointer none) ∧ Below w.heap.size w w' := by
  have t0 : decide (2 < a) = false := decide_eq_false (by omega)
  have t1 : decide (2 < b) = false := decide_eq_false (by omega)
  have t2 : decide (2 < c) = true := decide_eq_true (by omega)
  obtain ⟨V, hV⟩ : ∃ V, V = w.alloc (.cells #[.int .u8 a, .int .u8 b, .int .u8 c] 22) := ⟨_, rfl⟩
  obtain ⟨E, hE⟩ : ∃ E, E = w.heap.size := ⟨_, rfl⟩
  have hbV : Below w.heap.size w V := by rw [hV]; exact below1 _ _
  have hEV : V.heap[E]? = some (.cells #[.int .u8 a, .int .u8 b, .int .u8 c] 22 (0, 0)) := by rw [hV, hE]; exact heap_alloc_new _ _
  have k0 : V.cell? ⟨E, 0, none⟩ = some (.int .u8 a) := cell_in hEV rfl
  have k1 : V.cell? ⟨E, 1, none⟩ = some (.int .u8 b) := cell_in hEV rfl
  have k2 : V.cell? ⟨E, 2, none⟩ = some (.int .u8 c) := cell_in hEV rfl
  have HV := Lib.hid hV
  have HE := Lib.hid hE
  have HBV := Lib.hid hbV
  clear hV hE hEV hbV hok
  go_enter Try.func7, Try.ntmps7
  go_upto_region 1 with fail
  rw [← HV.out, ← HE.out]
  go_wp2_with fail
  go_ret
  exact ⟨rfl, HBV.out⟩

set_option maxRecDepth 100000 in
set_option maxHeartbeats 4000000 in
theorem hname_any (w : World) (k : Int) : Calls Try.prog 13 #[.int .i64 k] w fun e w' => e = .returned (.string ⟨(nameV k).toArray⟩) ∧ w' = w := by
  by_cases c0 : k = 0
  · subst c0
    rw [show nameV 0 = _ from rfl]
    go_enter Try.func13, Try.ntmps13
    go_wp2
    go_ret
    exact ⟨rfl, rfl⟩
  have t0 : (k == 0) = false := by simpa using c0
  by_cases c1 : k = 1
  · subst c1
    rw [show nameV 1 = _ from rfl]
    go_enter Try.func13, Try.ntmps13
    go_wp2
    go_ret
    exact ⟨rfl, rfl⟩
  have t1 : (k == 1) = false := by simpa using c1
  by_cases c2 : k = 2
  · subst c2
    rw [show nameV 2 = _ from rfl]
    go_enter Try.func13, Try.ntmps13
    go_wp2
    go_ret
    exact ⟨rfl, rfl⟩
  have t2 : (k == 2) = false := by simpa using c2
  rw [nameV_no (show k < 0 ∨ 2 < k by omega)]
  go_enter Try.func13, Try.ntmps13
  go_wp2
  go_ret
  exact ⟨rfl, rfl⟩

set_option maxRecDepth 100000 in
set_option maxHeartbeats 4000000 in
theorem hdoes_any (w : World) (k : Int) : Calls Try.prog 15 #[.int .u8 k] w fun e w' => e = .returned (.string ⟨(doesV k).toArray⟩) ∧ w' = w := by
  by_cases c0 : k = 0
  · subst c0
    rw [show doesV 0 = _ from rfl]
    go_enter Try.func15, Try.ntmps15
    go_wp2
    go_ret
    exact ⟨rfl, rfl⟩
  have t0 : (k == 0) = false := by simpa using c0
  by_cases c1 : k = 1
  · subst c1
    rw [show doesV 1 = _ from rfl]
    go_enter Try.func15, Try.ntmps15
    go_wp2
    go_ret
    exact ⟨rfl, rfl⟩
  have t1 : (k == 1) = false := by simpa using c1
  by_cases c2 : k = 2
  · subst c2
    rw [show doesV 2 = _ from rfl]
    go_enter Try.func15, Try.ntmps15
    go_wp2
    go_ret
    exact ⟨rfl, rfl⟩
  have t2 : (k == 2) = false := by simpa using c2
  rw [doesV_no (show k < 0 ∨ 2 < k by omega)]
  go_enter Try.func15, Try.ntmps15
  go_wp2
  go_ret
  exact ⟨rfl, rfl⟩

set_option maxRecDepth 100000 in
set_option maxHeartbeats 4000000 in
theorem rname_0 (w : World) : Calls Try.prog 14 #[.int .i64 0] w fun e w' => e = .returned (.string ⟨(nameV 0).toArray⟩) ∧ Below w.heap.size w w' := by
  rw [show nameV 0 = _ from rfl]
  go_enter Try.func14, Try.ntmps14
  go_wp2
  go_ret
  exact ⟨rfl, below1 _ _⟩

set_option maxRecDepth 100000 in
set_option maxHeartbeats 4000000 in
theorem rname_1 (w : World) : Calls Try.prog 14 #[.int .i64 1] w fun e w' => e = .returned (.string ⟨(nameV 1).toArray⟩) ∧ Below w.heap.size w w' := by
  rw [show nameV 1 = _ from rfl]
  go_enter Try.func14, Try.ntmps14
  go_wp2
  go_ret
  exact ⟨rfl, below1 _ _⟩

set_option maxRecDepth 100000 in
set_option maxHeartbeats 4000000 in
theorem rname_2 (w : World) : Calls Try.prog 14 #[.int .i64 2] w fun e w' => e = .returned (.string ⟨(nameV 2).toArray⟩) ∧ Below w.heap.size w w' := by
  rw [show nameV 2 = _ from rfl]
  go_enter Try.func14, Try.ntmps14
  go_wp2
  go_ret
  exact ⟨rfl, below1 _ _⟩

set_option maxRecDepth 100000 in
set_option maxHeartbeats 4000000 in
theorem rname_low (w : World) (k : Int) (h : k < 0) : Calls Try.prog 14 #[.int .i64 k] w fun e w' => e = .returned (.string ⟨(nameV k).toArray⟩) ∧ Below w.heap.size w w' := by
  have t0 : decide (k < 0) = true := decide_eq_true h
  rw [nameV_no (show k < 0 ∨ 2 < k by omega)]
  go_enter Try.func14, Try.ntmps14
  go_wp2
  go_ret
  exact ⟨rfl, below1 _ _⟩

set_option maxRecDepth 100000 in
set_option maxHeartbeats 4000000 in
theorem rname_high (w : World) (k : Int) (h : 2 < k) : Calls Try.prog 14 #[.int .i64 k] w fun e w' => e = .returned (.string ⟨(nameV k).toArray⟩) ∧ Below w.heap.size w w' := by
  have t0 : decide (k < 0) = false := decide_eq_false (by omega)
  have t1 : decide (2 < k) = true := decide_eq_true (by omega)
  rw [nameV_no (show k < 0 ∨ 2 < k by omega)]
  go_enter Try.func14, Try.ntmps14
  go_wp2
  go_ret
  exact ⟨rfl, below1 _ _⟩

theorem rname_any (w : World) (k : Int) : Calls Try.prog 14 #[.int .i64 k] w fun e w' => e = .returned (.string ⟨(nameV k).toArray⟩) ∧ Below w.heap.size w w' := by
  rcases four22 k with (hk | hk) | rfl | rfl | rfl
  · exact rname_low w k hk
  · exact rname_high w k hk
  · exact rname_0 w
  · exact rname_1 w
  · exact rname_2 w

set_option maxRecDepth 100000 in
set_option maxHeartbeats 4000000 in
theorem rdoes_0 (w : World) : Calls Try.prog 16 #[.int .u8 0] w fun e w' => e = .returned (.string ⟨(doesV 0).toArray⟩) ∧ Below w.heap.size w w' := by
  rw [show doesV 0 = _ from rfl]
  go_enter Try.func16, Try.ntmps16
  go_wp2
  go_ret
  exact ⟨rfl, below1 _ _⟩

set_option maxRecDepth 100000 in
set_option maxHeartbeats 4000000 in
theorem rdoes_1 (w : World) : Calls Try.prog 16 #[.int .u8 1] w fun e w' => e = .returned (.string ⟨(doesV 1).toArray⟩) ∧ Below w.heap.size w w' := by
  rw [show doesV 1 = _ from rfl]
  go_enter Try.func16, Try.ntmps16
  go_wp2
  go_ret
  exact ⟨rfl, below1 _ _⟩

set_option maxRecDepth 100000 in
set_option maxHeartbeats 4000000 in
theorem rdoes_2 (w : World) : Calls Try.prog 16 #[.int .u8 2] w fun e w' => e = .returned (.string ⟨(doesV 2).toArray⟩) ∧ Below w.heap.size w w' := by
  rw [show doesV 2 = _ from rfl]
  go_enter Try.func16, Try.ntmps16
  go_wp2
  go_ret
  exact ⟨rfl, below1 _ _⟩

set_option maxRecDepth 100000 in
set_option maxHeartbeats 4000000 in
theorem rdoes_high (w : World) (k : Int) (h : 2 < k) : Calls Try.prog 16 #[.int .u8 k] w fun e w' => e = .returned (.string ⟨(doesV k).toArray⟩) ∧ Below w.heap.size w w' := by
  have t0 : decide (k < 0) = false := decide_eq_false (by omega)
  have t1 : decide (2 < k) = true := decide_eq_true (by omega)
  rw [doesV_no (show k < 0 ∨ 2 < k by omega)]
  go_enter Try.func16, Try.ntmps16
  go_wp2
  go_ret
  exact ⟨rfl, below1 _ _⟩

theorem rdoes_any (w : World) (k : Int) (h0 : 0 ≤ k) : Calls Try.prog 16 #[.int .u8 k] w fun e w' => e = .returned (.string ⟨(doesV k).toArray⟩) ∧ Below w.heap.size w w' := by
  rcases four22 k with (hk | hk) | rfl | rfl | rfl
  · omega
  · exact rdoes_high w k hk
  · exact rdoes_0 w
  · exact rdoes_1 w
  · exact rdoes_2 w

end Go.Proofs.Ytndpodkgdinijaa
