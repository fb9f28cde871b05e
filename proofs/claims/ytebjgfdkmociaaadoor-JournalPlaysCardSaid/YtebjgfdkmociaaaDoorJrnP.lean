/- The program's log: New, Len, Lost, Add, All; of none. -/
import Derived.Test.YtebjgfdkmociaaaDoorJrnM
import Derived.RegionTactic
import Derived.Deep.CutRange
import Derived.Deep.CutBlock
import Derived.OwnWalk
import Derived.Deep.RegionLaw
import Derived.Deep.RegionHeld3
import Derived.BigQuiet
namespace Go.Proofs.YtebjgfdkmociaaaDoor
open Go.ChangeShapes Go.WideShapes Go.ChangeAt Go.RowKit
set_option linter.unusedVariables false

abbrev zJi : Value := .int .i64 0
abbrev zJs : Value := .slice none 0 0
/-- The room, as a number. -/
theorem room_num (x : Int) : ((roomJ x : Nat) : Int) = min (max x 0) 65536 := by unfold roomJ; omega
theorem startLg (w : World) (x r : Int) (h : ((roomJ x : Nat) : Int) = r) : LgAt w.heap.size (roomJ x) [] 0 (w.alloc (.cells (boxLg r (.slice none 0 0) 0) 49)) (fun k => k = w.heap.size) := by
  subst h
  exact ⟨none, 0, heap_alloc_new _ _, RowR.start _ _ _ _ _, rfl, fun k hk => by rw [hk]; simp⟩
set_option maxRecDepth 100000 in
set_option maxHeartbeats 4000000 in
theorem newLg_any (x : Int) (w : World) : Calls Tryd.prog 6 #[.int .i64 x] w fun e w' => ∃ H, e = .returned (.pointer (some ⟨H, 0, none⟩)) ∧ LgAt H (roomJ x) [] 0 w' (fun k => k = H) ∧ H = w.heap.size ∧ Below w.heap.size w w' := by
  have HR := Lib.hid (room_num x)
  go_enter Tryd.func6, Tryd.ntmps6
  go_wp2_with fail
  all_goals
    (go_ret
     exact ⟨_, rfl, startLg w x _ (by rw [HR.out]; omega), rfl, below1 _ _⟩)
theorem startDg (w : World) (x r : Int) (h : ((roomJ x : Nat) : Int) = r) : DgAt w.heap.size (roomJ x) [] 0 (w.alloc (.cells (boxDg r (.slice none 0 0) 0) 36)) (fun k => k = w.heap.size) := by
  subst h
  exact ⟨none, 0, heap_alloc_new _ _, RowR.start _ _ _ _ _, rfl, fun k hk => by rw [hk]; simp⟩
set_option maxRecDepth 100000 in
set_option maxHeartbeats 4000000 in
theorem newDg_any (x : Int) (w : World) : Calls Tryd.prog 7 #[.int .i64 x] w fun e w' => ∃ H, e = .returned (.pointer (some ⟨H, 0, none⟩)) ∧ DgAt H (roomJ x) [] 0 w' (fun k => k = H) ∧ H = w.heap.size ∧ Below w.heap.size w w' := by
  have HR := Lib.hid (room_num x)
  go_enter Tryd.func7, Tryd.ntmps7
  go_wp2_with fail
  all_goals
    (go_ret
     exact ⟨_, rfl, startDg w x _ (by rw [HR.out]; omega), rfl, below1 _ _⟩)

set_option maxRecDepth 100000 in
set_option maxHeartbeats 4000000 in
theorem jmade_any {w : World} {H R : Nat} {S : Nat → Prop} {l : List Ent} {x : Int} (h : LgAt H R l x w S) : Calls Tryd.prog 21 #[.pointer (some ⟨H, 0, none⟩)] w fun e w' => e = .returned (.bool true) ∧ w' = w := by
  obtain ⟨ao, cap, h⟩ := h
  have b0 : w.cell? ⟨H, 0, none⟩ = some (.bool true) := cell_in h.box rfl
  clear h
  go_enter Tryd.func21, Tryd.ntmps21
  go_wp2_with fail
  go_ret
  exact ⟨rfl, rfl⟩
set_option maxRecDepth 100000 in
set_option maxHeartbeats 4000000 in
theorem jmade_no (w : World) : Calls Tryd.prog 21 #[.pointer none] w fun e w' => e = .returned (.bool false) ∧ w' = w := by
  go_enter Tryd.func21, Tryd.ntmps21
  go_wp2_with fail
  go_ret
  exact ⟨rfl, rfl⟩
set_option maxRecDepth 100000 in
set_option maxHeartbeats 4000000 in
theorem jLen_no (w : World) : Calls Tryd.prog 11 #[.pointer none] w fun e w' => e = .returned zJi ∧ w' = w := by
  go_enter Tryd.func11, Tryd.ntmps11
  go_wp2_with (go_at_call 21; refine (jmade_no _).mono ?_; rintro e w1 ⟨rfl, rfl⟩)
  go_ret
  exact ⟨rfl, rfl⟩
set_option maxRecDepth 100000 in
set_option maxHeartbeats 4000000 in
theorem jLost_no (w : World) : Calls Tryd.prog 12 #[.pointer none] w fun e w' => e = .returned zJi ∧ w' = w := by
  go_enter Tryd.func12, Tryd.ntmps12
  go_wp2_with (go_at_call 21; refine (jmade_no _).mono ?_; rintro e w1 ⟨rfl, rfl⟩)
  go_ret
  exact ⟨rfl, rfl⟩
set_option maxRecDepth 100000 in
set_option maxHeartbeats 4000000 in
theorem jAll_no (w : World) : Calls Tryd.prog 15 #[.pointer none] w fun e w' => e = .returned zJs ∧ w' = w := by
  go_enter Tryd.func15, Tryd.ntmps15
  go_wp2_with (go_at_call 21; refine (jmade_no _).mono ?_; rintro e w1 ⟨rfl, rfl⟩)
  go_ret
  exact ⟨rfl, rfl⟩
set_option maxRecDepth 100000 in
set_option maxHeartbeats 4000000 in
theorem jAdd_no (w : World) (v : Value) : Calls Tryd.prog 8 #[.pointer none, v] w fun e w' => e = .returned zJi ∧ w' = w := by
  go_enter Tryd.func8, Tryd.ntmps8
  go_wp2_with (go_at_call 21; refine (jmade_no _).mono ?_; rintro e w1 ⟨rfl, rfl⟩)
  go_ret
  exact ⟨rfl, rfl⟩
set_option maxRecDepth 100000 in
set_option maxHeartbeats 4000000 in
theorem jOf_no (w : World) (v : Value) : Calls Tryd.prog 16 #[.pointer none, v] w fun e w' => e = .returned zJs ∧ w' = w := by
  go_enter Tryd.func16, Tryd.ntmps16
  go_wp2_with (go_at_call 21; refine (jmade_no _).mono ?_; rintro e w1 ⟨rfl, rfl⟩)
  go_ret
  exact ⟨rfl, rfl⟩
set_option maxRecDepth 100000 in
set_option maxHeartbeats 4000000 in
theorem jLen_any {w : World} {H R : Nat} {S : Nat → Prop} {l : List Ent} {x : Int} (h : LgAt H R l x w S) : Calls Tryd.prog 11 #[.pointer (some ⟨H, 0, none⟩)] w fun e w' => e = .returned (.int .i64 l.length) ∧ w' = w := by
  have HM := Lib.hid (jmade_any h)
  obtain ⟨ao, cap, h⟩ := h
  have b2 : w.cell? ⟨H, 2, none⟩ = some (.slice ao l.length cap) := cell_in h.box rfl
  clear h
  go_enter Tryd.func11, Tryd.ntmps11
  go_wp2_with (go_at_call 21; refine HM.out.mono ?_; rintro e w1 ⟨rfl, hw1⟩; rw [hw1]; clear hw1)
  go_ret
  exact ⟨rfl, rfl⟩
set_option maxRecDepth 100000 in
set_option maxHeartbeats 4000000 in
theorem jLost_any {w : World} {H R : Nat} {S : Nat → Prop} {l : List Ent} {x : Int} (h : LgAt H R l x w S) : Calls Tryd.prog 12 #[.pointer (some ⟨H, 0, none⟩)] w fun e w' => e = .returned (.int .i64 x) ∧ w' = w := by
  have HM := Lib.hid (jmade_any h)
  obtain ⟨ao, cap, h⟩ := h
  have b2 : w.cell? ⟨H, 3, none⟩ = some (.int .i64 x) := cell_in h.box rfl
  clear h
  go_enter Tryd.func12, Tryd.ntmps12
  go_wp2_with (go_at_call 21; refine HM.out.mono ?_; rintro e w1 ⟨rfl, hw1⟩; rw [hw1]; clear hw1)
  go_ret
  exact ⟨rfl, rfl⟩
end Go.Proofs.YtebjgfdkmociaaaDoor
