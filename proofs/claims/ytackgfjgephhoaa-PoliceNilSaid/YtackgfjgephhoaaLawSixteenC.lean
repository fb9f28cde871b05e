/- PoliceNil, out of the contracts. -/
import Derived.Test.YtackgfjgephhoaaPolC
import Derived.Deep.CutRange
import Derived.Deep.CutBlock
namespace Go.Proofs.Ytackgfjgephhoaa
open Go.ChangeShapes Go.WideShapes Go.ChangeAt Go.RowKit
set_option linter.unusedVariables false

/-- What nobody's police answers. -/
structure PoliceNo where
  take : ∀ (w : World) (t now : Int), Calls Try.prog 10 #[.pointer none, .int .i64 t, .int .i64 now] w fun e w' => e = .returned (.int .i64 1) ∧ Below w.heap.size w w'
  may : ∀ (w : World) (t now : Int), Calls Try.prog 12 #[.pointer none, .int .i64 t, .int .i64 now] w fun e w' => e = .returned (.int .i64 1) ∧ Below w.heap.size w w'
  last : ∀ (w : World) (t : Int), Calls Try.prog 15 #[.pointer none, .int .i64 t] w fun e w' => e = .returned (.tuple #[.int .i64 0, .bool false]) ∧ Below w.heap.size w w'
  drop : ∀ (w : World) (b : Bool), Calls Try.prog 14 #[.pointer none, .bool b] w fun e w' => e = .returned (.tuple #[]) ∧ Below w.heap.size w w'
  dropped : ∀ (w : World) (t : Int), Calls Try.prog 16 #[.pointer none, .int .i64 t] w fun e w' => e = .returned (.bool false) ∧ Below w.heap.size w w'
set_option maxRecDepth 100000 in
set_option maxHeartbeats 8000000 in
theorem PoliceNil_of (N : PoliceNo) (O : PoliceOk) (a b c : Int) (w : World) : Calls Try.prog 5 #[.agg #[.int .i64 a, .int .i64 b, .int .i64 c]] w fun e w' => e = .returned (.bool true) ∧ Below w.heap.size w w' := by
  obtain ⟨V, hV⟩ : ∃ V, V = w.alloc (.cells #[.int .i64 a, .int .i64 b, .int .i64 c] 30) := ⟨_, rfl⟩
  obtain ⟨E, hE⟩ : ∃ E, E = w.heap.size := ⟨_, rfl⟩
  have hbV : Below w.heap.size w V := by rw [hV]; exact below1 _ _
  have hEV : V.heap[E]? = some (.cells #[.int .i64 a, .int .i64 b, .int .i64 c] 30 (0, 0)) := by rw [hV, hE]; exact heap_alloc_new _ _
  have KS : Hid (∀ Y, Below V.heap.size V Y → Y.cell? ⟨E, 1, none⟩ = some (.int .i64 b) ∧ Y.cell? ⟨E, 2, none⟩ = some (.int .i64 c)) := Lib.hid (fun Y hY => ⟨cell_in ((hY.block _ (lt_of_block hEV)).trans hEV) rfl, cell_in ((hY.block _ (lt_of_block hEV)).trans hEV) rfl⟩)
  have HB := Lib.hid hbV
  have HV := Lib.hid hV
  have HE := Lib.hid hE
  clear hbV hEV hV hE
  go_enter Try.func5, Try.ntmps5
  go_upto_region 1 with fail
  rw [← HV.out, ← HE.out]
  go_wp2_with (first
    | (go_at_call 6; have _z := hb7; refine (knows16_of O _).mono ?_; rintro e w8 ⟨rfl, b8⟩; have hb8 := Lib.hid (hb7.out.trans (b8.mono hb7.out.size)); clear b8)
    | (go_at_call 16; have _z := hb6; refine (N.dropped _ b).mono ?_; rintro e w7 ⟨rfl, b7⟩; have hb7 := Lib.hid (hb6.out.trans (b7.mono hb6.out.size)); obtain ⟨y7, z7⟩ := KS.out _ hb7.out; clear b7)
    | (go_at_call 10; have _z := hb5; refine (N.take _ b c).mono ?_; rintro e w6 ⟨rfl, b6⟩; have hb6 := Lib.hid (hb5.out.trans (b6.mono hb5.out.size)); obtain ⟨y6, z6⟩ := KS.out _ hb6.out; clear b6)
    | (go_at_call 12; have _z := hb4; refine (N.may _ b c).mono ?_; rintro e w5 ⟨rfl, b5⟩; have hb5 := Lib.hid (hb4.out.trans (b5.mono hb4.out.size)); obtain ⟨y5, z5⟩ := KS.out _ hb5.out; clear b5)
    | (go_at_call 15; have _z := hb3; refine (N.last _ b).mono ?_; rintro e w4 ⟨rfl, b4⟩; have hb4 := Lib.hid (hb3.out.trans (b4.mono hb3.out.size)); obtain ⟨y4, z4⟩ := KS.out _ hb4.out; clear b4)
    | (go_at_call 14; refine (N.drop _ true).mono ?_; rintro e w3 ⟨rfl, b3⟩; have hb3 := Lib.hid b3; obtain ⟨y3, z3⟩ := KS.out _ hb3.out; clear b3)
    | (go_at_call 9; refine (num16_any _ _).mono ?_; rintro e w20 ⟨rfl, hw20⟩; rw [hw20]; clear hw20)
    | fail "no arm")
  go_ret
  exact ⟨rfl, HB.out.trans (hb8.out.mono HB.out.size)⟩
end Go.Proofs.Ytackgfjgephhoaa
