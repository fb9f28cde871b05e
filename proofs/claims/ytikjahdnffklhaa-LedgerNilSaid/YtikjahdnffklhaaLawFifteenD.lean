/- LedgerNil, out of the contracts. -/
import Derived.Test.YtikjahdnffklhaaLedgC
import Derived.Test.YtikjahdnffklhaaBuild
import Derived.BigRegion
import Derived.Deep.CutRange
import Derived.Deep.CutBlock
namespace Go.Proofs.Ytikjahdnffklhaa
open Go.ChangeShapes Go.WideShapes Go.ChangeAt Go.RowKit
set_option linter.unusedVariables false

/-- The cells of a ledger that nobody made (of the program's own make: to be written anew for each). -/
def zc15 : Array Value := #[.bool false, .int .i64 0, .int .i64 0, .int .i64 0, .int .i64 0, .int .i64 0, .int .i64 0, .int .i64 0, .int .i64 0, .int .i64 0, .int .i64 0, .int .i64 0, .int .i64 0, .int .i64 0, .int .i64 0, .int .i64 0, .int .i64 0, .int .i64 0, .int .i64 0, .int .i64 0, .int .i64 0, .int .i64 0, .int .i64 0, .int .i64 0, .int .i64 0, .int .i64 0, .int .i64 0, .int .i64 0, .int .i64 0, .int .i64 0, .int .i64 0, .int .i64 0, .int .i64 0, .int .i64 0, .int .i64 0, .int .i64 0, .int .i64 0, .int .i64 0, .int .i64 0, .int .i64 0, .int .i64 0, .int .i64 0, .int .i64 0, .int .i64 0, .int .i64 0, .int .i64 0, .int .i64 0, .int .i64 0, .int .i64 0, .int .i64 0, .int .i64 0, .int .i64 0, .int .i64 0, .int .i64 0, .int .i64 0, .int .i64 0, .int .i64 0]
set_option maxRecDepth 100000 in
theorem built_zero15 : Try.prog.built 50 [] = some zc15 := by kernel_rfl
/-- The contracts of a ledger that nobody made. -/
structure LedgerNo where
  No : World → Option Addr → Prop
  later : ∀ {w w' : World} {p : Option Addr}, No w p → Below w.heap.size w w' → No w' p
  nil : ∀ w, No w none
  zero : ∀ (w : World) (H : Nat), w.heap[H]? = some (.cells zc15 50 (0, 0)) → No w (some ⟨H, 0, none⟩)
  charge : ∀ (w : World) (p : Option Addr) (a b c : Int), No w p → Calls Try.prog 11 #[.pointer p, .int .i64 a, .int .i64 b, .int .i64 c] w fun e w' => e = .returned (.int .i64 1) ∧ Below w.heap.size w w'
  of : ∀ (w : World) (p : Option Addr) (a b : Int), No w p → Calls Try.prog 14 #[.pointer p, .int .i64 a, .int .i64 b] w fun e w' => e = .returned (.int .i64 0) ∧ Below w.heap.size w w'
  got : ∀ (w : World) (p : Option Addr) (a : Int), No w p → Calls Try.prog 15 #[.pointer p, .int .i64 a] w fun e w' => e = .returned (.int .i64 0) ∧ Below w.heap.size w w'
  gave : ∀ (w : World) (p : Option Addr) (a b : Int), No w p → Calls Try.prog 16 #[.pointer p, .int .i64 a, .int .i64 b] w fun e w' => e = .returned (.int .i64 0) ∧ Below w.heap.size w w'
  total : ∀ (w : World) (p : Option Addr), No w p → Calls Try.prog 17 #[.pointer p] w fun e w' => e = .returned (.int .i64 0) ∧ Below w.heap.size w w'
set_option maxRecDepth 100000 in
set_option maxHeartbeats 8000000 in
theorem LedgerNil_of (N : LedgerNo) (O : LedgerOk) (a b c : Int) (w : World) : Calls Try.prog 6 #[.agg #[.int .i64 a, .int .i64 b, .int .i64 c]] w fun e w' => e = .returned (.bool true) ∧ Below w.heap.size w w' := by
  obtain ⟨V, hV⟩ : ∃ V, V = w.alloc (.cells #[.int .i64 a, .int .i64 b, .int .i64 c] 32) := ⟨_, rfl⟩
  obtain ⟨E, hE⟩ : ∃ E, E = w.heap.size := ⟨_, rfl⟩
  have hbV : Below w.heap.size w V := by rw [hV]; exact below1 _ _
  have hEV : V.heap[E]? = some (.cells #[.int .i64 a, .int .i64 b, .int .i64 c] 32 (0, 0)) := by rw [hV, hE]; exact heap_alloc_new _ _
  have KS : Hid (∀ Y, Below V.heap.size V Y → Y.cell? ⟨E, 0, none⟩ = some (.int .i64 a) ∧ Y.cell? ⟨E, 1, none⟩ = some (.int .i64 b) ∧ Y.cell? ⟨E, 2, none⟩ = some (.int .i64 c)) := Lib.hid (fun Y hY => ⟨cell_in ((hY.block _ (lt_of_block hEV)).trans hEV) rfl, cell_in ((hY.block _ (lt_of_block hEV)).trans hEV) rfl, cell_in ((hY.block _ (lt_of_block hEV)).trans hEV) rfl⟩)
  have HB := Lib.hid hbV
  have HV := Lib.hid hV
  have HE := Lib.hid hE
  have HZ := Lib.hid built_zero15
  clear hbV hEV hV hE
  go_enter Try.func6, Try.ntmps6
  go_upto_region 1 with fail
  rw [← HV.out, ← HE.out]
  go_wp2_with fail
  go_loopw [3, 4] (fun s3 s4 wr => ∃ (k : Nat) (p : Option Addr), k ≤ 2 ∧ s3 = .pointer p ∧ s4 = .int .i64 k ∧ Hid (N.No wr p) ∧ Hid (Below V.heap.size V wr)) (fun _ s _ => 2 - (intOf s).toNat)
  case atStart => exact ⟨0, none, Nat.zero_le _, rfl, rfl, Lib.hid (N.nil _), Lib.hid (Below.refl _ _)⟩
  case round =>
    obtain ⟨k, p, hk, rfl, rfl, HN, HW⟩ := hrel
    by_cases hlt : k < 2
    · have l0 : decide ((k : Int) < 2) = true := decide_eq_true (by omega)
      have HN5 : Hid (N.No wr.drew p) := Lib.hid (N.later HN.out (Below.refl _ _).drew)
      have HW5 : Hid (Below V.heap.size V wr.drew) := Lib.hid HW.out.drew
      obtain ⟨x1, y1, z1⟩ := KS.out _ HW5.out
      go_wp2_with fail
      go_region_held3 (fun Y => Y.cell? ⟨E, 0, none⟩ = some (.int .i64 a) ∧ Y.cell? ⟨E, 1, none⟩ = some (.int .i64 b) ∧ Y.cell? ⟨E, 2, none⟩ = some (.int .i64 c))
        (first | exact KS.out _ hb10.out.2 | exact KS.out _ hb9.out.2 | exact KS.out _ hb8.out.2 | exact KS.out _ hb7.out.2 | exact KS.out _ hb6.out.2 | exact KS.out _ HW5.out | fail "no keep")
        (first
      | (go_at_call 17; have _z := hb9; refine (N.total _ p hb9.out.1).mono ?_; rintro e w10 ⟨rfl, b10⟩; have hb10 := Lib.hid (And.intro (N.later hb9.out.1 b10) (hb9.out.2.trans (b10.mono hb9.out.2.size))); obtain ⟨x10, y10, z10⟩ := KS.out _ hb10.out.2; clear b10)
      | (go_at_call 16; have _z := hb8; refine (N.gave _ p b c hb8.out.1).mono ?_; rintro e w9 ⟨rfl, b9⟩; have hb9 := Lib.hid (And.intro (N.later hb8.out.1 b9) (hb8.out.2.trans (b9.mono hb8.out.2.size))); obtain ⟨x9, y9, z9⟩ := KS.out _ hb9.out.2; clear b9)
      | (go_at_call 15; have _z := hb7; refine (N.got _ p b hb7.out.1).mono ?_; rintro e w8 ⟨rfl, b8⟩; have hb8 := Lib.hid (And.intro (N.later hb7.out.1 b8) (hb7.out.2.trans (b8.mono hb7.out.2.size))); obtain ⟨x8, y8, z8⟩ := KS.out _ hb8.out.2; clear b8)
      | (go_at_call 14; have _z := hb6; refine (N.of _ p a b hb6.out.1).mono ?_; rintro e w7 ⟨rfl, b7⟩; have hb7 := Lib.hid (And.intro (N.later hb6.out.1 b7) (hb6.out.2.trans (b7.mono hb6.out.2.size))); obtain ⟨x7, y7, z7⟩ := KS.out _ hb7.out.2; clear b7)
      | (go_at_call 10; have _z := hb6; refine (num15_any _ _).mono ?_; rintro e w16 ⟨rfl, hw6⟩; rw [hw6]; clear hw6)
      | (go_at_call 11; refine (N.charge _ p a b c HN5.out).mono ?_; rintro e w6 ⟨rfl, b6⟩; have hb6 := Lib.hid (And.intro (N.later HN5.out b6) (HW5.out.trans (b6.mono HW5.out.size))); obtain ⟨x6, y6, z6⟩ := KS.out _ hb6.out.2; clear b6)
      | fail "no arm")
      go_wp2_with (first
        | (refine wpList_build3 (by rfl) 50 _ (by rfl) [] (by simp) zc15 HZ.out ?_)
        | fail "no arm")
      go_roundw
      case rel => exact ⟨k + 1, _, by omega, rfl, by go_num, Lib.hid (N.zero _ _ (heap_alloc_new _ _)), Lib.hid (b_alloc hb10.out.2 (Nat.le_refl _) _)⟩
      case measure => simp [intOf]; omega
    · have l0 : decide ((k : Int) < 2) = false := decide_eq_false (by omega)
      have HKK := Lib.hid (knows15_of O wr)
      go_wp2_with (go_at_call 7; refine HKK.out.mono ?_; rintro e w3 ⟨rfl, hb3⟩)
      go_ret
      exact ⟨rfl, HB.out.trans ((HW.out.trans (hb3.mono HW.out.size)).mono HB.out.size)⟩
end Go.Proofs.Ytikjahdnffklhaa
