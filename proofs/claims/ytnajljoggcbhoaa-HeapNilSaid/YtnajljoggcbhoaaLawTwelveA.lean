/- HeapNil. -/
import Derived.Test.YtnajljoggcbhoaaHeapZ
namespace Go.Proofs.Ytnajljoggcbhoaa
open Go.ChangeShapes Go.WideShapes Go.ChangeAt Go.RowKit
set_option linter.unusedVariables false

set_option maxRecDepth 100000 in
set_option maxHeartbeats 4000000 in
theorem HeapNil_walk (k i d : Int) (w : World) : Calls Try.prog 5 #[.agg #[.int .i64 k, .int .i64 i, .int .i64 d]] w fun e w' => e = .returned (.bool true) ∧ Below w.heap.size w w' := by
  obtain ⟨V, hV⟩ : ∃ V, V = w.alloc (.cells #[.int .i64 k, .int .i64 i, .int .i64 d] 29) := ⟨_, rfl⟩
  have hbv : V.heap[w.heap.size]? = some (.cells #[.int .i64 k, .int .i64 i, .int .i64 d] 29 (0, 0)) := by rw [hV]; exact heap_alloc_new _ _
  have HBV : Hid (Below w.heap.size w V) := Lib.hid (by rw [hV]; exact below1 _ _)
  have KB : Hid (∀ Y, Below V.heap.size V Y → Y.cell? ⟨w.heap.size, 1, none⟩ = some (.int .i64 i) ∧ Y.cell? ⟨w.heap.size, 2, none⟩ = some (.int .i64 d)) := Lib.hid (fun Y hY => by
    have h1 := (hY.block _ (lt_of_block hbv)).trans hbv
    exact ⟨cell_in h1 rfl, cell_in h1 rfl⟩)
  have HV := Lib.hid hV
  clear hV hbv
  go_enter Try.func5, Try.ntmps5
  go_wp2_with fail
  rw [← HV.out]
  go_loopw [3, 4] (fun s3 s4 wr => ∃ (p : Option Addr) (k : Nat), s3 = .pointer p ∧ s4 = .int .i64 k ∧ k ≤ 2 ∧ Hid (NoHp wr p) ∧ Hid (Below V.heap.size V wr)) (fun _ s4 _ => 2 - (intOf s4).toNat)
  case atStart => exact ⟨none, 0, rfl, rfl, by omega, Lib.hid (.inl rfl), Lib.hid (Below.refl _ _)⟩
  case round =>
    obtain ⟨p, k, rfl, rfl, hk, HP, HB⟩ := hrel
    obtain ⟨q0, q1⟩ := KB.out _ HB.out
    by_cases hlt : k < 2
    · have l0 : decide ((k : Int) < 2) = true := decide_eq_true (by omega)
      go_wp2_with (first
        | (go_at_call 18; refine (first_nil _ _ HP.out).mono ?_; rintro e w3 ⟨rfl, hw3⟩; rw [hw3]; clear hw3)
        | (go_at_call 16; refine (pop_nil _ _ HP.out).mono ?_; rintro e w3 ⟨rfl, hw3⟩; rw [hw3]; clear hw3)
        | (go_at_call 20; refine (due_nil _ _ HP.out _).mono ?_; rintro e w3 ⟨rfl, hw3⟩; rw [hw3]; clear hw3)
        | (go_at_call 10; refine (put_nil _ _ HP.out _ _).mono ?_; rintro e w3 ⟨rfl, hw3⟩; rw [hw3]; clear hw3)
        | (go_at_call 12; refine (change_nil _ _ HP.out _ _).mono ?_; rintro e w3 ⟨rfl, hw3⟩; rw [hw3]; clear hw3)
        | (go_at_call 14; refine (remove_nil _ _ HP.out _).mono ?_; rintro e w3 ⟨rfl, hw3⟩; rw [hw3]; clear hw3)
        | (go_at_call 22; refine (len_nil _ _ HP.out).mono ?_; rintro e w3 ⟨rfl, hw3⟩; rw [hw3]; clear hw3)
        | (go_at_call 24; refine (all_nil _ _ HP.out).mono ?_; rintro e w4 ⟨ao, cp, rfl, hb4'⟩; have hb4 := Lib.hid hb4'; clear hb4')
        | (go_at_call 9; refine (num_any _ _).mono ?_; rintro e w3 ⟨rfl, hw3⟩; rw [hw3]; clear hw3)
        | fail "no arm")
      go_roundw
      case rel => exact ⟨_, k + 1, rfl, by go_num, by omega, Lib.hid (.inr ⟨_, rfl, heap_alloc_new _ _⟩), Lib.hid (b_alloc (HB.out.trans (hb4.out.mono HB.out.size)) (Nat.le_refl _) _)⟩
      case measure => simp [intOf]; omega
    · have l0 : decide ((k : Int) < 2) = false := decide_eq_false (by omega)
      go_wp2_with (first | (go_at_call 6; refine (knows12_any _).mono ?_; rintro e w4 ⟨rfl, hb4'⟩; have hb4 := Lib.hid hb4'; clear hb4') | fail "no arm")
      go_ret
      exact ⟨rfl, (HBV.out.trans (HB.out.mono HBV.out.size)).trans (hb4.out.mono (Nat.le_trans HBV.out.size HB.out.size))⟩
end Go.Proofs.Ytnajljoggcbhoaa
