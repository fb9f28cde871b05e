/- The walk of the statement that nobody's supply is 0. -/
import Derived.Test.YtefngnbkbcdkbaaLawEightA
namespace Go.Proofs.Ytefngnbkbcdkbaa
open Go.ChangeShapes Go.WideShapes Go.ChangeAt Go.RowKit
set_option linter.unusedVariables false

set_option maxRecDepth 100000 in
set_option maxHeartbeats 2000000 in
theorem SupplyNil_walk (p n : Int) (w : World) (hp : I64 p) (hn : I64 n) :
    Calls Try.prog 6 #[.int .i64 p, .int .i64 n] w fun e w' => e = .returned (.bool true) ∧ Below w.heap.size w w' := by
  have C1 := Lib.hid (fun (W : World) => sOf_none (w := W) (v := .pointer none) (.inl rfl) p)
  have C2 := Lib.hid (fun (W : World) (g : Nat) (hg : W.heap[g]? = some (.cells #[.int .i64 0, .slice none 0 0, .int .i64 0] 46 (0, 0))) => sOf_none (w := W) (v := .pointer (some ⟨g, 0, none⟩)) (.inr ⟨g, rfl, hg⟩) p)
  go_enter Try.func6, Try.ntmps6
  go_wp2_with fail
  go_loopw [5, 6] (fun s i wr => ∃ k : Nat, k ≤ 2 ∧ i = .int .i64 k ∧ Hid (NoSup wr s) ∧ Below w.heap.size w wr) (fun _ i _ => 2 - (intOf i).toNat)
  case atStart => exact ⟨0, by omega, rfl, Lib.hid (.inl rfl), Below.refl _ _⟩
  case round =>
    obtain ⟨k, hk, rfl, HS, hb⟩ := hrel
    rename_i s5 _
    by_cases hlt : k < 2
    · have tk : decide ((k : Int) < 2) = true := by rw [decide_eq_true_eq]; omega
      have tk2 : decide (k < 2) = true := by rw [decide_eq_true_eq]; omega
      go_wp2_with (first
        | (go_at_call 15; refine (sWait_no HS.out _).mono ?_; rintro e w' ⟨rfl, rfl⟩)
        | (go_at_call 16; refine (sRate_no HS.out).mono ?_; rintro e w' ⟨rfl, rfl⟩)
        | (go_at_call 11; refine (sLeast_no HS.out _).mono ?_; rintro e w' ⟨rfl, rfl⟩)
        | (go_at_call 13; refine (sWorst_no HS.out _).mono ?_; rintro e w' ⟨rfl, rfl⟩))
      go_roundw
      case rel => exact ⟨k + 1, by omega, by go_num, Lib.hid (.inr ⟨_, rfl, heap_alloc_new _ _⟩), b_alloc hb (Nat.le_refl _) _⟩
      case measure => simp [intOf]; omega
    · have tk : decide ((k : Int) < 2) = false := by rw [decide_eq_false_iff_not]; omega
      have tk2 : decide (k < 2) = false := by rw [decide_eq_false_iff_not]; omega
      go_wp2_with (first
        | (go_at_call 10; have _z := h1st; refine (C2.out _ _ (heap_alloc_new _ _)).mono ?_; rintro e w' ⟨rfl, rfl⟩)
        | (go_at_call 10; refine (C1.out _).mono ?_; rintro e w' ⟨rfl, rfl⟩; have h1st : True := trivial)
        | (go_at_call 8; refine (knows8_any _).mono ?_; rintro e w2 ⟨rfl, hb2⟩))
      go_ret
      exact ⟨rfl, bel_then (b_alloc hb (Nat.le_refl _) _) (Nat.le_refl _) hb2⟩
end Go.Proofs.Ytefngnbkbcdkbaa
