/- Joined of NumA, NumB: Contracts of the number functions of package num and of the document's own answers: sums, products, divisions. -/
import Derived.Test.YtikjahdnffklhaaRows
import Derived.WalkKit
import Derived.ProofKit
import Derived.OpenShut
import Derived.Lib.Hide
import Derived.Test.YtikjahdnffklhaaPlain
namespace Go.Proofs.Ytikjahdnffklhaa
open Go.ChangeShapes Go.WideShapes Go.ChangeAt Go.RowKit

theorem ret_bool {x y : Bool} (h : x = y) : Ending.returned (.bool x) = .returned (.bool y) := by rw [h]

theorem numFits_any (a : Int) (w : World) :
    Calls Try.prog 28 #[.int .i64 a] w fun e w' => e = .returned (.bool (fitB a)) ∧ w = w' := by
  by_cases h : fitB a = true
  · obtain ⟨h0, h1⟩ := fitB_t h
    have H := Lib.hid h; clear h
    go_enter Try.func28, Try.ntmps28
    go_wp2
    go_ret
    exact ⟨ret_bool H.out.symm, rfl⟩
  · have h' := fitB_f h
    have e : fitB a = false := by simpa using h
    have H := Lib.hid e; clear h e
    rcases h' with h | h
    · go_enter Try.func28, Try.ntmps28
      go_wp2
      go_ret
      exact ⟨ret_bool H.out.symm, rfl⟩
    · have h1 : decide (a ≤ 4611686018427387904) = false := by simp; omega
      have h0 : 0 ≤ a := by omega
      go_enter Try.func28, Try.ntmps28
      go_wp2
      go_ret
      exact ⟨ret_bool H.out.symm, rfl⟩
theorem refFits_any (a : Int) (w : World) :
    Calls Try.prog 23 #[.int .i64 a] w fun e w' => e = .returned (.bool (fitB a)) ∧ w = w' := by
  by_cases h : fitB a = true
  · obtain ⟨h0, h1⟩ := fitB_t h
    have H := Lib.hid h; clear h
    go_enter Try.func23, Try.ntmps23
    go_wp2
    go_ret
    exact ⟨ret_bool H.out.symm, rfl⟩
  · have h' := fitB_f h
    have e : fitB a = false := by simpa using h
    have H := Lib.hid e; clear h e
    rcases h' with h | h
    · go_enter Try.func23, Try.ntmps23
      go_wp2
      go_ret
      exact ⟨ret_bool H.out.symm, rfl⟩
    · have h1 : decide (a ≤ 4611686018427387904) = false := by simp; omega
      have h0 : 0 ≤ a := by omega
      go_enter Try.func23, Try.ntmps23
      go_wp2
      go_ret
      exact ⟨ret_bool H.out.symm, rfl⟩

theorem ret_tup {a b : Int} {x y : Bool} (h : a = b) (k : x = y) : Ending.returned (.tuple #[.int .i64 a, .bool x]) = .returned (.tuple #[.int .i64 b, .bool y]) := by rw [h, k]
theorem ret_int {k : IntKind} {a b : Int} (h : a = b) : Ending.returned (.int k a) = .returned (.int k b) := by rw [h]

theorem numAdd_any (a b : Int) (w : World) :
    Calls Try.prog 27 #[.int .i64 a, .int .i64 b] w fun e w' => e = .returned (.tuple #[.int .i64 (addTold a b), .bool (addFits a b)]) ∧ w = w' := by
  by_cases h : fitB a = true
  · by_cases k : fitB b = true
    · have hb := fitB_t h; have kb := fitB_t k
      obtain ⟨h0, h1⟩ := hb; obtain ⟨k0, k1⟩ := kb
      by_cases s : a + b ≤ 4611686018427387904
      · have H := Lib.hid (addFits_t h k s)
        have H2 := Lib.hid (addTold_t H.out)
        have t : decide (4611686018427387904 - a < b) = false := by simp; omega
        go_enter Try.func27, Try.ntmps27
        go_wp2_with (first | (go_at_call 28; refine (numFits_any _ _).mono ?_; rintro e w' ⟨rfl, rfl⟩))
        go_ret2
        exact ⟨ret_tup H2.out.symm H.out.symm, rfl⟩
      · have H := Lib.hid (addFits_f (a := a) (b := b) (.inr (.inr (by omega))))
        have H2 := Lib.hid (addTold_f H.out)
        have t : decide (4611686018427387904 - a < b) = true := by simp; omega
        go_enter Try.func27, Try.ntmps27
        go_wp2_with (first | (go_at_call 28; refine (numFits_any _ _).mono ?_; rintro e w' ⟨rfl, rfl⟩))
        go_ret2
        exact ⟨ret_tup H2.out.symm H.out.symm, rfl⟩
    · have k' : fitB b = false := by simpa using k
      have H := Lib.hid (addFits_f (a := a) (b := b) (.inr (.inl k')))
      have H2 := Lib.hid (addTold_f H.out)
      clear k
      go_enter Try.func27, Try.ntmps27
      go_wp2_with (first | (go_at_call 28; refine (numFits_any _ _).mono ?_; rintro e w' ⟨rfl, rfl⟩))
      go_ret2
      exact ⟨ret_tup H2.out.symm H.out.symm, rfl⟩
  · have h' : fitB a = false := by simpa using h
    have H := Lib.hid (addFits_f (a := a) (b := b) (.inl h'))
    have H2 := Lib.hid (addTold_f H.out)
    clear h
    go_enter Try.func27, Try.ntmps27
    go_wp2_with (first | (go_at_call 28; refine (numFits_any _ _).mono ?_; rintro e w' ⟨rfl, rfl⟩))
    go_ret2
    exact ⟨ret_tup H2.out.symm H.out.symm, rfl⟩
theorem refAdd_any (a b : Int) (w : World) :
    Calls Try.prog 18 #[.int .i64 a, .int .i64 b] w fun e w' => e = .returned (.tuple #[.int .i64 (addTold a b), .bool (addFits a b)]) ∧ w = w' := by
  by_cases h : fitB a = true
  · by_cases k : fitB b = true
    · have hb := fitB_t h; have kb := fitB_t k
      obtain ⟨h0, h1⟩ := hb; obtain ⟨k0, k1⟩ := kb
      by_cases s : a + b ≤ 4611686018427387904
      · have H := Lib.hid (addFits_t h k s)
        have H2 := Lib.hid (addTold_t H.out)
        have t : decide (4611686018427387904 - b < a) = false := by simp; omega
        go_enter Try.func18, Try.ntmps18
        go_wp2_with (first | (go_at_call 23; refine (refFits_any _ _).mono ?_; rintro e w' ⟨rfl, rfl⟩))
        go_ret2
        exact ⟨ret_tup H2.out.symm H.out.symm, rfl⟩
      · have H := Lib.hid (addFits_f (a := a) (b := b) (.inr (.inr (by omega))))
        have H2 := Lib.hid (addTold_f H.out)
        have t : decide (4611686018427387904 - b < a) = true := by simp; omega
        go_enter Try.func18, Try.ntmps18
        go_wp2_with (first | (go_at_call 23; refine (refFits_any _ _).mono ?_; rintro e w' ⟨rfl, rfl⟩))
        go_ret2
        exact ⟨ret_tup H2.out.symm H.out.symm, rfl⟩
    · have k' : fitB b = false := by simpa using k
      have H := Lib.hid (addFits_f (a := a) (b := b) (.inr (.inl k')))
      have H2 := Lib.hid (addTold_f H.out)
      clear k
      go_enter Try.func18, Try.ntmps18
      go_wp2_with (first | (go_at_call 23; refine (refFits_any _ _).mono ?_; rintro e w' ⟨rfl, rfl⟩))
      go_ret2
      exact ⟨ret_tup H2.out.symm H.out.symm, rfl⟩
  · have h' : fitB a = false := by simpa using h
    have H := Lib.hid (addFits_f (a := a) (b := b) (.inl h'))
    have H2 := Lib.hid (addTold_f H.out)
    clear h
    go_enter Try.func18, Try.ntmps18
    go_wp2_with (first | (go_at_call 23; refine (refFits_any _ _).mono ?_; rintro e w' ⟨rfl, rfl⟩))
    go_ret2
    exact ⟨ret_tup H2.out.symm H.out.symm, rfl⟩



end Go.Proofs.Ytikjahdnffklhaa
namespace Go.Proofs.Ytikjahdnffklhaa
open Go.ChangeShapes Go.WideShapes Go.ChangeAt Go.RowKit
set_option linter.unusedVariables false




end Go.Proofs.Ytikjahdnffklhaa
