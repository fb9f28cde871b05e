/- Joined of NumA, NumB: Contracts of the number functions of package num and of the document's own answers: sums, products, divisions. -/
import Derived.Test.YtmkohnpdpcefgaaRows
import Derived.WalkKit
import Derived.ProofKit
import Derived.OpenShut
import Derived.Lib.Hide
import Derived.Test.YtmkohnpdpcefgaaPlain
namespace Go.Proofs.Ytmkohnpdpcefgaa
open Go.ChangeShapes Go.WideShapes Go.ChangeAt Go.RowKit

theorem ret_bool {x y : Bool} (h : x = y) : Ending.returned (.bool x) = .returned (.bool y) := by rw [h]


theorem ret_tup {a b : Int} {x y : Bool} (h : a = b) (k : x = y) : Ending.returned (.tuple #[.int .i64 a, .bool x]) = .returned (.tuple #[.int .i64 b, .bool y]) := by rw [h, k]
theorem ret_int {k : IntKind} {a b : Int} (h : a = b) : Ending.returned (.int k a) = .returned (.int k b) := by rw [h]




end Go.Proofs.Ytmkohnpdpcefgaa
namespace Go.Proofs.Ytmkohnpdpcefgaa
open Go.ChangeShapes Go.WideShapes Go.ChangeAt Go.RowKit
set_option linter.unusedVariables false



theorem numMod_low (a b : Int) (w : World) (hb : b < 1) :
    Calls Try.prog 54 #[.int .i64 a, .int .i64 b] w fun e w' => e = .returned (.int .i64 (rest a b)) ∧ w = w' := by
  have H : Hid (rest a b = 0) := Lib.hid (by simp [rest, hb])
  go_enter Try.func54, Try.ntmps54
  go_wp2
  go_ret
  exact ⟨ret_int H.out.symm, rfl⟩
theorem numMod_any (a b : Int) (w : World) (ha : -9223372036854775808 ≤ a) (ha2 : a ≤ 9223372036854775807) (hb2 : b ≤ 9223372036854775807) :
    Calls Try.prog 54 #[.int .i64 a, .int .i64 b] w fun e w' => e = .returned (.int .i64 (rest a b)) ∧ w = w' := by
  by_cases hb0 : b < 1
  · exact numMod_low a b w hb0
  have hb : 1 ≤ b := by omega
  clear hb0
  by_cases h : 0 ≤ a
  · have t0 : 0 ≤ a % b := mod_pos' hb
    have H := Lib.hid (rest_pos (a := a) hb)
    have t : decide (a % b < 0) = false := by simp; omega
    go_enter Try.func54, Try.ntmps54
    go_wp2
    go_ret
    exact ⟨ret_int H.out.symm, rfl⟩
  · have h' : a < 0 := by omega
    by_cases t : a.tmod b < 0
    · obtain ⟨k1, k2⟩ := rest_n1 h' hb hb2 t
      have H := Lib.hid k1; have H2 := Lib.hid k2; clear k1 k2
      go_enter Try.func54, Try.ntmps54
      go_wp2
      go_ret
      exact ⟨ret_int (by first | exact H.out | exact H2.out), rfl⟩
    · have H := Lib.hid (rest_n2 h' hb (by omega))
      go_enter Try.func54, Try.ntmps54
      go_wp2
      go_ret
      exact ⟨ret_int H.out, rfl⟩
theorem refMod_low (a b : Int) (w : World) (hb : b < 1) :
    Calls Try.prog 43 #[.int .i64 a, .int .i64 b] w fun e w' => e = .returned (.int .i64 (rest a b)) ∧ w = w' := by
  have H : Hid (rest a b = 0) := Lib.hid (by simp [rest, hb])
  go_enter Try.func43, Try.ntmps43
  go_wp2
  go_ret
  exact ⟨ret_int H.out.symm, rfl⟩
theorem refMod_any (a b : Int) (w : World) (ha : -9223372036854775808 ≤ a) (ha2 : a ≤ 9223372036854775807) (hb2 : b ≤ 9223372036854775807) :
    Calls Try.prog 43 #[.int .i64 a, .int .i64 b] w fun e w' => e = .returned (.int .i64 (rest a b)) ∧ w = w' := by
  by_cases hb0 : b < 1
  · exact refMod_low a b w hb0
  have hb : 1 ≤ b := by omega
  clear hb0
  by_cases h : 0 ≤ a
  · have t0 : 0 ≤ a % b := mod_pos' hb
    have H := Lib.hid (rest_pos (a := a) hb)
    have t : decide (a % b < 0) = false := by simp; omega
    go_enter Try.func43, Try.ntmps43
    go_wp2
    go_ret
    exact ⟨ret_int H.out.symm, rfl⟩
  · have h' : a < 0 := by omega
    by_cases t : a.tmod b < 0
    · obtain ⟨k1, k2⟩ := rest_n1 h' hb hb2 t
      have H := Lib.hid k1; have H2 := Lib.hid k2; clear k1 k2
      go_enter Try.func43, Try.ntmps43
      go_wp2
      go_ret
      exact ⟨ret_int (by first | exact H.out | exact H2.out), rfl⟩
    · have H := Lib.hid (rest_n2 h' hb (by omega))
      go_enter Try.func43, Try.ntmps43
      go_wp2
      go_ret
      exact ⟨ret_int H.out, rfl⟩

end Go.Proofs.Ytmkohnpdpcefgaa
