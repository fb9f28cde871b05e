/- Contracts of the divisions of package num and of the document's own answers. -/
import Derived.Test.YtiojmekoemlmkaaNumA
namespace Go.Proofs.Ytiojmekoemlmkaa
open Go.ChangeShapes Go.WideShapes Go.ChangeAt Go.RowKit
set_option linter.unusedVariables false



theorem numMod_low (a b : Int) (w : World) (hb : b < 1) :
    Calls Try.prog 58 #[.int .i64 a, .int .i64 b] w fun e w' => e = .returned (.int .i64 (rest a b)) ∧ w = w' := by
  have H : Hid (rest a b = 0) := Lib.hid (by simp [rest, hb])
  go_enter Try.func58, Try.ntmps58
  go_wp2
  go_ret
  exact ⟨ret_int H.out.symm, rfl⟩
theorem numMod_any (a b : Int) (w : World) (ha : -9223372036854775808 ≤ a) (ha2 : a ≤ 9223372036854775807) (hb2 : b ≤ 9223372036854775807) :
    Calls Try.prog 58 #[.int .i64 a, .int .i64 b] w fun e w' => e = .returned (.int .i64 (rest a b)) ∧ w = w' := by
  by_cases hb0 : b < 1
  · exact numMod_low a b w hb0
  have hb : 1 ≤ b := by omega
  clear hb0
  by_cases h : 0 ≤ a
  · have t0 : 0 ≤ a % b := mod_pos' hb
    have H := Lib.hid (rest_pos (a := a) hb)
    have t : decide (a % b < 0) = false := by simp; omega
    go_enter Try.func58, Try.ntmps58
    go_wp2
    go_ret
    exact ⟨ret_int H.out.symm, rfl⟩
  · have h' : a < 0 := by omega
    by_cases t : a.tmod b < 0
    · obtain ⟨k1, k2⟩ := rest_n1 h' hb hb2 t
      have H := Lib.hid k1; have H2 := Lib.hid k2; clear k1 k2
      go_enter Try.func58, Try.ntmps58
      go_wp2
      go_ret
      exact ⟨ret_int (by first | exact H.out | exact H2.out), rfl⟩
    · have H := Lib.hid (rest_n2 h' hb (by omega))
      go_enter Try.func58, Try.ntmps58
      go_wp2
      go_ret
      exact ⟨ret_int H.out, rfl⟩
theorem refMod_low (a b : Int) (w : World) (hb : b < 1) :
    Calls Try.prog 37 #[.int .i64 a, .int .i64 b] w fun e w' => e = .returned (.int .i64 (rest a b)) ∧ w = w' := by
  have H : Hid (rest a b = 0) := Lib.hid (by simp [rest, hb])
  go_enter Try.func37, Try.ntmps37
  go_wp2
  go_ret
  exact ⟨ret_int H.out.symm, rfl⟩
theorem refMod_any (a b : Int) (w : World) (ha : -9223372036854775808 ≤ a) (ha2 : a ≤ 9223372036854775807) (hb2 : b ≤ 9223372036854775807) :
    Calls Try.prog 37 #[.int .i64 a, .int .i64 b] w fun e w' => e = .returned (.int .i64 (rest a b)) ∧ w = w' := by
  by_cases hb0 : b < 1
  · exact refMod_low a b w hb0
  have hb : 1 ≤ b := by omega
  clear hb0
  by_cases h : 0 ≤ a
  · have t0 : 0 ≤ a % b := mod_pos' hb
    have H := Lib.hid (rest_pos (a := a) hb)
    have t : decide (a % b < 0) = false := by simp; omega
    go_enter Try.func37, Try.ntmps37
    go_wp2
    go_ret
    exact ⟨ret_int H.out.symm, rfl⟩
  · have h' : a < 0 := by omega
    by_cases t : a.tmod b < 0
    · obtain ⟨k1, k2⟩ := rest_n1 h' hb hb2 t
      have H := Lib.hid k1; have H2 := Lib.hid k2; clear k1 k2
      go_enter Try.func37, Try.ntmps37
      go_wp2
      go_ret
      exact ⟨ret_int (by first | exact H.out | exact H2.out), rfl⟩
    · have H := Lib.hid (rest_n2 h' hb (by omega))
      go_enter Try.func37, Try.ntmps37
      go_wp2
      go_ret
      exact ⟨ret_int H.out, rfl⟩

end Go.Proofs.Ytiojmekoemlmkaa
