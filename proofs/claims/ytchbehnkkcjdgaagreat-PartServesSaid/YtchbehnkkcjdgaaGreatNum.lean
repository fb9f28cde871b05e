/- Joined of NumA, NumB: Contracts of the number functions of package num and of the document's own answers: sums, products, divisions. -/
import Derived.Test.YtchbehnkkcjdgaaGreatRows
import Derived.WalkKit
import Derived.ProofKit
import Derived.OpenShut
import Derived.Lib.Hide
import Derived.Test.YtchbehnkkcjdgaaGreatPlains
namespace Go.Proofs.YtchbehnkkcjdgaaGreat
open Go.ChangeShapes Go.WideShapes Go.ChangeAt Go.RowKit
theorem ret_bool {x y : Bool} (h : x = y) : Ending.returned (.bool x) = .returned (.bool y) := by rw [h]
theorem numFits_any (a : Int) (w : World) :
 Calls Tryz.prog 193 #[.int .i64 a] w fun e w' => e = .returned (.bool (fitB a)) ∧ w = w' := by
 by_cases h : fitB a = true
 ·obtain ⟨h0, h1⟩ := fitB_t h
  have H := Lib.hid h; clear h
  go_enter Tryz.func193, Tryz.ntmps193
  go_wp2
  go_ret
  exact ⟨ret_bool H.out.symm, rfl⟩
 ·have h' := fitB_f h
  have e : fitB a = false := by simpa using h
  have H := Lib.hid e; clear h e
  rcases h' with h | h
  ·go_enter Tryz.func193, Tryz.ntmps193
   go_wp2
   go_ret
   exact ⟨ret_bool H.out.symm, rfl⟩
  ·have h1 : decide (a ≤ 4611686018427387904) = false := by simp; omega
   have h0 : 0 ≤ a := by omega
   go_enter Tryz.func193, Tryz.ntmps193
   go_wp2
   go_ret
   exact ⟨ret_bool H.out.symm, rfl⟩
theorem ret_tup {a b : Int} {x y : Bool} (h : a = b) (k : x = y) : Ending.returned (.tuple #[.int .i64 a, .bool x]) = .returned (.tuple #[.int .i64 b, .bool y]) := by rw [h, k]
theorem ret_int {k : IntKind} {a b : Int} (h : a = b) : Ending.returned (.int k a) = .returned (.int k b) := by rw [h]
theorem numMul_any (a b : Int) (w : World) :
 Calls Tryz.prog 176 #[.int .i64 a, .int .i64 b] w fun e w' => e = .returned (.tuple #[.int .i64 (mulTold a b), .bool (mulFits a b)]) ∧ w = w' := by
 by_cases h : fitB a = true
 ·by_cases k : fitB b = true
  ·have hb := fitB_t h; have kb := fitB_t k
   obtain ⟨h0, h1⟩ := hb; obtain ⟨k0, k1⟩ := kb
   by_cases z : a = 0
   ·subst z
    have H := Lib.hid (mulFits_t (a := 0) (b := b) h k (by omega))
    have H2 := Lib.hid (mulTold_t H.out)
    have H3 : Hid ((0 : Int) * b = 0) := Lib.hid (Int.zero_mul b)
    go_enter Tryz.func176, Tryz.ntmps176
    go_wp2_with (first | (go_at_call 193; refine (numFits_any _ _).mono ?_; rintro e w' ⟨rfl, rfl⟩))
    go_ret2
    exact ⟨ret_tup (by rw [H2.out]; first | rfl | exact H3.out.symm) H.out.symm, rfl⟩
   ·have z1 : (a == 0) = false := by simpa using z
    have z2 : (a != 0) = true := by simpa using z
    have hp : 0 < a := by omega
    have hq : 4611686018427387904 / a < b ↔ 4611686018427387904 < a * b := div_gt hp
    by_cases s : a * b ≤ 4611686018427387904
    ·have H := Lib.hid (mulFits_t h k s)
     have H2 := Lib.hid (mulTold_t H.out)
     have t : decide (4611686018427387904 / a < b) = false := by simp; omega
     have n0 : 0 ≤ a * b := Int.mul_nonneg h0 k0
     clear hq z
     go_enter Tryz.func176, Tryz.ntmps176
     go_wp2_with (first | (go_at_call 193; refine (numFits_any _ _).mono ?_; rintro e w' ⟨rfl, rfl⟩))
     go_ret2
     exact ⟨ret_tup H2.out.symm H.out.symm, rfl⟩
    ·have H := Lib.hid (mulFits_f (a := a) (b := b) (.inr (.inr (by omega))))
     have H2 := Lib.hid (mulTold_f H.out)
     have t : decide (4611686018427387904 / a < b) = true := by simp; omega
     clear hq z
     go_enter Tryz.func176, Tryz.ntmps176
     go_wp2_with (first | (go_at_call 193; refine (numFits_any _ _).mono ?_; rintro e w' ⟨rfl, rfl⟩))
     go_ret2
     exact ⟨ret_tup H2.out.symm H.out.symm, rfl⟩
  ·have k' : fitB b = false := by simpa using k
   have H := Lib.hid (mulFits_f (a := a) (b := b) (.inr (.inl k')))
   have H2 := Lib.hid (mulTold_f H.out)
   clear k
   go_enter Tryz.func176, Tryz.ntmps176
   go_wp2_with (first | (go_at_call 193; refine (numFits_any _ _).mono ?_; rintro e w' ⟨rfl, rfl⟩))
   go_ret2
   exact ⟨ret_tup H2.out.symm H.out.symm, rfl⟩
 ·have h' : fitB a = false := by simpa using h
  have H := Lib.hid (mulFits_f (a := a) (b := b) (.inl h'))
  have H2 := Lib.hid (mulTold_f H.out)
  clear h
  go_enter Tryz.func176, Tryz.ntmps176
  go_wp2_with (first | (go_at_call 193; refine (numFits_any _ _).mono ?_; rintro e w' ⟨rfl, rfl⟩))
  go_ret2
  exact ⟨ret_tup H2.out.symm H.out.symm, rfl⟩
end Go.Proofs.YtchbehnkkcjdgaaGreat
namespace Go.Proofs.YtchbehnkkcjdgaaGreat
open Go.ChangeShapes Go.WideShapes Go.ChangeAt Go.RowKit
set_option linter.unusedVariables false
theorem numMod_low (a b : Int) (w : World) (hb : b < 1) :
 Calls Tryz.prog 267 #[.int .i64 a, .int .i64 b] w fun e w' => e = .returned (.int .i64 (rest a b)) ∧ w = w' := by
 have H : Hid (rest a b = 0) := Lib.hid (by simp [rest, hb])
 go_enter Tryz.func267, Tryz.ntmps267
 go_wp2
 go_ret
 exact ⟨ret_int H.out.symm, rfl⟩
theorem numMod_any (a b : Int) (w : World) (ha : -9223372036854775808 ≤ a) (ha2 : a ≤ 9223372036854775807) (hb2 : b ≤ 9223372036854775807) :
 Calls Tryz.prog 267 #[.int .i64 a, .int .i64 b] w fun e w' => e = .returned (.int .i64 (rest a b)) ∧ w = w' := by
 by_cases hb0 : b < 1
 ·exact numMod_low a b w hb0
 have hb : 1 ≤ b := by omega
 clear hb0
 by_cases h : 0 ≤ a
 ·have t0 : 0 ≤ a % b := mod_pos' hb
  have H := Lib.hid (rest_pos (a := a) hb)
  have t : decide (a % b < 0) = false := by simp; omega
  go_enter Tryz.func267, Tryz.ntmps267
  go_wp2
  go_ret
  exact ⟨ret_int H.out.symm, rfl⟩
 ·have h' : a < 0 := by omega
  by_cases t : a.tmod b < 0
  ·obtain ⟨k1, k2⟩ := rest_n1 h' hb hb2 t
   have H := Lib.hid k1; have H2 := Lib.hid k2; clear k1 k2
   go_enter Tryz.func267, Tryz.ntmps267
   go_wp2
   go_ret
   exact ⟨ret_int (by first | exact H.out | exact H2.out), rfl⟩
  ·have H := Lib.hid (rest_n2 h' hb (by omega))
   go_enter Tryz.func267, Tryz.ntmps267
   go_wp2
   go_ret
   exact ⟨ret_int H.out, rfl⟩
end Go.Proofs.YtchbehnkkcjdgaaGreat
