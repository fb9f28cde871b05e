/- Contracts of what divides two numbers, in package num and in the document's own answers. -/
import Derived.Test.YtchbehnkkcjdgaaGreatNum
import Derived.Test.YtchbehnkkcjdgaaGreatPlains
import Derived.Deep.QuietTactic
import Derived.BigQuiet
import Derived.Deep.Draws
namespace Go.Proofs.YtchbehnkkcjdgaaGreat
open Go.ChangeShapes Go.WideShapes Go.ChangeAt Go.RowKit
set_option linter.unusedVariables false
theorem numGcd_low (a b : Int) (w : World) (h : a < 0 ∨ b < 0) :
 Calls Tryz.prog 177 #[.int .i64 a, .int .i64 b] w fun e w' => e = .returned (.int .i64 (gcdI a b)) ∧ ∃ n, w' = w.drewN n := by
 have H := Lib.hid (gcdI_neg h)
 by_cases k : a < 0
 ·clear h
  go_enter Tryz.func177, Tryz.ntmps177
  go_wp2
  go_ret
  exact ⟨ret_int H.out.symm, 0, rfl⟩
 ·have k1 : decide (a < 0) = false := by simp; omega
  have k2 : b < 0 := by omega
  clear h k
  go_enter Tryz.func177, Tryz.ntmps177
  go_wp2
  go_ret
  exact ⟨ret_int H.out.symm, 0, rfl⟩
theorem numGcd_any (a b : Int) (w : World) (ha2 : a ≤ 9223372036854775807) (hb2 : b ≤ 9223372036854775807) :
 Calls Tryz.prog 177 #[.int .i64 a, .int .i64 b] w fun e w' => e = .returned (.int .i64 (gcdI a b)) ∧ ∃ n, w' = w.drewN n := by
 by_cases hl : a < 0 ∨ b < 0
 ·exact numGcd_low a b w hl
 have ha : 0 ≤ a := by omega
 have hb : 0 ≤ b := by omega
 have k1 : decide (a < 0) = false := by simp; omega
 have k2 : decide (b < 0) = false := by simp; omega
 clear hl
 go_enter Tryz.func177, Tryz.ntmps177
 go_wp2
 go_loopw [0, 1] (fun u v wr => ∃ x y : Int, OnWay a b x y ∧ u = .int .i64 x ∧ v = .int .i64 y ∧ ∃ n, wr = w.drewN n) (fun _ v _ => (intOf v).toNat)
 case atStart => exact ⟨a, b, ⟨rfl, ha, hb, ha2, hb2⟩, rfl, rfl, 0, rfl⟩
 case round =>
  obtain ⟨x, y, hw, rfl, rfl, n, rfl⟩ := hrel
  have x0 := hw.2.1
  have y0 := hw.2.2.1
  by_cases hy : y = 0
  ·subst hy
   have H := Lib.hid (onWay_end hw ha hb)
   clear hw
   go_wp2
   go_ret
   exact ⟨ret_int H.out, n, rfl⟩
  ·have y1 : 1 ≤ y := by omega
   have hn := onWay_next hw y1
   have m1 := mod_lt' (a := x) y1
   have m0 := mod_pos' (a := x) y1
   have b1 : (y == 0) = false := by simpa using hy
   have b2 : (y != 0) = true := by simpa using hy
   have HN := Lib.hid hn
   clear hn hy hw
   go_wp2
   go_quiet (fail)
   go_wp2
   go_roundw
   case rel => exact ⟨y, x % y, HN.out, rfl, rfl, _, by first | rfl | exact World.drewN_drewN _ _ _⟩
   case measure => simp [intOf]; omega
end Go.Proofs.YtchbehnkkcjdgaaGreat
