/- The sure answers with which each statement of the layer of numbers begins. -/
import Derived.Test.YtmbgjbbaddikcaaNumD
import Derived.WalkSmall
namespace Go.Proofs.Ytmbgjbbaddikcaa
open Go.ChangeShapes Go.WideShapes Go.ChangeAt Go.RowKit
set_option linter.unusedVariables false

theorem lcm_sure : lcmV 100 [4, 6, 10] = 60 ∧ lcmOk 100 [4, 6, 10] = true := by decide +kernel
theorem flo_sure : flo (-7) 2 = -4 := by decide +kernel
theorem rest_sure : rest (-7) 2 = 1 := by decide +kernel
theorem cei_sure : cei (-7) 2 = -3 := by decide +kernel
theorem gcd_sure : gcdI 12 18 = 6 := by decide +kernel
theorem knows_any (w : World) :
    Calls Try.prog 10 #[] w fun e w' => e = .returned (.bool true) ∧ Below w.heap.size w w' := by
  have h1 := lcm_sure.1; have h2 := lcm_sure.2; have h3 := flo_sure; have h4 := rest_sure; have h5 := cei_sure; have h6 := gcd_sure
  go_enter Try.func10, Try.ntmps10
  go_wp2_with fail
  have hc : ∀ k, k < 3 → (w.alloc (Obj.cells #[Value.int IntKind.i64 4, Value.int IntKind.i64 6, Value.int IntKind.i64 10] 3)).cell? ⟨w.heap.size, 0 + k, none⟩ = some (.int .i64 (([4, 6, 10] : List Int).getD k 0)) := by
    intro k hk
    have : k = 0 ∨ k = 1 ∨ k = 2 := by omega
    rcases this with rfl | rfl | rfl <;> go_simp
  have hw : ∀ k, k < 3 → ([4, 6, 10] : List Int).getD k 0 ≤ 9223372036854775807 := by
    intro k hk
    have : k = 0 ∨ k = 1 ∨ k = 2 := by omega
    rcases this with rfl | rfl | rfl <;> decide
  refine (numLcm_row 100 w.heap.size 0 3 3 [4, 6, 10] _ rfl (by decide) hc hw).mono ?_
  clear hc hw
  rintro e w' ⟨rfl, n, rfl⟩
  rw [h1, h2]
  clear h1 h2
  go_wp2_with (first
    | (go_at_call 11; refine (numFloor_any _ _ _ (by decide) (by decide)).mono ?_; rintro e w' ⟨rfl, rfl⟩; rw [h3])
    | (go_at_call 15; refine (numMod_any _ _ _ (by decide) (by decide) (by decide)).mono ?_; rintro e w' ⟨rfl, rfl⟩; rw [h4])
    | (go_at_call 13; refine (numCeil_any _ _ _ (by decide) (by decide)).mono ?_; rintro e w' ⟨rfl, rfl⟩; rw [h5])
    | (go_at_call 17; refine (numGcd_any _ _ _ (by decide) (by decide)).mono ?_; rintro e w' ⟨rfl, n2, rfl⟩; rw [h6]))
  go_ret
  exact ⟨rfl, below_drewN ((Below.refl _ _).alloc (Nat.le_refl _) _) _⟩

end Go.Proofs.Ytmbgjbbaddikcaa
