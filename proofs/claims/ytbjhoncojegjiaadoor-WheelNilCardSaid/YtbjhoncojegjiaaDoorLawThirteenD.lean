/- WheelNil. -/
import Derived.Test.YtbjhoncojegjiaaDoorWheelY
import Derived.Test.YtbjhoncojegjiaaDoorRead
namespace Go.Proofs.YtbjhoncojegjiaaDoor
open Go.ChangeShapes Go.WideShapes Go.ChangeAt Go.RowKit
set_option linter.unusedVariables false

/-- A wheel that nobody made, in this world and in all later ones. -/
def NoW (p : Option Addr) (w : World) : Prop := ∀ Y, Below w.heap.size w Y → MadeIs p false Y
theorem NoW.later {p : Option Addr} {w w' : World} (h : NoW p w) (hb : Below w.heap.size w w') : NoW p w' := fun Y hY => h Y (hb.trans (hY.mono hb.size))
theorem noW_nil (w : World) : NoW none w := fun Y _ => isMade_nil Y
theorem noW_zero {w : World} {H : Nat} (h : w.heap[H]? = some (.cells (whArr false 0) 52 (0, 0))) : NoW (some ⟨H, 0, none⟩) w := fun Y hY =>
  isMade_any Y H false (whArr_cells ((hY.block H (lt_of_block h)).trans h)).made
set_option maxRecDepth 100000 in
set_option maxHeartbeats 4000000 in
theorem WheelNil_walk (a b c : Int) (w : World) (hT : TbOk w) : Calls Tryd.prog 6 #[.agg #[.int .i64 a, .int .i64 b, .int .i64 c]] w fun e w' => e = .returned (.bool true) ∧ Below w.heap.size w w' := by
  obtain ⟨V, hV⟩ : ∃ V, V = w.alloc (.cells #[.int .i64 a, .int .i64 b, .int .i64 c] 29) := ⟨_, rfl⟩
  obtain ⟨E, hE⟩ : ∃ E, E = w.heap.size := ⟨_, rfl⟩
  have hbV : Below w.heap.size w V := by rw [hV]; exact below1 _ _
  have hEV : V.heap[E]? = some (.cells #[.int .i64 a, .int .i64 b, .int .i64 c] 29 (0, 0)) := by rw [hV, hE]; exact heap_alloc_new _ _
  have KS : Hid (∀ Y, Below V.heap.size V Y → Y.cell? ⟨E, 1, none⟩ = some (.int .i64 b) ∧ Y.cell? ⟨E, 2, none⟩ = some (.int .i64 c)) := Lib.hid (fun Y hY => ⟨cell_in ((hY.block _ (lt_of_block hEV)).trans hEV) rfl, cell_in ((hY.block _ (lt_of_block hEV)).trans hEV) rfl⟩)
  have HK : Hid (∀ Y, Below V.heap.size V Y → Calls Tryd.prog 7 #[] Y fun e w' => e = .returned (.bool true) ∧ Below Y.heap.size Y w') := Lib.hid (fun Y hY => knows13_of wheelOk Y ((hT.later hbV).later hY))
  have HB := Lib.hid hbV
  have HV := Lib.hid hV
  have HE := Lib.hid hE
  have hbz := built_zero
  have HZ := Lib.hid hbz
  clear hT hbV hEV hV hE hbz
  go_enter Tryd.func6, Tryd.ntmps6
  go_upto_region 1 with fail
  rw [← HV.out, ← HE.out]
  go_wp2_with fail
  go_loopw [3, 4] (fun s3 s4 wr => ∃ (k : Nat) (p : Option Addr), k ≤ 2 ∧ s3 = .pointer p ∧ s4 = .int .i64 k ∧ Hid (NoW p wr) ∧ Hid (Below V.heap.size V wr)) (fun _ s _ => 2 - (intOf s).toNat)
  case atStart => exact ⟨0, none, Nat.zero_le _, rfl, rfl, Lib.hid (noW_nil _), Lib.hid (Below.refl _ _)⟩
  case round =>
    obtain ⟨k, p, hk, rfl, rfl, HN, HW⟩ := hrel
    by_cases hlt : k < 2
    · have l0 : decide ((k : Int) < 2) = true := decide_eq_true (by omega)
      obtain ⟨c1, c2⟩ := KS.out wr HW.out
      have HWH := Lib.hid (whenW_no wr p (HN.out _ (Below.refl _ _)) b)
      have HSE := Lib.hid (setW_no wr p (HN.out _ (Below.refl _ _)) b c)
      have HCA := Lib.hid (cancelW_no wr p (HN.out _ (Below.refl _ _)) b)
      have HGO := Lib.hid (goW_no wr p HN.out)
      go_wp2_with (first
        | (refine wpList_build2 (by rfl) 52 _ (by rfl) [] (by simp) (whArr false 0) HZ.out ?_)
        | (go_at_call 21; have _z := hn5; refine (lenW_no w5 p (hn5.out _ (Below.refl _ _))).mono ?_; rintro e w7 ⟨rfl, hw7⟩; rw [hw7]; clear hw7)
        | (go_at_call 20; have _z := hn5; refine (nowW_no w5 p (hn5.out _ (Below.refl _ _))).mono ?_; rintro e w6 ⟨rfl, hw6⟩; rw [hw6]; clear hw6)
        | (go_at_call 16; refine HGO.out.mono ?_; rintro e w5 ⟨rfl, hb5'⟩; have hn5 := Lib.hid (HN.out.later hb5'); have hb5 := Lib.hid (HW.out.trans (hb5'.mono HW.out.size)); clear hb5')
        | (go_at_call 13; refine HCA.out.mono ?_; rintro e w4 ⟨rfl, hw4⟩; rw [hw4]; clear hw4)
        | (go_at_call 11; refine HSE.out.mono ?_; rintro e w4 ⟨rfl, hw4⟩; rw [hw4]; clear hw4)
        | (go_at_call 18; refine HWH.out.mono ?_; rintro e w4 ⟨rfl, hw4⟩; rw [hw4]; clear hw4)
        | (go_at_call 10; refine (num13_any _ _).mono ?_; rintro e w7 ⟨rfl, hw7⟩; rw [hw7]; clear hw7)
        | fail "no arm")
      go_roundw
      case rel => exact ⟨k + 1, _, by omega, rfl, by go_num, Lib.hid (noW_zero (heap_alloc_new _ _)), Lib.hid (hb5.out.alloc hb5.out.size _)⟩
      case measure => simp [intOf]; omega
    · have l0 : decide ((k : Int) < 2) = false := decide_eq_false (by omega)
      have HKK := Lib.hid (HK.out wr HW.out)
      go_wp2_with (go_at_call 7; refine HKK.out.mono ?_; rintro e w3 ⟨rfl, hb3⟩)
      go_ret
      exact ⟨rfl, HB.out.trans ((HW.out.trans (hb3.mono HW.out.size)).mono HB.out.size)⟩
end Go.Proofs.YtbjhoncojegjiaaDoor
