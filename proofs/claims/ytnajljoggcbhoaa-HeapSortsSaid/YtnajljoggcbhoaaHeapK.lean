/- What a heap must know; no heap, and one that nobody made. -/
import Derived.Test.YtnajljoggcbhoaaHeapA
namespace Go.Proofs.Ytnajljoggcbhoaa
open Go.ChangeShapes Go.WideShapes Go.ChangeAt Go.RowKit
set_option linter.unusedVariables false

set_option maxRecDepth 100000 in
theorem num_any (x : Int) (w : World) : Calls Try.prog 9 #[.int .i64 x] w fun e w' => e = .returned (.int .i64 x) ∧ w' = w := by
  go_enter Try.func9, Try.ntmps9
  go_wp2
  go_ret
  exact ⟨rfl, rfl⟩
theorem rep_two : Rep [(1, 4), (3, 9)] (upd (upd (fun _ => none) 3 (some 9)) 1 (some 4)) := by
  refine ⟨by simp [ltH], fun id d => ?_⟩
  by_cases h1 : id = 1
  · subst h1; rw [upd_at]; simp; exact eq_comm
  · rw [upd_ne _ _ h1]
    by_cases h3 : id = 3
    · subst h3; rw [upd_at]; simp; exact eq_comm
    · rw [upd_ne _ _ h3]; simp [h1, h3]
set_option maxRecDepth 100000 in
set_option maxHeartbeats 2000000 in
theorem knows12_any (w : World) : Calls Try.prog 6 #[] w fun e w' => e = .returned (.bool true) ∧ Below w.heap.size w w' := by
  have HN := Lib.hid (hnew_any 5 w)
  rw [show (min (max (5 : Int) 0) 1024).toNat = 5 from rfl] at HN
  go_enter Try.func6, Try.ntmps6
  go_wp2_with (first
    | (go_at_call 22; have _z := h6; refine HLEN.out.mono ?_; rintro e w7 ⟨rfl, hw7⟩; rw [hw7]; clear hw7)
    | (go_at_call 9; refine (num_any _ _).mono ?_; rintro e w7 ⟨rfl, hw7⟩; rw [hw7]; clear hw7)
    | (go_at_call 16; refine (hpop_any _ _ _ _ _ _ _ _ _ _ _ h5.out rep_two).mono ?_; rintro e w6 ⟨m, rfl, hm, h6', m6'⟩; obtain rfl : m = 1 := by omega
       obtain ⟨f6, x6, ha6, hb6⟩ := h6'; have HLEN := Lib.hid (hlen_any _ _ _ _ _ _ _ _ _ _ ha6); have h6 := Lib.hid m6'; clear ha6 hb6 m6')
    | (go_at_call 10; have _z := h4; refine (hput_in _ _ _ _ _ _ _ _ _ h4.out 1 4 (by omega) rfl).mono ?_; rintro e w5 ⟨rfl, h5', m5'⟩; have h5 := Lib.hid h5'; have m5 := Lib.hid m5'; clear h5' m5')
    | (go_at_call 10; refine (hput_in _ _ _ _ _ _ _ _ _ h3.out 3 9 (by omega) rfl).mono ?_; rintro e w4 ⟨rfl, h4', m4'⟩; have h4 := Lib.hid h4'; have m4 := Lib.hid m4'; clear h4' m4')
    | (go_at_call 7; refine HN.out.mono ?_; rintro e w3 ⟨hi, H, W, X, rfl, h3', b3'⟩; have h3 := Lib.hid h3'; have b3 := Lib.hid b3'; clear h3' b3')
    | fail "no arm")
  go_ret
  exact ⟨rfl, ((b3.out.trans m4.out.below).trans m5.out.below).trans h6.out.below⟩
end Go.Proofs.Ytnajljoggcbhoaa
