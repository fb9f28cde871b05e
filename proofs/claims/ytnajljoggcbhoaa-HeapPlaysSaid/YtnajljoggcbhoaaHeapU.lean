/- The document's heap: put. -/
import Derived.Test.YtnajljoggcbhoaaHeapT
import Derived.Deep.CutRange
namespace Go.Proofs.Ytnajljoggcbhoaa
open Go.ChangeShapes Go.WideShapes Go.ChangeAt Go.RowKit
set_option linter.unusedVariables false

theorem own_at {w : World} (Y : World) (Z : Nat) (h : Y.heap[Z]? = some (.cells #[] 63 (0, 0))) (hZ : w.heap.size ≤ Z) : Y.ownsRow w.heap.size 63 2 (.slice (some ⟨Z, 0, none⟩) 0 0) 0 [] :=
  ⟨rfl, .inr ⟨_, 0, #[], rfl, hZ, h, Nat.le_refl _, Nat.zero_le _, rfl, rfl⟩⟩
theorem one_at {lo : Nat} (Y : World) (Z : Nat) (id due : Int) (h : Y.heap[Z]? = some (.cells #[.int .i64 id, .int .i64 due] 63 (0, 0))) (hZ : lo ≤ Z) : Lies Y lo (Z + 1) (.slice (some ⟨Z, 0, none⟩) 1 1) 1 2 [.int .i64 id, .int .i64 due] :=
  (one_lies h rfl).wider hZ (Nat.le_refl _)
set_option maxRecDepth 100000 in
set_option maxHeartbeats 2000000 in
theorem rput_no (w : World) (rb room : Nat) (R : List En) (h : RHp w rb room R) (id due : Int) (hn : InR room id = false) :
    Calls Try.prog 11 #[.pointer (some ⟨rb, 0, none⟩), .int .i64 id, .int .i64 due] w fun e w' => e = .returned (.int .i64 1) ∧ w' = w := by
  have HI := Lib.hid (ris_any w rb room R h id)
  rw [hn] at HI
  clear h
  go_enter Try.func11, Try.ntmps11
  go_wp2_with (go_at_call 29; refine HI.out.mono ?_; rintro e w3 ⟨rfl, hw3⟩; rw [hw3]; clear hw3)
  go_ret
  exact ⟨rfl, rfl⟩
set_option maxRecDepth 100000 in
set_option maxHeartbeats 2000000 in
theorem rput_there (w : World) (rb room : Nat) (R : List En) (D : Nat → Option Int) (h : RHp w rb room R) (hR : Rep R D) (hsm : R.length ≤ 1024) (i : Nat) (due d : Int) (hir : i < room) (hd : D i = some d) :
    Calls Try.prog 11 #[.pointer (some ⟨rb, 0, none⟩), .int .i64 i, .int .i64 due] w fun e w' => e = .returned (.int .i64 4) ∧ w' = w := by
  have HI := Lib.hid (ris_any w rb room R h i)
  have HF := Lib.hid (find_any w rb room R h i hsm)
  rw [show InR room (i : Int) = true by simp only [InR, Bool.and_eq_true, decide_eq_true_eq]; omega] at HI
  clear h
  go_enter Try.func11, Try.ntmps11
  go_wp2_with (first
    | (go_at_call 29; refine HI.out.mono ?_; rintro e w3 ⟨rfl, hw3⟩; rw [hw3]; clear hw3)
    | (go_at_call 30; refine HF.out.mono ?_; rintro e w3 ⟨k', hk, rfl, hw3⟩; rw [hw3]; clear hw3; obtain ⟨k, rfl, hj, hje⟩ := find_yes hR hk hd; have j0 : (0 : Int) ≤ (k : Int) := (by omega); have j2 : decide ((0 : Int) ≤ (k : Int)) = true := decide_eq_true j0; clear hje hk)
    | fail "no arm")
  go_ret
  exact ⟨rfl, rfl⟩
/-- How far the list is ahead of one. -/
def AhTo (R : List En) (e : En) (k : Nat) : Prop := ∀ j (hj : j < R.length), j < k → ltH R[j] e
end Go.Proofs.Ytnajljoggcbhoaa
