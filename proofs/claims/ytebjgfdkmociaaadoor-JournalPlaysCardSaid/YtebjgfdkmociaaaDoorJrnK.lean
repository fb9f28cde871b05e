/- What must come: a log of one. -/
import Derived.Test.YtebjgfdkmociaaaDoorJrnA
import Derived.Test.YtebjgfdkmociaaaDoorJrnC
import Derived.Test.YtebjgfdkmociaaaDoorJrnW
namespace Go.Proofs.YtebjgfdkmociaaaDoor
open Go.ChangeShapes Go.WideShapes Go.ChangeAt Go.RowKit
set_option linter.unusedVariables false

theorem wordV_3 : wordV 3 = { data := #[114, 97, 110] } := rfl
/-- Two entries in a block of their own. -/
theorem two_lies {V : World} {B : Nat} {p0 p1 p2 p3 q0 q1 q2 q3 : Int} {t : TypeId} (h : V.heap[B]? = some (.cells #[.int .i64 p0, .int .i64 p1, .int .i64 p2, .int .i64 p3, .int .i64 q0, .int .i64 q1, .int .i64 q2, .int .i64 q3] t (0, 0))) : Lies V 0 V.heap.size (.slice (some ⟨B, 0, none⟩) 2 2) 2 4 ([⟨p0, p1, p2, p3⟩, ⟨q0, q1, q2, q3⟩].flatMap Ent.cells) :=
  ⟨_, 2, rfl, rfl, (fun h => by cases h), .inr ⟨B, 0, rfl, Nat.zero_le _, lt_of_block h, fun j u hu => by rw [Nat.zero_add]; exact cell_in h (by simpa [Ent.cells] using hu)⟩⟩
set_option maxRecDepth 100000 in
set_option maxHeartbeats 8000000 in
theorem knows23_any (w : World) (hT : WdOk w) : Calls Tryd.prog 5 #[] w fun e w' => e = .returned (.bool true) ∧ Below w.heap.size w w' := by
  have HT := Lib.hid hT
  have HN : Hid (Calls Tryd.prog 6 #[.int .i64 1] w fun e w' => ∃ H, e = .returned (.pointer (some ⟨H, 0, none⟩)) ∧ (LgAt H 1 [] 0 w' (fun k => k = H) ∧ H = w.heap.size ∧ Below w.heap.size w w')) := Lib.hid (newLg_any 1 w)
  have HW : Hid (∀ W : World, WdOk W → Calls Tryd.prog 18 #[.int .i64 3] W fun e w' => e = .returned (.string { data := #[114, 97, 110] }) ∧ Below W.heap.size W w') := Lib.hid (fun W hW => jword_any 3 W hW)
  clear hT
  go_enter Tryd.func5, Tryd.ntmps5
  go_upto_region 2 with (go_at_call 6; refine HN.out.mono ?_; rintro e w1 ⟨H, rfl, q1⟩; have h1 := Lib.hid q1; clear q1)
  obtain ⟨V, hV⟩ : ∃ V, V = w1.alloc (.cells #[.int .i64 3, .int .i64 0, .int .i64 0, .int .i64 0, .int .i64 0, .int .i64 0, .int .i64 0, .int .i64 0] 47) := ⟨_, rfl⟩
  have hbV : Below w1.heap.size w1 V := by rw [hV]; exact below1 _ _
  have hVB : V.heap[w1.heap.size]? = some (.cells #[.int .i64 3, .int .i64 0, .int .i64 0, .int .i64 0, .int .i64 0, .int .i64 0, .int .i64 0, .int .i64 0] 47 (0, 0)) := by rw [hV]; exact heap_alloc_new _ _
  have HADD : Hid (Calls Tryd.prog 8 #[.pointer (some ⟨H, 0, none⟩), .slice (some ⟨w1.heap.size, 0, none⟩) 2 2] V fun e w' => ∃ S', e = .returned (.int .i64 1) ∧ (LgAt H 1 [⟨3, 0, 0, 0⟩] 1 w' S' ∧ (∀ k, S' k → w.heap.size ≤ k) ∧ Below w.heap.size w w')) := Lib.hid ((jAdd_any ((LgAt_own _ _ _ _).later h1.out.1 hbV) (some ⟨w1.heap.size, 0, none⟩) 2 2 [⟨3, 0, 0, 0⟩, ⟨0, 0, 0, 0⟩] rfl (two_lies hVB) (by omega) (by simp) (by omega) (by omega) (by omega)).mono (by
    rintro e w' ⟨S', rfl, q1, q2⟩
    obtain ⟨b1, b2⟩ := q2.step (h1.out.2.2.trans (hbV.mono h1.out.2.2.size)) (fun k hk => by rw [hk, h1.out.2.1]; exact Nat.le_refl _)
    exact ⟨S', rfl, q1, b2, b1⟩))
  have HV := Lib.hid hV
  clear hV hbV hVB
  go_upto_region 3 with (go_at_call 8; rw [← HV.out]; refine HADD.out.mono ?_; rintro e w3 ⟨S3, rfl, q3⟩; have h3 := Lib.hid q3; clear q3)
  have HALL := Lib.hid (jAll_any h3.out.1 (by simp))
  go_upto_region 4 with (go_at_call 15; refine HALL.out.mono ?_; rintro e w4 ⟨a4, c4, rfl, q4, b4⟩; have h4 : Hid (Lies w4 0 w4.heap.size (.slice a4 1 c4) 1 4 ([(⟨3, 0, 0, 0⟩ : Ent)].flatMap Ent.cells) ∧ LgAt H 1 [⟨3, 0, 0, 0⟩] 1 w4 S3 ∧ Below w.heap.size w w4) := Lib.hid ⟨(Lies.of_owns q4).wider (Nat.zero_le _) (Nat.le_refl _), (LgAt_own _ _ _ _).later h3.out.1 b4, h3.out.2.2.trans (b4.mono h3.out.2.2.size)⟩; clear q4 b4)
  obtain ⟨g4, o4, rfl, ⟨k0, _, _, _⟩, _, _⟩ := ents_read (n := 1) (l := [⟨3, 0, 0, 0⟩]) rfl h4.out.1 w4 (fun _ _ _ => rfl) 0 (by decide)
  have k1 : w4.cell? ⟨g4, o4 + 0 * 4, none⟩ = some (.int .i64 3) := k0
  have k2 : w4.cell? ⟨g4, o4, none⟩ = some (.int .i64 3) := by simpa using k1
  clear k0
  go_wp2_with (first
    | (go_at_call 11; refine (jLen_any h4.out.2.1).mono ?_; rintro e w9 ⟨rfl, hw9⟩; rw [hw9]; clear hw9)
    | (go_at_call 12; refine (jLost_any h4.out.2.1).mono ?_; rintro e w9 ⟨rfl, hw9⟩; rw [hw9]; clear hw9)
    | (go_at_call 18; refine (HW.out w4 (HT.out.later h4.out.2.2)).mono ?_; rintro e w5 ⟨rfl, hb5⟩)
    | fail "no arm")
  go_ret
  exact ⟨by simp, h4.out.2.2.trans (hb5.mono h4.out.2.2.size)⟩
end Go.Proofs.YtebjgfdkmociaaaDoor
