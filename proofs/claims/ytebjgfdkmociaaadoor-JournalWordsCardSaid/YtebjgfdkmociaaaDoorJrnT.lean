/- The program's lists held against each other. -/
import Derived.Test.YtebjgfdkmociaaaDoorJrnS
namespace Go.Proofs.YtebjgfdkmociaaaDoor
open Go.ChangeShapes Go.WideShapes Go.ChangeAt Go.RowKit
set_option linter.unusedVariables false

set_option maxRecDepth 100000 in
set_option maxHeartbeats 8000000 in
theorem jsame23_any (a1 a2 : Option Addr) (n1 c1 n2 c2 : Nat) (w : World) (l1 l2 : List Ent) (hn1 : l1.length = n1) (hn2 : l2.length = n2) (hs : n1 ≤ 100000) (hl1 : Lies w 0 w.heap.size (.slice a1 n1 c1) n1 4 (l1.flatMap Ent.cells)) (hl2 : Lies w 0 w.heap.size (.slice a2 n2 c2) n2 4 (l2.flatMap Ent.cells)) :
    Calls Tryd.prog 20 #[.slice a1 n1 c1, .slice a2 n2 c2] w fun e w' => e = .returned (.bool (decide (l1 = l2))) ∧ Below w.heap.size w w' := by
  by_cases hne : ¬ n1 = n2
  · have HD : Hid (decide (l1 = l2) = false) := Lib.hid (decide_eq_false (fun h => hne (by rw [← hn1, ← hn2, h])))
    have t0 : ((n1 : Int) == (n2 : Int)) = false := by simp; omega
    clear hl1 hl2 hn1 hn2
    go_enter Tryd.func20, Tryd.ntmps20
    go_wp2_with fail
    go_ret
    rw [HD.out]
    exact ⟨by simp, Below.refl _ _⟩
  have hne := Decidable.not_not.1 hne
  subst hne
  have KA := Lib.hid (ents_read hn1 hl1)
  have KB := Lib.hid (ents_read hn2 hl2)
  have HN1 := Lib.hid hn1
  have HN2 := Lib.hid hn2
  have t0 : ((n1 : Int) == (n1 : Int)) = true := by simp
  have hM : Tryd.prog.eqGuardType Tryd.prog.depth 47 = false := by kernel_rfl
  clear hl1 hl2 hn1 hn2
  go_enter Tryd.func20, Tryd.ntmps20
  go_wp2_with fail
  go_loopw [14] (fun s wr => ∃ k : Nat, k ≤ n1 ∧ s = .int .i64 k ∧ Hid (l1.take k = l2.take k) ∧ Hid (Below w.heap.size w wr)) (fun s _ => n1 - (intOf s).toNat)
  case atStart => exact ⟨0, Nat.zero_le _, rfl, Lib.hid rfl, Lib.hid (Below.refl _ _)⟩
  case round =>
    obtain ⟨k, hk, rfl, HE, HB⟩ := hrel
    by_cases hlt : k < n1
    · have d0 : decide ((k : Int) < (n1 : Int)) = true := decide_eq_true (by omega)
      have d1 : (0 : Int) ≤ (k : Int) := by omega
      have d2 : (k : Int) < (n1 : Int) := by omega
      obtain ⟨g1, o1, rfl, ⟨x0, x1, x2, x3⟩, _, hg1⟩ := KA.out wr (SameIn.of_below HB.out (Nat.le_refl _)) k hlt
      obtain ⟨x, hx⟩ : ∃ x, x = enAt l1 k := ⟨_, rfl⟩
      obtain ⟨y, hy⟩ : ∃ y, y = enAt l2 k := ⟨_, rfl⟩
      obtain ⟨b, hb⟩ : ∃ b, eqEn x y = b := ⟨_, rfl⟩
      rw [← hx] at x0 x1 x2 x3
      have HX := Lib.hid (And.intro hx hy)
      have HBB := Lib.hid hb
      obtain ⟨p0, p1, p2, p3⟩ := x
      obtain ⟨q0, q1, q2, q3⟩ := y
      dsimp only at x0 x1 x2 x3
      have hEQ : ∀ W : World, (Op.equalIn 10000 47 (.agg #[.int .i64 p0, .int .i64 p1, .int .i64 p2, .int .i64 p3]) (.agg #[.int .i64 q0, .int .i64 q1, .int .i64 q2, .int .i64 q3])).run Tryd.prog W = .ok b W := fun W => by rw [← hb]; exact eqInEn_j _ _ _ _ _ _ _ _ W
      clear hx hy hb hg1
      go_upto_region 6 with fail
      obtain ⟨V, hV⟩ : ∃ V, V = wr.alloc (.cells #[.int .i64 p0, .int .i64 p1, .int .i64 p2, .int .i64 p3] 47) := ⟨_, rfl⟩
      obtain ⟨B, hB⟩ : ∃ B, B = wr.heap.size := ⟨_, rfl⟩
      have hbV : Below wr.heap.size wr V := by rw [hV]; exact below1 _ _
      have hVB : V.heap[B]? = some (.cells #[.int .i64 p0, .int .i64 p1, .int .i64 p2, .int .i64 p3] 47 (0, 0)) := by rw [hV, hB]; exact heap_alloc_new _ _
      rw [← hV, ← hB]
      have HBV : Hid (Below w.heap.size w V) := Lib.hid (HB.out.trans (hbV.mono HB.out.size))
      have v0 : V.cell? ⟨B, 0, none⟩ = some (.int .i64 p0) := cell_in hVB rfl
      have v1 : V.cell? ⟨B, 1, none⟩ = some (.int .i64 p1) := cell_in hVB rfl
      have v2 : V.cell? ⟨B, 2, none⟩ = some (.int .i64 p2) := cell_in hVB rfl
      have v3 : V.cell? ⟨B, 3, none⟩ = some (.int .i64 p3) := cell_in hVB rfl
      obtain ⟨g2, o2, rfl, ⟨y0, y1, y2, y3⟩, _, hg2⟩ := KB.out V (SameIn.of_below HBV.out (Nat.le_refl _)) k hlt
      rw [← HX.out.2] at y0 y1 y2 y3
      dsimp only at y0 y1 y2 y3
      clear hV hB hbV hVB hg2
      cases b with
      | true =>
        go_region
        all_goals
          (go_wp2_with fail
           go_roundw
           case rel => exact ⟨k + 1, by omega, by go_num, Lib.hid (take_next HE.out (by have := HN1.out; omega) (by have := HN2.out; omega) (by rw [← HX.out.1, ← HX.out.2]; exact HBB.out)), Lib.hid (by repeat first | exact HBV.out | refine Below.drew ?_)⟩
           case measure => simp [intOf]; omega)
      | false =>
        have HD : Hid (decide (l1 = l2) = false) := Lib.hid (ne_at (k := k) (by rw [← HX.out.1, ← HX.out.2]; exact HBB.out))
        go_region
        all_goals
          (go_wp2_with fail
           go_ret
           rw [HD.out]
           exact ⟨rfl, by repeat first | exact HBV.out | refine Below.drew ?_⟩)
    · have d0 : decide ((k : Int) < (n1 : Int)) = false := decide_eq_false (by omega)
      have hkn : k = n1 := by omega
      subst hkn
      go_wp2_with fail
      go_ret
      have h6 := HE.out
      rw [List.take_of_length_le (by rw [HN1.out]; exact Nat.le_refl _), List.take_of_length_le (by rw [HN2.out]; exact Nat.le_refl _)] at h6
      rw [decide_eq_true h6]
      exact ⟨rfl, HB.out⟩
end Go.Proofs.YtebjgfdkmociaaaDoor
