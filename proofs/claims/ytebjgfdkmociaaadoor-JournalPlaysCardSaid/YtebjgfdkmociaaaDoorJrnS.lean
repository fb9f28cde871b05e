/- Lists held against each other, on both sides. -/
import Derived.Test.YtebjgfdkmociaaaDoorJrnM
import Derived.Deep.RegionLaw
import Derived.RegionTactic
import Derived.Deep.CutRange
import Derived.Deep.CutBlock
import Derived.OwnWalk
import Derived.Laws.StructEq
import Derived.Deep.RegionHeld3
namespace Go.Proofs.YtebjgfdkmociaaaDoor
open Go.ChangeShapes Go.WideShapes Go.ChangeAt Go.RowKit
set_option linter.unusedVariables false

theorem eqInEn_j (a0 a1 a2 a3 b0 b1 b2 b3 : Int) (w : World) : (Op.equalIn 10000 47 (.agg #[.int .i64 a0, .int .i64 a1, .int .i64 a2, .int .i64 a3]) (.agg #[.int .i64 b0, .int .i64 b1, .int .i64 b2, .int .i64 b3])).run Tryd.prog w = .ok (eqEn ⟨a0, a1, a2, a3⟩ ⟨b0, b1, b2, b3⟩) w := by
  have hp : Tryd.prog.stoodInHeld 47 = false := by kernel_rfl
  have ht : Tryd.prog.underlying 47 = some (.struct (Tryd.prog.fieldsOf 47)) := by simp [Program.fieldsOf, Tryd.underlying47]
  rw [show (10000 : Nat) = 9999 + 1 from rfl, run_equalIn_agg w 9999 _ _ _ ht hp]
  have rI := fun (a b : Int) => run_equalIn_int (P := Tryd.prog) w 9998 3 .i64 .i64 a b Tryd.underlying3
  simp [Op.eqFields, part, Program.fieldsOf, Tryd.underlying47, rI]
  (repeat' split) <;> simp_all [eqEn]
theorem eqInEn_r (a0 a1 a2 a3 b0 b1 b2 b3 : Int) (w : World) : (Op.equalIn 10000 50 (.agg #[.int .i64 a0, .int .i64 a1, .int .i64 a2, .int .i64 a3]) (.agg #[.int .i64 b0, .int .i64 b1, .int .i64 b2, .int .i64 b3])).run Tryd.prog w = .ok (eqEn ⟨a0, a1, a2, a3⟩ ⟨b0, b1, b2, b3⟩) w := by
  have hp : Tryd.prog.stoodInHeld 50 = false := by kernel_rfl
  have ht : Tryd.prog.underlying 50 = some (.struct (Tryd.prog.fieldsOf 50)) := by simp [Program.fieldsOf, Tryd.underlying50]
  rw [show (10000 : Nat) = 9999 + 1 from rfl, run_equalIn_agg w 9999 _ _ _ ht hp]
  have rI := fun (a b : Int) => run_equalIn_int (P := Tryd.prog) w 9998 3 .i64 .i64 a b Tryd.underlying3
  simp [Op.eqFields, part, Program.fieldsOf, Tryd.underlying50, rI]
  (repeat' split) <;> simp_all [eqEn]
theorem take_next {l1 l2 : List Ent} {k : Nat} (h : l1.take k = l2.take k) (h1 : k < l1.length) (h2 : k < l2.length) (he : eqEn (enAt l1 k) (enAt l2 k) = true) : l1.take (k + 1) = l2.take (k + 1) := by
  rw [take_en h1, take_en h2, h, (eqEn_iff _ _).1 he]
theorem ne_at {l1 l2 : List Ent} {k : Nat} (he : eqEn (enAt l1 k) (enAt l2 k) = false) : decide (l1 = l2) = false := by
  apply decide_eq_false
  rintro rfl
  rw [(eqEn_iff _ _).2 rfl] at he
  cases he
set_option maxRecDepth 100000 in
set_option maxHeartbeats 8000000 in
theorem rsame23_any (a1 a2 : Option Addr) (n1 c1 n2 c2 : Nat) (w : World) (l1 l2 : List Ent) (hn1 : l1.length = n1) (hn2 : l2.length = n2) (hs : n1 ≤ 100000) (hl1 : Lies w 0 w.heap.size (.slice a1 n1 c1) n1 4 (l1.flatMap Ent.cells)) (hl2 : Lies w 0 w.heap.size (.slice a2 n2 c2) n2 4 (l2.flatMap Ent.cells)) :
    Calls Tryd.prog 13 #[.slice a1 n1 c1, .slice a2 n2 c2] w fun e w' => e = .returned (.bool (decide (l1 = l2))) ∧ Below w.heap.size w w' := by
  by_cases hne : ¬ n1 = n2
  · have HD : Hid (decide (l1 = l2) = false) := Lib.hid (decide_eq_false (fun h => hne (by rw [← hn1, ← hn2, h])))
    have t0 : ((n1 : Int) == (n2 : Int)) = false := by simp; omega
    clear hl1 hl2 hn1 hn2
    go_enter Tryd.func13, Tryd.ntmps13
    go_wp2_with fail
    go_ret
    rw [HD.out]
    exact ⟨by simp, Below.refl _ _⟩
  have hne := Decidable.not_not.1 hne
  subst hne
  have KA := Lib.hid (ents_read hn1 hl1)
  have KB := Lib.hid (ents_read hn2 hl2)
  have HN1 := Lib.hid hn1
  have HN2 := Lib.hid hn2
  have t0 : ((n1 : Int) == (n1 : Int)) = true := by simp
  have hM : Tryd.prog.eqGuardType Tryd.prog.depth 50 = false := by kernel_rfl
  clear hl1 hl2 hn1 hn2
  go_enter Tryd.func13, Tryd.ntmps13
  go_wp2_with fail
  go_loopw [5] (fun s wr => ∃ k : Nat, k ≤ n1 ∧ s = .int .i64 k ∧ Hid (l1.take k = l2.take k) ∧ Hid (Below w.heap.size w wr)) (fun s _ => n1 - (intOf s).toNat)
  case atStart => exact ⟨0, Nat.zero_le _, rfl, Lib.hid rfl, Lib.hid (Below.refl _ _)⟩
  case round =>
    obtain ⟨k, hk, rfl, HE, HB⟩ := hrel
    by_cases hlt : k < n1
    · have d0 : decide ((k : Int) < (n1 : Int)) = true := decide_eq_true (by omega)
      have d1 : (0 : Int) ≤ (k : Int) := by omega
      have d2 : (k : Int) < (n1 : Int) := by omega
      obtain ⟨g1, o1, rfl, ⟨x0, x1, x2, x3⟩, _, hg1⟩ := KA.out wr (SameIn.of_below HB.out (Nat.le_refl _)) k hlt
      obtain ⟨g2, o2, rfl, ⟨y0, y1, y2, y3⟩, _, hg2⟩ := KB.out wr (SameIn.of_below HB.out (Nat.le_refl _)) k hlt
      obtain ⟨x, hx⟩ : ∃ x, x = enAt l1 k := ⟨_, rfl⟩
      obtain ⟨y, hy⟩ : ∃ y, y = enAt l2 k := ⟨_, rfl⟩
      obtain ⟨b, hb⟩ : ∃ b, eqEn x y = b := ⟨_, rfl⟩
      rw [← hx] at x0 x1 x2 x3
      rw [← hy] at y0 y1 y2 y3
      have HX := Lib.hid (And.intro hx hy)
      have HBB := Lib.hid hb
      obtain ⟨p0, p1, p2, p3⟩ := x
      obtain ⟨q0, q1, q2, q3⟩ := y
      dsimp only at x0 x1 x2 x3 y0 y1 y2 y3
      have hEQ : ∀ W : World, (Op.equalIn 10000 50 (.agg #[.int .i64 p0, .int .i64 p1, .int .i64 p2, .int .i64 p3]) (.agg #[.int .i64 q0, .int .i64 q1, .int .i64 q2, .int .i64 q3])).run Tryd.prog W = .ok b W := fun W => by rw [← hb]; exact eqInEn_r _ _ _ _ _ _ _ _ W
      clear hx hy hb hg1 hg2
      cases b with
      | true =>
        go_upto_region 6 with fail
        go_region
        all_goals
          (go_wp2_with fail
           go_roundw
           case rel => exact ⟨k + 1, by omega, by go_num, Lib.hid (take_next HE.out (by have := HN1.out; omega) (by have := HN2.out; omega) (by rw [← HX.out.1, ← HX.out.2]; exact HBB.out)), Lib.hid (by repeat first | exact HB.out | refine Below.drew ?_)⟩
           case measure => simp [intOf]; omega)
      | false =>
        have HD : Hid (decide (l1 = l2) = false) := Lib.hid (ne_at (k := k) (by rw [← HX.out.1, ← HX.out.2]; exact HBB.out))
        go_upto_region 6 with fail
        go_region
        all_goals
          (go_wp2_with fail
           go_ret
           rw [HD.out]
           exact ⟨rfl, by repeat first | exact HB.out | refine Below.drew ?_⟩)
    · have d0 : decide ((k : Int) < (n1 : Int)) = false := decide_eq_false (by omega)
      have hkn : k = n1 := by omega
      subst hkn
      go_wp2_with fail
      go_ret
      have h6 := HE.out
      rw [List.take_of_length_le (by rw [HN1.out]; exact Nat.le_refl _), List.take_of_length_le (by rw [HN2.out]; exact Nat.le_refl _)] at h6
      rw [decide_eq_true h6]
      exact ⟨rfl, HB.out⟩
end Go.Proofs.YtebjgfdkmociaaaDoor
