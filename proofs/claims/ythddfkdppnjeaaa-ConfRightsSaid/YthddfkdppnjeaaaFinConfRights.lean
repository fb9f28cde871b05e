/- ConfRights: for every input the statement's function answers true, and leaves what it was given as it was. No conditions. -/
import Derived.Test.YthddfkdppnjeaaaRows
import Derived.WalkKit
import Derived.Test.YthddfkdppnjeaaaLawThreeA
import Derived.Test.YthddfkdppnjeaaaConfR
import Derived.ProofKit
import Derived.OpenShut
import Derived.ShutString
import Derived.ChangeOld
import Derived.Below
namespace Go.Proofs.Ythddfkdppnjeaaa.confRights
open Go.ChangeShapes Go.WideShapes Go.ChangeAt Go.RowKit
set_option linter.unusedVariables false

theorem own : ownKnob Try.prog.godebug = none := by kernel_rfl
theorem laidOut : laidOutB Try.prog = true := by kernel_rfl

set_option maxRecDepth 100000 in
theorem lifted (os : Os) (started : os.Started) (H : Type) (enc : TypeId × Value → H) :
    ReturnsInHanded {} Try.checked os 3 .any (Rows.confRightsSpec.pre6 enc Try.prog Try.f3 Rows.confRightsRow.domain false) (Rows.confRightsSpec.post enc Try.prog Try.f3 false true false false) := by
  refine returnsInHanded_of_change (C := Try.checked) own started (by kernel_rfl) Try.func3
    (ChangeSpec.witness6 (enc := enc) (C := Try.checked) false ⟨#[], #[.agg #[.bool false, .int .i64 0, .int .i64 0, .int .i64 0, .int .i64 0, .int .i64 0], .agg #[.bool false, .int .i64 0, .int .i64 0], .agg #[.slice none 0 0, .slice none 0 0, .slice none 0 0, .int .u8 0, .int .u8 0, .int .u8 0]], []⟩ 8 (by kernel_rfl) (by kernel_rfl) (by kernel_rfl) (by kernel_rfl)) ?_
  intro W base args ds gs before hval0 hW hcnd _
  have hval : ∀ (j : Nat) t v, Try.f3.params[j]? = some t → args[j]? = some v → Value.okWide Try.prog W .any base t v := hval0
  have hW' := hW
  obtain ⟨p, q, hA0, hV, rfl, hfz, hnd⟩ := hW
  have hA : DataW.TrodAll enc Try.prog W 0 (fun _ => true) true Try.f3.params.toList args.toList ds p := hA0
  rw [Try.params3] at hA hval
  obtain ⟨v0, vs0, d0, ds0, p0, q0, hargs, rfl, rfl, h0, r0⟩ := trodAll_cons hA
  obtain ⟨v1, vs1, d1, ds1, p1, q1, rfl, rfl, rfl, h1, r1⟩ := trodAll_cons r0
  obtain ⟨v2, vs2, d2, ds2, p2, q2, rfl, rfl, rfl, h2, r2⟩ := trodAll_cons r1
  obtain ⟨rfl, rfl, rfl⟩ := trodAll_nil r2
  obtain rfl : args = #[v0, v1, v2] := by cases args; simp_all
  obtain ⟨rfl, rfl⟩ := trodVars_none hV
  have lt0 : ∀ x ∈ p0, x.block < W.heap.size := by obtain ⟨m, hm⟩ := h0; exact DataW.trod_lt m _ _ _ hm
  have lt1 : ∀ x ∈ p1, x.block < W.heap.size := by obtain ⟨m, hm⟩ := h1; exact DataW.trod_lt m _ _ _ hm
  have lt2 : ∀ x ∈ p2, x.block < W.heap.size := by obtain ⟨m, hm⟩ := h2; exact DataW.trod_lt m _ _ _ hm
  obtain ⟨cs0, n0, rfl, g0⟩ := val_cells Try.underlying23 (hval 0 23 v0 rfl rfl) h0
  obtain ⟨cs1, n1, rfl, g1⟩ := val_cells Try.underlying25 (hval 1 25 v1 rfl rfl) h1
  obtain ⟨cs2, n2, rfl, g2⟩ := val_cells Try.underlying31 (hval 2 31 v2 rfl rfl) h2
  obtain ⟨x0, e0, _⟩ := reads_tk _ _ _ g0
  obtain ⟨x1, e1, _⟩ := reads_sv _ _ _ g1
  obtain ⟨pv, pt, ta, sa, da, tc, sc, dc, e2, ev0, ev1, ev2, hl, _⟩ := part_of g2
  obtain rfl : cs0 = x0.cells.toArray := by rw [← e0]
  obtain rfl : cs1 = x1.cells.toArray := by rw [← e1]
  obtain rfl : cs2 = pv.cells.toArray := by rw [← e2]
  obtain ⟨b0, t0, u0, w0, lo0, top0⟩ := x0
  obtain ⟨b1, c1, t1⟩ := x1
  obtain ⟨pt0, pt1, pt2, a0, a1, a2⟩ := pv
  simp only at ev0 ev1 ev2
  subst ev0; subst ev1; subst ev2
  obtain ⟨l0, l1, l2, z0, z1, z2⟩ := hl
  clear hA0 hval0
  refine (ConfRights_walk b0 t0 u0 w0 lo0 top0 b1 c1 t1 ta sa da pt.ts.length tc pt.ss.length sc pt.ds.length dc a0 a1 a2 W pt.ts pt.ss pt.ds rfl rfl rfl l0 l1 l2).mono fun e W' ⟨he, bel⟩ => ?_
  subst he
  exact ⟨_, rfl, _, _, _, [], _, [], hW', trodAll_mk1 (shut_bool Try.underlying4 _), (trodAll_cons_mk (Below.trod laidOut (by kernel_rfl) (of_decide_eq_true (by kernel_rfl)) h0 bel lt0) (trodAll_cons_mk (Below.trod laidOut (by kernel_rfl) (of_decide_eq_true (by kernel_rfl)) h1 bel lt1) (trodAll_cons_mk (Below.trod laidOut (by kernel_rfl) (of_decide_eq_true (by kernel_rfl)) h2 bel lt2) trodAll_mk0))), rfl, bel.frame _, fun h => by cases h⟩

theorem over : Rows.confRightsRow.holds Try.pinned (OpenSpec.ofChange Rows.confRightsSpec) :=
  OpenClaim.holds_of_wide 3 Try.f3 rfl rfl rfl rfl rfl rfl rfl ⟨rfl, rfl, rfl, rfl, rfl⟩ rfl rfl rfl rfl rfl (by kernel_rfl) Try.func3 (by kernel_rfl)
    (of_decide_eq_true (by kernel_rfl)) (by unfold Func.isWrapper; first | (rw [if_pos (by decide +kernel)]; kernel_rfl) | (rw [if_neg (by decide +kernel)]; exact ⟨rfl, rfl⟩))
    (fun os started H enc _ => lifted os started H enc)

theorem proved : Rows.ConfRightsSaid := over
end Go.Proofs.Ythddfkdppnjeaaa.confRights
