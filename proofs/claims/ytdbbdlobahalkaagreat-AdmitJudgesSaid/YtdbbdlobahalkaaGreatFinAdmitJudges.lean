/- AdmitJudges: for every input the statement's function answers true, and leaves what it was given as it was. No conditions. -/
import Derived.Test.YtdbbdlobahalkaaGreatRows
import Derived.WalkKit
import Derived.Test.YtdbbdlobahalkaaGreatLawElevenC
import Derived.Test.YtdbbdlobahalkaaGreatRead
import Derived.Test.YtdbbdlobahalkaaGreatReadV
import Derived.ProofKit
import Derived.OpenShut
import Derived.ShutString
import Derived.ChangeOld
import Derived.Below
namespace Go.Proofs.YtdbbdlobahalkaaGreat.admitJudges
open Go.ChangeShapes Go.WideShapes Go.ChangeAt Go.RowKit
set_option linter.unusedVariables false

theorem own : ownKnob Tryz.prog.godebug = none := by kernel_rfl
theorem laidOut : laidOutB Tryz.prog = true := by kernel_rfl

set_option maxRecDepth 100000 in
set_option maxHeartbeats 4000000 in
theorem lifted (os : Os) (started : os.Started) (H : Type) (enc : TypeId × Value → H) :
    ReturnsInHanded {} Tryz.checked os 3 .any (Rows.admitJudgesSpec.pre6 enc Tryz.prog Tryz.f3 Rows.admitJudgesRow.domain false) (Rows.admitJudgesSpec.post enc Tryz.prog Tryz.f3 false true false false) := by
  refine returnsInHanded_of_change (C := Tryz.checked) own started (by kernel_rfl) Tryz.func3
    (ChangeSpec.witness6 (enc := enc) (C := Tryz.checked) false ⟨#[], #[.agg #[.int .i64 0, .int .i64 0, .slice none 0 0, .slice none 0 0, .slice none 0 0], .agg #[.int .i64 0, .int .i64 0, .bool false, .int .i64 0]], []⟩ 8 (by kernel_rfl) (by kernel_rfl) (by kernel_rfl) (by kernel_rfl)) ?_
  intro W base args ds gs before hval0 hW hcnd _
  have hval : ∀ (j : Nat) t v, Tryz.f3.params[j]? = some t → args[j]? = some v → Value.okWide Tryz.prog W .any base t v := hval0
  have hW' := hW
  obtain ⟨p, q, hA0, hV, rfl, hfz, hnd⟩ := hW
  have hA : DataW.TrodAll enc Tryz.prog W 0 (fun _ => true) true Tryz.f3.params.toList args.toList ds p := hA0
  rw [Tryz.params3] at hA hval
  obtain ⟨v0, vs0, d0, ds0, p0, q0, hargs, rfl, rfl, h0, r0⟩ := trodAll_cons hA
  obtain ⟨v1, vs1, d1, ds1, p1, q1, rfl, rfl, rfl, h1, r1⟩ := trodAll_cons r0
  obtain ⟨rfl, rfl, rfl⟩ := trodAll_nil r1
  obtain rfl : args = #[v0, v1] := by cases args; simp_all
  obtain ⟨rfl, rfl⟩ := trodVars_none hV
  have lt0 : ∀ x ∈ p0, x.block < W.heap.size := by obtain ⟨m, hm⟩ := h0; exact DataW.trod_lt m _ _ _ hm
  have lt1 : ∀ x ∈ p1, x.block < W.heap.size := by obtain ⟨m, hm⟩ := h1; exact DataW.trod_lt m _ _ _ hm
  obtain ⟨cs0, n0, rfl, g0⟩ := val_cells Tryz.underlying26 (hval 0 26 v0 rfl rfl) h0
  obtain ⟨c0, pvs0, wa0, pa0, ca0, wc0, pc0, cc0, e0, la0, lb0, al0, lc0, in0⟩ := conf_of g0
  obtain rfl : cs0 = #[.int .i64 c0.frame, .int .i64 c0.margin, .slice wa0 c0.ws.length wc0, .slice pa0 c0.ps.length pc0, .slice ca0 c0.cs.length cc0] := by rw [← Array.toArray_toList (xs := cs0), e0]
  obtain ⟨cs1, n1, rfl, g1⟩ := val_cells Tryz.underlying28 (hval 1 28 v1 rfl rfl) h1
  obtain ⟨x1, e1, in1⟩ := reads_vd _ _ _ g1
  obtain rfl : cs1 = x1.cells := Array.ext' e1
  obtain ⟨y1_0, y1_1, y1_2, y1_3⟩ := x1
  clear hA0 hval0
  refine (AdmitJudges_body wa0 pa0 ca0 wc0 pc0 cc0 y1_0 y1_1 y1_2 y1_3 W c0 pvs0  ⟨la0, lb0, al0, lc0⟩ in0).mono fun e W' ⟨he, bel⟩ => ?_
  subst he
  exact ⟨_, rfl, _, _, _, [], _, [], hW', trodAll_mk1 (shut_bool Tryz.underlying4 _), (trodAll_cons_mk (Below.trod laidOut (by kernel_rfl) (of_decide_eq_true (by kernel_rfl)) h0 bel lt0) (trodAll_cons_mk (Below.trod laidOut (by kernel_rfl) (of_decide_eq_true (by kernel_rfl)) h1 bel lt1) trodAll_mk0)), rfl, bel.frame _, fun h => by cases h⟩

theorem over : Rows.admitJudgesRow.holds Tryz.pinned (OpenSpec.ofChange Rows.admitJudgesSpec) :=
  OpenClaim.holds_of_wide 3 Tryz.f3 rfl rfl rfl rfl rfl rfl rfl ⟨rfl, rfl, rfl, rfl, rfl⟩ rfl rfl rfl rfl rfl (by kernel_rfl) Tryz.func3 (by kernel_rfl)
    (of_decide_eq_true (by kernel_rfl)) (by unfold Func.isWrapper; first | (rw [if_pos (by decide +kernel)]; kernel_rfl) | (rw [if_neg (by decide +kernel)]; exact ⟨rfl, rfl⟩))
    (fun os started H enc _ => lifted os started H enc)

theorem proved : Rows.AdmitJudgesSaid := over
end Go.Proofs.YtdbbdlobahalkaaGreat.admitJudges
