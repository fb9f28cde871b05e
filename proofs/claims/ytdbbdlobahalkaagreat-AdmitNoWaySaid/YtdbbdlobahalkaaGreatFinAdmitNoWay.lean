/- AdmitNoWay: for every input the statement's function answers true, and leaves what it was given as it was. No conditions. -/
import Derived.Test.YtdbbdlobahalkaaGreatRows
import Derived.WalkKit
import Derived.Test.YtdbbdlobahalkaaGreatLawElevenN
import Derived.Test.YtdbbdlobahalkaaGreatRead
import Derived.ProofKit
import Derived.OpenShut
import Derived.ShutString
import Derived.ChangeOld
import Derived.Below
namespace Go.Proofs.YtdbbdlobahalkaaGreat.admitNoWay
open Go.ChangeShapes Go.WideShapes Go.ChangeAt Go.RowKit
set_option linter.unusedVariables false

theorem own : ownKnob Tryz.prog.godebug = none := by kernel_rfl
theorem laidOut : laidOutB Tryz.prog = true := by kernel_rfl

set_option maxRecDepth 100000 in
set_option maxHeartbeats 4000000 in
theorem lifted (os : Os) (started : os.Started) (H : Type) (enc : TypeId × Value → H) :
    ReturnsInHanded {} Tryz.checked os 5 .any (Rows.admitNoWaySpec.pre6 enc Tryz.prog Tryz.f5 Rows.admitNoWayRow.domain false) (Rows.admitNoWaySpec.post enc Tryz.prog Tryz.f5 false true false false) := by
  refine returnsInHanded_of_change (C := Tryz.checked) own started (by kernel_rfl) Tryz.func5
    (ChangeSpec.witness6 (enc := enc) (C := Tryz.checked) false ⟨#[], #[.agg #[.int .i64 0, .int .i64 0, .slice none 0 0, .slice none 0 0, .slice none 0 0]], []⟩ 8 (by kernel_rfl) (by kernel_rfl) (by kernel_rfl) (by kernel_rfl)) ?_
  intro W base args ds gs before hval0 hW hcnd _
  have hval : ∀ (j : Nat) t v, Tryz.f5.params[j]? = some t → args[j]? = some v → Value.okWide Tryz.prog W .any base t v := hval0
  have hW' := hW
  obtain ⟨p, q, hA0, hV, rfl, hfz, hnd⟩ := hW
  have hA : DataW.TrodAll enc Tryz.prog W 0 (fun _ => true) true Tryz.f5.params.toList args.toList ds p := hA0
  rw [Tryz.params5] at hA hval
  obtain ⟨v0, vs0, d0, ds0, p0, q0, hargs, rfl, rfl, h0, r0⟩ := trodAll_cons hA
  obtain ⟨rfl, rfl, rfl⟩ := trodAll_nil r0
  obtain rfl : args = #[v0] := by cases args; simp_all
  obtain ⟨rfl, rfl⟩ := trodVars_none hV
  have lt0 : ∀ x ∈ p0, x.block < W.heap.size := by obtain ⟨m, hm⟩ := h0; exact DataW.trod_lt m _ _ _ hm
  obtain ⟨cs0, n0, rfl, g0⟩ := val_cells Tryz.underlying26 (hval 0 26 v0 rfl rfl) h0
  obtain ⟨c0, pvs0, wa0, pa0, ca0, wc0, pc0, cc0, e0, la0, lb0, al0, lc0, in0⟩ := conf_of g0
  obtain rfl : cs0 = #[.int .i64 c0.frame, .int .i64 c0.margin, .slice wa0 c0.ws.length wc0, .slice pa0 c0.ps.length pc0, .slice ca0 c0.cs.length cc0] := by rw [← Array.toArray_toList (xs := cs0), e0]
  clear hA0 hval0
  refine (AdmitNoWay_body wa0 pa0 ca0 wc0 pc0 cc0 W c0 pvs0  ⟨la0, lb0, al0, lc0⟩ in0).mono fun e W' ⟨he, bel⟩ => ?_
  subst he
  exact ⟨_, rfl, _, _, _, [], _, [], hW', trodAll_mk1 (shut_bool Tryz.underlying4 _), trodAll_mk1 (Below.trod laidOut (by kernel_rfl) (of_decide_eq_true (by kernel_rfl)) h0 bel lt0), rfl, bel.frame _, fun h => by cases h⟩

theorem over : Rows.admitNoWayRow.holds Tryz.pinned (OpenSpec.ofChange Rows.admitNoWaySpec) :=
  OpenClaim.holds_of_wide 5 Tryz.f5 rfl rfl rfl rfl rfl rfl rfl ⟨rfl, rfl, rfl, rfl, rfl⟩ rfl rfl rfl rfl rfl (by kernel_rfl) Tryz.func5 (by kernel_rfl)
    (of_decide_eq_true (by kernel_rfl)) (by unfold Func.isWrapper; first | (rw [if_pos (by decide +kernel)]; kernel_rfl) | (rw [if_neg (by decide +kernel)]; exact ⟨rfl, rfl⟩))
    (fun os started H enc _ => lifted os started H enc)

theorem proved : Rows.AdmitNoWaySaid := over
end Go.Proofs.YtdbbdlobahalkaaGreat.admitNoWay
