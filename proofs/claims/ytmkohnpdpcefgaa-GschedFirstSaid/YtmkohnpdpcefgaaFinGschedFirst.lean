/- GschedFirst: for every input the statement's function answers true, and leaves what it was given as it was. No conditions. -/
import Derived.Test.YtmkohnpdpcefgaaRows
import Derived.WalkKit
import Derived.Test.YtmkohnpdpcefgaaLawTwentyFourB
import Derived.Test.YtmkohnpdpcefgaaRead
import Derived.Test.YtmkohnpdpcefgaaReadZ
import Derived.Test.YtmkohnpdpcefgaaReadAct14
import Derived.ProofKit
import Derived.OpenShut
import Derived.ShutString
import Derived.ChangeOld
import Derived.Below
namespace Go.Proofs.Ytmkohnpdpcefgaa.gschedFirst
open Go.ChangeShapes Go.WideShapes Go.ChangeAt Go.RowKit
set_option linter.unusedVariables false

theorem own : ownKnob Try.prog.godebug = none := by kernel_rfl
theorem laidOut : laidOutB Try.prog = true := by kernel_rfl

set_option maxRecDepth 100000 in
set_option maxHeartbeats 4000000 in
theorem lifted (os : Os) (started : os.Started) (H : Type) (enc : TypeId × Value → H) :
    ReturnsInHanded {} Try.checked os 4 .any (Rows.gschedFirstSpec.pre6 enc Try.prog Try.f4 Rows.gschedFirstRow.domain false) (Rows.gschedFirstSpec.post enc Try.prog Try.f4 false true false false) := by
  refine returnsInHanded_of_change_sized (C := Try.checked) own started (by kernel_rfl) Try.func4
    (ChangeSpec.witness6 (enc := enc) (C := Try.checked) false ⟨#[], #[.agg #[.int .i64 0, .int .i64 0, .slice none 0 0, .slice none 0 0, .slice none 0 0], .int .i64 0, .slice none 0 0], []⟩ 8 (by kernel_rfl) (by kernel_rfl) (by kernel_rfl) (by kernel_rfl)) ?_
  intro W base args ds gs before hval0 hW hcnd hsz _
  have hval : ∀ (j : Nat) t v, Try.f4.params[j]? = some t → args[j]? = some v → Value.okWide Try.prog W .any base t v := hval0
  have hW' := hW
  obtain ⟨p, q, hA0, hV, rfl, hfz, hnd⟩ := hW
  have hA : DataW.TrodAll enc Try.prog W 0 (fun _ => true) true Try.f4.params.toList args.toList ds p := hA0
  rw [Try.params4] at hA hval
  obtain ⟨v0, vs0, d0, ds0, p0, q0, hargs, rfl, rfl, h0, r0⟩ := trodAll_cons hA
  obtain ⟨v1, vs1, d1, ds1, p1, q1, rfl, rfl, rfl, h1, r1⟩ := trodAll_cons r0
  obtain ⟨v2, vs2, d2, ds2, p2, q2, rfl, rfl, rfl, h2, r2⟩ := trodAll_cons r1
  obtain ⟨rfl, rfl, rfl⟩ := trodAll_nil r2
  obtain rfl : args = #[v0, v1, v2] := by cases args; simp_all
  obtain ⟨rfl, rfl⟩ := trodVars_none hV
  have lt0 : ∀ x ∈ p0, x.block < W.heap.size := by obtain ⟨m, hm⟩ := h0; exact DataW.trod_lt m _ _ _ hm
  have lt1 : ∀ x ∈ p1, x.block < W.heap.size := by obtain ⟨m, hm⟩ := h1; exact DataW.trod_lt m _ _ _ hm
  have lt2 : ∀ x ∈ p2, x.block < W.heap.size := by obtain ⟨m, hm⟩ := h2; exact DataW.trod_lt m _ _ _ hm
  obtain ⟨cs0, n0, rfl, g0⟩ := val_cells Try.underlying26 (hval 0 26 v0 rfl rfl) h0
  obtain ⟨c0, pvs0, wa0, pa0, ca0, wc0, pc0, cc0, e0, la0, lb0, al0, lc0, in0⟩ := conf_of g0
  obtain rfl : cs0 = #[.int .i64 c0.frame, .int .i64 c0.margin, .slice wa0 c0.ws.length wc0, .slice pa0 c0.ps.length pc0, .slice ca0 c0.cs.length cc0] := by rw [← Array.toArray_toList (xs := cs0), e0]
  have wd0 : Wide c0 := conf_slim g0 (slim_each hsz 0 _ _ (by rw [Try.params4]; rfl) rfl) ⟨la0, lb0, al0, lc0⟩
  have k1 := h1
  obtain ⟨a1, rfl, _, _, w1⟩ := open_int Try.underlying3 (hval 1 3 v1 rfl rfl) h1
  obtain ⟨sl2, ln2, lcap2, rfl⟩ := okWide_slice Try.underlying27 (hval 2 27 v2 rfl rfl)
  obtain ⟨l2, sa2, sc2, se2, ll2⟩ : ∃ (xs : List Bool) (a : Option Addr) (cap : Nat), Value.slice sl2 ln2 lcap2 = .slice a xs.length cap ∧ Lies W 0 W.heap.size (.slice a xs.length cap) xs.length 1 (xs.flatMap boolCells) := by
    obtain ⟨fuel, hf⟩ := h2
    obtain ⟨xs, a, cap, e, l, _⟩ := lies_of_trod Try.underlying27 Try.cB (by omega) (fun _ => rfl) (reads_bool Try.underlying4) (by simpa [Value.cells] using hf)
    exact ⟨xs, a, cap, e, l⟩
  cases se2
  clear hA0 hval0
  refine (GschedFirst_body wa0 pa0 ca0 wc0 pc0 cc0 a1 sl2 l2.length lcap2 W c0 pvs0 l2  ⟨la0, lb0, al0, lc0⟩ in0 wd0 (i64_of w1) rfl ll2).mono fun e W' ⟨he, bel⟩ => ?_
  subst he
  exact ⟨_, rfl, _, _, _, [], _, [], hW', trodAll_mk1 (shut_bool Try.underlying4 _), (trodAll_cons_mk (Below.trod laidOut (by kernel_rfl) (of_decide_eq_true (by kernel_rfl)) h0 bel lt0) (trodAll_cons_mk (Below.trod laidOut (by kernel_rfl) (of_decide_eq_true (by kernel_rfl)) k1 bel lt1) (trodAll_cons_mk (Below.trod laidOut (by kernel_rfl) (of_decide_eq_true (by kernel_rfl)) h2 bel lt2) trodAll_mk0))), rfl, bel.frame _, fun h => by cases h⟩

theorem over : Rows.gschedFirstRow.holds Try.pinned (OpenSpec.ofChange Rows.gschedFirstSpec) :=
  OpenClaim.holds_of_wide 4 Try.f4 rfl rfl rfl rfl rfl rfl rfl ⟨rfl, rfl, rfl, rfl, rfl⟩ rfl rfl rfl rfl rfl (by kernel_rfl) Try.func4 (by kernel_rfl)
    (of_decide_eq_true (by kernel_rfl)) (by unfold Func.isWrapper; first | (rw [if_pos (by decide +kernel)]; kernel_rfl) | (rw [if_neg (by decide +kernel)]; exact ⟨rfl, rfl⟩))
    (fun os started H enc _ => lifted os started H enc)

theorem proved : Rows.GschedFirstSaid := over
end Go.Proofs.Ytmkohnpdpcefgaa.gschedFirst
