/- PartServes: for every input the statement's function answers true, and leaves what it was given as it was. No conditions. -/
import Derived.Test.YtchbehnkkcjdgaaGreatRows
import Derived.WalkKit
import Derived.Test.YtchbehnkkcjdgaaGreatLawTwentyB
import Derived.Test.YtchbehnkkcjdgaaGreatRead
import Derived.Test.YtchbehnkkcjdgaaGreatReadAct20
import Derived.Test.YtchbehnkkcjdgaaGreatReadZ
import Derived.ProofKit
import Derived.OpenShut
import Derived.ShutString
import Derived.ChangeOld
import Derived.Below
namespace Go.Proofs.YtchbehnkkcjdgaaGreat.partServes
open Go.ChangeShapes Go.WideShapes Go.ChangeAt Go.RowKit
set_option linter.unusedVariables false
theorem own : ownKnob Tryz.prog.godebug = none := by kernel_rfl
theorem laidOut : laidOutB Tryz.prog = true := by kernel_rfl
set_option maxRecDepth 100000 in
set_option maxHeartbeats 4000000 in
theorem lifted (os : Os) (started : os.Started) (H : Type) (enc : TypeId × Value → H) :
 ReturnsInHanded {} Tryz.checked os 4 .any (Rows.partServesSpec.pre6 enc Tryz.prog Tryz.f4 Rows.partServesRow.domain false) (Rows.partServesSpec.post enc Tryz.prog Tryz.f4 false true false false) := by
 refine returnsInHanded_of_change_sized (C := Tryz.checked) own started (by kernel_rfl) Tryz.func4
  (ChangeSpec.witness6 (enc := enc) (C := Tryz.checked) false ⟨#[], #[.agg #[.slice none 0 0, .slice none 0 0, .slice none 0 0, .int .u8 0, .int .u8 0, .int .u8 0], .slice none 0 0, .int .i64 0, .int .i64 0], []⟩ 8 (by kernel_rfl) (by kernel_rfl) (by kernel_rfl) (by kernel_rfl)) ?_
 intro W base args ds gs before hval0 hW hcnd hsz _
 have hval : ∀ (j : Nat) t v, Tryz.f4.params[j]? = some t → args[j]? = some v → Value.okWide Tryz.prog W .any base t v := hval0
 have hW' := hW
 obtain ⟨p, q, hA0, hV, rfl, hfz, hnd⟩ := hW
 have hA : DataW.TrodAll enc Tryz.prog W 0 (fun _ => true) true Tryz.f4.params.toList args.toList ds p := hA0
 rw [Tryz.params4] at hA hval
 obtain ⟨v0, vs0, d0, ds0, p0, q0, hargs, rfl, rfl, h0, r0⟩ := trodAll_cons hA
 obtain ⟨v1, vs1, d1, ds1, p1, q1, rfl, rfl, rfl, h1, r1⟩ := trodAll_cons r0
 obtain ⟨v2, vs2, d2, ds2, p2, q2, rfl, rfl, rfl, h2, r2⟩ := trodAll_cons r1
 obtain ⟨v3, vs3, d3, ds3, p3, q3, rfl, rfl, rfl, h3, r3⟩ := trodAll_cons r2
 obtain ⟨rfl, rfl, rfl⟩ := trodAll_nil r3
 obtain rfl : args = #[v0, v1, v2, v3] := by cases args; simp_all
 obtain ⟨rfl, rfl⟩ := trodVars_none hV
 have lt0 : ∀ x ∈ p0, x.block < W.heap.size := by obtain ⟨m, hm⟩ := h0; exact DataW.trod_lt m _ _ _ hm
 have lt1 : ∀ x ∈ p1, x.block < W.heap.size := by obtain ⟨m, hm⟩ := h1; exact DataW.trod_lt m _ _ _ hm
 have lt2 : ∀ x ∈ p2, x.block < W.heap.size := by obtain ⟨m, hm⟩ := h2; exact DataW.trod_lt m _ _ _ hm
 have lt3 : ∀ x ∈ p3, x.block < W.heap.size := by obtain ⟨m, hm⟩ := h3; exact DataW.trod_lt m _ _ _ hm
 obtain ⟨cs0, n0, rfl, g0⟩ := val_cells Tryz.underlying27 (hval 0 27 v0 rfl rfl) h0
 obtain ⟨x0, px0, ta0, sa0, da0, tc0, sc0, dc0, e0, f10, f20, f30, hl0, in0⟩ := part_of g0
 obtain rfl : cs0 = x0.cells.toArray := by rw [← e0]
 have wd0 := part_slim (v := x0) g0 (slim_each hsz 0 _ _ (by rw [Tryz.params4]; rfl) rfl) hl0
 obtain ⟨xt0, xs0, xd0, b00, b10, b20⟩ := x0
 dsimp only at f10 f20 f30
 subst f10 f20 f30
 obtain ⟨l10, l20, l30, _⟩ := id hl0
 dsimp only at l10 l20 l30
 obtain ⟨sl1, ln1, lcap1, rfl⟩ := okWide_slice Tryz.underlying28 (hval 1 28 v1 rfl rfl)
 obtain ⟨l1, sa1, sc1, se1, ll1, li1⟩ : ∃ (xs : List Ad) (a : Option Addr) (cap : Nat), Value.slice sl1 ln1 lcap1 = .slice a xs.length cap ∧ Lies W 0 W.heap.size (.slice a xs.length cap) xs.length 8 (xs.flatMap Ad.cells) ∧ ∀ x ∈ xs, x.Ok W := by
  have : Inhabited Ad := ⟨⟨0, 0, 0, 0, 0, 0, 0, .slice none 0 0, []⟩⟩
  obtain ⟨fuel, hf⟩ := h1
  exact lies_of_trod Tryz.underlying28 (by kernel_rfl : Tryz.prog.cellsOf 45 = 8) (by omega) (fun _ => rfl) reads_act20 (by simpa [Value.cells] using hf)
 cases se1
 have k2 := h2
 obtain ⟨a2, rfl, _, _, w2⟩ := open_int Tryz.underlying3 (hval 2 3 v2 rfl rfl) h2
 have k3 := h3
 obtain ⟨a3, rfl, _, _, w3⟩ := open_int Tryz.underlying3 (hval 3 3 v3 rfl rfl) h3
 clear hA0 hval0
 refine (PartServes_walk ta0 sa0 da0 px0.ts.length tc0 px0.ss.length sc0 px0.ds.length dc0 b00 b10 b20 sl1 l1.length lcap1 a2 a3 W px0.ts px0.ss px0.ds l1 rfl rfl rfl l10 l20 l30 in0.1 wd0.1 wd0.2.1 wd0.2.2 rfl ll1 li1 (i64_of w2) (i64_of w3)).mono fun e W' ⟨he, bel⟩ => ?_
 subst he
 exact ⟨_, rfl, _, _, _, [], _, [], hW', trodAll_mk1 (shut_bool Tryz.underlying4 _), (trodAll_cons_mk (Below.trod laidOut (by kernel_rfl) (of_decide_eq_true (by kernel_rfl)) h0 bel lt0) (trodAll_cons_mk (Below.trod laidOut (by kernel_rfl) (of_decide_eq_true (by kernel_rfl)) h1 bel lt1) (trodAll_cons_mk (Below.trod laidOut (by kernel_rfl) (of_decide_eq_true (by kernel_rfl)) k2 bel lt2) (trodAll_cons_mk (Below.trod laidOut (by kernel_rfl) (of_decide_eq_true (by kernel_rfl)) k3 bel lt3) trodAll_mk0)))), rfl, bel.frame _, fun h => by cases h⟩
theorem over : Rows.partServesRow.holds Tryz.pinned (OpenSpec.ofChange Rows.partServesSpec) :=
 OpenClaim.holds_of_wide 4 Tryz.f4 rfl rfl rfl rfl rfl rfl rfl ⟨rfl, rfl, rfl, rfl, rfl⟩ rfl rfl rfl rfl rfl (by kernel_rfl) Tryz.func4 (by kernel_rfl)
  (of_decide_eq_true (by kernel_rfl)) (by unfold Func.isWrapper; first | (rw [if_pos (by decide +kernel)]; kernel_rfl) | (rw [if_neg (by decide +kernel)]; exact ⟨rfl, rfl⟩))
  (fun os started H enc _ => lifted os started H enc)
theorem proved : Rows.PartServesSaid := over
end Go.Proofs.YtchbehnkkcjdgaaGreat.partServes
