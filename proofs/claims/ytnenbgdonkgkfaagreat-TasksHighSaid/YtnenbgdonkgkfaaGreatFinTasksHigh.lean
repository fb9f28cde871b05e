/- TasksHigh: for every input the statement's function answers true, and leaves what it was given as it was. No conditions. -/
import Derived.Test.YtnenbgdonkgkfaaGreatRows
import Derived.WalkKit
import Derived.Test.YtnenbgdonkgkfaaGreatLawNineteenCW
import Derived.Test.YtnenbgdonkgkfaaGreatRead
import Derived.Test.YtnenbgdonkgkfaaGreatReadAct19
import Derived.Test.YtnenbgdonkgkfaaGreatReadZ
import Derived.ProofKit
import Derived.OpenShut
import Derived.ShutString
import Derived.ChangeOld
import Derived.Below
namespace Go.Proofs.YtnenbgdonkgkfaaGreat.tasksHigh
open Go.ChangeShapes Go.WideShapes Go.ChangeAt Go.RowKit
set_option linter.unusedVariables false

theorem own : ownKnob Tryz.prog.godebug = none := by kernel_rfl
theorem laidOut : laidOutB Tryz.prog = true := by kernel_rfl

set_option maxRecDepth 100000 in
set_option maxHeartbeats 4000000 in
theorem lifted (os : Os) (started : os.Started) (H : Type) (enc : TypeId × Value → H) :
    ReturnsInHanded {} Tryz.checked os 4 .any (Rows.tasksHighSpec.pre6 enc Tryz.prog Tryz.f4 Rows.tasksHighRow.domain false) (Rows.tasksHighSpec.post enc Tryz.prog Tryz.f4 false true false false) := by
  refine returnsInHanded_of_change_sized (C := Tryz.checked) own started (by kernel_rfl) Tryz.func4
    (ChangeSpec.witness6 (enc := enc) (C := Tryz.checked) false ⟨#[], #[.slice none 0 0, .slice none 0 0], []⟩ 8 (by kernel_rfl) (by kernel_rfl) (by kernel_rfl) (by kernel_rfl)) ?_
  intro W base args ds gs before hval0 hW hcnd hsz _
  have hval : ∀ (j : Nat) t v, Tryz.f4.params[j]? = some t → args[j]? = some v → Value.okWide Tryz.prog W .any base t v := hval0
  have hW' := hW
  obtain ⟨p, q, hA0, hV, rfl, hfz, hnd⟩ := hW
  have hA : DataW.TrodAll enc Tryz.prog W 0 (fun _ => true) true Tryz.f4.params.toList args.toList ds p := hA0
  rw [Tryz.params4] at hA hval
  obtain ⟨v0, vs0, d0, ds0, p0, q0, hargs, rfl, rfl, h0, r0⟩ := trodAll_cons hA
  obtain ⟨v1, vs1, d1, ds1, p1, q1, rfl, rfl, rfl, h1, r1⟩ := trodAll_cons r0
  obtain ⟨rfl, rfl, rfl⟩ := trodAll_nil r1
  obtain rfl : args = #[v0, v1] := by cases args; simp_all
  obtain ⟨rfl, rfl⟩ := trodVars_none hV
  have lt0 : ∀ x ∈ p0, x.block < W.heap.size := by obtain ⟨m, hm⟩ := h0; exact DataW.trod_lt m _ _ _ hm
  have lt1 : ∀ x ∈ p1, x.block < W.heap.size := by obtain ⟨m, hm⟩ := h1; exact DataW.trod_lt m _ _ _ hm
  obtain ⟨sl0, ln0, lcap0, rfl⟩ := okWide_slice Tryz.underlying22 (hval 0 22 v0 rfl rfl)
  obtain ⟨l0, sa0, sc0, se0, ll0, li0⟩ : ∃ (xs : List Tk) (a : Option Addr) (cap : Nat), Value.slice sl0 ln0 lcap0 = .slice a xs.length cap ∧ Lies W 0 W.heap.size (.slice a xs.length cap) xs.length 6 (xs.flatMap Tk.cells) ∧ ∀ x ∈ xs, x.In := by
    have : Inhabited Tk := ⟨⟨false, 0, 0, 0, 0, 0⟩⟩
    obtain ⟨fuel, hf⟩ := h0
    exact lies_of_trod Tryz.underlying22 (by kernel_rfl : Tryz.prog.cellsOf 54 = 6) (by omega) (fun _ => rfl) reads_tk (by simpa [Value.cells] using hf)
  have wd0 : ln0 * 48 ≤ 140737488355328 := by
    obtain ⟨fuel, hf⟩ := h0
    have hf' : DataW.trod enc Tryz.prog W 0 (fun _ => true) true fuel 22 [.slice sl0 ln0 lcap0] = some (d0, p0) := by simpa [Value.cells] using hf
    have := (slim_slice Tryz.underlying22 rfl hf' (slim_each hsz 0 _ _ (by rw [Tryz.params4]; rfl) rfl)).1
    rw [Tryz.bTk] at this; exact this
  cases se0
  obtain ⟨sl1, ln1, lcap1, rfl⟩ := okWide_slice Tryz.underlying23 (hval 1 23 v1 rfl rfl)
  obtain ⟨l1, sa1, sc1, se1, ll1, li1⟩ : ∃ (xs : List Ac) (a : Option Addr) (cap : Nat), Value.slice sl1 ln1 lcap1 = .slice a xs.length cap ∧ Lies W 0 W.heap.size (.slice a xs.length cap) xs.length 7 (xs.flatMap Ac.cells) ∧ ∀ x ∈ xs, x.Ok W := by
    have : Inhabited Ac := ⟨⟨0, 0, 0, 0, 0, 0, .slice none 0 0, []⟩⟩
    obtain ⟨fuel, hf⟩ := h1
    exact lies_of_trod Tryz.underlying23 (by kernel_rfl : Tryz.prog.cellsOf 35 = 7) (by omega) (fun _ => rfl) reads_act19 (by simpa [Value.cells] using hf)
  cases se1
  clear hA0 hval0
  refine (TasksHigh_walk sl0 l0.length lcap0 sl1 l1.length lcap1 W l0 l1 rfl ll0 li0 wd0 rfl ll1 li1).mono fun e W' ⟨he, bel⟩ => ?_
  subst he
  exact ⟨_, rfl, _, _, _, [], _, [], hW', trodAll_mk1 (shut_bool Tryz.underlying4 _), (trodAll_cons_mk (Below.trod laidOut (by kernel_rfl) (of_decide_eq_true (by kernel_rfl)) h0 bel lt0) (trodAll_cons_mk (Below.trod laidOut (by kernel_rfl) (of_decide_eq_true (by kernel_rfl)) h1 bel lt1) trodAll_mk0)), rfl, bel.frame _, fun h => by cases h⟩

theorem over : Rows.tasksHighRow.holds Tryz.pinned (OpenSpec.ofChange Rows.tasksHighSpec) :=
  OpenClaim.holds_of_wide 4 Tryz.f4 rfl rfl rfl rfl rfl rfl rfl ⟨rfl, rfl, rfl, rfl, rfl⟩ rfl rfl rfl rfl rfl (by kernel_rfl) Tryz.func4 (by kernel_rfl)
    (of_decide_eq_true (by kernel_rfl)) (by unfold Func.isWrapper; first | (rw [if_pos (by decide +kernel)]; kernel_rfl) | (rw [if_neg (by decide +kernel)]; exact ⟨rfl, rfl⟩))
    (fun os started H enc _ => lifted os started H enc)

theorem proved : Rows.TasksHighSaid := over
end Go.Proofs.YtnenbgdonkgkfaaGreat.tasksHigh
