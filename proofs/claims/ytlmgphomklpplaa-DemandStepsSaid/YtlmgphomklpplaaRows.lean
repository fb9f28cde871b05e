/-
  No cell of these rows narrows 'for every input' (looked for: loops, veiled, ifaces, maps, wideKeys, modest, calm, conditions, laid).
  DERIVED. THE GIVEN ROWS OF THIS SEAT. 5 by the template 'for every input the law returns true; each argument reads behind the call as it read before'; 0 by the template 'total and deterministic' (their statements: YtlmgphomklpplaaTotals.lean).
  GIVEN WITH THE SEED: the statements are not yours to turn. If you find one false, say at which input.
  Laid BY PROGRAM, IN A SANDBOX (cutbox-rows.mjs): the forced cells as the released guide's own fill.sh prints them over the translation 8bf0605ff4a0bef9… (all of the seat's roots in one cut). By AI agents, Wed Nov 11 2026. No macro, syntax, notation, axiom, sorry.
-/
import Derived.Test.YtlmgphomklpplaaChecked
import GoSem.Claim
import GoSem.ClaimJoined
import GoSem.ClaimMapViews
import Derived.JoinedTies
import Derived.KernelRfl
namespace Go.Proofs.Ytlmgphomklpplaa
/- THE CELL 'sum', in the pinned program and in every row, IS THE sha256 OF THE DUMP (.gsa) THAT YtlmgphomklpplaaProg.lean LOADS. Nothing in Lean hashes anything: it is a label: what it is worth is what the hold of that sum in a sandbox is worth. -/
noncomputable def Try.pinned : Pinned := { name := "ytlmgphomklpplaa", sum := "8bf0605ff4a0bef967b807142b3f0cf19c594fad98d3e93c9ea16ebc508c8447", checked := Try.checked }
namespace Rows
def none {H : Type} : Left H := { results := [], args := [] }

/-- 'parcloselaw09.DemandOnes': WHATEVER THE INPUT: true; the input reads as it did. -/
def demandOnesSpec : ChangeSpec := { name := "demandOnes", fn := fun _ => fun
  | [d1, d2, d3, d4] => { results := [.lit (.bool true)], args := [d1, d2, d3, d4] }
  | _ => none }
def demandOnesRow : OpenClaim := { program := "ytlmgphomklpplaa", sum := "8bf0605ff4a0bef967b807142b3f0cf19c594fad98d3e93c9ea16ebc508c8447", func := "parclose/parcloselaw09.DemandOnes", spec := "demandOnes", apart := false }
def DemandOnesSaid : Prop := demandOnesRow.holds Try.pinned (OpenSpec.ofChange demandOnesSpec)

/-- ITS FALSE NEIGHBOUR: 'it returns false'. Refute it at one input. -/
def demandOnesWrong : ChangeSpec := { name := "demandOnes", fn := fun _ => fun
  | [d1, d2, d3, d4] => { results := [.lit (.bool false)], args := [d1, d2, d3, d4] }
  | _ => none }
def DemandOnesWrongFalsely : Prop := demandOnesRow.holds Try.pinned (OpenSpec.ofChange demandOnesWrong)

/-- 'parcloselaw09.DemandSteps': WHATEVER THE INPUT: true; the input reads as it did. -/
def demandStepsSpec : ChangeSpec := { name := "demandSteps", fn := fun _ => fun
  | [d1, d2, d3] => { results := [.lit (.bool true)], args := [d1, d2, d3] }
  | _ => none }
def demandStepsRow : OpenClaim := { program := "ytlmgphomklpplaa", sum := "8bf0605ff4a0bef967b807142b3f0cf19c594fad98d3e93c9ea16ebc508c8447", func := "parclose/parcloselaw09.DemandSteps", spec := "demandSteps", unfollowed := true, recurses := true, apart := false }
def DemandStepsSaid : Prop := demandStepsRow.holds Try.pinned (OpenSpec.ofChange demandStepsSpec)

/-- ITS FALSE NEIGHBOUR: 'it returns false'. Refute it at one input. -/
def demandStepsWrong : ChangeSpec := { name := "demandSteps", fn := fun _ => fun
  | [d1, d2, d3] => { results := [.lit (.bool false)], args := [d1, d2, d3] }
  | _ => none }
def DemandStepsWrongFalsely : Prop := demandStepsRow.holds Try.pinned (OpenSpec.ofChange demandStepsWrong)

/-- 'parcloselaw09.DemandGrows': WHATEVER THE INPUT: true; the input reads as it did. -/
def demandGrowsSpec : ChangeSpec := { name := "demandGrows", fn := fun _ => fun
  | [d1, d2, d3] => { results := [.lit (.bool true)], args := [d1, d2, d3] }
  | _ => none }
def demandGrowsRow : OpenClaim := { program := "ytlmgphomklpplaa", sum := "8bf0605ff4a0bef967b807142b3f0cf19c594fad98d3e93c9ea16ebc508c8447", func := "parclose/parcloselaw09.DemandGrows", spec := "demandGrows", apart := false }
def DemandGrowsSaid : Prop := demandGrowsRow.holds Try.pinned (OpenSpec.ofChange demandGrowsSpec)

/-- ITS FALSE NEIGHBOUR: 'it returns false'. Refute it at one input. -/
def demandGrowsWrong : ChangeSpec := { name := "demandGrows", fn := fun _ => fun
  | [d1, d2, d3] => { results := [.lit (.bool false)], args := [d1, d2, d3] }
  | _ => none }
def DemandGrowsWrongFalsely : Prop := demandGrowsRow.holds Try.pinned (OpenSpec.ofChange demandGrowsWrong)

/-- 'parcloselaw09.DemandArrives': WHATEVER THE INPUT: true; the input reads as it did. -/
def demandArrivesSpec : ChangeSpec := { name := "demandArrives", fn := fun _ => fun
  | [d1, d2, d3] => { results := [.lit (.bool true)], args := [d1, d2, d3] }
  | _ => none }
def demandArrivesRow : OpenClaim := { program := "ytlmgphomklpplaa", sum := "8bf0605ff4a0bef967b807142b3f0cf19c594fad98d3e93c9ea16ebc508c8447", func := "parclose/parcloselaw09.DemandArrives", spec := "demandArrives", apart := false }
def DemandArrivesSaid : Prop := demandArrivesRow.holds Try.pinned (OpenSpec.ofChange demandArrivesSpec)

/-- ITS FALSE NEIGHBOUR: 'it returns false'. Refute it at one input. -/
def demandArrivesWrong : ChangeSpec := { name := "demandArrives", fn := fun _ => fun
  | [d1, d2, d3] => { results := [.lit (.bool false)], args := [d1, d2, d3] }
  | _ => none }
def DemandArrivesWrongFalsely : Prop := demandArrivesRow.holds Try.pinned (OpenSpec.ofChange demandArrivesWrong)

/-- 'parcloselaw09.DemandServes': WHATEVER THE INPUT: true; the input reads as it did. -/
def demandServesSpec : ChangeSpec := { name := "demandServes", fn := fun _ => fun
  | [d1, d2, d3] => { results := [.lit (.bool true)], args := [d1, d2, d3] }
  | _ => none }
def demandServesRow : OpenClaim := { program := "ytlmgphomklpplaa", sum := "8bf0605ff4a0bef967b807142b3f0cf19c594fad98d3e93c9ea16ebc508c8447", func := "parclose/parcloselaw09.DemandServes", spec := "demandServes", apart := false }
def DemandServesSaid : Prop := demandServesRow.holds Try.pinned (OpenSpec.ofChange demandServesSpec)

/-- ITS FALSE NEIGHBOUR: 'it returns false'. Refute it at one input. -/
def demandServesWrong : ChangeSpec := { name := "demandServes", fn := fun _ => fun
  | [d1, d2, d3] => { results := [.lit (.bool false)], args := [d1, d2, d3] }
  | _ => none }
def DemandServesWrongFalsely : Prop := demandServesRow.holds Try.pinned (OpenSpec.ofChange demandServesWrong)

/- THE SECOND FORM. 'bulk': how many values and letters a reading holds, each counted each time it is reached (what is shared counts as often as it is met; a slice's spare places count too). A statement '..UptoSaid' is the law's where the arguments, and the package variables that the reading takes, are together of bulk at most 1048576: NARROWER than '..Said'. Prove '..Said' where nothing that the law and all that it calls make is longer than what came in: it says more and counts as full. Else prove '..UptoSaid'. A law counts once. -/
mutual
def uptoBulk {H : Type} : DataW H → Nat
  | .lit (.string bytes) => bytes.length + 1
  | .lit _ => 1
  | .nil => 1
  | .ptr d => uptoBulk d + 1
  | .slice elems spare => uptoBulkAll elems + uptoBulkAll spare + 1
  | .agg parts => uptoBulkAll parts + 1
  | .iface _ d => uptoBulk d + 1
  | .map entries => uptoBulkEntries entries + 1
  | .held _ => 1
def uptoBulkAll {H : Type} : List (DataW H) → Nat
  | [] => 0
  | d :: r => uptoBulk d + uptoBulkAll r
def uptoBulkEntries {H : Type} : List (Lit × DataW H) → Nat
  | [] => 0
  | x :: r => uptoBulkEntry x + uptoBulkEntries r
def uptoBulkEntry {H : Type} : Lit × DataW H → Nat
  | (.string bytes, d) => bytes.length + uptoBulk d + 1
  | (_, d) => uptoBulk d + 1
 end
def uptoSmall : (H : Type) → List (DataW H) → Bool := fun _ ds => decide (uptoBulkAll ds ≤ 1048576)
def OpenSpec.upto (s : _root_.Go.ChangeSpec) : _root_.Go.OpenSpec := { _root_.Go.OpenSpec.ofChange s with cond := some uptoSmall }

/-- 'parcloselaw09.DemandOnes', WHERE WHAT IT READS IS OF BULK AT MOST 1048576: true; the input reads as it did. -/
def demandOnesUptoRow : OpenClaim := { program := "ytlmgphomklpplaa", sum := "8bf0605ff4a0bef967b807142b3f0cf19c594fad98d3e93c9ea16ebc508c8447", func := "parclose/parcloselaw09.DemandOnes", spec := "demandOnes", apart := false, narrowed := true }
def DemandOnesUptoSaid : Prop := demandOnesUptoRow.holds Try.pinned (OpenSpec.upto demandOnesSpec)

/-- 'parcloselaw09.DemandSteps', WHERE WHAT IT READS IS OF BULK AT MOST 1048576: true; the input reads as it did. -/
def demandStepsUptoRow : OpenClaim := { program := "ytlmgphomklpplaa", sum := "8bf0605ff4a0bef967b807142b3f0cf19c594fad98d3e93c9ea16ebc508c8447", func := "parclose/parcloselaw09.DemandSteps", spec := "demandSteps", unfollowed := true, recurses := true, apart := false, narrowed := true }
def DemandStepsUptoSaid : Prop := demandStepsUptoRow.holds Try.pinned (OpenSpec.upto demandStepsSpec)

/-- 'parcloselaw09.DemandGrows', WHERE WHAT IT READS IS OF BULK AT MOST 1048576: true; the input reads as it did. -/
def demandGrowsUptoRow : OpenClaim := { program := "ytlmgphomklpplaa", sum := "8bf0605ff4a0bef967b807142b3f0cf19c594fad98d3e93c9ea16ebc508c8447", func := "parclose/parcloselaw09.DemandGrows", spec := "demandGrows", apart := false, narrowed := true }
def DemandGrowsUptoSaid : Prop := demandGrowsUptoRow.holds Try.pinned (OpenSpec.upto demandGrowsSpec)

/-- 'parcloselaw09.DemandArrives', WHERE WHAT IT READS IS OF BULK AT MOST 1048576: true; the input reads as it did. -/
def demandArrivesUptoRow : OpenClaim := { program := "ytlmgphomklpplaa", sum := "8bf0605ff4a0bef967b807142b3f0cf19c594fad98d3e93c9ea16ebc508c8447", func := "parclose/parcloselaw09.DemandArrives", spec := "demandArrives", apart := false, narrowed := true }
def DemandArrivesUptoSaid : Prop := demandArrivesUptoRow.holds Try.pinned (OpenSpec.upto demandArrivesSpec)

/-- 'parcloselaw09.DemandServes', WHERE WHAT IT READS IS OF BULK AT MOST 1048576: true; the input reads as it did. -/
def demandServesUptoRow : OpenClaim := { program := "ytlmgphomklpplaa", sum := "8bf0605ff4a0bef967b807142b3f0cf19c594fad98d3e93c9ea16ebc508c8447", func := "parclose/parcloselaw09.DemandServes", spec := "demandServes", apart := false, narrowed := true }
def DemandServesUptoSaid : Prop := demandServesUptoRow.holds Try.pinned (OpenSpec.upto demandServesSpec)

end Rows
end Go.Proofs.Ytlmgphomklpplaa
