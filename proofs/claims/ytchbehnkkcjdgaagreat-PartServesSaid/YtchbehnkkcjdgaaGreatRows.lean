/-
  No cell of these rows narrows 'for every input' (looked for: loops, veiled, ifaces, maps, wideKeys, modest, calm, conditions, laid).
  DERIVED. THE GIVEN ROWS OF THIS SEAT. 4 by the template 'for every input the law returns true; each argument reads behind the call as it read before'; 0 by the template 'total and deterministic' (their statements: YtchbehnkkcjdgaaGreatTotals.lean).
  GIVEN WITH THE SEED: the statements are not yours to turn. If you find one false, say at which input.
  Laid BY PROGRAM, IN A SANDBOX (cutbox-rows.mjs): the forced cells as the released guide's own fill.sh prints them over the translation 0a17a8baab3483dd… (all of the seat's roots in one cut). By AI agents, Wed Nov 11 2026. No macro, syntax, notation, axiom, sorry.
-/
import Derived.Test.YtchbehnkkcjdgaaGreatChecked
import GoSem.Claim
import GoSem.ClaimJoined
import GoSem.ClaimMapViews
import Derived.JoinedTies
import Derived.KernelRfl
namespace Go.Proofs.YtchbehnkkcjdgaaGreat
/- THE CELL 'sum', in the pinned program and in every row, IS THE sha256 OF THE DUMP (.gsa) THAT YtchbehnkkcjdgaaGreatProg.lean LOADS. Nothing in Lean hashes anything: it is a label: what it is worth is what the hold of that sum in a sandbox is worth. -/
noncomputable def Tryz.pinned : Pinned := { name := "ytchbehnkkcjdgaagreat", sum := "0a17a8baab3483ddd3f3f048942ef391e509a4f26458e4a3499a27b4a62f15cd", checked := Tryz.checked }
namespace Rows
def none {H : Type} : Left H := { results := [], args := [] }

/-- 'parcloselaw20.PartPlays': WHATEVER THE INPUT: true; the input reads as it did. -/
def partPlaysSpec : ChangeSpec := { name := "partPlays", fn := fun _ => fun
  | [d1, d2, d3] => { results := [.lit (.bool true)], args := [d1, d2, d3] }
  | _ => none }
def partPlaysRow : OpenClaim := { program := "ytchbehnkkcjdgaagreat", sum := "0a17a8baab3483ddd3f3f048942ef391e509a4f26458e4a3499a27b4a62f15cd", func := "parclose/parcloselaw20.PartPlays", spec := "partPlays", unfollowed := true, recurses := true, apart := false }
def PartPlaysSaid : Prop := partPlaysRow.holds Tryz.pinned (OpenSpec.ofChange partPlaysSpec)

/-- ITS FALSE NEIGHBOUR: 'it returns false'. Refute it at one input. -/
def partPlaysWrong : ChangeSpec := { name := "partPlays", fn := fun _ => fun
  | [d1, d2, d3] => { results := [.lit (.bool false)], args := [d1, d2, d3] }
  | _ => none }
def PartPlaysWrongFalsely : Prop := partPlaysRow.holds Tryz.pinned (OpenSpec.ofChange partPlaysWrong)

/-- 'parcloselaw20.PartServes': WHATEVER THE INPUT: true; the input reads as it did. -/
def partServesSpec : ChangeSpec := { name := "partServes", fn := fun _ => fun
  | [d1, d2, d3, d4] => { results := [.lit (.bool true)], args := [d1, d2, d3, d4] }
  | _ => none }
def partServesRow : OpenClaim := { program := "ytchbehnkkcjdgaagreat", sum := "0a17a8baab3483ddd3f3f048942ef391e509a4f26458e4a3499a27b4a62f15cd", func := "parclose/parcloselaw20.PartServes", spec := "partServes", unfollowed := true, recurses := true, apart := false }
def PartServesSaid : Prop := partServesRow.holds Tryz.pinned (OpenSpec.ofChange partServesSpec)

/-- ITS FALSE NEIGHBOUR: 'it returns false'. Refute it at one input. -/
def partServesWrong : ChangeSpec := { name := "partServes", fn := fun _ => fun
  | [d1, d2, d3, d4] => { results := [.lit (.bool false)], args := [d1, d2, d3, d4] }
  | _ => none }
def PartServesWrongFalsely : Prop := partServesRow.holds Tryz.pinned (OpenSpec.ofChange partServesWrong)

/-- 'parcloselaw20.PartModes': WHATEVER THE INPUT: true; the input reads as it did. -/
def partModesSpec : ChangeSpec := { name := "partModes", fn := fun _ => fun
  | [d1, d2] => { results := [.lit (.bool true)], args := [d1, d2] }
  | _ => none }
def partModesRow : OpenClaim := { program := "ytchbehnkkcjdgaagreat", sum := "0a17a8baab3483ddd3f3f048942ef391e509a4f26458e4a3499a27b4a62f15cd", func := "parclose/parcloselaw20.PartModes", spec := "partModes", unfollowed := true, recurses := true, apart := false }
def PartModesSaid : Prop := partModesRow.holds Tryz.pinned (OpenSpec.ofChange partModesSpec)

/-- ITS FALSE NEIGHBOUR: 'it returns false'. Refute it at one input. -/
def partModesWrong : ChangeSpec := { name := "partModes", fn := fun _ => fun
  | [d1, d2] => { results := [.lit (.bool false)], args := [d1, d2] }
  | _ => none }
def PartModesWrongFalsely : Prop := partModesRow.holds Tryz.pinned (OpenSpec.ofChange partModesWrong)

/-- 'parcloselaw20.PartNil': WHATEVER THE INPUT: true; the input reads as it did. -/
def partNilSpec : ChangeSpec := { name := "partNil", fn := fun _ => fun
  | [d] => { results := [.lit (.bool true)], args := [d] }
  | _ => none }
def partNilRow : OpenClaim := { program := "ytchbehnkkcjdgaagreat", sum := "0a17a8baab3483ddd3f3f048942ef391e509a4f26458e4a3499a27b4a62f15cd", func := "parclose/parcloselaw20.PartNil", spec := "partNil", unfollowed := true, recurses := true, apart := false }
def PartNilSaid : Prop := partNilRow.holds Tryz.pinned (OpenSpec.ofChange partNilSpec)

/-- ITS FALSE NEIGHBOUR: 'it returns false'. Refute it at one input. -/
def partNilWrong : ChangeSpec := { name := "partNil", fn := fun _ => fun
  | [d] => { results := [.lit (.bool false)], args := [d] }
  | _ => none }
def PartNilWrongFalsely : Prop := partNilRow.holds Tryz.pinned (OpenSpec.ofChange partNilWrong)

/- THE SECOND FORM. 'bulk': how many values and letters a reading holds, each counted each time it is reached (what is shared counts as often as it is met; a slice's spare places count too). A statement '..UptoSaid' is the law's where the arguments, and the package variables that the reading takes, are together of bulk at most 1048576: NARROWER than '..Said'. Prove '..Said' where nothing that the law and all that it calls make is longer than what came in: it says more and counts as full. Else prove '..UptoSaid'. A law counts once. -/
mutual
def uptoBulk {H : Type} : DataW H → Nat
  | .lit (.string bytes) => bytes.length + 1
  | .lit _ => 1
  | .nil => 1
  | .ptr d => uptoBulk d + 1
  | .slice elems spare => uptoBulkAll elems + uptoBulkAll spare + 1
  | .agg parts => uptoBulkAll parts + 1
  | .iface _ d => uptoBulk d + 1
  | .map entries => uptoBulkEntries entries + 1
  | .held _ => 1
def uptoBulkAll {H : Type} : List (DataW H) → Nat
  | [] => 0
  | d :: r => uptoBulk d + uptoBulkAll r
def uptoBulkEntries {H : Type} : List (Lit × DataW H) → Nat
  | [] => 0
  | x :: r => uptoBulkEntry x + uptoBulkEntries r
def uptoBulkEntry {H : Type} : Lit × DataW H → Nat
  | (.string bytes, d) => bytes.length + uptoBulk d + 1
  | (_, d) => uptoBulk d + 1
 end
def uptoSmall : (H : Type) → List (DataW H) → Bool := fun _ ds => decide (uptoBulkAll ds ≤ 1048576)
def OpenSpec.upto (s : _root_.Go.ChangeSpec) : _root_.Go.OpenSpec := { _root_.Go.OpenSpec.ofChange s with cond := some uptoSmall }

/-- 'parcloselaw20.PartPlays', WHERE WHAT IT READS IS OF BULK AT MOST 1048576: true; the input reads as it did. -/
def partPlaysUptoRow : OpenClaim := { program := "ytchbehnkkcjdgaagreat", sum := "0a17a8baab3483ddd3f3f048942ef391e509a4f26458e4a3499a27b4a62f15cd", func := "parclose/parcloselaw20.PartPlays", spec := "partPlays", unfollowed := true, recurses := true, apart := false, narrowed := true }
def PartPlaysUptoSaid : Prop := partPlaysUptoRow.holds Tryz.pinned (OpenSpec.upto partPlaysSpec)

/-- 'parcloselaw20.PartServes', WHERE WHAT IT READS IS OF BULK AT MOST 1048576: true; the input reads as it did. -/
def partServesUptoRow : OpenClaim := { program := "ytchbehnkkcjdgaagreat", sum := "0a17a8baab3483ddd3f3f048942ef391e509a4f26458e4a3499a27b4a62f15cd", func := "parclose/parcloselaw20.PartServes", spec := "partServes", unfollowed := true, recurses := true, apart := false, narrowed := true }
def PartServesUptoSaid : Prop := partServesUptoRow.holds Tryz.pinned (OpenSpec.upto partServesSpec)

/-- 'parcloselaw20.PartModes', WHERE WHAT IT READS IS OF BULK AT MOST 1048576: true; the input reads as it did. -/
def partModesUptoRow : OpenClaim := { program := "ytchbehnkkcjdgaagreat", sum := "0a17a8baab3483ddd3f3f048942ef391e509a4f26458e4a3499a27b4a62f15cd", func := "parclose/parcloselaw20.PartModes", spec := "partModes", unfollowed := true, recurses := true, apart := false, narrowed := true }
def PartModesUptoSaid : Prop := partModesUptoRow.holds Tryz.pinned (OpenSpec.upto partModesSpec)

/-- 'parcloselaw20.PartNil', WHERE WHAT IT READS IS OF BULK AT MOST 1048576: true; the input reads as it did. -/
def partNilUptoRow : OpenClaim := { program := "ytchbehnkkcjdgaagreat", sum := "0a17a8baab3483ddd3f3f048942ef391e509a4f26458e4a3499a27b4a62f15cd", func := "parclose/parcloselaw20.PartNil", spec := "partNil", unfollowed := true, recurses := true, apart := false, narrowed := true }
def PartNilUptoSaid : Prop := partNilUptoRow.holds Tryz.pinned (OpenSpec.upto partNilSpec)

end Rows
end Go.Proofs.YtchbehnkkcjdgaaGreat
