/-
  No cell of these rows narrows 'for every input' (looked for: loops, veiled, ifaces, maps, wideKeys, modest, calm, conditions, laid).
  DERIVED. THE GIVEN ROWS OF THIS SEAT. 3 by the template 'for every input the law returns true; each argument reads behind the call as it read before'; 0 by the template 'total and deterministic' (their statements: YtmkohnpdpcefgaaTotals.lean).
  GIVEN WITH THE SEED: the statements are not yours to turn. If you find one false, say at which input.
  Laid BY PROGRAM, IN A SANDBOX (cutbox-rows.mjs): the forced cells as the released guide's own fill.sh prints them over the translation 620c16d3b23116de… (all of the seat's roots in one cut). By AI agents, Wed Nov 11 2026. No macro, syntax, notation, axiom, sorry.
-/
import Derived.Test.YtmkohnpdpcefgaaChecked
import GoSem.Claim
import GoSem.ClaimJoined
import GoSem.ClaimMapViews
import Derived.JoinedTies
import Derived.KernelRfl
namespace Go.Proofs.Ytmkohnpdpcefgaa
/- THE CELL 'sum', in the pinned program and in every row, IS THE sha256 OF THE DUMP (.gsa) THAT YtmkohnpdpcefgaaProg.lean LOADS. Nothing in Lean hashes anything: it is a label: what it is worth is what the hold of that sum in a sandbox is worth. -/
noncomputable def Try.pinned : Pinned := { name := "ytmkohnpdpcefgaa", sum := "620c16d3b23116debcce85b8764d381845a5ea616f08c518943af0b005742177", checked := Try.checked }
namespace Rows
def none {H : Type} : Left H := { results := [], args := [] }

/-- 'parcloselaw24.GschedTells': WHATEVER THE INPUT: true; the input reads as it did. -/
def gschedTellsSpec : ChangeSpec := { name := "gschedTells", fn := fun _ => fun
  | [d1, d2, d3, d4] => { results := [.lit (.bool true)], args := [d1, d2, d3, d4] }
  | _ => none }
def gschedTellsRow : OpenClaim := { program := "ytmkohnpdpcefgaa", sum := "620c16d3b23116debcce85b8764d381845a5ea616f08c518943af0b005742177", func := "parclose/parcloselaw24.GschedTells", spec := "gschedTells", unfollowed := true, recurses := true, apart := false }
def GschedTellsSaid : Prop := gschedTellsRow.holds Try.pinned (OpenSpec.ofChange gschedTellsSpec)

/-- ITS FALSE NEIGHBOUR: 'it returns false'. Refute it at one input. -/
def gschedTellsWrong : ChangeSpec := { name := "gschedTells", fn := fun _ => fun
  | [d1, d2, d3, d4] => { results := [.lit (.bool false)], args := [d1, d2, d3, d4] }
  | _ => none }
def GschedTellsWrongFalsely : Prop := gschedTellsRow.holds Try.pinned (OpenSpec.ofChange gschedTellsWrong)

/-- 'parcloselaw24.GschedFirst': WHATEVER THE INPUT: true; the input reads as it did. -/
def gschedFirstSpec : ChangeSpec := { name := "gschedFirst", fn := fun _ => fun
  | [d1, d2, d3] => { results := [.lit (.bool true)], args := [d1, d2, d3] }
  | _ => none }
def gschedFirstRow : OpenClaim := { program := "ytmkohnpdpcefgaa", sum := "620c16d3b23116debcce85b8764d381845a5ea616f08c518943af0b005742177", func := "parclose/parcloselaw24.GschedFirst", spec := "gschedFirst", unfollowed := true, recurses := true, apart := false }
def GschedFirstSaid : Prop := gschedFirstRow.holds Try.pinned (OpenSpec.ofChange gschedFirstSpec)

/-- ITS FALSE NEIGHBOUR: 'it returns false'. Refute it at one input. -/
def gschedFirstWrong : ChangeSpec := { name := "gschedFirst", fn := fun _ => fun
  | [d1, d2, d3] => { results := [.lit (.bool false)], args := [d1, d2, d3] }
  | _ => none }
def GschedFirstWrongFalsely : Prop := gschedFirstRow.holds Try.pinned (OpenSpec.ofChange gschedFirstWrong)

/-- 'parcloselaw24.GschedNil': WHATEVER THE INPUT: true; the input reads as it did. -/
def gschedNilSpec : ChangeSpec := { name := "gschedNil", fn := fun _ => fun
  | [d1, d2] => { results := [.lit (.bool true)], args := [d1, d2] }
  | _ => none }
def gschedNilRow : OpenClaim := { program := "ytmkohnpdpcefgaa", sum := "620c16d3b23116debcce85b8764d381845a5ea616f08c518943af0b005742177", func := "parclose/parcloselaw24.GschedNil", spec := "gschedNil", unfollowed := true, recurses := true, apart := false }
def GschedNilSaid : Prop := gschedNilRow.holds Try.pinned (OpenSpec.ofChange gschedNilSpec)

/-- ITS FALSE NEIGHBOUR: 'it returns false'. Refute it at one input. -/
def gschedNilWrong : ChangeSpec := { name := "gschedNil", fn := fun _ => fun
  | [d1, d2] => { results := [.lit (.bool false)], args := [d1, d2] }
  | _ => none }
def GschedNilWrongFalsely : Prop := gschedNilRow.holds Try.pinned (OpenSpec.ofChange gschedNilWrong)

/- THE SECOND FORM. 'bulk': how many values and letters a reading holds, each counted each time it is reached (what is shared counts as often as it is met; a slice's spare places count too). A statement '..UptoSaid' is the law's where the arguments, and the package variables that the reading takes, are together of bulk at most 1048576: NARROWER than '..Said'. Prove '..Said' where nothing that the law and all that it calls make is longer than what came in: it says more and counts as full. Else prove '..UptoSaid'. A law counts once. -/
mutual
def uptoBulk {H : Type} : DataW H → Nat
  | .lit (.string bytes) => bytes.length + 1
  | .lit _ => 1
  | .nil => 1
  | .ptr d => uptoBulk d + 1
  | .slice elems spare => uptoBulkAll elems + uptoBulkAll spare + 1
  | .agg parts => uptoBulkAll parts + 1
  | .iface _ d => uptoBulk d + 1
  | .map entries => uptoBulkEntries entries + 1
  | .held _ => 1
def uptoBulkAll {H : Type} : List (DataW H) → Nat
  | [] => 0
  | d :: r => uptoBulk d + uptoBulkAll r
def uptoBulkEntries {H : Type} : List (Lit × DataW H) → Nat
  | [] => 0
  | x :: r => uptoBulkEntry x + uptoBulkEntries r
def uptoBulkEntry {H : Type} : Lit × DataW H → Nat
  | (.string bytes, d) => bytes.length + uptoBulk d + 1
  | (_, d) => uptoBulk d + 1
 end
def uptoSmall : (H : Type) → List (DataW H) → Bool := fun _ ds => decide (uptoBulkAll ds ≤ 1048576)
def OpenSpec.upto (s : _root_.Go.ChangeSpec) : _root_.Go.OpenSpec := { _root_.Go.OpenSpec.ofChange s with cond := some uptoSmall }

/-- 'parcloselaw24.GschedTells', WHERE WHAT IT READS IS OF BULK AT MOST 1048576: true; the input reads as it did. -/
def gschedTellsUptoRow : OpenClaim := { program := "ytmkohnpdpcefgaa", sum := "620c16d3b23116debcce85b8764d381845a5ea616f08c518943af0b005742177", func := "parclose/parcloselaw24.GschedTells", spec := "gschedTells", unfollowed := true, recurses := true, apart := false, narrowed := true }
def GschedTellsUptoSaid : Prop := gschedTellsUptoRow.holds Try.pinned (OpenSpec.upto gschedTellsSpec)

/-- 'parcloselaw24.GschedFirst', WHERE WHAT IT READS IS OF BULK AT MOST 1048576: true; the input reads as it did. -/
def gschedFirstUptoRow : OpenClaim := { program := "ytmkohnpdpcefgaa", sum := "620c16d3b23116debcce85b8764d381845a5ea616f08c518943af0b005742177", func := "parclose/parcloselaw24.GschedFirst", spec := "gschedFirst", unfollowed := true, recurses := true, apart := false, narrowed := true }
def GschedFirstUptoSaid : Prop := gschedFirstUptoRow.holds Try.pinned (OpenSpec.upto gschedFirstSpec)

/-- 'parcloselaw24.GschedNil', WHERE WHAT IT READS IS OF BULK AT MOST 1048576: true; the input reads as it did. -/
def gschedNilUptoRow : OpenClaim := { program := "ytmkohnpdpcefgaa", sum := "620c16d3b23116debcce85b8764d381845a5ea616f08c518943af0b005742177", func := "parclose/parcloselaw24.GschedNil", spec := "gschedNil", unfollowed := true, recurses := true, apart := false, narrowed := true }
def GschedNilUptoSaid : Prop := gschedNilUptoRow.holds Try.pinned (OpenSpec.upto gschedNilSpec)

end Rows
end Go.Proofs.Ytmkohnpdpcefgaa
