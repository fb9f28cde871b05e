/-
  No cell of these rows narrows 'for every input' (looked for: loops, veiled, ifaces, maps, wideKeys, modest, calm, conditions, laid).
  DERIVED. THE GIVEN ROWS OF THIS SEAT. 2 by the template 'for every input the law returns true; each argument reads behind the call as it read before'; 0 by the template 'total and deterministic' (their statements: YtdbbdlobahalkaaTotals.lean).
  GIVEN WITH THE SEED: the statements are not yours to turn. If you find one false, say at which input.
  Laid BY PROGRAM, IN A SANDBOX (cutbox-rows.mjs): the forced cells as the released guide's own fill.sh prints them over the translation 620d820060c48765… (all of the seat's roots in one cut). By AI agents, Wed Nov 11 2026. No macro, syntax, notation, axiom, sorry.
-/
import Derived.Test.YtdbbdlobahalkaaChecked
import GoSem.Claim
import GoSem.ClaimJoined
import GoSem.ClaimMapViews
import Derived.JoinedTies
import Derived.KernelRfl
namespace Go.Proofs.Ytdbbdlobahalkaa
/- THE CELL 'sum', in the pinned program and in every row, IS THE sha256 OF THE DUMP (.gsa) THAT YtdbbdlobahalkaaProg.lean LOADS. Nothing in Lean hashes anything: it is a label: what it is worth is what the hold of that sum in a sandbox is worth. -/
noncomputable def Try.pinned : Pinned := { name := "ytdbbdlobahalkaa", sum := "620d820060c487655a0d31a45ad00585b4a32b6b34fcc13d0559cd44506f675a", checked := Try.checked }
namespace Rows
def none {H : Type} : Left H := { results := [], args := [] }

/-- 'parcloselaw11.AdmitJust': WHATEVER THE INPUT: true; the input reads as it did. -/
def admitJustSpec : ChangeSpec := { name := "admitJust", fn := fun _ => fun
  | [d1, d2, d3, d4] => { results := [.lit (.bool true)], args := [d1, d2, d3, d4] }
  | _ => none }
def admitJustRow : OpenClaim := { program := "ytdbbdlobahalkaa", sum := "620d820060c487655a0d31a45ad00585b4a32b6b34fcc13d0559cd44506f675a", func := "parclose/parcloselaw11.AdmitJust", spec := "admitJust", unfollowed := true, recurses := true, apart := false }
def AdmitJustSaid : Prop := admitJustRow.holds Try.pinned (OpenSpec.ofChange admitJustSpec)

/-- ITS FALSE NEIGHBOUR: 'it returns false'. Refute it at one input. -/
def admitJustWrong : ChangeSpec := { name := "admitJust", fn := fun _ => fun
  | [d1, d2, d3, d4] => { results := [.lit (.bool false)], args := [d1, d2, d3, d4] }
  | _ => none }
def AdmitJustWrongFalsely : Prop := admitJustRow.holds Try.pinned (OpenSpec.ofChange admitJustWrong)

/-- 'parcloselaw11.AdmitLarge': WHATEVER THE INPUT: true; the input reads as it did. -/
def admitLargeSpec : ChangeSpec := { name := "admitLarge", fn := fun _ => fun
  | [d1, d2] => { results := [.lit (.bool true)], args := [d1, d2] }
  | _ => none }
def admitLargeRow : OpenClaim := { program := "ytdbbdlobahalkaa", sum := "620d820060c487655a0d31a45ad00585b4a32b6b34fcc13d0559cd44506f675a", func := "parclose/parcloselaw11.AdmitLarge", spec := "admitLarge", unfollowed := true, recurses := true, apart := false }
def AdmitLargeSaid : Prop := admitLargeRow.holds Try.pinned (OpenSpec.ofChange admitLargeSpec)

/-- ITS FALSE NEIGHBOUR: 'it returns false'. Refute it at one input. -/
def admitLargeWrong : ChangeSpec := { name := "admitLarge", fn := fun _ => fun
  | [d1, d2] => { results := [.lit (.bool false)], args := [d1, d2] }
  | _ => none }
def AdmitLargeWrongFalsely : Prop := admitLargeRow.holds Try.pinned (OpenSpec.ofChange admitLargeWrong)

/- THE SECOND FORM. 'bulk': how many values and letters a reading holds, each counted each time it is reached (what is shared counts as often as it is met; a slice's spare places count too). A statement '..UptoSaid' is the law's where the arguments, and the package variables that the reading takes, are together of bulk at most 1048576: NARROWER than '..Said'. Prove '..Said' where nothing that the law and all that it calls make is longer than what came in: it says more and counts as full. Else prove '..UptoSaid'. A law counts once. -/
mutual
def uptoBulk {H : Type} : DataW H → Nat
  | .lit (.string bytes) => bytes.length + 1
  | .lit _ => 1
  | .nil => 1
  | .ptr d => uptoBulk d + 1
  | .slice elems spare => uptoBulkAll elems + uptoBulkAll spare + 1
  | .agg parts => uptoBulkAll parts + 1
  | .iface _ d => uptoBulk d + 1
  | .map entries => uptoBulkEntries entries + 1
  | .held _ => 1
def uptoBulkAll {H : Type} : List (DataW H) → Nat
  | [] => 0
  | d :: r => uptoBulk d + uptoBulkAll r
def uptoBulkEntries {H : Type} : List (Lit × DataW H) → Nat
  | [] => 0
  | x :: r => uptoBulkEntry x + uptoBulkEntries r
def uptoBulkEntry {H : Type} : Lit × DataW H → Nat
  | (.string bytes, d) => bytes.length + uptoBulk d + 1
  | (_, d) => uptoBulk d + 1
 end
def uptoSmall : (H : Type) → List (DataW H) → Bool := fun _ ds => decide (uptoBulkAll ds ≤ 1048576)
def OpenSpec.upto (s : _root_.Go.ChangeSpec) : _root_.Go.OpenSpec := { _root_.Go.OpenSpec.ofChange s with cond := some uptoSmall }

/-- 'parcloselaw11.AdmitJust', WHERE WHAT IT READS IS OF BULK AT MOST 1048576: true; the input reads as it did. -/
def admitJustUptoRow : OpenClaim := { program := "ytdbbdlobahalkaa", sum := "620d820060c487655a0d31a45ad00585b4a32b6b34fcc13d0559cd44506f675a", func := "parclose/parcloselaw11.AdmitJust", spec := "admitJust", unfollowed := true, recurses := true, apart := false, narrowed := true }
def AdmitJustUptoSaid : Prop := admitJustUptoRow.holds Try.pinned (OpenSpec.upto admitJustSpec)

/-- 'parcloselaw11.AdmitLarge', WHERE WHAT IT READS IS OF BULK AT MOST 1048576: true; the input reads as it did. -/
def admitLargeUptoRow : OpenClaim := { program := "ytdbbdlobahalkaa", sum := "620d820060c487655a0d31a45ad00585b4a32b6b34fcc13d0559cd44506f675a", func := "parclose/parcloselaw11.AdmitLarge", spec := "admitLarge", unfollowed := true, recurses := true, apart := false, narrowed := true }
def AdmitLargeUptoSaid : Prop := admitLargeUptoRow.holds Try.pinned (OpenSpec.upto admitLargeSpec)

end Rows
end Go.Proofs.Ytdbbdlobahalkaa
