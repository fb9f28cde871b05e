/-
  No cell of these rows narrows 'for every input' (looked for: loops, veiled, ifaces, maps, wideKeys, modest, calm, conditions, laid).
  DERIVED. THE GIVEN ROWS OF THIS SEAT. 4 by the template 'for every input the law returns true; each argument reads behind the call as it read before'; 0 by the template 'total and deterministic' (their statements: YtkikapodobeaaaaTotals.lean).
  GIVEN WITH THE SEED: the statements are not yours to turn. If you find one false, say at which input.
  Laid BY PROGRAM, IN A SANDBOX (cutbox-rows.mjs): the forced cells as the released guide's own fill.sh prints them over the translation 50054ab7f675d0e3… (all of the seat's roots in one cut). By AI agents, Wed Nov 11 2026. No macro, syntax, notation, axiom, sorry.
-/
import Derived.Test.YtkikapodobeaaaaChecked
import GoSem.Claim
import GoSem.ClaimJoined
import GoSem.ClaimMapViews
import Derived.JoinedTies
import Derived.KernelRfl
namespace Go.Proofs.Ytkikapodobeaaaa
/- THE CELL 'sum', in the pinned program and in every row, IS THE sha256 OF THE DUMP (.gsa) THAT YtkikapodobeaaaaProg.lean LOADS. Nothing in Lean hashes anything: it is a label: what it is worth is what the hold of that sum in a sandbox is worth. -/
noncomputable def Try.pinned : Pinned := { name := "ytkikapodobeaaaa", sum := "50054ab7f675d0e3cf7538ed0472444cfb00e562b0b35cd2939bd94f0b9bc675", checked := Try.checked }
namespace Rows
def none {H : Type} : Left H := { results := [], args := [] }

/-- 'parcloselaw07.FlowEdges': WHATEVER THE INPUT: true; the input reads as it did. -/
def flowEdgesSpec : ChangeSpec := { name := "flowEdges", fn := fun _ => fun
  | [d] => { results := [.lit (.bool true)], args := [d] }
  | _ => none }
def flowEdgesRow : OpenClaim := { program := "ytkikapodobeaaaa", sum := "50054ab7f675d0e3cf7538ed0472444cfb00e562b0b35cd2939bd94f0b9bc675", func := "parclose/parcloselaw07.FlowEdges", spec := "flowEdges", unfollowed := true, recurses := true, plainKeys := false, apart := false }
def FlowEdgesSaid : Prop := flowEdgesRow.holds Try.pinned (OpenSpec.ofChange flowEdgesSpec)

/-- ITS FALSE NEIGHBOUR: 'it returns false'. Refute it at one input. -/
def flowEdgesWrong : ChangeSpec := { name := "flowEdges", fn := fun _ => fun
  | [d] => { results := [.lit (.bool false)], args := [d] }
  | _ => none }
def FlowEdgesWrongFalsely : Prop := flowEdgesRow.holds Try.pinned (OpenSpec.ofChange flowEdgesWrong)

/-- 'parcloselaw07.FlowInto': WHATEVER THE INPUT: true; the input reads as it did. -/
def flowIntoSpec : ChangeSpec := { name := "flowInto", fn := fun _ => fun
  | [d1, d2, d3, d4] => { results := [.lit (.bool true)], args := [d1, d2, d3, d4] }
  | _ => none }
def flowIntoRow : OpenClaim := { program := "ytkikapodobeaaaa", sum := "50054ab7f675d0e3cf7538ed0472444cfb00e562b0b35cd2939bd94f0b9bc675", func := "parclose/parcloselaw07.FlowInto", spec := "flowInto", unfollowed := true, recurses := true, plainKeys := false, apart := false }
def FlowIntoSaid : Prop := flowIntoRow.holds Try.pinned (OpenSpec.ofChange flowIntoSpec)

/-- ITS FALSE NEIGHBOUR: 'it returns false'. Refute it at one input. -/
def flowIntoWrong : ChangeSpec := { name := "flowInto", fn := fun _ => fun
  | [d1, d2, d3, d4] => { results := [.lit (.bool false)], args := [d1, d2, d3, d4] }
  | _ => none }
def FlowIntoWrongFalsely : Prop := flowIntoRow.holds Try.pinned (OpenSpec.ofChange flowIntoWrong)

/-- 'parcloselaw07.FlowClosed': WHATEVER THE INPUT: true; the input reads as it did. -/
def flowClosedSpec : ChangeSpec := { name := "flowClosed", fn := fun _ => fun
  | [d1, d2] => { results := [.lit (.bool true)], args := [d1, d2] }
  | _ => none }
def flowClosedRow : OpenClaim := { program := "ytkikapodobeaaaa", sum := "50054ab7f675d0e3cf7538ed0472444cfb00e562b0b35cd2939bd94f0b9bc675", func := "parclose/parcloselaw07.FlowClosed", spec := "flowClosed", unfollowed := true, recurses := true, plainKeys := false, apart := false }
def FlowClosedSaid : Prop := flowClosedRow.holds Try.pinned (OpenSpec.ofChange flowClosedSpec)

/-- ITS FALSE NEIGHBOUR: 'it returns false'. Refute it at one input. -/
def flowClosedWrong : ChangeSpec := { name := "flowClosed", fn := fun _ => fun
  | [d1, d2] => { results := [.lit (.bool false)], args := [d1, d2] }
  | _ => none }
def FlowClosedWrongFalsely : Prop := flowClosedRow.holds Try.pinned (OpenSpec.ofChange flowClosedWrong)

/-- 'parcloselaw07.FlowGrows': WHATEVER THE INPUT: true; the input reads as it did. -/
def flowGrowsSpec : ChangeSpec := { name := "flowGrows", fn := fun _ => fun
  | [d1, d2, d3] => { results := [.lit (.bool true)], args := [d1, d2, d3] }
  | _ => none }
def flowGrowsRow : OpenClaim := { program := "ytkikapodobeaaaa", sum := "50054ab7f675d0e3cf7538ed0472444cfb00e562b0b35cd2939bd94f0b9bc675", func := "parclose/parcloselaw07.FlowGrows", spec := "flowGrows", unfollowed := true, recurses := true, plainKeys := false, apart := false }
def FlowGrowsSaid : Prop := flowGrowsRow.holds Try.pinned (OpenSpec.ofChange flowGrowsSpec)

/-- ITS FALSE NEIGHBOUR: 'it returns false'. Refute it at one input. -/
def flowGrowsWrong : ChangeSpec := { name := "flowGrows", fn := fun _ => fun
  | [d1, d2, d3] => { results := [.lit (.bool false)], args := [d1, d2, d3] }
  | _ => none }
def FlowGrowsWrongFalsely : Prop := flowGrowsRow.holds Try.pinned (OpenSpec.ofChange flowGrowsWrong)

/- THE SECOND FORM. 'bulk': how many values and letters a reading holds, each counted each time it is reached (what is shared counts as often as it is met; a slice's spare places count too). A statement '..UptoSaid' is the law's where the arguments, and the package variables that the reading takes, are together of bulk at most 1048576: NARROWER than '..Said'. Prove '..Said' where nothing that the law and all that it calls make is longer than what came in: it says more and counts as full. Else prove '..UptoSaid'. A law counts once. -/
mutual
def uptoBulk {H : Type} : DataW H → Nat
  | .lit (.string bytes) => bytes.length + 1
  | .lit _ => 1
  | .nil => 1
  | .ptr d => uptoBulk d + 1
  | .slice elems spare => uptoBulkAll elems + uptoBulkAll spare + 1
  | .agg parts => uptoBulkAll parts + 1
  | .iface _ d => uptoBulk d + 1
  | .map entries => uptoBulkEntries entries + 1
  | .held _ => 1
def uptoBulkAll {H : Type} : List (DataW H) → Nat
  | [] => 0
  | d :: r => uptoBulk d + uptoBulkAll r
def uptoBulkEntries {H : Type} : List (Lit × DataW H) → Nat
  | [] => 0
  | x :: r => uptoBulkEntry x + uptoBulkEntries r
def uptoBulkEntry {H : Type} : Lit × DataW H → Nat
  | (.string bytes, d) => bytes.length + uptoBulk d + 1
  | (_, d) => uptoBulk d + 1
 end
def uptoSmall : (H : Type) → List (DataW H) → Bool := fun _ ds => decide (uptoBulkAll ds ≤ 1048576)
def OpenSpec.upto (s : _root_.Go.ChangeSpec) : _root_.Go.OpenSpec := { _root_.Go.OpenSpec.ofChange s with cond := some uptoSmall }

/-- 'parcloselaw07.FlowEdges', WHERE WHAT IT READS IS OF BULK AT MOST 1048576: true; the input reads as it did. -/
def flowEdgesUptoRow : OpenClaim := { program := "ytkikapodobeaaaa", sum := "50054ab7f675d0e3cf7538ed0472444cfb00e562b0b35cd2939bd94f0b9bc675", func := "parclose/parcloselaw07.FlowEdges", spec := "flowEdges", unfollowed := true, recurses := true, plainKeys := false, apart := false, narrowed := true }
def FlowEdgesUptoSaid : Prop := flowEdgesUptoRow.holds Try.pinned (OpenSpec.upto flowEdgesSpec)

/-- 'parcloselaw07.FlowInto', WHERE WHAT IT READS IS OF BULK AT MOST 1048576: true; the input reads as it did. -/
def flowIntoUptoRow : OpenClaim := { program := "ytkikapodobeaaaa", sum := "50054ab7f675d0e3cf7538ed0472444cfb00e562b0b35cd2939bd94f0b9bc675", func := "parclose/parcloselaw07.FlowInto", spec := "flowInto", unfollowed := true, recurses := true, plainKeys := false, apart := false, narrowed := true }
def FlowIntoUptoSaid : Prop := flowIntoUptoRow.holds Try.pinned (OpenSpec.upto flowIntoSpec)

/-- 'parcloselaw07.FlowClosed', WHERE WHAT IT READS IS OF BULK AT MOST 1048576: true; the input reads as it did. -/
def flowClosedUptoRow : OpenClaim := { program := "ytkikapodobeaaaa", sum := "50054ab7f675d0e3cf7538ed0472444cfb00e562b0b35cd2939bd94f0b9bc675", func := "parclose/parcloselaw07.FlowClosed", spec := "flowClosed", unfollowed := true, recurses := true, plainKeys := false, apart := false, narrowed := true }
def FlowClosedUptoSaid : Prop := flowClosedUptoRow.holds Try.pinned (OpenSpec.upto flowClosedSpec)

/-- 'parcloselaw07.FlowGrows', WHERE WHAT IT READS IS OF BULK AT MOST 1048576: true; the input reads as it did. -/
def flowGrowsUptoRow : OpenClaim := { program := "ytkikapodobeaaaa", sum := "50054ab7f675d0e3cf7538ed0472444cfb00e562b0b35cd2939bd94f0b9bc675", func := "parclose/parcloselaw07.FlowGrows", spec := "flowGrows", unfollowed := true, recurses := true, plainKeys := false, apart := false, narrowed := true }
def FlowGrowsUptoSaid : Prop := flowGrowsUptoRow.holds Try.pinned (OpenSpec.upto flowGrowsSpec)

end Rows
end Go.Proofs.Ytkikapodobeaaaa
