/-
  No cell of these rows narrows 'for every input' (looked for: loops, veiled, ifaces, maps, wideKeys, modest, calm, conditions, laid).
  DERIVED. THE GIVEN ROWS OF THIS SEAT. 3 by the template 'for every input the law returns true; each argument reads behind the call as it read before'; 0 by the template 'total and deterministic' (their statements: YtackgfjgephhoaaTotals.lean).
  GIVEN WITH THE SEED: the statements are not yours to turn. If you find one false, say at which input.
  Laid BY PROGRAM, IN A SANDBOX (cutbox-rows.mjs): the forced cells as the released guide's own fill.sh prints them over the translation eedefd3968fc1f3a… (all of the seat's roots in one cut). By AI agents, Wed Nov 11 2026. No macro, syntax, notation, axiom, sorry.
-/
import Derived.Test.YtackgfjgephhoaaChecked
import GoSem.Claim
import GoSem.ClaimJoined
import GoSem.ClaimMapViews
import Derived.JoinedTies
import Derived.KernelRfl
namespace Go.Proofs.Ytackgfjgephhoaa
/- THE CELL 'sum', in the pinned program and in every row, IS THE sha256 OF THE DUMP (.gsa) THAT YtackgfjgephhoaaProg.lean LOADS. Nothing in Lean hashes anything: it is a label: what it is worth is what the hold of that sum in a sandbox is worth. -/
noncomputable def Try.pinned : Pinned := { name := "ytackgfjgephhoaa", sum := "eedefd3968fc1f3ae5d2a67c5e685c741492da587cb4905c2931cba7fece2dbd", checked := Try.checked }
namespace Rows
def none {H : Type} : Left H := { results := [], args := [] }

/-- 'parcloselaw16.PolicePlays': WHATEVER THE INPUT: true; the input reads as it did. -/
def policePlaysSpec : ChangeSpec := { name := "policePlays", fn := fun _ => fun
  | [d1, d2] => { results := [.lit (.bool true)], args := [d1, d2] }
  | _ => none }
def policePlaysRow : OpenClaim := { program := "ytackgfjgephhoaa", sum := "eedefd3968fc1f3ae5d2a67c5e685c741492da587cb4905c2931cba7fece2dbd", func := "parclose/parcloselaw16.PolicePlays", spec := "policePlays", unfollowed := true, recurses := true, apart := false }
def PolicePlaysSaid : Prop := policePlaysRow.holds Try.pinned (OpenSpec.ofChange policePlaysSpec)

/-- ITS FALSE NEIGHBOUR: 'it returns false'. Refute it at one input. -/
def policePlaysWrong : ChangeSpec := { name := "policePlays", fn := fun _ => fun
  | [d1, d2] => { results := [.lit (.bool false)], args := [d1, d2] }
  | _ => none }
def PolicePlaysWrongFalsely : Prop := policePlaysRow.holds Try.pinned (OpenSpec.ofChange policePlaysWrong)

/-- 'parcloselaw16.PoliceApart': WHATEVER THE INPUT: true; the input reads as it did. -/
def policeApartSpec : ChangeSpec := { name := "policeApart", fn := fun _ => fun
  | [d1, d2, d3] => { results := [.lit (.bool true)], args := [d1, d2, d3] }
  | _ => none }
def policeApartRow : OpenClaim := { program := "ytackgfjgephhoaa", sum := "eedefd3968fc1f3ae5d2a67c5e685c741492da587cb4905c2931cba7fece2dbd", func := "parclose/parcloselaw16.PoliceApart", spec := "policeApart", unfollowed := true, recurses := true, apart := false }
def PoliceApartSaid : Prop := policeApartRow.holds Try.pinned (OpenSpec.ofChange policeApartSpec)

/-- ITS FALSE NEIGHBOUR: 'it returns false'. Refute it at one input. -/
def policeApartWrong : ChangeSpec := { name := "policeApart", fn := fun _ => fun
  | [d1, d2, d3] => { results := [.lit (.bool false)], args := [d1, d2, d3] }
  | _ => none }
def PoliceApartWrongFalsely : Prop := policeApartRow.holds Try.pinned (OpenSpec.ofChange policeApartWrong)

/-- 'parcloselaw16.PoliceNil': WHATEVER THE INPUT: true; the input reads as it did. -/
def policeNilSpec : ChangeSpec := { name := "policeNil", fn := fun _ => fun
  | [d] => { results := [.lit (.bool true)], args := [d] }
  | _ => none }
def policeNilRow : OpenClaim := { program := "ytackgfjgephhoaa", sum := "eedefd3968fc1f3ae5d2a67c5e685c741492da587cb4905c2931cba7fece2dbd", func := "parclose/parcloselaw16.PoliceNil", spec := "policeNil", unfollowed := true, recurses := true, apart := false }
def PoliceNilSaid : Prop := policeNilRow.holds Try.pinned (OpenSpec.ofChange policeNilSpec)

/-- ITS FALSE NEIGHBOUR: 'it returns false'. Refute it at one input. -/
def policeNilWrong : ChangeSpec := { name := "policeNil", fn := fun _ => fun
  | [d] => { results := [.lit (.bool false)], args := [d] }
  | _ => none }
def PoliceNilWrongFalsely : Prop := policeNilRow.holds Try.pinned (OpenSpec.ofChange policeNilWrong)

/- THE SECOND FORM. 'bulk': how many values and letters a reading holds, each counted each time it is reached (what is shared counts as often as it is met; a slice's spare places count too). A statement '..UptoSaid' is the law's where the arguments, and the package variables that the reading takes, are together of bulk at most 1048576: NARROWER than '..Said'. Prove '..Said' where nothing that the law and all that it calls make is longer than what came in: it says more and counts as full. Else prove '..UptoSaid'. A law counts once. -/
mutual
def uptoBulk {H : Type} : DataW H → Nat
  | .lit (.string bytes) => bytes.length + 1
  | .lit _ => 1
  | .nil => 1
  | .ptr d => uptoBulk d + 1
  | .slice elems spare => uptoBulkAll elems + uptoBulkAll spare + 1
  | .agg parts => uptoBulkAll parts + 1
  | .iface _ d => uptoBulk d + 1
  | .map entries => uptoBulkEntries entries + 1
  | .held _ => 1
def uptoBulkAll {H : Type} : List (DataW H) → Nat
  | [] => 0
  | d :: r => uptoBulk d + uptoBulkAll r
def uptoBulkEntries {H : Type} : List (Lit × DataW H) → Nat
  | [] => 0
  | x :: r => uptoBulkEntry x + uptoBulkEntries r
def uptoBulkEntry {H : Type} : Lit × DataW H → Nat
  | (.string bytes, d) => bytes.length + uptoBulk d + 1
  | (_, d) => uptoBulk d + 1
 end
def uptoSmall : (H : Type) → List (DataW H) → Bool := fun _ ds => decide (uptoBulkAll ds ≤ 1048576)
def OpenSpec.upto (s : _root_.Go.ChangeSpec) : _root_.Go.OpenSpec := { _root_.Go.OpenSpec.ofChange s with cond := some uptoSmall }

/-- 'parcloselaw16.PolicePlays', WHERE WHAT IT READS IS OF BULK AT MOST 1048576: true; the input reads as it did. -/
def policePlaysUptoRow : OpenClaim := { program := "ytackgfjgephhoaa", sum := "eedefd3968fc1f3ae5d2a67c5e685c741492da587cb4905c2931cba7fece2dbd", func := "parclose/parcloselaw16.PolicePlays", spec := "policePlays", unfollowed := true, recurses := true, apart := false, narrowed := true }
def PolicePlaysUptoSaid : Prop := policePlaysUptoRow.holds Try.pinned (OpenSpec.upto policePlaysSpec)

/-- 'parcloselaw16.PoliceApart', WHERE WHAT IT READS IS OF BULK AT MOST 1048576: true; the input reads as it did. -/
def policeApartUptoRow : OpenClaim := { program := "ytackgfjgephhoaa", sum := "eedefd3968fc1f3ae5d2a67c5e685c741492da587cb4905c2931cba7fece2dbd", func := "parclose/parcloselaw16.PoliceApart", spec := "policeApart", unfollowed := true, recurses := true, apart := false, narrowed := true }
def PoliceApartUptoSaid : Prop := policeApartUptoRow.holds Try.pinned (OpenSpec.upto policeApartSpec)

/-- 'parcloselaw16.PoliceNil', WHERE WHAT IT READS IS OF BULK AT MOST 1048576: true; the input reads as it did. -/
def policeNilUptoRow : OpenClaim := { program := "ytackgfjgephhoaa", sum := "eedefd3968fc1f3ae5d2a67c5e685c741492da587cb4905c2931cba7fece2dbd", func := "parclose/parcloselaw16.PoliceNil", spec := "policeNil", unfollowed := true, recurses := true, apart := false, narrowed := true }
def PoliceNilUptoSaid : Prop := policeNilUptoRow.holds Try.pinned (OpenSpec.upto policeNilSpec)

end Rows
end Go.Proofs.Ytackgfjgephhoaa
