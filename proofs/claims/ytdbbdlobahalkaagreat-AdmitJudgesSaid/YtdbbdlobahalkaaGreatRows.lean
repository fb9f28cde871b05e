/-
  No cell of these rows narrows 'for every input' (looked for: loops, veiled, ifaces, maps, wideKeys, modest, calm, conditions, laid).
  DERIVED. THE GIVEN ROWS OF THIS SEAT. 3 by the template 'for every input the law returns true; each argument reads behind the call as it read before'; 0 by the template 'total and deterministic' (their statements: YtdbbdlobahalkaaGreatTotals.lean).
  GIVEN WITH THE SEED: the statements are not yours to turn. If you find one false, say at which input.
  Laid BY PROGRAM, IN A SANDBOX (cutbox-rows.mjs): the forced cells as the released guide's own fill.sh prints them over the translation 1a03464708497614… (all of the seat's roots in one cut). By AI agents, Wed Nov 11 2026. No macro, syntax, notation, axiom, sorry.
-/
import Derived.Test.YtdbbdlobahalkaaGreatChecked
import GoSem.Claim
import GoSem.ClaimJoined
import GoSem.ClaimMapViews
import Derived.JoinedTies
import Derived.KernelRfl
namespace Go.Proofs.YtdbbdlobahalkaaGreat
/- THE CELL 'sum', in the pinned program and in every row, IS THE sha256 OF THE DUMP (.gsa) THAT YtdbbdlobahalkaaGreatProg.lean LOADS. Nothing in Lean hashes anything: it is a label: what it is worth is what the hold of that sum in a sandbox is worth. -/
noncomputable def Tryz.pinned : Pinned := { name := "ytdbbdlobahalkaagreat", sum := "1a034647084976143f1e4d4a55f7ccd7be0c50bc77b5c5ea0e0aee88fd862fc4", checked := Tryz.checked }
namespace Rows
def none {H : Type} : Left H := { results := [], args := [] }

/-- 'parcloselaw11.AdmitJudges': WHATEVER THE INPUT: true; the input reads as it did. -/
def admitJudgesSpec : ChangeSpec := { name := "admitJudges", fn := fun _ => fun
  | [d1, d2] => { results := [.lit (.bool true)], args := [d1, d2] }
  | _ => none }
def admitJudgesRow : OpenClaim := { program := "ytdbbdlobahalkaagreat", sum := "1a034647084976143f1e4d4a55f7ccd7be0c50bc77b5c5ea0e0aee88fd862fc4", func := "parclose/parcloselaw11.AdmitJudges", spec := "admitJudges", unfollowed := true, recurses := true, apart := false }
def AdmitJudgesSaid : Prop := admitJudgesRow.holds Tryz.pinned (OpenSpec.ofChange admitJudgesSpec)

/-- ITS FALSE NEIGHBOUR: 'it returns false'. Refute it at one input. -/
def admitJudgesWrong : ChangeSpec := { name := "admitJudges", fn := fun _ => fun
  | [d1, d2] => { results := [.lit (.bool false)], args := [d1, d2] }
  | _ => none }
def AdmitJudgesWrongFalsely : Prop := admitJudgesRow.holds Tryz.pinned (OpenSpec.ofChange admitJudgesWrong)

/-- 'parcloselaw11.AdmitPhases': WHATEVER THE INPUT: true; the input reads as it did. -/
def admitPhasesSpec : ChangeSpec := { name := "admitPhases", fn := fun _ => fun
  | [d1, d2, d3, d4] => { results := [.lit (.bool true)], args := [d1, d2, d3, d4] }
  | _ => none }
def admitPhasesRow : OpenClaim := { program := "ytdbbdlobahalkaagreat", sum := "1a034647084976143f1e4d4a55f7ccd7be0c50bc77b5c5ea0e0aee88fd862fc4", func := "parclose/parcloselaw11.AdmitPhases", spec := "admitPhases", unfollowed := true, recurses := true, apart := false }
def AdmitPhasesSaid : Prop := admitPhasesRow.holds Tryz.pinned (OpenSpec.ofChange admitPhasesSpec)

/-- ITS FALSE NEIGHBOUR: 'it returns false'. Refute it at one input. -/
def admitPhasesWrong : ChangeSpec := { name := "admitPhases", fn := fun _ => fun
  | [d1, d2, d3, d4] => { results := [.lit (.bool false)], args := [d1, d2, d3, d4] }
  | _ => none }
def AdmitPhasesWrongFalsely : Prop := admitPhasesRow.holds Tryz.pinned (OpenSpec.ofChange admitPhasesWrong)

/-- 'parcloselaw11.AdmitNoWay': WHATEVER THE INPUT: true; the input reads as it did. -/
def admitNoWaySpec : ChangeSpec := { name := "admitNoWay", fn := fun _ => fun
  | [d] => { results := [.lit (.bool true)], args := [d] }
  | _ => none }
def admitNoWayRow : OpenClaim := { program := "ytdbbdlobahalkaagreat", sum := "1a034647084976143f1e4d4a55f7ccd7be0c50bc77b5c5ea0e0aee88fd862fc4", func := "parclose/parcloselaw11.AdmitNoWay", spec := "admitNoWay", unfollowed := true, recurses := true, apart := false }
def AdmitNoWaySaid : Prop := admitNoWayRow.holds Tryz.pinned (OpenSpec.ofChange admitNoWaySpec)

/-- ITS FALSE NEIGHBOUR: 'it returns false'. Refute it at one input. -/
def admitNoWayWrong : ChangeSpec := { name := "admitNoWay", fn := fun _ => fun
  | [d] => { results := [.lit (.bool false)], args := [d] }
  | _ => none }
def AdmitNoWayWrongFalsely : Prop := admitNoWayRow.holds Tryz.pinned (OpenSpec.ofChange admitNoWayWrong)

/- THE SECOND FORM. 'bulk': how many values and letters a reading holds, each counted each time it is reached (what is shared counts as often as it is met; a slice's spare places count too). A statement '..UptoSaid' is the law's where the arguments, and the package variables that the reading takes, are together of bulk at most 1048576: NARROWER than '..Said'. Prove '..Said' where nothing that the law and all that it calls make is longer than what came in: it says more and counts as full. Else prove '..UptoSaid'. A law counts once. -/
mutual
def uptoBulk {H : Type} : DataW H → Nat
  | .lit (.string bytes) => bytes.length + 1
  | .lit _ => 1
  | .nil => 1
  | .ptr d => uptoBulk d + 1
  | .slice elems spare => uptoBulkAll elems + uptoBulkAll spare + 1
  | .agg parts => uptoBulkAll parts + 1
  | .iface _ d => uptoBulk d + 1
  | .map entries => uptoBulkEntries entries + 1
  | .held _ => 1
def uptoBulkAll {H : Type} : List (DataW H) → Nat
  | [] => 0
  | d :: r => uptoBulk d + uptoBulkAll r
def uptoBulkEntries {H : Type} : List (Lit × DataW H) → Nat
  | [] => 0
  | x :: r => uptoBulkEntry x + uptoBulkEntries r
def uptoBulkEntry {H : Type} : Lit × DataW H → Nat
  | (.string bytes, d) => bytes.length + uptoBulk d + 1
  | (_, d) => uptoBulk d + 1
 end
def uptoSmall : (H : Type) → List (DataW H) → Bool := fun _ ds => decide (uptoBulkAll ds ≤ 1048576)
def OpenSpec.upto (s : _root_.Go.ChangeSpec) : _root_.Go.OpenSpec := { _root_.Go.OpenSpec.ofChange s with cond := some uptoSmall }

/-- 'parcloselaw11.AdmitJudges', WHERE WHAT IT READS IS OF BULK AT MOST 1048576: true; the input reads as it did. -/
def admitJudgesUptoRow : OpenClaim := { program := "ytdbbdlobahalkaagreat", sum := "1a034647084976143f1e4d4a55f7ccd7be0c50bc77b5c5ea0e0aee88fd862fc4", func := "parclose/parcloselaw11.AdmitJudges", spec := "admitJudges", unfollowed := true, recurses := true, apart := false, narrowed := true }
def AdmitJudgesUptoSaid : Prop := admitJudgesUptoRow.holds Tryz.pinned (OpenSpec.upto admitJudgesSpec)

/-- 'parcloselaw11.AdmitPhases', WHERE WHAT IT READS IS OF BULK AT MOST 1048576: true; the input reads as it did. -/
def admitPhasesUptoRow : OpenClaim := { program := "ytdbbdlobahalkaagreat", sum := "1a034647084976143f1e4d4a55f7ccd7be0c50bc77b5c5ea0e0aee88fd862fc4", func := "parclose/parcloselaw11.AdmitPhases", spec := "admitPhases", unfollowed := true, recurses := true, apart := false, narrowed := true }
def AdmitPhasesUptoSaid : Prop := admitPhasesUptoRow.holds Tryz.pinned (OpenSpec.upto admitPhasesSpec)

/-- 'parcloselaw11.AdmitNoWay', WHERE WHAT IT READS IS OF BULK AT MOST 1048576: true; the input reads as it did. -/
def admitNoWayUptoRow : OpenClaim := { program := "ytdbbdlobahalkaagreat", sum := "1a034647084976143f1e4d4a55f7ccd7be0c50bc77b5c5ea0e0aee88fd862fc4", func := "parclose/parcloselaw11.AdmitNoWay", spec := "admitNoWay", unfollowed := true, recurses := true, apart := false, narrowed := true }
def AdmitNoWayUptoSaid : Prop := admitNoWayUptoRow.holds Tryz.pinned (OpenSpec.upto admitNoWaySpec)

end Rows
end Go.Proofs.YtdbbdlobahalkaaGreat
