/-
  NARROWER THAN 'FOR EVERY INPUT', by the rows' own cells (each row's printed sentence says how): JournalPlays: laid · JournalWords: laid.
  DERIVED. THE GIVEN ROWS OF THIS SEAT. 2 by the template 'for every input the law returns true; each argument reads behind the call as it read before'; 0 by the template 'total and deterministic' (their statements: YtebjgfdkmociaaaDoorTotals.lean).
  GIVEN WITH THE SEED: the statements are not yours to turn. If you find one false, say at which input.
  Laid BY PROGRAM, IN A SANDBOX (cutbox-rows.mjs): the forced cells as the released guide's own fill.sh prints them over the translation 2431dade2c097a2f… (all of the seat's roots in one cut). By AI agents, Wed Nov 11 2026. No macro, syntax, notation, axiom, sorry.
-/
import Derived.Test.YtebjgfdkmociaaaDoorChecked
import GoSem.Claim
import GoSem.ClaimJoined
import GoSem.ClaimMapViews
import Derived.JoinedTies
import Derived.KernelRfl
namespace Go.Proofs.YtebjgfdkmociaaaDoor
/- THE CELL 'sum', in the pinned program and in every row, IS THE sha256 OF THE DUMP (.gsa) THAT YtebjgfdkmociaaaDoorProg.lean LOADS. Nothing in Lean hashes anything: it is a label: what it is worth is what the hold of that sum in a sandbox is worth. -/
noncomputable def Tryd.pinned : Pinned := { name := "ytebjgfdkmociaaadoor", sum := "2431dade2c097a2f82e812d027a9c53eaccaec44829b7199c2808615f693b7ec", checked := Tryd.checked }
namespace Rows
def none {H : Type} : Left H := { results := [], args := [] }

/- WHAT THE LISTED PACKAGE-LEVEL VARIABLES READ AS WHEN THE CALL BEGINS. Each datum BY PROGRAM (the guide's laid-datum.mjs) off the statement by which the dump's own 'gosem.cut.vars' lays the variable. In a bare row this is a premise. The card (YtebjgfdkmociaaaDoorCards.lean) ties it to the program's text. -/
def laid_parclose_journal_words {H : Type} : DataW H := .agg [.lit (.string [97, 99, 99, 101, 112, 116]), .lit (.string [114, 101, 102, 117, 115, 101]), .lit (.string [97, 115, 107]), .lit (.string [114, 97, 110]), .lit (.string [101, 110, 100, 101, 100]), .lit (.string [111, 118, 101, 114]), .lit (.string [109, 105, 115, 115, 101, 100]), .lit (.string [114, 111, 115, 101]), .lit (.string [100, 114, 111, 112, 112, 101, 100]), .lit (.string [102, 101, 108, 108]), .lit (.string [115, 101, 114, 118, 101, 100]), .lit (.string [111, 112]), .lit (.string [102, 97, 117, 108, 116]), .lit (.string [111, 114, 100, 101, 114]), .lit (.string [109, 97, 114, 107])]

/-- 'parcloselaw23.JournalPlays': WHATEVER THE INPUT: true; the input reads as it did. -/
def journalPlaysSpec : ChangeSpec := { name := "journalPlays", fn := fun _ => fun
  | [d1, d2, d3] => { results := [.lit (.bool true)], args := [d1, d2, d3] }
  | _ => none }
def journalPlaysRow : OpenClaim := { program := "ytebjgfdkmociaaadoor", sum := "2431dade2c097a2f82e812d027a9c53eaccaec44829b7199c2808615f693b7ec", func := "parclose/parcloselaw23.JournalPlays", spec := "journalPlays", unfollowed := true, recurses := true, named := ["parclose/journal.words"], apart := false, laid := [("parclose/journal.words", laid_parclose_journal_words)] }
def JournalPlaysSaid : Prop := journalPlaysRow.holds Tryd.pinned (OpenSpec.ofChange journalPlaysSpec)

/-- ITS FALSE NEIGHBOUR: 'it returns false'. Refute it at one input. -/
def journalPlaysWrong : ChangeSpec := { name := "journalPlays", fn := fun _ => fun
  | [d1, d2, d3] => { results := [.lit (.bool false)], args := [d1, d2, d3] }
  | _ => none }
def JournalPlaysWrongFalsely : Prop := journalPlaysRow.holds Tryd.pinned (OpenSpec.ofChange journalPlaysWrong)

/-- 'parcloselaw23.JournalWords': WHATEVER THE INPUT: true; the input reads as it did. -/
def journalWordsSpec : ChangeSpec := { name := "journalWords", fn := fun _ => fun
  | [d1, d2, d3] => { results := [.lit (.bool true)], args := [d1, d2, d3] }
  | _ => none }
def journalWordsRow : OpenClaim := { program := "ytebjgfdkmociaaadoor", sum := "2431dade2c097a2f82e812d027a9c53eaccaec44829b7199c2808615f693b7ec", func := "parclose/parcloselaw23.JournalWords", spec := "journalWords", unfollowed := true, recurses := true, named := ["parclose/journal.words"], apart := false, laid := [("parclose/journal.words", laid_parclose_journal_words)] }
def JournalWordsSaid : Prop := journalWordsRow.holds Tryd.pinned (OpenSpec.ofChange journalWordsSpec)

/-- ITS FALSE NEIGHBOUR: 'it returns false'. Refute it at one input. -/
def journalWordsWrong : ChangeSpec := { name := "journalWords", fn := fun _ => fun
  | [d1, d2, d3] => { results := [.lit (.bool false)], args := [d1, d2, d3] }
  | _ => none }
def JournalWordsWrongFalsely : Prop := journalWordsRow.holds Tryd.pinned (OpenSpec.ofChange journalWordsWrong)

/- THE SECOND FORM. 'bulk': how many values and letters a reading holds, each counted each time it is reached (what is shared counts as often as it is met; a slice's spare places count too). A statement '..UptoSaid' is the law's where the arguments, and the package variables that the reading takes, are together of bulk at most 1048576: NARROWER than '..Said'. Prove '..Said' where nothing that the law and all that it calls make is longer than what came in: it says more and counts as full. Else prove '..UptoSaid'. A law counts once. -/
mutual
def uptoBulk {H : Type} : DataW H → Nat
  | .lit (.string bytes) => bytes.length + 1
  | .lit _ => 1
  | .nil => 1
  | .ptr d => uptoBulk d + 1
  | .slice elems spare => uptoBulkAll elems + uptoBulkAll spare + 1
  | .agg parts => uptoBulkAll parts + 1
  | .iface _ d => uptoBulk d + 1
  | .map entries => uptoBulkEntries entries + 1
  | .held _ => 1
def uptoBulkAll {H : Type} : List (DataW H) → Nat
  | [] => 0
  | d :: r => uptoBulk d + uptoBulkAll r
def uptoBulkEntries {H : Type} : List (Lit × DataW H) → Nat
  | [] => 0
  | x :: r => uptoBulkEntry x + uptoBulkEntries r
def uptoBulkEntry {H : Type} : Lit × DataW H → Nat
  | (.string bytes, d) => bytes.length + uptoBulk d + 1
  | (_, d) => uptoBulk d + 1
 end
def uptoSmall : (H : Type) → List (DataW H) → Bool := fun _ ds => decide (uptoBulkAll ds ≤ 1048576)
def OpenSpec.upto (s : _root_.Go.ChangeSpec) : _root_.Go.OpenSpec := { _root_.Go.OpenSpec.ofChange s with cond := some uptoSmall }

/-- 'parcloselaw23.JournalPlays', WHERE WHAT IT READS IS OF BULK AT MOST 1048576: true; the input reads as it did. -/
def journalPlaysUptoRow : OpenClaim := { program := "ytebjgfdkmociaaadoor", sum := "2431dade2c097a2f82e812d027a9c53eaccaec44829b7199c2808615f693b7ec", func := "parclose/parcloselaw23.JournalPlays", spec := "journalPlays", unfollowed := true, recurses := true, named := ["parclose/journal.words"], apart := false, laid := [("parclose/journal.words", laid_parclose_journal_words)], narrowed := true }
def JournalPlaysUptoSaid : Prop := journalPlaysUptoRow.holds Tryd.pinned (OpenSpec.upto journalPlaysSpec)

/-- 'parcloselaw23.JournalWords', WHERE WHAT IT READS IS OF BULK AT MOST 1048576: true; the input reads as it did. -/
def journalWordsUptoRow : OpenClaim := { program := "ytebjgfdkmociaaadoor", sum := "2431dade2c097a2f82e812d027a9c53eaccaec44829b7199c2808615f693b7ec", func := "parclose/parcloselaw23.JournalWords", spec := "journalWords", unfollowed := true, recurses := true, named := ["parclose/journal.words"], apart := false, laid := [("parclose/journal.words", laid_parclose_journal_words)], narrowed := true }
def JournalWordsUptoSaid : Prop := journalWordsUptoRow.holds Tryd.pinned (OpenSpec.upto journalWordsSpec)

end Rows
end Go.Proofs.YtebjgfdkmociaaaDoor
