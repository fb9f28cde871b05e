/-
  DERIVED. GIVEN WITH THE SEED: THE CARDS: each row of YtebjgfdkmociaaaDoorRows.lean that lists a variable, with what it lists TIED to the program's text (the seventh form; the later family's looks); each row that meets fmt, with fmt's text TOLD by the authors' own Lean function (tested against real Go, not proved from fmt's source: count such statements apart). THE CARD IS WHAT COUNTS. Prove the row's statement (the work); the ties are given (YtebjgfdkmociaaaDoorTie.lean); close each card by the builder's one call (the guide's Derived/Test/ToyasCard.lean, 'card_holds'). Laid BY PROGRAM, IN A SANDBOX (cutbox-door.mjs). By AI agents, Wed Nov 11 2026. No macro, syntax, notation, axiom, sorry.
-/
import Derived.Test.YtebjgfdkmociaaaDoorRows
import GoSem.ClaimSeven
namespace Go.Proofs.YtebjgfdkmociaaaDoor
namespace Rows

/-- THE TIED CARD OF 'parcloselaw23.JournalPlays'. -/
def journalPlaysCard : Claim7 := { stood := { row := journalPlaysRow, standIns := [], harness := (true, "c5ea078e54bba23d3b10aae12460463cdbefd156aa419b838c439ac2b5f1af88"), looks := false }, kinds := [], alts := [], laidByText := true, laidKinds := [.data], laidTests := true, laidLooks := .later }
def JournalPlaysCardSaid : Prop := Claim7.holds Tryd.pinned (.plain (OpenSpec.ofChange journalPlaysSpec)) journalPlaysCard

/-- THE TIED CARD OF 'parcloselaw23.JournalWords'. -/
def journalWordsCard : Claim7 := { stood := { row := journalWordsRow, standIns := [], harness := (true, "c5ea078e54bba23d3b10aae12460463cdbefd156aa419b838c439ac2b5f1af88"), looks := false }, kinds := [], alts := [], laidByText := true, laidKinds := [.data], laidTests := true, laidLooks := .later }
def JournalWordsCardSaid : Prop := Claim7.holds Tryd.pinned (.plain (OpenSpec.ofChange journalWordsSpec)) journalWordsCard

/-- THE SECOND FORM's CARD OF 'parcloselaw23.JournalPlays'. -/
def journalPlaysUptoCard : Claim7 := { stood := { row := journalPlaysUptoRow, standIns := [], harness := (true, "c5ea078e54bba23d3b10aae12460463cdbefd156aa419b838c439ac2b5f1af88"), looks := false }, kinds := [], alts := [], laidByText := true, laidKinds := [.data], laidTests := true, laidLooks := .later }
def JournalPlaysUptoCardSaid : Prop := Claim7.holds Tryd.pinned (.plain (OpenSpec.upto journalPlaysSpec)) journalPlaysUptoCard

/-- THE SECOND FORM's CARD OF 'parcloselaw23.JournalWords'. -/
def journalWordsUptoCard : Claim7 := { stood := { row := journalWordsUptoRow, standIns := [], harness := (true, "c5ea078e54bba23d3b10aae12460463cdbefd156aa419b838c439ac2b5f1af88"), looks := false }, kinds := [], alts := [], laidByText := true, laidKinds := [.data], laidTests := true, laidLooks := .later }
def JournalWordsUptoCardSaid : Prop := Claim7.holds Tryd.pinned (.plain (OpenSpec.upto journalWordsSpec)) journalWordsUptoCard
end Rows
end Go.Proofs.YtebjgfdkmociaaaDoor
