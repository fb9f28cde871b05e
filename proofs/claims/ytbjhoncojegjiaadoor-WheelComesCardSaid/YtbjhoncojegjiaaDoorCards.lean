/-
  DERIVED. GIVEN WITH THE SEED: THE CARDS: each row of YtbjhoncojegjiaaDoorRows.lean that lists a variable, with what it lists TIED to the program's text (the seventh form; the later family's looks); each row that meets fmt, with fmt's text TOLD by the authors' own Lean function (tested against real Go, not proved from fmt's source: count such statements apart). THE CARD IS WHAT COUNTS. Prove the row's statement (the work); the ties are given (YtbjhoncojegjiaaDoorTie.lean); close each card by the builder's one call (the guide's Derived/Test/ToyasCard.lean, 'card_holds'). Laid BY PROGRAM, IN A SANDBOX (cutbox-door.mjs). By AI agents, Wed Nov 11 2026. No macro, syntax, notation, axiom, sorry.
-/
import Derived.Test.YtbjhoncojegjiaaDoorRows
import GoSem.ClaimSeven
namespace Go.Proofs.YtbjhoncojegjiaaDoor
namespace Rows

/-- THE TIED CARD OF 'parcloselaw13.WheelPlays'. -/
def wheelPlaysCard : Claim7 := { stood := { row := wheelPlaysRow, standIns := [], harness := (true, "91b57500ec8eb9b2694e74ce71a4e9aaf013a4989dfe878ada1c06e92c46ac69"), looks := false }, kinds := [], alts := [], laidByText := true, laidKinds := [.data, .data], laidTests := true, laidLooks := .later }
def WheelPlaysCardSaid : Prop := Claim7.holds Tryd.pinned (.plain (OpenSpec.ofChange wheelPlaysSpec)) wheelPlaysCard

/-- THE TIED CARD OF 'parcloselaw13.WheelComes'. -/
def wheelComesCard : Claim7 := { stood := { row := wheelComesRow, standIns := [], harness := (true, "91b57500ec8eb9b2694e74ce71a4e9aaf013a4989dfe878ada1c06e92c46ac69"), looks := false }, kinds := [], alts := [], laidByText := true, laidKinds := [.data, .data], laidTests := true, laidLooks := .later }
def WheelComesCardSaid : Prop := Claim7.holds Tryd.pinned (.plain (OpenSpec.ofChange wheelComesSpec)) wheelComesCard

/-- THE TIED CARD OF 'parcloselaw13.WheelFar'. -/
def wheelFarCard : Claim7 := { stood := { row := wheelFarRow, standIns := [], harness := (true, "91b57500ec8eb9b2694e74ce71a4e9aaf013a4989dfe878ada1c06e92c46ac69"), looks := false }, kinds := [], alts := [], laidByText := true, laidKinds := [.data, .data], laidTests := true, laidLooks := .later }
def WheelFarCardSaid : Prop := Claim7.holds Tryd.pinned (.plain (OpenSpec.ofChange wheelFarSpec)) wheelFarCard

/-- THE TIED CARD OF 'parcloselaw13.WheelNil'. -/
def wheelNilCard : Claim7 := { stood := { row := wheelNilRow, standIns := [], harness := (true, "91b57500ec8eb9b2694e74ce71a4e9aaf013a4989dfe878ada1c06e92c46ac69"), looks := false }, kinds := [], alts := [], laidByText := true, laidKinds := [.data, .data], laidTests := true, laidLooks := .later }
def WheelNilCardSaid : Prop := Claim7.holds Tryd.pinned (.plain (OpenSpec.ofChange wheelNilSpec)) wheelNilCard

/-- THE SECOND FORM's CARD OF 'parcloselaw13.WheelPlays'. -/
def wheelPlaysUptoCard : Claim7 := { stood := { row := wheelPlaysUptoRow, standIns := [], harness := (true, "91b57500ec8eb9b2694e74ce71a4e9aaf013a4989dfe878ada1c06e92c46ac69"), looks := false }, kinds := [], alts := [], laidByText := true, laidKinds := [.data, .data], laidTests := true, laidLooks := .later }
def WheelPlaysUptoCardSaid : Prop := Claim7.holds Tryd.pinned (.plain (OpenSpec.upto wheelPlaysSpec)) wheelPlaysUptoCard

/-- THE SECOND FORM's CARD OF 'parcloselaw13.WheelComes'. -/
def wheelComesUptoCard : Claim7 := { stood := { row := wheelComesUptoRow, standIns := [], harness := (true, "91b57500ec8eb9b2694e74ce71a4e9aaf013a4989dfe878ada1c06e92c46ac69"), looks := false }, kinds := [], alts := [], laidByText := true, laidKinds := [.data, .data], laidTests := true, laidLooks := .later }
def WheelComesUptoCardSaid : Prop := Claim7.holds Tryd.pinned (.plain (OpenSpec.upto wheelComesSpec)) wheelComesUptoCard

/-- THE SECOND FORM's CARD OF 'parcloselaw13.WheelFar'. -/
def wheelFarUptoCard : Claim7 := { stood := { row := wheelFarUptoRow, standIns := [], harness := (true, "91b57500ec8eb9b2694e74ce71a4e9aaf013a4989dfe878ada1c06e92c46ac69"), looks := false }, kinds := [], alts := [], laidByText := true, laidKinds := [.data, .data], laidTests := true, laidLooks := .later }
def WheelFarUptoCardSaid : Prop := Claim7.holds Tryd.pinned (.plain (OpenSpec.upto wheelFarSpec)) wheelFarUptoCard

/-- THE SECOND FORM's CARD OF 'parcloselaw13.WheelNil'. -/
def wheelNilUptoCard : Claim7 := { stood := { row := wheelNilUptoRow, standIns := [], harness := (true, "91b57500ec8eb9b2694e74ce71a4e9aaf013a4989dfe878ada1c06e92c46ac69"), looks := false }, kinds := [], alts := [], laidByText := true, laidKinds := [.data, .data], laidTests := true, laidLooks := .later }
def WheelNilUptoCardSaid : Prop := Claim7.holds Tryd.pinned (.plain (OpenSpec.upto wheelNilSpec)) wheelNilUptoCard
end Rows
end Go.Proofs.YtbjhoncojegjiaaDoor
