/- Acts of a ring, bools, out of a frame's value. -/
import Derived.Test.YtmkohnpdpcefgaaRead
namespace Go.Proofs.Ytmkohnpdpcefgaa
open Go.ChangeShapes Go.WideShapes Go.ChangeAt Go.RowKit
set_option linter.unusedVariables false
set_option maxRecDepth 100000
section
variable {H : Type} {enc : TypeId × Value → H} {W : World} {spare : Nat → Bool} {held : Bool}
end
def boolCells (b : Bool) : List Value := [.bool b]
theorem reads_bool {P : Program} {H : Type} {enc : TypeId × Value → H} {W : World} {spare : Nat → Bool} {held : Bool} {e : TypeId} (he : P.underlying e = some .bool) : Reads enc P W spare held e boolCells (fun _ => True) := by
  intro n cs y h
  obtain ⟨b, rfl, _⟩ := DataW.trod_bool he h
  exact ⟨b, rfl, trivial⟩
end Go.Proofs.Ytmkohnpdpcefgaa
