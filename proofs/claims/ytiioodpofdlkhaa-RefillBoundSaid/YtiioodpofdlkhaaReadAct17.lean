/- Acts of a budget (two ints), and a server, out of a frame's value. -/
import Derived.Test.YtiioodpofdlkhaaRead
import Derived.Test.YtiioodpofdlkhaaChunkM
namespace Go.Proofs.Ytiioodpofdlkhaa
open Go.ChangeShapes Go.WideShapes Go.ChangeAt Go.RowKit
set_option linter.unusedVariables false
set_option maxRecDepth 100000
def Bk.In (k : Bk) : Prop := I64 k.at_ ∧ I64 k.n
section
variable {H : Type} {enc : TypeId × Value → H} {W : World} {spare : Nat → Bool} {held : Bool}
theorem reads_act17 : Reads enc Try.prog W spare held 33 Bk.cells Bk.In := by
  intro n cs y h
  have hl : cs.length = 2 := (len_of Try.underlying33 h).trans (by kernel_rfl)
  obtain ⟨_, _, f0⟩ := field_at Try.underlying33 h 0 _ rfl
  obtain ⟨_, _, f1⟩ := field_at Try.underlying33 h 1 _ rfl
  clear h
  match cs, hl with
  | [c0, c1], _ =>
    simp only [Try.cI, List.getElem_toArray, List.getElem_cons_zero, List.getElem_cons_succ, List.drop_succ_cons, List.drop_zero, List.take_succ_cons, List.take_zero] at f0 f1
    obtain ⟨x0, e0, w0⟩ := one_int f0
    obtain ⟨x1, e1, w1⟩ := one_int f1
    cases e0; cases e1
    exact ⟨⟨x0, x1⟩, rfl, w0, w1⟩
end
end Go.Proofs.Ytiioodpofdlkhaa
