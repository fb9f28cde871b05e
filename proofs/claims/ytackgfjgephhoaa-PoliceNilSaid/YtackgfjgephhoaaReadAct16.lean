/- Acts of a police, out of a frame's value. -/
import Derived.Test.YtackgfjgephhoaaRead
namespace Go.Proofs.Ytackgfjgephhoaa
open Go.ChangeShapes Go.WideShapes Go.ChangeAt Go.RowKit
set_option linter.unusedVariables false
set_option maxRecDepth 100000
section
variable {H : Type} {enc : TypeId × Value → H} {W : World} {spare : Nat → Bool} {held : Bool}
theorem reads_act16 : Reads enc Try.prog W spare held 30 Wn.cells Wn.In := by
  intro n cs y h
  have hl : cs.length = 3 := (len_of Try.underlying30 h).trans (by kernel_rfl)
  obtain ⟨_, _, f0⟩ := field_at Try.underlying30 h 0 _ rfl
  obtain ⟨_, _, f1⟩ := field_at Try.underlying30 h 1 _ rfl
  obtain ⟨_, _, f2⟩ := field_at Try.underlying30 h 2 _ rfl
  clear h
  match cs, hl with
  | [c0, c1, c2], _ =>
    simp only [Try.cI, List.getElem_toArray, List.getElem_cons_zero, List.getElem_cons_succ, List.drop_succ_cons, List.drop_zero, List.take_succ_cons, List.take_zero] at f0 f1 f2
    obtain ⟨x0, e0, w0⟩ := one_int f0
    obtain ⟨x1, e1, w1⟩ := one_int f1
    obtain ⟨x2, e2, w2⟩ := one_int f2
    cases e0; cases e1; cases e2
    exact ⟨⟨x0, x1, x2⟩, rfl, w0, w1, w2⟩
end
end Go.Proofs.Ytackgfjgephhoaa
