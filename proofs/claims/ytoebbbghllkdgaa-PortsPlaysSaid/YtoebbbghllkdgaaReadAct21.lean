/- Acts of five ints, out of a frame's value. -/
import Derived.Test.YtoebbbghllkdgaaRead
import Derived.Test.YtoebbbghllkdgaaPortK
namespace Go.Proofs.Ytoebbbghllkdgaa
open Go.ChangeShapes Go.WideShapes Go.ChangeAt Go.RowKit
set_option linter.unusedVariables false
set_option maxRecDepth 100000
section
variable {H : Type} {enc : TypeId × Value → H} {W : World} {spare : Nat → Bool} {held : Bool}
theorem reads_act21 : Reads enc Try.prog W spare held 30 A5.cells A5.In := by
  intro n cs y h
  have hl : cs.length = 5 := (len_of Try.underlying30 h).trans (by kernel_rfl)
  obtain ⟨_, _, f0⟩ := field_at Try.underlying30 h 0 _ rfl
  obtain ⟨_, _, f1⟩ := field_at Try.underlying30 h 1 _ rfl
  obtain ⟨_, _, f2⟩ := field_at Try.underlying30 h 2 _ rfl
  obtain ⟨_, _, f3⟩ := field_at Try.underlying30 h 3 _ rfl
  obtain ⟨_, _, f4⟩ := field_at Try.underlying30 h 4 _ rfl
  clear h
  match cs, hl with
  | [c0, c1, c2, c3, c4], _ =>
    simp only [Try.cI, List.getElem_toArray, List.getElem_cons_zero, List.getElem_cons_succ, List.drop_succ_cons, List.drop_zero, List.take_succ_cons, List.take_zero] at f0 f1 f2 f3 f4
    obtain ⟨x0, e0, w0⟩ := one_int f0
    obtain ⟨x1, e1, w1⟩ := one_int f1
    obtain ⟨x2, e2, w2⟩ := one_int f2
    obtain ⟨x3, e3, w3⟩ := one_int f3
    obtain ⟨x4, e4, w4⟩ := one_int f4
    cases e0; cases e1; cases e2; cases e3; cases e4
    exact ⟨⟨x0, x1, x2, x3, x4⟩, rfl, w0, w1, w2, w3, w4⟩
end
end Go.Proofs.Ytoebbbghllkdgaa
