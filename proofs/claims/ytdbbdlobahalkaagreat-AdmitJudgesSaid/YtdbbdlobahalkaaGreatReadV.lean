/- A verdict of the document's, out of a frame. -/
import Derived.Test.YtdbbdlobahalkaaGreatAdmitV
import Derived.Test.YtdbbdlobahalkaaGreatRead
namespace Go.Proofs.YtdbbdlobahalkaaGreat
open Go.ChangeShapes Go.WideShapes Go.ChangeAt Go.RowKit
set_option linter.unusedVariables false
set_option maxRecDepth 100000
section
variable {H : Type} {enc : TypeId × Value → H} {W : World} {spare : Nat → Bool} {held : Bool}
def Vd.In (v : Vd) : Prop := I64 v.kind ∧ I64 v.part ∧ I64 v.t
theorem reads_vd : Reads enc Tryz.prog W spare held 28 (fun v : Vd => v.cells.toList) Vd.In := by
  intro n cs y h
  have hl : cs.length = 4 := (len_of Tryz.underlying28 h).trans (by kernel_rfl)
  obtain ⟨_, _, f0⟩ := field_at Tryz.underlying28 h 0 _ rfl
  obtain ⟨_, _, f1⟩ := field_at Tryz.underlying28 h 1 _ rfl
  obtain ⟨_, _, f2⟩ := field_at Tryz.underlying28 h 2 _ rfl
  obtain ⟨_, _, f3⟩ := field_at Tryz.underlying28 h 3 _ rfl
  clear h
  match cs, hl with
  | [c0, c1, c2, c3], _ =>
    simp only [Tryz.cI, Tryz.cB, List.getElem_toArray, List.getElem_cons_zero, List.getElem_cons_succ, List.drop_succ_cons, List.drop_zero, List.take_succ_cons, List.take_zero] at f0 f1 f2 f3
    obtain ⟨x0, e0, w0⟩ := one_int f0
    obtain ⟨x1, e1, w1⟩ := one_int f1
    obtain ⟨x2, e2⟩ := one_bool f2
    obtain ⟨x3, e3, w3⟩ := one_int f3
    cases e0; cases e1; cases e2; cases e3
    exact ⟨⟨x0, x1, x2, x3⟩, rfl, w0, w1, w3⟩
end
end Go.Proofs.YtdbbdlobahalkaaGreat
