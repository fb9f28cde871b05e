/- Entries of four ints, out of a frame's value. -/
import Derived.Test.YtebjgfdkmociaaaDoorRead
import Derived.Test.YtebjgfdkmociaaaDoorJrnM
namespace Go.Proofs.YtebjgfdkmociaaaDoor
open Go.ChangeShapes Go.WideShapes Go.ChangeAt Go.RowKit
set_option linter.unusedVariables false
set_option maxRecDepth 100000
section
variable {H : Type} {enc : TypeId × Value → H} {W : World} {spare : Nat → Bool} {held : Bool}
theorem reads_ent : Reads enc Tryd.prog W spare held 50 Ent.cells Ent.In := by
  intro n cs y h
  have hl : cs.length = 4 := (len_of Tryd.underlying50 h).trans (by kernel_rfl)
  obtain ⟨_, _, f0⟩ := field_at Tryd.underlying50 h 0 _ rfl
  obtain ⟨_, _, f1⟩ := field_at Tryd.underlying50 h 1 _ rfl
  obtain ⟨_, _, f2⟩ := field_at Tryd.underlying50 h 2 _ rfl
  obtain ⟨_, _, f3⟩ := field_at Tryd.underlying50 h 3 _ rfl
  clear h
  match cs, hl with
  | [c0, c1, c2, c3], _ =>
    simp only [Tryd.cI, List.getElem_toArray, List.getElem_cons_zero, List.getElem_cons_succ, List.drop_succ_cons, List.drop_zero, List.take_succ_cons, List.take_zero] at f0 f1 f2 f3
    obtain ⟨x0, e0, w0⟩ := one_int f0
    obtain ⟨x1, e1, w1⟩ := one_int f1
    obtain ⟨x2, e2, w2⟩ := one_int f2
    obtain ⟨x3, e3, w3⟩ := one_int f3
    cases e0; cases e1; cases e2; cases e3
    exact ⟨⟨x0, x1, x2, x3⟩, rfl, w0, w1, w2, w3⟩
theorem reads_er : Reads enc Tryd.prog W spare held 29 Er.cells (fun x => x.Ok W) := by
  intro n cs y h
  have : Inhabited Ent := ⟨⟨0, 0, 0, 0⟩⟩
  have hl : ∃ c0, cs = [c0] := by
    rcases DataW.trod_slice Tryd.underlying29 h with ⟨hc, _⟩ | ⟨a, len, cap, _, _, _, _, hc, _⟩
    · exact ⟨_, hc⟩
    · exact ⟨_, hc⟩
  obtain ⟨c0, rfl⟩ := hl
  obtain ⟨os, oa, oc, rfl, lo, _⟩ := lies_of_trod Tryd.underlying29 (by kernel_rfl : Tryd.prog.cellsOf 50 = 4) (by omega) (fun _ => rfl) reads_ent h
  exact ⟨⟨.slice oa os.length oc, os⟩, rfl, lo⟩
end
end Go.Proofs.YtebjgfdkmociaaaDoor
