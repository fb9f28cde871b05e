/- Acts of a partition, out of a frame's value: each with its row of ops. -/
import Derived.Test.YtchbehnkkcjdgaaGreatRead
import Derived.Test.YtchbehnkkcjdgaaGreatActs20
namespace Go.Proofs.YtchbehnkkcjdgaaGreat
open Go.ChangeShapes Go.WideShapes Go.ChangeAt Go.RowKit
set_option linter.unusedVariables false
set_option maxRecDepth 100000
section
variable {H : Type} {enc : TypeId × Value → H} {W : World} {spare : Nat → Bool} {held : Bool}
theorem reads_op20 : Reads enc Tryz.prog W spare held 58 Wn.cells Wn.In := by
 intro n cs y h
 have hl : cs.length = 3 := (len_of Tryz.underlying58 h).trans (by kernel_rfl)
 obtain ⟨_, _, f0⟩ := field_at Tryz.underlying58 h 0 _ rfl
 obtain ⟨_, _, f1⟩ := field_at Tryz.underlying58 h 1 _ rfl
 obtain ⟨_, _, f2⟩ := field_at Tryz.underlying58 h 2 _ rfl
 clear h
 match cs, hl with
 | [c0, c1, c2], _ =>
   simp only [Tryz.cI, List.getElem_toArray, List.getElem_cons_zero, List.getElem_cons_succ, List.drop_succ_cons, List.drop_zero, List.take_succ_cons, List.take_zero] at f0 f1 f2
   obtain ⟨x0, e0, w0⟩ := one_int f0
   obtain ⟨x1, e1, w1⟩ := one_int f1
   obtain ⟨x2, e2, w2⟩ := one_int f2
   cases e0; cases e1; cases e2
   exact ⟨⟨x0, x1, x2⟩, rfl, w0, w1, w2⟩
theorem reads_act20 : Reads enc Tryz.prog W spare held 45 Ad.cells (fun x => x.Ok W) := by
 intro n cs y h
 have hl : cs.length = 8 := (len_of Tryz.underlying45 h).trans (by kernel_rfl)
 obtain ⟨_, _, f0⟩ := field_at Tryz.underlying45 h 0 _ rfl
 obtain ⟨_, _, f1⟩ := field_at Tryz.underlying45 h 1 _ rfl
 obtain ⟨_, _, f2'⟩ := field_at Tryz.underlying45 h 2 _ rfl
 obtain ⟨_, _, f2⟩ := field_at Tryz.underlying45 h 3 _ rfl
 clear h
 have cJ : Tryz.prog.cellsOf 43 = 5 := by kernel_rfl
 have cO : Tryz.prog.cellsOf 41 = 1 := by kernel_rfl
 match cs, hl with
 | [c0, c1, c2, c3, c4, c5, c6, c7], _ =>
   simp only [Tryz.cI, cJ, List.getElem_toArray, List.getElem_cons_zero, List.getElem_cons_succ, List.drop_succ_cons, List.drop_zero, List.take_succ_cons, List.take_zero] at f0 f1 f2' f2
   obtain ⟨x0, e0, w0⟩ := one_int f0
   obtain ⟨x1, e1, w1⟩ := one_int f1
   obtain ⟨xn, en, wn⟩ := one_int f2'
   obtain ⟨_, _, g0⟩ := field_at Tryz.underlying43 f2 0 _ rfl
   obtain ⟨_, _, g1⟩ := field_at Tryz.underlying43 f2 1 _ rfl
   obtain ⟨_, _, g2⟩ := field_at Tryz.underlying43 f2 2 _ rfl
   obtain ⟨_, _, g3⟩ := field_at Tryz.underlying43 f2 3 _ rfl
   obtain ⟨_, _, g4⟩ := field_at Tryz.underlying43 f2 4 _ rfl
   clear f2
   simp only [Tryz.cI, cO, List.getElem_toArray, List.getElem_cons_zero, List.getElem_cons_succ, List.drop_succ_cons, List.drop_zero, List.take_succ_cons, List.take_zero] at g0 g1 g2 g3 g4
   obtain ⟨x2, e2, w2⟩ := one_int g0
   obtain ⟨x3, e3, w3⟩ := one_int g1
   obtain ⟨x4, e4, w4⟩ := one_int g2
   obtain ⟨x5, e5, w5⟩ := one_int g3
   have : Inhabited Wn := ⟨⟨0, 0, 0⟩⟩
   obtain ⟨os, oa, oc, rfl, lo, _⟩ := lies_of_trod Tryz.underlying41 (by kernel_rfl : Tryz.prog.cellsOf 58 = 3) (by omega) (fun _ => rfl) reads_op20 g4
   cases e0; cases e1; cases en; cases e2; cases e3; cases e4; cases e5
   exact ⟨⟨x0, x1, xn, x2, x3, x4, x5, .slice oa os.length oc, os⟩, rfl, lo⟩
end
end Go.Proofs.YtchbehnkkcjdgaaGreat
