/- From what a frame tells of an argument to what lies in memory: systems that come in. -/
import Derived.Test.YtiojmekoemlmkaaReadA
namespace Go.Proofs.Ytiojmekoemlmkaa
open Go.ChangeShapes Go.WideShapes Go.ChangeAt Go.RowKit
set_option linter.unusedVariables false
set_option maxRecDepth 100000
theorem Try.c8 : Try.prog.cellsOf 5 = 1 := by kernel_rfl
theorem Try.cDs : Try.prog.cellsOf 52 = 1 := by kernel_rfl
theorem Try.cAct : Try.prog.cellsOf 53 = 3 := by kernel_rfl

section
variable {H : Type} {enc : TypeId × Value → H} {W : World} {spare : Nat → Bool} {held : Bool}
theorem one_u8 {n : Nat} {c : List Value} {y : DataW H × List MemPlace} (h : DataW.trod enc Try.prog W 0 spare held n 5 c = some y) : ∃ x, c = [.int .u8 x] ∧ U8 x := by
  obtain ⟨x, rfl, _, hw⟩ := DataW.trod_int Try.underlying5 h
  exact ⟨x, rfl, u8_of hw⟩
theorem reads_tk : Reads enc Try.prog W spare held 101 Tk.cells Tk.In := by
  intro n cs y h
  have hl : cs.length = 6 := (len_of Try.underlying101 h).trans (by kernel_rfl)
  obtain ⟨_, _, f0⟩ := field_at Try.underlying101 h 0 _ rfl
  obtain ⟨_, _, f1⟩ := field_at Try.underlying101 h 1 _ rfl
  obtain ⟨_, _, f2⟩ := field_at Try.underlying101 h 2 _ rfl
  obtain ⟨_, _, f3⟩ := field_at Try.underlying101 h 3 _ rfl
  obtain ⟨_, _, f4⟩ := field_at Try.underlying101 h 4 _ rfl
  obtain ⟨_, _, f5⟩ := field_at Try.underlying101 h 5 _ rfl
  clear h
  match cs, hl with
  | [c0, c1, c2, c3, c4, c5], _ =>
    simp only [Try.cI, Try.cB, List.getElem_toArray, List.getElem_cons_zero, List.getElem_cons_succ, List.drop_succ_cons, List.drop_zero, List.take_succ_cons, List.take_zero] at f0 f1 f2 f3 f4 f5
    obtain ⟨x0, e0⟩ := one_bool f0
    obtain ⟨x1, e1, w1⟩ := one_int f1
    obtain ⟨x2, e2, w2⟩ := one_int f2
    obtain ⟨x3, e3, w3⟩ := one_int f3
    obtain ⟨x4, e4, w4⟩ := one_int f4
    obtain ⟨x5, e5, w5⟩ := one_int f5
    cases e0; cases e1; cases e2; cases e3; cases e4; cases e5
    exact ⟨⟨x0, x1, x2, x3, x4, x5⟩, rfl, w1, w2, w3, w4, w5⟩
theorem reads_sv : Reads enc Try.prog W spare held 104 Sv.cells Sv.In := by
  intro n cs y h
  have hl : cs.length = 3 := (len_of Try.underlying104 h).trans (by kernel_rfl)
  obtain ⟨_, _, f0⟩ := field_at Try.underlying104 h 0 _ rfl
  obtain ⟨_, _, f1⟩ := field_at Try.underlying104 h 1 _ rfl
  obtain ⟨_, _, f2⟩ := field_at Try.underlying104 h 2 _ rfl
  clear h
  match cs, hl with
  | [c0, c1, c2], _ =>
    simp only [Try.cI, Try.cB, List.getElem_toArray, List.getElem_cons_zero, List.getElem_cons_succ, List.drop_succ_cons, List.drop_zero, List.take_succ_cons, List.take_zero] at f0 f1 f2
    obtain ⟨x0, e0⟩ := one_bool f0
    obtain ⟨x1, e1, w1⟩ := one_int f1
    obtain ⟨x2, e2, w2⟩ := one_int f2
    cases e0; cases e1; cases e2
    exact ⟨⟨x0, x1, x2⟩, rfl, w1, w2⟩
theorem part_of {n : Nat} {cs : List Value} {y : DataW H × List MemPlace} (h : DataW.trod enc Try.prog W 0 spare held n 60 cs = some y) :
    ∃ (v : Pv) (p : Pt) (ta sa da : Option Addr) (tc sc dc : Nat), cs = v.cells ∧ v.ts = .slice ta p.ts.length tc ∧ v.ss = .slice sa p.ss.length sc ∧ v.ds = .slice da p.ds.length dc ∧ PtLies W 0 W.heap.size v p ∧ p.In := by
  have hl : cs.length = 6 := (len_of Try.underlying60 h).trans (by kernel_rfl)
  obtain ⟨_, _, f0⟩ := field_at Try.underlying60 h 0 _ rfl
  obtain ⟨_, _, f1⟩ := field_at Try.underlying60 h 1 _ rfl
  obtain ⟨_, _, f2⟩ := field_at Try.underlying60 h 2 _ rfl
  obtain ⟨_, _, f3⟩ := field_at Try.underlying60 h 3 _ rfl
  clear h
  have cT : Try.prog.cellsOf 57 = 1 := by kernel_rfl
  have cS : Try.prog.cellsOf 58 = 1 := by kernel_rfl
  match cs, hl with
  | [c0, c1, c2, c3, c4, c5], _ =>
    simp only [cT, cS, Try.cDs, Try.cAct, List.getElem_toArray, List.getElem_cons_zero, List.getElem_cons_succ, List.drop_succ_cons, List.drop_zero, List.take_succ_cons, List.take_zero] at f0 f1 f2 f3
    have : Inhabited Tk := ⟨⟨false, 0, 0, 0, 0, 0⟩⟩
    have : Inhabited Sv := ⟨⟨false, 0, 0⟩⟩
    obtain ⟨ts, ta, tc, rfl, l0, r0⟩ := lies_of_trod Try.underlying57 (by kernel_rfl : Try.prog.cellsOf 101 = 6) (by omega) (fun _ => rfl) reads_tk f0
    obtain ⟨ss, sa, sc, rfl, l1, r1⟩ := lies_of_trod Try.underlying58 (by kernel_rfl : Try.prog.cellsOf 104 = 3) (by omega) (fun _ => rfl) reads_sv f1
    obtain ⟨ds, da, dc, rfl, l2, r2⟩ := lies_of_trod Try.underlying52 Try.cI (by omega) (fun _ => rfl) (reads_int Try.underlying3) f2
    obtain ⟨_, _, _, _, _, g0, g1, g2⟩ := trod_array3 Try.underlying53 Try.c8 f3
    obtain ⟨x0, e0, w0⟩ := one_u8 g0
    obtain ⟨x1, e1, w1⟩ := one_u8 g1
    obtain ⟨x2, e2, w2⟩ := one_u8 g2
    cases e0; cases e1; cases e2
    exact ⟨⟨_, _, _, x0, x1, x2⟩, ⟨ts, ss, ds, x0, x1, x2⟩, ta, sa, da, tc, sc, dc, rfl, rfl, rfl, rfl, ⟨l0, l1, l2, rfl, rfl, rfl⟩, r0, r1, r2, w0, w1, w2⟩
end
end Go.Proofs.Ytiojmekoemlmkaa
