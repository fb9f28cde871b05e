/- From what a frame tells of an argument to what lies in memory: whole systems that come in. -/
import Derived.Test.YtiojmekoemlmkaaConfR
import Derived.Test.YtiojmekoemlmkaaReadW
namespace Go.Proofs.Ytiojmekoemlmkaa
open Go.ChangeShapes Go.WideShapes Go.ChangeAt Go.RowKit
set_option linter.unusedVariables false
set_option maxRecDepth 100000
section
variable {H : Type} {enc : TypeId × Value → H} {W : World} {spare : Nat → Bool} {held : Bool}
theorem reads_ch : Reads enc Try.prog W spare held 73 Ch.cells Ch.In := by
  intro n cs y h
  have hl : cs.length = 4 := (len_of Try.underlying73 h).trans (by kernel_rfl)
  obtain ⟨_, _, f0⟩ := field_at Try.underlying73 h 0 _ rfl
  obtain ⟨_, _, f1⟩ := field_at Try.underlying73 h 1 _ rfl
  obtain ⟨_, _, f2⟩ := field_at Try.underlying73 h 2 _ rfl
  obtain ⟨_, _, f3⟩ := field_at Try.underlying73 h 3 _ rfl
  clear h
  match cs, hl with
  | [c0, c1, c2, c3], _ =>
    simp only [Try.cI, Try.cB, List.getElem_toArray, List.getElem_cons_zero, List.getElem_cons_succ, List.drop_succ_cons, List.drop_zero, List.take_succ_cons, List.take_zero] at f0 f1 f2 f3
    obtain ⟨x0, e0⟩ := one_bool f0
    obtain ⟨x1, e1, w1⟩ := one_int f1
    obtain ⟨x2, e2, w2⟩ := one_int f2
    obtain ⟨x3, e3, w3⟩ := one_int f3
    cases e0; cases e1; cases e2; cases e3
    exact ⟨⟨x0, x1, x2, x3⟩, rfl, w1, w2, w3⟩
theorem reads_pt : Reads enc Try.prog W spare held 60 (fun x : Pv × Pt => x.1.cells) (fun x => PtLies W 0 W.heap.size x.1 x.2 ∧ x.2.In) := by
  intro n cs y h
  obtain ⟨v, p, _, _, _, _, _, _, rfl, _, _, _, hl, hi⟩ := part_of h
  exact ⟨(v, p), rfl, hl, hi⟩
theorem all_lie : ∀ (xs : List (Pv × Pt)), (∀ x ∈ xs, PtLies W 0 W.heap.size x.1 x.2) → AllLie W 0 W.heap.size (xs.map (·.1)) (xs.map (·.2))
  | [], _ => .nil
  | x :: xs, h => .cons (h x (by simp)) (all_lie xs fun y hy => h y (by simp [hy]))
/-- A system that came in: its value, and what lies under it. -/
theorem conf_of {n : Nat} {cs : List Value} {y : DataW H × List MemPlace} (h : DataW.trod enc Try.prog W 0 spare held n 26 cs = some y) :
    ∃ (c : Cf) (pvs : List Pv) (wa pa ca : Option Addr) (wc pc cc : Nat), cs = [.int .i64 c.frame, .int .i64 c.margin, .slice wa c.ws.length wc, .slice pa c.ps.length pc, .slice ca c.cs.length cc] ∧
      Lies W 0 W.heap.size (.slice wa c.ws.length wc) c.ws.length 3 (c.ws.flatMap Wn.cells) ∧ Lies W 0 W.heap.size (.slice pa c.ps.length pc) c.ps.length 6 (pvs.flatMap Pv.cells) ∧ AllLie W 0 W.heap.size pvs c.ps ∧ Lies W 0 W.heap.size (.slice ca c.cs.length cc) c.cs.length 4 (c.cs.flatMap Ch.cells) ∧ c.In := by
  have hl : cs.length = 5 := (len_of Try.underlying26 h).trans (by kernel_rfl)
  obtain ⟨_, _, f0⟩ := field_at Try.underlying26 h 0 _ rfl
  obtain ⟨_, _, f1⟩ := field_at Try.underlying26 h 1 _ rfl
  obtain ⟨_, _, f2⟩ := field_at Try.underlying26 h 2 _ rfl
  obtain ⟨_, _, f3⟩ := field_at Try.underlying26 h 3 _ rfl
  obtain ⟨_, _, f4⟩ := field_at Try.underlying26 h 4 _ rfl
  clear h
  have cW : Try.prog.cellsOf 22 = 1 := by kernel_rfl
  have cP : Try.prog.cellsOf 23 = 1 := by kernel_rfl
  have cC : Try.prog.cellsOf 24 = 1 := by kernel_rfl
  match cs, hl with
  | [c0, c1, c2, c3, c4], _ =>
    simp only [cW, cP, cC, Try.cI, List.getElem_toArray, List.getElem_cons_zero, List.getElem_cons_succ, List.drop_succ_cons, List.drop_zero, List.take_succ_cons, List.take_zero] at f0 f1 f2 f3 f4
    have : Inhabited Wn := ⟨⟨0, 0, 0⟩⟩
    have : Inhabited Ch := ⟨⟨false, 0, 0, 0⟩⟩
    have : Inhabited (Pv × Pt) := ⟨(⟨.slice none 0 0, .slice none 0 0, .slice none 0 0, 0, 0, 0⟩, ⟨[], [], [], 0, 0, 0⟩)⟩
    obtain ⟨x0, e0, w0⟩ := one_int f0
    obtain ⟨x1, e1, w1⟩ := one_int f1
    cases e0; cases e1
    obtain ⟨ws, wa, wc, rfl, l0, r0⟩ := lies_of_trod Try.underlying22 (by kernel_rfl : Try.prog.cellsOf 69 = 3) (by omega) (fun _ => rfl) reads_wn f2
    obtain ⟨xs, pa, pc, rfl, l1, r1⟩ := lies_of_trod Try.underlying23 (by kernel_rfl : Try.prog.cellsOf 60 = 6) (by omega) (fun _ => rfl) reads_pt f3
    obtain ⟨ch, ca, cc, rfl, l2, r2⟩ := lies_of_trod Try.underlying24 (by kernel_rfl : Try.prog.cellsOf 73 = 4) (by omega) (fun _ => rfl) reads_ch f4
    have hm : xs.flatMap (fun x => x.1.cells) = (xs.map (·.1)).flatMap Pv.cells := by rw [List.flatMap_map]
    rw [hm] at l1
    refine ⟨⟨x0, x1, ws, xs.map (·.2), ch⟩, xs.map (·.1), wa, pa, ca, wc, pc, cc, by simp, l0, by simpa using l1, all_lie xs fun x hx => (r1 x hx).1, l2, w0, w1, r0, fun p hp => ?_, r2⟩
    obtain ⟨x, hx, rfl⟩ := List.mem_map.1 hp
    exact (r1 x hx).2
end
end Go.Proofs.Ytiojmekoemlmkaa
