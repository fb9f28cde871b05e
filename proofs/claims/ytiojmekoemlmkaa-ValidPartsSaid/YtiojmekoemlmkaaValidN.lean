/- A row of partitions with all but one of them taken out, one behind the other; a system in memory in the midst of that. -/
import Derived.Test.YtiojmekoemlmkaaValidK
import Derived.Test.YtiojmekoemlmkaaCloneB
namespace Go.Proofs.Ytiojmekoemlmkaa
open Go.ChangeShapes Go.WideShapes Go.ChangeAt Go.RowKit
set_option linter.unusedVariables false

def clr (i k : Nat) (vs : List Pv) : List Pv := (List.range vs.length).map fun j => if j < k ∧ j ≠ i then noPv else vs.getD j noPv
theorem clr_len (i k : Nat) (vs : List Pv) : (clr i k vs).length = vs.length := by simp [clr]
theorem clr_get (i k : Nat) (vs : List Pv) (j : Nat) (hj : j < vs.length) : (clr i k vs)[j]? = some (if j < k ∧ j ≠ i then noPv else vs.getD j noPv) := by simp [clr, hj]
theorem getD_of {vs : List Pv} {j : Nat} (hj : j < vs.length) : vs.getD j noPv = vs[j] := by rw [List.getD_eq_getElem?_getD, List.getElem?_eq_getElem hj]; rfl
theorem clr_zero (i : Nat) (vs : List Pv) : clr i 0 vs = vs := by
  apply List.ext_getElem?
  intro j
  by_cases hj : j < vs.length
  · rw [clr_get _ _ _ _ hj, if_neg (by omega), getD_of hj, List.getElem?_eq_getElem hj]
  · rw [List.getElem?_eq_none (by rw [clr_len]; omega), List.getElem?_eq_none (by omega)]
theorem clr_skip (i : Nat) (vs : List Pv) : clr i (i + 1) vs = clr i i vs := by
  apply List.ext_getElem?
  intro j
  by_cases hj : j < vs.length
  · rw [clr_get _ _ _ _ hj, clr_get _ _ _ _ hj]
    by_cases h : j < i
    · rw [if_pos ⟨by omega, by omega⟩, if_pos ⟨h, by omega⟩]
    · rw [if_neg (by omega), if_neg (by omega)]
  · rw [List.getElem?_eq_none (by rw [clr_len]; omega), List.getElem?_eq_none (by rw [clr_len]; omega)]
theorem clr_set {i k : Nat} (vs : List Pv) (hk : k < vs.length) (hi : k ≠ i) : clr i (k + 1) vs = (clr i k vs).set k noPv := by
  apply List.ext_getElem?
  intro j
  by_cases hj : j < vs.length
  · rw [clr_get _ _ _ _ hj, List.getElem?_set]
    by_cases h : k = j
    · subst h
      rw [if_pos rfl, if_pos ⟨by omega, hi⟩, if_pos (by rw [clr_len]; exact hk)]
    · rw [if_neg h, clr_get _ _ _ _ hj]
      by_cases g : j < k ∧ j ≠ i
      · rw [if_pos g, if_pos ⟨by omega, g.2⟩]
      · rw [if_neg g, if_neg (by omega)]
  · rw [List.getElem?_eq_none (by rw [clr_len]; omega), List.getElem?_eq_none (by rw [List.length_set, clr_len]; omega)]
theorem AllLie.of_at {w : World} {lo hi : Nat} : ∀ {vs : List Pv} {ps : List Pt}, vs.length = ps.length → (∀ (j : Nat) (v : Pv) (p : Pt), vs[j]? = some v → ps[j]? = some p → PtLies w lo hi v p) → AllLie w lo hi vs ps
  | [], [], _, _ => .nil
  | [], _ :: _, h, _ => by simp at h
  | _ :: _, [], h, _ => by simp at h
  | v :: vs, p :: ps, h, k => .cons (k 0 v p rfl rfl) (AllLie.of_at (by simpa using h) fun j v' p' h1 h2 => k (j + 1) v' p' (by simpa using h1) (by simpa using h2))
theorem clr_lie {w : World} {lo hi : Nat} {vs : List Pv} {ps : List Pt} (h : AllLie w lo hi vs ps) (i : Nat) : AllLie w 0 hi (clr i ps.length vs) (onlyAt i ps) := by
  have hl := h.length
  refine AllLie.of_at (by rw [clr_len, onlyAt_len, hl]) fun j v p h1 h2 => ?_
  have hj : j < vs.length := by have := (List.getElem?_eq_some_iff.1 h1).1; rwa [clr_len] at this
  have hj2 : j < ps.length := by omega
  rw [clr_get _ _ _ _ hj] at h1
  rw [onlyAt_get _ _ _ hj2] at h2
  cases h1; cases h2
  by_cases hi' : j = i
  · rw [if_neg (by omega), if_pos hi']
    refine (h.at (List.getElem?_eq_getElem hj) (List.getElem?_eq_getElem hj2) |> fun g => ?_)
    rw [getD_of hj, List.getD_eq_getElem?_getD, List.getElem?_eq_getElem hj2]
    exact g.wider (Nat.zero_le _) (Nat.le_refl _)
  · rw [if_pos ⟨hj2, hi'⟩, if_neg hi']
    exact noPt_lies _ _
/-- A clone in memory, its first k partitions, but for the i-th, taken out. -/
structure Cut (w1 : World) (B yb : Nat) (c : Cf) (wa pa ca : Option Addr) (wc pc cc : Nat) (i : Nat) (vs : List Pv) (k : Nat) (wr : World) : Prop where
  obj : wr.heap[yb]? = some (.cells #[.int .i64 c.frame, .int .i64 c.margin, .slice wa c.ws.length wc, .slice pa c.ps.length pc, .slice ca c.cs.length cc] 36 (0, 0))
  own1 : wr.ownsRow B 62 3 (.slice wa c.ws.length wc) c.ws.length (c.ws.flatMap Wn.cells)
  row : wr.ownsRow B 55 6 (.slice pa c.ps.length pc) c.ps.length ((clr i k vs).flatMap Pv.cells)
  all : AllOwn wr B 100 103 3 vs c.ps
  own3 : wr.ownsRow B 72 4 (.slice ca c.cs.length cc) c.cs.length (c.cs.flatMap Ch.cells)
  below : Below w1.heap.size w1 wr
  hB : w1.heap.size ≤ B
  hy : w1.heap.size ≤ yb
theorem Cut.skip {w1 : World} {B yb : Nat} {c : Cf} {wa pa ca : Option Addr} {wc pc cc i : Nat} {vs : List Pv} {wr : World} (h : Cut w1 B yb c wa pa ca wc pc cc i vs i wr) : Cut w1 B yb c wa pa ca wc pc cc i vs (i + 1) wr :=
  { h with row := by rw [clr_skip]; exact h.row }
theorem Cut.put {w1 : World} {B yb : Nat} {c : Cf} {wa ca : Option Addr} {g wc pc cc i k : Nat} {vs : List Pv} {wr : World} (h : Cut w1 B yb c wa (some ⟨g, 0, none⟩) ca wc pc cc i vs k wr) (hk : k < c.ps.length) (hi : k ≠ i) (hg : B ≤ g) :
    Cut w1 B yb c wa (some ⟨g, 0, none⟩) ca wc pc cc i vs (k + 1) (((((((wr.setCell ⟨g, k * 6, none⟩ noPv.ts).setCell ⟨g, k * 6 + 1, none⟩ noPv.ss).setCell ⟨g, k * 6 + 2, none⟩ noPv.ds).setCell ⟨g, k * 6 + 3, none⟩ (.int .u8 noPv.a0)).setCell ⟨g, k * 6 + 4, none⟩ (.int .u8 noPv.a1)).setCell ⟨g, k * 6 + 5, none⟩ (.int .u8 noPv.a2))) := by
  have hvl : vs.length = c.ps.length := h.all.length
  have hks : k < (clr i k vs).length := by rw [clr_len]; omega
  have hkp := row_keeps h.row k noPv
  exact ⟨hkp _ _ _ _ h.obj (by decide) (by decide), hkp.owns h.own1 (by decide) (by decide), by rw [clr_set vs (by omega) hi]; exact row_store h.row hks noPv,
    h.all.keep hkp (by decide) (by decide) (by decide), hkp.owns h.own3 (by decide) (by decide), row_below h.below (Nat.le_trans h.hB hg) k noPv, h.hB, h.hy⟩
end Go.Proofs.Ytiojmekoemlmkaa
