/- The document's police. -/
import Derived.Test.YtchbehnkkcjdgaaGreatTwo
import Derived.Test.YtchbehnkkcjdgaaGreatPlains
import Derived.Test.YtchbehnkkcjdgaaGreatTks
import Derived.Test.YtchbehnkkcjdgaaGreatRights
import Derived.Lib.SliceRun
import Derived.BigQuiet
namespace Go.Proofs.YtchbehnkkcjdgaaGreat
open Go.ChangeShapes Go.WideShapes Go.ChangeAt Go.RowKit
set_option linter.unusedVariables false
/-- The document's police in memory, its places written out. -/
structure PAt (w : World) (rb : Nat) (R : Nat → Prop) (ts : List Tk) (la : List Int) (hi : Bool) (ao bo : Option Addr) (c1 c2 : Nat) : Prop where
 box : w.heap[rb]? = some (.cells #[.slice ao ts.length c1, .slice bo la.length c2, .bool hi] 142 (0, 0))
 rt : RowR w rb R 101 6 ao ts.length c1 (ts.flatMap Tk.cells)
 rl : RowR w rb R 3 1 bo la.length c2 (la.flatMap intCells)
 own : R rb
 lt : ∀ k, R k → k < w.heap.size
section
variable {w w' : World} {rb : Nat} {R : Nat → Prop} {ts : List Tk} {la : List Int} {hi : Bool} {ao bo : Option Addr} {c1 c2 : Nat}
theorem PAt.keep (h : PAt w rb R ts la hi ao bo c1 c2) (hs : ∀ k, R k → w'.heap[k]? = w.heap[k]?) (hz : w.heap.size ≤ w'.heap.size) : PAt w' rb R ts la hi ao bo c1 c2 :=
 ⟨(hs rb h.own).trans h.box, h.rt.keep (fun k hk _ => hs k hk) hz (fun _ h => h), h.rl.keep (fun k hk _ => hs k hk) hz (fun _ h => h), h.own, fun k hk => Nat.lt_of_lt_of_le (h.lt k hk) hz⟩
theorem PAt.later (h : PAt w rb R ts la hi ao bo c1 c2) (hb : Below w.heap.size w w') : PAt w' rb R ts la hi ao bo c1 c2 := h.keep (fun k hk => hb.block k (h.lt k hk)) hb.size
/-- The fields of a task. -/
theorem PAt.tk (h : PAt w rb R ts la hi ao bo c1 c2) {i : Nat} (hi' : i < ts.length) : ∃ b, ao = some ⟨b, 0, none⟩ ∧ w.cell? ⟨b, i * 6, none⟩ = some (.bool (tkAt ts i).hi) ∧ w.cell? ⟨b, i * 6 + 1, none⟩ = some (.int .i64 (tkAt ts i).t) := by
 rcases h.rt.1.2 with ⟨h1, h2⟩ | ⟨g, cap', cur, hv, hb, hg, h1, h2, h3, h4⟩
 ·exfalso; injection h1 with _ e2 _; omega
 ·cases hv
  have hx : ts[i]? = some (tkAt ts i) := by rw [List.getElem?_eq_getElem hi', tkAt_eq hi']
  have hln := h.rt.1.1
  have f0 := flat_at Tk.cells 6 (fun _ => rfl) ts i 0 _ hx (by omega)
  have f1 := flat_at Tk.cells 6 (fun _ => rfl) ts i 1 _ hx (by omega)
  rw [← h4, List.getElem?_take_of_lt (by omega)] at f0 f1
  exact ⟨g, rfl, cell_in hg (by simpa [Tk.cells] using f0), cell_in hg (by simpa [Tk.cells] using f1)⟩
end
end Go.Proofs.YtchbehnkkcjdgaaGreat
