/- All cells of a block; rows of truth values. -/
import Derived.Test.YtchbehnkkcjdgaaGreatBase
import Derived.Deep.RegionLaw
namespace Go.Proofs.YtchbehnkkcjdgaaGreat
open Go.ChangeShapes Go.WideShapes Go.ChangeAt Go.RowKit
set_option linter.unusedVariables false
/-- A block's cells, all of them. -/
def CellsAt (w : World) (G : Nat) (T : TypeId) (vs : List Value) : Prop := w.heap[G]? = some (.cells vs.toArray T (0, 0))
section
variable {w w' : World} {G : Nat} {T : TypeId} {vs : List Value}
theorem CellsAt.lt (h : CellsAt w G T vs) : G < w.heap.size := lt_of_block h
theorem CellsAt.later (h : CellsAt w G T vs) (hb : Below w.heap.size w w') : CellsAt w' G T vs := (hb.block G (lt_of_block h)).trans h
theorem CellsAt.keep (h : CellsAt w G T vs) {lo hi : Nat} (hs : SameIn w w' lo hi) (h1 : lo ≤ G) (h2 : G < hi) : CellsAt w' G T vs := (hs G h1 h2).trans h
theorem CellsAt.set (h : CellsAt w G T vs) (j : Nat) (u : Value) : CellsAt (w.setCell ⟨G, j, none⟩ u) G T (vs.set j u) := by
 have := set_at (j := j) (u := u) h
 unfold CellsAt
 rw [this]
 congr 2
 simp
theorem CellsAt.cell (h : CellsAt w G T vs) {j : Nat} {u : Value} (hu : vs[j]? = some u) : w.cell? ⟨G, j, none⟩ = some u ∧ w.frozen? ⟨G, j, none⟩ = false := ⟨cell_in h (by simp [hu]), free_in h j⟩
theorem CellsAt.but (h : CellsAt w G T vs) {X : Nat} (hb : But X w w') (hX : G ≠ X) : CellsAt w' G T vs := hb.at h hX
end
theorem CellsAt.of_own {w : World} {base g n sz : Nat} {T : TypeId} {xs : List Value} (h : w.ownsRow base T sz (.slice (some ⟨g, 0, none⟩) n n) n xs) (hn : xs.length = n * sz) : CellsAt w g T xs := by
 rcases h.2 with ⟨h, _⟩ | ⟨g', cap, cur, hv, h1, h2, h3, h4, h5, h6⟩
 ·cases h
 ·cases hv
  have e : cur = xs.toArray := by
   rw [← h6, List.take_of_length_le (by simp [h5])]
  unfold CellsAt
  rw [← e]
  exact h2
theorem made_cells (v : Value) (hv : v.cells = #[v]) (m : Nat) : (madeCells v.cells m).toList = List.replicate m v := by
 apply List.ext_getElem?
 intro k
 simp only [madeCells, hv]
 by_cases hk : k < m <;> simp [hk, Nat.mod_one]
end Go.Proofs.YtchbehnkkcjdgaaGreat
