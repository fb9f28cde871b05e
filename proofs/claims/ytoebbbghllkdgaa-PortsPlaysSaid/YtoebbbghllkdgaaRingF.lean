/- A row of things by a function, in a block of its own. -/
import Derived.Test.YtoebbbghllkdgaaRingM
namespace Go.Proofs.Ytoebbbghllkdgaa
open Go.ChangeShapes Go.WideShapes Go.ChangeAt Go.RowKit
set_option linter.unusedVariables false

/-- The n things of block C. -/
def RowF {α : Type} (emb : α → Value) (t : TypeId) (w : World) (C n : Nat) (v : Nat → α) : Prop := ∃ cur, w.heap[C]? = some (.cells cur t (0, 0)) ∧ n ≤ cur.size ∧ ∀ i, i < n → cur[i]? = some (emb (v i))
section
variable {α : Type} {emb : α → Value} {t : TypeId} {w w' : World} {C n : Nat} {v : Nat → α}
theorem RowF.same (h : RowF emb t w C n v) (hs : w'.heap[C]? = w.heap[C]?) : RowF emb t w' C n v := by
  obtain ⟨cur, h1, h2⟩ := h
  exact ⟨cur, hs.trans h1, h2⟩
theorem RowF.lt (h : RowF emb t w C n v) : C < w.heap.size := by obtain ⟨cur, h1, _⟩ := h; exact lt_of_block h1
theorem RowF.at_ (h : RowF emb t w C n v) {i : Nat} (hi : i < n) : w.cell? ⟨C, i, none⟩ = some (emb (v i)) ∧ w.frozen? ⟨C, i, none⟩ = false := by
  obtain ⟨cur, h1, _, h3⟩ := h
  exact ⟨cell_in h1 (h3 i hi), free_in h1 _⟩
theorem RowF.set (h : RowF emb t w C n v) {i : Nat} (hi : i < n) (x : α) : RowF emb t (w.setCell ⟨C, i, none⟩ (emb x)) C n (updF v i x) := by
  obtain ⟨cur, h1, h2, h3⟩ := h
  refine ⟨_, set_at h1, by simpa using h2, fun k hk => ?_⟩
  rw [Array.getElem?_setIfInBounds]
  by_cases e : k = i
  · subst e
    rw [updF_at, if_pos rfl, if_pos (by omega)]
  · rw [updF_ne _ _ e, if_neg (fun h => e h.symm)]; exact h3 k hk
/-- What 'make' gives. -/
theorem RowF.of_owns {B cap : Nat} {ao : Option Addr} {z : α} (h : w.ownsRow B t 1 (.slice ao n cap) n (List.replicate n (emb z))) (h0 : 0 < n) : ∃ G, ao = some ⟨G, 0, none⟩ ∧ B ≤ G ∧ RowF emb t w G n (fun _ => z) := by
  rcases h.2 with ⟨_, h2⟩ | ⟨G, cap', cur, hv, hb, hg, h1, h2, h3, h4⟩
  · omega
  · cases hv
    refine ⟨G, rfl, hb, cur, hg, by omega, fun i hi => ?_⟩
    have hx : (List.replicate n (emb z))[i]? = some (emb z) := by rw [List.getElem?_replicate, if_pos hi]
    rw [← h4, List.getElem?_take_of_lt (by omega)] at hx
    simpa using hx
end
end Go.Proofs.Ytoebbbghllkdgaa
