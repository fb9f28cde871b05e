/- Rows of two numbers; the block of a row; all but one block; a server's numbers. -/
import Derived.Test.YtchbehnkkcjdgaaGreatTwo
import Derived.Test.YtchbehnkkcjdgaaGreatPlains
namespace Go.Proofs.YtchbehnkkcjdgaaGreat
open Go.ChangeShapes Go.WideShapes Go.ChangeAt Go.RowKit
set_option linter.unusedVariables false
/-- Two numbers each, in a row. -/
theorem bks_read {w : World} {a : Option Addr} {n c : Nat} {l : List Bk} (hn : l.length = n) (hl : Lies w 0 w.heap.size (.slice a n c) n 2 (l.flatMap Bk.cells)) : ∀ Y, Below w.heap.size w Y → ∀ i (hi : i < n), ∃ b off, a = some ⟨b, off, none⟩ ∧ Y.cell? ⟨b, off + i * 2, none⟩ = some (.int .i64 (l[i]'(by omega)).at_) ∧ Y.cell? ⟨b, off + i * 2 + 1, none⟩ = some (.int .i64 (l[i]'(by omega)).n) ∧ b < w.heap.size := by
 intro Y hY i hi
 obtain ⟨a', c', e, _, _, hc⟩ := hl.keep (SameIn.of_below hY (Nat.le_refl _))
 cases e
 rcases hc with h0 | ⟨b, off, rfl, _, hb, hc⟩
 ·omega
 ·have hx : l[i]? = some l[i] := List.getElem?_eq_getElem (by omega)
  have f0 := hc _ _ (flat_at Bk.cells 2 (fun _ => rfl) l i 0 _ hx (by omega))
  have f1 := hc _ _ (flat_at Bk.cells 2 (fun _ => rfl) l i 1 _ hx (by omega))
  exact ⟨b, off, rfl, f0, f1, hb⟩
/-- The block of a row. -/
def ob (a : Option Addr) : Option Nat := a.map (·.block)
theorem own_ob (a : Option Addr) (n c : Nat) : (Value.slice a n c).ownBlock = ob a := by cases a <;> rfl
theorem grow_but {S : Nat → Prop} {H : Nat} {w w' : World} (h : But H w w') (hH : S H) : GrowS S S w w' := ⟨h.os, h.tape, h.output, h.size, fun k hk hn => h.block k hk (fun e => hn (e ▸ hH)), fun k hk => .inl hk⟩
theorem okSv_bd {s : Sv} (h : okSv s = true) : 1 ≤ s.c ∧ s.c ≤ s.t ∧ s.t ≤ 1000 := by simpa [okSv] using h
end Go.Proofs.YtchbehnkkcjdgaaGreat
