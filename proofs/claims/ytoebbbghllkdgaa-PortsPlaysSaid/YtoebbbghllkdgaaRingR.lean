/- The document's ring. -/
import Derived.Test.YtoebbbghllkdgaaOwnS
import Derived.Test.YtoebbbghllkdgaaRead
import Derived.Deep.CutRange
import Derived.Deep.CutBlock
namespace Go.Proofs.Ytoebbbghllkdgaa
open Go.ChangeShapes Go.WideShapes Go.ChangeAt Go.RowKit
set_option linter.unusedVariables false

/-- The list's row, in blocks of R. -/
def RowI (w : World) (R : Nat → Prop) (l : List Int) (ao : Option Addr) (cap : Nat) : Prop := (ao = none ∧ l = [] ∧ cap = 0) ∨ ∃ b off, ao = some ⟨b, off, none⟩ ∧ R b ∧ b < w.heap.size ∧ l.length ≤ cap ∧ ∀ i (hi : i < l.length), w.cell? ⟨b, off + i, none⟩ = some (.int .i64 l[i])
theorem RowI.keep {w w' : World} {R : Nat → Prop} {l : List Int} {ao : Option Addr} {cap : Nat} (h : RowI w R l ao cap) (hs : ∀ b, R b → b < w.heap.size → w'.heap[b]? = w.heap[b]?) (hz : w.heap.size ≤ w'.heap.size) : RowI w' R l ao cap := by
  rcases h with h | ⟨b, off, h1, h2, h3, h4, h5⟩
  · exact .inl h
  · exact .inr ⟨b, off, h1, h2, by omega, h4, fun i hi => (World.cell?_of_block (w := w) (hs b h2 h3)).trans (h5 i hi)⟩
theorem RowI.mono {w : World} {R R' : Nat → Prop} {l : List Int} {ao : Option Addr} {cap : Nat} (h : RowI w R l ao cap) (hR : ∀ b, R b → R' b) : RowI w R' l ao cap := by
  rcases h with h | ⟨b, off, h1, h2, h3, h4, h5⟩
  · exact .inl h
  · exact .inr ⟨b, off, h1, hR b h2, h3, h4, h5⟩
theorem RowI.fits {w : World} {R : Nat → Prop} {l : List Int} {ao : Option Addr} {cap : Nat} (h : RowI w R l ao cap) : l.length ≤ cap := by
  rcases h with ⟨_, rfl, _⟩ | ⟨b, off, _, _, _, h4, _⟩
  · simp
  · exact h4
theorem RowI.lies {w Y : World} {R : Nat → Prop} {l : List Int} {ao : Option Addr} {cap : Nat} (h : RowI w R l ao cap) (hb : Below w.heap.size w Y) : Lies Y 0 w.heap.size (.slice ao l.length cap) l.length 1 (l.flatMap intCells) := by
  rcases h with ⟨h1, h2, h3⟩ | ⟨b, off, rfl, _, h3, h4, h5⟩
  · subst h1 h2 h3
    exact ⟨_, _, rfl, rfl, fun _ => ⟨rfl, rfl⟩, .inl rfl⟩
  · have hfl : (l.flatMap intCells).length = l.length := by rw [flat_len intCells 1 (fun _ => rfl)]; omega
    refine ⟨_, _, rfl, by omega, (fun e => by cases e), .inr ⟨b, off, rfl, Nat.zero_le _, h3, fun k u hu => ?_⟩⟩
    have hk : k < l.length := by
      rcases Nat.lt_or_ge k l.length with h | h
      · exact h
      · rw [List.getElem?_eq_none (by omega)] at hu; cases hu
    have f := flat_at intCells 1 (fun _ => rfl) l k 0 _ (List.getElem?_eq_getElem hk) (by omega)
    rw [show k * 1 + 0 = k by omega, hu] at f
    rw [World.cell?_of_block (w := w) (hb.block b h3), h5 k hk, f]; rfl
theorem RowI.of_owns {w : World} {base n e : Nat} {R : Nat → Prop} {l : List Int} {ao : Option Addr} {cap : Nat} (h : w.ownsRow base e 1 (.slice ao n cap) n (l.flatMap intCells)) (hn : n = l.length) (hR : ∀ b, base ≤ b → b < w.heap.size → R b) : RowI w R l ao cap := by
  rcases h.2 with ⟨h1, h2⟩ | ⟨g, cap', cur, hv, hb, hg, h1, h2, h3, h4⟩
  · cases h1
    exact .inl ⟨rfl, List.eq_nil_of_length_eq_zero (by omega), rfl⟩
  · cases hv
    refine .inr ⟨g, 0, rfl, hR g hb (lt_of_block hg), lt_of_block hg, by omega, fun i hi => ?_⟩
    have a0 := flat_at intCells 1 (fun _ => rfl) l i 0 _ (List.getElem?_eq_getElem hi) (by omega)
    rw [← h4, List.getElem?_take_of_lt (by omega)] at a0
    rw [Nat.zero_add]
    exact cell_in hg (by simpa [intCells] using a0)
theorem RowI.tail {w : World} {R : Nat → Prop} {x : Int} {l : List Int} {b off cap : Nat} (h : RowI w R (x :: l) (some ⟨b, off, none⟩) cap) : RowI w R l (some ⟨b, off + 1, none⟩) (cap - 1) := by
  rcases h with ⟨h0, _⟩ | ⟨b', off', h1, h2, h3, h4, h5⟩
  · cases h0
  · cases h1
    refine .inr ⟨b, off + 1, rfl, h2, h3, by simp at h4; omega, fun i hi => ?_⟩
    have := h5 (i + 1) (by simp; omega)
    rw [show off + 1 + i = off + (i + 1) by omega]
    simpa using this
theorem RowI.at {w : World} {R : Nat → Prop} {l : List Int} {ao : Option Addr} {cap : Nat} (h : RowI w R l ao cap) {i : Nat} (hi : i < l.length) : ∃ b off, ao = some ⟨b, off, none⟩ ∧ w.cell? ⟨b, off + i, none⟩ = some (.int .i64 l[i]) := by
  rcases h with ⟨_, h0, _⟩ | ⟨b, off, h1, _, _, _, h5⟩
  · subst h0; exact absurd hi (Nat.not_lt_zero _)
  · exact ⟨b, off, h1, h5 i hi⟩

/-- What a ring tells and becomes. -/
def pushV {α : Type} (n : Int) (l : List α) (x : α) : List α := if (l.length : Int) < n then l ++ [x] else l
def freeV {α : Type} (n : Int) (l : List α) : Bool := decide ((l.length : Int) < n)
theorem pushV_yes {α : Type} {n : Int} {l : List α} {x : α} (h : (l.length : Int) < n) : pushV n l x = l ++ [x] ∧ freeV n l = true := ⟨if_pos h, decide_eq_true h⟩
theorem pushV_no {α : Type} {n : Int} {l : List α} {x : α} (h : ¬ (l.length : Int) < n) : pushV n l x = l ∧ freeV n l = false := ⟨if_neg h, decide_eq_false h⟩
def popV {α : Type} (z : α) (l : List α) : α := l.headD z
def anyV {α : Type} (l : List α) : Bool := !l.isEmpty
def inL (l : List Int) (i : Int) : Bool := decide (0 ≤ i) && decide (i < (l.length : Int))
def atL (l : List Int) (i : Int) : Int := if 0 ≤ i then l.getD i.toNat 0 else 0
def setL (l : List Int) (i x : Int) : List Int := if 0 ≤ i then l.set i.toNat x else l
theorem pushV_len {α : Type} (n : Int) (l : List α) (x : α) (h : (l.length : Int) ≤ n) : ((pushV n l x).length : Int) ≤ n ∧ (pushV n l x).length ≤ l.length + 1 := by
  unfold pushV; split <;> simp <;> omega
theorem setL_len (l : List Int) (i x : Int) : (setL l i x).length = l.length := by unfold setL; split <;> simp
/-- Blocks of one's own: the old box and what is new. -/
def NewS (rb lo hi : Nat) (k : Nat) : Prop := k = rb ∨ (lo ≤ k ∧ k < hi)
theorem ints_one (l : List Int) : ∀ u ∈ l.flatMap intCells, u.oneCell' = true := flat_one intCells (fun x u hu => in_one x u hu) l
theorem RowI.none_left {w : World} {R : Nat → Prop} {l : List Int} {b off cap c : Nat} (h : RowI w R l (some ⟨b, off, none⟩) cap) (hb : ∃ x, x ∈ l) (off' : Nat) : RowI w R [] (some ⟨b, off', none⟩) c := by
  rcases h with ⟨h0, _⟩ | ⟨b', off'', h1, h2, h3, h4, h5⟩
  · cases h0
  · cases h1
    exact .inr ⟨b, off', rfl, h2, h3, Nat.zero_le _, fun i hi => absurd hi (Nat.not_lt_zero _)⟩
theorem Try.infoInt14 : (Try.prog.info? 3).map (fun i => (i.zero, i.size, i.bytes)) = some (some (.int .i64 0), 1, 8) := by kernel_rfl
theorem own_new {w : World} (Y : World) (Z : Nat) (h : Y.heap[Z]? = some (.cells #[] 3 (0, 0))) (hZ : w.heap.size ≤ Z) : Y.ownsRow w.heap.size 3 1 (.slice (some ⟨Z, 0, none⟩) 0 0) 0 [] :=
  ⟨rfl, .inr ⟨_, 0, #[], rfl, hZ, h, Nat.le_refl _, Nat.zero_le _, rfl, rfl⟩⟩
theorem RowI.put {Y : World} {base e m k : Nat} {l : List Int} {g cap : Nat} {x : Int} (h : Y.ownsRow base e 1 (.slice (some ⟨g, 0, none⟩) m cap) m (l.flatMap intCells)) (hm : m = l.length) (hk : k < m) : RowI (Y.setCell ⟨g, k, none⟩ (.int .i64 x)) (fun b => base ≤ b) (l.set k x) (some ⟨g, 0, none⟩) cap := by
  rcases h.2 with ⟨h1, h2⟩ | ⟨g', cap', cur, hv, hb, hg, h1, h2, h3, h4⟩
  · cases h1
  · cases hv
    have hs := set_at (j := k) (u := .int .i64 x) hg
    refine .inr ⟨g, 0, rfl, hb, lt_of_block hs, by simp; omega, fun i hi => ?_⟩
    have hi' : i < l.length := by simpa using hi
    by_cases e : i = k
    · subst e
      refine cell_in hs ?_
      rw [Nat.zero_add, Array.getElem?_setIfInBounds_self_of_lt (by omega)]
      simp
    · have a0 := flat_at intCells 1 (fun _ => rfl) l i 0 _ (List.getElem?_eq_getElem hi') (by omega)
      rw [← h4, List.getElem?_take_of_lt (by omega)] at a0
      refine cell_in hs ?_
      rw [Nat.zero_add, List.getElem_set_ne (by omega)]
      rw [Array.getElem?_setIfInBounds_ne (by omega)]
      simpa [intCells] using a0
end Go.Proofs.Ytoebbbghllkdgaa
