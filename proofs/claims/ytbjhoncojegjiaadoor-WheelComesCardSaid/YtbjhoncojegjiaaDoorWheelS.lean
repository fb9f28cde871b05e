/- WheelComes: what is plain in it. -/
import Derived.Test.YtbjhoncojegjiaaDoorWheelT
namespace Go.Proofs.YtbjhoncojegjiaaDoor
open Go.ChangeShapes Go.WideShapes Go.ChangeAt Go.RowKit
set_option linter.unusedVariables false

theorem rem3000 (n : Int) : ∃ k : Nat, k < 3000 ∧ (wrap64 (n.tmod 3000 + 3000)).tmod 3000 = k := by
  have a := Int.tmod_lt_of_pos n (show (0 : Int) < 3000 by omega)
  have b := Int.lt_tmod_of_pos n (show (0 : Int) < 3000 by omega)
  have hp : 0 ≤ n.tmod 3000 + 3000 := by omega
  rw [IntWalk.wrap64_in (n.tmod 3000 + 3000) ⟨by omega, by omega⟩]
  refine ⟨((n.tmod 3000 + 3000).tmod 3000).toNat, ?_, ?_⟩
  · have := Int.tmod_lt_of_pos (n.tmod 3000 + 3000) (show (0 : Int) < 3000 by omega)
    have := Int.tmod_nonneg 3000 hp
    omega
  · have := Int.tmod_nonneg 3000 hp
    omega
/-- What is still to be told, from number b on. -/
def Gos (x : Nat → Int) (t : Int) (K : Nat) : Nat → List Int → Prop
  | b, [] => ∀ j, b ≤ j → j < K → x j ≠ t
  | b, y :: ys => ∃ y' : Nat, y = (y' : Int) ∧ b ≤ y' ∧ y' < K ∧ x y' = t ∧ (∀ j, b ≤ j → j < y' → x j ≠ t) ∧ Gos x t K (y' + 1) ys
theorem Gos.no {x : Nat → Int} {t : Int} {K : Nat} (h : x K ≠ t) : ∀ (L : List Int) (b : Nat), Gos x t K b L → Gos x t (K + 1) b L
  | [], b, g => fun j hb hj => by
    by_cases e : j = K
    · subst e; exact h
    · exact g j hb (by omega)
  | _ :: ys, b, ⟨y', e, h1, h2, h3, h4, h5⟩ => ⟨y', e, h1, by omega, h3, h4, Gos.no h ys _ h5⟩
theorem Gos.yes {x : Nat → Int} {t : Int} {K : Nat} (h : x K = t) : ∀ (L : List Int) (b : Nat), b ≤ K → Gos x t K b L → Gos x t (K + 1) b (L ++ [(K : Int)])
  | [], b, hb, g => ⟨K, rfl, hb, by omega, h, fun j h1 h2 => g j h1 h2, fun j h1 h2 => by omega⟩
  | _ :: ys, b, hb, ⟨y', e, h1, h2, h3, h4, h5⟩ => ⟨y', e, h1, by omega, h3, h4, Gos.yes h ys _ (by omega) h5⟩
theorem gos_goL (x : Nat → Int) (t : Int) : ∀ K, Gos x t K 0 (goL x t K)
  | 0 => fun j _ h => by omega
  | K + 1 => by
    by_cases e : x K = t
    · rw [goL_yes e]; exact Gos.yes e _ _ (Nat.zero_le _) (gos_goL x t K)
    · rw [goL_no e]; exact Gos.no e _ _ (gos_goL x t K)
theorem Gos.get {x : Nat → Int} {t : Int} {K i b : Nat} {L : List Int} (g : Gos x t K b (L.drop i)) (hi : i < L.length) : ∃ y : Nat, L[i]? = some (y : Int) ∧ b ≤ y ∧ y < K ∧ x y = t ∧ (∀ j, b ≤ j → j < y → x j ≠ t) ∧ Gos x t K (y + 1) (L.drop (i + 1)) := by
  rw [List.drop_eq_getElem_cons hi] at g
  obtain ⟨y, e, h1, h2, h3, h4, h5⟩ := g
  exact ⟨y, by rw [List.getElem?_eq_getElem hi, e], h1, h2, h3, h4, h5⟩
theorem goX_step {r : Nat → Int} {t : Int} {b y : Nat} (hb : b ≤ y) (hy : r y = t) (hn : ∀ j, b ≤ j → j < y → r j ≠ t) : updR (goX r t b) y (-1) = goX r t (y + 1) := by
  funext j
  by_cases e : j = y
  · subst e; rw [updR_at]; unfold goX; rw [if_pos ⟨by omega, hy⟩]
  · rw [updR_ne _ _ e]
    unfold goX
    by_cases h1 : j < b
    · by_cases h2 : r j = t
      · rw [if_pos ⟨h1, h2⟩, if_pos ⟨by omega, h2⟩]
      · rw [if_neg (fun h => h2 h.2), if_neg (fun h => h2 h.2)]
    · rw [if_neg (fun h => h1 h.1)]
      by_cases h3 : j < y
      · rw [if_neg (fun h => hn j (by omega) h3 h.2)]
      · rw [if_neg (fun h => by have := h.1; omega)]
theorem goX_end {r : Nat → Int} {t : Int} {b K : Nat} (hb : b ≤ K) (hn : ∀ j, b ≤ j → j < K → r j ≠ t) : goX r t b = goX r t K := by
  funext j
  unfold goX
  by_cases h2 : r j = t
  · by_cases h1 : j < b
    · rw [if_pos ⟨h1, h2⟩, if_pos ⟨by omega, h2⟩]
    · rw [if_neg (fun h => h1 h.1), if_neg (fun h => hn j (by omega) h.1 h2)]
  · rw [if_neg (fun h => h2 h.2), if_neg (fun h => h2 h.2)]
/-- All that is set lies ahead. -/
def Ahead (hi lo : Int) (n : Nat) (x : Nat → Int) : Prop := ∀ j, x j = -1 ∨ (j < n ∧ lo < x j ∧ x j ≤ hi)
theorem Ahead.go {hi lo : Int} {n : Nat} {x : Nat → Int} (h : Ahead hi lo n x) (hn : n ≤ 256) : Ahead hi (lo + 1) n (goX x (lo + 1) 256) := fun j => by
  unfold goX
  by_cases e : j < 256 ∧ x j = lo + 1
  · rw [if_pos e]; exact .inl rfl
  · rw [if_neg e]
    rcases h j with h1 | ⟨h1, h2, h3⟩
    · exact .inl h1
    · exact .inr ⟨h1, by have : x j ≠ lo + 1 := fun h => e ⟨by omega, h⟩; omega, h3⟩
theorem Ahead.none {hi lo : Int} {n : Nat} {x : Nat → Int} (h : Ahead hi lo n x) (hl : hi ≤ lo) (j : Nat) : x j = -1 := (h j).elim id fun h1 => by omega
theorem Ahead.set {hi now t : Int} {k : Nat} {x : Nat → Int} (h : Ahead hi now k x) (h1 : now < t) (h2 : t ≤ hi) : Ahead hi now (k + 1) (updR x k t) := fun j => by
  by_cases e : j = k
  · subst e; rw [updR_at]; exact .inr ⟨by omega, h1, h2⟩
  · rw [updR_ne _ _ e]
    rcases h j with h3 | ⟨h3, h4, h5⟩
    · exact .inl h3
    · exact .inr ⟨by omega, h4, h5⟩
/-- The row of ticks. -/
def RowS (w : World) (A n : Nat) (x : Nat → Int) (S : Nat → Prop) : Prop := 0 < n → RowAt w A n x ∧ ¬ S A
theorem RowS.grow {w w' : World} {A n : Nat} {x : Nat → Int} {S S' : Nat → Prop} (h : RowS w A n x S) (g : GrowS S S' w w') : RowS w' A n x S' := fun h0 => ⟨(h h0).1.same (g.block _ (h h0).1.lt (h h0).2), g.not (h h0).1.lt (h h0).2⟩
theorem RowS.later {w w' : World} {A n : Nat} {x : Nat → Int} {S : Nat → Prop} (h : RowS w A n x S) (g : Below w.heap.size w w') : RowS w' A n x S := fun h0 => ⟨(h h0).1.same (g.block _ (h h0).1.lt), (h h0).2⟩
theorem But2.one {A B : Nat} {w w' : World} (h : But2 A A w w') (h1 : B ≤ A) (hB : B ≤ w.heap.size) : Below B w w' := ⟨h.os, h.tape, h.output, h.size, fun k hk => h.block k (by omega) (by omega) (by omega)⟩
theorem ints_read {w : World} {a : Option Addr} {n c B U : Nat} {l : List Int} (hn : l.length = n) (hl : Lies w B U (.slice a n c) n 1 (l.flatMap intCells)) (i : Nat) (hi : i < n) : ∃ b off e, a = some ⟨b, off, none⟩ ∧ l[i]? = some e ∧ w.cell? ⟨b, off + i, none⟩ = some (.int .i64 e) ∧ B ≤ b ∧ b < U := by
  obtain ⟨a', c', e, _, _, hc⟩ := hl
  cases e
  rcases hc with h0 | ⟨b, off, rfl, hB, hb, hc⟩
  · omega
  · have hx : l[i]? = some l[i] := List.getElem?_eq_getElem (by omega)
    have f0 := hc _ _ (flat_at intCells 1 (fun _ => rfl) l i 0 _ hx (by omega))
    rw [show i * 1 + 0 = i by omega] at f0
    exact ⟨b, off, l[i], rfl, hx, f0, hB, hb⟩
end Go.Proofs.YtbjhoncojegjiaaDoor
