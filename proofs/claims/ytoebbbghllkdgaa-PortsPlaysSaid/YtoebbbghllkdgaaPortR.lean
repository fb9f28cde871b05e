/- The document's channels in memory. -/
import Derived.Test.YtoebbbghllkdgaaPortQ
import Derived.Deep.CutRange
import Derived.Deep.CutBlock
namespace Go.Proofs.Ytoebbbghllkdgaa
open Go.ChangeShapes Go.WideShapes Go.ChangeAt Go.RowKit
set_option linter.unusedVariables false

/-- A channel's seven cells. -/
def pcL (x : Ch) (s : Ps) (la : Option Addr) (lc : Nat) : List Value := [.bool x.queue, .int .i64 x.from_, .int .i64 x.to, .int .i64 x.size, .slice la s.l.length lc, .int .i64 s.lost, .int .i64 s.at_]
structure PcAt (rb G : Nat) (R : Nat → Prop) (cur : Array Value) (x : Ch) (s : Ps) (i : Nat) (w : World) : Prop where
  is : ∃ la lc, (∀ j u, (pcL x s la lc)[j]? = some u → cur[i * 7 + j]? = some u) ∧ RowI w (fun b => R b ∧ b ≠ rb ∧ b ≠ G) s.l la lc
  t0 : 0 ≤ s.at_
  t1 : s.at_ ≤ 2305843009213693952
  sm : s.l.length ≤ 4096
/-- The document's channels: box rb, blocks R. -/
def DpAt (rb : Nat) (cs : List Ch) (st : Nat → Ps) : Own := fun w R => (∃ ao cap, w.heap[rb]? = some (.cells #[.slice ao cs.length cap] 52 (0, 0)) ∧ (cs = [] ∨ ∃ G cur, ao = some ⟨G, 0, none⟩ ∧ R G ∧ G ≠ rb ∧ w.heap[G]? = some (.cells cur 54 (0, 0)) ∧ ∀ i x, cs[i]? = some x → PcAt rb G R cur x (st i) i w)) ∧ R rb ∧ ∀ k, R k → k < w.heap.size
theorem dp_own (rb : Nat) (cs : List Ch) (st : Nat → Ps) : OwnP (DpAt rb cs st) := by
  refine ⟨fun {w w' R} ⟨⟨ao, cap, h1, h2⟩, h3, h4⟩ hk hz => ⟨⟨ao, cap, (hk rb h3).trans h1, ?_⟩, h3, fun k h => Nat.lt_of_lt_of_le (h4 k h) hz⟩, fun ⟨_, _, h4⟩ => h4⟩
  rcases h2 with h2 | ⟨G, cur, e1, e2, e3, e4, e5⟩
  · exact .inl h2
  · refine .inr ⟨G, cur, e1, e2, e3, (hk G e2).trans e4, fun i x hx => ?_⟩
    obtain ⟨⟨la, lc, f1, f2⟩, f3, f4, f5⟩ := e5 i x hx
    exact ⟨⟨la, lc, f1, f2.keep (fun b hb _ => hk b hb.1) hz⟩, f3, f4, f5⟩
theorem DpAt.box {rb : Nat} {cs : List Ch} {st : Nat → Ps} {w : World} {R : Nat → Prop} (h : DpAt rb cs st w R) : ∃ ao cap, w.heap[rb]? = some (.cells #[.slice ao cs.length cap] 52 (0, 0)) := by
  obtain ⟨⟨ao, cap, h1, h2⟩, h3, h4⟩ := h
  exact ⟨ao, cap, h1⟩
/-- What a channel's cells are written anew: the channels behind. -/
theorem dp_set {rb : Nat} {cs : List Ch} {st : Nat → Ps} {w Y Y' : World} {R : Nat → Prop} (h : DpAt rb cs st w R) {k : Nat} {x : Ch} (hx : cs[k]? = some x) {G : Nat} {cur cur' : Array Value} {cap : Nat}
    (hG : w.heap[rb]? = some (.cells #[.slice (some ⟨G, 0, none⟩) cs.length cap] 52 (0, 0))) (hc : w.heap[G]? = some (.cells cur 54 (0, 0)))
    (hb : Below w.heap.size w Y) (hB : But G Y Y') (hc' : Y'.heap[G]? = some (.cells cur' 54 (0, 0))) (ho : ∀ m, (∀ j, j < 7 → m ≠ k * 7 + j) → cur'[m]? = cur[m]?)
    {s' : Ps} (hn : PcAt rb G (fun b => R b ∨ (w.heap.size ≤ b ∧ b < Y'.heap.size)) cur' x s' k Y') :
    DpAt rb cs (updF st k s') Y' (fun b => R b ∨ (w.heap.size ≤ b ∧ b < Y'.heap.size)) ∧ GrowS R (fun b => R b ∨ (w.heap.size ≤ b ∧ b < Y'.heap.size)) w Y' := by
  obtain ⟨⟨ao, cap', h1, h2⟩, h3, h4⟩ := h
  have hk : k < cs.length := by
    rcases Nat.lt_or_ge k cs.length with h | h
    · exact h
    · rw [List.getElem?_eq_none h] at hx; cases hx
  rcases h2 with h2 | ⟨G', cur0, e1, e2, e3, e4, e5⟩
  · subst h2; exact absurd hk (Nat.not_lt_zero _)
  · rw [hG] at h1
    subst e1
    simp at h1
    obtain ⟨rfl, rfl⟩ := h1
    rw [hc] at e4
    cases e4
    have z1 := hb.size
    have z2 := hB.size
    have hsame : ∀ b, b < w.heap.size → b ≠ G → Y'.heap[b]? = w.heap[b]? := fun b h1 h2 => (hB.block b (Nat.lt_of_lt_of_le h1 z1) h2).trans (hb.block b h1)
    refine ⟨⟨⟨_, _, (hsame rb (h4 rb h3) (fun e => e3 e.symm)).trans hG, .inr ⟨G, cur', rfl, .inl e2, e3, hc', fun i y hy => ?_⟩⟩, .inl h3, fun b hb' => ?_⟩, ⟨hB.os.trans hb.os, hB.tape.trans hb.tape, hB.output.trans hb.output, Nat.le_trans z1 z2, fun b h1 h2 => hsame b h1 (fun e => h2 (e ▸ e2)), fun b h1 => h1.elim .inl (fun h => .inr h.1)⟩⟩
    · by_cases e : i = k
      · subst e
        rw [updF_at]
        rw [hx] at hy
        cases hy
        exact hn
      · rw [updF_ne _ _ e]
        obtain ⟨⟨la, lc, f1, f2⟩, f3, f4, f5⟩ := e5 i y hy
        refine ⟨⟨la, lc, fun j u hu => ?_, ?_⟩, f3, f4, f5⟩
        · have hj : j < 7 := by
            rcases Nat.lt_or_ge j 7 with h | h
            · exact h
            · rw [List.getElem?_eq_none (by simpa [pcL] using h)] at hu; cases hu
          rw [ho _ (fun j' hj' he => by omega)]
          exact f1 j u hu
        · refine (f2.keep (fun b h1 h2 => hsame b (h4 b h1.1) h1.2.2) (Nat.le_trans z1 z2)).mono (fun b h => ⟨.inl h.1, h.2⟩)
    · rcases hb' with h | h
      · exact Nat.lt_of_lt_of_le (h4 b h) (Nat.le_trans z1 z2)
      · exact h.2
/-- A channel's cells, where they are. -/
theorem DpAt.at_ {rb : Nat} {cs : List Ch} {st : Nat → Ps} {w : World} {R : Nat → Prop} (h : DpAt rb cs st w R) {k : Nat} {x : Ch} (hx : cs[k]? = some x) :
    ∃ G cap cur la lc, w.heap[rb]? = some (.cells #[.slice (some ⟨G, 0, none⟩) cs.length cap] 52 (0, 0)) ∧ w.heap[G]? = some (.cells cur 54 (0, 0)) ∧ (∀ j u, (pcL x (st k) la lc)[j]? = some u → cur[k * 7 + j]? = some u) ∧
      RowI w (fun b => R b ∧ b ≠ rb ∧ b ≠ G) (st k).l la lc ∧ (0 ≤ (st k).at_ ∧ (st k).at_ ≤ 2305843009213693952 ∧ (st k).l.length ≤ 4096) ∧ R G ∧ G ≠ rb := by
  obtain ⟨⟨ao, cap', h1, h2⟩, h3, h4⟩ := h
  have hk : k < cs.length := by
    rcases Nat.lt_or_ge k cs.length with h | h
    · exact h
    · rw [List.getElem?_eq_none h] at hx; cases hx
  rcases h2 with h2 | ⟨G, cur, e1, e2, e3, e4, e5⟩
  · subst h2; exact absurd hk (Nat.not_lt_zero _)
  · subst e1
    obtain ⟨⟨la, lc, f1, f2⟩, f3, f4, f5⟩ := e5 k x hx
    exact ⟨G, cap', cur, la, lc, h1, e4, f1, f2, ⟨f3, f4, f5⟩, e2, e3⟩
/-- The seven cells in the world. -/
theorem pc_cells {w : World} {G k : Nat} {cur : Array Value} {x : Ch} {s : Ps} {la : Option Addr} {lc : Nat} (hc : w.heap[G]? = some (.cells cur 54 (0, 0))) (h : ∀ j u, (pcL x s la lc)[j]? = some u → cur[k * 7 + j]? = some u) :
    w.cell? ⟨G, k * 7, none⟩ = some (.bool x.queue) ∧ w.cell? ⟨G, k * 7 + 1, none⟩ = some (.int .i64 x.from_) ∧ w.cell? ⟨G, k * 7 + 2, none⟩ = some (.int .i64 x.to) ∧ w.cell? ⟨G, k * 7 + 3, none⟩ = some (.int .i64 x.size) ∧ w.cell? ⟨G, k * 7 + 4, none⟩ = some (.slice la s.l.length lc) ∧ w.cell? ⟨G, k * 7 + 5, none⟩ = some (.int .i64 s.lost) ∧ w.cell? ⟨G, k * 7 + 6, none⟩ = some (.int .i64 s.at_) ∧
      w.frozen? ⟨G, k * 7 + 4, none⟩ = false ∧ w.frozen? ⟨G, k * 7 + 5, none⟩ = false ∧ w.frozen? ⟨G, k * 7 + 6, none⟩ = false :=
  ⟨cell_in hc (h 0 _ rfl), cell_in hc (h 1 _ rfl), cell_in hc (h 2 _ rfl), cell_in hc (h 3 _ rfl), cell_in hc (h 4 _ rfl), cell_in hc (h 5 _ rfl), cell_in hc (h 6 _ rfl), free_in hc _, free_in hc _, free_in hc _⟩
theorem set_get {cur : Array Value} {i j : Nat} {u : Value} (h : (cur[i]?).isSome = true) : (cur.setIfInBounds i u)[j]? = if j = i then some u else cur[j]? := by
  rw [Array.getElem?_setIfInBounds]
  by_cases e : i = j
  · subst e
    rw [if_pos rfl, if_pos rfl]
    cases hc : cur[i]? with
    | none => rw [hc] at h; cases h
    | some v =>
      have : i < cur.size := by
        rcases Nat.lt_or_ge i cur.size with h | h
        · exact h
        · rw [Array.getElem?_eq_none h] at hc; cases hc
      rw [if_pos this]
  · rw [if_neg e, if_neg (fun h => e h.symm)]
theorem pc_lt {x : Ch} {s : Ps} {la : Option Addr} {lc j : Nat} {u : Value} (h : (pcL x s la lc)[j]? = some u) : j = 0 ∨ j = 1 ∨ j = 2 ∨ j = 3 ∨ j = 4 ∨ j = 5 ∨ j = 6 := by
  have : j < 7 := by
    rcases Nat.lt_or_ge j 7 with h1 | h1
    · exact h1
    · rw [List.getElem?_eq_none (by simpa [pcL] using h1)] at h; cases h
  omega
section
variable {cur : Array Value} {k : Nat} {x : Ch} {l l' : List Int} {a b a' b' : Int} {la la' : Option Addr} {lc lc' m : Nat}
theorem pc_set4 (h : ∀ j u, (pcL x ⟨l, a, b⟩ la lc)[j]? = some u → cur[k * 7 + j]? = some u) (hm : m = l'.length) : ∀ j u, (pcL x ⟨l', a, b⟩ la' lc')[j]? = some u → (cur.setIfInBounds (k * 7 + 4) (.slice la' m lc'))[k * 7 + j]? = some u := by
  subst hm
  intro j u hu
  rw [set_get (by rw [h 4 _ rfl]; rfl)]
  rcases pc_lt hu with rfl | rfl | rfl | rfl | rfl | rfl | rfl
  all_goals first
    | (rw [if_pos rfl]; exact hu)
    | (rw [if_neg (by omega)]; exact h _ _ hu)
theorem pc_set5 (h : ∀ j u, (pcL x ⟨l, a, b⟩ la lc)[j]? = some u → cur[k * 7 + j]? = some u) : ∀ j u, (pcL x ⟨l, a', b⟩ la lc)[j]? = some u → (cur.setIfInBounds (k * 7 + 5) (.int .i64 a'))[k * 7 + j]? = some u := by
  intro j u hu
  rw [set_get (by rw [h 5 _ rfl]; rfl)]
  rcases pc_lt hu with rfl | rfl | rfl | rfl | rfl | rfl | rfl
  all_goals first
    | (rw [if_pos rfl]; exact hu)
    | (rw [if_neg (by omega)]; exact h _ _ hu)
theorem pc_set6 (h : ∀ j u, (pcL x ⟨l, a, b⟩ la lc)[j]? = some u → cur[k * 7 + j]? = some u) : ∀ j u, (pcL x ⟨l, a, b'⟩ la lc)[j]? = some u → (cur.setIfInBounds (k * 7 + 6) (.int .i64 b'))[k * 7 + j]? = some u := by
  intro j u hu
  rw [set_get (by rw [h 6 _ rfl]; rfl)]
  rcases pc_lt hu with rfl | rfl | rfl | rfl | rfl | rfl | rfl
  all_goals first
    | (rw [if_pos rfl]; exact hu)
    | (rw [if_neg (by omega)]; exact h _ _ hu)
theorem pc_other {i : Nat} {u : Value} (hi : ∃ j, j < 7 ∧ i = k * 7 + j) (ho : ∀ m, (∀ j, j < 7 → m ≠ k * 7 + j) → cur[m]? = cur[m]?) : ∀ m, (∀ j, j < 7 → m ≠ k * 7 + j) → (cur.setIfInBounds i u)[m]? = cur[m]? := fun m hm => by
  obtain ⟨j, hj, e⟩ := hi
  rw [Array.getElem?_setIfInBounds, if_neg (fun h => hm j hj (h.symm.trans e))]
end
end Go.Proofs.Ytoebbbghllkdgaa
