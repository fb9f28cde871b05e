/- append with what becomes of the row's block told; rows of rows. -/
import Derived.Test.YtmkohnpdpcefgaaBase
namespace Go.Proofs.Ytmkohnpdpcefgaa
open Go.ChangeShapes Go.WideShapes Go.ChangeAt Go.RowKit
set_option linter.unusedVariables false

theorem run_append_lie2 {P : Program} (w : World) (t ty : TypeId) (base : Nat) (e : TypeId) (i : TypeInfo) (z : Value) (size bytes : Nat) (ht : P.underlying t = some (.slice e)) (hi : P.info? e = some i) (hz : i.zero = some z)
    (hsize : i.size = size) (hby : i.bytes = bytes) (hzs : z.cells.size = size) (hsz : 0 < size)
    (v : Value) (n : Nat) (xs : List Value) (hown : w.ownsRow base e size v n xs) (src : Value) (lo hi' : Nat) (m : Nat) (news : List Value) (hl : Lies w lo hi' src m size news) (h1 : ∀ u ∈ news, u.oneCell' = true)
    (N : Nat) (hN : n + m = N) (h63 : N ≤ maxLen) (hbytes : N * bytes ≤ 140737488355328) (hbase : base ≤ w.heap.size) :
    ∃ ao cap w', (Builtin.append_ #[t, t] ty #[v, src]).run P w = .ok (.slice ao N cap) w' ∧ w'.ownsRow base e size (.slice ao N cap) N (xs ++ news) ∧ w.grownBy w' v.ownBlock ∧ ((Value.slice ao N cap).ownBlock = v.ownBlock ∨ (Value.slice ao N cap).ownBlock = some w.heap.size) := by
  subst hN
  suffices hs : ∃ v' w', (Builtin.append_ #[t, t] ty #[v, src]).run P w = .ok v' w' ∧ w'.ownsRow base e size v' (n + m) (xs ++ news) ∧ w.grownBy w' v.ownBlock ∧ (v'.ownBlock = v.ownBlock ∨ v'.ownBlock = some w.heap.size) by
    obtain ⟨v', w', h1, h2, h3, h4⟩ := hs
    rcases h2.2 with ⟨rfl, h0⟩ | ⟨g, cap, cur, rfl, _⟩
    · exact ⟨none, 0, w', by rw [h1, h0], by rw [h0] at h2 ⊢; exact h2, h3, by rw [h0]; exact h4⟩
    · exact ⟨_, cap, w', h1, h2, h3, h4⟩
  obtain ⟨a, cap, rfl, hln, hnone, hc⟩ := hl
  cases a with
  | none =>
    obtain ⟨rfl, rfl⟩ := hnone rfl
    have : news = [] := List.eq_nil_of_length_eq_zero (by simpa using hln)
    subst this
    exact ⟨v, w, run_append_owned_none w base t ty e i size ht hi v n xs hown, by simpa using hown, World.grownBy.refl _ _, .inl rfl⟩
  | some ad =>
    have hnews : ∀ j u, news[j]? = some u → w.cell? (ad.add j) = some u := by
      intro j u hu
      rcases hc with rfl | ⟨b, off, hab, _, _, hc⟩
      · have : news = [] := List.eq_nil_of_length_eq_zero (by simpa using hln)
        subst this; simp at hu
      · cases hab
        rw [add_at]; exact hc j u hu
    obtain ⟨v', w', h1, h2, h3, _, h4⟩ := run_append_own_at (P := P) w base t ty e i z size bytes ht hi hz hsize hby hzs hsz v n xs hown ad m cap news hln hnews h1 h63 hbytes hbase
    exact ⟨v', w', h1, h2, h3, h4⟩
theorem wp_append_lie2 {P : Program} {w : World} {o : Oper} {a : Act} {K : Act → World → Prop} {Q : Exit → Act → World → Prop} (s x : Operand) (t : TypeId)
    (ho : o.op = .call { callee := .builtin .append, args := #[s, x], argTypes := #[t, t] })
    (base : Nat) (e : TypeId) (i : TypeInfo) (z : Value) (size bytes : Nat) (ht : P.underlying t = some (.slice e)) (hi : P.info? e = some i) (hz : i.zero = some z)
    (hsize : i.size = size) (hby : i.bytes = bytes) (hzs : z.cells.size = size) (hsz : 0 < size)
    (v : Value) (n : Nat) (xs : List Value) (hs : a.eval s = v) (hown : w.ownsRow base e size v n xs)
    (src : Value) (lo hi' : Nat) (m : Nat) (news : List Value) (hx : a.eval x = src) (hl : Lies w lo hi' src m size news) (h1 : ∀ u ∈ news, u.oneCell' = true)
    (N : Nat) (hN : n + m = N) (h63 : N ≤ maxLen) (hbytes : N * bytes ≤ 140737488355328) (hbase : base ≤ w.heap.size)
    (h : ∀ ao cap w', w'.ownsRow base e size (.slice ao N cap) N (xs ++ news) → w.grownBy w' v.ownBlock → ((Value.slice ao N cap).ownBlock = v.ownBlock ∨ (Value.slice ao N cap).ownBlock = some w.heap.size) → K (a.put o.dst (.slice ao N cap)) w') : o.wp P a w K Q := by
  obtain ⟨ao, cap, w', hr, h2, h3, h4⟩ := run_append_lie2 (P := P) w t o.type base e i z size bytes ht hi hz hsize hby hzs hsz v n xs hown src lo hi' m news hl h1 N hN h63 hbytes hbase
  unfold Oper.wp execOp
  simp only [ho, resolve, invoke, builtin, Sem.run_bind, Sem.run_pure, Result.andThen_ok, List.map_toArray, List.map_cons, List.map_nil, hs, hx, hr]
  exact h ao cap w' h2 h3 h4
theorem wpList_append_lie2 {P : Program} {w : World} {ops : Array Oper} {rest : List Oper} {o : Oper} {a : Act} {Q : Exit → Act → World → Prop} (hgd : o.guard = none) (s x : Operand) (t : TypeId)
    (ho : o.op = .call { callee := .builtin .append, args := #[s, x], argTypes := #[t, t] })
    (base : Nat) (e : TypeId) (i : TypeInfo) (z : Value) (size bytes : Nat) (ht : P.underlying t = some (.slice e)) (hi : P.info? e = some i) (hz : i.zero = some z)
    (hsize : i.size = size) (hby : i.bytes = bytes) (hzs : z.cells.size = size) (hsz : 0 < size)
    (v : Value) (n : Nat) (xs : List Value) (hs : a.eval s = v) (hown : w.ownsRow base e size v n xs)
    (src : Value) (lo hi' : Nat) (m : Nat) (news : List Value) (hx : a.eval x = src) (hl : Lies w lo hi' src m size news) (h1 : ∀ u ∈ news, u.oneCell' = true)
    (N : Nat) (hN : n + m = N) (h63 : N ≤ maxLen) (hbytes : N * bytes ≤ 140737488355328) (hbase : base ≤ w.heap.size)
    (h : ∀ ao cap w', w'.ownsRow base e size (.slice ao N cap) N (xs ++ news) → w.grownBy w' v.ownBlock → ((Value.slice ao N cap).ownBlock = v.ownBlock ∨ (Value.slice ao N cap).ownBlock = some w.heap.size) → wpList P ops Q rest (a.put o.dst (.slice ao N cap)) w') : wpList P ops Q (o :: rest) a w :=
  wpList_plain hgd fun _ hK => wp_append_lie2 s x t ho base e i z size bytes ht hi hz hsize hby hzs hsz v n xs hs hown src lo hi' m news hx hl h1 N hN h63 hbytes hbase fun ao cap w' h2 h3 h4 => hK _ _ (h ao cap w' h2 h3 h4)
theorem step_append_lie2 {P : Program} {w : World} {ops : Array Oper} {o : Oper} {a : Act} {K : Act → World → Prop} {Q : Exit → Act → World → Prop} {E : Prop} (hgd : o.guard = none) (s x : Operand) (t : TypeId)
    (ho : o.op = .call { callee := .builtin .append, args := #[s, x], argTypes := #[t, t] })
    (base : Nat) (e : TypeId) (i : TypeInfo) (z : Value) (size bytes : Nat) (ht : P.underlying t = some (.slice e)) (hi : P.info? e = some i) (hz : i.zero = some z)
    (hsize : i.size = size) (hby : i.bytes = bytes) (hzs : z.cells.size = size) (hsz : 0 < size)
    (v : Value) (n : Nat) (xs : List Value) (hs : a.eval s = v) (hown : w.ownsRow base e size v n xs)
    (src : Value) (lo hi' : Nat) (m : Nat) (news : List Value) (hx : a.eval x = src) (hl : Lies w lo hi' src m size news) (h1 : ∀ u ∈ news, u.oneCell' = true)
    (N : Nat) (hN : n + m = N) (h63 : N ≤ maxLen) (hbytes : N * bytes ≤ 140737488355328) (hbase : base ≤ w.heap.size)
    (h : ∀ ao cap w', w'.ownsRow base e size (.slice ao N cap) N (xs ++ news) → w.grownBy w' v.ownBlock → ((Value.slice ao N cap).ownBlock = v.ownBlock ∨ (Value.slice ao N cap).ownBlock = some w.heap.size) → K (a.put o.dst (.slice ao N cap)) w') :
    if Region.wanted o (yielded ops a.tmps) = true then Oper.wp P o a w K Q else E := by
  have hw : Region.wanted o (yielded ops a.tmps) = true := by simp [Region.wanted, hgd]
  rw [if_pos hw]
  exact wp_append_lie2 s x t ho base e i z size bytes ht hi hz hsize hby hzs hsz v n xs hs hown src lo hi' m news hx hl h1 N hN h63 hbytes hbase h

/-! ### rows of rows of ints -/
/-- Rows of ints, each in a range of its own, clear of one block. -/
def RowsL (w : World) (ob : Option Nat) (vs : List Value) (ls : List (List Int)) : Prop :=
  vs.length = ls.length ∧ ∀ (i : Nat) (v : Value) (xs : List Int), vs[i]? = some v → ls[i]? = some xs → ∃ lo hi, hi ≤ w.heap.size ∧ (∀ g, ob = some g → g < lo ∨ hi ≤ g) ∧ Lies w lo hi v xs.length 1 (xs.flatMap intCells)
theorem RowsL.nil (w : World) (ob : Option Nat) : RowsL w ob [] [] := ⟨rfl, fun i v xs h => by simp at h⟩
theorem RowsL.later {w w' : World} {ob : Option Nat} {vs : List Value} {ls : List (List Int)} (h : RowsL w ob vs ls) (hb : Below w.heap.size w w') : RowsL w' ob vs ls :=
  ⟨h.1, fun i v xs h1 h2 => let ⟨lo, hi, a, b, c⟩ := h.2 i v xs h1 h2; ⟨lo, hi, Nat.le_trans a hb.size, b, c.keep (SameIn.of_below hb a)⟩⟩
theorem RowsL.grown {w w' : World} {ob ob' : Option Nat} {vs : List Value} {ls : List (List Int)} (h : RowsL w ob vs ls) (hg : w.grownBy w' ob) (ho : ob' = ob ∨ ob' = some w.heap.size) : RowsL w' ob' vs ls :=
  ⟨h.1, fun i v xs h1 h2 => by
    obtain ⟨lo, hi, a, b, c⟩ := h.2 i v xs h1 h2
    refine ⟨lo, hi, Nat.le_trans a hg.size, fun g hg' => ?_, c.keep (fun k k1 k2 => hg.block k (by omega) (fun e => ?_))⟩
    · rcases ho with rfl | rfl
      · exact b g hg'
      · cases hg'; exact .inr a
    · have := b k e.symm; omega⟩
theorem RowsL.snoc {w : World} {ob : Option Nat} {vs : List Value} {ls : List (List Int)} (h : RowsL w ob vs ls) {v : Value} {xs : List Int} {lo hi : Nat} (a : hi ≤ w.heap.size) (b : ∀ g, ob = some g → g < lo ∨ hi ≤ g) (c : Lies w lo hi v xs.length 1 (xs.flatMap intCells)) : RowsL w ob (vs ++ [v]) (ls ++ [xs]) := by
  refine ⟨by simp [h.1], fun i v' xs' h1 h2 => ?_⟩
  by_cases hi' : i < vs.length
  · rw [List.getElem?_append_left hi'] at h1
    rw [List.getElem?_append_left (by rw [← h.1]; exact hi')] at h2
    exact h.2 i v' xs' h1 h2
  · have e : i = vs.length := by have := (List.getElem?_eq_some_iff.1 h1).1; simp at this; omega
    subst e
    rw [List.getElem?_concat_length] at h1
    rw [h.1, List.getElem?_concat_length] at h2
    cases h1; cases h2
    exact ⟨lo, hi, a, b, c⟩
theorem RowsL.at {w : World} {ob : Option Nat} {vs : List Value} {ls : List (List Int)} (h : RowsL w ob vs ls) {i : Nat} {v : Value} {xs : List Int} (h1 : vs[i]? = some v) (h2 : ls[i]? = some xs) : Lies w 0 w.heap.size v xs.length 1 (xs.flatMap intCells) :=
  let ⟨lo, hi, a, b, c⟩ := h.2 i v xs h1 h2; c.wider (Nat.zero_le _) a
theorem flat_self : ∀ vs : List Value, vs.flatMap (fun v => [v]) = vs
  | [] => rfl
  | v :: l => by rw [List.flatMap_cons, flat_self l]; rfl
theorem slice_one {v : Value} {w : World} {lo hi n sz : Nat} {cs : List Value} (h : Lies w lo hi v n sz cs) : v.oneCell' = true := by obtain ⟨a, c, rfl, _⟩ := h; rfl
theorem owns_own {w : World} {base e sz : Nat} {v : Value} {n : Nat} {xs : List Value} (h : w.ownsRow base e sz v n xs) : ∀ g, v.ownBlock = some g → base ≤ g ∧ g < w.heap.size := fun g hg => by
  obtain ⟨h1, cs, h2⟩ := owns_block h g hg
  exact ⟨h1, lt_of_block h2⟩
theorem owns_hold {w w' : World} {base e sz : Nat} {v : Value} {n : Nat} {xs : List Value} (h : w.ownsRow base e sz v n xs) (hb : w.heap.size ≤ w'.heap.size ∧ ∀ g, v.ownBlock = some g → w'.heap[g]? = w.heap[g]?) : w'.ownsRow base e sz v n xs := by
  refine ⟨h.1, ?_⟩
  rcases h.2 with h0 | ⟨g, cap, cur, hv, h1, h2, h3⟩
  · exact .inl h0
  · exact .inr ⟨g, cap, cur, hv, h1, (hb.2 g (by rw [hv]; rfl)).trans h2, h3⟩
theorem owns_slice {w : World} {base e sz : Nat} {v : Value} {n : Nat} {xs : List Value} (h : w.ownsRow base e sz v n xs) : (∃ a cap, v = .slice a n cap) ∧ n ≤ maxLen := by
  rcases h.2 with ⟨rfl, h0⟩ | ⟨g, cap, cur, rfl, _, _, h1, h2, _⟩
  · exact ⟨⟨none, 0, by rw [h0]⟩, by omega⟩
  · exact ⟨⟨_, _, rfl⟩, by omega⟩
end Go.Proofs.Ytmkohnpdpcefgaa
