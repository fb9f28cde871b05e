/- A row in a block of its own, from any place in it on: cut at its head, grown behind. -/
import Derived.Test.YtoebbbghllkdgaaTwo
import Derived.Lib.SliceRun
namespace Go.Proofs.Ytoebbbghllkdgaa
open Go.ChangeShapes Go.WideShapes Go.ChangeAt Go.RowKit
set_option linter.unusedVariables false

def ORow (w : World) (e : TypeId) (sz : Nat) (v : Value) (n : Nat) (xs : List Value) : Prop :=
  xs.length = n * sz ∧ ((v = .slice none 0 0 ∧ n = 0) ∨ ∃ g off cap cur, v = .slice (some ⟨g, off, none⟩) n cap ∧ w.heap[g]? = some (.cells cur e (0, 0)) ∧ n ≤ cap ∧ cap ≤ maxLen ∧ off + cap * sz ≤ cur.size ∧ (cur.toList.drop off).take (n * sz) = xs)
section
variable {w w' : World} {e : TypeId} {sz n : Nat} {v : Value} {xs : List Value}
theorem ORow.nil (w : World) (e : TypeId) (sz : Nat) : ORow w e sz (.slice none 0 0) 0 [] := ⟨by simp, .inl ⟨rfl, rfl⟩⟩
theorem ORow.of_owns {base : Nat} (h : w.ownsRow base e sz v n xs) : ORow w e sz v n xs := by
  obtain ⟨h1, h2 | ⟨g, cap, cur, hv, hb, hg, h3, h4, h5, h6⟩⟩ := h
  · exact ⟨h1, .inl h2⟩
  · exact ⟨h1, .inr ⟨g, 0, cap, cur, hv, hg, h3, h4, by omega, by simpa using h6⟩⟩
theorem ORow.hold (h : ORow w e sz v n xs) (hs : ∀ g, v.ownBlock = some g → w'.heap[g]? = w.heap[g]?) : ORow w' e sz v n xs := by
  obtain ⟨h1, h2 | ⟨g, off, cap, cur, hv, hg, h3⟩⟩ := h
  · exact ⟨h1, .inl h2⟩
  · exact ⟨h1, .inr ⟨g, off, cap, cur, hv, (hs g (by rw [hv]; rfl)).trans hg, h3⟩⟩
theorem ORow.kind (h : ORow w e sz v n xs) : ∀ g, v.ownBlock = some g → ∃ cs, w.heap[g]? = some (.cells cs e (0, 0)) := by
  intro g hb
  obtain ⟨h1, ⟨hv, _⟩ | ⟨g', off, cap, cur, hv, hg, h3⟩⟩ := h
  · rw [hv] at hb; cases hb
  · rw [hv] at hb; cases hb; exact ⟨_, hg⟩
theorem ORow.lt (h : ORow w e sz v n xs) : ∀ g, v.ownBlock = some g → g < w.heap.size := fun g hb => by
  obtain ⟨cs, hc⟩ := h.kind g hb
  exact lt_of_block hc
theorem ORow.later (h : ORow w e sz v n xs) (hb : Below w.heap.size w w') : ORow w' e sz v n xs := h.hold fun g hg => hb.block g (h.lt g hg)
theorem ORow.form {a : Option Addr} {m c : Nat} (h : ORow w e sz (.slice a m c) n xs) : m = n ∧ n ≤ c ∧ (a = none → n = 0 ∧ c = 0) := by
  obtain ⟨h1, ⟨hv, h2⟩ | ⟨g', off, cap, cur, hv, hg, h3, _⟩⟩ := h
  · cases hv; exact ⟨h2.symm, by omega, fun _ => ⟨h2, rfl⟩⟩
  · cases hv; exact ⟨rfl, h3, fun h => by cases h⟩
/-- Its first cells: where they are. -/
theorem ORow.at_ {a : Option Addr} {c : Nat} (h : ORow w e sz (.slice a n c) n xs) (hn : 0 < n) : ∃ g off, a = some ⟨g, off, none⟩ ∧ (∀ j u, xs[j]? = some u → w.cell? ⟨g, off + j, none⟩ = some u) ∧ (∀ j, w.frozen? ⟨g, j, none⟩ = false) ∧ g < w.heap.size := by
  obtain ⟨h1, ⟨hv, h2⟩ | ⟨g, off, cap, cur, hv, hg, h3, h4, h5, h6⟩⟩ := h
  · omega
  · cases hv
    refine ⟨g, off, rfl, fun j u hu => ?_, fun j => free_in hg _, lt_of_block hg⟩
    rw [← h6, List.getElem?_take] at hu
    split at hu
    · rw [List.getElem?_drop] at hu
      exact cell_in hg (by simpa using hu)
    · cases hu
theorem ORow.lies {a : Option Addr} {c lo hi : Nat} (h : ORow w e sz (.slice a n c) n xs) (hb : ∀ g, (Value.slice a n c).ownBlock = some g → lo ≤ g ∧ g < hi) : Lies w lo hi (.slice a n c) n sz xs := by
  obtain ⟨h1, ⟨hv, h2⟩ | ⟨g, off, cap, cur, hv, hg, h3, h4, h5, h6⟩⟩ := h
  · cases hv; exact ⟨none, 0, rfl, h1, fun _ => ⟨h2, rfl⟩, .inl h2⟩
  · cases hv
    refine ⟨_, c, rfl, h1, (fun h => by cases h), .inr ⟨g, off, rfl, (hb g rfl).1, (hb g rfl).2, fun j u hu => ?_⟩⟩
    rw [← h6, List.getElem?_take] at hu
    split at hu
    · rw [List.getElem?_drop] at hu
      exact cell_in hg (by simpa using hu)
    · cases hu
theorem ORow.set {g off c : Nat} (h : ORow w e sz (.slice (some ⟨g, off, none⟩) n c) n xs) {j : Nat} (hj : j < n * sz) (u : Value) : ORow (w.setCell ⟨g, off + j, none⟩ u) e sz (.slice (some ⟨g, off, none⟩) n c) n (xs.set j u) := by
  obtain ⟨h1, ⟨hv, h2⟩ | ⟨g, off, cap, cur, hv, hg, h3, h4, h5, h6⟩⟩ := h
  · cases hv
  · cases hv
    refine ⟨by simpa using h1, .inr ⟨g, off, c, _, rfl, set_at hg, h3, h4, by simpa using h5, ?_⟩⟩
    rw [← h6]
    apply List.ext_getElem?
    intro k
    rw [List.getElem?_set, List.getElem?_take]
    by_cases hk : k < n * sz
    · rw [if_pos hk, List.getElem?_drop, Array.getElem?_toList, Array.getElem?_setIfInBounds]
      have : n * sz ≤ c * sz := Nat.mul_le_mul_right _ h3
      by_cases e1 : j = k
      · subst e1
        rw [if_pos rfl, if_pos rfl, if_pos (by omega), if_pos (by rw [List.length_take, List.length_drop]; simp; omega)]
      · rw [if_neg (by omega), if_neg e1, List.getElem?_take, if_pos hk, List.getElem?_drop, Array.getElem?_toList]
    · rw [if_neg hk, if_neg (by omega), List.getElem?_take, if_neg hk]
/-- Without its first one. -/
theorem ORow.cut {a : Option Addr} {c : Nat} (h : ORow w e sz (.slice a n c) n xs) (hn : 0 < n) : ∃ a', (if c = 1 then a else Option.map (fun x => (⟨x.block, x.off + sz, none⟩ : Addr)) a) = a' ∧ ORow w e sz (.slice a' (n - 1) (c - 1)) (n - 1) (xs.drop sz) ∧ (Value.slice a' (n - 1) (c - 1)).ownBlock = (Value.slice a n c).ownBlock := by
  obtain ⟨h1, ⟨hv, h2⟩ | ⟨g, off, cap, cur, hv, hg, h3, h4, h5, h6⟩⟩ := h
  · omega
  · cases hv
    have hl : (xs.drop sz).length = (n - 1) * sz := by rw [List.length_drop, h1, Nat.sub_mul]; omega
    have hnn : n * sz = (n - 1) * sz + sz := by rw [← Nat.succ_mul]; congr 1; omega
    by_cases e1 : c = 1
    · subst e1
      have : n = 1 := by omega
      subst this
      refine ⟨_, rfl, ⟨hl, .inr ⟨g, off, 0, cur, rfl, hg, by omega, by simp [maxLen], by omega, ?_⟩⟩, rfl⟩
      have : (xs.drop sz).length = 0 := by rw [hl]; simp
      rw [List.length_eq_zero_iff.1 this]; simp
    · refine ⟨some ⟨g, off + sz, none⟩, by simp [e1], ⟨hl, .inr ⟨g, off + sz, c - 1, cur, rfl, hg, by omega, by omega, ?_, ?_⟩⟩, rfl⟩
      · have : c * sz = (c - 1) * sz + sz := by rw [← Nat.succ_mul]; congr 1; omega
        omega
      · rw [← h6, List.drop_take, List.drop_drop, hnn]
        congr 1; omega
end
section
variable {P : Program} (w : World)
theorem run_append_room_off (t ty e : TypeId) (i : TypeInfo) (ht : P.underlying t = some (.slice e)) (hi : P.info? e = some i)
    (g off sLen sCap : Nat) (cur : Array Value) (hg : w.heap[g]? = some (.cells cur e (0, 0)))
    (a : Addr) (m c : Nat) (news : List Value) (hl : news.length = m * i.size) (hnews : ∀ j u, news[j]? = some u → w.cell? (a.add j) = some u) (h1 : ∀ u ∈ news, u.oneCell' = true)
    (hroom : sLen + m ≤ sCap) (hfit : off + sLen * i.size + news.length ≤ cur.size) :
    (Builtin.append_ #[t, t] ty #[.slice (some ⟨g, off, none⟩) sLen sCap, .slice (some a) m c]).run P w =
      .ok (.slice (some ⟨g, off, none⟩) (sLen + m) sCap) (w.setRow g (cur.toList.take (off + sLen * i.size) ++ news ++ cur.toList.drop (off + sLen * i.size + news.length)).toArray) := by
  have hf := run_firstCells_some (P := P) w i.size m a m c news hl hnews
  have hst := run_storeCells_at P g (off + sLen * i.size) e news 0 cur w hg (by simpa using hfit) h1
  simp only [Nat.add_zero] at hst
  simp [Builtin.append_, run_underlying ht, sizeOf, typeInfo, hi, Builtin.lenOf, hroom, hf, Addr.add_lit, hst]
theorem run_append_off (t ty e : TypeId) (i : TypeInfo) (z : Value) (size bytes : Nat) (ht : P.underlying t = some (.slice e)) (hi : P.info? e = some i) (hz : i.zero = some z)
    (hsize : i.size = size) (hby : i.bytes = bytes) (hzs : z.cells.size = size) (hsz : 0 < size)
    (v : Value) (n : Nat) (xs : List Value) (hown : ORow w e size v n xs) (src : Value) (lo hi' : Nat) (m : Nat) (news : List Value) (hl : Lies w lo hi' src m size news) (h1 : ∀ u ∈ news, u.oneCell' = true)
    (hm0 : 0 < m) (h63 : n + m ≤ maxLen) (hbytes : (n + m) * bytes ≤ 140737488355328) :
    ∃ ao cap w', (Builtin.append_ #[t, t] ty #[v, src]).run P w = .ok (.slice ao (n + m) cap) w' ∧ ORow w' e size (.slice ao (n + m) cap) (n + m) (xs ++ news) ∧ w.grownBy w' v.ownBlock ∧ ((Value.slice ao (n + m) cap).ownBlock = v.ownBlock ∨ (Value.slice ao (n + m) cap).ownBlock = some w.heap.size) := by
  obtain ⟨x1, x2 | ⟨g, off, cap, cur, rfl, hg, h3, h4, h5, h6⟩⟩ := hown
  · obtain ⟨ao, cap, w', r1, r2, r3, r4⟩ := run_append_lie2 (P := P) w t ty 0 e i z size bytes ht hi hz hsize hby hzs hsz v n xs ⟨x1, .inl x2⟩ src lo hi' m news hl h1 (n + m) rfl h63 hbytes (Nat.zero_le _)
    exact ⟨ao, cap, w', r1, .of_owns r2, r3, r4⟩
  · subst hsize
    subst hby
    obtain ⟨a, c, rfl, hln, hnone, hc⟩ := hl
    rcases hc with hz0 | ⟨b, o, rfl, _, _, hc⟩
    · omega
    have hnews : ∀ j u, news[j]? = some u → w.cell? ((⟨b, o, none⟩ : Addr).add j) = some u := fun j u hu => by rw [add_at]; exact hc j u hu
    have hsmall : n + m ≤ 9223372036854775807 := by simp only [maxLen] at h63; omega
    have hlen : (xs ++ news).length = (n + m) * i.size := by rw [List.length_append, x1, hln, Nat.add_mul]
    by_cases hroom : n + m ≤ cap
    · have hfit : off + n * i.size + news.length ≤ cur.size := by
        have := Nat.mul_le_mul_right i.size hroom
        rw [hln]; rw [Nat.add_mul] at this; omega
      have hr := run_append_room_off (P := P) w t ty e i ht hi g off n cap cur hg ⟨b, o, none⟩ m c news hln hnews h1 hroom hfit
      refine ⟨_, _, _, hr, ⟨hlen, .inr ⟨g, off, cap, _, rfl, setRow_heap w g cur _ e _ hg, hroom, h4, ?_, ?_⟩⟩, ⟨rfl, rfl, rfl, by simp, fun k _ hk => setRow_other w g k _ (fun e => hk (by simp [Value.ownBlock, e]))⟩, .inl rfl⟩
      · simp only [List.size_toArray, List.length_append, List.length_take, List.length_drop, Array.length_toList]
        omega
      · rw [List.append_assoc, List.drop_append_of_le_length (by simp; omega), List.drop_take, show off + n * i.size - off = n * i.size by omega, h6, ← List.append_assoc, ← hlen]
        exact List.take_left
    · have holds : ∀ j u, xs[j]? = some u → w.cell? ((⟨g, off, none⟩ : Addr).add j) = some u := fun j u hu => by
        rw [add_at]
        rw [← h6, List.getElem?_take] at hu
        split at hu
        · rw [List.getElem?_drop] at hu
          exact cell_in hg (by simpa using hu)
        · cases hu
      have hr := run_append_grow (P := P) w t ty e i z ht hi hz ⟨g, off, none⟩ n cap xs x1 holds ⟨b, o, none⟩ m c news hln hnews (by omega) (by omega) (growslice_fits (by omega) hbytes)
      have hge := grownCap_ge w (n + m) cap e
      have hcm : grownCap w (n + m) cap e ≤ maxLen := grownCap_le_maxLen w (n + m) cap e h63
      refine ⟨_, _, _, hr, ⟨hlen, .inr ⟨w.heap.size, 0, _, _, rfl, heap_alloc_new w.drew _, hge, hcm, ?_, ?_⟩⟩, ⟨rfl, rfl, rfl, by simp, fun k hk _ => heap_alloc_old w.drew _ hk⟩, .inr rfl⟩
      · simp only [Array.size_append, List.size_toArray, size_zeroCells, hzs, x1, hln, ← Nat.add_mul]
        rw [show n + m + (grownCap w (n + m) cap e - (n + m)) = grownCap w (n + m) cap e by omega]
        omega
      · simp only [Array.toList_append, List.append_assoc, List.drop_zero]
        rw [← List.append_assoc, ← hlen]
        exact List.take_left
end
theorem wp_append_off {P : Program} {w : World} {o : Oper} {a : Act} {K : Act → World → Prop} {Q : Exit → Act → World → Prop} (s x : Operand) (t : TypeId)
    (ho : o.op = .call { callee := .builtin .append, args := #[s, x], argTypes := #[t, t] })
    (e : TypeId) (i : TypeInfo) (z : Value) (size bytes : Nat) (ht : P.underlying t = some (.slice e)) (hi : P.info? e = some i) (hz : i.zero = some z)
    (hsize : i.size = size) (hby : i.bytes = bytes) (hzs : z.cells.size = size) (hsz : 0 < size)
    (v : Value) (n : Nat) (xs : List Value) (hs : a.eval s = v) (hown : ORow w e size v n xs)
    (src : Value) (lo hi' : Nat) (m : Nat) (news : List Value) (hx : a.eval x = src) (hl : Lies w lo hi' src m size news) (h1 : ∀ u ∈ news, u.oneCell' = true)
    (hm0 : 0 < m) (h63 : n + m ≤ maxLen) (hbytes : (n + m) * bytes ≤ 140737488355328)
    (h : ∀ ao cap w', ORow w' e size (.slice ao (n + m) cap) (n + m) (xs ++ news) → w.grownBy w' v.ownBlock → ((Value.slice ao (n + m) cap).ownBlock = v.ownBlock ∨ (Value.slice ao (n + m) cap).ownBlock = some w.heap.size) → K (a.put o.dst (.slice ao (n + m) cap)) w') : o.wp P a w K Q := by
  obtain ⟨ao, cap, w', hr, h2, h3, h4⟩ := run_append_off (P := P) w t o.type e i z size bytes ht hi hz hsize hby hzs hsz v n xs hown src lo hi' m news hl h1 hm0 h63 hbytes
  unfold Oper.wp execOp
  simp only [ho, resolve, invoke, builtin, Sem.run_bind, Sem.run_pure, Result.andThen_ok, List.map_toArray, List.map_cons, List.map_nil, hs, hx, hr]
  exact h ao cap w' h2 h3 h4
theorem wpList_append_off {P : Program} {w : World} {ops : Array Oper} {rest : List Oper} {o : Oper} {a : Act} {Q : Exit → Act → World → Prop} (hgd : o.guard = none) (s x : Operand) (t : TypeId)
    (ho : o.op = .call { callee := .builtin .append, args := #[s, x], argTypes := #[t, t] })
    (e : TypeId) (i : TypeInfo) (z : Value) (size bytes : Nat) (ht : P.underlying t = some (.slice e)) (hi : P.info? e = some i) (hz : i.zero = some z)
    (hsize : i.size = size) (hby : i.bytes = bytes) (hzs : z.cells.size = size) (hsz : 0 < size)
    (v : Value) (n : Nat) (xs : List Value) (hs : a.eval s = v) (hown : ORow w e size v n xs)
    (src : Value) (lo hi' : Nat) (m : Nat) (news : List Value) (hx : a.eval x = src) (hl : Lies w lo hi' src m size news) (h1 : ∀ u ∈ news, u.oneCell' = true)
    (hm0 : 0 < m) (h63 : n + m ≤ maxLen) (hbytes : (n + m) * bytes ≤ 140737488355328)
    (h : ∀ ao cap w', ORow w' e size (.slice ao (n + m) cap) (n + m) (xs ++ news) → w.grownBy w' v.ownBlock → ((Value.slice ao (n + m) cap).ownBlock = v.ownBlock ∨ (Value.slice ao (n + m) cap).ownBlock = some w.heap.size) → wpList P ops Q rest (a.put o.dst (.slice ao (n + m) cap)) w') : wpList P ops Q (o :: rest) a w :=
  wpList_plain hgd fun _ hK => wp_append_off s x t ho e i z size bytes ht hi hz hsize hby hzs hsz v n xs hs hown src lo hi' m news hx hl h1 hm0 h63 hbytes fun ao cap w' h2 h3 h4 => hK _ _ (h ao cap w' h2 h3 h4)
theorem step_append_off {P : Program} {w : World} {ops : Array Oper} {o : Oper} {a : Act} {K : Act → World → Prop} {Q : Exit → Act → World → Prop} {E : Prop} (hgd : o.guard = none) (s x : Operand) (t : TypeId)
    (ho : o.op = .call { callee := .builtin .append, args := #[s, x], argTypes := #[t, t] })
    (e : TypeId) (i : TypeInfo) (z : Value) (size bytes : Nat) (ht : P.underlying t = some (.slice e)) (hi : P.info? e = some i) (hz : i.zero = some z)
    (hsize : i.size = size) (hby : i.bytes = bytes) (hzs : z.cells.size = size) (hsz : 0 < size)
    (v : Value) (n : Nat) (xs : List Value) (hs : a.eval s = v) (hown : ORow w e size v n xs)
    (src : Value) (lo hi' : Nat) (m : Nat) (news : List Value) (hx : a.eval x = src) (hl : Lies w lo hi' src m size news) (h1 : ∀ u ∈ news, u.oneCell' = true)
    (hm0 : 0 < m) (h63 : n + m ≤ maxLen) (hbytes : (n + m) * bytes ≤ 140737488355328)
    (h : ∀ ao cap w', ORow w' e size (.slice ao (n + m) cap) (n + m) (xs ++ news) → w.grownBy w' v.ownBlock → ((Value.slice ao (n + m) cap).ownBlock = v.ownBlock ∨ (Value.slice ao (n + m) cap).ownBlock = some w.heap.size) → K (a.put o.dst (.slice ao (n + m) cap)) w') :
    if Region.wanted o (yielded ops a.tmps) = true then Oper.wp P o a w K Q else E := by
  have hw : Region.wanted o (yielded ops a.tmps) = true := by simp [Region.wanted, hgd]
  rw [if_pos hw]
  exact wp_append_off s x t ho e i z size bytes ht hi hz hsize hby hzs hsz v n xs hs hown src lo hi' m news hx hl h1 hm0 h63 hbytes h
theorem run_clear_off {P : Program} (w : World) (t e ty : TypeId) (z : Value) (ht : P.underlying t = some (.slice e)) (hv : ∀ w, (zeroValue e).run P w = .ok z w) (h1 : ∀ u ∈ z.cells.toList, u.oneCell' = true) (b o n c : Nat) (hn : 0 < n)
    (hc : ∀ j, j < n * z.cells.size → (w.cell? ⟨b, o + j, none⟩).isSome = true) (hf : ∀ j, j < n * z.cells.size → w.frozen? ⟨b, o + j, none⟩ = false) :
    (Builtin.clear_ #[t] ty #[.slice (some ⟨b, o, none⟩) n c]).run P w = .ok (.tuple #[]) (w.setCells b o (Builtin.zeroCells z.cells n).toList) := by
  have hl : (Builtin.zeroCells z.cells n).toList.length = n * z.cells.size := by rw [Array.length_toList, size_zeroCells]
  have hst := run_storeCells_cells (P := P) b o (Builtin.zeroCells z.cells n).toList 0 w (by rw [hl]; simpa using hc) (by rw [hl]; simpa using hf) (by
    intro v hv'
    simp only [Builtin.zeroCells, Array.toList_map, List.mem_map] at hv'
    obtain ⟨k, hk, rfl⟩ := hv'
    have hk2 : k < n * z.cells.size := by simpa using hk
    have hp : 0 < z.cells.size := by
      rcases Nat.eq_zero_or_pos z.cells.size with h0 | h0
      · rw [h0] at hk2; simp at hk2
      · exact h0
    have hlt := Nat.mod_lt k hp
    rw [getElem!_pos z.cells _ hlt]
    exact h1 _ (Array.getElem_mem_toList hlt))
  simp only [Nat.add_zero] at hst
  obtain ⟨m, rfl⟩ : ∃ m, n = m + 1 := ⟨n - 1, by omega⟩
  simp [Builtin.clear_, run_underlying ht, hv, hst]
end Go.Proofs.Ytoebbbghllkdgaa
