/- What lies in memory: slices of things, told by their cells; the things that a system is made of. -/
import Derived.WalkKit
import Derived.WalkSmall
import Derived.ProofKit
import Derived.OpenShut
import Derived.Deep.RegionHeld3
import Derived.Deep.DrawnRows
import Derived.Below
import Derived.Lib.Hide
import Derived.Deep.AppendLies
import Derived.Test.YtiojmekoemlmkaaConfZ
namespace Go.Proofs.Ytiojmekoemlmkaa
open Go.ChangeShapes Go.WideShapes Go.ChangeAt Go.RowKit
set_option linter.unusedVariables false

/-- A slice of n things of sz cells each; its cells are cs; they lie in a block from lo to below hi. -/
def Lies (w : World) (lo hi : Nat) (v : Value) (n sz : Nat) (cs : List Value) : Prop :=
  ∃ a cap, v = .slice a n cap ∧ cs.length = n * sz ∧ (a = none → n = 0 ∧ cap = 0) ∧ (n = 0 ∨ ∃ b off, a = some ⟨b, off, none⟩ ∧ lo ≤ b ∧ b < hi ∧ ∀ k u, cs[k]? = some u → w.cell? ⟨b, off + k, none⟩ = some u)
/-- What holds below hi and from lo on is as it was. -/
def SameIn (w w' : World) (lo hi : Nat) : Prop := ∀ b, lo ≤ b → b < hi → w'.heap[b]? = w.heap[b]?
theorem SameIn.of_below {w w' : World} {lo hi B : Nat} (h : Below B w w') (hB : hi ≤ B) : SameIn w w' lo hi := fun b _ hb => h.block b (by omega)
theorem SameIn.refl (w : World) (lo hi : Nat) : SameIn w w lo hi := fun _ _ _ => rfl
theorem SameIn.trans {w w' w'' : World} {lo hi : Nat} (h : SameIn w w' lo hi) (k : SameIn w' w'' lo hi) : SameIn w w'' lo hi := fun b h1 h2 => (k b h1 h2).trans (h b h1 h2)
theorem Lies.keep {w w' : World} {lo hi : Nat} {v : Value} {n sz : Nat} {cs : List Value} (h : Lies w lo hi v n sz cs) (hs : SameIn w w' lo hi) : Lies w' lo hi v n sz cs := by
  obtain ⟨a, cap, rfl, hl, hn, h⟩ := h
  refine ⟨a, cap, rfl, hl, hn, ?_⟩
  rcases h with h | ⟨b, off, rfl, h1, h2, hc⟩
  · exact .inl h
  · exact .inr ⟨b, off, rfl, h1, h2, fun k u hu => (World.cell?_of_block (w := w) (hs b h1 h2)).trans (hc k u hu)⟩
theorem Lies.wider {w : World} {lo hi lo' hi' : Nat} {v : Value} {n sz : Nat} {cs : List Value} (h : Lies w lo hi v n sz cs) (h1 : lo' ≤ lo) (h2 : hi ≤ hi') : Lies w lo' hi' v n sz cs := by
  obtain ⟨a, cap, rfl, hl, hn, h⟩ := h
  refine ⟨a, cap, rfl, hl, hn, ?_⟩
  rcases h with h | ⟨b, off, rfl, h1, h2, hc⟩
  · exact .inl h
  · exact .inr ⟨b, off, rfl, by omega, by omega, hc⟩
theorem Lies.of_owns {w : World} {base e sz : Nat} {v : Value} {n : Nat} {xs : List Value} (h : w.ownsRow base e sz v n xs) : Lies w base w.heap.size v n sz xs := by
  obtain ⟨hl, h⟩ := h
  rcases h with ⟨rfl, rfl⟩ | ⟨g, cap, cur, rfl, hb, hg, hn, hm, hs, ht⟩
  · exact ⟨none, 0, rfl, hl, fun _ => ⟨rfl, rfl⟩, .inl rfl⟩
  · refine ⟨_, _, rfl, hl, (fun h => by cases h), .inr ⟨g, 0, rfl, hb, ?_, fun k u hu => ?_⟩⟩
    · rcases Nat.lt_or_ge g w.heap.size with h | h
      · exact h
      · rw [Array.getElem?_eq_none h] at hg; cases hg
    · subst ht
      rw [List.getElem?_take] at hu
      split at hu
      · rw [Nat.zero_add, cell_of_row w g k cur e (0, 0) hg]
        simpa using hu
      · cases hu

/-! ### append, from whatever lies there -/
theorem add_at (b off j : Nat) : (⟨b, off, none⟩ : Addr).add j = ⟨b, off + j, none⟩ := by
  unfold Addr.add; split <;> simp_all
theorem run_append_lie {P : Program} (w : World) (t ty : TypeId) (base : Nat) (e : TypeId) (i : TypeInfo) (z : Value) (size bytes : Nat) (ht : P.underlying t = some (.slice e)) (hi : P.info? e = some i) (hz : i.zero = some z)
    (hsize : i.size = size) (hby : i.bytes = bytes) (hzs : z.cells.size = size) (hsz : 0 < size)
    (v : Value) (n : Nat) (xs : List Value) (hown : w.ownsRow base e size v n xs) (src : Value) (lo hi' : Nat) (m : Nat) (news : List Value) (hl : Lies w lo hi' src m size news) (h1 : ∀ u ∈ news, u.oneCell' = true)
    (N : Nat) (hN : n + m = N) (h63 : N ≤ maxLen) (hbytes : N * bytes ≤ 140737488355328) (hbase : base ≤ w.heap.size) :
    ∃ ao cap w', (Builtin.append_ #[t, t] ty #[v, src]).run P w = .ok (.slice ao N cap) w' ∧ w'.ownsRow base e size (.slice ao N cap) N (xs ++ news) ∧ w.grownBy w' v.ownBlock := by
  subst hN
  suffices hs : ∃ v' w', (Builtin.append_ #[t, t] ty #[v, src]).run P w = .ok v' w' ∧ w'.ownsRow base e size v' (n + m) (xs ++ news) ∧ w.grownBy w' v.ownBlock by
    obtain ⟨v', w', h1, h2, h3⟩ := hs
    rcases h2.2 with ⟨rfl, h0⟩ | ⟨g, cap, cur, rfl, _⟩
    · exact ⟨none, 0, w', by rw [h1, h0], by rw [h0] at h2 ⊢; exact h2, h3⟩
    · exact ⟨_, cap, w', h1, h2, h3⟩
  obtain ⟨a, cap, rfl, hln, hnone, hc⟩ := hl
  cases a with
  | none =>
    obtain ⟨rfl, rfl⟩ := hnone rfl
    have : news = [] := List.eq_nil_of_length_eq_zero (by simpa using hln)
    subst this
    exact ⟨v, w, run_append_owned_none w base t ty e i size ht hi v n xs hown, by simpa using hown, World.grownBy.refl _ _⟩
  | some ad =>
    have hnews : ∀ j u, news[j]? = some u → w.cell? (ad.add j) = some u := by
      intro j u hu
      rcases hc with rfl | ⟨b, off, hab, _, _, hc⟩
      · have : news = [] := List.eq_nil_of_length_eq_zero (by simpa using hln)
        subst this; simp at hu
      · cases hab
        rw [add_at]; exact hc j u hu
    obtain ⟨v', w', h1, h2, h3, _, _⟩ := run_append_own_at (P := P) w base t ty e i z size bytes ht hi hz hsize hby hzs hsz v n xs hown ad m cap news hln hnews h1 h63 hbytes hbase
    exact ⟨v', w', h1, h2, h3⟩
theorem wp_append_lie {P : Program} {w : World} {o : Oper} {a : Act} {K : Act → World → Prop} {Q : Exit → Act → World → Prop} (s x : Operand) (t : TypeId)
    (ho : o.op = .call { callee := .builtin .append, args := #[s, x], argTypes := #[t, t] })
    (base : Nat) (e : TypeId) (i : TypeInfo) (z : Value) (size bytes : Nat) (ht : P.underlying t = some (.slice e)) (hi : P.info? e = some i) (hz : i.zero = some z)
    (hsize : i.size = size) (hby : i.bytes = bytes) (hzs : z.cells.size = size) (hsz : 0 < size)
    (v : Value) (n : Nat) (xs : List Value) (hs : a.eval s = v) (hown : w.ownsRow base e size v n xs)
    (src : Value) (lo hi' : Nat) (m : Nat) (news : List Value) (hx : a.eval x = src) (hl : Lies w lo hi' src m size news) (h1 : ∀ u ∈ news, u.oneCell' = true)
    (N : Nat) (hN : n + m = N) (h63 : N ≤ maxLen) (hbytes : N * bytes ≤ 140737488355328) (hbase : base ≤ w.heap.size)
    (h : ∀ ao cap w', w'.ownsRow base e size (.slice ao N cap) N (xs ++ news) → w.grownBy w' v.ownBlock → K (a.put o.dst (.slice ao N cap)) w') : o.wp P a w K Q := by
  obtain ⟨ao, cap, w', hr, h2, h3⟩ := run_append_lie (P := P) w t o.type base e i z size bytes ht hi hz hsize hby hzs hsz v n xs hown src lo hi' m news hl h1 N hN h63 hbytes hbase
  unfold Oper.wp execOp
  simp only [ho, resolve, invoke, builtin, Sem.run_bind, Sem.run_pure, Result.andThen_ok, List.map_toArray, List.map_cons, List.map_nil, hs, hx, hr]
  exact h ao cap w' h2 h3
theorem wpList_append_lie {P : Program} {w : World} {ops : Array Oper} {rest : List Oper} {o : Oper} {a : Act} {Q : Exit → Act → World → Prop} (hgd : o.guard = none) (s x : Operand) (t : TypeId)
    (ho : o.op = .call { callee := .builtin .append, args := #[s, x], argTypes := #[t, t] })
    (base : Nat) (e : TypeId) (i : TypeInfo) (z : Value) (size bytes : Nat) (ht : P.underlying t = some (.slice e)) (hi : P.info? e = some i) (hz : i.zero = some z)
    (hsize : i.size = size) (hby : i.bytes = bytes) (hzs : z.cells.size = size) (hsz : 0 < size)
    (v : Value) (n : Nat) (xs : List Value) (hs : a.eval s = v) (hown : w.ownsRow base e size v n xs)
    (src : Value) (lo hi' : Nat) (m : Nat) (news : List Value) (hx : a.eval x = src) (hl : Lies w lo hi' src m size news) (h1 : ∀ u ∈ news, u.oneCell' = true)
    (N : Nat) (hN : n + m = N) (h63 : N ≤ maxLen) (hbytes : N * bytes ≤ 140737488355328) (hbase : base ≤ w.heap.size)
    (h : ∀ ao cap w', w'.ownsRow base e size (.slice ao N cap) N (xs ++ news) → w.grownBy w' v.ownBlock → wpList P ops Q rest (a.put o.dst (.slice ao N cap)) w') : wpList P ops Q (o :: rest) a w :=
  wpList_plain hgd fun _ hK => wp_append_lie s x t ho base e i z size bytes ht hi hz hsize hby hzs hsz v n xs hs hown src lo hi' m news hx hl h1 N hN h63 hbytes hbase fun ao cap w' h2 h3 => hK _ _ (h ao cap w' h2 h3)
theorem step_append_lie {P : Program} {w : World} {ops : Array Oper} {o : Oper} {a : Act} {K : Act → World → Prop} {Q : Exit → Act → World → Prop} {E : Prop} (hgd : o.guard = none) (s x : Operand) (t : TypeId)
    (ho : o.op = .call { callee := .builtin .append, args := #[s, x], argTypes := #[t, t] })
    (base : Nat) (e : TypeId) (i : TypeInfo) (z : Value) (size bytes : Nat) (ht : P.underlying t = some (.slice e)) (hi : P.info? e = some i) (hz : i.zero = some z)
    (hsize : i.size = size) (hby : i.bytes = bytes) (hzs : z.cells.size = size) (hsz : 0 < size)
    (v : Value) (n : Nat) (xs : List Value) (hs : a.eval s = v) (hown : w.ownsRow base e size v n xs)
    (src : Value) (lo hi' : Nat) (m : Nat) (news : List Value) (hx : a.eval x = src) (hl : Lies w lo hi' src m size news) (h1 : ∀ u ∈ news, u.oneCell' = true)
    (N : Nat) (hN : n + m = N) (h63 : N ≤ maxLen) (hbytes : N * bytes ≤ 140737488355328) (hbase : base ≤ w.heap.size)
    (h : ∀ ao cap w', w'.ownsRow base e size (.slice ao N cap) N (xs ++ news) → w.grownBy w' v.ownBlock → K (a.put o.dst (.slice ao N cap)) w') :
    if Region.wanted o (yielded ops a.tmps) = true then Oper.wp P o a w K Q else E := by
  have hw : Region.wanted o (yielded ops a.tmps) = true := by simp [Region.wanted, hgd]
  rw [if_pos hw]
  exact wp_append_lie s x t ho base e i z size bytes ht hi hz hsize hby hzs hsz v n xs hs hown src lo hi' m news hx hl h1 N hN h63 hbytes hbase h
/-! ### append onto nothing: the new row written out -/
/-- A new row: its cells, its room. -/
def Fresh (arr : Array Value) (cap m size : Nat) (news : List Value) : Prop := news.length = m * size ∧ m ≤ cap ∧ cap ≤ maxLen ∧ arr.size = cap * size ∧ arr.toList.take (m * size) = news
theorem Fresh.owns {w : World} {arr : Array Value} {cap m size : Nat} {news : List Value} {base e g : Nat} (h : Fresh arr cap m size news) (hg : w.heap[g]? = some (.cells arr e (0, 0))) (hb : base ≤ g) : w.ownsRow base e size (.slice (some ⟨g, 0, none⟩) m cap) m news :=
  ⟨h.1, .inr ⟨g, cap, arr, rfl, hb, hg, h.2⟩⟩
theorem run_append_zero {P : Program} (w : World) (t ty e : TypeId) (i : TypeInfo) (size : Nat) (ht : P.underlying t = some (.slice e)) (hi : P.info? e = some i) (hsize : i.size = size) (ao : Option Addr) (src : Value) (lo hi' : Nat) (news : List Value) (hl : Lies w lo hi' src 0 size news) :
    (Builtin.append_ #[t, t] ty #[.slice ao 0 0, src]).run P w = .ok (.slice ao 0 0) w := by
  obtain ⟨a, cap, rfl, _, hnone, _⟩ := hl
  cases a with
  | none =>
    obtain ⟨_, rfl⟩ := hnone rfl
    cases ao <;> simp [Builtin.append_, run_underlying ht, sizeOf, typeInfo, hi, Builtin.lenOf, Builtin.firstCells, storeCells]
  | some ad => cases ao <;> simp [Builtin.append_, run_underlying ht, sizeOf, typeInfo, hi, Builtin.lenOf, Builtin.firstCells, loadCells, loadCellsFrom, storeCells]
theorem run_append_fresh {P : Program} (w : World) (t ty e : TypeId) (i : TypeInfo) (z : Value) (size bytes : Nat) (ht : P.underlying t = some (.slice e)) (hi : P.info? e = some i) (hz : i.zero = some z)
    (hsize : i.size = size) (hby : i.bytes = bytes) (hzs : z.cells.size = size) (ao : Option Addr) (src : Value) (lo hi' : Nat) (m : Nat) (news : List Value) (hl : Lies w lo hi' src m size news) (hm : 0 < m)
    (h63 : m ≤ maxLen) (hbytes : m * bytes ≤ 140737488355328) :
    ∃ cap arr, (Builtin.append_ #[t, t] ty #[.slice ao 0 0, src]).run P w = .ok (.slice (some ⟨w.heap.size, 0, none⟩) m cap) (w.drew.alloc (.cells arr e)) ∧ Fresh arr cap m size news := by
  obtain ⟨a, scap, rfl, hln, hnone, hc⟩ := hl
  rcases hc with h0 | ⟨b, off, rfl, _, _, hc⟩
  · omega
  subst hsize; subst hby
  have hsmall : m ≤ 9223372036854775807 := by simp only [maxLen] at h63; omega
  have hnews : ∀ j u, news[j]? = some u → w.cell? ((⟨b, off, none⟩ : Addr).add j) = some u := fun j u hu => by rw [add_at]; exact hc j u hu
  have fit : Builtin.nextslicecap (0 + m) 0 * i.bytes ≤ 281474976710656 := growslice_fits (by omega) (by simpa using hbytes)
  have hge := grownCap_ge w m 0 e
  have hcm : grownCap w m 0 e ≤ maxLen := grownCap_le_maxLen w m 0 e h63
  have key : ∀ C, C = grownCap w m 0 e → Fresh (news.toArray ++ Builtin.zeroCells z.cells (C - m)) C m i.size news := by
    rintro _ rfl
    refine ⟨hln, hge, hcm, ?_, ?_⟩
    · simp only [Array.size_append, List.size_toArray, size_zeroCells, hzs, hln, ← Nat.add_mul]
      congr 1
      omega
    · simp only [Array.toList_append]
      rw [← hln]
      exact List.take_left
  cases ao with
  | none =>
    have hr := run_append_nil (P := P) w t ty e i z ht hi hz ⟨b, off, none⟩ m scap news hln hnews hm (by omega) (by omega)
    exact ⟨_, _, hr, key _ rfl⟩
  | some ad =>
    have hr := run_append_grow (P := P) w t ty e i z ht hi hz ad 0 0 [] (by simp) (by simp) ⟨b, off, none⟩ m scap news hln hnews (by omega) (by omega) fit
    simp only [Nat.zero_add, Array.empty_append] at hr
    exact ⟨_, _, hr, key _ rfl⟩
theorem wp_append_zero {P : Program} {w : World} {o : Oper} {a : Act} {K : Act → World → Prop} {Q : Exit → Act → World → Prop} (s x : Operand) (t : TypeId)
    (ho : o.op = .call { callee := .builtin .append, args := #[s, x], argTypes := #[t, t] }) (e : TypeId) (i : TypeInfo) (size : Nat) (ht : P.underlying t = some (.slice e)) (hi : P.info? e = some i) (hsize : i.size = size)
    (ao : Option Addr) (hs : a.eval s = .slice ao 0 0) (src : Value) (lo hi' : Nat) (news : List Value) (hx : a.eval x = src) (hl : Lies w lo hi' src 0 size news)
    (h : K (a.put o.dst (.slice ao 0 0)) w) : o.wp P a w K Q := by
  have hr := run_append_zero (P := P) w t o.type e i size ht hi hsize ao src lo hi' news hl
  unfold Oper.wp execOp
  simp only [ho, resolve, invoke, builtin, Sem.run_bind, Sem.run_pure, Result.andThen_ok, List.map_toArray, List.map_cons, List.map_nil, hs, hx, hr]
  exact h
theorem wp_append_fresh {P : Program} {w : World} {o : Oper} {a : Act} {K : Act → World → Prop} {Q : Exit → Act → World → Prop} (s x : Operand) (t : TypeId)
    (ho : o.op = .call { callee := .builtin .append, args := #[s, x], argTypes := #[t, t] }) (e : TypeId) (i : TypeInfo) (z : Value) (size bytes : Nat) (ht : P.underlying t = some (.slice e)) (hi : P.info? e = some i) (hz : i.zero = some z)
    (hsize : i.size = size) (hby : i.bytes = bytes) (hzs : z.cells.size = size) (ao : Option Addr) (hs : a.eval s = .slice ao 0 0)
    (src : Value) (lo hi' : Nat) (m : Nat) (news : List Value) (hx : a.eval x = src) (hl : Lies w lo hi' src m size news) (hm : 0 < m) (h63 : m ≤ maxLen) (hbytes : m * bytes ≤ 140737488355328)
    (h : ∀ cap arr, Hid (Fresh arr cap m size news) → K (a.put o.dst (.slice (some ⟨w.heap.size, 0, none⟩) m cap)) (w.drew.alloc (.cells arr e))) : o.wp P a w K Q := by
  obtain ⟨cap, arr, hr, h2⟩ := run_append_fresh (P := P) w t o.type e i z size bytes ht hi hz hsize hby hzs ao src lo hi' m news hl hm h63 hbytes
  unfold Oper.wp execOp
  simp only [ho, resolve, invoke, builtin, Sem.run_bind, Sem.run_pure, Result.andThen_ok, List.map_toArray, List.map_cons, List.map_nil, hs, hx, hr]
  exact h cap arr h2
theorem step_append_zero {P : Program} {w : World} {ops : Array Oper} {o : Oper} {a : Act} {K : Act → World → Prop} {Q : Exit → Act → World → Prop} {E : Prop} (hgd : o.guard = none) (s x : Operand) (t : TypeId)
    (ho : o.op = .call { callee := .builtin .append, args := #[s, x], argTypes := #[t, t] }) (e : TypeId) (i : TypeInfo) (size : Nat) (ht : P.underlying t = some (.slice e)) (hi : P.info? e = some i) (hsize : i.size = size)
    (ao : Option Addr) (hs : a.eval s = .slice ao 0 0) (src : Value) (lo hi' : Nat) (news : List Value) (hx : a.eval x = src) (hl : Lies w lo hi' src 0 size news)
    (h : K (a.put o.dst (.slice ao 0 0)) w) : if Region.wanted o (yielded ops a.tmps) = true then Oper.wp P o a w K Q else E := by
  have hw : Region.wanted o (yielded ops a.tmps) = true := by simp [Region.wanted, hgd]
  rw [if_pos hw]
  exact wp_append_zero s x t ho e i size ht hi hsize ao hs src lo hi' news hx hl h
theorem step_append_fresh {P : Program} {w : World} {ops : Array Oper} {o : Oper} {a : Act} {K : Act → World → Prop} {Q : Exit → Act → World → Prop} {E : Prop} (hgd : o.guard = none) (s x : Operand) (t : TypeId)
    (ho : o.op = .call { callee := .builtin .append, args := #[s, x], argTypes := #[t, t] }) (e : TypeId) (i : TypeInfo) (z : Value) (size bytes : Nat) (ht : P.underlying t = some (.slice e)) (hi : P.info? e = some i) (hz : i.zero = some z)
    (hsize : i.size = size) (hby : i.bytes = bytes) (hzs : z.cells.size = size) (ao : Option Addr) (hs : a.eval s = .slice ao 0 0)
    (src : Value) (lo hi' : Nat) (m : Nat) (news : List Value) (hx : a.eval x = src) (hl : Lies w lo hi' src m size news) (hm : 0 < m) (h63 : m ≤ maxLen) (hbytes : m * bytes ≤ 140737488355328)
    (h : ∀ cap arr, Hid (Fresh arr cap m size news) → K (a.put o.dst (.slice (some ⟨w.heap.size, 0, none⟩) m cap)) (w.drew.alloc (.cells arr e))) : if Region.wanted o (yielded ops a.tmps) = true then Oper.wp P o a w K Q else E := by
  have hw : Region.wanted o (yielded ops a.tmps) = true := by simp [Region.wanted, hgd]
  rw [if_pos hw]
  exact wp_append_fresh s x t ho e i z size bytes ht hi hz hsize hby hzs ao hs src lo hi' m news hx hl hm h63 hbytes h
theorem wpList_append_zero {P : Program} {w : World} {ops : Array Oper} {rest : List Oper} {o : Oper} {a : Act} {Q : Exit → Act → World → Prop} (hgd : o.guard = none) (s x : Operand) (t : TypeId)
    (ho : o.op = .call { callee := .builtin .append, args := #[s, x], argTypes := #[t, t] }) (e : TypeId) (i : TypeInfo) (size : Nat) (ht : P.underlying t = some (.slice e)) (hi : P.info? e = some i) (hsize : i.size = size)
    (ao : Option Addr) (hs : a.eval s = .slice ao 0 0) (src : Value) (lo hi' : Nat) (news : List Value) (hx : a.eval x = src) (hl : Lies w lo hi' src 0 size news)
    (h : wpList P ops Q rest (a.put o.dst (.slice ao 0 0)) w) : wpList P ops Q (o :: rest) a w :=
  wpList_plain hgd fun _ hK => wp_append_zero s x t ho e i size ht hi hsize ao hs src lo hi' news hx hl (hK _ _ h)
theorem wpList_append_fresh {P : Program} {w : World} {ops : Array Oper} {rest : List Oper} {o : Oper} {a : Act} {Q : Exit → Act → World → Prop} (hgd : o.guard = none) (s x : Operand) (t : TypeId)
    (ho : o.op = .call { callee := .builtin .append, args := #[s, x], argTypes := #[t, t] }) (e : TypeId) (i : TypeInfo) (z : Value) (size bytes : Nat) (ht : P.underlying t = some (.slice e)) (hi : P.info? e = some i) (hz : i.zero = some z)
    (hsize : i.size = size) (hby : i.bytes = bytes) (hzs : z.cells.size = size) (ao : Option Addr) (hs : a.eval s = .slice ao 0 0)
    (src : Value) (lo hi' : Nat) (m : Nat) (news : List Value) (hx : a.eval x = src) (hl : Lies w lo hi' src m size news) (hm : 0 < m) (h63 : m ≤ maxLen) (hbytes : m * bytes ≤ 140737488355328)
    (h : ∀ cap arr, Hid (Fresh arr cap m size news) → wpList P ops Q rest (a.put o.dst (.slice (some ⟨w.heap.size, 0, none⟩) m cap)) (w.drew.alloc (.cells arr e))) : wpList P ops Q (o :: rest) a w :=
  wpList_plain hgd fun _ hK => wp_append_fresh s x t ho e i z size bytes ht hi hz hsize hby hzs ao hs src lo hi' m news hx hl hm h63 hbytes fun cap arr h2 => hK _ _ (h cap arr h2)
theorem heap_at (w : World) (o : Obj) (k : Nat) : (w.alloc o).heap[k]? = if k = w.heap.size then some o else w.heap[k]? := by
  split
  · rename_i h; subst h; exact heap_alloc_new w o
  · rename_i h
    rcases Nat.lt_or_ge k w.heap.size with hl | hl
    · exact Below.heap_alloc w o k hl
    · rw [Array.getElem?_eq_none (by simp; omega), Array.getElem?_eq_none (by omega)]
theorem heap_drew (w : World) : w.drew.heap = w.heap := rfl
/-- What appending leaves of a block of another type. -/
theorem grown_keep {w w' : World} {base e sz : Nat} {v : Value} {n : Nat} {xs : List Value} (hg : w.grownBy w' v.ownBlock) (hown : w.ownsRow base e sz v n xs) {X : Nat} {cs : Array Value} {T : TypeId} {fr : Nat × Nat}
    (hX : w.heap[X]? = some (.cells cs T fr)) (hT : T ≠ e) : w'.heap[X]? = some (.cells cs T fr) := by
  rw [hg.block X (lt_of_block hX) ?_, hX]
  intro hb
  rcases hown.2 with ⟨rfl, _⟩ | ⟨g, cap, cur, rfl, _, hgr, _⟩
  · simp [Value.ownBlock] at hb
  · simp [Value.ownBlock] at hb
    subst hb
    rw [hX] at hgr
    simp at hgr
    exact hT hgr.2.1
theorem owns_block {w : World} {base e sz : Nat} {v : Value} {n : Nat} {xs : List Value} (hown : w.ownsRow base e sz v n xs) : ∀ k, v.ownBlock = some k → base ≤ k ∧ ∃ cs, w.heap[k]? = some (.cells cs e (0, 0)) := by
  intro k hk
  rcases hown.2 with ⟨rfl, _⟩ | ⟨g, cap, cur, rfl, hb, hgr, _⟩
  · simp [Value.ownBlock] at hk
  · simp [Value.ownBlock] at hk
    subst hk
    exact ⟨hb, cur, hgr⟩
/-- What appending leaves of another row that is owned. -/
theorem grown_owns {w w' : World} {base base2 e e2 sz sz2 : Nat} {v v2 : Value} {n n2 : Nat} {xs xs2 : List Value} (hg : w.grownBy w' v.ownBlock) (hown : w.ownsRow base e sz v n xs) (hown2 : w.ownsRow base2 e2 sz2 v2 n2 xs2) (hT : e2 ≠ e) :
    w'.ownsRow base2 e2 sz2 v2 n2 xs2 := by
  obtain ⟨hl, h⟩ := hown2
  refine ⟨hl, ?_⟩
  rcases h with h | ⟨g, cap, cur, hv, hb, hgr, h⟩
  · exact .inl h
  · exact .inr ⟨g, cap, cur, hv, hb, grown_keep hg hown hgr hT, h⟩
/-- What a store leaves of a row of another type. -/
theorem setCell_owns {w : World} {base e sz : Nat} {v : Value} {n : Nat} {xs : List Value} (hown : w.ownsRow base e sz v n xs) {a : Addr} {cs : Array Value} {T : TypeId} {fr : Nat × Nat} (hX : w.heap[a.block]? = some (.cells cs T fr)) (hT : T ≠ e) (u : Value) :
    (w.setCell a u).ownsRow base e sz v n xs := by
  refine ownsRow_setCell_other hown ?_ u
  intro hb
  obtain ⟨_, cs2, h2⟩ := owns_block hown _ hb
  rw [hX] at h2
  simp at h2
  exact hT h2.2.1

/-- Of things of sz cells each, in a row, the j-th cell of the i-th. -/
theorem flat_at {α : Type} (f : α → List Value) (sz : Nat) (hf : ∀ x, (f x).length = sz) : ∀ (xs : List α) (i j : Nat) (x : α), xs[i]? = some x → j < sz → (xs.flatMap f)[i * sz + j]? = (f x)[j]?
  | [], i, j, x, h, _ => by simp at h
  | y :: ys, 0, j, x, h, hj => by
    simp at h; subst h
    rw [List.flatMap_cons, Nat.zero_mul, Nat.zero_add, List.getElem?_append_left (by rw [hf]; exact hj)]
  | y :: ys, i + 1, j, x, h, hj => by
    rw [List.flatMap_cons, List.getElem?_append_right (by rw [hf, Nat.add_mul]; omega)]
    rw [hf, show (i + 1) * sz + j - sz = i * sz + j by rw [Nat.add_mul]; omega]
    exact flat_at f sz hf ys i j x (by simpa using h) hj
theorem flat_len {α : Type} (f : α → List Value) (sz : Nat) (hf : ∀ x, (f x).length = sz) (xs : List α) : (xs.flatMap f).length = xs.length * sz := by
  induction xs with
  | nil => simp
  | cons x xs ih => rw [List.flatMap_cons, List.length_append, hf, ih, List.length_cons, Nat.add_mul]; omega

/-! ### The things -/
/-- A partition, as it lies: its lists are slices. -/
structure Pv where
  (ts ss ds : Value) (a0 a1 a2 : Int)
def Pv.cells (k : Pv) : List Value := [k.ts, k.ss, k.ds, .int .u8 k.a0, .int .u8 k.a1, .int .u8 k.a2]
/-- A partition in memory. -/
def PtLies (w : World) (lo hi : Nat) (v : Pv) (p : Pt) : Prop :=
  Lies w lo hi v.ts p.ts.length 6 (p.ts.flatMap Tk.cells) ∧ Lies w lo hi v.ss p.ss.length 3 (p.ss.flatMap Sv.cells) ∧ Lies w lo hi v.ds p.ds.length 1 (p.ds.flatMap intCells) ∧ v.a0 = p.a0 ∧ v.a1 = p.a1 ∧ v.a2 = p.a2
theorem PtLies.keep {w w' : World} {lo hi : Nat} {v : Pv} {p : Pt} (h : PtLies w lo hi v p) (hs : SameIn w w' lo hi) : PtLies w' lo hi v p := ⟨h.1.keep hs, h.2.1.keep hs, h.2.2.1.keep hs, h.2.2.2⟩
theorem PtLies.wider {w : World} {lo hi lo' hi' : Nat} {v : Pv} {p : Pt} (h : PtLies w lo hi v p) (h1 : lo' ≤ lo) (h2 : hi ≤ hi') : PtLies w lo' hi' v p := ⟨h.1.wider h1 h2, h.2.1.wider h1 h2, h.2.2.1.wider h1 h2, h.2.2.2⟩
/-- Partitions in memory, beside each other. -/
inductive AllLie (w : World) (lo hi : Nat) : List Pv → List Pt → Prop
  | nil : AllLie w lo hi [] []
  | cons {v p vs ps} : PtLies w lo hi v p → AllLie w lo hi vs ps → AllLie w lo hi (v :: vs) (p :: ps)
theorem AllLie.keep {w w' : World} {lo hi : Nat} {vs : List Pv} {ps : List Pt} (h : AllLie w lo hi vs ps) (hs : SameIn w w' lo hi) : AllLie w' lo hi vs ps := by
  induction h with
  | nil => exact .nil
  | cons h _ ih => exact .cons (h.keep hs) ih
theorem AllLie.wider {w : World} {lo hi lo' hi' : Nat} {vs : List Pv} {ps : List Pt} (h : AllLie w lo hi vs ps) (h1 : lo' ≤ lo) (h2 : hi ≤ hi') : AllLie w lo' hi' vs ps := by
  induction h with
  | nil => exact .nil
  | cons h _ ih => exact .cons (h.wider h1 h2) ih
theorem AllLie.length {w : World} {lo hi : Nat} {vs : List Pv} {ps : List Pt} (h : AllLie w lo hi vs ps) : vs.length = ps.length := by
  induction h with
  | nil => rfl
  | cons _ _ ih => simp [ih]
theorem AllLie.at {w : World} {lo hi : Nat} {vs : List Pv} {ps : List Pt} (h : AllLie w lo hi vs ps) : ∀ {i : Nat} {v : Pv} {p : Pt}, vs[i]? = some v → ps[i]? = some p → PtLies w lo hi v p := by
  induction h with
  | nil => intro i v p h; simp at h
  | cons h _ ih =>
    intro i v p h1 h2
    cases i with
    | zero => simp at h1 h2; subst h1; subst h2; exact h
    | succ i => exact ih (by simpa using h1) (by simpa using h2)
theorem AllLie.snoc {w : World} {lo hi : Nat} {vs : List Pv} {ps : List Pt} {v : Pv} {p : Pt} (h : AllLie w lo hi vs ps) (k : PtLies w lo hi v p) : AllLie w lo hi (vs ++ [v]) (ps ++ [p]) := by
  induction h with
  | nil => exact .cons k .nil
  | cons h _ ih => exact .cons h ih
/-- A system, as it lies. -/
structure Cv where
  (frame margin : Int) (ws ps cs : Value)
def Cv.val (k : Cv) : Value := .agg #[.int .i64 k.frame, .int .i64 k.margin, k.ws, k.ps, k.cs]
def CfLies (w : World) (lo hi : Nat) (v : Cv) (c : Cf) : Prop :=
  v.frame = c.frame ∧ v.margin = c.margin ∧ Lies w lo hi v.ws c.ws.length 3 (c.ws.flatMap Wn.cells) ∧ Lies w lo hi v.cs c.cs.length 4 (c.cs.flatMap Ch.cells) ∧
    ∃ pvs, Lies w lo hi v.ps c.ps.length 6 (pvs.flatMap Pv.cells) ∧ AllLie w lo hi pvs c.ps
theorem CfLies.keep {w w' : World} {lo hi : Nat} {v : Cv} {c : Cf} (h : CfLies w lo hi v c) (hs : SameIn w w' lo hi) : CfLies w' lo hi v c := by
  obtain ⟨h1, h2, h3, h4, pvs, h5, h6⟩ := h
  exact ⟨h1, h2, h3.keep hs, h4.keep hs, pvs, h5.keep hs, h6.keep hs⟩
theorem CfLies.wider {w : World} {lo hi lo' hi' : Nat} {v : Cv} {c : Cf} (h : CfLies w lo hi v c) (h1 : lo' ≤ lo) (h2 : hi ≤ hi') : CfLies w lo' hi' v c := by
  obtain ⟨g1, g2, h3, h4, pvs, h5, h6⟩ := h
  exact ⟨g1, g2, h3.wider h1 h2, h4.wider h1 h2, pvs, h5.wider h1 h2, h6.wider h1 h2⟩

/-! ### The cells of one thing of a slice -/
theorem Lies.tk {w : World} {b off : Nat} {xs : List Tk} {i : Nat} {x : Tk} (h : ∀ k u, (xs.flatMap Tk.cells)[k]? = some u → w.cell? ⟨b, off + k, none⟩ = some u) (hx : xs[i]? = some x) :
    w.cell? ⟨b, off + i * 6, none⟩ = some (.bool x.hi) ∧ w.cell? ⟨b, off + i * 6 + 1, none⟩ = some (.int .i64 x.t) ∧ w.cell? ⟨b, off + i * 6 + 2, none⟩ = some (.int .i64 x.d) ∧ w.cell? ⟨b, off + i * 6 + 3, none⟩ = some (.int .i64 x.v) ∧ w.cell? ⟨b, off + i * 6 + 4, none⟩ = some (.int .i64 x.lo) ∧ w.cell? ⟨b, off + i * 6 + 5, none⟩ = some (.int .i64 x.top) := by
  have f := fun j hj => flat_at Tk.cells 6 (fun _ => rfl) xs i j x hx hj
  have g := fun j hj u hu => by
    have := h (i * 6 + j) u ((f j hj).trans hu)
    rwa [← Nat.add_assoc] at this
  exact ⟨g 0 (by omega) _ rfl, g 1 (by omega) _ rfl, g 2 (by omega) _ rfl, g 3 (by omega) _ rfl, g 4 (by omega) _ rfl, g 5 (by omega) _ rfl⟩
end Go.Proofs.Ytiojmekoemlmkaa
