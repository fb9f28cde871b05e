/- Joined of ConfZ, ConfA, MemA, MemB, MemW, ConfD, ConfJ: The things that a system is made of. -/
import Derived.WalkKit
import Derived.WalkSmall
import Derived.ProofKit
import Derived.OpenShut
import Derived.Deep.RegionHeld3
import Derived.Deep.DrawnRows
import Derived.Below
import Derived.Lib.Hide
import Derived.Test.YtmkohnpdpcefgaaRows
import Derived.Deep.AppendLies
namespace Go.Proofs.Ytmkohnpdpcefgaa
open Go.ChangeShapes Go.WideShapes Go.ChangeAt Go.RowKit
set_option linter.unusedVariables false

theorem ret_b {x y : Bool} (h : x = y) : Ending.returned (.bool x) = .returned (.bool y) := by rw [h]
theorem below1 (w : World) (o : Obj) : Below w.heap.size w (w.alloc o) := (Below.refl _ _).alloc (Nat.le_refl _) o
structure Tk where
  (hi : Bool) (t d v lo top : Int)
structure Sv where
  (re : Bool) (c t : Int)
structure Wn where
  (at_ len part : Int)
structure Ch where
  (queue : Bool) (from_ to size : Int)
def Tk.cells (k : Tk) : List Value := [.bool k.hi, .int .i64 k.t, .int .i64 k.d, .int .i64 k.v, .int .i64 k.lo, .int .i64 k.top]
def Sv.cells (k : Sv) : List Value := [.bool k.re, .int .i64 k.c, .int .i64 k.t]
def Wn.cells (k : Wn) : List Value := [.int .i64 k.at_, .int .i64 k.len, .int .i64 k.part]
def Ch.cells (k : Ch) : List Value := [.bool k.queue, .int .i64 k.from_, .int .i64 k.to, .int .i64 k.size]
def intCells (k : Int) : List Value := [.int .i64 k]
structure Pt where
  (ts : List Tk) (ss : List Sv) (ds : List Int) (a0 a1 a2 : Int)
structure Cf where
  (frame margin : Int) (ws : List Wn) (ps : List Pt) (cs : List Ch)
end Go.Proofs.Ytmkohnpdpcefgaa
namespace Go.Proofs.Ytmkohnpdpcefgaa
open Go.ChangeShapes Go.WideShapes Go.ChangeAt Go.RowKit
set_option linter.unusedVariables false

/-- A slice of n things of sz cells each; its cells are cs; they lie in a block from lo to below hi. -/
def Lies (w : World) (lo hi : Nat) (v : Value) (n sz : Nat) (cs : List Value) : Prop :=
  ∃ a cap, v = .slice a n cap ∧ cs.length = n * sz ∧ (a = none → n = 0 ∧ cap = 0) ∧ (n = 0 ∨ ∃ b off, a = some ⟨b, off, none⟩ ∧ lo ≤ b ∧ b < hi ∧ ∀ k u, cs[k]? = some u → w.cell? ⟨b, off + k, none⟩ = some u)
/-- What holds below hi and from lo on is as it was. -/
def SameIn (w w' : World) (lo hi : Nat) : Prop := ∀ b, lo ≤ b → b < hi → w'.heap[b]? = w.heap[b]?
theorem SameIn.of_below {w w' : World} {lo hi B : Nat} (h : Below B w w') (hB : hi ≤ B) : SameIn w w' lo hi := fun b _ hb => h.block b (by omega)
theorem SameIn.refl (w : World) (lo hi : Nat) : SameIn w w lo hi := fun _ _ _ => rfl
theorem SameIn.trans {w w' w'' : World} {lo hi : Nat} (h : SameIn w w' lo hi) (k : SameIn w' w'' lo hi) : SameIn w w'' lo hi := fun b h1 h2 => (k b h1 h2).trans (h b h1 h2)
theorem Lies.keep {w w' : World} {lo hi : Nat} {v : Value} {n sz : Nat} {cs : List Value} (h : Lies w lo hi v n sz cs) (hs : SameIn w w' lo hi) : Lies w' lo hi v n sz cs := by
  obtain ⟨a, cap, rfl, hl, hn, h⟩ := h
  refine ⟨a, cap, rfl, hl, hn, ?_⟩
  rcases h with h | ⟨b, off, rfl, h1, h2, hc⟩
  · exact .inl h
  · exact .inr ⟨b, off, rfl, h1, h2, fun k u hu => (World.cell?_of_block (w := w) (hs b h1 h2)).trans (hc k u hu)⟩
theorem Lies.wider {w : World} {lo hi lo' hi' : Nat} {v : Value} {n sz : Nat} {cs : List Value} (h : Lies w lo hi v n sz cs) (h1 : lo' ≤ lo) (h2 : hi ≤ hi') : Lies w lo' hi' v n sz cs := by
  obtain ⟨a, cap, rfl, hl, hn, h⟩ := h
  refine ⟨a, cap, rfl, hl, hn, ?_⟩
  rcases h with h | ⟨b, off, rfl, h1, h2, hc⟩
  · exact .inl h
  · exact .inr ⟨b, off, rfl, by omega, by omega, hc⟩
theorem Lies.of_owns {w : World} {base e sz : Nat} {v : Value} {n : Nat} {xs : List Value} (h : w.ownsRow base e sz v n xs) : Lies w base w.heap.size v n sz xs := by
  obtain ⟨hl, h⟩ := h
  rcases h with ⟨rfl, rfl⟩ | ⟨g, cap, cur, rfl, hb, hg, hn, hm, hs, ht⟩
  · exact ⟨none, 0, rfl, hl, fun _ => ⟨rfl, rfl⟩, .inl rfl⟩
  · refine ⟨_, _, rfl, hl, (fun h => by cases h), .inr ⟨g, 0, rfl, hb, ?_, fun k u hu => ?_⟩⟩
    · rcases Nat.lt_or_ge g w.heap.size with h | h
      · exact h
      · rw [Array.getElem?_eq_none h] at hg; cases hg
    · subst ht
      rw [List.getElem?_take] at hu
      split at hu
      · rw [Nat.zero_add, cell_of_row w g k cur e (0, 0) hg]
        simpa using hu
      · cases hu

/-! ### append, from whatever lies there -/
theorem add_at (b off j : Nat) : (⟨b, off, none⟩ : Addr).add j = ⟨b, off + j, none⟩ := by
  unfold Addr.add; split <;> simp_all
theorem run_append_lie {P : Program} (w : World) (t ty : TypeId) (base : Nat) (e : TypeId) (i : TypeInfo) (z : Value) (size bytes : Nat) (ht : P.underlying t = some (.slice e)) (hi : P.info? e = some i) (hz : i.zero = some z)
    (hsize : i.size = size) (hby : i.bytes = bytes) (hzs : z.cells.size = size) (hsz : 0 < size)
    (v : Value) (n : Nat) (xs : List Value) (hown : w.ownsRow base e size v n xs) (src : Value) (lo hi' : Nat) (m : Nat) (news : List Value) (hl : Lies w lo hi' src m size news) (h1 : ∀ u ∈ news, u.oneCell' = true)
    (N : Nat) (hN : n + m = N) (h63 : N ≤ maxLen) (hbytes : N * bytes ≤ 140737488355328) (hbase : base ≤ w.heap.size) :
    ∃ ao cap w', (Builtin.append_ #[t, t] ty #[v, src]).run P w = .ok (.slice ao N cap) w' ∧ w'.ownsRow base e size (.slice ao N cap) N (xs ++ news) ∧ w.grownBy w' v.ownBlock := by
  subst hN
  suffices hs : ∃ v' w', (Builtin.append_ #[t, t] ty #[v, src]).run P w = .ok v' w' ∧ w'.ownsRow base e size v' (n + m) (xs ++ news) ∧ w.grownBy w' v.ownBlock by
    obtain ⟨v', w', h1, h2, h3⟩ := hs
    rcases h2.2 with ⟨rfl, h0⟩ | ⟨g, cap, cur, rfl, _⟩
    · exact ⟨none, 0, w', by rw [h1, h0], by rw [h0] at h2 ⊢; exact h2, h3⟩
    · exact ⟨_, cap, w', h1, h2, h3⟩
  obtain ⟨a, cap, rfl, hln, hnone, hc⟩ := hl
  cases a with
  | none =>
    obtain ⟨rfl, rfl⟩ := hnone rfl
    have : news = [] := List.eq_nil_of_length_eq_zero (by simpa using hln)
    subst this
    exact ⟨v, w, run_append_owned_none w base t ty e i size ht hi v n xs hown, by simpa using hown, World.grownBy.refl _ _⟩
  | some ad =>
    have hnews : ∀ j u, news[j]? = some u → w.cell? (ad.add j) = some u := by
      intro j u hu
      rcases hc with rfl | ⟨b, off, hab, _, _, hc⟩
      · have : news = [] := List.eq_nil_of_length_eq_zero (by simpa using hln)
        subst this; simp at hu
      · cases hab
        rw [add_at]; exact hc j u hu
    obtain ⟨v', w', h1, h2, h3, _, _⟩ := run_append_own_at (P := P) w base t ty e i z size bytes ht hi hz hsize hby hzs hsz v n xs hown ad m cap news hln hnews h1 h63 hbytes hbase
    exact ⟨v', w', h1, h2, h3⟩
theorem wp_append_lie {P : Program} {w : World} {o : Oper} {a : Act} {K : Act → World → Prop} {Q : Exit → Act → World → Prop} (s x : Operand) (t : TypeId)
    (ho : o.op = .call { callee := .builtin .append, args := #[s, x], argTypes := #[t, t] })
    (base : Nat) (e : TypeId) (i : TypeInfo) (z : Value) (size bytes : Nat) (ht : P.underlying t = some (.slice e)) (hi : P.info? e = some i) (hz : i.zero = some z)
    (hsize : i.size = size) (hby : i.bytes = bytes) (hzs : z.cells.size = size) (hsz : 0 < size)
    (v : Value) (n : Nat) (xs : List Value) (hs : a.eval s = v) (hown : w.ownsRow base e size v n xs)
    (src : Value) (lo hi' : Nat) (m : Nat) (news : List Value) (hx : a.eval x = src) (hl : Lies w lo hi' src m size news) (h1 : ∀ u ∈ news, u.oneCell' = true)
    (N : Nat) (hN : n + m = N) (h63 : N ≤ maxLen) (hbytes : N * bytes ≤ 140737488355328) (hbase : base ≤ w.heap.size)
    (h : ∀ ao cap w', w'.ownsRow base e size (.slice ao N cap) N (xs ++ news) → w.grownBy w' v.ownBlock → K (a.put o.dst (.slice ao N cap)) w') : o.wp P a w K Q := by
  obtain ⟨ao, cap, w', hr, h2, h3⟩ := run_append_lie (P := P) w t o.type base e i z size bytes ht hi hz hsize hby hzs hsz v n xs hown src lo hi' m news hl h1 N hN h63 hbytes hbase
  unfold Oper.wp execOp
  simp only [ho, resolve, invoke, builtin, Sem.run_bind, Sem.run_pure, Result.andThen_ok, List.map_toArray, List.map_cons, List.map_nil, hs, hx, hr]
  exact h ao cap w' h2 h3
theorem wpList_append_lie {P : Program} {w : World} {ops : Array Oper} {rest : List Oper} {o : Oper} {a : Act} {Q : Exit → Act → World → Prop} (hgd : o.guard = none) (s x : Operand) (t : TypeId)
    (ho : o.op = .call { callee := .builtin .append, args := #[s, x], argTypes := #[t, t] })
    (base : Nat) (e : TypeId) (i : TypeInfo) (z : Value) (size bytes : Nat) (ht : P.underlying t = some (.slice e)) (hi : P.info? e = some i) (hz : i.zero = some z)
    (hsize : i.size = size) (hby : i.bytes = bytes) (hzs : z.cells.size = size) (hsz : 0 < size)
    (v : Value) (n : Nat) (xs : List Value) (hs : a.eval s = v) (hown : w.ownsRow base e size v n xs)
    (src : Value) (lo hi' : Nat) (m : Nat) (news : List Value) (hx : a.eval x = src) (hl : Lies w lo hi' src m size news) (h1 : ∀ u ∈ news, u.oneCell' = true)
    (N : Nat) (hN : n + m = N) (h63 : N ≤ maxLen) (hbytes : N * bytes ≤ 140737488355328) (hbase : base ≤ w.heap.size)
    (h : ∀ ao cap w', w'.ownsRow base e size (.slice ao N cap) N (xs ++ news) → w.grownBy w' v.ownBlock → wpList P ops Q rest (a.put o.dst (.slice ao N cap)) w') : wpList P ops Q (o :: rest) a w :=
  wpList_plain hgd fun _ hK => wp_append_lie s x t ho base e i z size bytes ht hi hz hsize hby hzs hsz v n xs hs hown src lo hi' m news hx hl h1 N hN h63 hbytes hbase fun ao cap w' h2 h3 => hK _ _ (h ao cap w' h2 h3)
theorem step_append_lie {P : Program} {w : World} {ops : Array Oper} {o : Oper} {a : Act} {K : Act → World → Prop} {Q : Exit → Act → World → Prop} {E : Prop} (hgd : o.guard = none) (s x : Operand) (t : TypeId)
    (ho : o.op = .call { callee := .builtin .append, args := #[s, x], argTypes := #[t, t] })
    (base : Nat) (e : TypeId) (i : TypeInfo) (z : Value) (size bytes : Nat) (ht : P.underlying t = some (.slice e)) (hi : P.info? e = some i) (hz : i.zero = some z)
    (hsize : i.size = size) (hby : i.bytes = bytes) (hzs : z.cells.size = size) (hsz : 0 < size)
    (v : Value) (n : Nat) (xs : List Value) (hs : a.eval s = v) (hown : w.ownsRow base e size v n xs)
    (src : Value) (lo hi' : Nat) (m : Nat) (news : List Value) (hx : a.eval x = src) (hl : Lies w lo hi' src m size news) (h1 : ∀ u ∈ news, u.oneCell' = true)
    (N : Nat) (hN : n + m = N) (h63 : N ≤ maxLen) (hbytes : N * bytes ≤ 140737488355328) (hbase : base ≤ w.heap.size)
    (h : ∀ ao cap w', w'.ownsRow base e size (.slice ao N cap) N (xs ++ news) → w.grownBy w' v.ownBlock → K (a.put o.dst (.slice ao N cap)) w') :
    if Region.wanted o (yielded ops a.tmps) = true then Oper.wp P o a w K Q else E := by
  have hw : Region.wanted o (yielded ops a.tmps) = true := by simp [Region.wanted, hgd]
  rw [if_pos hw]
  exact wp_append_lie s x t ho base e i z size bytes ht hi hz hsize hby hzs hsz v n xs hs hown src lo hi' m news hx hl h1 N hN h63 hbytes hbase h
/-! ### append onto nothing: the new row written out -/
/-- A new row: its cells, its room. -/
def Fresh (arr : Array Value) (cap m size : Nat) (news : List Value) : Prop := news.length = m * size ∧ m ≤ cap ∧ cap ≤ maxLen ∧ arr.size = cap * size ∧ arr.toList.take (m * size) = news
theorem Fresh.owns {w : World} {arr : Array Value} {cap m size : Nat} {news : List Value} {base e g : Nat} (h : Fresh arr cap m size news) (hg : w.heap[g]? = some (.cells arr e (0, 0))) (hb : base ≤ g) : w.ownsRow base e size (.slice (some ⟨g, 0, none⟩) m cap) m news :=
  ⟨h.1, .inr ⟨g, cap, arr, rfl, hb, hg, h.2⟩⟩
theorem run_append_zero {P : Program} (w : World) (t ty e : TypeId) (i : TypeInfo) (size : Nat) (ht : P.underlying t = some (.slice e)) (hi : P.info? e = some i) (hsize : i.size = size) (ao : Option Addr) (src : Value) (lo hi' : Nat) (news : List Value) (hl : Lies w lo hi' src 0 size news) :
    (Builtin.append_ #[t, t] ty #[.slice ao 0 0, src]).run P w = .ok (.slice ao 0 0) w := by
  obtain ⟨a, cap, rfl, _, hnone, _⟩ := hl
  cases a with
  | none =>
    obtain ⟨_, rfl⟩ := hnone rfl
    cases ao <;> simp [Builtin.append_, run_underlying ht, sizeOf, typeInfo, hi, Builtin.lenOf, Builtin.firstCells, storeCells]
  | some ad => cases ao <;> simp [Builtin.append_, run_underlying ht, sizeOf, typeInfo, hi, Builtin.lenOf, Builtin.firstCells, loadCells, loadCellsFrom, storeCells]
theorem run_append_fresh {P : Program} (w : World) (t ty e : TypeId) (i : TypeInfo) (z : Value) (size bytes : Nat) (ht : P.underlying t = some (.slice e)) (hi : P.info? e = some i) (hz : i.zero = some z)
    (hsize : i.size = size) (hby : i.bytes = bytes) (hzs : z.cells.size = size) (ao : Option Addr) (src : Value) (lo hi' : Nat) (m : Nat) (news : List Value) (hl : Lies w lo hi' src m size news) (hm : 0 < m)
    (h63 : m ≤ maxLen) (hbytes : m * bytes ≤ 140737488355328) :
    ∃ cap arr, (Builtin.append_ #[t, t] ty #[.slice ao 0 0, src]).run P w = .ok (.slice (some ⟨w.heap.size, 0, none⟩) m cap) (w.drew.alloc (.cells arr e)) ∧ Fresh arr cap m size news := by
  obtain ⟨a, scap, rfl, hln, hnone, hc⟩ := hl
  rcases hc with h0 | ⟨b, off, rfl, _, _, hc⟩
  · omega
  subst hsize; subst hby
  have hsmall : m ≤ 9223372036854775807 := by simp only [maxLen] at h63; omega
  have hnews : ∀ j u, news[j]? = some u → w.cell? ((⟨b, off, none⟩ : Addr).add j) = some u := fun j u hu => by rw [add_at]; exact hc j u hu
  have fit : Builtin.nextslicecap (0 + m) 0 * i.bytes ≤ 281474976710656 := growslice_fits (by omega) (by simpa using hbytes)
  have hge := grownCap_ge w m 0 e
  have hcm : grownCap w m 0 e ≤ maxLen := grownCap_le_maxLen w m 0 e h63
  have key : ∀ C, C = grownCap w m 0 e → Fresh (news.toArray ++ Builtin.zeroCells z.cells (C - m)) C m i.size news := by
    rintro _ rfl
    refine ⟨hln, hge, hcm, ?_, ?_⟩
    · simp only [Array.size_append, List.size_toArray, size_zeroCells, hzs, hln, ← Nat.add_mul]
      congr 1
      omega
    · simp only [Array.toList_append]
      rw [← hln]
      exact List.take_left
  cases ao with
  | none =>
    have hr := run_append_nil (P := P) w t ty e i z ht hi hz ⟨b, off, none⟩ m scap news hln hnews hm (by omega) (by omega)
    exact ⟨_, _, hr, key _ rfl⟩
  | some ad =>
    have hr := run_append_grow (P := P) w t ty e i z ht hi hz ad 0 0 [] (by simp) (by simp) ⟨b, off, none⟩ m scap news hln hnews (by omega) (by omega) fit
    simp only [Nat.zero_add, Array.empty_append] at hr
    exact ⟨_, _, hr, key _ rfl⟩
theorem wp_append_zero {P : Program} {w : World} {o : Oper} {a : Act} {K : Act → World → Prop} {Q : Exit → Act → World → Prop} (s x : Operand) (t : TypeId)
    (ho : o.op = .call { callee := .builtin .append, args := #[s, x], argTypes := #[t, t] }) (e : TypeId) (i : TypeInfo) (size : Nat) (ht : P.underlying t = some (.slice e)) (hi : P.info? e = some i) (hsize : i.size = size)
    (ao : Option Addr) (hs : a.eval s = .slice ao 0 0) (src : Value) (lo hi' : Nat) (news : List Value) (hx : a.eval x = src) (hl : Lies w lo hi' src 0 size news)
    (h : K (a.put o.dst (.slice ao 0 0)) w) : o.wp P a w K Q := by
  have hr := run_append_zero (P := P) w t o.type e i size ht hi hsize ao src lo hi' news hl
  unfold Oper.wp execOp
  simp only [ho, resolve, invoke, builtin, Sem.run_bind, Sem.run_pure, Result.andThen_ok, List.map_toArray, List.map_cons, List.map_nil, hs, hx, hr]
  exact h
theorem wp_append_fresh {P : Program} {w : World} {o : Oper} {a : Act} {K : Act → World → Prop} {Q : Exit → Act → World → Prop} (s x : Operand) (t : TypeId)
    (ho : o.op = .call { callee := .builtin .append, args := #[s, x], argTypes := #[t, t] }) (e : TypeId) (i : TypeInfo) (z : Value) (size bytes : Nat) (ht : P.underlying t = some (.slice e)) (hi : P.info? e = some i) (hz : i.zero = some z)
    (hsize : i.size = size) (hby : i.bytes = bytes) (hzs : z.cells.size = size) (ao : Option Addr) (hs : a.eval s = .slice ao 0 0)
    (src : Value) (lo hi' : Nat) (m : Nat) (news : List Value) (hx : a.eval x = src) (hl : Lies w lo hi' src m size news) (hm : 0 < m) (h63 : m ≤ maxLen) (hbytes : m * bytes ≤ 140737488355328)
    (h : ∀ cap arr, Hid (Fresh arr cap m size news) → K (a.put o.dst (.slice (some ⟨w.heap.size, 0, none⟩) m cap)) (w.drew.alloc (.cells arr e))) : o.wp P a w K Q := by
  obtain ⟨cap, arr, hr, h2⟩ := run_append_fresh (P := P) w t o.type e i z size bytes ht hi hz hsize hby hzs ao src lo hi' m news hl hm h63 hbytes
  unfold Oper.wp execOp
  simp only [ho, resolve, invoke, builtin, Sem.run_bind, Sem.run_pure, Result.andThen_ok, List.map_toArray, List.map_cons, List.map_nil, hs, hx, hr]
  exact h cap arr h2
theorem step_append_zero {P : Program} {w : World} {ops : Array Oper} {o : Oper} {a : Act} {K : Act → World → Prop} {Q : Exit → Act → World → Prop} {E : Prop} (hgd : o.guard = none) (s x : Operand) (t : TypeId)
    (ho : o.op = .call { callee := .builtin .append, args := #[s, x], argTypes := #[t, t] }) (e : TypeId) (i : TypeInfo) (size : Nat) (ht : P.underlying t = some (.slice e)) (hi : P.info? e = some i) (hsize : i.size = size)
    (ao : Option Addr) (hs : a.eval s = .slice ao 0 0) (src : Value) (lo hi' : Nat) (news : List Value) (hx : a.eval x = src) (hl : Lies w lo hi' src 0 size news)
    (h : K (a.put o.dst (.slice ao 0 0)) w) : if Region.wanted o (yielded ops a.tmps) = true then Oper.wp P o a w K Q else E := by
  have hw : Region.wanted o (yielded ops a.tmps) = true := by simp [Region.wanted, hgd]
  rw [if_pos hw]
  exact wp_append_zero s x t ho e i size ht hi hsize ao hs src lo hi' news hx hl h
theorem step_append_fresh {P : Program} {w : World} {ops : Array Oper} {o : Oper} {a : Act} {K : Act → World → Prop} {Q : Exit → Act → World → Prop} {E : Prop} (hgd : o.guard = none) (s x : Operand) (t : TypeId)
    (ho : o.op = .call { callee := .builtin .append, args := #[s, x], argTypes := #[t, t] }) (e : TypeId) (i : TypeInfo) (z : Value) (size bytes : Nat) (ht : P.underlying t = some (.slice e)) (hi : P.info? e = some i) (hz : i.zero = some z)
    (hsize : i.size = size) (hby : i.bytes = bytes) (hzs : z.cells.size = size) (ao : Option Addr) (hs : a.eval s = .slice ao 0 0)
    (src : Value) (lo hi' : Nat) (m : Nat) (news : List Value) (hx : a.eval x = src) (hl : Lies w lo hi' src m size news) (hm : 0 < m) (h63 : m ≤ maxLen) (hbytes : m * bytes ≤ 140737488355328)
    (h : ∀ cap arr, Hid (Fresh arr cap m size news) → K (a.put o.dst (.slice (some ⟨w.heap.size, 0, none⟩) m cap)) (w.drew.alloc (.cells arr e))) : if Region.wanted o (yielded ops a.tmps) = true then Oper.wp P o a w K Q else E := by
  have hw : Region.wanted o (yielded ops a.tmps) = true := by simp [Region.wanted, hgd]
  rw [if_pos hw]
  exact wp_append_fresh s x t ho e i z size bytes ht hi hz hsize hby hzs ao hs src lo hi' m news hx hl hm h63 hbytes h
theorem wpList_append_zero {P : Program} {w : World} {ops : Array Oper} {rest : List Oper} {o : Oper} {a : Act} {Q : Exit → Act → World → Prop} (hgd : o.guard = none) (s x : Operand) (t : TypeId)
    (ho : o.op = .call { callee := .builtin .append, args := #[s, x], argTypes := #[t, t] }) (e : TypeId) (i : TypeInfo) (size : Nat) (ht : P.underlying t = some (.slice e)) (hi : P.info? e = some i) (hsize : i.size = size)
    (ao : Option Addr) (hs : a.eval s = .slice ao 0 0) (src : Value) (lo hi' : Nat) (news : List Value) (hx : a.eval x = src) (hl : Lies w lo hi' src 0 size news)
    (h : wpList P ops Q rest (a.put o.dst (.slice ao 0 0)) w) : wpList P ops Q (o :: rest) a w :=
  wpList_plain hgd fun _ hK => wp_append_zero s x t ho e i size ht hi hsize ao hs src lo hi' news hx hl (hK _ _ h)
theorem wpList_append_fresh {P : Program} {w : World} {ops : Array Oper} {rest : List Oper} {o : Oper} {a : Act} {Q : Exit → Act → World → Prop} (hgd : o.guard = none) (s x : Operand) (t : TypeId)
    (ho : o.op = .call { callee := .builtin .append, args := #[s, x], argTypes := #[t, t] }) (e : TypeId) (i : TypeInfo) (z : Value) (size bytes : Nat) (ht : P.underlying t = some (.slice e)) (hi : P.info? e = some i) (hz : i.zero = some z)
    (hsize : i.size = size) (hby : i.bytes = bytes) (hzs : z.cells.size = size) (ao : Option Addr) (hs : a.eval s = .slice ao 0 0)
    (src : Value) (lo hi' : Nat) (m : Nat) (news : List Value) (hx : a.eval x = src) (hl : Lies w lo hi' src m size news) (hm : 0 < m) (h63 : m ≤ maxLen) (hbytes : m * bytes ≤ 140737488355328)
    (h : ∀ cap arr, Hid (Fresh arr cap m size news) → wpList P ops Q rest (a.put o.dst (.slice (some ⟨w.heap.size, 0, none⟩) m cap)) (w.drew.alloc (.cells arr e))) : wpList P ops Q (o :: rest) a w :=
  wpList_plain hgd fun _ hK => wp_append_fresh s x t ho e i z size bytes ht hi hz hsize hby hzs ao hs src lo hi' m news hx hl hm h63 hbytes fun cap arr h2 => hK _ _ (h cap arr h2)
theorem heap_at (w : World) (o : Obj) (k : Nat) : (w.alloc o).heap[k]? = if k = w.heap.size then some o else w.heap[k]? := by
  split
  · rename_i h; subst h; exact heap_alloc_new w o
  · rename_i h
    rcases Nat.lt_or_ge k w.heap.size with hl | hl
    · exact Below.heap_alloc w o k hl
    · rw [Array.getElem?_eq_none (by simp; omega), Array.getElem?_eq_none (by omega)]
theorem heap_drew (w : World) : w.drew.heap = w.heap := rfl
/-- What appending leaves of a block of another type. -/
theorem grown_keep {w w' : World} {base e sz : Nat} {v : Value} {n : Nat} {xs : List Value} (hg : w.grownBy w' v.ownBlock) (hown : w.ownsRow base e sz v n xs) {X : Nat} {cs : Array Value} {T : TypeId} {fr : Nat × Nat}
    (hX : w.heap[X]? = some (.cells cs T fr)) (hT : T ≠ e) : w'.heap[X]? = some (.cells cs T fr) := by
  rw [hg.block X (lt_of_block hX) ?_, hX]
  intro hb
  rcases hown.2 with ⟨rfl, _⟩ | ⟨g, cap, cur, rfl, _, hgr, _⟩
  · simp [Value.ownBlock] at hb
  · simp [Value.ownBlock] at hb
    subst hb
    rw [hX] at hgr
    simp at hgr
    exact hT hgr.2.1
theorem owns_block {w : World} {base e sz : Nat} {v : Value} {n : Nat} {xs : List Value} (hown : w.ownsRow base e sz v n xs) : ∀ k, v.ownBlock = some k → base ≤ k ∧ ∃ cs, w.heap[k]? = some (.cells cs e (0, 0)) := by
  intro k hk
  rcases hown.2 with ⟨rfl, _⟩ | ⟨g, cap, cur, rfl, hb, hgr, _⟩
  · simp [Value.ownBlock] at hk
  · simp [Value.ownBlock] at hk
    subst hk
    exact ⟨hb, cur, hgr⟩
/-- What appending leaves of another row that is owned. -/
theorem grown_owns {w w' : World} {base base2 e e2 sz sz2 : Nat} {v v2 : Value} {n n2 : Nat} {xs xs2 : List Value} (hg : w.grownBy w' v.ownBlock) (hown : w.ownsRow base e sz v n xs) (hown2 : w.ownsRow base2 e2 sz2 v2 n2 xs2) (hT : e2 ≠ e) :
    w'.ownsRow base2 e2 sz2 v2 n2 xs2 := by
  obtain ⟨hl, h⟩ := hown2
  refine ⟨hl, ?_⟩
  rcases h with h | ⟨g, cap, cur, hv, hb, hgr, h⟩
  · exact .inl h
  · exact .inr ⟨g, cap, cur, hv, hb, grown_keep hg hown hgr hT, h⟩
/-- What a store leaves of a row of another type. -/
theorem setCell_owns {w : World} {base e sz : Nat} {v : Value} {n : Nat} {xs : List Value} (hown : w.ownsRow base e sz v n xs) {a : Addr} {cs : Array Value} {T : TypeId} {fr : Nat × Nat} (hX : w.heap[a.block]? = some (.cells cs T fr)) (hT : T ≠ e) (u : Value) :
    (w.setCell a u).ownsRow base e sz v n xs := by
  refine ownsRow_setCell_other hown ?_ u
  intro hb
  obtain ⟨_, cs2, h2⟩ := owns_block hown _ hb
  rw [hX] at h2
  simp at h2
  exact hT h2.2.1

/-- Of things of sz cells each, in a row, the j-th cell of the i-th. -/
theorem flat_at {α : Type} (f : α → List Value) (sz : Nat) (hf : ∀ x, (f x).length = sz) : ∀ (xs : List α) (i j : Nat) (x : α), xs[i]? = some x → j < sz → (xs.flatMap f)[i * sz + j]? = (f x)[j]?
  | [], i, j, x, h, _ => by simp at h
  | y :: ys, 0, j, x, h, hj => by
    simp at h; subst h
    rw [List.flatMap_cons, Nat.zero_mul, Nat.zero_add, List.getElem?_append_left (by rw [hf]; exact hj)]
  | y :: ys, i + 1, j, x, h, hj => by
    rw [List.flatMap_cons, List.getElem?_append_right (by rw [hf, Nat.add_mul]; omega)]
    rw [hf, show (i + 1) * sz + j - sz = i * sz + j by rw [Nat.add_mul]; omega]
    exact flat_at f sz hf ys i j x (by simpa using h) hj
theorem flat_len {α : Type} (f : α → List Value) (sz : Nat) (hf : ∀ x, (f x).length = sz) (xs : List α) : (xs.flatMap f).length = xs.length * sz := by
  induction xs with
  | nil => simp
  | cons x xs ih => rw [List.flatMap_cons, List.length_append, hf, ih, List.length_cons, Nat.add_mul]; omega

/-! ### The things -/
/-- A partition, as it lies: its lists are slices. -/
structure Pv where
  (ts ss ds : Value) (a0 a1 a2 : Int)
def Pv.cells (k : Pv) : List Value := [k.ts, k.ss, k.ds, .int .u8 k.a0, .int .u8 k.a1, .int .u8 k.a2]
/-- A partition in memory. -/
def PtLies (w : World) (lo hi : Nat) (v : Pv) (p : Pt) : Prop :=
  Lies w lo hi v.ts p.ts.length 6 (p.ts.flatMap Tk.cells) ∧ Lies w lo hi v.ss p.ss.length 3 (p.ss.flatMap Sv.cells) ∧ Lies w lo hi v.ds p.ds.length 1 (p.ds.flatMap intCells) ∧ v.a0 = p.a0 ∧ v.a1 = p.a1 ∧ v.a2 = p.a2
theorem PtLies.keep {w w' : World} {lo hi : Nat} {v : Pv} {p : Pt} (h : PtLies w lo hi v p) (hs : SameIn w w' lo hi) : PtLies w' lo hi v p := ⟨h.1.keep hs, h.2.1.keep hs, h.2.2.1.keep hs, h.2.2.2⟩
theorem PtLies.wider {w : World} {lo hi lo' hi' : Nat} {v : Pv} {p : Pt} (h : PtLies w lo hi v p) (h1 : lo' ≤ lo) (h2 : hi ≤ hi') : PtLies w lo' hi' v p := ⟨h.1.wider h1 h2, h.2.1.wider h1 h2, h.2.2.1.wider h1 h2, h.2.2.2⟩
/-- Partitions in memory, beside each other. -/
inductive AllLie (w : World) (lo hi : Nat) : List Pv → List Pt → Prop
  | nil : AllLie w lo hi [] []
  | cons {v p vs ps} : PtLies w lo hi v p → AllLie w lo hi vs ps → AllLie w lo hi (v :: vs) (p :: ps)
theorem AllLie.keep {w w' : World} {lo hi : Nat} {vs : List Pv} {ps : List Pt} (h : AllLie w lo hi vs ps) (hs : SameIn w w' lo hi) : AllLie w' lo hi vs ps := by
  induction h with
  | nil => exact .nil
  | cons h _ ih => exact .cons (h.keep hs) ih
theorem AllLie.wider {w : World} {lo hi lo' hi' : Nat} {vs : List Pv} {ps : List Pt} (h : AllLie w lo hi vs ps) (h1 : lo' ≤ lo) (h2 : hi ≤ hi') : AllLie w lo' hi' vs ps := by
  induction h with
  | nil => exact .nil
  | cons h _ ih => exact .cons (h.wider h1 h2) ih
theorem AllLie.length {w : World} {lo hi : Nat} {vs : List Pv} {ps : List Pt} (h : AllLie w lo hi vs ps) : vs.length = ps.length := by
  induction h with
  | nil => rfl
  | cons _ _ ih => simp [ih]
theorem AllLie.at {w : World} {lo hi : Nat} {vs : List Pv} {ps : List Pt} (h : AllLie w lo hi vs ps) : ∀ {i : Nat} {v : Pv} {p : Pt}, vs[i]? = some v → ps[i]? = some p → PtLies w lo hi v p := by
  induction h with
  | nil => intro i v p h; simp at h
  | cons h _ ih =>
    intro i v p h1 h2
    cases i with
    | zero => simp at h1 h2; subst h1; subst h2; exact h
    | succ i => exact ih (by simpa using h1) (by simpa using h2)
theorem AllLie.snoc {w : World} {lo hi : Nat} {vs : List Pv} {ps : List Pt} {v : Pv} {p : Pt} (h : AllLie w lo hi vs ps) (k : PtLies w lo hi v p) : AllLie w lo hi (vs ++ [v]) (ps ++ [p]) := by
  induction h with
  | nil => exact .cons k .nil
  | cons h _ ih => exact .cons h ih
/-- A system, as it lies. -/
structure Cv where
  (frame margin : Int) (ws ps cs : Value)
def Cv.val (k : Cv) : Value := .agg #[.int .i64 k.frame, .int .i64 k.margin, k.ws, k.ps, k.cs]
def CfLies (w : World) (lo hi : Nat) (v : Cv) (c : Cf) : Prop :=
  v.frame = c.frame ∧ v.margin = c.margin ∧ Lies w lo hi v.ws c.ws.length 3 (c.ws.flatMap Wn.cells) ∧ Lies w lo hi v.cs c.cs.length 4 (c.cs.flatMap Ch.cells) ∧
    ∃ pvs, Lies w lo hi v.ps c.ps.length 6 (pvs.flatMap Pv.cells) ∧ AllLie w lo hi pvs c.ps
theorem CfLies.keep {w w' : World} {lo hi : Nat} {v : Cv} {c : Cf} (h : CfLies w lo hi v c) (hs : SameIn w w' lo hi) : CfLies w' lo hi v c := by
  obtain ⟨h1, h2, h3, h4, pvs, h5, h6⟩ := h
  exact ⟨h1, h2, h3.keep hs, h4.keep hs, pvs, h5.keep hs, h6.keep hs⟩
theorem CfLies.wider {w : World} {lo hi lo' hi' : Nat} {v : Cv} {c : Cf} (h : CfLies w lo hi v c) (h1 : lo' ≤ lo) (h2 : hi ≤ hi') : CfLies w lo' hi' v c := by
  obtain ⟨g1, g2, h3, h4, pvs, h5, h6⟩ := h
  exact ⟨g1, g2, h3.wider h1 h2, h4.wider h1 h2, pvs, h5.wider h1 h2, h6.wider h1 h2⟩

/-! ### The cells of one thing of a slice -/
theorem Lies.tk {w : World} {b off : Nat} {xs : List Tk} {i : Nat} {x : Tk} (h : ∀ k u, (xs.flatMap Tk.cells)[k]? = some u → w.cell? ⟨b, off + k, none⟩ = some u) (hx : xs[i]? = some x) :
    w.cell? ⟨b, off + i * 6, none⟩ = some (.bool x.hi) ∧ w.cell? ⟨b, off + i * 6 + 1, none⟩ = some (.int .i64 x.t) ∧ w.cell? ⟨b, off + i * 6 + 2, none⟩ = some (.int .i64 x.d) ∧ w.cell? ⟨b, off + i * 6 + 3, none⟩ = some (.int .i64 x.v) ∧ w.cell? ⟨b, off + i * 6 + 4, none⟩ = some (.int .i64 x.lo) ∧ w.cell? ⟨b, off + i * 6 + 5, none⟩ = some (.int .i64 x.top) := by
  have f := fun j hj => flat_at Tk.cells 6 (fun _ => rfl) xs i j x hx hj
  have g := fun j hj u hu => by
    have := h (i * 6 + j) u ((f j hj).trans hu)
    rwa [← Nat.add_assoc] at this
  exact ⟨g 0 (by omega) _ rfl, g 1 (by omega) _ rfl, g 2 (by omega) _ rfl, g 3 (by omega) _ rfl, g 4 (by omega) _ rfl, g 5 (by omega) _ rfl⟩
end Go.Proofs.Ytmkohnpdpcefgaa
namespace Go.Proofs.Ytmkohnpdpcefgaa
open Go.ChangeShapes Go.WideShapes Go.ChangeAt Go.RowKit
set_option linter.unusedVariables false

theorem b_alloc {B : Nat} {w w' : World} (h : Below B w w') (hB : B ≤ w.heap.size) (o : Obj) : Below B w (w'.alloc o) := h.alloc (Nat.le_trans hB h.size) o
theorem set_at {w : World} {b j : Nat} {cs : Array Value} {t : TypeId} {u : Value} (h : w.heap[b]? = some (.cells cs t (0, 0))) : (w.setCell ⟨b, j, none⟩ u).heap[b]? = some (.cells (cs.setIfInBounds j u) t (0, 0)) := by
  have hlt := lt_of_block h
  have h' : w.heap[b] = .cells cs t (0, 0) := by simpa [Array.getElem?_eq_getElem hlt] using h
  show (w.heap.modify b _)[b]? = _
  rw [Array.getElem?_eq_getElem (by simpa using hlt), Array.getElem_modify_self, h']
  rfl
theorem cell_in {w : World} {b j : Nat} {cs : Array Value} {t : TypeId} {u : Value} (h : w.heap[b]? = some (.cells cs t (0, 0))) (hu : cs[j]? = some u) : w.cell? ⟨b, j, none⟩ = some u := by
  rw [cell_of_row w b j cs t (0, 0) h]; exact hu
theorem free_in {w : World} {b : Nat} {cs : Array Value} {t : TypeId} (h : w.heap[b]? = some (.cells cs t (0, 0))) (j : Nat) : w.frozen? ⟨b, j, none⟩ = false := by simp [World.frozen?, h]
theorem one_lies {w : World} {b sz : Nat} {cs : Array Value} {t : TypeId} (h : w.heap[b]? = some (.cells cs t (0, 0))) (hs : cs.size = sz) : Lies w b (b + 1) (.slice (some ⟨b, 0, none⟩) 1 1) 1 sz cs.toList :=
  ⟨_, _, rfl, by simpa using hs, (fun h => by cases h), .inr ⟨b, 0, rfl, by omega, by omega, fun k u hu => by rw [Nat.zero_add]; exact cell_in h (by simpa using hu)⟩⟩
theorem flat_one {α : Type} (f : α → List Value) (hf : ∀ x u, u ∈ f x → u.oneCell' = true) (xs : List α) : ∀ u ∈ xs.flatMap f, u.oneCell' = true := by
  intro u hu
  obtain ⟨x, _, h⟩ := List.mem_flatMap.1 hu
  exact hf x u h
theorem tk_one (x : Tk) : ∀ u ∈ x.cells, u.oneCell' = true := by intro u hu; simp [Tk.cells] at hu; rcases hu with h | h | h | h | h | h <;> subst h <;> rfl
theorem sv_one (x : Sv) : ∀ u ∈ x.cells, u.oneCell' = true := by intro u hu; simp [Sv.cells] at hu; rcases hu with h | h | h <;> subst h <;> rfl
theorem wn_one (x : Wn) : ∀ u ∈ x.cells, u.oneCell' = true := by intro u hu; simp [Wn.cells] at hu; rcases hu with h | h | h <;> subst h <;> rfl
theorem ch_one (x : Ch) : ∀ u ∈ x.cells, u.oneCell' = true := by intro u hu; simp [Ch.cells] at hu; rcases hu with h | h | h | h <;> subst h <;> rfl
theorem in_one (x : Int) : ∀ u ∈ intCells x, u.oneCell' = true := by intro u hu; simp [intCells] at hu; subst hu; rfl
theorem take_flat {α : Type} (f : α → List Value) (xs : List α) (k : Nat) (x : α) (h : xs[k]? = some x) : (xs.take (k + 1)).flatMap f = (xs.take k).flatMap f ++ f x := by
  rw [List.take_add_one, h]; simp
theorem fresh_none (sz : Nat) : Fresh #[] 0 0 sz [] := ⟨by simp, by omega, by simp [maxLen], by simp, by simp⟩
theorem Lies.sv {w : World} {b off : Nat} {xs : List Sv} {i : Nat} {x : Sv} (h : ∀ k u, (xs.flatMap Sv.cells)[k]? = some u → w.cell? ⟨b, off + k, none⟩ = some u) (hx : xs[i]? = some x) :
    w.cell? ⟨b, off + i * 3, none⟩ = some (.bool x.re) ∧ w.cell? ⟨b, off + i * 3 + 1, none⟩ = some (.int .i64 x.c) ∧ w.cell? ⟨b, off + i * 3 + 2, none⟩ = some (.int .i64 x.t) := by
  have f := fun j hj => flat_at Sv.cells 3 (fun _ => rfl) xs i j x hx hj
  have g := fun j hj u hu => by
    have := h (i * 3 + j) u ((f j hj).trans hu)
    rwa [← Nat.add_assoc] at this
  exact ⟨g 0 (by omega) _ rfl, g 1 (by omega) _ rfl, g 2 (by omega) _ rfl⟩
theorem Try.infoInt : (Try.prog.info? 3).map (fun i => (i.zero, i.size, i.bytes)) = some (some (.int .i64 0), 1, 8) := by kernel_rfl
/-- All but blocks of the types E and T is kept. -/
def KeepsBut (E T : TypeId) (w w' : World) : Prop := ∀ (b : Nat) (cs : Array Value) (t : TypeId) (fr : Nat × Nat), w.heap[b]? = some (Obj.cells cs t fr) → t ≠ E → t ≠ T → w'.heap[b]? = some (Obj.cells cs t fr)
theorem KeepsBut.refl (E T : TypeId) (w : World) : KeepsBut E T w w := fun _ _ _ _ h _ _ => h
theorem KeepsBut.trans {E T : TypeId} {a b c : World} (h : KeepsBut E T a b) (k : KeepsBut E T b c) : KeepsBut E T a c := fun x cs t fr hx h1 h2 => k x cs t fr (h x cs t fr hx h1 h2) h1 h2
theorem KeepsBut.of_below {E T : TypeId} {w w' : World} (h : Below w.heap.size w w') : KeepsBut E T w w' := fun b cs t fr hb _ _ => (h.block b (lt_of_block hb)).trans hb
theorem KeepsBut.of_grown {E T : TypeId} {w w' : World} {base sz : Nat} {v : Value} {n : Nat} {xs : List Value} (hg : w.grownBy w' v.ownBlock) (hown : w.ownsRow base E sz v n xs) : KeepsBut E T w w' := fun b cs t fr hb h1 _ => grown_keep hg hown hb h1
theorem KeepsBut.set {E T : TypeId} {w : World} {a : Addr} {cs : Array Value} {fr : Nat × Nat} (hX : w.heap[a.block]? = some (.cells cs T fr)) (u : Value) : KeepsBut E T w (w.setCell a u) := fun b cs' t fr' hb _ h2 => by
  rw [Below.heap_setCell _ _ _ _ (fun e => ?_)]
  · exact hb
  · subst e; rw [hX] at hb; simp at hb; exact h2 hb.2.1.symm
theorem KeepsBut.owns {E T : TypeId} {w w' : World} (h : KeepsBut E T w w') {base e sz : Nat} {v : Value} {n : Nat} {xs : List Value} (ho : w.ownsRow base e sz v n xs) (h1 : e ≠ E) (h2 : e ≠ T) : w'.ownsRow base e sz v n xs := by
  obtain ⟨hl, ho⟩ := ho
  refine ⟨hl, ?_⟩
  rcases ho with ho | ⟨g, cap, cur, hv, hb, hgr, ho⟩
  · exact .inl ho
  · exact .inr ⟨g, cap, cur, hv, hb, h g cur e (0, 0) hgr h1 h2, ho⟩

theorem owns_base {w : World} {base base' e sz : Nat} {v : Value} {n : Nat} {xs : List Value} (ho : w.ownsRow base e sz v n xs) (hb : base' ≤ base) : w.ownsRow base' e sz v n xs := by
  obtain ⟨hl, ho⟩ := ho
  refine ⟨hl, ?_⟩
  rcases ho with ho | ⟨g, cap, cur, hv, hg, ho⟩
  · exact .inl ho
  · exact .inr ⟨g, cap, cur, hv, by omega, ho⟩
theorem owns_later {w w' : World} {base e sz : Nat} {v : Value} {n : Nat} {xs : List Value} (ho : w.ownsRow base e sz v n xs) (hb : Below w.heap.size w w') : w'.ownsRow base e sz v n xs :=
  (KeepsBut.of_below (E := e + 1) (T := e + 1) hb).owns ho (by omega) (by omega)
theorem Lies.wn {w : World} {b off : Nat} {xs : List Wn} {i : Nat} {x : Wn} (h : ∀ k u, (xs.flatMap Wn.cells)[k]? = some u → w.cell? ⟨b, off + k, none⟩ = some u) (hx : xs[i]? = some x) :
    w.cell? ⟨b, off + i * 3, none⟩ = some (.int .i64 x.at_) ∧ w.cell? ⟨b, off + i * 3 + 1, none⟩ = some (.int .i64 x.len) ∧ w.cell? ⟨b, off + i * 3 + 2, none⟩ = some (.int .i64 x.part) := by
  have f := fun j hj => flat_at Wn.cells 3 (fun _ => rfl) xs i j x hx hj
  have g := fun j hj u hu => by
    have := h (i * 3 + j) u ((f j hj).trans hu)
    rwa [← Nat.add_assoc] at this
  exact ⟨g 0 (by omega) _ rfl, g 1 (by omega) _ rfl, g 2 (by omega) _ rfl⟩
theorem Lies.ch {w : World} {b off : Nat} {xs : List Ch} {i : Nat} {x : Ch} (h : ∀ k u, (xs.flatMap Ch.cells)[k]? = some u → w.cell? ⟨b, off + k, none⟩ = some u) (hx : xs[i]? = some x) :
    w.cell? ⟨b, off + i * 4, none⟩ = some (.bool x.queue) ∧ w.cell? ⟨b, off + i * 4 + 1, none⟩ = some (.int .i64 x.from_) ∧ w.cell? ⟨b, off + i * 4 + 2, none⟩ = some (.int .i64 x.to) ∧ w.cell? ⟨b, off + i * 4 + 3, none⟩ = some (.int .i64 x.size) := by
  have f := fun j hj => flat_at Ch.cells 4 (fun _ => rfl) xs i j x hx hj
  have g := fun j hj u hu => by
    have := h (i * 4 + j) u ((f j hj).trans hu)
    rwa [← Nat.add_assoc] at this
  exact ⟨g 0 (by omega) _ rfl, g 1 (by omega) _ rfl, g 2 (by omega) _ rfl, g 3 (by omega) _ rfl⟩
end Go.Proofs.Ytmkohnpdpcefgaa
namespace Go.Proofs.Ytmkohnpdpcefgaa
open Go.ChangeShapes Go.WideShapes Go.ChangeAt Go.RowKit
set_option linter.unusedVariables false

/-- All stays but block X. -/
structure But (X : Nat) (w w' : World) : Prop where
  os : w'.os = w.os
  tape : w'.tape = w.tape
  output : w'.output = w.output
  size : w.heap.size ≤ w'.heap.size
  block : ∀ k, k < w.heap.size → k ≠ X → w'.heap[k]? = w.heap[k]?
theorem But.refl (X : Nat) (w : World) : But X w w := ⟨rfl, rfl, rfl, Nat.le_refl _, fun _ _ _ => rfl⟩
theorem But.trans {X : Nat} {a b c : World} (h : But X a b) (k : But X b c) : But X a c :=
  ⟨k.os.trans h.os, k.tape.trans h.tape, k.output.trans h.output, Nat.le_trans h.size k.size, fun i hi hx => (k.block i (Nat.lt_of_lt_of_le hi h.size) hx).trans (h.block i hi hx)⟩
theorem But.below {X : Nat} {w w' : World} (h : But X w w') {B : Nat} (hX : B ≤ X) (hB : B ≤ w.heap.size) : Below B w w' :=
  ⟨h.os, h.tape, h.output, h.size, fun k hk => h.block k (by omega) (by omega)⟩
theorem But.of_below {X : Nat} {w w' : World} (h : Below w.heap.size w w') : But X w w' := ⟨h.os, h.tape, h.output, h.size, fun k hk _ => h.block k hk⟩
theorem But.alloc {X : Nat} {a w : World} (h : But X a w) (o : Obj) : But X a (w.alloc o) := h.trans (But.of_below (below1 _ _))
theorem But.drew {X : Nat} {a w : World} (h : But X a w) : But X a w.drew := h.trans (But.of_below (Below.refl _ _).drew)
theorem But.set {X : Nat} {a w : World} (h : But X a w) (j : Nat) (u : Value) : But X a (w.setCell ⟨X, j, none⟩ u) :=
  h.trans ⟨rfl, rfl, rfl, by simp [World.setCell], fun k _ hx => Below.heap_setCell _ _ _ _ hx⟩
theorem But.same {X : Nat} {w w' : World} (h : But X w w') {lo hi : Nat} (hX : X < lo ∨ hi ≤ X) (hh : hi ≤ w.heap.size) : SameIn w w' lo hi := fun b h1 h2 => h.block b (by omega) (by omega)
theorem But.at {X : Nat} {w w' : World} (h : But X w w') {b : Nat} {o : Obj} (hb : w.heap[b]? = some o) (hx : b ≠ X) : w'.heap[b]? = some o :=
  (h.block b (by by_cases g : b < w.heap.size; exact g; rw [Array.getElem?_eq_none (by omega)] at hb; cases hb) hx).trans hb

end Go.Proofs.Ytmkohnpdpcefgaa
namespace Go.Proofs.Ytmkohnpdpcefgaa
theorem Try.infoWn_conf : (Try.prog.info? 66).map (fun i => (i.zero, i.size, i.bytes)) = some (some (.agg #[.int .i64 0, .int .i64 0, .int .i64 0]), 3, 24) := by kernel_rfl
theorem Try.infoWn_parcloseref03 : (Try.prog.info? 74).map (fun i => (i.zero, i.size, i.bytes)) = some (some (.agg #[.int .i64 0, .int .i64 0, .int .i64 0]), 3, 24) := by kernel_rfl
end Go.Proofs.Ytmkohnpdpcefgaa
namespace Go.Proofs.Ytmkohnpdpcefgaa
open Go.ChangeShapes Go.WideShapes Go.ChangeAt Go.RowKit
set_option linter.unusedVariables false


/-- A value of six cells at nought: what a partition's variable holds ahead of all. -/
def noPart : Array Value := #[.slice none 0 0, .slice none 0 0, .slice none 0 0, .int .u8 0, .int .u8 0, .int .u8 0]
/-- The world in the midst: B: how many blocks there were at first; arg: what came in; G: where what is made lies. -/
structure PSt (w : World) (TA TR E1 E2 EI : Nat) (arg : Array Value) (x0 x1 x2 : Int) (dn : Nat) (c3 : List Value) (G : Nat) (da : Option Addr) (dc : Nat) (ta : Option Addr) (tc k1 : Nat) (c1 : List Value) (sa : Option Addr) (sc k2 : Nat) (c2 : List Value) (wr : World) : Prop where
  box : wr.heap[w.heap.size]? = some (.cells arg TA (0, 0))
  res : wr.heap[w.heap.size + 1]? = some (.cells noPart TR (0, 0))
  obj : wr.heap[G]? = some (.cells #[.slice ta k1 tc, .slice sa k2 sc, .slice da dn dc, .int .u8 x0, .int .u8 x1, .int .u8 x2] TR (0, 0))
  hG : w.heap.size + 2 ≤ G
  own1 : wr.ownsRow (w.heap.size + 2) E1 6 (.slice ta k1 tc) k1 c1
  own2 : wr.ownsRow (w.heap.size + 2) E2 3 (.slice sa k2 sc) k2 c2
  own3 : wr.ownsRow (w.heap.size + 2) EI 1 (.slice da dn dc) dn c3
  below : Below w.heap.size w wr

section
variable {w : World} {TA TR E1 E2 EI : Nat} {arg : Array Value} {x0 x1 x2 : Int} {dn : Nat} {c3 : List Value} {G : Nat} {da : Option Addr} {dc : Nat} {ta : Option Addr} {tc k1 : Nat} {c1 : List Value} {sa : Option Addr} {sc k2 : Nat} {c2 : List Value} {wr : World}
theorem PSt.cells (h : PSt w TA TR E1 E2 EI arg x0 x1 x2 dn c3 G da dc ta tc k1 c1 sa sc k2 c2 wr) :
    wr.cell? ⟨G, 0, none⟩ = some (.slice ta k1 tc) ∧ wr.cell? ⟨G, 1, none⟩ = some (.slice sa k2 sc) ∧ wr.cell? ⟨G, 2, none⟩ = some (.slice da dn dc) ∧ wr.cell? ⟨G, 3, none⟩ = some (.int .u8 x0) ∧ wr.cell? ⟨G, 4, none⟩ = some (.int .u8 x1) ∧ wr.cell? ⟨G, 5, none⟩ = some (.int .u8 x2) :=
  ⟨cell_in h.obj rfl, cell_in h.obj rfl, cell_in h.obj rfl, cell_in h.obj rfl, cell_in h.obj rfl, cell_in h.obj rfl⟩
theorem PSt.rest (h : PSt w TA TR E1 E2 EI arg x0 x1 x2 dn c3 G da dc ta tc k1 c1 sa sc k2 c2 wr) :
    wr.cell? ⟨w.heap.size + 1, 0, none⟩ = some (.slice none 0 0) ∧ wr.cell? ⟨w.heap.size + 1, 1, none⟩ = some (.slice none 0 0) ∧ wr.cell? ⟨w.heap.size + 1, 2, none⟩ = some (.slice none 0 0) ∧ wr.cell? ⟨w.heap.size + 1, 3, none⟩ = some (.int .u8 0) ∧ wr.cell? ⟨w.heap.size + 1, 4, none⟩ = some (.int .u8 0) ∧ wr.cell? ⟨w.heap.size + 1, 5, none⟩ = some (.int .u8 0) :=
  ⟨cell_in h.res rfl, cell_in h.res rfl, cell_in h.res rfl, cell_in h.res rfl, cell_in h.res rfl, cell_in h.res rfl⟩
theorem PSt.step1 (h : PSt w TA TR E1 E2 EI arg x0 x1 x2 dn c3 G da dc ta tc k1 c1 sa sc k2 c2 wr) (n1 : TA ≠ E1) (n2 : TR ≠ E1) (n3 : E2 ≠ E1) (n4 : EI ≠ E1) (n5 : TR ≠ E2) (n6 : TR ≠ EI)
    {o : Obj} {w1 : World} {ao : Option Addr} {cap N : Nat} {c1' : List Value} (hown : w1.ownsRow (w.heap.size + 2) E1 6 (.slice ao N cap) N c1') (hg : ((wr.alloc o).drew).grownBy w1 (Value.slice ta k1 tc).ownBlock) :
    PSt w TA TR E1 E2 EI arg x0 x1 x2 dn c3 G da dc ao cap N c1' sa sc k2 c2 (w1.setCell ⟨G, 0, none⟩ (.slice ao N cap)) := by
  have hB : w.heap.size ≤ wr.heap.size := h.below.size
  have o1 : (wr.alloc o).drew.ownsRow (w.heap.size + 2) E1 6 (.slice ta k1 tc) k1 c1 := (h.own1.alloc o).drew
  have up : ∀ {X : Nat} {ob : Obj}, wr.heap[X]? = some ob → (wr.alloc o).drew.heap[X]? = some ob := fun hX => by
    rw [heap_drew]; exact (Below.heap_alloc _ _ _ (lt_of_block hX)).trans hX
  have g1 := grown_keep hg o1 (up h.box) n1
  have g2 := grown_keep hg o1 (up h.res) n2
  have g3 := grown_keep hg o1 (up h.obj) n2
  have hG := h.hG
  refine ⟨(Below.heap_setCell _ _ _ _ (by simp; omega)).trans g1, (Below.heap_setCell _ _ _ _ (by simp; omega)).trans g2, by rw [set_at g3]; rfl, h.hG, ?_, ?_, ?_, ?_⟩
  · exact setCell_owns hown g3 n2 _
  · exact setCell_owns (grown_owns hg o1 ((h.own2.alloc o).drew) n3) g3 n5 _
  · exact setCell_owns (grown_owns hg o1 ((h.own3.alloc o).drew) n4) g3 n6 _
  · refine ((((h.below.alloc hB o).drew).grown hg (Nat.le_trans hB (by simp [World.drew])) ?_).setCell (by simp; omega) _)
    intro k hk
    have := (owns_block o1 k hk).1
    omega
theorem PSt.step2 (h : PSt w TA TR E1 E2 EI arg x0 x1 x2 dn c3 G da dc ta tc k1 c1 sa sc k2 c2 wr) (n1 : TA ≠ E2) (n2 : TR ≠ E2) (n3 : E1 ≠ E2) (n4 : EI ≠ E2) (n5 : TR ≠ E1) (n6 : TR ≠ EI)
    {o : Obj} {w1 : World} {ao : Option Addr} {cap N : Nat} {c2' : List Value} (hown : w1.ownsRow (w.heap.size + 2) E2 3 (.slice ao N cap) N c2') (hg : ((wr.alloc o).drew).grownBy w1 (Value.slice sa k2 sc).ownBlock) :
    PSt w TA TR E1 E2 EI arg x0 x1 x2 dn c3 G da dc ta tc k1 c1 ao cap N c2' (w1.setCell ⟨G, 1, none⟩ (.slice ao N cap)) := by
  have hB : w.heap.size ≤ wr.heap.size := h.below.size
  have o1 : (wr.alloc o).drew.ownsRow (w.heap.size + 2) E2 3 (.slice sa k2 sc) k2 c2 := (h.own2.alloc o).drew
  have up : ∀ {X : Nat} {ob : Obj}, wr.heap[X]? = some ob → (wr.alloc o).drew.heap[X]? = some ob := fun hX => by
    rw [heap_drew]; exact (Below.heap_alloc _ _ _ (lt_of_block hX)).trans hX
  have g1 := grown_keep hg o1 (up h.box) n1
  have g2 := grown_keep hg o1 (up h.res) n2
  have g3 := grown_keep hg o1 (up h.obj) n2
  have hG := h.hG
  refine ⟨(Below.heap_setCell _ _ _ _ (by simp; omega)).trans g1, (Below.heap_setCell _ _ _ _ (by simp; omega)).trans g2, by rw [set_at g3]; rfl, h.hG, ?_, ?_, ?_, ?_⟩
  · exact setCell_owns (grown_owns hg o1 ((h.own1.alloc o).drew) n3) g3 n5 _
  · exact setCell_owns hown g3 n2 _
  · exact setCell_owns (grown_owns hg o1 ((h.own3.alloc o).drew) n4) g3 n6 _
  · refine ((((h.below.alloc hB o).drew).grown hg (Nat.le_trans hB (by simp [World.drew])) ?_).setCell (by simp; omega) _)
    intro k hk
    have := (owns_block o1 k hk).1
    omega
theorem PSt.up (h : PSt w TA TR E1 E2 EI arg x0 x1 x2 dn c3 G da dc ta tc k1 c1 sa sc k2 c2 wr) {o : Obj} {X : Nat} {ob : Obj} (hX : wr.heap[X]? = some ob) : (wr.alloc o).drew.heap[X]? = some ob := by
  rw [heap_drew]; exact (Below.heap_alloc _ _ _ (lt_of_block hX)).trans hX
theorem PSt.after1 (h : PSt w TA TR E1 E2 EI arg x0 x1 x2 dn c3 G da dc ta tc k1 c1 sa sc k2 c2 wr) (n1 : TA ≠ E1) (n2 : TR ≠ E1) {o : Obj} {w1 : World} (hg : ((wr.alloc o).drew).grownBy w1 (Value.slice ta k1 tc).ownBlock) :
    (w1.cell? ⟨G, 0, none⟩ = some (.slice ta k1 tc) ∧ w1.frozen? ⟨G, 0, none⟩ = false) ∧ (∀ j u, arg[j]? = some u → w1.cell? ⟨w.heap.size, j, none⟩ = some u) ∧ ∀ p : Addr, p.block < w.heap.size → w1.cell? p = wr.cell? p := by
  have o1 : (wr.alloc o).drew.ownsRow (w.heap.size + 2) E1 6 (.slice ta k1 tc) k1 c1 := (h.own1.alloc o).drew
  have g1 := grown_keep hg o1 (h.up h.box) n1
  have g3 := grown_keep hg o1 (h.up h.obj) n2
  refine ⟨⟨cell_in g3 rfl, free_in g3 0⟩, fun j u hu => cell_in g1 hu, fun p hp => ?_⟩
  have hb : Below w.heap.size w w1 := ((h.below.alloc h.below.size o).drew).grown hg (Nat.le_trans h.below.size (by simp [World.drew])) fun k hk => by have := (owns_block o1 k hk).1; omega
  exact (hb.cell hp).trans (h.below.cell hp).symm
theorem PSt.after2 (h : PSt w TA TR E1 E2 EI arg x0 x1 x2 dn c3 G da dc ta tc k1 c1 sa sc k2 c2 wr) (n1 : TA ≠ E2) (n2 : TR ≠ E2) {o : Obj} {w1 : World} (hg : ((wr.alloc o).drew).grownBy w1 (Value.slice sa k2 sc).ownBlock) :
    (w1.cell? ⟨G, 1, none⟩ = some (.slice sa k2 sc) ∧ w1.frozen? ⟨G, 1, none⟩ = false) ∧ (∀ j u, arg[j]? = some u → w1.cell? ⟨w.heap.size, j, none⟩ = some u) ∧ ∀ p : Addr, p.block < w.heap.size → w1.cell? p = wr.cell? p := by
  have o1 : (wr.alloc o).drew.ownsRow (w.heap.size + 2) E2 3 (.slice sa k2 sc) k2 c2 := (h.own2.alloc o).drew
  have g1 := grown_keep hg o1 (h.up h.box) n1
  have g3 := grown_keep hg o1 (h.up h.obj) n2
  refine ⟨⟨cell_in g3 rfl, free_in g3 1⟩, fun j u hu => cell_in g1 hu, fun p hp => ?_⟩
  have hb : Below w.heap.size w w1 := ((h.below.alloc h.below.size o).drew).grown hg (Nat.le_trans h.below.size (by simp [World.drew])) fun k hk => by have := (owns_block o1 k hk).1; omega
  exact (hb.cell hp).trans (h.below.cell hp).symm
theorem PSt.make {A cap : Nat} {ar : Array Value} (hfr : Fresh ar cap dn 1 c3) (hbox : wr.heap[w.heap.size]? = some (.cells arg TA (0, 0))) (hres : wr.heap[w.heap.size + 1]? = some (.cells noPart TR (0, 0)))
    (hobj : wr.heap[G]? = some (.cells #[.slice none 0 0, .slice none 0 0, .slice (some ⟨A, 0, none⟩) dn cap, .int .u8 x0, .int .u8 x1, .int .u8 x2] TR (0, 0))) (harr : wr.heap[A]? = some (.cells ar EI (0, 0))) (hG : w.heap.size + 2 ≤ G) (hA : w.heap.size + 2 ≤ A) (hb : Below w.heap.size w wr) :
    PSt w TA TR E1 E2 EI arg x0 x1 x2 dn c3 G (some ⟨A, 0, none⟩) cap none 0 0 [] none 0 0 [] wr :=
  ⟨hbox, hres, hobj, hG, World.ownsRow_nil _ _ _ _, World.ownsRow_nil _ _ _ _, hfr.owns harr hA, hb⟩
end
theorem set6 {w : World} {X : Nat} {T : TypeId} {cs : Array Value} (h : w.heap[X]? = some (.cells cs T (0, 0))) (hs : cs.size = 6) (v0 v1 v2 v3 v4 v5 : Value) :
    ((((((w.setCell ⟨X, 0, none⟩ v0).setCell ⟨X, 1, none⟩ v1).setCell ⟨X, 2, none⟩ v2).setCell ⟨X, 3, none⟩ v3).setCell ⟨X, 4, none⟩ v4).setCell ⟨X, 5, none⟩ v5).heap[X]? = some (.cells #[v0, v1, v2, v3, v4, v5] T (0, 0)) := by
  have h0 := set_at (j := 0) (u := v0) h
  have h1 := set_at (j := 1) (u := v1) h0
  have h2 := set_at (j := 2) (u := v2) h1
  have h3 := set_at (j := 3) (u := v3) h2
  have h4 := set_at (j := 4) (u := v4) h3
  have h5 := set_at (j := 5) (u := v5) h4
  refine h5.trans ?_
  clear h0 h1 h2 h3 h4 h5 h
  have e : ((((((cs.setIfInBounds 0 v0).setIfInBounds 1 v1).setIfInBounds 2 v2).setIfInBounds 3 v3).setIfInBounds 4 v4).setIfInBounds 5 v5) = #[v0, v1, v2, v3, v4, v5] := by
    obtain ⟨l⟩ := cs
    match l, hs with
    | [_, _, _, _, _, _], _ => simp
  rw [e]
theorem owns6 {w : World} {X : Nat} {T : TypeId} {cs : Array Value} (h : w.heap[X]? = some (.cells cs T (0, 0))) {base e sz : Nat} {v : Value} {n : Nat} {xs : List Value} (ho : w.ownsRow base e sz v n xs) (hT : T ≠ e) (v0 v1 v2 v3 v4 v5 : Value) :
    ((((((w.setCell ⟨X, 0, none⟩ v0).setCell ⟨X, 1, none⟩ v1).setCell ⟨X, 2, none⟩ v2).setCell ⟨X, 3, none⟩ v3).setCell ⟨X, 4, none⟩ v4).setCell ⟨X, 5, none⟩ v5).ownsRow base e sz v n xs :=
  by
  have h0 := set_at (j := 0) (u := v0) h
  have h1 := set_at (j := 1) (u := v1) h0
  have h2 := set_at (j := 2) (u := v2) h1
  have h3 := set_at (j := 3) (u := v3) h2
  have h4 := set_at (j := 4) (u := v4) h3
  have o0 := setCell_owns (a := ⟨X, 0, none⟩) ho h hT v0
  have o1 := setCell_owns (a := ⟨X, 1, none⟩) o0 h0 hT v1
  have o2 := setCell_owns (a := ⟨X, 2, none⟩) o1 h1 hT v2
  have o3 := setCell_owns (a := ⟨X, 3, none⟩) o2 h2 hT v3
  have o4 := setCell_owns (a := ⟨X, 4, none⟩) o3 h3 hT v4
  exact setCell_owns (a := ⟨X, 5, none⟩) o4 h4 hT v5
theorem below6 {B : Nat} {w0 w : World} (h : Below B w0 w) {X : Nat} (hX : B ≤ X) (v0 v1 v2 v3 v4 v5 : Value) :
    Below B w0 ((((((w.setCell ⟨X, 0, none⟩ v0).setCell ⟨X, 1, none⟩ v1).setCell ⟨X, 2, none⟩ v2).setCell ⟨X, 3, none⟩ v3).setCell ⟨X, 4, none⟩ v4).setCell ⟨X, 5, none⟩ v5) :=
  (((((h.setCell (p := ⟨X, 0, none⟩) hX _).setCell (p := ⟨X, 1, none⟩) hX _).setCell (p := ⟨X, 2, none⟩) hX _).setCell (p := ⟨X, 3, none⟩) hX _).setCell (p := ⟨X, 4, none⟩) hX _).setCell (p := ⟨X, 5, none⟩) hX _
theorem Try.infoTk_conf : (Try.prog.info? 96).map (fun i => (i.zero, i.size, i.bytes)) = some (some (.agg #[.bool false, .int .i64 0, .int .i64 0, .int .i64 0, .int .i64 0, .int .i64 0]), 6, 48) := by kernel_rfl
theorem Try.infoSv_conf : (Try.prog.info? 99).map (fun i => (i.zero, i.size, i.bytes)) = some (some (.agg #[.bool false, .int .i64 0, .int .i64 0]), 3, 24) := by kernel_rfl
theorem Try.sizePart_conf : (Try.prog.info? 70).map (·.size) = some 6 := by kernel_rfl
theorem Try.infoTk_parcloseref03 : (Try.prog.info? 97).map (fun i => (i.zero, i.size, i.bytes)) = some (some (.agg #[.bool false, .int .i64 0, .int .i64 0, .int .i64 0, .int .i64 0, .int .i64 0]), 6, 48) := by kernel_rfl
theorem Try.infoSv_parcloseref03 : (Try.prog.info? 100).map (fun i => (i.zero, i.size, i.bytes)) = some (some (.agg #[.bool false, .int .i64 0, .int .i64 0]), 3, 24) := by kernel_rfl
theorem Try.sizePart_parcloseref03 : (Try.prog.info? 46).map (·.size) = some 6 := by kernel_rfl
end Go.Proofs.Ytmkohnpdpcefgaa
namespace Go.Proofs.Ytmkohnpdpcefgaa
open Go.ChangeShapes Go.WideShapes Go.ChangeAt Go.RowKit
set_option linter.unusedVariables false

/-- A partition's three slices, written out. -/
theorem PtLies.slices {w : World} {lo hi : Nat} {v : Pv} {p : Pt} (h : PtLies w lo hi v p) : ∃ (ta sa da : Option Addr) (tc sc dc : Nat), v.ts = .slice ta p.ts.length tc ∧ v.ss = .slice sa p.ss.length sc ∧ v.ds = .slice da p.ds.length dc := by
  obtain ⟨⟨ta, tc, h1, _⟩, ⟨sa, sc, h2, _⟩, ⟨da, dc, h3, _⟩, _⟩ := h
  exact ⟨ta, sa, da, tc, sc, dc, h1, h2, h3⟩

/-- A partition in rows of its own. -/
structure PtOwns (w : World) (base E1 E2 EI : Nat) (v : Pv) (p : Pt) : Prop where
  o1 : w.ownsRow base E1 6 v.ts p.ts.length (p.ts.flatMap Tk.cells)
  o2 : w.ownsRow base E2 3 v.ss p.ss.length (p.ss.flatMap Sv.cells)
  o3 : w.ownsRow base EI 1 v.ds p.ds.length (p.ds.flatMap intCells)
  a0 : v.a0 = p.a0
  a1 : v.a1 = p.a1
  a2 : v.a2 = p.a2
theorem PtOwns.keep {E T : TypeId} {w w' : World} (h : KeepsBut E T w w') {base E1 E2 EI : Nat} {v : Pv} {p : Pt} (ho : PtOwns w base E1 E2 EI v p) (h1 : E1 ≠ E ∧ E1 ≠ T) (h2 : E2 ≠ E ∧ E2 ≠ T) (h3 : EI ≠ E ∧ EI ≠ T) : PtOwns w' base E1 E2 EI v p :=
  ⟨h.owns ho.o1 h1.1 h1.2, h.owns ho.o2 h2.1 h2.2, h.owns ho.o3 h3.1 h3.2, ho.a0, ho.a1, ho.a2⟩
theorem PtOwns.lies {w : World} {base E1 E2 EI : Nat} {v : Pv} {p : Pt} (h : PtOwns w base E1 E2 EI v p) : PtLies w base w.heap.size v p := ⟨Lies.of_owns h.o1, Lies.of_owns h.o2, Lies.of_owns h.o3, h.a0, h.a1, h.a2⟩
inductive AllOwn (w : World) (base E1 E2 EI : Nat) : List Pv → List Pt → Prop
  | nil : AllOwn w base E1 E2 EI [] []
  | cons {v p vs ps} : PtOwns w base E1 E2 EI v p → AllOwn w base E1 E2 EI vs ps → AllOwn w base E1 E2 EI (v :: vs) (p :: ps)
theorem AllOwn.keep {E T : TypeId} {w w' : World} (h : KeepsBut E T w w') {base E1 E2 EI : Nat} {vs : List Pv} {ps : List Pt} (ho : AllOwn w base E1 E2 EI vs ps) (h1 : E1 ≠ E ∧ E1 ≠ T) (h2 : E2 ≠ E ∧ E2 ≠ T) (h3 : EI ≠ E ∧ EI ≠ T) : AllOwn w' base E1 E2 EI vs ps := by
  induction ho with
  | nil => exact .nil
  | cons hp _ ih => exact .cons (hp.keep h h1 h2 h3) ih
theorem AllOwn.lies {w : World} {base E1 E2 EI : Nat} {vs : List Pv} {ps : List Pt} (ho : AllOwn w base E1 E2 EI vs ps) : AllLie w base w.heap.size vs ps := by
  induction ho with
  | nil => exact .nil
  | cons hp _ ih => exact .cons hp.lies ih
theorem AllOwn.snoc {w : World} {base E1 E2 EI : Nat} {vs : List Pv} {ps : List Pt} {v : Pv} {p : Pt} (h : AllOwn w base E1 E2 EI vs ps) (k : PtOwns w base E1 E2 EI v p) : AllOwn w base E1 E2 EI (vs ++ [v]) (ps ++ [p]) := by
  induction h with
  | nil => exact .cons k .nil
  | cons h _ ih => exact .cons h ih
theorem AllOwn.length {w : World} {base E1 E2 EI : Nat} {vs : List Pv} {ps : List Pt} (h : AllOwn w base E1 E2 EI vs ps) : vs.length = ps.length := by
  induction h with
  | nil => rfl
  | cons _ _ ih => simp [ih]

theorem pv_one (ta sa da : Option Addr) (tn tc sn sc dn dc : Nat) (a0 a1 a2 : Int) : ∀ u ∈ Pv.cells ⟨.slice ta tn tc, .slice sa sn sc, .slice da dn dc, a0, a1, a2⟩, u.oneCell' = true := by
  intro u hu; simp [Pv.cells] at hu; rcases hu with h | h | h | h | h | h <;> subst h <;> rfl
theorem Lies.pv {w : World} {b off : Nat} {xs : List Pv} {i : Nat} {x : Pv} (h : ∀ k u, (xs.flatMap Pv.cells)[k]? = some u → w.cell? ⟨b, off + k, none⟩ = some u) (hx : xs[i]? = some x) :
    w.cell? ⟨b, off + i * 6, none⟩ = some x.ts ∧ w.cell? ⟨b, off + i * 6 + 1, none⟩ = some x.ss ∧ w.cell? ⟨b, off + i * 6 + 2, none⟩ = some x.ds ∧ w.cell? ⟨b, off + i * 6 + 3, none⟩ = some (.int .u8 x.a0) ∧ w.cell? ⟨b, off + i * 6 + 4, none⟩ = some (.int .u8 x.a1) ∧ w.cell? ⟨b, off + i * 6 + 5, none⟩ = some (.int .u8 x.a2) := by
  have f := fun j hj => flat_at Pv.cells 6 (fun _ => rfl) xs i j x hx hj
  have g := fun j hj u hu => by
    have := h (i * 6 + j) u ((f j hj).trans hu)
    rwa [← Nat.add_assoc] at this
  exact ⟨g 0 (by omega) _ rfl, g 1 (by omega) _ rfl, g 2 (by omega) _ rfl, g 3 (by omega) _ rfl, g 4 (by omega) _ rfl, g 5 (by omega) _ rfl⟩

def noConf : Array Value := #[.int .i64 0, .int .i64 0, .slice none 0 0, .slice none 0 0, .slice none 0 0]
/-- The world in the midst of a system's copying. -/
structure CSt (w : World) (TA TR EW EP EC E1 E2 EI : Nat) (arg : Array Value) (fr mg : Int) (wa : Option Addr) (wc k1 : Nat) (c1 : List Value) (pa : Option Addr) (pc k2 : Nat) (vs : List Pv) (ps : List Pt) (ca : Option Addr) (cc k3 : Nat) (c3 : List Value) (wr : World) : Prop where
  box : wr.heap[w.heap.size]? = some (.cells arg TA (0, 0))
  res : wr.heap[w.heap.size + 1]? = some (.cells noConf TR (0, 0))
  obj : wr.heap[w.heap.size + 2]? = some (.cells #[.int .i64 fr, .int .i64 mg, .slice wa k1 wc, .slice pa k2 pc, .slice ca k3 cc] TR (0, 0))
  own1 : wr.ownsRow (w.heap.size + 2) EW 3 (.slice wa k1 wc) k1 c1
  own2 : wr.ownsRow (w.heap.size + 2) EP 6 (.slice pa k2 pc) k2 (vs.flatMap Pv.cells)
  all : AllOwn wr (w.heap.size + 2) E1 E2 EI vs ps
  own3 : wr.ownsRow (w.heap.size + 2) EC 4 (.slice ca k3 cc) k3 c3
  below : Below w.heap.size w wr
section
variable {w : World} {TA TR EW EP EC E1 E2 EI : Nat} {arg : Array Value} {fr mg : Int} {wa : Option Addr} {wc k1 : Nat} {c1 : List Value} {pa : Option Addr} {pc k2 : Nat} {vs : List Pv} {ps : List Pt} {ca : Option Addr} {cc k3 : Nat} {c3 : List Value} {wr : World}
theorem CSt.cells (h : CSt w TA TR EW EP EC E1 E2 EI arg fr mg wa wc k1 c1 pa pc k2 vs ps ca cc k3 c3 wr) :
    wr.cell? ⟨w.heap.size + 2, 0, none⟩ = some (.int .i64 fr) ∧ wr.cell? ⟨w.heap.size + 2, 1, none⟩ = some (.int .i64 mg) ∧ wr.cell? ⟨w.heap.size + 2, 2, none⟩ = some (.slice wa k1 wc) ∧ wr.cell? ⟨w.heap.size + 2, 3, none⟩ = some (.slice pa k2 pc) ∧ wr.cell? ⟨w.heap.size + 2, 4, none⟩ = some (.slice ca k3 cc) :=
  ⟨cell_in h.obj rfl, cell_in h.obj rfl, cell_in h.obj rfl, cell_in h.obj rfl, cell_in h.obj rfl⟩
theorem CSt.rest (h : CSt w TA TR EW EP EC E1 E2 EI arg fr mg wa wc k1 c1 pa pc k2 vs ps ca cc k3 c3 wr) :
    wr.cell? ⟨w.heap.size + 1, 0, none⟩ = some (.int .i64 0) ∧ wr.cell? ⟨w.heap.size + 1, 1, none⟩ = some (.int .i64 0) ∧ wr.cell? ⟨w.heap.size + 1, 2, none⟩ = some (.slice none 0 0) ∧ wr.cell? ⟨w.heap.size + 1, 3, none⟩ = some (.slice none 0 0) ∧ wr.cell? ⟨w.heap.size + 1, 4, none⟩ = some (.slice none 0 0) :=
  ⟨cell_in h.res rfl, cell_in h.res rfl, cell_in h.res rfl, cell_in h.res rfl, cell_in h.res rfl⟩
/-- Behind memory that is made later (a call, a new block) it holds as it did. -/
theorem CSt.later (h : CSt w TA TR EW EP EC E1 E2 EI arg fr mg wa wc k1 c1 pa pc k2 vs ps ca cc k3 c3 wr) {w1 : World} (hb : Below wr.heap.size wr w1) : CSt w TA TR EW EP EC E1 E2 EI arg fr mg wa wc k1 c1 pa pc k2 vs ps ca cc k3 c3 w1 := by
  have kp := fun (e : Nat) => KeepsBut.of_below (E := e + 1) (T := e + 1) hb
  have up : ∀ {X : Nat} {ob : Obj}, wr.heap[X]? = some ob → w1.heap[X]? = some ob := fun hX => (hb.block _ (lt_of_block hX)).trans hX
  have ka : KeepsBut (E1 + E2 + EI + 1) (E1 + E2 + EI + 1) wr w1 := KeepsBut.of_below hb
  exact ⟨up h.box, up h.res, up h.obj, owns_later h.own1 hb, owns_later h.own2 hb, h.all.keep ka ⟨by omega, by omega⟩ ⟨by omega, by omega⟩ ⟨by omega, by omega⟩, owns_later h.own3 hb, h.below.trans (hb.mono h.below.size)⟩
theorem CSt.drew (h : CSt w TA TR EW EP EC E1 E2 EI arg fr mg wa wc k1 c1 pa pc k2 vs ps ca cc k3 c3 wr) : CSt w TA TR EW EP EC E1 E2 EI arg fr mg wa wc k1 c1 pa pc k2 vs ps ca cc k3 c3 wr.drew := h.later (Below.refl _ _).drew
theorem CSt.alloc (h : CSt w TA TR EW EP EC E1 E2 EI arg fr mg wa wc k1 c1 pa pc k2 vs ps ca cc k3 c3 wr) (o : Obj) : CSt w TA TR EW EP EC E1 E2 EI arg fr mg wa wc k1 c1 pa pc k2 vs ps ca cc k3 c3 (wr.alloc o) := h.later (below1 _ _)
/-- What an append to a row of type E leaves of the variable, of what came in. -/
theorem CSt.after (h : CSt w TA TR EW EP EC E1 E2 EI arg fr mg wa wc k1 c1 pa pc k2 vs ps ca cc k3 c3 wr) {E sz n : Nat} {v : Value} {xs : List Value} (hown : wr.ownsRow (w.heap.size + 2) E sz v n xs) (hA : TA ≠ E) (hR : TR ≠ E) {w1 : World} (hg : wr.grownBy w1 v.ownBlock) :
    (∀ j u, (#[.int .i64 fr, .int .i64 mg, .slice wa k1 wc, .slice pa k2 pc, .slice ca k3 cc] : Array Value)[j]? = some u → w1.cell? ⟨w.heap.size + 2, j, none⟩ = some u) ∧ (∀ j, w1.frozen? ⟨w.heap.size + 2, j, none⟩ = false) ∧ Below w.heap.size w w1 := by
  have g3 := grown_keep hg hown h.obj hR
  exact ⟨fun j u hu => cell_in g3 hu, fun j => free_in g3 j, h.below.grown hg h.below.size fun k hk => by have := (owns_block hown k hk).1; omega⟩
theorem CSt.stepW (h : CSt w TA TR EW EP EC E1 E2 EI arg fr mg wa wc k1 c1 pa pc k2 vs ps ca cc k3 c3 wr) (n0 : TA ≠ EW) (n1 : TR ≠ EW) (n2 : EP ≠ EW ∧ EP ≠ TR) (n3 : E1 ≠ EW ∧ E1 ≠ TR) (n4 : E2 ≠ EW ∧ E2 ≠ TR) (n5 : EI ≠ EW ∧ EI ≠ TR) (n6 : EC ≠ EW ∧ EC ≠ TR)
    {w1 : World} {ao : Option Addr} {cap N : Nat} {c1' : List Value} (hown : w1.ownsRow (w.heap.size + 2) EW 3 (.slice ao N cap) N c1') (hg : wr.grownBy w1 (Value.slice wa k1 wc).ownBlock) :
    CSt w TA TR EW EP EC E1 E2 EI arg fr mg ao cap N c1' pa pc k2 vs ps ca cc k3 c3 (w1.setCell ⟨w.heap.size + 2, 2, none⟩ (.slice ao N cap)) := by
  have g1 := grown_keep hg h.own1 h.box n0
  have g2 := grown_keep hg h.own1 h.res n1
  have g3 := grown_keep hg h.own1 h.obj n1
  have kp : KeepsBut EW TR wr (w1.setCell ⟨w.heap.size + 2, 2, none⟩ (.slice ao N cap)) := (KeepsBut.of_grown hg h.own1).trans (KeepsBut.set g3 _)
  refine ⟨(Below.heap_setCell _ _ _ _ (by simp)).trans g1, (Below.heap_setCell _ _ _ _ (by simp)).trans g2, by rw [set_at g3]; rfl, setCell_owns hown g3 n1 _, kp.owns h.own2 n2.1 n2.2, h.all.keep kp n3 n4 n5, kp.owns h.own3 n6.1 n6.2, ?_⟩
  exact (h.below.grown hg h.below.size fun k hk => by have := (owns_block h.own1 k hk).1; omega).setCell (by simp) _
theorem CSt.stepC (h : CSt w TA TR EW EP EC E1 E2 EI arg fr mg wa wc k1 c1 pa pc k2 vs ps ca cc k3 c3 wr) (n0 : TA ≠ EC) (n1 : TR ≠ EC) (n2 : EP ≠ EC ∧ EP ≠ TR) (n3 : E1 ≠ EC ∧ E1 ≠ TR) (n4 : E2 ≠ EC ∧ E2 ≠ TR) (n5 : EI ≠ EC ∧ EI ≠ TR) (n6 : EW ≠ EC ∧ EW ≠ TR)
    {w1 : World} {ao : Option Addr} {cap N : Nat} {c3' : List Value} (hown : w1.ownsRow (w.heap.size + 2) EC 4 (.slice ao N cap) N c3') (hg : wr.grownBy w1 (Value.slice ca k3 cc).ownBlock) :
    CSt w TA TR EW EP EC E1 E2 EI arg fr mg wa wc k1 c1 pa pc k2 vs ps ao cap N c3' (w1.setCell ⟨w.heap.size + 2, 4, none⟩ (.slice ao N cap)) := by
  have g1 := grown_keep hg h.own3 h.box n0
  have g2 := grown_keep hg h.own3 h.res n1
  have g3 := grown_keep hg h.own3 h.obj n1
  have kp : KeepsBut EC TR wr (w1.setCell ⟨w.heap.size + 2, 4, none⟩ (.slice ao N cap)) := (KeepsBut.of_grown hg h.own3).trans (KeepsBut.set g3 _)
  refine ⟨(Below.heap_setCell _ _ _ _ (by simp)).trans g1, (Below.heap_setCell _ _ _ _ (by simp)).trans g2, by rw [set_at g3]; rfl, kp.owns h.own1 n6.1 n6.2, kp.owns h.own2 n2.1 n2.2, h.all.keep kp n3 n4 n5, setCell_owns hown g3 n1 _, ?_⟩
  exact (h.below.grown hg h.below.size fun k hk => by have := (owns_block h.own3 k hk).1; omega).setCell (by simp) _
theorem CSt.stepP (h : CSt w TA TR EW EP EC E1 E2 EI arg fr mg wa wc k1 c1 pa pc k2 vs ps ca cc k3 c3 wr) (n0 : TA ≠ EP) (n1 : TR ≠ EP) (n2 : EW ≠ EP ∧ EW ≠ TR) (n3 : E1 ≠ EP ∧ E1 ≠ TR) (n4 : E2 ≠ EP ∧ E2 ≠ TR) (n5 : EI ≠ EP ∧ EI ≠ TR) (n6 : EC ≠ EP ∧ EC ≠ TR)
    {v : Pv} {p : Pt} (hp : PtOwns wr (w.heap.size + 2) E1 E2 EI v p) {w1 : World} {ao : Option Addr} {cap N : Nat} (hown : w1.ownsRow (w.heap.size + 2) EP 6 (.slice ao N cap) N (vs.flatMap Pv.cells ++ v.cells)) (hg : wr.grownBy w1 (Value.slice pa k2 pc).ownBlock) :
    CSt w TA TR EW EP EC E1 E2 EI arg fr mg wa wc k1 c1 ao cap N (vs ++ [v]) (ps ++ [p]) ca cc k3 c3 (w1.setCell ⟨w.heap.size + 2, 3, none⟩ (.slice ao N cap)) := by
  have g1 := grown_keep hg h.own2 h.box n0
  have g2 := grown_keep hg h.own2 h.res n1
  have g3 := grown_keep hg h.own2 h.obj n1
  have kp : KeepsBut EP TR wr (w1.setCell ⟨w.heap.size + 2, 3, none⟩ (.slice ao N cap)) := (KeepsBut.of_grown hg h.own2).trans (KeepsBut.set g3 _)
  have hfl : (vs ++ [v]).flatMap Pv.cells = vs.flatMap Pv.cells ++ v.cells := by simp
  refine ⟨(Below.heap_setCell _ _ _ _ (by simp)).trans g1, (Below.heap_setCell _ _ _ _ (by simp)).trans g2, by rw [set_at g3]; rfl, kp.owns h.own1 n2.1 n2.2, ?_, (h.all.snoc hp).keep kp n3 n4 n5, kp.owns h.own3 n6.1 n6.2, ?_⟩
  · rw [hfl]; exact setCell_owns hown g3 n1 _
  · exact (h.below.grown hg h.below.size fun k hk => by have := (owns_block h.own2 k hk).1; omega).setCell (by simp) _
end
theorem set5 {w : World} {X : Nat} {T : TypeId} {cs : Array Value} (h : w.heap[X]? = some (.cells cs T (0, 0))) (hs : cs.size = 5) (v0 v1 v2 v3 v4 : Value) :
    (((((w.setCell ⟨X, 0, none⟩ v0).setCell ⟨X, 1, none⟩ v1).setCell ⟨X, 2, none⟩ v2).setCell ⟨X, 3, none⟩ v3).setCell ⟨X, 4, none⟩ v4).heap[X]? = some (.cells #[v0, v1, v2, v3, v4] T (0, 0)) := by
  have h0 := set_at (j := 0) (u := v0) h
  have h1 := set_at (j := 1) (u := v1) h0
  have h2 := set_at (j := 2) (u := v2) h1
  have h3 := set_at (j := 3) (u := v3) h2
  have h4 := set_at (j := 4) (u := v4) h3
  refine h4.trans ?_
  clear h0 h1 h2 h3 h4 h
  have e : (((((cs.setIfInBounds 0 v0).setIfInBounds 1 v1).setIfInBounds 2 v2).setIfInBounds 3 v3).setIfInBounds 4 v4) = #[v0, v1, v2, v3, v4] := by
    obtain ⟨l⟩ := cs
    match l, hs with
    | [_, _, _, _, _], _ => simp
  rw [e]
theorem keeps5 {w : World} {X : Nat} {T : TypeId} {cs : Array Value} (h : w.heap[X]? = some (.cells cs T (0, 0))) (v0 v1 v2 v3 v4 : Value) :
    KeepsBut T T w (((((w.setCell ⟨X, 0, none⟩ v0).setCell ⟨X, 1, none⟩ v1).setCell ⟨X, 2, none⟩ v2).setCell ⟨X, 3, none⟩ v3).setCell ⟨X, 4, none⟩ v4) := by
  have h0 := set_at (j := 0) (u := v0) h
  have h1 := set_at (j := 1) (u := v1) h0
  have h2 := set_at (j := 2) (u := v2) h1
  have h3 := set_at (j := 3) (u := v3) h2
  have k0 : KeepsBut T T w _ := KeepsBut.set (a := ⟨X, 0, none⟩) h v0
  have k1 : KeepsBut T T _ _ := KeepsBut.set (a := ⟨X, 1, none⟩) h0 v1
  have k2 : KeepsBut T T _ _ := KeepsBut.set (a := ⟨X, 2, none⟩) h1 v2
  have k3 : KeepsBut T T _ _ := KeepsBut.set (a := ⟨X, 3, none⟩) h2 v3
  have k4 : KeepsBut T T _ _ := KeepsBut.set (a := ⟨X, 4, none⟩) h3 v4
  exact (((k0.trans k1).trans k2).trans k3).trans k4
theorem below5 {B : Nat} {w0 w : World} (h : Below B w0 w) {X : Nat} (hX : B ≤ X) (v0 v1 v2 v3 v4 : Value) :
    Below B w0 (((((w.setCell ⟨X, 0, none⟩ v0).setCell ⟨X, 1, none⟩ v1).setCell ⟨X, 2, none⟩ v2).setCell ⟨X, 3, none⟩ v3).setCell ⟨X, 4, none⟩ v4) :=
  ((((h.setCell (p := ⟨X, 0, none⟩) hX _).setCell (p := ⟨X, 1, none⟩) hX _).setCell (p := ⟨X, 2, none⟩) hX _).setCell (p := ⟨X, 3, none⟩) hX _).setCell (p := ⟨X, 4, none⟩) hX _
theorem Try.infoCh_conf : (Try.prog.info? 77).map (fun i => (i.zero, i.size, i.bytes)) = some (some (.agg #[.bool false, .int .i64 0, .int .i64 0, .int .i64 0]), 4, 32) := by kernel_rfl
theorem Try.infoPt_conf : (Try.prog.info? 70).map (fun i => (i.zero, i.size, i.bytes)) = some (some (.agg #[.slice none 0 0, .slice none 0 0, .slice none 0 0, .int .u8 0, .int .u8 0, .int .u8 0]), 6, 80) := by kernel_rfl
theorem Try.sizeConf_conf : (Try.prog.info? 36).map (·.size) = some 5 := by kernel_rfl
theorem Try.infoCh_parcloseref03 : (Try.prog.info? 78).map (fun i => (i.zero, i.size, i.bytes)) = some (some (.agg #[.bool false, .int .i64 0, .int .i64 0, .int .i64 0]), 4, 32) := by kernel_rfl
theorem Try.infoPt_parcloseref03 : (Try.prog.info? 46).map (fun i => (i.zero, i.size, i.bytes)) = some (some (.agg #[.slice none 0 0, .slice none 0 0, .slice none 0 0, .int .u8 0, .int .u8 0, .int .u8 0]), 6, 80) := by kernel_rfl
theorem Try.sizeConf_parcloseref03 : (Try.prog.info? 26).map (·.size) = some 5 := by kernel_rfl
def okTk (k : Tk) : Bool := decide (1 ≤ k.lo ∧ k.lo ≤ k.v ∧ k.v ≤ k.d ∧ k.d ≤ k.t ∧ k.t ≤ 1000 ∧ k.lo ≤ k.top ∧ k.top ≤ k.d ∧ (k.hi = true ∨ (k.v = k.d ∧ k.top = k.lo)))
def okSv (k : Sv) : Bool := decide (1 ≤ k.c ∧ k.c ≤ k.t ∧ k.t ≤ 1000)
def okActs (x0 x1 x2 : Int) : Bool := decide (x0 ≤ 2 ∧ x1 ≤ 2 ∧ x2 ≤ 2)
def wrongOf (ts : List Tk) (ss : List Sv) (x0 x1 x2 : Int) : Int := if 6 < ts.length then 22 else if ts.all okTk = false then 22 else if 3 < ss.length then 23 else if ss.all okSv = false then 23 else if okActs x0 x1 x2 = false then 26 else 0
def hasB (pn : Nat) (p : Int) : Bool := decide (0 ≤ p ∧ p < (pn : Int))
def namesB (pn : Nat) (p : Int) (l : List Int) : Bool := decide ((p :: l).Nodup ∧ ∀ q ∈ p :: l, 0 ≤ q ∧ q < (pn : Int))
def OkTo (pn : Nat) (p : Int) (l : List Int) (k : Nat) : Prop := (p :: l.take k).Nodup ∧ ∀ q ∈ p :: l.take k, 0 ≤ q ∧ q < (pn : Int)
theorem hasB_true {pn : Nat} {p : Int} (h : hasB pn p = true) : 0 ≤ p ∧ p < (pn : Int) := of_decide_eq_true h
theorem hasB_false {pn : Nat} {p : Int} (h : hasB pn p = false) : ¬ (0 ≤ p ∧ p < (pn : Int)) := of_decide_eq_false h
theorem okTo_zero {pn : Nat} {p : Int} {l : List Int} (h : hasB pn p = true) : OkTo pn p l 0 := by
  have := hasB_true h
  exact ⟨by simp, fun q hq => by simp at hq; subst hq; exact this⟩
theorem okTo_next {pn : Nat} {p : Int} {l : List Int} {k : Nat} {q : Int} (h : OkTo pn p l k) (hx : l[k]? = some q) (hq : hasB pn q = true) (hn : q ∉ p :: l.take k) : OkTo pn p l (k + 1) := by
  have ht : p :: l.take (k + 1) = (p :: l.take k) ++ [q] := by rw [List.take_add_one, hx]; rfl
  unfold OkTo
  rw [ht]
  refine ⟨List.nodup_append.2 ⟨h.1, by simp, fun a ha b hb => by simp at hb; subst hb; intro e; subst e; exact hn ha⟩, fun y hy => ?_⟩
  rcases List.mem_append.1 hy with hy | hy
  · exact h.2 y hy
  · simp at hy; subst hy; exact hasB_true hq
theorem namesB_end {pn : Nat} {p : Int} {l : List Int} {k : Nat} (h : OkTo pn p l k) (hk : l.length ≤ k) : namesB pn p l = true := by
  unfold OkTo at h
  rw [List.take_of_length_le hk] at h
  exact decide_eq_true h
theorem namesB_out {pn : Nat} {p : Int} {l : List Int} {k : Nat} {q : Int} (hx : l[k]? = some q) (hq : hasB pn q = false) : namesB pn p l = false :=
  decide_eq_false fun h => hasB_false hq (h.2 q (List.mem_cons_of_mem _ (List.mem_of_getElem? hx)))
theorem namesB_twice {pn : Nat} {p : Int} {l : List Int} {k : Nat} {q : Int} (hx : l[k]? = some q) (hq : q ∈ p :: l.take k) : namesB pn p l = false :=
  decide_eq_false fun h => by
    have hl : p :: l = (p :: l.take k) ++ (q :: l.drop (k + 1)) := by
      have hk := (List.getElem?_eq_some_iff.1 hx).1
      have he := (List.getElem?_eq_some_iff.1 hx).2
      rw [List.cons_append, ← he, ← List.drop_eq_getElem_cons hk, List.take_append_drop]
    have h1 := h.1
    rw [hl] at h1
    exact (List.nodup_append.1 h1).2.2 q hq q (by simp) rfl
theorem namesB_none {pn : Nat} {p : Int} {l : List Int} (h : hasB pn p = false) : namesB pn p l = false :=
  decide_eq_false fun g => hasB_false h (g.2 p (by simp))
theorem pig : ∀ (n : Nat) (l : List Int), l.Nodup → (∀ x ∈ l, 0 ≤ x ∧ x < (n : Int)) → l.length ≤ n
  | 0, l, _, h => by
    cases l with
    | nil => simp
    | cons x _ => have := h x (by simp); omega
  | n + 1, l, hn, h => by
    have h1 := pig n (l.erase (n : Int)) (hn.erase _) fun x hx => by
      have h2 := h x (List.mem_of_mem_erase hx)
      have h3 : x ≠ (n : Int) := fun e => by subst e; exact hn.not_mem_erase hx
      omega
    rw [List.length_erase] at h1
    split at h1 <;> omega
theorem namesB_long {pn : Nat} {p : Int} {l : List Int} (h : pn ≤ l.length) : namesB pn p l = false :=
  decide_eq_false fun g => by have := pig pn (p :: l) g.1 g.2; simp at this; omega

def inB (n a b : Int) : Bool := decide (a ≤ n ∧ n ≤ b)
def mostV (q : Bool) : Int := if q then 16 else 1000
end Go.Proofs.Ytmkohnpdpcefgaa
