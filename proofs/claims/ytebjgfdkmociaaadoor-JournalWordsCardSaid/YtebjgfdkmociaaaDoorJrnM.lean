/- Entries of four ints; a log's plain part; both logs in memory. -/
import Derived.Test.YtebjgfdkmociaaaDoorTwo
import Derived.Test.YtebjgfdkmociaaaDoorPlain
import Derived.Test.YtebjgfdkmociaaaDoorRead
namespace Go.Proofs.YtebjgfdkmociaaaDoor
open Go.ChangeShapes Go.WideShapes Go.ChangeAt Go.RowKit
set_option linter.unusedVariables false

structure Ent where
  t : Int
  k : Int
  a : Int
  b : Int
def Ent.cells (x : Ent) : List Value := [.int .i64 x.t, .int .i64 x.k, .int .i64 x.a, .int .i64 x.b]
def Ent.In (x : Ent) : Prop := I64 x.t ∧ I64 x.k ∧ I64 x.a ∧ I64 x.b
def enZ : Ent := ⟨0, 0, 0, 0⟩
def eqEn (x y : Ent) : Bool := x.t == y.t && (x.k == y.k && (x.a == y.a && x.b == y.b))
theorem eqEn_iff (x y : Ent) : eqEn x y = true ↔ x = y := by
  obtain ⟨a, b, c, d⟩ := x
  obtain ⟨a', b', c', d'⟩ := y
  simp [eqEn]
instance : DecidableEq Ent := fun x y => decidable_of_iff (eqEn x y = true) (eqEn_iff x y)
theorem ent_one (x : Ent) : ∀ u ∈ x.cells, u.oneCell' = true := by intro u hu; simp [Ent.cells] at hu; rcases hu with h | h | h | h <;> subst h <;> rfl
theorem ents_one (l : List Ent) : ∀ u ∈ l.flatMap Ent.cells, u.oneCell' = true := by
  intro u hu
  rw [List.mem_flatMap] at hu
  obtain ⟨x, _, h⟩ := hu
  exact ent_one x u h
def enAt (l : List Ent) (i : Nat) : Ent := l.getD i enZ
theorem enAt_eq {l : List Ent} {i : Nat} (h : i < l.length) : enAt l i = l[i] := by unfold enAt; rw [List.getD_eq_getElem?_getD, List.getElem?_eq_getElem h]; rfl
theorem take_en {l : List Ent} {k : Nat} (h : k < l.length) : l.take (k + 1) = l.take k ++ [enAt l k] := by
  rw [List.take_add_one, List.getElem?_eq_getElem h, enAt_eq h]
  rfl
theorem take_enC {l : List Ent} {k : Nat} (h : k < l.length) : (l.take (k + 1)).flatMap Ent.cells = (l.take k).flatMap Ent.cells ++ (enAt l k).cells := by
  rw [take_en h, List.flatMap_append]
  simp
theorem ents_read {w : World} {a : Option Addr} {n c lo hi : Nat} {l : List Ent} (hn : l.length = n) (hl : Lies w lo hi (.slice a n c) n 4 (l.flatMap Ent.cells)) : ∀ Y : World, SameIn w Y lo hi → ∀ i, i < n → ∃ b off, a = some ⟨b, off, none⟩ ∧ (Y.cell? ⟨b, off + i * 4, none⟩ = some (.int .i64 (enAt l i).t) ∧ Y.cell? ⟨b, off + i * 4 + 1, none⟩ = some (.int .i64 (enAt l i).k) ∧ Y.cell? ⟨b, off + i * 4 + 2, none⟩ = some (.int .i64 (enAt l i).a) ∧ Y.cell? ⟨b, off + i * 4 + 3, none⟩ = some (.int .i64 (enAt l i).b)) ∧ lo ≤ b ∧ b < hi := by
  intro Y hY i hi
  have hx : l[i]? = some (enAt l i) := by rw [enAt_eq (by omega)]; exact List.getElem?_eq_getElem (by omega)
  obtain ⟨a', c', e, _, _, hc⟩ := hl.keep hY
  cases e
  rcases hc with h0 | ⟨b, off, rfl, h1, hb, hc⟩
  · omega
  · exact ⟨b, off, rfl, ⟨hc _ _ (flat_at Ent.cells 4 (fun _ => rfl) l i 0 _ hx (by omega)), hc _ _ (flat_at Ent.cells 4 (fun _ => rfl) l i 1 _ hx (by omega)), hc _ _ (flat_at Ent.cells 4 (fun _ => rfl) l i 2 _ hx (by omega)), hc _ _ (flat_at Ent.cells 4 (fun _ => rfl) l i 3 _ hx (by omega))⟩, h1, hb⟩
/-- A row of entries, as a cell. -/
structure Er where
  v : Value
  l : List Ent
def Er.cells (x : Er) : List Value := [x.v]
def Er.Ok (W : World) (x : Er) : Prop := Lies W 0 W.heap.size x.v x.l.length 4 (x.l.flatMap Ent.cells)
def erAt (l : List Er) (i : Nat) : Er := l.getD i ⟨.slice none 0 0, []⟩
theorem erAt_eq {l : List Er} {i : Nat} (h : i < l.length) : erAt l i = l[i] := by unfold erAt; rw [List.getD_eq_getElem?_getD, List.getElem?_eq_getElem h]; rfl
/-- Each row: where it stands, and what lies there. -/
theorem ers_read {w : World} {a : Option Addr} {n c : Nat} {l : List Er} (hn : l.length = n) (hl : Lies w 0 w.heap.size (.slice a n c) n 1 (l.flatMap Er.cells)) (ho : ∀ x ∈ l, x.Ok w) : ∀ i, i < n → ∃ b off oa oc, a = some ⟨b, off, none⟩ ∧ (∀ Y : World, SameIn w Y 0 w.heap.size → Y.cell? ⟨b, off + i, none⟩ = some (.slice oa (erAt l i).l.length oc)) ∧ b < w.heap.size ∧ Lies w 0 w.heap.size (.slice oa (erAt l i).l.length oc) (erAt l i).l.length 4 ((erAt l i).l.flatMap Ent.cells) := by
  intro i hi
  have hil : i < l.length := by omega
  have hx : l[i]? = some (erAt l i) := by rw [erAt_eq hil]; exact List.getElem?_eq_getElem hil
  have hok : (erAt l i).Ok w := ho _ (by rw [erAt_eq hil]; exact List.getElem_mem hil)
  obtain ⟨oa, oc, eo, _⟩ := id hok
  obtain ⟨a', c', e, h1, h2, hc⟩ := id hl
  cases e
  rcases hc with h0 | ⟨b, off, rfl, hb0, hb, hc⟩
  · omega
  · refine ⟨b, off, oa, oc, rfl, fun Y hY => ?_, hb, by rw [← eo]; exact hok⟩
    have := hc _ _ (flat_at Er.cells 1 (fun _ => rfl) l i 0 _ hx (by omega))
    rw [(World.cell?_of_block (w := w) (hY b hb0 hb)), ← eo]
    simpa using this
theorem ints_read {w : World} {a : Option Addr} {n c lo hi : Nat} {l : List Int} (hn : l.length = n) (hl : Lies w lo hi (.slice a n c) n 1 (l.flatMap intCells)) : ∀ Y : World, SameIn w Y lo hi → ∀ i, i < n → ∃ b off, a = some ⟨b, off, none⟩ ∧ Y.cell? ⟨b, off + i, none⟩ = some (.int .i64 (l.getD i 0)) ∧ lo ≤ b ∧ b < hi := by
  intro Y hY i hi
  have hx : l[i]? = some (l.getD i 0) := by rw [List.getD_eq_getElem?_getD, List.getElem?_eq_getElem (by omega)]; rfl
  obtain ⟨a', c', e, _, _, hc⟩ := hl.keep hY
  cases e
  rcases hc with h0 | ⟨b, off, rfl, h1, hb, hc⟩
  · omega
  · have := hc _ _ (flat_at intCells 1 (fun _ => rfl) l i 0 _ hx (by omega))
    exact ⟨b, off, rfl, by simpa using this, h1, hb⟩
/-- A slice's first ones. -/
theorem Lies.front {w : World} {lo hi n c sz m : Nat} {a : Option Addr} {xs : List Value} (h : Lies w lo hi (.slice a n c) n sz xs) (hm : m ≤ n) : Lies w lo hi (.slice a m c) m sz (xs.take (m * sz)) := by
  obtain ⟨a', c', e, hl, hz, hc⟩ := h
  cases e
  refine ⟨a, c, rfl, by rw [List.length_take, hl]; exact Nat.min_eq_left (Nat.mul_le_mul_right _ hm), fun h => ⟨by have := (hz h).1; omega, (hz h).2⟩, ?_⟩
  rcases hc with h0 | ⟨b, off, h1, h2, h3, h4⟩
  · exact .inl (by omega)
  · refine .inr ⟨b, off, h1, h2, h3, fun j u hu => h4 j u ?_⟩
    rw [List.getElem?_take] at hu
    split at hu
    · exact hu
    · cases hu
theorem takeE_flat : ∀ (l : List Ent) (m : Nat), (l.flatMap Ent.cells).take (m * 4) = (l.take m).flatMap Ent.cells
  | [], m => by simp
  | x :: l, 0 => by simp
  | x :: l, m + 1 => by
    rw [List.take_succ_cons, List.flatMap_cons, List.flatMap_cons, show (m + 1) * 4 = x.cells.length + m * 4 by simp [Ent.cells]; omega, List.take_append, List.take_of_length_le (by omega), Nat.add_sub_cancel_left, takeE_flat l m]
/-- The room that a log has. -/
def roomJ (x : Int) : Nat := min x.toNat 65536
theorem roomJ_le (x : Int) : roomJ x ≤ 65536 := Nat.min_le_right _ _
/-- How many of so many come in. -/
def fitJ (R n m : Nat) : Nat := min m (R - n)
def ofJ (l : List Ent) (ks : List Int) : List Ent := l.filter fun x => ks.contains x.k
theorem ofJ_len (l : List Ent) (ks : List Int) : (ofJ l ks).length ≤ l.length := List.length_filter_le _ _
theorem ofJ_snoc (l : List Ent) (ks : List Int) (x : Ent) : ofJ (l ++ [x]) ks = if ks.contains x.k = true then ofJ l ks ++ [x] else ofJ l ks := by
  unfold ofJ
  rw [List.filter_append]
  split
  · rename_i h; rw [show [x].filter (fun x => ks.contains x.k) = [x] from List.filter_cons_of_pos (by simpa using h)]
  · rename_i h; rw [show [x].filter (fun x => ks.contains x.k) = [] from List.filter_cons_of_neg (by simpa using h)]; simp
theorem ofJ_take {l : List Ent} (ks : List Int) {k : Nat} (h : k < l.length) : ofJ (l.take (k + 1)) ks = if ks.contains (enAt l k).k = true then ofJ (l.take k) ks ++ [enAt l k] else ofJ (l.take k) ks := by
  rw [take_en h, ofJ_snoc]

theorem Tryd.infoJE : (Tryd.prog.info? 47).map (fun i => (i.zero, i.size, i.bytes)) = some (some (.agg #[.int .i64 0, .int .i64 0, .int .i64 0, .int .i64 0]), 4, 32) := by kernel_rfl
theorem Tryd.infoJR : (Tryd.prog.info? 50).map (fun i => (i.zero, i.size, i.bytes)) = some (some (.agg #[.int .i64 0, .int .i64 0, .int .i64 0, .int .i64 0]), 4, 32) := by kernel_rfl

def boxLg (R : Int) (v : Value) (x : Int) : Array Value := #[.bool true, .int .i64 R, v, .int .i64 x]
def boxDg (R : Int) (v : Value) (x : Int) : Array Value := #[.int .i64 R, v, .int .i64 x]
/-- A log in memory, its places written out. -/
structure LgP (w : World) (H : Nat) (S : Nat → Prop) (R : Nat) (l : List Ent) (x : Int) (ao : Option Addr) (cap : Nat) : Prop where
  box : w.heap[H]? = some (.cells (boxLg R (.slice ao l.length cap) x) 49 (0, 0))
  row : RowR w H S 47 4 ao l.length cap (l.flatMap Ent.cells)
  own : S H
  lt : ∀ k, S k → k < w.heap.size
/-- A log in memory: its blocks are S. -/
def LgAt (H : Nat) (R : Nat) (l : List Ent) (x : Int) (w : World) (S : Nat → Prop) : Prop := ∃ ao cap, LgP w H S R l x ao cap
section
variable {w w' : World} {H : Nat} {S : Nat → Prop} {R : Nat} {l : List Ent} {x : Int} {ao : Option Addr} {cap : Nat}
theorem LgP.keep (h : LgP w H S R l x ao cap) (hs : ∀ k, S k → w'.heap[k]? = w.heap[k]?) (hz : w.heap.size ≤ w'.heap.size) : LgP w' H S R l x ao cap :=
  ⟨(hs H h.own).trans h.box, h.row.keep (fun k hk _ => hs k hk) hz (fun _ h => h), h.own, fun k hk => Nat.lt_of_lt_of_le (h.lt k hk) hz⟩
theorem LgP.later (h : LgP w H S R l x ao cap) (hb : Below w.heap.size w w') : LgP w' H S R l x ao cap := h.keep (fun k hk => hb.block k (h.lt k hk)) hb.size
theorem LgAt_own (H : Nat) (R : Nat) (l : List Ent) (x : Int) : OwnP (LgAt H R l x) := ⟨fun ⟨ao, c, h⟩ hs hz => ⟨ao, c, h.keep hs hz⟩, fun ⟨_, _, h⟩ => h.lt⟩
theorem LgP.app {w2 : World} {ys : List Ent} {m n2 : Nat} {ao2 : Option Addr} {cap2 : Nat} (h : LgP w H S R l x ao cap) (hm : m = l.length) (hn2 : n2 = (l ++ ys).length) (hown : w2.ownsRow 0 47 4 (.slice ao2 n2 cap2) n2 (l.flatMap Ent.cells ++ ys.flatMap Ent.cells)) (hg : ∃ w1, Below w.heap.size w w1 ∧ w1.grownBy w2 (Value.slice ao m cap).ownBlock ∧ ((Value.slice ao2 n2 cap2).ownBlock = (Value.slice ao m cap).ownBlock ∨ (Value.slice ao2 n2 cap2).ownBlock = some w1.heap.size)) :
    ∃ S', LgP (w2.setCell ⟨H, 2, none⟩ (.slice ao2 n2 cap2)) H S' R (l ++ ys) x ao2 cap2 ∧ GrowS S S' w (w2.setCell ⟨H, 2, none⟩ (.slice ao2 n2 cap2)) := by
  subst hm
  obtain ⟨g1, g2, g3, g4, g5, g6⟩ := app_box (slot := 2) h.box h.own h.lt h.row hown hg
  have hxs : (l ++ ys).flatMap Ent.cells = l.flatMap Ent.cells ++ ys.flatMap Ent.cells := List.flatMap_append
  subst hn2
  exact ⟨_, ⟨by rw [g1]; rfl, by rw [hxs]; exact g2, .inl h.own, g4⟩, g6⟩
theorem LgP.setX (h : LgP w H S R l x ao cap) (y : Int) : LgP (w.setCell ⟨H, 3, none⟩ (.int .i64 y)) H S R l y ao cap ∧ GrowS S S w (w.setCell ⟨H, 3, none⟩ (.int .i64 y)) := by
  have hB : But H w (w.setCell ⟨H, 3, none⟩ (.int .i64 y)) := (But.refl H w).set 3 _
  have hz : (w.setCell ⟨H, 3, none⟩ (.int .i64 y)).heap.size = w.heap.size := by simp
  exact ⟨⟨by rw [set_at h.box]; rfl, h.row.keepO (fun k hk => hB.block k (h.lt k (h.row.2 k hk).1) (h.row.2 k hk).2) hB.size (fun _ h => h), h.own, fun k hk => by rw [hz]; exact h.lt k hk⟩, ⟨hB.os, hB.tape, hB.output, hB.size, fun k hk hS => hB.block k hk (fun e => hS (e ▸ h.own)), fun k hk => .inl hk⟩⟩
theorem LgP.lies (h : LgP w H S R l x ao cap) : Lies w 0 w.heap.size (.slice ao l.length cap) l.length 4 (l.flatMap Ent.cells) := Lies.of_owns h.row.1
end
/-- A log in memory, its places written out. -/
structure DgP (w : World) (H : Nat) (S : Nat → Prop) (R : Nat) (l : List Ent) (x : Int) (ao : Option Addr) (cap : Nat) : Prop where
  box : w.heap[H]? = some (.cells (boxDg R (.slice ao l.length cap) x) 36 (0, 0))
  row : RowR w H S 50 4 ao l.length cap (l.flatMap Ent.cells)
  own : S H
  lt : ∀ k, S k → k < w.heap.size
/-- A log in memory: its blocks are S. -/
def DgAt (H : Nat) (R : Nat) (l : List Ent) (x : Int) (w : World) (S : Nat → Prop) : Prop := ∃ ao cap, DgP w H S R l x ao cap
section
variable {w w' : World} {H : Nat} {S : Nat → Prop} {R : Nat} {l : List Ent} {x : Int} {ao : Option Addr} {cap : Nat}
theorem DgP.keep (h : DgP w H S R l x ao cap) (hs : ∀ k, S k → w'.heap[k]? = w.heap[k]?) (hz : w.heap.size ≤ w'.heap.size) : DgP w' H S R l x ao cap :=
  ⟨(hs H h.own).trans h.box, h.row.keep (fun k hk _ => hs k hk) hz (fun _ h => h), h.own, fun k hk => Nat.lt_of_lt_of_le (h.lt k hk) hz⟩
theorem DgP.later (h : DgP w H S R l x ao cap) (hb : Below w.heap.size w w') : DgP w' H S R l x ao cap := h.keep (fun k hk => hb.block k (h.lt k hk)) hb.size
theorem DgAt_own (H : Nat) (R : Nat) (l : List Ent) (x : Int) : OwnP (DgAt H R l x) := ⟨fun ⟨ao, c, h⟩ hs hz => ⟨ao, c, h.keep hs hz⟩, fun ⟨_, _, h⟩ => h.lt⟩
theorem DgP.app {w2 : World} {ys : List Ent} {m n2 : Nat} {ao2 : Option Addr} {cap2 : Nat} (h : DgP w H S R l x ao cap) (hm : m = l.length) (hn2 : n2 = (l ++ ys).length) (hown : w2.ownsRow 0 50 4 (.slice ao2 n2 cap2) n2 (l.flatMap Ent.cells ++ ys.flatMap Ent.cells)) (hg : ∃ w1, Below w.heap.size w w1 ∧ w1.grownBy w2 (Value.slice ao m cap).ownBlock ∧ ((Value.slice ao2 n2 cap2).ownBlock = (Value.slice ao m cap).ownBlock ∨ (Value.slice ao2 n2 cap2).ownBlock = some w1.heap.size)) :
    ∃ S', DgP (w2.setCell ⟨H, 1, none⟩ (.slice ao2 n2 cap2)) H S' R (l ++ ys) x ao2 cap2 ∧ GrowS S S' w (w2.setCell ⟨H, 1, none⟩ (.slice ao2 n2 cap2)) := by
  subst hm
  obtain ⟨g1, g2, g3, g4, g5, g6⟩ := app_box (slot := 1) h.box h.own h.lt h.row hown hg
  have hxs : (l ++ ys).flatMap Ent.cells = l.flatMap Ent.cells ++ ys.flatMap Ent.cells := List.flatMap_append
  subst hn2
  exact ⟨_, ⟨by rw [g1]; rfl, by rw [hxs]; exact g2, .inl h.own, g4⟩, g6⟩
theorem DgP.setX (h : DgP w H S R l x ao cap) (y : Int) : DgP (w.setCell ⟨H, 2, none⟩ (.int .i64 y)) H S R l y ao cap ∧ GrowS S S w (w.setCell ⟨H, 2, none⟩ (.int .i64 y)) := by
  have hB : But H w (w.setCell ⟨H, 2, none⟩ (.int .i64 y)) := (But.refl H w).set 2 _
  have hz : (w.setCell ⟨H, 2, none⟩ (.int .i64 y)).heap.size = w.heap.size := by simp
  exact ⟨⟨by rw [set_at h.box]; rfl, h.row.keepO (fun k hk => hB.block k (h.lt k (h.row.2 k hk).1) (h.row.2 k hk).2) hB.size (fun _ h => h), h.own, fun k hk => by rw [hz]; exact h.lt k hk⟩, ⟨hB.os, hB.tape, hB.output, hB.size, fun k hk hS => hB.block k hk (fun e => hS (e ▸ h.own)), fun k hk => .inl hk⟩⟩
theorem DgP.lies (h : DgP w H S R l x ao cap) : Lies w 0 w.heap.size (.slice ao l.length cap) l.length 4 (l.flatMap Ent.cells) := Lies.of_owns h.row.1
end
end Go.Proofs.YtebjgfdkmociaaaDoor
