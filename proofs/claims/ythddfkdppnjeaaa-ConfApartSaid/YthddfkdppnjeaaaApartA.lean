/- Rows whose cells are of their kinds, whatever they hold: what stays so while cells are written. -/
import Derived.Test.YthddfkdppnjeaaaSysA
namespace Go.Proofs.Ythddfkdppnjeaaa
open Go.ChangeShapes Go.WideShapes Go.ChangeAt Go.RowKit
set_option linter.unusedVariables false

/-- A slice of n things in a block of type E between lo and hi: each of its things is some one. -/
def TRow {α : Type} (w : World) (lo hi E sz : Nat) (f : α → List Value) (v : Value) (n : Nat) : Prop :=
  (v = .slice none 0 0 ∧ n = 0) ∨ ∃ g cap cur, v = .slice (some ⟨g, 0, none⟩) n cap ∧ lo ≤ g ∧ g < hi ∧ w.heap[g]? = some (.cells cur E (0, 0)) ∧ ∀ i, i < n → ∃ x, ∀ (j : Nat) (u : Value), (f x)[j]? = some u → cur[i * sz + j]? = some u
theorem TRow.of_owns {α : Type} {w : World} {lo hi E sz : Nat} {f : α → List Value} (hf : ∀ x, (f x).length = sz) {v : Value} {xs : List α} (h : w.ownsRow lo E sz v xs.length (xs.flatMap f)) (hh : w.heap.size ≤ hi) : TRow w lo hi E sz f v xs.length := by
  rcases h.2 with h0 | ⟨g, cap, cur, hv, hb, hg, _, _, _, ht⟩
  · exact .inl h0
  · refine .inr ⟨g, cap, cur, hv, hb, Nat.lt_of_lt_of_le (lt_of_block hg) hh, hg, fun i hi => ?_⟩
    have hx : xs[i]? = some xs[i] := List.getElem?_eq_getElem hi
    refine ⟨xs[i], fun j u hu => ?_⟩
    have hj : j < sz := by rw [← hf xs[i]]; exact (List.getElem?_eq_some_iff.1 hu).1
    have e := flat_at f sz hf xs i j xs[i] hx hj
    rw [← ht, hu, List.getElem?_take] at e
    split at e
    · simpa using e
    · cases e
theorem TRow.same {α : Type} {w w' : World} {lo hi E sz : Nat} {f : α → List Value} {v : Value} {n : Nat} (h : TRow w lo hi E sz f v n) (hs : ∀ (b : Nat) (cs : Array Value), w.heap[b]? = some (.cells cs E (0, 0)) → w'.heap[b]? = some (.cells cs E (0, 0))) : TRow w' lo hi E sz f v n := by
  rcases h with h0 | ⟨g, cap, cur, hv, hb, hh, hg, ht⟩
  · exact .inl h0
  · exact .inr ⟨g, cap, cur, hv, hb, hh, hs g cur hg, ht⟩
/-- A write that keeps the kinds. -/
def KindOk {α : Type} (sz : Nat) (f : α → List Value) (off : Nat) (u : Value) : Prop := ∀ i j0, j0 < sz → off = i * sz + j0 → ∀ x, ∃ x', ∀ (j : Nat) (u' : Value), (f x')[j]? = some u' → if j = j0 then u' = u else (f x)[j]? = some u'
theorem TRow.write {α : Type} {w : World} {lo hi E sz : Nat} {f : α → List Value} (hf : ∀ x, (f x).length = sz) {v : Value} {n : Nat} (h : TRow w lo hi E sz f v n) {g : Nat} {cur : Array Value} {E' : Nat} (hg : w.heap[g]? = some (.cells cur E' (0, 0))) (off : Nat) (u : Value) (hk : E' = E → KindOk sz f off u) :
    TRow (w.setCell ⟨g, off, none⟩ u) lo hi E sz f v n := by
  rcases h with h0 | ⟨g1, cap, cur1, hv, hb, hh, hg1, ht⟩
  · exact .inl h0
  · by_cases e : g1 = g
    · subst e
      rw [hg] at hg1
      simp at hg1
      obtain ⟨rfl, rfl⟩ := hg1
      refine .inr ⟨g1, cap, _, hv, hb, hh, set_at hg, fun i hi => ?_⟩
      obtain ⟨x, hx⟩ := ht i hi
      by_cases hin : i * sz ≤ off ∧ off < i * sz + sz
      · obtain ⟨j0, rfl⟩ : ∃ j0, off = i * sz + j0 := ⟨off - i * sz, by omega⟩
        have hj0 : j0 < sz := by omega
        obtain ⟨x', hx'⟩ := hk rfl i j0 hj0 rfl x
        refine ⟨x', fun j u' hu => ?_⟩
        have hj : j < sz := by rw [← hf x']; exact (List.getElem?_eq_some_iff.1 hu).1
        have h2 := hx' j u' hu
        have hsz : ∃ y, (f x)[j0]? = some y := ⟨_, List.getElem?_eq_getElem (by rw [hf]; exact hj0)⟩
        obtain ⟨y, hy⟩ := hsz
        have hlt := (Array.getElem?_eq_some_iff.1 (hx j0 y hy)).1
        by_cases ej : j = j0
        · subst ej
          rw [if_pos rfl] at h2
          subst h2
          rw [Array.getElem?_setIfInBounds_self_of_lt hlt]
        · rw [if_neg ej] at h2
          rw [Array.getElem?_setIfInBounds_ne (by omega)]
          exact hx j u' h2
      · refine ⟨x, fun j u' hu => ?_⟩
        have hj : j < sz := by rw [← hf x]; exact (List.getElem?_eq_some_iff.1 hu).1
        rw [Array.getElem?_setIfInBounds_ne (by omega)]
        exact hx j u' hu
    · exact .inr ⟨g1, cap, cur1, hv, hb, hh, (Below.heap_setCell _ _ _ _ e).trans hg1, ht⟩
/-- A thing of such a row, by its cells. -/
theorem TRow.cells {α : Type} {w : World} {lo hi E sz : Nat} {f : α → List Value} {v : Value} {n : Nat} (h : TRow w lo hi E sz f v n) {k : Nat} (hk : k < n) : ∃ g cap cur x, v = .slice (some ⟨g, 0, none⟩) n cap ∧ lo ≤ g ∧ g < hi ∧ w.heap[g]? = some (.cells cur E (0, 0)) ∧ ∀ (j : Nat) (u : Value), (f x)[j]? = some u → w.cell? ⟨g, k * sz + j, none⟩ = some u := by
  rcases h with ⟨_, h0⟩ | ⟨g, cap, cur, hv, hb, hh, hg, ht⟩
  · omega
  · obtain ⟨x, hx⟩ := ht k hk
    exact ⟨g, cap, cur, x, hv, hb, hh, hg, fun j u hu => cell_in hg (hx j u hu)⟩
theorem TRow.slice {α : Type} {w : World} {lo hi E sz : Nat} {f : α → List Value} {v : Value} {n : Nat} (h : TRow w lo hi E sz f v n) : ∃ a cap, v = .slice a n cap := by
  rcases h with ⟨h1, h0⟩ | ⟨g, cap, cur, hv, _⟩
  · subst h0; exact ⟨_, _, h1⟩
  · exact ⟨_, _, hv⟩
theorem kindTk (k : Nat) (b : Bool) : KindOk 6 Tk.cells (k * 6) (.bool b) := fun i j0 h e x => by
  have : j0 = 0 := by omega
  subst this
  refine ⟨⟨b, x.t, x.d, x.v, x.lo, x.top⟩, fun j u hu => ?_⟩
  match j with
  | 0 => simpa [Tk.cells, eq_comm] using hu
  | 1 | 2 | 3 | 4 | 5 => simpa [Tk.cells] using hu
  | j + 6 => simp [Tk.cells] at hu
theorem kindSv (k : Nat) (b : Bool) : KindOk 3 Sv.cells (k * 3) (.bool b) := fun i j0 h e x => by
  have : j0 = 0 := by omega
  subst this
  refine ⟨⟨b, x.c, x.t⟩, fun j u hu => ?_⟩
  match j with
  | 0 => simpa [Sv.cells, eq_comm] using hu
  | 1 | 2 => simpa [Sv.cells] using hu
  | j + 3 => simp [Sv.cells] at hu
theorem kindCh (k : Nat) (b : Bool) : KindOk 4 Ch.cells (k * 4) (.bool b) := fun i j0 h e x => by
  have : j0 = 0 := by omega
  subst this
  refine ⟨⟨b, x.from_, x.to, x.size⟩, fun j u hu => ?_⟩
  match j with
  | 0 => simpa [Ch.cells, eq_comm] using hu
  | 1 | 2 | 3 => simpa [Ch.cells] using hu
  | j + 4 => simp [Ch.cells] at hu
theorem kindWn (k : Nat) (a : Int) : KindOk 3 Wn.cells (k * 3) (.int .i64 a) := fun i j0 h e x => by
  have : j0 = 0 := by omega
  subst this
  refine ⟨⟨a, x.len, x.part⟩, fun j u hu => ?_⟩
  match j with
  | 0 => simpa [Wn.cells, eq_comm] using hu
  | 1 | 2 => simpa [Wn.cells] using hu
  | j + 3 => simp [Wn.cells] at hu
theorem kindIn (k : Nat) (a : Int) : KindOk 1 intCells k (.int .i64 a) := fun i j0 h e x => by
  have : j0 = 0 := by omega
  subst this
  refine ⟨a, fun j u hu => ?_⟩
  match j with
  | 0 => simpa [intCells, eq_comm] using hu
  | j + 1 => simp [intCells] at hu

/-- The world while what was made of a system is written: lo to hi is where that lies; Z: the world ahead of all writes. -/
structure XI (w Z : World) (lo hi : Nat) (wa pa ca : Option Addr) (wn wc pn pc cn cc : Nat) (vs : List Pv) (wr : World) : Prop where
  out : ∀ b, b < lo ∨ hi ≤ b → wr.heap[b]? = Z.heap[b]?
  size : wr.heap.size = Z.heap.size
  below : Below w.heap.size w wr
  tw : TRow wr lo hi 69 3 Wn.cells (.slice wa wn wc) wn
  tc : TRow wr lo hi 71 4 Ch.cells (.slice ca cn cc) cn
  row : wr.ownsRow lo 43 6 (.slice pa pn pc) pn (vs.flatMap Pv.cells)
  parts : ∀ (i : Nat) (v : Pv), vs[i]? = some v → ∃ n1 n2 n3, n1 ≤ 1000 ∧ n2 ≤ 1000 ∧ n3 ≤ 1000 ∧ TRow wr lo hi 34 6 Tk.cells v.ts n1 ∧ TRow wr lo hi 36 3 Sv.cells v.ss n2 ∧ TRow wr lo hi 3 1 intCells v.ds n3
theorem XI.write {w Z : World} {lo hi : Nat} {wa pa ca : Option Addr} {wn wc pn pc cn cc : Nat} {vs : List Pv} {wr : World} (h : XI w Z lo hi wa pa ca wn wc pn pc cn cc vs wr) (hw : w.heap.size ≤ lo) {g : Nat} {cur : Array Value} {E : Nat} (hg : wr.heap[g]? = some (.cells cur E (0, 0))) (h1 : lo ≤ g) (h2 : g < hi) (off : Nat) (u : Value) (hP : 43 ≠ E)
    (kW : E = 69 → KindOk 3 Wn.cells off u) (kC : E = 71 → KindOk 4 Ch.cells off u) (kT : E = 34 → KindOk 6 Tk.cells off u) (kS : E = 36 → KindOk 3 Sv.cells off u) (kI : E = 3 → KindOk 1 intCells off u) :
    XI w Z lo hi wa pa ca wn wc pn pc cn cc vs (wr.setCell ⟨g, off, none⟩ u) := by
  refine ⟨fun b hb => (Below.heap_setCell _ _ _ _ (by simp; omega)).trans (h.out b hb), by rw [World.size_setCell]; exact h.size, h.below.setCell (by simp; omega) _, TRow.write (f := Wn.cells) (fun _ => rfl) h.tw hg off u kW, TRow.write (f := Ch.cells) (fun _ => rfl) h.tc hg off u kC, ?_, fun i v hv => ?_⟩
  · exact setCell_owns h.row hg (Ne.symm hP) u
  · obtain ⟨n1, n2, n3, b1, b2, b3, t1, t2, t3⟩ := h.parts i v hv
    exact ⟨n1, n2, n3, b1, b2, b3, TRow.write (f := Tk.cells) (fun _ => rfl) t1 hg off u kT, TRow.write (f := Sv.cells) (fun _ => rfl) t2 hg off u kS, TRow.write (f := intCells) (fun _ => rfl) t3 hg off u kI⟩
theorem XI.drew {w Z : World} {lo hi : Nat} {wa pa ca : Option Addr} {wn wc pn pc cn cc : Nat} {vs : List Pv} {wr : World} (h : XI w Z lo hi wa pa ca wn wc pn pc cn cc vs wr) : XI w Z lo hi wa pa ca wn wc pn pc cn cc vs wr.drew :=
  ⟨h.out, h.size, h.below.drew, h.tw, h.tc, h.row, h.parts⟩
end Go.Proofs.Ythddfkdppnjeaaa
