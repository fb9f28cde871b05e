/- Two things in one memory, each with its own blocks; a box with rows of its own. -/
import Derived.Test.YtebjgfdkmociaaaDoorOwnS
import Derived.Test.YtebjgfdkmociaaaDoorGrow
namespace Go.Proofs.YtebjgfdkmociaaaDoor
open Go.ChangeShapes Go.WideShapes Go.ChangeAt Go.RowKit
set_option linter.unusedVariables false

/-- What lies in blocks of its own, and stays where they stay. -/
structure OwnP (P : World → (Nat → Prop) → Prop) : Prop where
  keep : ∀ {w w' : World} {S : Nat → Prop}, P w S → (∀ k, S k → w'.heap[k]? = w.heap[k]?) → w.heap.size ≤ w'.heap.size → P w' S
  lt : ∀ {w : World} {S : Nat → Prop}, P w S → ∀ k, S k → k < w.heap.size
theorem OwnP.later {P : World → (Nat → Prop) → Prop} (O : OwnP P) {w w' : World} {S : Nat → Prop} (h : P w S) (hb : Below w.heap.size w w') : P w' S := O.keep h (fun k hk => hb.block k (O.lt h k hk)) hb.size
/-- Both: what the program's is (P, blocks S), what the document's is (Q, blocks R); all of it was made behind w. -/
structure Both (w wx : World) (P Q : World → (Nat → Prop) → Prop) (S R : Nat → Prop) : Prop where
  h : P wx S
  r : Q wx R
  oh : OwnP P
  or : OwnP Q
  d : ∀ k, S k → ¬ R k
  sb : ∀ k, S k → w.heap.size ≤ k
  rb : ∀ k, R k → w.heap.size ≤ k
  b : Below w.heap.size w wx
section
variable {w wx Y : World} {P Q P' Q' : World → (Nat → Prop) → Prop} {S R S' R' : Nat → Prop}
theorem Both.later (t : Both w wx P Q S R) (hb : Below wx.heap.size wx Y) : Both w Y P Q S R := ⟨t.oh.later t.h hb, t.or.later t.r hb, t.oh, t.or, t.d, t.sb, t.rb, t.b.trans (hb.mono t.b.size)⟩
theorem Both.prog (t : Both w wx P Q S R) (h : P' Y S') (g : GrowS S S' wx Y) (o : OwnP P') : Both w Y P' Q S' R :=
  ⟨h, t.or.keep t.r (fun k hk => g.block k (t.or.lt t.r k hk) (fun hs => t.d k hs hk)) g.size, o, t.or, fun k hs hr => (g.own k hs).elim (fun h1 => t.d k h1 hr) (fun h1 => by have := t.or.lt t.r k hr; omega), (g.step t.b t.sb).2, t.rb, (g.step t.b t.sb).1⟩
theorem Both.ref (t : Both w wx P Q S R) (r : Q' Y R') (g : GrowS R R' wx Y) (o : OwnP Q') : Both w Y P Q' S R' :=
  ⟨t.oh.keep t.h (fun k hk => g.block k (t.oh.lt t.h k hk) (t.d k hk)) g.size, r, t.oh, o, fun k hs hr => (g.own k hr).elim (t.d k hs) (fun h1 => by have := t.oh.lt t.h k hs; omega), t.sb, (g.step t.b t.rb).2, (g.step t.b t.rb).1⟩
end
/-- A block that is neither's, as it was. -/
structure Aside (V wx : World) (E : Nat) (S R : Nat → Prop) : Prop where
  k : wx.heap[E]? = V.heap[E]?
  z : E < wx.heap.size
  es : ¬ S E
  er : ¬ R E
section
variable {V wx Y : World} {E : Nat} {S R S' R' : Nat → Prop}
theorem Aside.later (t : Aside V wx E S R) (hb : Below wx.heap.size wx Y) : Aside V Y E S R := ⟨(hb.block E t.z).trans t.k, Nat.lt_of_lt_of_le t.z hb.size, t.es, t.er⟩
theorem Aside.prog (t : Aside V wx E S R) (g : GrowS S S' wx Y) : Aside V Y E S' R := ⟨(g.block E t.z t.es).trans t.k, Nat.lt_of_lt_of_le t.z g.size, g.not t.z t.es, t.er⟩
theorem Aside.ref (t : Aside V wx E S R) (g : GrowS R R' wx Y) : Aside V Y E S R' := ⟨(g.block E t.z t.er).trans t.k, Nat.lt_of_lt_of_le t.z g.size, t.es, g.not t.z t.er⟩
end
/-- A row in blocks of R, beside the box rb. -/
def RowR (w : World) (rb : Nat) (R : Nat → Prop) (e sz : Nat) (ao : Option Addr) (n cap : Nat) (xs : List Value) : Prop := w.ownsRow 0 e sz (.slice ao n cap) n xs ∧ ∀ b, (Value.slice ao n cap).ownBlock = some b → R b ∧ b ≠ rb
theorem RowR.keep {w w' : World} {rb : Nat} {R R' : Nat → Prop} {e sz n cap : Nat} {ao : Option Addr} {xs : List Value} (h : RowR w rb R e sz ao n cap xs) (hs : ∀ k, R k → k ≠ rb → w'.heap[k]? = w.heap[k]?) (hz : w.heap.size ≤ w'.heap.size) (hR : ∀ k, R k → R' k) : RowR w' rb R' e sz ao n cap xs :=
  ⟨owns_hold h.1 ⟨hz, fun g hg => hs g (h.2 g hg).1 (h.2 g hg).2⟩, fun b hb => ⟨hR b (h.2 b hb).1, (h.2 b hb).2⟩⟩
theorem RowR.keepO {w w' : World} {rb : Nat} {R R' : Nat → Prop} {e sz n cap : Nat} {ao : Option Addr} {xs : List Value} (h : RowR w rb R e sz ao n cap xs) (hs : ∀ b, (Value.slice ao n cap).ownBlock = some b → w'.heap[b]? = w.heap[b]?) (hz : w.heap.size ≤ w'.heap.size) (hR : ∀ k, R k → R' k) : RowR w' rb R' e sz ao n cap xs :=
  ⟨owns_hold h.1 ⟨hz, hs⟩, fun b hb => ⟨hR b (h.2 b hb).1, (h.2 b hb).2⟩⟩
theorem RowR.start (w : World) (rb : Nat) (R : Nat → Prop) (e sz : Nat) : RowR w rb R e sz none 0 0 [] := ⟨⟨by simp, .inl ⟨rfl, rfl⟩⟩, fun b hb => by cases hb⟩
theorem RowR.apart {w : World} {rb : Nat} {R : Nat → Prop} {e sz n cap e2 sz2 n2 cap2 : Nat} {ao ao2 : Option Addr} {xs xs2 : List Value} (h : RowR w rb R e sz ao n cap xs) (k : RowR w rb R e2 sz2 ao2 n2 cap2 xs2) (he : e ≠ e2) {b : Nat} (hb : (Value.slice ao n cap).ownBlock = some b) : (Value.slice ao2 n2 cap2).ownBlock ≠ some b := fun hc => by
  obtain ⟨_, cs, h1⟩ := owns_block h.1 b hb
  obtain ⟨_, cs2, h2⟩ := owns_block k.1 b hc
  rw [h1] at h2
  cases h2
  exact he rfl
/-- A row of a box grows: the box's slot is the new row. -/
theorem app_box {w w2 : World} {rb : Nat} {R : Nat → Prop} {cs : Array Value} {T e sz slot n n2 cap cap2 : Nat} {ao ao2 : Option Addr} {xs ys : List Value} (hbox : w.heap[rb]? = some (.cells cs T (0, 0))) (hown : R rb) (hlt : ∀ k, R k → k < w.heap.size) (hr : RowR w rb R e sz ao n cap xs)
    (h2 : w2.ownsRow 0 e sz (.slice ao2 n2 cap2) n2 ys) (hg : ∃ w1, Below w.heap.size w w1 ∧ w1.grownBy w2 (Value.slice ao n cap).ownBlock ∧ ((Value.slice ao2 n2 cap2).ownBlock = (Value.slice ao n cap).ownBlock ∨ (Value.slice ao2 n2 cap2).ownBlock = some w1.heap.size)) :
    (w2.setCell ⟨rb, slot, none⟩ (.slice ao2 n2 cap2)).heap[rb]? = some (.cells (cs.setIfInBounds slot (.slice ao2 n2 cap2)) T (0, 0)) ∧ RowR (w2.setCell ⟨rb, slot, none⟩ (.slice ao2 n2 cap2)) rb (fun k => R k ∨ (Value.slice ao2 n2 cap2).ownBlock = some k) e sz ao2 n2 cap2 ys ∧
    (∀ k, R k → k ≠ rb → (Value.slice ao n cap).ownBlock ≠ some k → (w2.setCell ⟨rb, slot, none⟩ (.slice ao2 n2 cap2)).heap[k]? = w.heap[k]?) ∧ (∀ k, (R k ∨ (Value.slice ao2 n2 cap2).ownBlock = some k) → k < (w2.setCell ⟨rb, slot, none⟩ (.slice ao2 n2 cap2)).heap.size) ∧ w.heap.size ≤ (w2.setCell ⟨rb, slot, none⟩ (.slice ao2 n2 cap2)).heap.size ∧
    GrowS R (fun k => R k ∨ (Value.slice ao2 n2 cap2).ownBlock = some k) w (w2.setCell ⟨rb, slot, none⟩ (.slice ao2 n2 cap2)) := by
  obtain ⟨w1, hb1, hgr, hblk⟩ := hg
  have hl := hlt rb hown
  have s1 := hb1.size
  have s2 := hgr.size
  have hsame : ∀ k, k < w.heap.size → (Value.slice ao n cap).ownBlock ≠ some k → w2.heap[k]? = w.heap[k]? := fun k hk hne => (hgr.block k (by omega) (fun e => hne e.symm)).trans (hb1.block k hk)
  have hbox2 := (hsame rb hl (fun e => (hr.2 rb e).2 rfl)).trans hbox
  have hB : But rb w2 (w2.setCell ⟨rb, slot, none⟩ (.slice ao2 n2 cap2)) := (But.refl rb w2).set slot _
  have hz : (w2.setCell ⟨rb, slot, none⟩ (.slice ao2 n2 cap2)).heap.size = w2.heap.size := by simp
  have hne : ∀ b, (Value.slice ao2 n2 cap2).ownBlock = some b → b ≠ rb := fun b hb e => by
    rcases hblk with h1 | h1
    · exact (hr.2 b (h1 ▸ hb)).2 e
    · have := h1.symm.trans hb; cases this; omega
  have hin : ∀ b, (Value.slice ao2 n2 cap2).ownBlock = some b → b < w2.heap.size := fun b hb => by
    obtain ⟨_, c, hc⟩ := owns_block h2 b hb
    exact lt_of_block hc
  refine ⟨set_at hbox2, ⟨owns_hold h2 ⟨by rw [hz]; exact Nat.le_refl _, fun g hgb => hB.block g (hin g hgb) (hne g hgb)⟩, fun b hb => ⟨.inr hb, hne b hb⟩⟩, fun k hk h1 h2 => (hB.block k (by have := hlt k hk; omega) h1).trans (hsame k (hlt k hk) h2), fun k hk => ?_, by rw [hz]; omega,
    ⟨hB.os.trans (hgr.os.trans hb1.os), hB.tape.trans (hgr.tape.trans hb1.tape), hB.output.trans (hgr.output.trans hb1.output), by rw [hz]; omega, fun k hk hS => (hB.block k (by omega) (fun e => hS (e ▸ hown))).trans (hsame k hk (fun e => hS (hr.2 k e).1)), fun k hk => ?_⟩⟩
  · rw [hz]
    rcases hk with hk | hk
    · have := hlt k hk; omega
    · exact hin k hk
  · rcases hk with hk | hk
    · exact .inl hk
    · rcases hblk with h1 | h1
      · exact .inl (hr.2 k (h1 ▸ hk)).1
      · have := h1.symm.trans hk; cases this; right; omega
/-- The cells of a row of things of one cell each. -/
theorem RowR.at1 {α : Type} {f : α → List Value} {emb : α → Value} (hf : ∀ x, f x = [emb x]) {w : World} {rb : Nat} {R : Nat → Prop} {e n cap : Nat} {ao : Option Addr} {l : List α} (h : RowR w rb R e 1 ao n cap (l.flatMap f)) {i : Nat} (hi : i < l.length) : ∃ g, ao = some ⟨g, 0, none⟩ ∧ R g ∧ g ≠ rb ∧ w.cell? ⟨g, i, none⟩ = some (emb l[i]) ∧ w.frozen? ⟨g, i, none⟩ = false := by
  have hlen : (l.flatMap f).length = l.length := by rw [flat_len f 1 (fun x => by rw [hf]; rfl)]; omega
  rcases h.1.2 with ⟨h1, h2⟩ | ⟨g, cap', cur, hv, hb, hg, h1, h2, h3, h4⟩
  · exfalso
    have := h.1.1; cases h1; omega
  · cases hv
    refine ⟨g, rfl, (h.2 g rfl).1, (h.2 g rfl).2, ?_, free_in hg _⟩
    have hln := h.1.1
    have a0 := flat_at f 1 (fun x => by rw [hf]; rfl) l i 0 _ (List.getElem?_eq_getElem hi) (by omega)
    rw [hf] at a0
    rw [← h4, List.getElem?_take_of_lt (by omega)] at a0
    exact cell_in hg (by simpa using a0)
theorem RowR.set1 {α : Type} {f : α → List Value} {emb : α → Value} (hf : ∀ x, f x = [emb x]) {w : World} {rb : Nat} {R : Nat → Prop} {e n cap : Nat} {g : Nat} {l : List α} (h : RowR w rb R e 1 (some ⟨g, 0, none⟩) n cap (l.flatMap f)) {i : Nat} (hi : i < l.length) (x : α) : RowR (w.setCell ⟨g, i, none⟩ (emb x)) rb R e 1 (some ⟨g, 0, none⟩) n cap ((l.set i x).flatMap f) := by
  rcases h.1.2 with ⟨h1, h2⟩ | ⟨g', cap', cur, hv, hb, hg, h1, h2, h3, h4⟩
  · cases h1
  · cases hv
    have hln := h.1.1
    have hl1 : ∀ l : List α, (l.flatMap f).length = l.length := fun l => by rw [flat_len f 1 (fun x => by rw [hf]; rfl)]; omega
    refine ⟨⟨by rw [hl1, List.length_set, ← hl1]; exact hln, .inr ⟨g, cap, _, rfl, hb, set_at hg, h1, h2, by simpa using h3, ?_⟩⟩, h.2⟩
    apply List.ext_getElem?
    intro k
    by_cases hk : k < l.length
    · rw [List.getElem?_take_of_lt (by rw [hl1] at hln; omega)]
      have a1 := flat_at f 1 (fun x => by rw [hf]; rfl) (l.set i x) k 0 _ (List.getElem?_eq_getElem (by simpa using hk)) (by omega)
      rw [hf] at a1
      rw [show k * 1 + 0 = k by omega] at a1
      rw [a1]
      by_cases e : k = i
      · subst e
        simp [show k < cur.size by rw [hl1] at hln; omega]
      · have a0 := flat_at f 1 (fun x => by rw [hf]; rfl) l k 0 _ (List.getElem?_eq_getElem hk) (by omega)
        rw [hf] at a0
        rw [← h4, List.getElem?_take_of_lt (by rw [hl1] at hln; omega)] at a0
        rw [show k * 1 + 0 = k by omega] at a0
        rw [List.getElem_set_ne (by omega)]
        simp only [Array.getElem?_toList, Array.getElem?_setIfInBounds]
        rw [if_neg (by omega)]
        simpa using a0
    · rw [List.getElem?_eq_none (by rw [List.length_take]; rw [hl1] at hln; omega), List.getElem?_eq_none (by rw [hl1, List.length_set]; omega)]
end Go.Proofs.YtebjgfdkmociaaaDoor
