/- Two things in one memory, each with its own blocks; a box with rows of its own. -/
import Derived.Test.YtchbehnkkcjdgaaGreatOwnS
import Derived.Test.YtchbehnkkcjdgaaGreatGrow
namespace Go.Proofs.YtchbehnkkcjdgaaGreat
open Go.ChangeShapes Go.WideShapes Go.ChangeAt Go.RowKit
set_option linter.unusedVariables false
/-- What lies in blocks of its own, and stays where they stay. -/
structure OwnP (P : World → (Nat → Prop) → Prop) : Prop where
 keep : ∀ {w w' : World} {S : Nat → Prop}, P w S → (∀ k, S k → w'.heap[k]? = w.heap[k]?) → w.heap.size ≤ w'.heap.size → P w' S
 lt : ∀ {w : World} {S : Nat → Prop}, P w S → ∀ k, S k → k < w.heap.size
theorem OwnP.later {P : World → (Nat → Prop) → Prop} (O : OwnP P) {w w' : World} {S : Nat → Prop} (h : P w S) (hb : Below w.heap.size w w') : P w' S := O.keep h (fun k hk => hb.block k (O.lt h k hk)) hb.size
/-- Both: what the program's is (P, blocks S), what the document's is (Q, blocks R); all of it was made behind w. -/
structure Both (w wx : World) (P Q : World → (Nat → Prop) → Prop) (S R : Nat → Prop) : Prop where
 h : P wx S
 r : Q wx R
 oh : OwnP P
 or : OwnP Q
 d : ∀ k, S k → ¬ R k
 sb : ∀ k, S k → w.heap.size ≤ k
 rb : ∀ k, R k → w.heap.size ≤ k
 b : Below w.heap.size w wx
section
variable {w wx Y : World} {P Q P' Q' : World → (Nat → Prop) → Prop} {S R S' R' : Nat → Prop}
theorem Both.later (t : Both w wx P Q S R) (hb : Below wx.heap.size wx Y) : Both w Y P Q S R := ⟨t.oh.later t.h hb, t.or.later t.r hb, t.oh, t.or, t.d, t.sb, t.rb, t.b.trans (hb.mono t.b.size)⟩
theorem Both.prog (t : Both w wx P Q S R) (h : P' Y S') (g : GrowS S S' wx Y) (o : OwnP P') : Both w Y P' Q S' R :=
 ⟨h, t.or.keep t.r (fun k hk => g.block k (t.or.lt t.r k hk) (fun hs => t.d k hs hk)) g.size, o, t.or, fun k hs hr => (g.own k hs).elim (fun h1 => t.d k h1 hr) (fun h1 => by have := t.or.lt t.r k hr; omega), (g.step t.b t.sb).2, t.rb, (g.step t.b t.sb).1⟩
end
/-- A block that is neither's, as it was. -/
structure Aside (V wx : World) (E : Nat) (S R : Nat → Prop) : Prop where
 k : wx.heap[E]? = V.heap[E]?
 z : E < wx.heap.size
 es : ¬ S E
 er : ¬ R E
section
variable {V wx Y : World} {E : Nat} {S R S' R' : Nat → Prop}
theorem Aside.later (t : Aside V wx E S R) (hb : Below wx.heap.size wx Y) : Aside V Y E S R := ⟨(hb.block E t.z).trans t.k, Nat.lt_of_lt_of_le t.z hb.size, t.es, t.er⟩
theorem Aside.prog (t : Aside V wx E S R) (g : GrowS S S' wx Y) : Aside V Y E S' R := ⟨(g.block E t.z t.es).trans t.k, Nat.lt_of_lt_of_le t.z g.size, g.not t.z t.es, t.er⟩
end
/-- A row in blocks of R, beside the box rb. -/
def RowR (w : World) (rb : Nat) (R : Nat → Prop) (e sz : Nat) (ao : Option Addr) (n cap : Nat) (xs : List Value) : Prop := w.ownsRow 0 e sz (.slice ao n cap) n xs ∧ ∀ b, (Value.slice ao n cap).ownBlock = some b → R b ∧ b ≠ rb
theorem RowR.keep {w w' : World} {rb : Nat} {R R' : Nat → Prop} {e sz n cap : Nat} {ao : Option Addr} {xs : List Value} (h : RowR w rb R e sz ao n cap xs) (hs : ∀ k, R k → k ≠ rb → w'.heap[k]? = w.heap[k]?) (hz : w.heap.size ≤ w'.heap.size) (hR : ∀ k, R k → R' k) : RowR w' rb R' e sz ao n cap xs :=
 ⟨owns_hold h.1 ⟨hz, fun g hg => hs g (h.2 g hg).1 (h.2 g hg).2⟩, fun b hb => ⟨hR b (h.2 b hb).1, (h.2 b hb).2⟩⟩
theorem RowR.start (w : World) (rb : Nat) (R : Nat → Prop) (e sz : Nat) : RowR w rb R e sz none 0 0 [] := ⟨⟨by simp, .inl ⟨rfl, rfl⟩⟩, fun b hb => by cases hb⟩
end Go.Proofs.YtchbehnkkcjdgaaGreat
