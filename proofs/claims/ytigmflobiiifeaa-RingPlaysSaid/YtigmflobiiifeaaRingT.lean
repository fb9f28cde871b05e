/- Both rings. -/
import Derived.Test.YtigmflobiiifeaaRingC
namespace Go.Proofs.Ytigmflobiiifeaa
open Go.ChangeShapes Go.WideShapes Go.ChangeAt Go.RowKit
set_option linter.unusedVariables false

/-- Both rings: the program's holds l, the document's m. -/
structure TwoR (O : RingInt) (w wx : World) (H rb : Nat) (S R : Nat → Prop) (n : Int) (l m : List Int) : Prop where
  h : O.Rg wx H S n l
  r : RRg wx rb R n m
  d : ∀ k, S k → ¬ R k
  sb : ∀ k, S k → w.heap.size ≤ k
  rb' : ∀ k, R k → w.heap.size ≤ k
  b : Below w.heap.size w wx
section
variable {O : RingInt} {w wx Y : World} {H rb : Nat} {S R S' R' : Nat → Prop} {n : Int} {l m l' m' : List Int}
theorem TwoR.later (t : TwoR O w wx H rb S R n l m) (hb : Below wx.heap.size wx Y) : TwoR O w Y H rb S R n l m := ⟨O.later t.h hb, t.r.later hb, t.d, t.sb, t.rb', t.b.trans (hb.mono t.b.size)⟩
theorem TwoR.prog (t : TwoR O w wx H rb S R n l m) (h : O.Rg Y H S' n l') (g : GrowS S S' wx Y) : TwoR O w Y H rb S' R n l' m :=
  ⟨h, t.r.keep (fun k hk => g.block k (t.r.lt k hk) (fun hs => t.d k hs hk)) g.size, fun k hs hr => (g.own k hs).elim (fun h1 => t.d k h1 hr) (fun h1 => by have := t.r.lt k hr; omega), (g.step t.b t.sb).2, t.rb', (g.step t.b t.sb).1⟩
theorem TwoR.ref (t : TwoR O w wx H rb S R n l m) (r : RRg Y rb R' n m') (g : GrowS R R' wx Y) : TwoR O w Y H rb S R' n l m' :=
  ⟨O.keep t.h (fun k hk => g.block k (O.lt t.h k hk) (t.d k hk)) g.size, r, fun k hs hr => (g.own k hr).elim (t.d k hs) (fun h1 => by have := O.lt t.h k hs; omega), t.sb, (g.step t.b t.rb').2, (g.step t.b t.rb').1⟩
end
/-- A block that is neither's, as it was. -/
structure EK (V wx : World) (E : Nat) (S R : Nat → Prop) : Prop where
  k : wx.heap[E]? = V.heap[E]?
  z : E < wx.heap.size
  es : ¬ S E
  er : ¬ R E
section
variable {V wx Y : World} {E : Nat} {S R S' R' : Nat → Prop}
theorem EK.later (t : EK V wx E S R) (hb : Below wx.heap.size wx Y) : EK V Y E S R := ⟨(hb.block E t.z).trans t.k, Nat.lt_of_lt_of_le t.z hb.size, t.es, t.er⟩
theorem EK.prog (t : EK V wx E S R) (g : GrowS S S' wx Y) : EK V Y E S' R := ⟨(g.block E t.z t.es).trans t.k, Nat.lt_of_lt_of_le t.z g.size, g.not t.z t.es, t.er⟩
theorem EK.ref (t : EK V wx E S R) (g : GrowS R R' wx Y) : EK V Y E S R' := ⟨(g.block E t.z t.er).trans t.k, Nat.lt_of_lt_of_le t.z g.size, t.es, g.not t.z t.er⟩
end
theorem acts14_read {w : World} {a : Option Addr} {n c : Nat} {l : List Wn} (hn : l.length = n) (hl : Lies w 0 w.heap.size (.slice a n c) n 3 (l.flatMap Wn.cells)) : ∀ Y, Below w.heap.size w Y → ∀ i, i < n → ∃ b off k d e, a = some ⟨b, off, none⟩ ∧ Y.cell? ⟨b, off + i * 3, none⟩ = some (.int .i64 k) ∧ Y.cell? ⟨b, off + i * 3 + 1, none⟩ = some (.int .i64 d) ∧ Y.cell? ⟨b, off + i * 3 + 2, none⟩ = some (.int .i64 e) ∧ b < w.heap.size := by
  intro Y hY i hi
  obtain ⟨a', c', e, _, _, hc⟩ := hl.keep (SameIn.of_below hY (Nat.le_refl _))
  cases e
  rcases hc with h0 | ⟨b, off, rfl, _, hb, hc⟩
  · omega
  · have hx : l[i]? = some l[i] := List.getElem?_eq_getElem (by omega)
    have f0 := hc _ _ (flat_at Wn.cells 3 (fun _ => rfl) l i 0 _ hx (by omega))
    have f1 := hc _ _ (flat_at Wn.cells 3 (fun _ => rfl) l i 1 _ hx (by omega))
    have f2 := hc _ _ (flat_at Wn.cells 3 (fun _ => rfl) l i 2 _ hx (by omega))
    exact ⟨b, off, _, _, _, rfl, f0, f1, f2, hb⟩
end Go.Proofs.Ytigmflobiiifeaa
