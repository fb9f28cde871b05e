/- WheelPlays, out of the contracts. -/
import Derived.Test.YtbjhoncojegjiaaDoorWheelC
import Derived.Test.YtbjhoncojegjiaaDoorRead
import Derived.Deep.CutRange
import Derived.Deep.CutBlock
namespace Go.Proofs.YtbjhoncojegjiaaDoor
open Go.ChangeShapes Go.WideShapes Go.ChangeAt Go.RowKit
set_option linter.unusedVariables false

/-- Both wheels tell the same. -/
structure TwoW (O : WheelOk) (Y : World) (H : Nat) (S : Nat → Prop) (rb G : Nat) (now : Int) (x : Nat → Int) : Prop where
  h : O.Wh Y H S now x
  r : RWh Y rb G now x
  n1 : ¬ S rb
  n2 : ¬ S G
  b : 0 ≤ now ∧ now ≤ 4611686018427387904
  t : ∀ A B, But2 rb G A B → O.T A → O.T B
section
variable {O : WheelOk} {Y Y' : World} {H : Nat} {S S' : Nat → Prop} {rb G : Nat} {now now' : Int} {x x' : Nat → Int}
theorem TwoW.later (t : TwoW O Y H S rb G now x) (hb : Below Y.heap.size Y Y') : TwoW O Y' H S rb G now x := ⟨O.later t.h hb, t.r.later hb, t.n1, t.n2, t.b, t.t⟩
theorem TwoW.grow (t : TwoW O Y H S rb G now x) (g : GrowS S S' Y Y') : RWh Y' rb G now x ∧ ¬ S' rb ∧ ¬ S' G := ⟨t.r.keep (g.block _ t.r.lt.1 t.n1) (g.block _ t.r.lt.2 t.n2), g.not t.r.lt.1 t.n1, g.not t.r.lt.2 t.n2⟩
theorem TwoW.made (h : O.Wh Y H S now x) (n1 : ¬ S rb) (n2 : ¬ S G) (b : But2 rb G Y Y') (r : RWh Y' rb G now x) (hb : 0 ≤ now ∧ now ≤ 4611686018427387904) (ht : ∀ A B, But2 rb G A B → O.T A → O.T B) : TwoW O Y' H S rb G now x :=
  ⟨O.keep h (fun k hk => b.block k (O.lt h k hk) (fun e => n1 (e ▸ hk)) (fun e => n2 (e ▸ hk))) b.size (ht _ _ b (O.tt h)), r, n1, n2, hb, ht⟩
theorem But2.belowH {w w' : World} {B : Nat} (h : But2 rb G w w') (h1 : B ≤ rb) (h2 : B ≤ G) (hB : B ≤ w.heap.size) : Below B w w' := ⟨h.os, h.tape, h.output, h.size, fun k hk => h.block k (by omega) (by omega) (by omega)⟩
end
theorem acts13_read {w : World} {a : Option Addr} {n c : Nat} {l : List Wn} (hn : l.length = n) (hl : Lies w 0 w.heap.size (.slice a n c) n 3 (l.flatMap Wn.cells)) : ∀ Y, Below w.heap.size w Y → ∀ i, i < n → ∃ b off k d e, a = some ⟨b, off, none⟩ ∧ Y.cell? ⟨b, off + i * 3, none⟩ = some (.int .i64 k) ∧ Y.cell? ⟨b, off + i * 3 + 1, none⟩ = some (.int .i64 d) ∧ Y.cell? ⟨b, off + i * 3 + 2, none⟩ = some (.int .i64 e) ∧ b < w.heap.size := by
  intro Y hY i hi
  obtain ⟨a', c', e, _, _, hc⟩ := hl.keep (SameIn.of_below hY (Nat.le_refl _))
  cases e
  rcases hc with h0 | ⟨b, off, rfl, _, hb, hc⟩
  · omega
  · have hx : l[i]? = some l[i] := List.getElem?_eq_getElem (by omega)
    have f0 := hc _ _ (flat_at Wn.cells 3 (fun _ => rfl) l i 0 _ hx (by omega))
    have f1 := hc _ _ (flat_at Wn.cells 3 (fun _ => rfl) l i 1 _ hx (by omega))
    have f2 := hc _ _ (flat_at Wn.cells 3 (fun _ => rfl) l i 2 _ hx (by omega))
    exact ⟨b, off, _, _, _, rfl, f0, f1, f2, hb⟩
theorem none_lies (Y : World) (a : Option Addr) (c : Nat) (ha : a = none → c = 0) : Lies Y 0 Y.heap.size (.slice a 0 c) 0 1 (([] : List Int).flatMap intCells) := ⟨a, c, rfl, rfl, fun h => ⟨rfl, ha h⟩, .inl rfl⟩
end Go.Proofs.YtbjhoncojegjiaaDoor
