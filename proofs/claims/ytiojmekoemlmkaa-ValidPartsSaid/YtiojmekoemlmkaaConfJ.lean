/- What holds while a system is copied from one side's types to the other's: rows of its own, told apart by their types. -/
import Derived.Test.YtiojmekoemlmkaaConfD
import Derived.Test.YtiojmekoemlmkaaMemW
namespace Go.Proofs.Ytiojmekoemlmkaa
open Go.ChangeShapes Go.WideShapes Go.ChangeAt Go.RowKit
set_option linter.unusedVariables false

/-- A partition's three slices, written out. -/
theorem PtLies.slices {w : World} {lo hi : Nat} {v : Pv} {p : Pt} (h : PtLies w lo hi v p) : ∃ (ta sa da : Option Addr) (tc sc dc : Nat), v.ts = .slice ta p.ts.length tc ∧ v.ss = .slice sa p.ss.length sc ∧ v.ds = .slice da p.ds.length dc := by
  obtain ⟨⟨ta, tc, h1, _⟩, ⟨sa, sc, h2, _⟩, ⟨da, dc, h3, _⟩, _⟩ := h
  exact ⟨ta, sa, da, tc, sc, dc, h1, h2, h3⟩

/-- A partition in rows of its own. -/
structure PtOwns (w : World) (base E1 E2 EI : Nat) (v : Pv) (p : Pt) : Prop where
  o1 : w.ownsRow base E1 6 v.ts p.ts.length (p.ts.flatMap Tk.cells)
  o2 : w.ownsRow base E2 3 v.ss p.ss.length (p.ss.flatMap Sv.cells)
  o3 : w.ownsRow base EI 1 v.ds p.ds.length (p.ds.flatMap intCells)
  a0 : v.a0 = p.a0
  a1 : v.a1 = p.a1
  a2 : v.a2 = p.a2
theorem PtOwns.keep {E T : TypeId} {w w' : World} (h : KeepsBut E T w w') {base E1 E2 EI : Nat} {v : Pv} {p : Pt} (ho : PtOwns w base E1 E2 EI v p) (h1 : E1 ≠ E ∧ E1 ≠ T) (h2 : E2 ≠ E ∧ E2 ≠ T) (h3 : EI ≠ E ∧ EI ≠ T) : PtOwns w' base E1 E2 EI v p :=
  ⟨h.owns ho.o1 h1.1 h1.2, h.owns ho.o2 h2.1 h2.2, h.owns ho.o3 h3.1 h3.2, ho.a0, ho.a1, ho.a2⟩
theorem PtOwns.lies {w : World} {base E1 E2 EI : Nat} {v : Pv} {p : Pt} (h : PtOwns w base E1 E2 EI v p) : PtLies w base w.heap.size v p := ⟨Lies.of_owns h.o1, Lies.of_owns h.o2, Lies.of_owns h.o3, h.a0, h.a1, h.a2⟩
inductive AllOwn (w : World) (base E1 E2 EI : Nat) : List Pv → List Pt → Prop
  | nil : AllOwn w base E1 E2 EI [] []
  | cons {v p vs ps} : PtOwns w base E1 E2 EI v p → AllOwn w base E1 E2 EI vs ps → AllOwn w base E1 E2 EI (v :: vs) (p :: ps)
theorem AllOwn.keep {E T : TypeId} {w w' : World} (h : KeepsBut E T w w') {base E1 E2 EI : Nat} {vs : List Pv} {ps : List Pt} (ho : AllOwn w base E1 E2 EI vs ps) (h1 : E1 ≠ E ∧ E1 ≠ T) (h2 : E2 ≠ E ∧ E2 ≠ T) (h3 : EI ≠ E ∧ EI ≠ T) : AllOwn w' base E1 E2 EI vs ps := by
  induction ho with
  | nil => exact .nil
  | cons hp _ ih => exact .cons (hp.keep h h1 h2 h3) ih
theorem AllOwn.lies {w : World} {base E1 E2 EI : Nat} {vs : List Pv} {ps : List Pt} (ho : AllOwn w base E1 E2 EI vs ps) : AllLie w base w.heap.size vs ps := by
  induction ho with
  | nil => exact .nil
  | cons hp _ ih => exact .cons hp.lies ih
theorem AllOwn.snoc {w : World} {base E1 E2 EI : Nat} {vs : List Pv} {ps : List Pt} {v : Pv} {p : Pt} (h : AllOwn w base E1 E2 EI vs ps) (k : PtOwns w base E1 E2 EI v p) : AllOwn w base E1 E2 EI (vs ++ [v]) (ps ++ [p]) := by
  induction h with
  | nil => exact .cons k .nil
  | cons h _ ih => exact .cons h ih
theorem AllOwn.length {w : World} {base E1 E2 EI : Nat} {vs : List Pv} {ps : List Pt} (h : AllOwn w base E1 E2 EI vs ps) : vs.length = ps.length := by
  induction h with
  | nil => rfl
  | cons _ _ ih => simp [ih]

theorem pv_one (ta sa da : Option Addr) (tn tc sn sc dn dc : Nat) (a0 a1 a2 : Int) : ∀ u ∈ Pv.cells ⟨.slice ta tn tc, .slice sa sn sc, .slice da dn dc, a0, a1, a2⟩, u.oneCell' = true := by
  intro u hu; simp [Pv.cells] at hu; rcases hu with h | h | h | h | h | h <;> subst h <;> rfl
theorem Lies.pv {w : World} {b off : Nat} {xs : List Pv} {i : Nat} {x : Pv} (h : ∀ k u, (xs.flatMap Pv.cells)[k]? = some u → w.cell? ⟨b, off + k, none⟩ = some u) (hx : xs[i]? = some x) :
    w.cell? ⟨b, off + i * 6, none⟩ = some x.ts ∧ w.cell? ⟨b, off + i * 6 + 1, none⟩ = some x.ss ∧ w.cell? ⟨b, off + i * 6 + 2, none⟩ = some x.ds ∧ w.cell? ⟨b, off + i * 6 + 3, none⟩ = some (.int .u8 x.a0) ∧ w.cell? ⟨b, off + i * 6 + 4, none⟩ = some (.int .u8 x.a1) ∧ w.cell? ⟨b, off + i * 6 + 5, none⟩ = some (.int .u8 x.a2) := by
  have f := fun j hj => flat_at Pv.cells 6 (fun _ => rfl) xs i j x hx hj
  have g := fun j hj u hu => by
    have := h (i * 6 + j) u ((f j hj).trans hu)
    rwa [← Nat.add_assoc] at this
  exact ⟨g 0 (by omega) _ rfl, g 1 (by omega) _ rfl, g 2 (by omega) _ rfl, g 3 (by omega) _ rfl, g 4 (by omega) _ rfl, g 5 (by omega) _ rfl⟩

def noConf : Array Value := #[.int .i64 0, .int .i64 0, .slice none 0 0, .slice none 0 0, .slice none 0 0]
/-- The world in the midst of a system's copying. -/
structure CSt (w : World) (TA TR EW EP EC E1 E2 EI : Nat) (arg : Array Value) (fr mg : Int) (wa : Option Addr) (wc k1 : Nat) (c1 : List Value) (pa : Option Addr) (pc k2 : Nat) (vs : List Pv) (ps : List Pt) (ca : Option Addr) (cc k3 : Nat) (c3 : List Value) (wr : World) : Prop where
  box : wr.heap[w.heap.size]? = some (.cells arg TA (0, 0))
  res : wr.heap[w.heap.size + 1]? = some (.cells noConf TR (0, 0))
  obj : wr.heap[w.heap.size + 2]? = some (.cells #[.int .i64 fr, .int .i64 mg, .slice wa k1 wc, .slice pa k2 pc, .slice ca k3 cc] TR (0, 0))
  own1 : wr.ownsRow (w.heap.size + 2) EW 3 (.slice wa k1 wc) k1 c1
  own2 : wr.ownsRow (w.heap.size + 2) EP 6 (.slice pa k2 pc) k2 (vs.flatMap Pv.cells)
  all : AllOwn wr (w.heap.size + 2) E1 E2 EI vs ps
  own3 : wr.ownsRow (w.heap.size + 2) EC 4 (.slice ca k3 cc) k3 c3
  below : Below w.heap.size w wr
section
variable {w : World} {TA TR EW EP EC E1 E2 EI : Nat} {arg : Array Value} {fr mg : Int} {wa : Option Addr} {wc k1 : Nat} {c1 : List Value} {pa : Option Addr} {pc k2 : Nat} {vs : List Pv} {ps : List Pt} {ca : Option Addr} {cc k3 : Nat} {c3 : List Value} {wr : World}
theorem CSt.cells (h : CSt w TA TR EW EP EC E1 E2 EI arg fr mg wa wc k1 c1 pa pc k2 vs ps ca cc k3 c3 wr) :
    wr.cell? ⟨w.heap.size + 2, 0, none⟩ = some (.int .i64 fr) ∧ wr.cell? ⟨w.heap.size + 2, 1, none⟩ = some (.int .i64 mg) ∧ wr.cell? ⟨w.heap.size + 2, 2, none⟩ = some (.slice wa k1 wc) ∧ wr.cell? ⟨w.heap.size + 2, 3, none⟩ = some (.slice pa k2 pc) ∧ wr.cell? ⟨w.heap.size + 2, 4, none⟩ = some (.slice ca k3 cc) :=
  ⟨cell_in h.obj rfl, cell_in h.obj rfl, cell_in h.obj rfl, cell_in h.obj rfl, cell_in h.obj rfl⟩
theorem CSt.rest (h : CSt w TA TR EW EP EC E1 E2 EI arg fr mg wa wc k1 c1 pa pc k2 vs ps ca cc k3 c3 wr) :
    wr.cell? ⟨w.heap.size + 1, 0, none⟩ = some (.int .i64 0) ∧ wr.cell? ⟨w.heap.size + 1, 1, none⟩ = some (.int .i64 0) ∧ wr.cell? ⟨w.heap.size + 1, 2, none⟩ = some (.slice none 0 0) ∧ wr.cell? ⟨w.heap.size + 1, 3, none⟩ = some (.slice none 0 0) ∧ wr.cell? ⟨w.heap.size + 1, 4, none⟩ = some (.slice none 0 0) :=
  ⟨cell_in h.res rfl, cell_in h.res rfl, cell_in h.res rfl, cell_in h.res rfl, cell_in h.res rfl⟩
/-- Behind memory that is made later (a call, a new block) it holds as it did. -/
theorem CSt.later (h : CSt w TA TR EW EP EC E1 E2 EI arg fr mg wa wc k1 c1 pa pc k2 vs ps ca cc k3 c3 wr) {w1 : World} (hb : Below wr.heap.size wr w1) : CSt w TA TR EW EP EC E1 E2 EI arg fr mg wa wc k1 c1 pa pc k2 vs ps ca cc k3 c3 w1 := by
  have kp := fun (e : Nat) => KeepsBut.of_below (E := e + 1) (T := e + 1) hb
  have up : ∀ {X : Nat} {ob : Obj}, wr.heap[X]? = some ob → w1.heap[X]? = some ob := fun hX => (hb.block _ (lt_of_block hX)).trans hX
  have ka : KeepsBut (E1 + E2 + EI + 1) (E1 + E2 + EI + 1) wr w1 := KeepsBut.of_below hb
  exact ⟨up h.box, up h.res, up h.obj, owns_later h.own1 hb, owns_later h.own2 hb, h.all.keep ka ⟨by omega, by omega⟩ ⟨by omega, by omega⟩ ⟨by omega, by omega⟩, owns_later h.own3 hb, h.below.trans (hb.mono h.below.size)⟩
theorem CSt.drew (h : CSt w TA TR EW EP EC E1 E2 EI arg fr mg wa wc k1 c1 pa pc k2 vs ps ca cc k3 c3 wr) : CSt w TA TR EW EP EC E1 E2 EI arg fr mg wa wc k1 c1 pa pc k2 vs ps ca cc k3 c3 wr.drew := h.later (Below.refl _ _).drew
theorem CSt.alloc (h : CSt w TA TR EW EP EC E1 E2 EI arg fr mg wa wc k1 c1 pa pc k2 vs ps ca cc k3 c3 wr) (o : Obj) : CSt w TA TR EW EP EC E1 E2 EI arg fr mg wa wc k1 c1 pa pc k2 vs ps ca cc k3 c3 (wr.alloc o) := h.later (below1 _ _)
/-- What an append to a row of type E leaves of the variable, of what came in. -/
theorem CSt.after (h : CSt w TA TR EW EP EC E1 E2 EI arg fr mg wa wc k1 c1 pa pc k2 vs ps ca cc k3 c3 wr) {E sz n : Nat} {v : Value} {xs : List Value} (hown : wr.ownsRow (w.heap.size + 2) E sz v n xs) (hA : TA ≠ E) (hR : TR ≠ E) {w1 : World} (hg : wr.grownBy w1 v.ownBlock) :
    (∀ j u, (#[.int .i64 fr, .int .i64 mg, .slice wa k1 wc, .slice pa k2 pc, .slice ca k3 cc] : Array Value)[j]? = some u → w1.cell? ⟨w.heap.size + 2, j, none⟩ = some u) ∧ (∀ j, w1.frozen? ⟨w.heap.size + 2, j, none⟩ = false) ∧ Below w.heap.size w w1 := by
  have g3 := grown_keep hg hown h.obj hR
  exact ⟨fun j u hu => cell_in g3 hu, fun j => free_in g3 j, h.below.grown hg h.below.size fun k hk => by have := (owns_block hown k hk).1; omega⟩
theorem CSt.stepW (h : CSt w TA TR EW EP EC E1 E2 EI arg fr mg wa wc k1 c1 pa pc k2 vs ps ca cc k3 c3 wr) (n0 : TA ≠ EW) (n1 : TR ≠ EW) (n2 : EP ≠ EW ∧ EP ≠ TR) (n3 : E1 ≠ EW ∧ E1 ≠ TR) (n4 : E2 ≠ EW ∧ E2 ≠ TR) (n5 : EI ≠ EW ∧ EI ≠ TR) (n6 : EC ≠ EW ∧ EC ≠ TR)
    {w1 : World} {ao : Option Addr} {cap N : Nat} {c1' : List Value} (hown : w1.ownsRow (w.heap.size + 2) EW 3 (.slice ao N cap) N c1') (hg : wr.grownBy w1 (Value.slice wa k1 wc).ownBlock) :
    CSt w TA TR EW EP EC E1 E2 EI arg fr mg ao cap N c1' pa pc k2 vs ps ca cc k3 c3 (w1.setCell ⟨w.heap.size + 2, 2, none⟩ (.slice ao N cap)) := by
  have g1 := grown_keep hg h.own1 h.box n0
  have g2 := grown_keep hg h.own1 h.res n1
  have g3 := grown_keep hg h.own1 h.obj n1
  have kp : KeepsBut EW TR wr (w1.setCell ⟨w.heap.size + 2, 2, none⟩ (.slice ao N cap)) := (KeepsBut.of_grown hg h.own1).trans (KeepsBut.set g3 _)
  refine ⟨(Below.heap_setCell _ _ _ _ (by simp)).trans g1, (Below.heap_setCell _ _ _ _ (by simp)).trans g2, by rw [set_at g3]; rfl, setCell_owns hown g3 n1 _, kp.owns h.own2 n2.1 n2.2, h.all.keep kp n3 n4 n5, kp.owns h.own3 n6.1 n6.2, ?_⟩
  exact (h.below.grown hg h.below.size fun k hk => by have := (owns_block h.own1 k hk).1; omega).setCell (by simp) _
theorem CSt.stepC (h : CSt w TA TR EW EP EC E1 E2 EI arg fr mg wa wc k1 c1 pa pc k2 vs ps ca cc k3 c3 wr) (n0 : TA ≠ EC) (n1 : TR ≠ EC) (n2 : EP ≠ EC ∧ EP ≠ TR) (n3 : E1 ≠ EC ∧ E1 ≠ TR) (n4 : E2 ≠ EC ∧ E2 ≠ TR) (n5 : EI ≠ EC ∧ EI ≠ TR) (n6 : EW ≠ EC ∧ EW ≠ TR)
    {w1 : World} {ao : Option Addr} {cap N : Nat} {c3' : List Value} (hown : w1.ownsRow (w.heap.size + 2) EC 4 (.slice ao N cap) N c3') (hg : wr.grownBy w1 (Value.slice ca k3 cc).ownBlock) :
    CSt w TA TR EW EP EC E1 E2 EI arg fr mg wa wc k1 c1 pa pc k2 vs ps ao cap N c3' (w1.setCell ⟨w.heap.size + 2, 4, none⟩ (.slice ao N cap)) := by
  have g1 := grown_keep hg h.own3 h.box n0
  have g2 := grown_keep hg h.own3 h.res n1
  have g3 := grown_keep hg h.own3 h.obj n1
  have kp : KeepsBut EC TR wr (w1.setCell ⟨w.heap.size + 2, 4, none⟩ (.slice ao N cap)) := (KeepsBut.of_grown hg h.own3).trans (KeepsBut.set g3 _)
  refine ⟨(Below.heap_setCell _ _ _ _ (by simp)).trans g1, (Below.heap_setCell _ _ _ _ (by simp)).trans g2, by rw [set_at g3]; rfl, kp.owns h.own1 n6.1 n6.2, kp.owns h.own2 n2.1 n2.2, h.all.keep kp n3 n4 n5, setCell_owns hown g3 n1 _, ?_⟩
  exact (h.below.grown hg h.below.size fun k hk => by have := (owns_block h.own3 k hk).1; omega).setCell (by simp) _
theorem CSt.stepP (h : CSt w TA TR EW EP EC E1 E2 EI arg fr mg wa wc k1 c1 pa pc k2 vs ps ca cc k3 c3 wr) (n0 : TA ≠ EP) (n1 : TR ≠ EP) (n2 : EW ≠ EP ∧ EW ≠ TR) (n3 : E1 ≠ EP ∧ E1 ≠ TR) (n4 : E2 ≠ EP ∧ E2 ≠ TR) (n5 : EI ≠ EP ∧ EI ≠ TR) (n6 : EC ≠ EP ∧ EC ≠ TR)
    {v : Pv} {p : Pt} (hp : PtOwns wr (w.heap.size + 2) E1 E2 EI v p) {w1 : World} {ao : Option Addr} {cap N : Nat} (hown : w1.ownsRow (w.heap.size + 2) EP 6 (.slice ao N cap) N (vs.flatMap Pv.cells ++ v.cells)) (hg : wr.grownBy w1 (Value.slice pa k2 pc).ownBlock) :
    CSt w TA TR EW EP EC E1 E2 EI arg fr mg wa wc k1 c1 ao cap N (vs ++ [v]) (ps ++ [p]) ca cc k3 c3 (w1.setCell ⟨w.heap.size + 2, 3, none⟩ (.slice ao N cap)) := by
  have g1 := grown_keep hg h.own2 h.box n0
  have g2 := grown_keep hg h.own2 h.res n1
  have g3 := grown_keep hg h.own2 h.obj n1
  have kp : KeepsBut EP TR wr (w1.setCell ⟨w.heap.size + 2, 3, none⟩ (.slice ao N cap)) := (KeepsBut.of_grown hg h.own2).trans (KeepsBut.set g3 _)
  have hfl : (vs ++ [v]).flatMap Pv.cells = vs.flatMap Pv.cells ++ v.cells := by simp
  refine ⟨(Below.heap_setCell _ _ _ _ (by simp)).trans g1, (Below.heap_setCell _ _ _ _ (by simp)).trans g2, by rw [set_at g3]; rfl, kp.owns h.own1 n2.1 n2.2, ?_, (h.all.snoc hp).keep kp n3 n4 n5, kp.owns h.own3 n6.1 n6.2, ?_⟩
  · rw [hfl]; exact setCell_owns hown g3 n1 _
  · exact (h.below.grown hg h.below.size fun k hk => by have := (owns_block h.own2 k hk).1; omega).setCell (by simp) _
end
theorem set5 {w : World} {X : Nat} {T : TypeId} {cs : Array Value} (h : w.heap[X]? = some (.cells cs T (0, 0))) (hs : cs.size = 5) (v0 v1 v2 v3 v4 : Value) :
    (((((w.setCell ⟨X, 0, none⟩ v0).setCell ⟨X, 1, none⟩ v1).setCell ⟨X, 2, none⟩ v2).setCell ⟨X, 3, none⟩ v3).setCell ⟨X, 4, none⟩ v4).heap[X]? = some (.cells #[v0, v1, v2, v3, v4] T (0, 0)) := by
  have h0 := set_at (j := 0) (u := v0) h
  have h1 := set_at (j := 1) (u := v1) h0
  have h2 := set_at (j := 2) (u := v2) h1
  have h3 := set_at (j := 3) (u := v3) h2
  have h4 := set_at (j := 4) (u := v4) h3
  refine h4.trans ?_
  clear h0 h1 h2 h3 h4 h
  have e : (((((cs.setIfInBounds 0 v0).setIfInBounds 1 v1).setIfInBounds 2 v2).setIfInBounds 3 v3).setIfInBounds 4 v4) = #[v0, v1, v2, v3, v4] := by
    obtain ⟨l⟩ := cs
    match l, hs with
    | [_, _, _, _, _], _ => simp
  rw [e]
theorem keeps5 {w : World} {X : Nat} {T : TypeId} {cs : Array Value} (h : w.heap[X]? = some (.cells cs T (0, 0))) (v0 v1 v2 v3 v4 : Value) :
    KeepsBut T T w (((((w.setCell ⟨X, 0, none⟩ v0).setCell ⟨X, 1, none⟩ v1).setCell ⟨X, 2, none⟩ v2).setCell ⟨X, 3, none⟩ v3).setCell ⟨X, 4, none⟩ v4) := by
  have h0 := set_at (j := 0) (u := v0) h
  have h1 := set_at (j := 1) (u := v1) h0
  have h2 := set_at (j := 2) (u := v2) h1
  have h3 := set_at (j := 3) (u := v3) h2
  have k0 : KeepsBut T T w _ := KeepsBut.set (a := ⟨X, 0, none⟩) h v0
  have k1 : KeepsBut T T _ _ := KeepsBut.set (a := ⟨X, 1, none⟩) h0 v1
  have k2 : KeepsBut T T _ _ := KeepsBut.set (a := ⟨X, 2, none⟩) h1 v2
  have k3 : KeepsBut T T _ _ := KeepsBut.set (a := ⟨X, 3, none⟩) h2 v3
  have k4 : KeepsBut T T _ _ := KeepsBut.set (a := ⟨X, 4, none⟩) h3 v4
  exact (((k0.trans k1).trans k2).trans k3).trans k4
theorem below5 {B : Nat} {w0 w : World} (h : Below B w0 w) {X : Nat} (hX : B ≤ X) (v0 v1 v2 v3 v4 : Value) :
    Below B w0 (((((w.setCell ⟨X, 0, none⟩ v0).setCell ⟨X, 1, none⟩ v1).setCell ⟨X, 2, none⟩ v2).setCell ⟨X, 3, none⟩ v3).setCell ⟨X, 4, none⟩ v4) :=
  ((((h.setCell (p := ⟨X, 0, none⟩) hX _).setCell (p := ⟨X, 1, none⟩) hX _).setCell (p := ⟨X, 2, none⟩) hX _).setCell (p := ⟨X, 3, none⟩) hX _).setCell (p := ⟨X, 4, none⟩) hX _
theorem Try.infoCh_conf : (Try.prog.info? 72).map (fun i => (i.zero, i.size, i.bytes)) = some (some (.agg #[.bool false, .int .i64 0, .int .i64 0, .int .i64 0]), 4, 32) := by kernel_rfl
theorem Try.infoPt_conf : (Try.prog.info? 55).map (fun i => (i.zero, i.size, i.bytes)) = some (some (.agg #[.slice none 0 0, .slice none 0 0, .slice none 0 0, .int .u8 0, .int .u8 0, .int .u8 0]), 6, 80) := by kernel_rfl
theorem Try.sizeConf_conf : (Try.prog.info? 36).map (·.size) = some 5 := by kernel_rfl
theorem Try.infoCh_parcloseref03 : (Try.prog.info? 73).map (fun i => (i.zero, i.size, i.bytes)) = some (some (.agg #[.bool false, .int .i64 0, .int .i64 0, .int .i64 0]), 4, 32) := by kernel_rfl
theorem Try.infoPt_parcloseref03 : (Try.prog.info? 60).map (fun i => (i.zero, i.size, i.bytes)) = some (some (.agg #[.slice none 0 0, .slice none 0 0, .slice none 0 0, .int .u8 0, .int .u8 0, .int .u8 0]), 6, 80) := by kernel_rfl
theorem Try.sizeConf_parcloseref03 : (Try.prog.info? 26).map (·.size) = some 5 := by kernel_rfl
end Go.Proofs.Ytiojmekoemlmkaa
