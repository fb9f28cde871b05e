/- What holds while a partition is copied from one side's types to the other's: its lists grow, each in a row of its own. -/
import Derived.Test.YtiojmekoemlmkaaMemA
namespace Go.Proofs.Ytiojmekoemlmkaa
open Go.ChangeShapes Go.WideShapes Go.ChangeAt Go.RowKit
set_option linter.unusedVariables false


/-- A value of six cells at nought: what a partition's variable holds ahead of all. -/
def noPart : Array Value := #[.slice none 0 0, .slice none 0 0, .slice none 0 0, .int .u8 0, .int .u8 0, .int .u8 0]
/-- The world in the midst: B: how many blocks there were at first; arg: what came in; G: where what is made lies. -/
structure PSt (w : World) (TA TR E1 E2 EI : Nat) (arg : Array Value) (x0 x1 x2 : Int) (dn : Nat) (c3 : List Value) (G : Nat) (da : Option Addr) (dc : Nat) (ta : Option Addr) (tc k1 : Nat) (c1 : List Value) (sa : Option Addr) (sc k2 : Nat) (c2 : List Value) (wr : World) : Prop where
  box : wr.heap[w.heap.size]? = some (.cells arg TA (0, 0))
  res : wr.heap[w.heap.size + 1]? = some (.cells noPart TR (0, 0))
  obj : wr.heap[G]? = some (.cells #[.slice ta k1 tc, .slice sa k2 sc, .slice da dn dc, .int .u8 x0, .int .u8 x1, .int .u8 x2] TR (0, 0))
  hG : w.heap.size + 2 ≤ G
  own1 : wr.ownsRow (w.heap.size + 2) E1 6 (.slice ta k1 tc) k1 c1
  own2 : wr.ownsRow (w.heap.size + 2) E2 3 (.slice sa k2 sc) k2 c2
  own3 : wr.ownsRow (w.heap.size + 2) EI 1 (.slice da dn dc) dn c3
  below : Below w.heap.size w wr

section
variable {w : World} {TA TR E1 E2 EI : Nat} {arg : Array Value} {x0 x1 x2 : Int} {dn : Nat} {c3 : List Value} {G : Nat} {da : Option Addr} {dc : Nat} {ta : Option Addr} {tc k1 : Nat} {c1 : List Value} {sa : Option Addr} {sc k2 : Nat} {c2 : List Value} {wr : World}
theorem PSt.cells (h : PSt w TA TR E1 E2 EI arg x0 x1 x2 dn c3 G da dc ta tc k1 c1 sa sc k2 c2 wr) :
    wr.cell? ⟨G, 0, none⟩ = some (.slice ta k1 tc) ∧ wr.cell? ⟨G, 1, none⟩ = some (.slice sa k2 sc) ∧ wr.cell? ⟨G, 2, none⟩ = some (.slice da dn dc) ∧ wr.cell? ⟨G, 3, none⟩ = some (.int .u8 x0) ∧ wr.cell? ⟨G, 4, none⟩ = some (.int .u8 x1) ∧ wr.cell? ⟨G, 5, none⟩ = some (.int .u8 x2) :=
  ⟨cell_in h.obj rfl, cell_in h.obj rfl, cell_in h.obj rfl, cell_in h.obj rfl, cell_in h.obj rfl, cell_in h.obj rfl⟩
theorem PSt.rest (h : PSt w TA TR E1 E2 EI arg x0 x1 x2 dn c3 G da dc ta tc k1 c1 sa sc k2 c2 wr) :
    wr.cell? ⟨w.heap.size + 1, 0, none⟩ = some (.slice none 0 0) ∧ wr.cell? ⟨w.heap.size + 1, 1, none⟩ = some (.slice none 0 0) ∧ wr.cell? ⟨w.heap.size + 1, 2, none⟩ = some (.slice none 0 0) ∧ wr.cell? ⟨w.heap.size + 1, 3, none⟩ = some (.int .u8 0) ∧ wr.cell? ⟨w.heap.size + 1, 4, none⟩ = some (.int .u8 0) ∧ wr.cell? ⟨w.heap.size + 1, 5, none⟩ = some (.int .u8 0) :=
  ⟨cell_in h.res rfl, cell_in h.res rfl, cell_in h.res rfl, cell_in h.res rfl, cell_in h.res rfl, cell_in h.res rfl⟩
theorem PSt.step1 (h : PSt w TA TR E1 E2 EI arg x0 x1 x2 dn c3 G da dc ta tc k1 c1 sa sc k2 c2 wr) (n1 : TA ≠ E1) (n2 : TR ≠ E1) (n3 : E2 ≠ E1) (n4 : EI ≠ E1) (n5 : TR ≠ E2) (n6 : TR ≠ EI)
    {o : Obj} {w1 : World} {ao : Option Addr} {cap N : Nat} {c1' : List Value} (hown : w1.ownsRow (w.heap.size + 2) E1 6 (.slice ao N cap) N c1') (hg : ((wr.alloc o).drew).grownBy w1 (Value.slice ta k1 tc).ownBlock) :
    PSt w TA TR E1 E2 EI arg x0 x1 x2 dn c3 G da dc ao cap N c1' sa sc k2 c2 (w1.setCell ⟨G, 0, none⟩ (.slice ao N cap)) := by
  have hB : w.heap.size ≤ wr.heap.size := h.below.size
  have o1 : (wr.alloc o).drew.ownsRow (w.heap.size + 2) E1 6 (.slice ta k1 tc) k1 c1 := (h.own1.alloc o).drew
  have up : ∀ {X : Nat} {ob : Obj}, wr.heap[X]? = some ob → (wr.alloc o).drew.heap[X]? = some ob := fun hX => by
    rw [heap_drew]; exact (Below.heap_alloc _ _ _ (lt_of_block hX)).trans hX
  have g1 := grown_keep hg o1 (up h.box) n1
  have g2 := grown_keep hg o1 (up h.res) n2
  have g3 := grown_keep hg o1 (up h.obj) n2
  have hG := h.hG
  refine ⟨(Below.heap_setCell _ _ _ _ (by simp; omega)).trans g1, (Below.heap_setCell _ _ _ _ (by simp; omega)).trans g2, by rw [set_at g3]; rfl, h.hG, ?_, ?_, ?_, ?_⟩
  · exact setCell_owns hown g3 n2 _
  · exact setCell_owns (grown_owns hg o1 ((h.own2.alloc o).drew) n3) g3 n5 _
  · exact setCell_owns (grown_owns hg o1 ((h.own3.alloc o).drew) n4) g3 n6 _
  · refine ((((h.below.alloc hB o).drew).grown hg (Nat.le_trans hB (by simp [World.drew])) ?_).setCell (by simp; omega) _)
    intro k hk
    have := (owns_block o1 k hk).1
    omega
theorem PSt.step2 (h : PSt w TA TR E1 E2 EI arg x0 x1 x2 dn c3 G da dc ta tc k1 c1 sa sc k2 c2 wr) (n1 : TA ≠ E2) (n2 : TR ≠ E2) (n3 : E1 ≠ E2) (n4 : EI ≠ E2) (n5 : TR ≠ E1) (n6 : TR ≠ EI)
    {o : Obj} {w1 : World} {ao : Option Addr} {cap N : Nat} {c2' : List Value} (hown : w1.ownsRow (w.heap.size + 2) E2 3 (.slice ao N cap) N c2') (hg : ((wr.alloc o).drew).grownBy w1 (Value.slice sa k2 sc).ownBlock) :
    PSt w TA TR E1 E2 EI arg x0 x1 x2 dn c3 G da dc ta tc k1 c1 ao cap N c2' (w1.setCell ⟨G, 1, none⟩ (.slice ao N cap)) := by
  have hB : w.heap.size ≤ wr.heap.size := h.below.size
  have o1 : (wr.alloc o).drew.ownsRow (w.heap.size + 2) E2 3 (.slice sa k2 sc) k2 c2 := (h.own2.alloc o).drew
  have up : ∀ {X : Nat} {ob : Obj}, wr.heap[X]? = some ob → (wr.alloc o).drew.heap[X]? = some ob := fun hX => by
    rw [heap_drew]; exact (Below.heap_alloc _ _ _ (lt_of_block hX)).trans hX
  have g1 := grown_keep hg o1 (up h.box) n1
  have g2 := grown_keep hg o1 (up h.res) n2
  have g3 := grown_keep hg o1 (up h.obj) n2
  have hG := h.hG
  refine ⟨(Below.heap_setCell _ _ _ _ (by simp; omega)).trans g1, (Below.heap_setCell _ _ _ _ (by simp; omega)).trans g2, by rw [set_at g3]; rfl, h.hG, ?_, ?_, ?_, ?_⟩
  · exact setCell_owns (grown_owns hg o1 ((h.own1.alloc o).drew) n3) g3 n5 _
  · exact setCell_owns hown g3 n2 _
  · exact setCell_owns (grown_owns hg o1 ((h.own3.alloc o).drew) n4) g3 n6 _
  · refine ((((h.below.alloc hB o).drew).grown hg (Nat.le_trans hB (by simp [World.drew])) ?_).setCell (by simp; omega) _)
    intro k hk
    have := (owns_block o1 k hk).1
    omega
theorem PSt.up (h : PSt w TA TR E1 E2 EI arg x0 x1 x2 dn c3 G da dc ta tc k1 c1 sa sc k2 c2 wr) {o : Obj} {X : Nat} {ob : Obj} (hX : wr.heap[X]? = some ob) : (wr.alloc o).drew.heap[X]? = some ob := by
  rw [heap_drew]; exact (Below.heap_alloc _ _ _ (lt_of_block hX)).trans hX
theorem PSt.after1 (h : PSt w TA TR E1 E2 EI arg x0 x1 x2 dn c3 G da dc ta tc k1 c1 sa sc k2 c2 wr) (n1 : TA ≠ E1) (n2 : TR ≠ E1) {o : Obj} {w1 : World} (hg : ((wr.alloc o).drew).grownBy w1 (Value.slice ta k1 tc).ownBlock) :
    (w1.cell? ⟨G, 0, none⟩ = some (.slice ta k1 tc) ∧ w1.frozen? ⟨G, 0, none⟩ = false) ∧ (∀ j u, arg[j]? = some u → w1.cell? ⟨w.heap.size, j, none⟩ = some u) ∧ ∀ p : Addr, p.block < w.heap.size → w1.cell? p = wr.cell? p := by
  have o1 : (wr.alloc o).drew.ownsRow (w.heap.size + 2) E1 6 (.slice ta k1 tc) k1 c1 := (h.own1.alloc o).drew
  have g1 := grown_keep hg o1 (h.up h.box) n1
  have g3 := grown_keep hg o1 (h.up h.obj) n2
  refine ⟨⟨cell_in g3 rfl, free_in g3 0⟩, fun j u hu => cell_in g1 hu, fun p hp => ?_⟩
  have hb : Below w.heap.size w w1 := ((h.below.alloc h.below.size o).drew).grown hg (Nat.le_trans h.below.size (by simp [World.drew])) fun k hk => by have := (owns_block o1 k hk).1; omega
  exact (hb.cell hp).trans (h.below.cell hp).symm
theorem PSt.after2 (h : PSt w TA TR E1 E2 EI arg x0 x1 x2 dn c3 G da dc ta tc k1 c1 sa sc k2 c2 wr) (n1 : TA ≠ E2) (n2 : TR ≠ E2) {o : Obj} {w1 : World} (hg : ((wr.alloc o).drew).grownBy w1 (Value.slice sa k2 sc).ownBlock) :
    (w1.cell? ⟨G, 1, none⟩ = some (.slice sa k2 sc) ∧ w1.frozen? ⟨G, 1, none⟩ = false) ∧ (∀ j u, arg[j]? = some u → w1.cell? ⟨w.heap.size, j, none⟩ = some u) ∧ ∀ p : Addr, p.block < w.heap.size → w1.cell? p = wr.cell? p := by
  have o1 : (wr.alloc o).drew.ownsRow (w.heap.size + 2) E2 3 (.slice sa k2 sc) k2 c2 := (h.own2.alloc o).drew
  have g1 := grown_keep hg o1 (h.up h.box) n1
  have g3 := grown_keep hg o1 (h.up h.obj) n2
  refine ⟨⟨cell_in g3 rfl, free_in g3 1⟩, fun j u hu => cell_in g1 hu, fun p hp => ?_⟩
  have hb : Below w.heap.size w w1 := ((h.below.alloc h.below.size o).drew).grown hg (Nat.le_trans h.below.size (by simp [World.drew])) fun k hk => by have := (owns_block o1 k hk).1; omega
  exact (hb.cell hp).trans (h.below.cell hp).symm
theorem PSt.make {A cap : Nat} {ar : Array Value} (hfr : Fresh ar cap dn 1 c3) (hbox : wr.heap[w.heap.size]? = some (.cells arg TA (0, 0))) (hres : wr.heap[w.heap.size + 1]? = some (.cells noPart TR (0, 0)))
    (hobj : wr.heap[G]? = some (.cells #[.slice none 0 0, .slice none 0 0, .slice (some ⟨A, 0, none⟩) dn cap, .int .u8 x0, .int .u8 x1, .int .u8 x2] TR (0, 0))) (harr : wr.heap[A]? = some (.cells ar EI (0, 0))) (hG : w.heap.size + 2 ≤ G) (hA : w.heap.size + 2 ≤ A) (hb : Below w.heap.size w wr) :
    PSt w TA TR E1 E2 EI arg x0 x1 x2 dn c3 G (some ⟨A, 0, none⟩) cap none 0 0 [] none 0 0 [] wr :=
  ⟨hbox, hres, hobj, hG, World.ownsRow_nil _ _ _ _, World.ownsRow_nil _ _ _ _, hfr.owns harr hA, hb⟩
end
theorem set6 {w : World} {X : Nat} {T : TypeId} {cs : Array Value} (h : w.heap[X]? = some (.cells cs T (0, 0))) (hs : cs.size = 6) (v0 v1 v2 v3 v4 v5 : Value) :
    ((((((w.setCell ⟨X, 0, none⟩ v0).setCell ⟨X, 1, none⟩ v1).setCell ⟨X, 2, none⟩ v2).setCell ⟨X, 3, none⟩ v3).setCell ⟨X, 4, none⟩ v4).setCell ⟨X, 5, none⟩ v5).heap[X]? = some (.cells #[v0, v1, v2, v3, v4, v5] T (0, 0)) := by
  have h0 := set_at (j := 0) (u := v0) h
  have h1 := set_at (j := 1) (u := v1) h0
  have h2 := set_at (j := 2) (u := v2) h1
  have h3 := set_at (j := 3) (u := v3) h2
  have h4 := set_at (j := 4) (u := v4) h3
  have h5 := set_at (j := 5) (u := v5) h4
  refine h5.trans ?_
  clear h0 h1 h2 h3 h4 h5 h
  have e : ((((((cs.setIfInBounds 0 v0).setIfInBounds 1 v1).setIfInBounds 2 v2).setIfInBounds 3 v3).setIfInBounds 4 v4).setIfInBounds 5 v5) = #[v0, v1, v2, v3, v4, v5] := by
    obtain ⟨l⟩ := cs
    match l, hs with
    | [_, _, _, _, _, _], _ => simp
  rw [e]
theorem owns6 {w : World} {X : Nat} {T : TypeId} {cs : Array Value} (h : w.heap[X]? = some (.cells cs T (0, 0))) {base e sz : Nat} {v : Value} {n : Nat} {xs : List Value} (ho : w.ownsRow base e sz v n xs) (hT : T ≠ e) (v0 v1 v2 v3 v4 v5 : Value) :
    ((((((w.setCell ⟨X, 0, none⟩ v0).setCell ⟨X, 1, none⟩ v1).setCell ⟨X, 2, none⟩ v2).setCell ⟨X, 3, none⟩ v3).setCell ⟨X, 4, none⟩ v4).setCell ⟨X, 5, none⟩ v5).ownsRow base e sz v n xs :=
  by
  have h0 := set_at (j := 0) (u := v0) h
  have h1 := set_at (j := 1) (u := v1) h0
  have h2 := set_at (j := 2) (u := v2) h1
  have h3 := set_at (j := 3) (u := v3) h2
  have h4 := set_at (j := 4) (u := v4) h3
  have o0 := setCell_owns (a := ⟨X, 0, none⟩) ho h hT v0
  have o1 := setCell_owns (a := ⟨X, 1, none⟩) o0 h0 hT v1
  have o2 := setCell_owns (a := ⟨X, 2, none⟩) o1 h1 hT v2
  have o3 := setCell_owns (a := ⟨X, 3, none⟩) o2 h2 hT v3
  have o4 := setCell_owns (a := ⟨X, 4, none⟩) o3 h3 hT v4
  exact setCell_owns (a := ⟨X, 5, none⟩) o4 h4 hT v5
theorem below6 {B : Nat} {w0 w : World} (h : Below B w0 w) {X : Nat} (hX : B ≤ X) (v0 v1 v2 v3 v4 v5 : Value) :
    Below B w0 ((((((w.setCell ⟨X, 0, none⟩ v0).setCell ⟨X, 1, none⟩ v1).setCell ⟨X, 2, none⟩ v2).setCell ⟨X, 3, none⟩ v3).setCell ⟨X, 4, none⟩ v4).setCell ⟨X, 5, none⟩ v5) :=
  (((((h.setCell (p := ⟨X, 0, none⟩) hX _).setCell (p := ⟨X, 1, none⟩) hX _).setCell (p := ⟨X, 2, none⟩) hX _).setCell (p := ⟨X, 3, none⟩) hX _).setCell (p := ⟨X, 4, none⟩) hX _).setCell (p := ⟨X, 5, none⟩) hX _
theorem Try.infoTk_conf : (Try.prog.info? 100).map (fun i => (i.zero, i.size, i.bytes)) = some (some (.agg #[.bool false, .int .i64 0, .int .i64 0, .int .i64 0, .int .i64 0, .int .i64 0]), 6, 48) := by kernel_rfl
theorem Try.infoSv_conf : (Try.prog.info? 103).map (fun i => (i.zero, i.size, i.bytes)) = some (some (.agg #[.bool false, .int .i64 0, .int .i64 0]), 3, 24) := by kernel_rfl
theorem Try.sizePart_conf : (Try.prog.info? 55).map (·.size) = some 6 := by kernel_rfl
theorem Try.infoTk_parcloseref03 : (Try.prog.info? 101).map (fun i => (i.zero, i.size, i.bytes)) = some (some (.agg #[.bool false, .int .i64 0, .int .i64 0, .int .i64 0, .int .i64 0, .int .i64 0]), 6, 48) := by kernel_rfl
theorem Try.infoSv_parcloseref03 : (Try.prog.info? 104).map (fun i => (i.zero, i.size, i.bytes)) = some (some (.agg #[.bool false, .int .i64 0, .int .i64 0]), 3, 24) := by kernel_rfl
theorem Try.sizePart_parcloseref03 : (Try.prog.info? 60).map (·.size) = some 6 := by kernel_rfl
end Go.Proofs.Ytiojmekoemlmkaa
