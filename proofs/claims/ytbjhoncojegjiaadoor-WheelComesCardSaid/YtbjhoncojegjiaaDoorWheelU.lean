/- The program's wheel in the midst of Go: the wheel, the boxes, who has come. -/
import Derived.Test.YtbjhoncojegjiaaDoorWheelQ
namespace Go.Proofs.YtbjhoncojegjiaaDoor
open Go.RowKit Go.Shelf
set_option linter.unusedVariables false

theorem grow_others {W W' : World} {H : Nat} {now len : Int} {y : Nat → Int} {sl : Nat → Value} {L : Nat → List Nat} {S' : Nat → Prop} (h : WMem W H now len y sl L) (g : GrowS (WOwn H sl) S' W W') : KeepsOthers W W' :=
  ⟨g.size, fun k o hk ho => (g.block k (lt_of_block hk) (fun hw => by
    rcases hw with rfl | ⟨j, hj, hb⟩
    · obtain ⟨cur, h1, _⟩ := h.c
      rw [h1] at hk; cases hk; cases ho
    · obtain ⟨_, cs, h1⟩ := owns_block (h.r.row j hj) k hb
      rw [h1] at hk; cases hk; cases ho)).trans hk⟩
structure GoB (w0 : World) (S0 : Nat → Prop) (H n : Nat) (len : Int) (wb cb sb : Nat) (y : Nat → Int) (sl : Nat → Value) (L : Nat → List Nat) (C : List Nat) (v : Value) (W : World) : Prop where
  mem : WMem W H n len y sl L
  wbx : W.heap[wb]? = some (.cells #[.pointer (some ⟨H, 0, none⟩)] 24 (0, 0))
  sbx : W.heap[sb]? = some (.cells #[.pointer (some ⟨H, 259 + turnK n, none⟩)] 54 (0, 0))
  cbx : W.heap[cb]? = some (.cells #[v] 30 (0, 0))
  row : W.ownsRow w0.heap.size 3 1 v C.length (natCells C)
  nw : ¬ WOwn H sl wb
  ns : ¬ WOwn H sl sb
  nc : ¬ WOwn H sl cb
  nv : ∀ g, v.ownBlock = some g → ¬ WOwn H sl g ∧ g ≠ wb ∧ g ≠ sb ∧ g ≠ cb
  ne : wb ≠ sb ∧ wb ≠ cb ∧ sb ≠ cb
  lo : w0.heap.size ≤ wb ∧ w0.heap.size ≤ sb ∧ w0.heap.size ≤ cb
  grow : GrowS S0 (WOwn H sl) w0 W
section
variable {w0 W W' : World} {S0 : Nat → Prop} {H n : Nat} {len : Int} {wb cb sb : Nat} {y : Nat → Int} {sl : Nat → Value} {L : Nat → List Nat} {C : List Nat} {v : Value}
theorem GoB.same (h : GoB w0 S0 H n len wb cb sb y sl L C v W) (hs : ∀ (b : Nat) (cs : Array Value) (t : TypeId), W.heap[b]? = some (Obj.cells cs t (0, 0)) → W'.heap[b]? = some (Obj.cells cs t (0, 0))) (hg : GrowS S0 (WOwn H sl) w0 W') : GoB w0 S0 H n len wb cb sb y sl L C v W' :=
  ⟨h.mem.same fun b hb => by
      rcases hb with rfl | ⟨j, hj, hb⟩
      · obtain ⟨cur, h1, _⟩ := h.mem.c
        rw [h1]; exact hs _ _ _ h1
      · obtain ⟨_, cs, h1⟩ := owns_block (h.mem.r.row j hj) b hb
        rw [h1]; exact hs _ _ _ h1,
    hs _ _ _ h.wbx, hs _ _ _ h.sbx, hs _ _ _ h.cbx, owns_same h.row (fun g hg => by
      obtain ⟨_, cs, h1⟩ := owns_block h.row g hg
      rw [h1]; exact hs _ _ _ h1), h.nw, h.ns, h.nc, h.nv, h.ne, h.lo, hg⟩
/-- What is no cells may turn. -/
theorem GoB.others (h : GoB w0 S0 H n len wb cb sb y sl L C v W) {B : Nat} {row : Option Nat} (hB : w0.heap.size ≤ B) (hg : W.grownBy W' row) (hr : ∀ r, row = some r → B ≤ r ∧ ∃ o : Obj, W.heap[r]? = some o ∧ o.isCells = false) : GoB w0 S0 H n len wb cb sb y sl L C v W' :=
  h.same (fun b cs t hb => (hg.block b (lt_of_block hb) (fun e => by
    obtain ⟨_, o, ho, hc⟩ := hr b e.symm
    rw [hb] at ho; cases ho; cases hc)).trans hb)
    ⟨hg.os.trans h.grow.os, hg.tape.trans h.grow.tape, hg.output.trans h.grow.output, Nat.le_trans h.grow.size hg.size, fun k hk hS => (hg.block k (Nat.lt_of_lt_of_le hk h.grow.size) (fun e => by
      have := (hr k e.symm).1
      omega)).trans (h.grow.block k hk hS), h.grow.own⟩
/-- The wheel is turned. -/
theorem GoB.wheel (h : GoB w0 S0 H n len wb cb sb y sl L C v W) {y' : Nat → Int} {sl' : Nat → Value} {L' : Nat → List Nat} {len' : Int} (hm : WMem W' H n len' y' sl' L') (g : GrowS (WOwn H sl) (WOwn H sl') W W') : GoB w0 S0 H n len' wb cb sb y' sl' L' C v W' :=
  ⟨hm, (g.block _ (lt_of_block h.wbx) h.nw).trans h.wbx, (g.block _ (lt_of_block h.sbx) h.ns).trans h.sbx, (g.block _ (lt_of_block h.cbx) h.nc).trans h.cbx,
    owns_same h.row (fun b hb => g.block b (owns_lt h.row hb) (h.nv b hb).1), g.not (lt_of_block h.wbx) h.nw, g.not (lt_of_block h.sbx) h.ns, g.not (lt_of_block h.cbx) h.nc,
    fun b hb => ⟨g.not (owns_lt h.row hb) (h.nv b hb).1, (h.nv b hb).2⟩, h.ne, h.lo, h.grow.trans g⟩
theorem grow_later {S0 S : Nat → Prop} (h : GrowS S0 S w0 W) (hb : Below W.heap.size W W') : GrowS S0 S w0 W' := h.trans (GrowS.of_below hb)
theorem GoB.later (h : GoB w0 S0 H n len wb cb sb y sl L C v W) (hb : Below W.heap.size W W') : GoB w0 S0 H n len wb cb sb y sl L C v W' := h.same (fun b cs t h1 => (hb.block b (lt_of_block h1)).trans h1) (grow_later h.grow hb)
/-- One more has come. -/
theorem GoB.come (h : GoB w0 S0 H n len wb cb sb y sl L C v W) {W2 : World} {ao : Option Addr} {cp x : Nat} (hb : Below W.heap.size W W2) (ho : W'.ownsRow w0.heap.size 3 1 (.slice ao (C.length + 1) cp) (C.length + 1) (natCells C ++ [.int .i64 x])) (hg : W2.grownBy W' v.ownBlock)
    (hn : (Value.slice ao (C.length + 1) cp).ownBlock = v.ownBlock ∨ (Value.slice ao (C.length + 1) cp).ownBlock = some W2.heap.size) :
    GoB w0 S0 H n len wb cb sb y sl L (C ++ [x]) (.slice ao (C.length + 1) cp) (W'.setCell ⟨cb, 0, none⟩ (.slice ao (C.length + 1) cp)) ∧ KeepsOthers W (W'.setCell ⟨cb, 0, none⟩ (.slice ao (C.length + 1) cp)) := by
  have hsz : W.heap.size ≤ W2.heap.size := hb.size
  have keep : ∀ b, b < W.heap.size → v.ownBlock ≠ some b → W'.heap[b]? = W.heap[b]? := fun b h1 h2 => (hg.block b (by omega) (fun e => h2 e.symm)).trans (hb.block b h1)
  have keep2 : ∀ b, b < W.heap.size → v.ownBlock ≠ some b → b ≠ cb → (W'.setCell ⟨cb, 0, none⟩ (.slice ao (C.length + 1) cp)).heap[b]? = W.heap[b]? := fun b h1 h2 h3 => (Below.heap_setCell _ _ _ _ h3).trans (keep b h1 h2)
  have hown : ∀ b, WOwn H sl b → v.ownBlock ≠ some b := fun b hw e => (h.nv b e).1 hw
  have hvn : ∀ g, (Value.slice ao (C.length + 1) cp).ownBlock = some g → v.ownBlock = some g ∨ W.heap.size ≤ g := fun g e => by
    rcases hn with h1 | h1
    · exact .inl (by rw [← h1]; exact e)
    · right; rw [h1] at e; cases e; exact hsz
  have hcb : W'.heap[cb]? = W.heap[cb]? := keep cb (lt_of_block h.cbx) (fun e => (h.nv cb e).2.2.2 rfl)
  refine ⟨⟨h.mem.same fun b hw => keep2 b (h.mem.lt b hw) (hown b hw) (fun e => h.nc (e ▸ hw)),
    (keep2 wb (lt_of_block h.wbx) (fun e => (h.nv wb e).2.1 rfl) h.ne.2.1).trans h.wbx, (keep2 sb (lt_of_block h.sbx) (fun e => (h.nv sb e).2.2.1 rfl) h.ne.2.2).trans h.sbx, by rw [set_at (hcb.trans h.cbx)]; rfl, ?_, h.nw, h.ns, h.nc, fun g e => ?_, h.ne, h.lo, ?_⟩, ?_⟩
  · rw [List.length_append]
    have e : natCells C ++ [.int .i64 (x : Int)] = natCells (C ++ [x]) := by simp [natCells, nI]
    rw [e] at ho
    refine owns_same ho fun g e => Below.heap_setCell _ _ _ _ (fun e2 => ?_)
    rcases hvn g e with h1 | h1
    · exact (h.nv g h1).2.2.2 e2
    · have := lt_of_block h.cbx; rw [show g = cb from e2] at h1; omega
  · rcases hvn g e with h1 | h1
    · exact h.nv g h1
    · have e1 := lt_of_block h.wbx
      have e2 := lt_of_block h.sbx
      have e3 := lt_of_block h.cbx
      exact ⟨fun hw => by have := h.mem.lt g hw; omega, by omega, by omega, by omega⟩
  · refine ⟨hg.os.trans (hb.os.trans h.grow.os), hg.tape.trans (hb.tape.trans h.grow.tape), hg.output.trans (hb.output.trans h.grow.output), by simpa using Nat.le_trans (Nat.le_trans h.grow.size hsz) hg.size, fun k hk hS => ?_, fun k hk => h.grow.own k hk⟩
    have hk2 := Nat.lt_of_lt_of_le hk h.grow.size
    refine (keep2 k hk2 (fun e => ?_) (fun e => by have := h.lo.2.2; omega)).trans (h.grow.block k hk hS)
    have := (owns_block h.row k e).1
    omega
  · refine (KeepsOthers.of_grownBy (W := W) (W' := W') (row := v.ownBlock) ⟨hg.os.trans hb.os, hg.tape.trans hb.tape, hg.output.trans hb.output, Nat.le_trans hsz hg.size, fun k hk hne => keep k hk (fun e => hne e.symm)⟩ (fun j o e hj => ?_)).trans (KeepsOthers.setCell _ _ _)
    obtain ⟨_, cs, h1⟩ := owns_block h.row j e
    rw [h1] at hj; cases hj; rfl
end
/-- Between two rounds; ahead of a round's body. -/
def GoI (w0 : World) (S0 : Nat → Prop) (H n : Nat) (len : Int) (wb cb sb : Nat) (y0 : Nat → Int) (rest : List Nat) (W : World) : Prop :=
  ∃ y sl L C v, GoB w0 S0 H n len wb cb sb y sl L C v W ∧ GMid n y0 y L rest C
def GoX (w0 : World) (S0 : Nat → Prop) (H n : Nat) (len : Int) (wb cb sb : Nat) (y0 : Nat → Int) (x : Nat) (l : List Nat) (W : World) : Prop :=
  ∃ y sl L C v, GoB w0 S0 H n len wb cb sb y sl (updR L (turnK n) l) C v W ∧ GMid n y0 y L (l ++ [x]) C
section
variable {w0 : World} {S0 : Nat → Prop} {H n : Nat} {len : Int} {wb cb sb : Nat} {y0 : Nat → Int}
theorem GoI.own (B : Nat) (hB : w0.heap.size ≤ B) (rest : List Nat) : OwnW B (GoI w0 S0 H n len wb cb sb y0 rest) := fun _ W W' row ⟨y, sl, L, C, v, h, m⟩ hg hr => ⟨y, sl, L, C, v, h.others hB hg hr, m⟩
theorem GoX.own (B : Nat) (hB : w0.heap.size ≤ B) (x : Nat) (l : List Nat) : OwnW B (GoX w0 S0 H n len wb cb sb y0 x l) := fun _ W W' row ⟨y, sl, L, C, v, h, m⟩ hg hr => ⟨y, sl, L, C, v, h.others hB hg hr, m⟩
theorem GoI.take (ht : turnK n < 256) {l : List Nat} {x : Nat} {W : World} (h : GoI w0 S0 H n len wb cb sb y0 (l ++ [x]) W) : Calls Tryd.prog 37 #[.pointer (some ⟨H, 259 + turnK n, none⟩)] W fun e W' => e = .returned (.int .i64 x) ∧ GoX w0 S0 H n len wb cb sb y0 x l W' ∧ KeepsOthers W W' := by
  obtain ⟨y, sl, L, C, v, h, m⟩ := h
  have hl := m.len ht
  rw [m.is, List.length_append] at hl
  refine (take_any h.mem (turnK n) ht l x m.is (by omega)).mono ?_
  rintro e W' ⟨v', rfl, hm, hg⟩
  exact ⟨rfl, ⟨y, _, L, C, v, h.wheel hm hg, m⟩, grow_others h.mem hg⟩
end
end Go.Proofs.YtbjhoncojegjiaaDoor
