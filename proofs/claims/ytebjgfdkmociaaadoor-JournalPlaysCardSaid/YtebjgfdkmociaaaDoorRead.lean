/- Joined of ReadA, ReadW, ConfR, ConfS: From what a frame tells of an argument to what lies in memory: what is told of all things. -/
import Derived.Test.YtebjgfdkmociaaaDoorBase
import Derived.Deep.Slices
import Derived.Deep.Fields
import Derived.Laws.IdiomArrays
import Derived.ChangeArms
namespace Go.Proofs.YtebjgfdkmociaaaDoor
open Go.ChangeShapes Go.WideShapes Go.ChangeAt Go.RowKit
set_option linter.unusedVariables false

def I64 (n : Int) : Prop := -9223372036854775808 ≤ n ∧ n ≤ 9223372036854775807
def U8 (n : Int) : Prop := 0 ≤ n ∧ n ≤ 255
theorem i64_of {n : Int} (h : (Lit.int .i64 n).wf = true) : I64 n := by show _ ∧ _; simpa [Lit.wf, IntKind.min, IntKind.max, IntKind.signed, IntKind.bits] using h
theorem u8_of {n : Int} (h : (Lit.int .u8 n).wf = true) : U8 n := by show _ ∧ _; simpa [Lit.wf, IntKind.min, IntKind.max, IntKind.signed, IntKind.bits] using h
def Tk.In (k : Tk) : Prop := I64 k.t ∧ I64 k.d ∧ I64 k.v ∧ I64 k.lo ∧ I64 k.top
def Sv.In (k : Sv) : Prop := I64 k.c ∧ I64 k.t
def Wn.In (k : Wn) : Prop := I64 k.at_ ∧ I64 k.len ∧ I64 k.part
def Ch.In (k : Ch) : Prop := I64 k.from_ ∧ I64 k.to ∧ I64 k.size
def Pt.In (p : Pt) : Prop := (∀ x ∈ p.ts, x.In) ∧ (∀ x ∈ p.ss, x.In) ∧ (∀ x ∈ p.ds, I64 x) ∧ U8 p.a0 ∧ U8 p.a1 ∧ U8 p.a2
def Cf.In (c : Cf) : Prop := I64 c.frame ∧ I64 c.margin ∧ (∀ x ∈ c.ws, x.In) ∧ (∀ x ∈ c.ps, x.In) ∧ (∀ x ∈ c.cs, x.In)

section
variable {H : Type} {enc : TypeId × Value → H} {P : Program} {W : World} {spare : Nat → Bool} {held : Bool}
/-- Cells that read as type e are those of a thing of which R holds. -/
def Reads {α : Type} (enc : TypeId × Value → H) (P : Program) (W : World) (spare : Nat → Bool) (held : Bool) (e : TypeId) (f : α → List Value) (R : α → Prop) : Prop :=
  ∀ n cs y, DataW.trod enc P W 0 spare held n e cs = some y → ∃ x, cs = f x ∧ R x
theorem lies_of_trod {α : Type} [Inhabited α] {t e : TypeId} {sz : Nat} {f : α → List Value} {R : α → Prop} (ht : P.underlying t = some (.slice e)) (hsz : P.cellsOf e = sz) (hpos : 0 < sz) (hf : ∀ x, (f x).length = sz)
    (hr : Reads enc P W spare held e f R) {n : Nat} {v : Value} {y : DataW H × List MemPlace} (h : DataW.trod enc P W 0 spare held n t [v] = some y) :
    ∃ (xs : List α) (a : Option Addr) (cap : Nat), v = .slice a xs.length cap ∧ Lies W 0 W.heap.size (.slice a xs.length cap) xs.length sz (xs.flatMap f) ∧ ∀ x ∈ xs, R x := by
  rcases Deep.open_slice ht h with ⟨hv, _⟩ | ⟨a, len, cap, m, k, D, Pl, hcs, _, hl, hm, hmm, _, hi⟩
  · obtain rfl : v = .slice none 0 0 := by simpa using hv
    exact ⟨[], none, 0, rfl, ⟨none, 0, rfl, by simp, fun _ => ⟨rfl, rfl⟩, .inl rfl⟩, by simp⟩
  · obtain rfl : v = .slice (some a) len cap := by simpa using hcs
    have hlm : len ≤ m := by rw [hmm]; split <;> omega
    have key : ∀ i, i < len → ∃ x, (∀ j u, (f x)[j]? = some u → W.cell? (a.add (i * sz + j)) = some u) ∧ R x := by
      intro i hil
      obtain ⟨cs', hc, ht'⟩ := hi i (by omega)
      rw [hsz] at hc
      obtain ⟨x, rfl, hR⟩ := hr _ _ _ ht'
      obtain ⟨_, _, hat⟩ := World.cells?_some hc
      refine ⟨x, fun j u hu => ?_, hR⟩
      have hj : j < sz := by rw [← hf x]; exact (List.getElem?_eq_some_iff.1 hu).1
      have := hat j hj
      rw [Deep.add_add] at this
      rw [this, hu]
    obtain ⟨g, hg⟩ := Deep.choose_lt key
    have hlen : ((List.range len).map g).length = len := by simp
    have hat : ∀ i, i < len → ((List.range len).map g)[i]? = some (g i) := fun i hi => by simp [hi]
    refine ⟨(List.range len).map g, some a, cap, by rw [hlen], ?_, ?_⟩
    · rw [hlen]
      refine ⟨some a, cap, rfl, by rw [flat_len f sz hf, hlen], (fun h => by cases h), ?_⟩
      rcases Nat.eq_zero_or_pos len with h0 | h0
      · exact .inl h0
      · obtain ⟨u, hu⟩ : ∃ u, (f (g 0))[0]? = some u := ⟨_, List.getElem?_eq_getElem (by rw [hf]; exact hpos)⟩
        have c0 := (hg 0 h0).1 0 u hu
        have ha0 : a.add (0 * sz + 0) = a := by simp [Addr.add]
        rw [ha0] at c0
        have hspot : a.spot = none := by
          cases hs : a.spot with
          | none => rfl
          | some s =>
            exfalso
            unfold World.cell? at c0
            split at c0
            · simp [hs] at c0
            · cases c0
        obtain ⟨b, off, s⟩ := a
        simp only at hspot
        subst hspot
        refine .inr ⟨b, off, rfl, Nat.zero_le _, World.block_lt_of_cell? _ _ c0, fun k u hu => ?_⟩
        have hk : k < len * sz := by
          have := (List.getElem?_eq_some_iff.1 hu).1
          rwa [flat_len f sz hf, hlen] at this
        have hkd : k / sz < len := Nat.div_lt_of_lt_mul (by rwa [Nat.mul_comm])
        have hkm : k % sz < sz := Nat.mod_lt _ hpos
        have hke : k / sz * sz + k % sz = k := by rw [Nat.mul_comm]; exact Nat.div_add_mod k sz
        have hfa := flat_at f sz hf _ _ (k % sz) _ (hat _ hkd) hkm
        rw [hke] at hfa
        have := (hg _ hkd).1 (k % sz) u (by rw [← hfa]; exact hu)
        rwa [hke, add_at] at this
    · intro x hx
      obtain ⟨i, hi, rfl⟩ := List.mem_map.1 hx
      exact (hg i (List.mem_range.1 hi)).2
theorem reads_int {e : TypeId} (he : P.underlying e = some (.int .i64)) : Reads enc P W spare held e intCells I64 := by
  intro n cs y h
  obtain ⟨x, rfl, _, hw⟩ := DataW.trod_int he h
  exact ⟨x, rfl, i64_of hw⟩
theorem field_at {e : TypeId} {fs : Array Field} (hs : P.underlying e = some (.struct fs)) {n : Nat} {cs : List Value} {y : DataW H × List MemPlace} (h : DataW.trod enc P W 0 spare held n e cs = some y) (j : Nat) (f : Field) (hj : fs[j]? = some f) :
    ∃ y' n', DataW.trod enc P W 0 spare held n' f.type ((cs.drop f.offset).take (P.cellsOf f.type)) = some y' := by
  obtain ⟨xs, m, _, _, _, hxl, hf⟩ := DataW.trod_struct hs h
  have hlt : j < xs.length := by rw [hxl]; exact (Array.getElem?_eq_some_iff.1 hj).1
  exact ⟨xs[j], m, by rw [hf j f hj, List.getElem?_eq_getElem hlt]⟩
theorem len_of {e : TypeId} {fs : Array Field} (hs : P.underlying e = some (.struct fs)) {n : Nat} {cs : List Value} {y : DataW H × List MemPlace} (h : DataW.trod enc P W 0 spare held n e cs = some y) : cs.length = P.cellsOf e := by
  obtain ⟨_, _, _, _, hl, _⟩ := DataW.trod_struct hs h
  exact hl
end
theorem Tryd.cI : Tryd.prog.cellsOf 3 = 1 := by kernel_rfl
theorem Tryd.cB : Tryd.prog.cellsOf 4 = 1 := by kernel_rfl

section
variable {H : Type} {enc : TypeId × Value → H} {W : World} {spare : Nat → Bool} {held : Bool}
theorem one_int {n : Nat} {c : List Value} {y : DataW H × List MemPlace} (h : DataW.trod enc Tryd.prog W 0 spare held n 3 c = some y) : ∃ x, c = [.int .i64 x] ∧ I64 x := by
  obtain ⟨x, rfl, _, hw⟩ := DataW.trod_int Tryd.underlying3 h
  exact ⟨x, rfl, i64_of hw⟩
theorem one_bool {n : Nat} {c : List Value} {y : DataW H × List MemPlace} (h : DataW.trod enc Tryd.prog W 0 spare held n 4 c = some y) : ∃ x, c = [.bool x] := by
  obtain ⟨x, rfl, _⟩ := DataW.trod_bool Tryd.underlying4 h
  exact ⟨x, rfl⟩
set_option maxRecDepth 100000 in
/-- A value that reads as a thing, as what lies under it. -/
theorem val_cells {t : TypeId} {r : Reach} {b0 : Nat} {fs : Array Field} {v : Value} {d : DataW H} {p : List MemPlace} (hs : Tryd.prog.underlying t = some (.struct fs)) (hv : Value.okWide Tryd.prog W r b0 t v) (h : DataW.Trod enc Tryd.prog W 0 spare held t v d p) :
    ∃ cs n, v = .agg cs ∧ DataW.trod enc Tryd.prog W 0 spare held n t cs.toList = some (d, p) := by
  obtain ⟨cs, rfl, _⟩ := okWide_struct hs hv
  obtain ⟨n, hn⟩ := h
  exact ⟨cs, n, rfl, by simpa [Value.cells] using hn⟩
end
end Go.Proofs.YtebjgfdkmociaaaDoor
namespace Go.Proofs.YtebjgfdkmociaaaDoor
open Go.ChangeShapes Go.WideShapes Go.ChangeAt Go.RowKit
set_option linter.unusedVariables false
set_option maxRecDepth 100000
section
variable {H : Type} {enc : TypeId × Value → H} {W : World} {spare : Nat → Bool} {held : Bool}
end
end Go.Proofs.YtebjgfdkmociaaaDoor
namespace Go.Proofs.YtebjgfdkmociaaaDoor
open Go.ChangeShapes Go.WideShapes Go.ChangeAt Go.RowKit
set_option linter.unusedVariables false
set_option maxRecDepth 100000
theorem Tryd.c8 : Tryd.prog.cellsOf 5 = 1 := by kernel_rfl
theorem Tryd.cDs : Tryd.prog.cellsOf 23 = 1 := by kernel_rfl

section
variable {H : Type} {enc : TypeId × Value → H} {W : World} {spare : Nat → Bool} {held : Bool}
theorem one_u8 {n : Nat} {c : List Value} {y : DataW H × List MemPlace} (h : DataW.trod enc Tryd.prog W 0 spare held n 5 c = some y) : ∃ x, c = [.int .u8 x] ∧ U8 x := by
  obtain ⟨x, rfl, _, hw⟩ := DataW.trod_int Tryd.underlying5 h
  exact ⟨x, rfl, u8_of hw⟩
end
end Go.Proofs.YtebjgfdkmociaaaDoor
namespace Go.Proofs.YtebjgfdkmociaaaDoor
open Go.ChangeShapes Go.WideShapes Go.ChangeAt Go.RowKit
set_option linter.unusedVariables false
set_option maxRecDepth 100000
section
variable {H : Type} {enc : TypeId × Value → H} {W : World} {spare : Nat → Bool} {held : Bool}
theorem all_lie : ∀ (xs : List (Pv × Pt)), (∀ x ∈ xs, PtLies W 0 W.heap.size x.1 x.2) → AllLie W 0 W.heap.size (xs.map (·.1)) (xs.map (·.2))
  | [], _ => .nil
  | x :: xs, h => .cons (h x (by simp)) (all_lie xs fun y hy => h y (by simp [hy]))
end
end Go.Proofs.YtebjgfdkmociaaaDoor
