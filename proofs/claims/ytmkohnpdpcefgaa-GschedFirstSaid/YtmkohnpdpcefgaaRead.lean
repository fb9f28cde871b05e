/- Joined of ReadA, ReadW, ConfR, ConfS: From what a frame tells of an argument to what lies in memory: what is told of all things. -/
import Derived.Test.YtmkohnpdpcefgaaBase
import Derived.Deep.Slices
import Derived.Deep.Fields
import Derived.Laws.IdiomArrays
import Derived.ChangeArms
namespace Go.Proofs.Ytmkohnpdpcefgaa
open Go.ChangeShapes Go.WideShapes Go.ChangeAt Go.RowKit
set_option linter.unusedVariables false

def I64 (n : Int) : Prop := -9223372036854775808 ≤ n ∧ n ≤ 9223372036854775807
def U8 (n : Int) : Prop := 0 ≤ n ∧ n ≤ 255
theorem i64_of {n : Int} (h : (Lit.int .i64 n).wf = true) : I64 n := by show _ ∧ _; simpa [Lit.wf, IntKind.min, IntKind.max, IntKind.signed, IntKind.bits] using h
theorem u8_of {n : Int} (h : (Lit.int .u8 n).wf = true) : U8 n := by show _ ∧ _; simpa [Lit.wf, IntKind.min, IntKind.max, IntKind.signed, IntKind.bits] using h
def Tk.In (k : Tk) : Prop := I64 k.t ∧ I64 k.d ∧ I64 k.v ∧ I64 k.lo ∧ I64 k.top
def Sv.In (k : Sv) : Prop := I64 k.c ∧ I64 k.t
def Wn.In (k : Wn) : Prop := I64 k.at_ ∧ I64 k.len ∧ I64 k.part
def Ch.In (k : Ch) : Prop := I64 k.from_ ∧ I64 k.to ∧ I64 k.size
def Pt.In (p : Pt) : Prop := (∀ x ∈ p.ts, x.In) ∧ (∀ x ∈ p.ss, x.In) ∧ (∀ x ∈ p.ds, I64 x) ∧ U8 p.a0 ∧ U8 p.a1 ∧ U8 p.a2
def Cf.In (c : Cf) : Prop := I64 c.frame ∧ I64 c.margin ∧ (∀ x ∈ c.ws, x.In) ∧ (∀ x ∈ c.ps, x.In) ∧ (∀ x ∈ c.cs, x.In)

section
variable {H : Type} {enc : TypeId × Value → H} {P : Program} {W : World} {spare : Nat → Bool} {held : Bool}
/-- Cells that read as type e are those of a thing of which R holds. -/
def Reads {α : Type} (enc : TypeId × Value → H) (P : Program) (W : World) (spare : Nat → Bool) (held : Bool) (e : TypeId) (f : α → List Value) (R : α → Prop) : Prop :=
  ∀ n cs y, DataW.trod enc P W 0 spare held n e cs = some y → ∃ x, cs = f x ∧ R x
theorem lies_of_trod {α : Type} [Inhabited α] {t e : TypeId} {sz : Nat} {f : α → List Value} {R : α → Prop} (ht : P.underlying t = some (.slice e)) (hsz : P.cellsOf e = sz) (hpos : 0 < sz) (hf : ∀ x, (f x).length = sz)
    (hr : Reads enc P W spare held e f R) {n : Nat} {v : Value} {y : DataW H × List MemPlace} (h : DataW.trod enc P W 0 spare held n t [v] = some y) :
    ∃ (xs : List α) (a : Option Addr) (cap : Nat), v = .slice a xs.length cap ∧ Lies W 0 W.heap.size (.slice a xs.length cap) xs.length sz (xs.flatMap f) ∧ ∀ x ∈ xs, R x := by
  rcases Deep.open_slice ht h with ⟨hv, _⟩ | ⟨a, len, cap, m, k, D, Pl, hcs, _, hl, hm, hmm, _, hi⟩
  · obtain rfl : v = .slice none 0 0 := by simpa using hv
    exact ⟨[], none, 0, rfl, ⟨none, 0, rfl, by simp, fun _ => ⟨rfl, rfl⟩, .inl rfl⟩, by simp⟩
  · obtain rfl : v = .slice (some a) len cap := by simpa using hcs
    have hlm : len ≤ m := by rw [hmm]; split <;> omega
    have key : ∀ i, i < len → ∃ x, (∀ j u, (f x)[j]? = some u → W.cell? (a.add (i * sz + j)) = some u) ∧ R x := by
      intro i hil
      obtain ⟨cs', hc, ht'⟩ := hi i (by omega)
      rw [hsz] at hc
      obtain ⟨x, rfl, hR⟩ := hr _ _ _ ht'
      obtain ⟨_, _, hat⟩ := World.cells?_some hc
      refine ⟨x, fun j u hu => ?_, hR⟩
      have hj : j < sz := by rw [← hf x]; exact (List.getElem?_eq_some_iff.1 hu).1
      have := hat j hj
      rw [Deep.add_add] at this
      rw [this, hu]
    obtain ⟨g, hg⟩ := Deep.choose_lt key
    have hlen : ((List.range len).map g).length = len := by simp
    have hat : ∀ i, i < len → ((List.range len).map g)[i]? = some (g i) := fun i hi => by simp [hi]
    refine ⟨(List.range len).map g, some a, cap, by rw [hlen], ?_, ?_⟩
    · rw [hlen]
      refine ⟨some a, cap, rfl, by rw [flat_len f sz hf, hlen], (fun h => by cases h), ?_⟩
      rcases Nat.eq_zero_or_pos len with h0 | h0
      · exact .inl h0
      · obtain ⟨u, hu⟩ : ∃ u, (f (g 0))[0]? = some u := ⟨_, List.getElem?_eq_getElem (by rw [hf]; exact hpos)⟩
        have c0 := (hg 0 h0).1 0 u hu
        have ha0 : a.add (0 * sz + 0) = a := by simp [Addr.add]
        rw [ha0] at c0
        have hspot : a.spot = none := by
          cases hs : a.spot with
          | none => rfl
          | some s =>
            exfalso
            unfold World.cell? at c0
            split at c0
            · simp [hs] at c0
            · cases c0
        obtain ⟨b, off, s⟩ := a
        simp only at hspot
        subst hspot
        refine .inr ⟨b, off, rfl, Nat.zero_le _, World.block_lt_of_cell? _ _ c0, fun k u hu => ?_⟩
        have hk : k < len * sz := by
          have := (List.getElem?_eq_some_iff.1 hu).1
          rwa [flat_len f sz hf, hlen] at this
        have hkd : k / sz < len := Nat.div_lt_of_lt_mul (by rwa [Nat.mul_comm])
        have hkm : k % sz < sz := Nat.mod_lt _ hpos
        have hke : k / sz * sz + k % sz = k := by rw [Nat.mul_comm]; exact Nat.div_add_mod k sz
        have hfa := flat_at f sz hf _ _ (k % sz) _ (hat _ hkd) hkm
        rw [hke] at hfa
        have := (hg _ hkd).1 (k % sz) u (by rw [← hfa]; exact hu)
        rwa [hke, add_at] at this
    · intro x hx
      obtain ⟨i, hi, rfl⟩ := List.mem_map.1 hx
      exact (hg i (List.mem_range.1 hi)).2
theorem reads_int {e : TypeId} (he : P.underlying e = some (.int .i64)) : Reads enc P W spare held e intCells I64 := by
  intro n cs y h
  obtain ⟨x, rfl, _, hw⟩ := DataW.trod_int he h
  exact ⟨x, rfl, i64_of hw⟩
theorem field_at {e : TypeId} {fs : Array Field} (hs : P.underlying e = some (.struct fs)) {n : Nat} {cs : List Value} {y : DataW H × List MemPlace} (h : DataW.trod enc P W 0 spare held n e cs = some y) (j : Nat) (f : Field) (hj : fs[j]? = some f) :
    ∃ y' n', DataW.trod enc P W 0 spare held n' f.type ((cs.drop f.offset).take (P.cellsOf f.type)) = some y' := by
  obtain ⟨xs, m, _, _, _, hxl, hf⟩ := DataW.trod_struct hs h
  have hlt : j < xs.length := by rw [hxl]; exact (Array.getElem?_eq_some_iff.1 hj).1
  exact ⟨xs[j], m, by rw [hf j f hj, List.getElem?_eq_getElem hlt]⟩
theorem len_of {e : TypeId} {fs : Array Field} (hs : P.underlying e = some (.struct fs)) {n : Nat} {cs : List Value} {y : DataW H × List MemPlace} (h : DataW.trod enc P W 0 spare held n e cs = some y) : cs.length = P.cellsOf e := by
  obtain ⟨_, _, _, _, hl, _⟩ := DataW.trod_struct hs h
  exact hl
end
theorem Try.cI : Try.prog.cellsOf 3 = 1 := by kernel_rfl
theorem Try.cB : Try.prog.cellsOf 4 = 1 := by kernel_rfl

section
variable {H : Type} {enc : TypeId × Value → H} {W : World} {spare : Nat → Bool} {held : Bool}
theorem one_int {n : Nat} {c : List Value} {y : DataW H × List MemPlace} (h : DataW.trod enc Try.prog W 0 spare held n 3 c = some y) : ∃ x, c = [.int .i64 x] ∧ I64 x := by
  obtain ⟨x, rfl, _, hw⟩ := DataW.trod_int Try.underlying3 h
  exact ⟨x, rfl, i64_of hw⟩
theorem one_bool {n : Nat} {c : List Value} {y : DataW H × List MemPlace} (h : DataW.trod enc Try.prog W 0 spare held n 4 c = some y) : ∃ x, c = [.bool x] := by
  obtain ⟨x, rfl, _⟩ := DataW.trod_bool Try.underlying4 h
  exact ⟨x, rfl⟩
set_option maxRecDepth 100000 in
/-- A value that reads as a thing, as what lies under it. -/
theorem val_cells {t : TypeId} {r : Reach} {b0 : Nat} {fs : Array Field} {v : Value} {d : DataW H} {p : List MemPlace} (hs : Try.prog.underlying t = some (.struct fs)) (hv : Value.okWide Try.prog W r b0 t v) (h : DataW.Trod enc Try.prog W 0 spare held t v d p) :
    ∃ cs n, v = .agg cs ∧ DataW.trod enc Try.prog W 0 spare held n t cs.toList = some (d, p) := by
  obtain ⟨cs, rfl, _⟩ := okWide_struct hs hv
  obtain ⟨n, hn⟩ := h
  exact ⟨cs, n, rfl, by simpa [Value.cells] using hn⟩
end
end Go.Proofs.Ytmkohnpdpcefgaa
namespace Go.Proofs.Ytmkohnpdpcefgaa
open Go.ChangeShapes Go.WideShapes Go.ChangeAt Go.RowKit
set_option linter.unusedVariables false
set_option maxRecDepth 100000
section
variable {H : Type} {enc : TypeId × Value → H} {W : World} {spare : Nat → Bool} {held : Bool}
theorem reads_wn : Reads enc Try.prog W spare held 74 Wn.cells Wn.In := by
  intro n cs y h
  have hl : cs.length = 3 := (len_of Try.underlying74 h).trans (by kernel_rfl)
  obtain ⟨_, _, f0⟩ := field_at Try.underlying74 h 0 _ rfl
  obtain ⟨_, _, f1⟩ := field_at Try.underlying74 h 1 _ rfl
  obtain ⟨_, _, f2⟩ := field_at Try.underlying74 h 2 _ rfl
  clear h
  match cs, hl with
  | [c0, c1, c2], _ =>
    simp only [Try.cI, List.getElem_toArray, List.getElem_cons_zero, List.getElem_cons_succ, List.drop_succ_cons, List.drop_zero, List.take_succ_cons, List.take_zero] at f0 f1 f2
    obtain ⟨x0, e0, w0⟩ := one_int f0
    obtain ⟨x1, e1, w1⟩ := one_int f1
    obtain ⟨x2, e2, w2⟩ := one_int f2
    cases e0; cases e1; cases e2
    exact ⟨⟨x0, x1, x2⟩, rfl, w0, w1, w2⟩
end
end Go.Proofs.Ytmkohnpdpcefgaa
namespace Go.Proofs.Ytmkohnpdpcefgaa
open Go.ChangeShapes Go.WideShapes Go.ChangeAt Go.RowKit
set_option linter.unusedVariables false
set_option maxRecDepth 100000
theorem Try.c8 : Try.prog.cellsOf 5 = 1 := by kernel_rfl
theorem Try.cDs : Try.prog.cellsOf 40 = 1 := by kernel_rfl
theorem Try.cAct : Try.prog.cellsOf 44 = 3 := by kernel_rfl

section
variable {H : Type} {enc : TypeId × Value → H} {W : World} {spare : Nat → Bool} {held : Bool}
theorem one_u8 {n : Nat} {c : List Value} {y : DataW H × List MemPlace} (h : DataW.trod enc Try.prog W 0 spare held n 5 c = some y) : ∃ x, c = [.int .u8 x] ∧ U8 x := by
  obtain ⟨x, rfl, _, hw⟩ := DataW.trod_int Try.underlying5 h
  exact ⟨x, rfl, u8_of hw⟩
theorem reads_tk : Reads enc Try.prog W spare held 97 Tk.cells Tk.In := by
  intro n cs y h
  have hl : cs.length = 6 := (len_of Try.underlying97 h).trans (by kernel_rfl)
  obtain ⟨_, _, f0⟩ := field_at Try.underlying97 h 0 _ rfl
  obtain ⟨_, _, f1⟩ := field_at Try.underlying97 h 1 _ rfl
  obtain ⟨_, _, f2⟩ := field_at Try.underlying97 h 2 _ rfl
  obtain ⟨_, _, f3⟩ := field_at Try.underlying97 h 3 _ rfl
  obtain ⟨_, _, f4⟩ := field_at Try.underlying97 h 4 _ rfl
  obtain ⟨_, _, f5⟩ := field_at Try.underlying97 h 5 _ rfl
  clear h
  match cs, hl with
  | [c0, c1, c2, c3, c4, c5], _ =>
    simp only [Try.cI, Try.cB, List.getElem_toArray, List.getElem_cons_zero, List.getElem_cons_succ, List.drop_succ_cons, List.drop_zero, List.take_succ_cons, List.take_zero] at f0 f1 f2 f3 f4 f5
    obtain ⟨x0, e0⟩ := one_bool f0
    obtain ⟨x1, e1, w1⟩ := one_int f1
    obtain ⟨x2, e2, w2⟩ := one_int f2
    obtain ⟨x3, e3, w3⟩ := one_int f3
    obtain ⟨x4, e4, w4⟩ := one_int f4
    obtain ⟨x5, e5, w5⟩ := one_int f5
    cases e0; cases e1; cases e2; cases e3; cases e4; cases e5
    exact ⟨⟨x0, x1, x2, x3, x4, x5⟩, rfl, w1, w2, w3, w4, w5⟩
theorem reads_sv : Reads enc Try.prog W spare held 100 Sv.cells Sv.In := by
  intro n cs y h
  have hl : cs.length = 3 := (len_of Try.underlying100 h).trans (by kernel_rfl)
  obtain ⟨_, _, f0⟩ := field_at Try.underlying100 h 0 _ rfl
  obtain ⟨_, _, f1⟩ := field_at Try.underlying100 h 1 _ rfl
  obtain ⟨_, _, f2⟩ := field_at Try.underlying100 h 2 _ rfl
  clear h
  match cs, hl with
  | [c0, c1, c2], _ =>
    simp only [Try.cI, Try.cB, List.getElem_toArray, List.getElem_cons_zero, List.getElem_cons_succ, List.drop_succ_cons, List.drop_zero, List.take_succ_cons, List.take_zero] at f0 f1 f2
    obtain ⟨x0, e0⟩ := one_bool f0
    obtain ⟨x1, e1, w1⟩ := one_int f1
    obtain ⟨x2, e2, w2⟩ := one_int f2
    cases e0; cases e1; cases e2
    exact ⟨⟨x0, x1, x2⟩, rfl, w1, w2⟩
theorem part_of {n : Nat} {cs : List Value} {y : DataW H × List MemPlace} (h : DataW.trod enc Try.prog W 0 spare held n 46 cs = some y) :
    ∃ (v : Pv) (p : Pt) (ta sa da : Option Addr) (tc sc dc : Nat), cs = v.cells ∧ v.ts = .slice ta p.ts.length tc ∧ v.ss = .slice sa p.ss.length sc ∧ v.ds = .slice da p.ds.length dc ∧ PtLies W 0 W.heap.size v p ∧ p.In := by
  have hl : cs.length = 6 := (len_of Try.underlying46 h).trans (by kernel_rfl)
  obtain ⟨_, _, f0⟩ := field_at Try.underlying46 h 0 _ rfl
  obtain ⟨_, _, f1⟩ := field_at Try.underlying46 h 1 _ rfl
  obtain ⟨_, _, f2⟩ := field_at Try.underlying46 h 2 _ rfl
  obtain ⟨_, _, f3⟩ := field_at Try.underlying46 h 3 _ rfl
  clear h
  have cT : Try.prog.cellsOf 42 = 1 := by kernel_rfl
  have cS : Try.prog.cellsOf 43 = 1 := by kernel_rfl
  match cs, hl with
  | [c0, c1, c2, c3, c4, c5], _ =>
    simp only [cT, cS, Try.cDs, Try.cAct, List.getElem_toArray, List.getElem_cons_zero, List.getElem_cons_succ, List.drop_succ_cons, List.drop_zero, List.take_succ_cons, List.take_zero] at f0 f1 f2 f3
    have : Inhabited Tk := ⟨⟨false, 0, 0, 0, 0, 0⟩⟩
    have : Inhabited Sv := ⟨⟨false, 0, 0⟩⟩
    obtain ⟨ts, ta, tc, rfl, l0, r0⟩ := lies_of_trod Try.underlying42 (by kernel_rfl : Try.prog.cellsOf 97 = 6) (by omega) (fun _ => rfl) reads_tk f0
    obtain ⟨ss, sa, sc, rfl, l1, r1⟩ := lies_of_trod Try.underlying43 (by kernel_rfl : Try.prog.cellsOf 100 = 3) (by omega) (fun _ => rfl) reads_sv f1
    obtain ⟨ds, da, dc, rfl, l2, r2⟩ := lies_of_trod Try.underlying40 Try.cI (by omega) (fun _ => rfl) (reads_int Try.underlying3) f2
    obtain ⟨_, _, _, _, _, g0, g1, g2⟩ := trod_array3 Try.underlying44 Try.c8 f3
    obtain ⟨x0, e0, w0⟩ := one_u8 g0
    obtain ⟨x1, e1, w1⟩ := one_u8 g1
    obtain ⟨x2, e2, w2⟩ := one_u8 g2
    cases e0; cases e1; cases e2
    exact ⟨⟨_, _, _, x0, x1, x2⟩, ⟨ts, ss, ds, x0, x1, x2⟩, ta, sa, da, tc, sc, dc, rfl, rfl, rfl, rfl, ⟨l0, l1, l2, rfl, rfl, rfl⟩, r0, r1, r2, w0, w1, w2⟩
end
end Go.Proofs.Ytmkohnpdpcefgaa
namespace Go.Proofs.Ytmkohnpdpcefgaa
open Go.ChangeShapes Go.WideShapes Go.ChangeAt Go.RowKit
set_option linter.unusedVariables false
set_option maxRecDepth 100000
section
variable {H : Type} {enc : TypeId × Value → H} {W : World} {spare : Nat → Bool} {held : Bool}
theorem reads_ch : Reads enc Try.prog W spare held 78 Ch.cells Ch.In := by
  intro n cs y h
  have hl : cs.length = 4 := (len_of Try.underlying78 h).trans (by kernel_rfl)
  obtain ⟨_, _, f0⟩ := field_at Try.underlying78 h 0 _ rfl
  obtain ⟨_, _, f1⟩ := field_at Try.underlying78 h 1 _ rfl
  obtain ⟨_, _, f2⟩ := field_at Try.underlying78 h 2 _ rfl
  obtain ⟨_, _, f3⟩ := field_at Try.underlying78 h 3 _ rfl
  clear h
  match cs, hl with
  | [c0, c1, c2, c3], _ =>
    simp only [Try.cI, Try.cB, List.getElem_toArray, List.getElem_cons_zero, List.getElem_cons_succ, List.drop_succ_cons, List.drop_zero, List.take_succ_cons, List.take_zero] at f0 f1 f2 f3
    obtain ⟨x0, e0⟩ := one_bool f0
    obtain ⟨x1, e1, w1⟩ := one_int f1
    obtain ⟨x2, e2, w2⟩ := one_int f2
    obtain ⟨x3, e3, w3⟩ := one_int f3
    cases e0; cases e1; cases e2; cases e3
    exact ⟨⟨x0, x1, x2, x3⟩, rfl, w1, w2, w3⟩
theorem reads_pt : Reads enc Try.prog W spare held 46 (fun x : Pv × Pt => x.1.cells) (fun x => PtLies W 0 W.heap.size x.1 x.2 ∧ x.2.In) := by
  intro n cs y h
  obtain ⟨v, p, _, _, _, _, _, _, rfl, _, _, _, hl, hi⟩ := part_of h
  exact ⟨(v, p), rfl, hl, hi⟩
theorem all_lie : ∀ (xs : List (Pv × Pt)), (∀ x ∈ xs, PtLies W 0 W.heap.size x.1 x.2) → AllLie W 0 W.heap.size (xs.map (·.1)) (xs.map (·.2))
  | [], _ => .nil
  | x :: xs, h => .cons (h x (by simp)) (all_lie xs fun y hy => h y (by simp [hy]))
/-- A system that came in: its value, and what lies under it. -/
theorem conf_of {n : Nat} {cs : List Value} {y : DataW H × List MemPlace} (h : DataW.trod enc Try.prog W 0 spare held n 26 cs = some y) :
    ∃ (c : Cf) (pvs : List Pv) (wa pa ca : Option Addr) (wc pc cc : Nat), cs = [.int .i64 c.frame, .int .i64 c.margin, .slice wa c.ws.length wc, .slice pa c.ps.length pc, .slice ca c.cs.length cc] ∧
      Lies W 0 W.heap.size (.slice wa c.ws.length wc) c.ws.length 3 (c.ws.flatMap Wn.cells) ∧ Lies W 0 W.heap.size (.slice pa c.ps.length pc) c.ps.length 6 (pvs.flatMap Pv.cells) ∧ AllLie W 0 W.heap.size pvs c.ps ∧ Lies W 0 W.heap.size (.slice ca c.cs.length cc) c.cs.length 4 (c.cs.flatMap Ch.cells) ∧ c.In := by
  have hl : cs.length = 5 := (len_of Try.underlying26 h).trans (by kernel_rfl)
  obtain ⟨_, _, f0⟩ := field_at Try.underlying26 h 0 _ rfl
  obtain ⟨_, _, f1⟩ := field_at Try.underlying26 h 1 _ rfl
  obtain ⟨_, _, f2⟩ := field_at Try.underlying26 h 2 _ rfl
  obtain ⟨_, _, f3⟩ := field_at Try.underlying26 h 3 _ rfl
  obtain ⟨_, _, f4⟩ := field_at Try.underlying26 h 4 _ rfl
  clear h
  have cW : Try.prog.cellsOf 22 = 1 := by kernel_rfl
  have cP : Try.prog.cellsOf 23 = 1 := by kernel_rfl
  have cC : Try.prog.cellsOf 24 = 1 := by kernel_rfl
  match cs, hl with
  | [c0, c1, c2, c3, c4], _ =>
    simp only [cW, cP, cC, Try.cI, List.getElem_toArray, List.getElem_cons_zero, List.getElem_cons_succ, List.drop_succ_cons, List.drop_zero, List.take_succ_cons, List.take_zero] at f0 f1 f2 f3 f4
    have : Inhabited Wn := ⟨⟨0, 0, 0⟩⟩
    have : Inhabited Ch := ⟨⟨false, 0, 0, 0⟩⟩
    have : Inhabited (Pv × Pt) := ⟨(⟨.slice none 0 0, .slice none 0 0, .slice none 0 0, 0, 0, 0⟩, ⟨[], [], [], 0, 0, 0⟩)⟩
    obtain ⟨x0, e0, w0⟩ := one_int f0
    obtain ⟨x1, e1, w1⟩ := one_int f1
    cases e0; cases e1
    obtain ⟨ws, wa, wc, rfl, l0, r0⟩ := lies_of_trod Try.underlying22 (by kernel_rfl : Try.prog.cellsOf 74 = 3) (by omega) (fun _ => rfl) reads_wn f2
    obtain ⟨xs, pa, pc, rfl, l1, r1⟩ := lies_of_trod Try.underlying23 (by kernel_rfl : Try.prog.cellsOf 46 = 6) (by omega) (fun _ => rfl) reads_pt f3
    obtain ⟨ch, ca, cc, rfl, l2, r2⟩ := lies_of_trod Try.underlying24 (by kernel_rfl : Try.prog.cellsOf 78 = 4) (by omega) (fun _ => rfl) reads_ch f4
    have hm : xs.flatMap (fun x => x.1.cells) = (xs.map (·.1)).flatMap Pv.cells := by rw [List.flatMap_map]
    rw [hm] at l1
    refine ⟨⟨x0, x1, ws, xs.map (·.2), ch⟩, xs.map (·.1), wa, pa, ca, wc, pc, cc, by simp, l0, by simpa using l1, all_lie xs fun x hx => (r1 x hx).1, l2, w0, w1, r0, fun p hp => ?_, r2⟩
    obtain ⟨x, hx, rfl⟩ := List.mem_map.1 hp
    exact (r1 x hx).2
end
end Go.Proofs.Ytmkohnpdpcefgaa
