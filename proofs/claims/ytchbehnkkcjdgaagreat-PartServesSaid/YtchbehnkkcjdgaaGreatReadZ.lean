/- From what a frame tells of an argument to its sizes: no list that came in takes more bytes than any thing may. -/
import Derived.Test.YtchbehnkkcjdgaaGreatRead
import Derived.SizedLaws
namespace Go.Proofs.YtchbehnkkcjdgaaGreat
open Go.ChangeShapes Go.WideShapes Go.ChangeAt Go.RowKit
set_option linter.unusedVariables false
set_option maxRecDepth 100000
section
variable {H : Type} {enc : TypeId × Value → H} {P : Program} {W : World} {spare : Nat → Bool} {held : Bool}
/-- What is read is no larger than it may be. -/
def Slim (P : Program) (t : TypeId) (d : DataW H) : Prop := (d.weights P t).all (· ≤ reachBytes) = true
theorem slim_all {e : TypeId} : ∀ {l : List (DataW H)}, (DataW.weightsAll P e l).all (· ≤ reachBytes) = true → ∀ d ∈ l, Slim P e d
 | [], _, _, h => by cases h
 | d :: l, h, x, hx => by
   rw [DataW.weightsAll, List.all_append, Bool.and_eq_true] at h
   rcases List.mem_cons.1 hx with rfl | hx
   ·exact h.1
   ·exact slim_all h.2 x hx
theorem slim_each : ∀ {ts : List TypeId} {l : List (DataW H)}, (DataW.weightsEach P ts l).all (· ≤ reachBytes) = true → ∀ (j : Nat) t d, ts[j]? = some t → l[j]? = some d → Slim P t d
 | [], l, _, j, t, d, ht, _ => by simp at ht
 | t0 :: ts, [], _, j, t, d, _, hd => by simp at hd
 | t0 :: ts, d0 :: l, h, j, t, d, ht, hd => by
   rw [DataW.weightsEach, List.all_append, Bool.and_eq_true] at h
   cases j with
   | zero =>
     simp at ht hd
     subst ht; subst hd
     exact h.1
   | succ j => exact slim_each h.2 j t d (by simpa using ht) (by simpa using hd)
theorem slim_field {t : TypeId} {fs : Array Field} (hs : P.underlying t = some (.struct fs)) {n : Nat} {cs : List Value} {y : DataW H × List MemPlace} (h : DataW.trod enc P W 0 spare held n t cs = some y) (hz : Slim P t y.1) (j : Nat) (f : Field) (hj : fs[j]? = some f) :
 ∃ y' n', DataW.trod enc P W 0 spare held n' f.type ((cs.drop f.offset).take (P.cellsOf f.type)) = some y' ∧ Slim P f.type y'.1 := by
 obtain ⟨xs, m, _, rfl, _, hxl, hf⟩ := DataW.trod_struct hs h
 have hlt : j < xs.length := by rw [hxl]; exact (Array.getElem?_eq_some_iff.1 hj).1
 refine ⟨xs[j], m, by rw [hf j f hj, List.getElem?_eq_getElem hlt], ?_⟩
 unfold Slim at hz
 simp only [DataW.weights, hs] at hz
 refine slim_each hz j _ _ ?_ ?_
 ·rw [List.getElem?_map, Array.getElem?_toList, hj]; rfl
 ·rw [List.getElem?_map, List.getElem?_eq_getElem hlt]; rfl
theorem slim_slice {t e : TypeId} {sz : Nat} (ht : P.underlying t = some (.slice e)) (hsz : P.cellsOf e = sz) {n : Nat} {a : Option Addr} {len cap : Nat} {y : DataW H × List MemPlace} (h : DataW.trod enc P W 0 spare held n t [.slice a len cap] = some y) (hz : Slim P t y.1) :
 len * P.bytesOf e ≤ 140737488355328 ∧ ∀ i, i < len → ∃ a' cs n' d, a = some a' ∧ W.cells? 0 (a'.add (i * sz)) sz = some cs ∧ DataW.trod enc P W 0 spare held n' e cs = some d ∧ Slim P e d.1 := by
 subst hsz
 rcases Deep.open_slice ht h with ⟨hv, _⟩ | ⟨a', len', cap', m, k, D, Pl, hcs, _, hl, hm, hmm, rfl, hi⟩
 ·obtain ⟨rfl, rfl, rfl⟩ : a = none ∧ len = 0 ∧ cap = 0 := by simpa using hv
  exact ⟨by simp, fun i hi => by omega⟩
 ·obtain ⟨rfl, rfl, rfl⟩ : a = some a' ∧ len = len' ∧ cap = cap' := by simpa using hcs
  unfold Slim at hz
  simp only [DataW.weights, ht, List.all_cons, Bool.and_eq_true, List.all_append, decide_eq_true_eq, List.length_map, List.length_range] at hz
  obtain ⟨hz1, hz2, _⟩ := hz
  have hlm : len ≤ m := by rw [hmm]; split <;> omega
  refine ⟨Nat.le_trans (Nat.mul_le_mul_right _ (Nat.le_add_right _ _)) (Nat.le_trans hz1 (by unfold reachBytes; omega)), fun i hil => ?_⟩
  obtain ⟨cs', hc, ht'⟩ := hi i (by omega)
  exact ⟨a', cs', k, _, rfl, hc, ht', slim_all hz2 _ (List.mem_map.2 ⟨i, List.mem_range.2 hil, rfl⟩)⟩
end
section
variable {H : Type} {enc : TypeId × Value → H} {W : World} {spare : Nat → Bool} {held : Bool}
theorem Tryz.bTk : Tryz.prog.bytesOf 101 = 48 := by kernel_rfl
theorem Tryz.bSv : Tryz.prog.bytesOf 98 = 24 := by kernel_rfl
theorem Tryz.bInt : Tryz.prog.bytesOf 3 = 8 := by kernel_rfl
/-- A partition that came in: no list of it is too long. -/
theorem part_slim {n : Nat} {v : Pv} {p : Pt} {y : DataW H × List MemPlace} (h : DataW.trod enc Tryz.prog W 0 spare held n 27 v.cells = some y) (hz : Slim Tryz.prog 27 y.1) (hl : PtLies W 0 W.heap.size v p) :
 p.ts.length * 48 ≤ 140737488355328 ∧ p.ss.length * 24 ≤ 140737488355328 ∧ p.ds.length * 8 ≤ 140737488355328 := by
 obtain ⟨ta, sa, da, tc, sc, dc, e1, e2, e3⟩ := hl.slices
 obtain ⟨y0, _, f0, z0⟩ := slim_field Tryz.underlying27 h hz 0 _ rfl
 obtain ⟨y1, _, f1, z1⟩ := slim_field Tryz.underlying27 h hz 1 _ rfl
 obtain ⟨y2, _, f2, z2⟩ := slim_field Tryz.underlying27 h hz 2 _ rfl
 have cT : Tryz.prog.cellsOf 22 = 1 := by kernel_rfl
 have cS : Tryz.prog.cellsOf 23 = 1 := by kernel_rfl
 simp only [Pv.cells, cT, cS, Tryz.cDs, List.getElem_toArray, List.getElem_cons_zero, List.getElem_cons_succ, List.drop_succ_cons, List.drop_zero, List.take_succ_cons, List.take_zero, e1, e2, e3] at f0 f1 f2
 have g0 := (slim_slice Tryz.underlying22 rfl f0 z0).1
 have g1 := (slim_slice Tryz.underlying23 rfl f1 z1).1
 have g2 := (slim_slice Tryz.underlying24 rfl f2 z2).1
 rw [Tryz.bTk] at g0
 rw [Tryz.bSv] at g1
 rw [Tryz.bInt] at g2
 exact ⟨g0, g1, g2⟩
end
end Go.Proofs.YtchbehnkkcjdgaaGreat
