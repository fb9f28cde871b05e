/- From what a frame tells of an argument to its sizes: no list that came in takes more bytes than any thing may. -/
import Derived.Test.YtmkohnpdpcefgaaRead
import Derived.SizedLaws
import Derived.Test.YtmkohnpdpcefgaaSysZ
namespace Go.Proofs.Ytmkohnpdpcefgaa
open Go.ChangeShapes Go.WideShapes Go.ChangeAt Go.RowKit
set_option linter.unusedVariables false
set_option maxRecDepth 100000
section
variable {H : Type} {enc : TypeId × Value → H} {P : Program} {W : World} {spare : Nat → Bool} {held : Bool}
/-- What is read is no larger than it may be. -/
def Slim (P : Program) (t : TypeId) (d : DataW H) : Prop := (d.weights P t).all (· ≤ reachBytes) = true
theorem slim_all {e : TypeId} : ∀ {l : List (DataW H)}, (DataW.weightsAll P e l).all (· ≤ reachBytes) = true → ∀ d ∈ l, Slim P e d
  | [], _, _, h => by cases h
  | d :: l, h, x, hx => by
    rw [DataW.weightsAll, List.all_append, Bool.and_eq_true] at h
    rcases List.mem_cons.1 hx with rfl | hx
    · exact h.1
    · exact slim_all h.2 x hx
theorem slim_each : ∀ {ts : List TypeId} {l : List (DataW H)}, (DataW.weightsEach P ts l).all (· ≤ reachBytes) = true → ∀ (j : Nat) t d, ts[j]? = some t → l[j]? = some d → Slim P t d
  | [], l, _, j, t, d, ht, _ => by simp at ht
  | t0 :: ts, [], _, j, t, d, _, hd => by simp at hd
  | t0 :: ts, d0 :: l, h, j, t, d, ht, hd => by
    rw [DataW.weightsEach, List.all_append, Bool.and_eq_true] at h
    cases j with
    | zero =>
      simp at ht hd
      subst ht; subst hd
      exact h.1
    | succ j => exact slim_each h.2 j t d (by simpa using ht) (by simpa using hd)
theorem slim_field {t : TypeId} {fs : Array Field} (hs : P.underlying t = some (.struct fs)) {n : Nat} {cs : List Value} {y : DataW H × List MemPlace} (h : DataW.trod enc P W 0 spare held n t cs = some y) (hz : Slim P t y.1) (j : Nat) (f : Field) (hj : fs[j]? = some f) :
    ∃ y' n', DataW.trod enc P W 0 spare held n' f.type ((cs.drop f.offset).take (P.cellsOf f.type)) = some y' ∧ Slim P f.type y'.1 := by
  obtain ⟨xs, m, _, rfl, _, hxl, hf⟩ := DataW.trod_struct hs h
  have hlt : j < xs.length := by rw [hxl]; exact (Array.getElem?_eq_some_iff.1 hj).1
  refine ⟨xs[j], m, by rw [hf j f hj, List.getElem?_eq_getElem hlt], ?_⟩
  unfold Slim at hz
  simp only [DataW.weights, hs] at hz
  refine slim_each hz j _ _ ?_ ?_
  · rw [List.getElem?_map, Array.getElem?_toList, hj]; rfl
  · rw [List.getElem?_map, List.getElem?_eq_getElem hlt]; rfl
theorem slim_slice {t e : TypeId} {sz : Nat} (ht : P.underlying t = some (.slice e)) (hsz : P.cellsOf e = sz) {n : Nat} {a : Option Addr} {len cap : Nat} {y : DataW H × List MemPlace} (h : DataW.trod enc P W 0 spare held n t [.slice a len cap] = some y) (hz : Slim P t y.1) :
    len * P.bytesOf e ≤ 140737488355328 ∧ ∀ i, i < len → ∃ a' cs n' d, a = some a' ∧ W.cells? 0 (a'.add (i * sz)) sz = some cs ∧ DataW.trod enc P W 0 spare held n' e cs = some d ∧ Slim P e d.1 := by
  subst hsz
  rcases Deep.open_slice ht h with ⟨hv, _⟩ | ⟨a', len', cap', m, k, D, Pl, hcs, _, hl, hm, hmm, rfl, hi⟩
  · obtain ⟨rfl, rfl, rfl⟩ : a = none ∧ len = 0 ∧ cap = 0 := by simpa using hv
    exact ⟨by simp, fun i hi => by omega⟩
  · obtain ⟨rfl, rfl, rfl⟩ : a = some a' ∧ len = len' ∧ cap = cap' := by simpa using hcs
    unfold Slim at hz
    simp only [DataW.weights, ht, List.all_cons, Bool.and_eq_true, List.all_append, decide_eq_true_eq, List.length_map, List.length_range] at hz
    obtain ⟨hz1, hz2, _⟩ := hz
    have hlm : len ≤ m := by rw [hmm]; split <;> omega
    refine ⟨Nat.le_trans (Nat.mul_le_mul_right _ (Nat.le_add_right _ _)) (Nat.le_trans hz1 (by unfold reachBytes; omega)), fun i hil => ?_⟩
    obtain ⟨cs', hc, ht'⟩ := hi i (by omega)
    exact ⟨a', cs', k, _, rfl, hc, ht', slim_all hz2 _ (List.mem_map.2 ⟨i, List.mem_range.2 hil, rfl⟩)⟩
end
section
variable {H : Type} {enc : TypeId × Value → H} {W : World} {spare : Nat → Bool} {held : Bool}
theorem Try.bTk : Try.prog.bytesOf 97 = 48 := by kernel_rfl
theorem Try.bSv : Try.prog.bytesOf 100 = 24 := by kernel_rfl
theorem Try.bInt : Try.prog.bytesOf 3 = 8 := by kernel_rfl
theorem Try.bWn : Try.prog.bytesOf 74 = 24 := by kernel_rfl
theorem Try.bPt : Try.prog.bytesOf 46 = 80 := by kernel_rfl
theorem Try.bCh : Try.prog.bytesOf 78 = 32 := by kernel_rfl
/-- A partition that came in: no list of it is too long. -/
theorem part_slim {n : Nat} {v : Pv} {p : Pt} {y : DataW H × List MemPlace} (h : DataW.trod enc Try.prog W 0 spare held n 46 v.cells = some y) (hz : Slim Try.prog 46 y.1) (hl : PtLies W 0 W.heap.size v p) :
    p.ts.length * 48 ≤ 140737488355328 ∧ p.ss.length * 24 ≤ 140737488355328 ∧ p.ds.length * 8 ≤ 140737488355328 := by
  obtain ⟨ta, sa, da, tc, sc, dc, e1, e2, e3⟩ := hl.slices
  obtain ⟨y0, _, f0, z0⟩ := slim_field Try.underlying46 h hz 0 _ rfl
  obtain ⟨y1, _, f1, z1⟩ := slim_field Try.underlying46 h hz 1 _ rfl
  obtain ⟨y2, _, f2, z2⟩ := slim_field Try.underlying46 h hz 2 _ rfl
  have cT : Try.prog.cellsOf 42 = 1 := by kernel_rfl
  have cS : Try.prog.cellsOf 43 = 1 := by kernel_rfl
  simp only [Pv.cells, cT, cS, Try.cDs, List.getElem_toArray, List.getElem_cons_zero, List.getElem_cons_succ, List.drop_succ_cons, List.drop_zero, List.take_succ_cons, List.take_zero, e1, e2, e3] at f0 f1 f2
  have g0 := (slim_slice Try.underlying42 rfl f0 z0).1
  have g1 := (slim_slice Try.underlying43 rfl f1 z1).1
  have g2 := (slim_slice Try.underlying40 rfl f2 z2).1
  rw [Try.bTk] at g0
  rw [Try.bSv] at g1
  rw [Try.bInt] at g2
  exact ⟨g0, g1, g2⟩
theorem AllLie.has {w : World} {lo hi : Nat} : ∀ {vs : List Pv} {ps : List Pt}, AllLie w lo hi vs ps → ∀ p ∈ ps, ∃ (i : Nat) (v : Pv), vs[i]? = some v ∧ ps[i]? = some p ∧ PtLies w lo hi v p
  | _, _, h, p, hp => by
    obtain ⟨i, hi, rfl⟩ := List.getElem_of_mem hp
    have hlen := h.length
    have hv := List.getElem?_eq_getElem (l := _) (show i < _ from hlen.symm ▸ hi)
    exact ⟨i, _, hv, List.getElem?_eq_getElem hi, h.at hv (List.getElem?_eq_getElem hi)⟩
/-- A system that came in is no larger than it may be. -/
theorem conf_slim {n : Nat} {c : Cf} {pvs : List Pv} {wa pa ca : Option Addr} {wc pc cc : Nat} {y : DataW H × List MemPlace} (h : DataW.trod enc Try.prog W 0 spare held n 26 [.int .i64 c.frame, .int .i64 c.margin, .slice wa c.ws.length wc, .slice pa c.ps.length pc, .slice ca c.cs.length cc] = some y)
    (hz : Slim Try.prog 26 y.1) (hs : SysL W W.heap.size c pvs wa pa ca wc pc cc) : Wide c := by
  obtain ⟨y2, _, f2, z2⟩ := slim_field Try.underlying26 h hz 2 _ rfl
  obtain ⟨y3, _, f3, z3⟩ := slim_field Try.underlying26 h hz 3 _ rfl
  obtain ⟨y4, _, f4, z4⟩ := slim_field Try.underlying26 h hz 4 _ rfl
  have cW : Try.prog.cellsOf 22 = 1 := by kernel_rfl
  have cP : Try.prog.cellsOf 23 = 1 := by kernel_rfl
  have cC : Try.prog.cellsOf 24 = 1 := by kernel_rfl
  simp only [cW, cP, cC, List.getElem_toArray, List.getElem_cons_zero, List.getElem_cons_succ, List.drop_succ_cons, List.drop_zero, List.take_succ_cons, List.take_zero] at f2 f3 f4
  have g2 := (slim_slice Try.underlying22 rfl f2 z2).1
  obtain ⟨g3, g5⟩ := slim_slice Try.underlying23 (by kernel_rfl : Try.prog.cellsOf 46 = 6) f3 z3
  have g4 := (slim_slice Try.underlying24 rfl f4 z4).1
  rw [Try.bWn] at g2
  rw [Try.bPt] at g3
  rw [Try.bCh] at g4
  refine ⟨g2, g3, g4, fun p hp => ?_⟩
  obtain ⟨i, v, hv, hpi, hpl⟩ := hs.l3.has p hp
  have hil : i < c.ps.length := (List.getElem?_eq_some_iff.1 hpi).1
  obtain ⟨a', cs, n', d, rfl, hcs, ht, hd⟩ := g5 i hil
  obtain ⟨a2, c2, e2, _, _, hc⟩ := hs.l2
  cases e2
  rcases hc with h0 | ⟨b, off, e, _, _, hc⟩
  · omega
  · cases e
    obtain ⟨s0, s1, s2, s3, s4, s5⟩ := Lies.pv hc hv
    obtain ⟨_, hln, hat⟩ := World.cells?_some hcs
    have key : cs = v.cells := by
      have q : ∀ j, j < 6 → cs[j]? = v.cells[j]? := by
        intro j hj
        rw [← hat j hj, Deep.add_add, add_at]
        have hl6 : j < v.cells.length := hj
        rw [List.getElem?_eq_getElem hl6]
        exact hc _ _ (by rw [flat_at Pv.cells 6 (fun _ => rfl) _ _ j _ hv hj]; exact List.getElem?_eq_getElem hl6)
      refine List.ext_getElem? fun j => ?_
      rcases Nat.lt_or_ge j 6 with hj | hj
      · exact q j hj
      · rw [List.getElem?_eq_none (by omega), List.getElem?_eq_none (by exact hj)]
    subst key
    exact part_slim ht hd hpl
end
end Go.Proofs.Ytmkohnpdpcefgaa
