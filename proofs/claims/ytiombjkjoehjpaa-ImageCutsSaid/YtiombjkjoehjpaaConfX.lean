/- The walk of when two systems are the same: the program's. -/
import Derived.Test.YtiombjkjoehjpaaConfW
namespace Go.Proofs.Ytiombjkjoehjpaa
open Go.ChangeShapes Go.WideShapes Go.ChangeAt Go.RowKit
set_option linter.unusedVariables false
attribute [local go_sem ↓] Go.wp_at_zero Go.wp_at_succ

set_option maxRecDepth 100000 in
set_option maxHeartbeats 4000000 in
theorem same_any (wa pa ca xa qa ya : Option Addr) (wn wc pn pc cn cc xn xc qn qc yn yc : Nat) (w : World) (lo hi : Nat) (c d : Cf) (pvs qvs : List Pv) (h1 : c.ws.length = wn) (h2 : c.ps.length = pn) (h3 : c.cs.length = cn) (g1 : d.ws.length = xn) (g2 : d.ps.length = qn) (g3 : d.cs.length = yn)
    (p1 : Lies w lo hi (.slice wa wn wc) wn 3 (c.ws.flatMap Wn.cells)) (p2 : Lies w lo hi (.slice pa pn pc) pn 6 (pvs.flatMap Pv.cells)) (p3 : AllLie w lo hi pvs c.ps) (p4 : Lies w lo hi (.slice ca cn cc) cn 4 (c.cs.flatMap Ch.cells))
    (q1 : Lies w lo hi (.slice xa xn xc) xn 3 (d.ws.flatMap Wn.cells)) (q2 : Lies w lo hi (.slice qa qn qc) qn 6 (qvs.flatMap Pv.cells)) (q3 : AllLie w lo hi qvs d.ps) (q4 : Lies w lo hi (.slice ya yn yc) yn 4 (d.cs.flatMap Ch.cells)) (hhi : hi ≤ w.heap.size)
    (b1 : wn ≤ 1000) (b2 : pn ≤ 1000) (b3 : cn ≤ 1000) (b4 : ∀ p ∈ c.ps, p.ts.length ≤ 1000 ∧ p.ss.length ≤ 1000 ∧ p.ds.length ≤ 1000) :
    Calls Try.prog 17 #[.agg #[.int .i64 c.frame, .int .i64 c.margin, .slice wa wn wc, .slice pa pn pc, .slice ca cn cc], .agg #[.int .i64 d.frame, .int .i64 d.margin, .slice xa xn xc, .slice qa qn qc, .slice ya yn yc]] w fun e w' => e = .returned (.bool (eqCf c d)) ∧ Below w.heap.size w w' := by
  obtain ⟨V, hV⟩ : ∃ V, V = (w.alloc (.cells #[.int .i64 c.frame, .int .i64 c.margin, .slice wa wn wc, .slice pa pn pc, .slice ca cn cc] 37)).alloc (.cells #[.int .i64 d.frame, .int .i64 d.margin, .slice xa xn xc, .slice qa qn qc, .slice ya yn yc] 37) := ⟨_, rfl⟩
  have B1 : Below w.heap.size w V := by rw [hV]; exact b_alloc (below1 _ _) (Nat.le_refl _) _
  have s1 : V.heap[w.heap.size]? = some (.cells #[.int .i64 c.frame, .int .i64 c.margin, .slice wa wn wc, .slice pa pn pc, .slice ca cn cc] 37 (0, 0)) := by rw [hV]; simp only [heap_at, World.size_alloc]; simp
  have s2 : V.heap[w.heap.size + 1]? = some (.cells #[.int .i64 d.frame, .int .i64 d.margin, .slice xa xn xc, .slice qa qn qc, .slice ya yn yc] 37 (0, 0)) := by rw [hV]; simp only [heap_at, World.size_alloc]; simp
  have z1 := lt_of_block s1; have z2 := lt_of_block s2
  have hhv : hi ≤ V.heap.size := by omega
  have ks : ∀ W : World, Below V.heap.size V W → (W.cell? ⟨w.heap.size, 0, none⟩ = some (.int .i64 c.frame) ∧ W.cell? ⟨w.heap.size, 1, none⟩ = some (.int .i64 c.margin) ∧ W.cell? ⟨w.heap.size, 2, none⟩ = some (.slice wa wn wc) ∧ W.cell? ⟨w.heap.size, 3, none⟩ = some (.slice pa pn pc) ∧ W.cell? ⟨w.heap.size, 4, none⟩ = some (.slice ca cn cc) ∧ W.cell? ⟨w.heap.size + 1, 0, none⟩ = some (.int .i64 d.frame) ∧ W.cell? ⟨w.heap.size + 1, 1, none⟩ = some (.int .i64 d.margin) ∧ W.cell? ⟨w.heap.size + 1, 2, none⟩ = some (.slice xa xn xc) ∧ W.cell? ⟨w.heap.size + 1, 3, none⟩ = some (.slice qa qn qc) ∧ W.cell? ⟨w.heap.size + 1, 4, none⟩ = some (.slice ya yn yc)) := by
    intro W h
    have c1 := fun (i : Nat) (u : Value) (hu : (#[.int .i64 c.frame, .int .i64 c.margin, .slice wa wn wc, .slice pa pn pc, .slice ca cn cc] : Array Value)[i]? = some u) => (h.cell (p := ⟨w.heap.size, i, none⟩) z1).trans (cell_in s1 hu)
    have c2 := fun (i : Nat) (u : Value) (hu : (#[.int .i64 d.frame, .int .i64 d.margin, .slice xa xn xc, .slice qa qn qc, .slice ya yn yc] : Array Value)[i]? = some u) => (h.cell (p := ⟨w.heap.size + 1, i, none⟩) z2).trans (cell_in s2 hu)
    exact ⟨c1 0 _ rfl, c1 1 _ rfl, c1 2 _ rfl, c1 3 _ rfl, c1 4 _ rfl, c2 0 _ rfl, c2 1 _ rfl, c2 2 _ rfl, c2 3 _ rfl, c2 4 _ rfl⟩
  have si : ∀ W : World, Below V.heap.size V W → SameIn w W lo hi := fun W h => (SameIn.of_below B1 hhi).trans (SameIn.of_below h hhv)
  have hwv := B1.size
  have cc1 : ∀ W : World, Below V.heap.size V W → Calls Try.prog 35 #[.slice wa wn wc, .slice xa xn xc] W fun e w' => e = .returned (.bool (eqL eqWn c.ws d.ws)) ∧ Below W.heap.size W w' := fun W h => eqWnL_any _ _ _ _ _ _ W lo hi c.ws d.ws h1 g1 (p1.keep (si W h)) (q1.keep (si W h)) (Nat.le_trans hhv h.size) b1
  have cc2 : ∀ W : World, Below V.heap.size V W → Calls Try.prog 36 #[.slice pa pn pc, .slice qa qn qc, .func (.func 37) #[] #[]] W fun e w' => e = .returned (.bool (eqL eqPt c.ps d.ps)) ∧ Below W.heap.size W w' := fun W h => eqPtL_any _ _ _ _ _ _ W lo hi c.ps d.ps pvs qvs h2 g2 (p2.keep (si W h)) (p3.keep (si W h)) (q2.keep (si W h)) (q3.keep (si W h)) (Nat.le_trans hhv h.size) b2 b4
  have cc3 : ∀ W : World, Below V.heap.size V W → Calls Try.prog 38 #[.slice ca cn cc, .slice ya yn yc] W fun e w' => e = .returned (.bool (eqL eqCh c.cs d.cs)) ∧ Below W.heap.size W w' := fun W h => eqChL_any _ _ _ _ _ _ W lo hi c.cs d.cs h3 g3 (p4.keep (si W h)) (q4.keep (si W h)) (Nat.le_trans hhv h.size) b3
  have C1 := Lib.hid cc1; have C2 := Lib.hid cc2; have C3 := Lib.hid cc3; have KS := Lib.hid ks; have HB1 := Lib.hid B1; have HV := Lib.hid hV
  clear p1 p2 p3 p4 q1 q2 q3 q4 ks si cc1 cc2 cc3 B1 s1 s2 z1 z2 hhv h1 h2 h3 g1 g2 g3 b4 hwv hV
  cases e0 : (c.frame == d.frame) with
  | false =>
    have HR : Hid (eqCf c d = false) := Lib.hid (by simp [eqCf, e0])
    go_enter Try.func17, Try.ntmps17
    go_wp2_with fail
    go_ret
    exact ⟨by rw [HR.out]; rfl, by rw [← HV.out]; exact HB1.out⟩
  | true =>
  cases e1 : (c.margin == d.margin) with
  | false =>
    have HR : Hid (eqCf c d = false) := Lib.hid (by simp [eqCf, e1])
    go_enter Try.func17, Try.ntmps17
    go_wp2_with fail
    go_ret
    exact ⟨by rw [HR.out]; rfl, by rw [← HV.out]; exact HB1.out⟩
  | true =>
  cases e2 : eqL eqWn c.ws d.ws with
  | false =>
    have HE1 := Lib.hid e2; have HR : Hid (eqCf c d = false) := Lib.hid (by simp [eqCf, e2])
    clear e2
    go_enter Try.func17, Try.ntmps17
    go_wp2_with fail
    rw [← HV.out]
    go_wp2_with (first | (go_at_call 35; refine (C1.out _ (Below.refl _ _)).mono ?_; rintro e w1 ⟨rfl, hb1⟩; rw [HE1.out]; have hv1 := bel_go3 (Below.refl _ _) hb1; obtain ⟨k0, k1, k2, k3, k4, k5, k6, k7, k8, k9⟩ := KS.out _ hv1))
    go_ret
    exact ⟨by rw [HR.out]; rfl, HB1.out.trans (hv1.mono HB1.out.size)⟩
  | true =>
  cases e3 : eqL eqPt c.ps d.ps with
  | false =>
    have HE1 := Lib.hid e2; have HE2 := Lib.hid e3; have HR : Hid (eqCf c d = false) := Lib.hid (by simp [eqCf, e3])
    clear e2 e3
    go_enter Try.func17, Try.ntmps17
    go_wp2_with fail
    rw [← HV.out]
    go_wp2_with (first | (go_at_call 35; refine (C1.out _ (Below.refl _ _)).mono ?_; rintro e w1 ⟨rfl, hb1⟩; rw [HE1.out]; have hv1 := bel_go3 (Below.refl _ _) hb1; obtain ⟨k0, k1, k2, k3, k4, k5, k6, k7, k8, k9⟩ := KS.out _ hv1) | (go_at_call 36; refine (C2.out _ (hv1)).mono ?_; rintro e w2 ⟨rfl, hb2⟩; rw [HE2.out]; have hv2 := bel_go3 (hv1) hb2; obtain ⟨k0, k1, k2, k3, k4, k5, k6, k7, k8, k9⟩ := KS.out _ hv2))
    go_ret
    exact ⟨by rw [HR.out]; rfl, HB1.out.trans (hv2.mono HB1.out.size)⟩
  | true =>
    have HE1 := Lib.hid e2; have HE2 := Lib.hid e3; have HR : Hid (eqCf c d = eqL eqCh c.cs d.cs) := Lib.hid (by rw [eqCf, e0, e1, e2, e3]; simp)
    cases e4 : eqL eqCh c.cs d.cs
    all_goals
     have HE3 := Lib.hid e4
     rw [e4] at HR
    all_goals clear e2 e3 e4
    all_goals go_enter Try.func17, Try.ntmps17
    all_goals go_wp2_with fail
    all_goals rw [← HV.out]
    all_goals go_wp2_with (first | (go_at_call 35; refine (C1.out _ (Below.refl _ _)).mono ?_; rintro e w1 ⟨rfl, hb1⟩; rw [HE1.out]; have hv1 := bel_go3 (Below.refl _ _) hb1; obtain ⟨k0, k1, k2, k3, k4, k5, k6, k7, k8, k9⟩ := KS.out _ hv1) | (go_at_call 36; refine (C2.out _ (hv1)).mono ?_; rintro e w2 ⟨rfl, hb2⟩; rw [HE2.out]; have hv2 := bel_go3 (hv1) hb2; obtain ⟨k0, k1, k2, k3, k4, k5, k6, k7, k8, k9⟩ := KS.out _ hv2) | (go_at_call 38; refine (C3.out _ (hv2)).mono ?_; rintro e w3 ⟨rfl, hb3⟩; rw [HE3.out]; have hv3 := bel_go3 (hv2) hb3; obtain ⟨k0, k1, k2, k3, k4, k5, k6, k7, k8, k9⟩ := KS.out _ hv3))
    all_goals go_ret
    all_goals exact ⟨by rw [HR.out]; rfl, HB1.out.trans (hv3.mono HB1.out.size)⟩
end Go.Proofs.Ytiombjkjoehjpaa
