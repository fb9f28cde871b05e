/- The walks of when two systems are the same: the program's. -/
import Derived.Test.YtiombjkjoehjpaaConfU
namespace Go.Proofs.Ytiombjkjoehjpaa
open Go.ChangeShapes Go.WideShapes Go.ChangeAt Go.RowKit
set_option linter.unusedVariables false
attribute [local go_sem ↓] Go.wp_at_zero Go.wp_at_succ
theorem bel_go3 {V W w1 : World} (h : Below V.heap.size V W) (k : Below W.heap.size W w1) : Below V.heap.size V w1 := h.trans (k.mono h.size)

set_option maxRecDepth 100000 in
set_option maxHeartbeats 4000000 in
theorem samePart_any (ta sa da tb sb db : Option Addr) (tn tc sn sc dn dc un uc rn rc en ec : Nat) (x0 x1 x2 y0 y1 y2 : Int) (w : World) (lo hi : Nat) (p q : Pt) (hp : PtLies w lo hi ⟨.slice ta tn tc, .slice sa sn sc, .slice da dn dc, x0, x1, x2⟩ p) (hq : PtLies w lo hi ⟨.slice tb un uc, .slice sb rn rc, .slice db en ec, y0, y1, y2⟩ q) (hhi : hi ≤ w.heap.size)
    (l1 : p.ts.length ≤ 1000) (l2 : p.ss.length ≤ 1000) (l3 : p.ds.length ≤ 1000) :
    Calls Try.prog 37 #[.agg #[.slice ta tn tc, .slice sa sn sc, .slice da dn dc, .int .u8 x0, .int .u8 x1, .int .u8 x2], .agg #[.slice tb un uc, .slice sb rn rc, .slice db en ec, .int .u8 y0, .int .u8 y1, .int .u8 y2]] w fun e w' => e = .returned (.bool (eqPt p q)) ∧ Below w.heap.size w w' := by
  obtain ⟨V, hV⟩ : ∃ V, V = (w.alloc (.cells #[.slice ta tn tc, .slice sa sn sc, .slice da dn dc, .int .u8 x0, .int .u8 x1, .int .u8 x2] 76)).alloc (.cells #[.slice tb un uc, .slice sb rn rc, .slice db en ec, .int .u8 y0, .int .u8 y1, .int .u8 y2] 76) := ⟨_, rfl⟩
  have B1 : Below w.heap.size w V := by rw [hV]; exact b_alloc (below1 _ _) (Nat.le_refl _) _
  have s1 : V.heap[w.heap.size]? = some (.cells #[.slice ta tn tc, .slice sa sn sc, .slice da dn dc, .int .u8 x0, .int .u8 x1, .int .u8 x2] 76 (0, 0)) := by rw [hV]; simp only [heap_at, World.size_alloc]; simp
  have s2 : V.heap[w.heap.size + 1]? = some (.cells #[.slice tb un uc, .slice sb rn rc, .slice db en ec, .int .u8 y0, .int .u8 y1, .int .u8 y2] 76 (0, 0)) := by rw [hV]; simp only [heap_at, World.size_alloc]; simp
  have z1 := lt_of_block s1; have z2 := lt_of_block s2
  have hhv : hi ≤ V.heap.size := by omega
  have hp' := hp.keep (SameIn.of_below B1 hhi); have hq' := hq.keep (SameIn.of_below B1 hhi)
  obtain ⟨p1, p2, p3, p4, p5, p6⟩ := hp'
  obtain ⟨q1, q2, q3, q4, q5, q6⟩ := hq'
  have ks : ∀ W : World, Below V.heap.size V W → (W.cell? ⟨w.heap.size, 0, none⟩ = some (.slice ta tn tc) ∧ W.cell? ⟨w.heap.size, 1, none⟩ = some (.slice sa sn sc) ∧ W.cell? ⟨w.heap.size, 2, none⟩ = some (.slice da dn dc) ∧ W.cell? ⟨w.heap.size, 3, none⟩ = some (.int .u8 x0) ∧ W.cell? ⟨w.heap.size, 4, none⟩ = some (.int .u8 x1) ∧ W.cell? ⟨w.heap.size, 5, none⟩ = some (.int .u8 x2) ∧ W.cell? ⟨w.heap.size + 1, 0, none⟩ = some (.slice tb un uc) ∧ W.cell? ⟨w.heap.size + 1, 1, none⟩ = some (.slice sb rn rc) ∧ W.cell? ⟨w.heap.size + 1, 2, none⟩ = some (.slice db en ec) ∧ W.cell? ⟨w.heap.size + 1, 3, none⟩ = some (.int .u8 y0) ∧ W.cell? ⟨w.heap.size + 1, 4, none⟩ = some (.int .u8 y1) ∧ W.cell? ⟨w.heap.size + 1, 5, none⟩ = some (.int .u8 y2)) := by
    intro W h
    have c1 := fun (i : Nat) (u : Value) (hu : (#[.slice ta tn tc, .slice sa sn sc, .slice da dn dc, .int .u8 x0, .int .u8 x1, .int .u8 x2] : Array Value)[i]? = some u) => (h.cell (p := ⟨w.heap.size, i, none⟩) z1).trans (cell_in s1 hu)
    have c2 := fun (i : Nat) (u : Value) (hu : (#[.slice tb un uc, .slice sb rn rc, .slice db en ec, .int .u8 y0, .int .u8 y1, .int .u8 y2] : Array Value)[i]? = some u) => (h.cell (p := ⟨w.heap.size + 1, i, none⟩) z2).trans (cell_in s2 hu)
    exact ⟨c1 0 _ rfl, c1 1 _ rfl, c1 2 _ rfl, c1 3 _ rfl, c1 4 _ rfl, c1 5 _ rfl, c2 0 _ rfl, c2 1 _ rfl, c2 2 _ rfl, c2 3 _ rfl, c2 4 _ rfl, c2 5 _ rfl⟩
  have ln1 : p.ts.length = tn := by obtain ⟨_, _, e, _⟩ := p1; cases e; rfl
  have ln2 : p.ss.length = sn := by obtain ⟨_, _, e, _⟩ := p2; cases e; rfl
  have ln3 : p.ds.length = dn := by obtain ⟨_, _, e, _⟩ := p3; cases e; rfl
  have lm1 : q.ts.length = un := by obtain ⟨_, _, e, _⟩ := q1; cases e; rfl
  have lm2 : q.ss.length = rn := by obtain ⟨_, _, e, _⟩ := q2; cases e; rfl
  have lm3 : q.ds.length = en := by obtain ⟨_, _, e, _⟩ := q3; cases e; rfl
  rw [ln1] at p1 l1; rw [ln2] at p2 l2; rw [ln3] at p3 l3; rw [lm1] at q1; rw [lm2] at q2; rw [lm3] at q3
  have cc1 : ∀ W : World, Below V.heap.size V W → Calls Try.prog 58 #[.slice ta tn tc, .slice tb un uc] W fun e w' => e = .returned (.bool (eqL eqTk p.ts q.ts)) ∧ Below W.heap.size W w' := fun W h => eqTkL_any _ _ _ _ _ _ W lo hi p.ts q.ts ln1 lm1 (p1.keep (SameIn.of_below h hhv)) (q1.keep (SameIn.of_below h hhv)) (Nat.le_trans hhv h.size) l1
  have cc2 : ∀ W : World, Below V.heap.size V W → Calls Try.prog 59 #[.slice sa sn sc, .slice sb rn rc] W fun e w' => e = .returned (.bool (eqL eqSv p.ss q.ss)) ∧ Below W.heap.size W w' := fun W h => eqSvL_any _ _ _ _ _ _ W lo hi p.ss q.ss ln2 lm2 (p2.keep (SameIn.of_below h hhv)) (q2.keep (SameIn.of_below h hhv)) (Nat.le_trans hhv h.size) l2
  have cc3 : ∀ W : World, Below V.heap.size V W → Calls Try.prog 60 #[.slice da dn dc, .slice db en ec] W fun e w' => e = .returned (.bool (eqL (fun (x y : Int) => x == y) p.ds q.ds)) ∧ Below W.heap.size W w' := fun W h => eqInL_any _ _ _ _ _ _ W lo hi p.ds q.ds ln3 lm3 (p3.keep (SameIn.of_below h hhv)) (q3.keep (SameIn.of_below h hhv)) (Nat.le_trans hhv h.size) l3
  have C1 := Lib.hid cc1; have C2 := Lib.hid cc2; have C3 := Lib.hid cc3; have KS := Lib.hid ks; have HB1 := Lib.hid B1; have HV := Lib.hid hV
  have hA := eqInActs x0 x1 x2 y0 y1 y2
  have hM : Try.prog.eqGuardType Try.prog.depth 56 = false := by kernel_rfl
  clear hp hq p1 p2 p3 q1 q2 q3 ks cc1 cc2 cc3 B1 s1 s2 z1 z2 hhv ln1 ln2 ln3 lm1 lm2 lm3
  have PA4 : Hid (x0 = p.a0 ∧ x1 = p.a1 ∧ x2 = p.a2 ∧ y0 = q.a0 ∧ y1 = q.a1 ∧ y2 = q.a2) := Lib.hid ⟨p4, p5, p6, q4, q5, q6⟩
  clear p4 p5 p6 q4 q5 q6
  cases e1 : eqL eqTk p.ts q.ts with
  | false =>
    have HE1 := Lib.hid e1; have HR : Hid (eqPt p q = false) := Lib.hid (by simp [eqPt, e1])
    clear e1
    go_enter Try.func37, Try.ntmps37
    go_wp2_with fail
    rw [← HV.out]
    go_wp2_with (first | (go_at_call 58; refine (C1.out _ (Below.refl _ _)).mono ?_; rintro e w1 ⟨rfl, hb1⟩; rw [HE1.out]; have hv1 := bel_go3 (Below.refl _ _) hb1; obtain ⟨k0, k1, k2, k3, k4, k5, k6, k7, k8, k9, k10, k11⟩ := KS.out _ hv1))
    go_ret
    exact ⟨by rw [HR.out]; rfl, HB1.out.trans (hv1.mono HB1.out.size)⟩
  | true =>
  cases e2 : eqL eqSv p.ss q.ss with
  | false =>
    have HE1 := Lib.hid e1; have HE2 := Lib.hid e2; have HR : Hid (eqPt p q = false) := Lib.hid (by simp [eqPt, e2])
    clear e1 e2
    go_enter Try.func37, Try.ntmps37
    go_wp2_with fail
    rw [← HV.out]
    go_wp2_with (first | (go_at_call 58; refine (C1.out _ (Below.refl _ _)).mono ?_; rintro e w1 ⟨rfl, hb1⟩; rw [HE1.out]; have hv1 := bel_go3 (Below.refl _ _) hb1; obtain ⟨k0, k1, k2, k3, k4, k5, k6, k7, k8, k9, k10, k11⟩ := KS.out _ hv1) | (go_at_call 59; refine (C2.out _ (hv1)).mono ?_; rintro e w2 ⟨rfl, hb2⟩; rw [HE2.out]; have hv2 := bel_go3 (hv1) hb2; obtain ⟨k0, k1, k2, k3, k4, k5, k6, k7, k8, k9, k10, k11⟩ := KS.out _ hv2))
    go_ret
    exact ⟨by rw [HR.out]; rfl, HB1.out.trans (hv2.mono HB1.out.size)⟩
  | true =>
  cases e3 : eqL (fun (x y : Int) => x == y) p.ds q.ds with
  | false =>
    have HE1 := Lib.hid e1; have HE2 := Lib.hid e2; have HE3 := Lib.hid e3; have HR : Hid (eqPt p q = false) := Lib.hid (by simp [eqPt, e3])
    clear e1 e2 e3
    go_enter Try.func37, Try.ntmps37
    go_wp2_with fail
    rw [← HV.out]
    go_wp2_with (first | (go_at_call 58; refine (C1.out _ (Below.refl _ _)).mono ?_; rintro e w1 ⟨rfl, hb1⟩; rw [HE1.out]; have hv1 := bel_go3 (Below.refl _ _) hb1; obtain ⟨k0, k1, k2, k3, k4, k5, k6, k7, k8, k9, k10, k11⟩ := KS.out _ hv1) | (go_at_call 59; refine (C2.out _ (hv1)).mono ?_; rintro e w2 ⟨rfl, hb2⟩; rw [HE2.out]; have hv2 := bel_go3 (hv1) hb2; obtain ⟨k0, k1, k2, k3, k4, k5, k6, k7, k8, k9, k10, k11⟩ := KS.out _ hv2) | (go_at_call 60; refine (C3.out _ (hv2)).mono ?_; rintro e w3 ⟨rfl, hb3⟩; rw [HE3.out]; have hv3 := bel_go3 (hv2) hb3; obtain ⟨k0, k1, k2, k3, k4, k5, k6, k7, k8, k9, k10, k11⟩ := KS.out _ hv3))
    go_ret
    exact ⟨by rw [HR.out]; rfl, HB1.out.trans (hv3.mono HB1.out.size)⟩
  | true =>
    have HE1 := Lib.hid e1; have HE2 := Lib.hid e2; have HE3 := Lib.hid e3; have HR : Hid (eqPt p q = (x0 == y0 && (x1 == y1 && x2 == y2))) := Lib.hid (by obtain ⟨p4, p5, p6, q4, q5, q6⟩ := PA4.out; rw [eqPt, e1, e2, e3, p4, p5, p6, q4, q5, q6]; simp)
    clear e1 e2 e3
    go_enter Try.func37, Try.ntmps37
    go_wp2_with fail
    rw [← HV.out]
    go_wp2_with (first | (go_at_call 58; refine (C1.out _ (Below.refl _ _)).mono ?_; rintro e w1 ⟨rfl, hb1⟩; rw [HE1.out]; have hv1 := bel_go3 (Below.refl _ _) hb1; obtain ⟨k0, k1, k2, k3, k4, k5, k6, k7, k8, k9, k10, k11⟩ := KS.out _ hv1) | (go_at_call 59; refine (C2.out _ (hv1)).mono ?_; rintro e w2 ⟨rfl, hb2⟩; rw [HE2.out]; have hv2 := bel_go3 (hv1) hb2; obtain ⟨k0, k1, k2, k3, k4, k5, k6, k7, k8, k9, k10, k11⟩ := KS.out _ hv2) | (go_at_call 60; refine (C3.out _ (hv2)).mono ?_; rintro e w3 ⟨rfl, hb3⟩; rw [HE3.out]; have hv3 := bel_go3 (hv2) hb3; obtain ⟨k0, k1, k2, k3, k4, k5, k6, k7, k8, k9, k10, k11⟩ := KS.out _ hv3))
    go_ret
    exact ⟨by rw [HR.out]; rfl, HB1.out.trans (hv3.mono HB1.out.size)⟩
end Go.Proofs.Ytiombjkjoehjpaa
