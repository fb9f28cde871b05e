/- One comes in, one goes. -/
import Derived.Test.YtnenbgdonkgkfaaGreatHeapS
namespace Go.Proofs.YtnenbgdonkgkfaaGreat
open Go.ChangeShapes Go.WideShapes Go.ChangeAt Go.RowKit
set_option linter.unusedVariables false

set_option maxRecDepth 100000 in
set_option maxHeartbeats 4000000 in
theorem enter_any (w : World) (lo hi H W X room n : Nat) (f : Nat → En) (x : Nat → Int) (D : Nat → Option Int) (h : HpAt w lo hi H W X room n f x) (hG : Good room n f x D) (hO : HOrd n f) (id : Nat) (d : Int) (hid : id < room) (hD : D id = none) :
    Calls Tryz.prog 64 #[.pointer (some ⟨H, 0, none⟩), .agg #[.int .i64 id, .int .i64 d]] w fun e w' => ∃ (f' : Nat → En) (x' : Nat → Int), e = .returned (.tuple #[]) ∧ HpAt w' lo hi H W X room (n + 1) f' x' ∧ Good room (n + 1) f' x' (upd D id (some d)) ∧ HOrd (n + 1) f' ∧ Mv lo hi w w' := by
  have hn : n < room := hG.room_for hid hD
  have hlo : lo ≤ w.heap.size := by have := h.rng; have := h.hiS; omega
  have hhi := h.hiS
  have hr := h.rng
  obtain ⟨V, hV⟩ : ∃ V, V = w.alloc (.cells #[.int .i64 id, .int .i64 d] 97) := ⟨_, rfl⟩
  have hsz : V.heap.size = w.heap.size + 1 := by rw [hV]; simp
  have hHV : HpAt V lo hi H W X room n f x := by rw [hV]; exact h.later (below1 _ _)
  have HMV : Hid (Mv lo hi w V) := Lib.hid (by rw [hV]; exact Mv.of_below (below1 _ _) hlo)
  have hBV : V.heap[w.heap.size]? = some (.cells #[.int .i64 id, .int .i64 d] 97 (0, 0)) := by rw [hV]; exact heap_alloc_new _ _
  obtain ⟨A, hA⟩ : ∃ A, A = V.alloc (.cells #[.int .i64 id, .int .i64 d] 97) := ⟨_, rfl⟩
  have hHA : HpAt A lo hi H W X room n f x := by rw [hA]; exact hHV.later (below1 _ _)
  have hMA : Mv lo hi w A := by rw [hA]; exact HMV.out.trans (Mv.of_below (below1 _ _) (by show lo ≤ V.heap.size; omega))
  have hBA : A.heap[w.heap.size]? = some (.cells #[.int .i64 id, .int .i64 d] 97 (0, 0)) := by rw [hA]; exact (Below.heap_alloc _ _ _ (by show _ < V.heap.size; omega)).trans hBV
  have hSA : A.heap[w.heap.size + 1]? = some (.cells #[.int .i64 id, .int .i64 d] 97 (0, 0)) := by rw [hA, ← hsz]; exact heap_alloc_new V _
  obtain ⟨r0, r1, r2, r3⟩ := hHA.who.at_ hn
  obtain ⟨s0, s1, s2, s3⟩ := hHA.cells
  rw [hA] at r0 r1 r2 r3 s0 s2
  have n1 : n + 1 ≤ room := hn
  have n2 : W ≠ H := h.ne.1.symm
  have n3 : H ≠ W := h.ne.1
  obtain ⟨c0, c1, c2, c3⟩ := hHV.cells
  have k0 : V.cell? ⟨w.heap.size, 0, none⟩ = some (.int .i64 id) := cell_in hBV rfl
  have k1 : V.cell? ⟨w.heap.size, 1, none⟩ = some (.int .i64 d) := cell_in hBV rfl
  obtain ⟨Y, hY⟩ : ∃ Y, Y = (((A.setCell ⟨W, n * 2, none⟩ (.int .i64 id)).setCell ⟨W, n * 2 + 1, none⟩ (.int .i64 d)).setCell ⟨H, 0, none⟩ (.slice (some ⟨W, 0, none⟩) (n + 1) room)).drew := ⟨_, rfl⟩
  have HHY : Hid (HpAt Y lo hi H W X room (n + 1) (upd f n (id, d)) x) := Lib.hid (by rw [hY]; exact ((hHA.set hn id d).len (n + 1)).drew)
  have HMY : Hid (Mv lo hi w Y) := Lib.hid (by rw [hY]; exact (((hMA.set hr.2.1 hr.2.2.2.2.1 _ _).set hr.2.1 hr.2.2.2.2.1 _ _).set hr.1 hr.2.2.2.1 _ _).drew)
  have HBY : Hid (Y.heap[w.heap.size]? = some (.cells #[.int .i64 id, .int .i64 d] 97 (0, 0))) := Lib.hid (by rw [hY, heap_drew, set_other _ _ _ (by omega), set_other _ _ _ (by omega), set_other _ _ _ (by omega)]; exact hBA)
  have HG2 := Lib.hid (hG.enter (e := (id, d)) hid hD)
  have HU2 : Hid (UpI (n + 1) (upd f n (id, d)) n) := Lib.hid (hO.but (fun i h1 h2 => ⟨by omega, upd_ne _ _ h2⟩) (fun i h1 h2 => by omega))
  have KS : Hid (∀ Z x', HpAt Z lo hi H W X room (n + 1) (upd f n (id, d)) x' → Mv lo hi Y Z → Z.cell? ⟨H, 1, none⟩ = some (.slice (some ⟨X, 0, none⟩) room room) ∧ Z.cell? ⟨w.heap.size, 0, none⟩ = some (.int .i64 id)) := Lib.hid (fun Z x' h1 h2 => ⟨h1.cells.2.1, cell_in (h2.block HBY.out hhi) rfl⟩)
  have HV := Lib.hid hV
  have HA := Lib.hid hA
  have HY := Lib.hid hY
  have HR : Hid (lo ≤ X ∧ X < hi) := Lib.hid ⟨hr.2.2.1, hr.2.2.2.2.2⟩
  have n0 : (0 : Int) ≤ (n : Int) := by omega
  have u1 : H < V.heap.size := by have := hHV.hiS; omega
  have u2 : w.heap.size < V.heap.size := by omega
  have u3 : W < V.heap.size := by have := hHV.hiS; omega
  obtain ⟨b0, _, _, _⟩ := h.cells
  have u0 : H < w.heap.size := by omega
  clear hG hO h hV hHV hBV hMA hHA hBA hSA hY hr
  go_enter Tryz.func64, Tryz.ntmps64
  go_wp2_with fail
  rw [← HV.out]
  go_region
  rw [← HA.out, ← HY.out]
  clear b0 c0 c1 c2 c3 k0 k1 r0 r1 r2 r3 s0 s1 s2 s3 u1 u2 u3 hsz
  obtain ⟨q0, q1⟩ := KS.out _ _ HHY.out (Mv.refl _)
  have i0 : (0 : Int) ≤ (id : Int) := by omega
  go_wp2_with fail
  go_region_held3 (fun Z => Z.cell? ⟨H, 1, none⟩ = some (.slice (some ⟨X, 0, none⟩) room room) ∧ Z.cell? ⟨w.heap.size, 0, none⟩ = some (.int .i64 id))
    (first | exact KS.out _ _ HHY.out.drew (Mv.refl Y).drew | exact KS.out _ _ hp4.out hm4.out | fail "no")
    (first | (go_at_call 74; refine (put_any X room id x n _ HHY.out.drew.whr hid).mono ?_; rintro e w4 ⟨rfl, hw4⟩; have hp4 := Lib.hid (show HpAt w4 lo hi H W X room (n + 1) _ _ from by rw [hw4]; exact HHY.out.drew.put hid n); have hm4 := Lib.hid (show Mv lo hi Y w4 from by rw [hw4]; exact ((Mv.refl Y).drew).set HR.out.1 HR.out.2 _ _); clear hw4) | fail "no arm")
  go_wp2_with (go_at_call 72; refine (settle_any _ lo hi H W X room (n + 1) _ _ _ hp4.out HG2.out (Nat.lt_succ_self n) HU2.out).mono ?_; rintro e w5 ⟨f5, x5, rfl, hh5', hg5', ho5', hm5'⟩; have hh5 := Lib.hid hh5'; have hg5 := Lib.hid hg5'; have ho5 := Lib.hid ho5'; have hm5 := Lib.hid hm5'; clear hh5' hg5' ho5' hm5')
  go_end0
  exact ⟨f5, x5, rfl, hh5.out, hg5.out, ho5.out, (HMY.out.trans hm4.out).trans hm5.out⟩
set_option maxRecDepth 100000 in
set_option maxHeartbeats 4000000 in
theorem leave_any (w : World) (lo hi H W X room n m : Nat) (f : Nat → En) (x : Nat → Int) (D : Nat → Option Int) (h : HpAt w lo hi H W X room n f x) (hG : Good room n f x D) (hO : HOrd n f) {a : Nat} (ha : a < n) (hm : n = m + 1) :
    Calls Tryz.prog 86 #[.pointer (some ⟨H, 0, none⟩), .int .i64 a] w fun e w' => ∃ (f' : Nat → En) (x' : Nat → Int), e = .returned (.tuple #[]) ∧ HpAt w' lo hi H W X room m f' x' ∧ Good room m f' x' (upd D (f a).1 none) ∧ HOrd m f' ∧ Mv lo hi w w' := by
  have hnr := hG.le
  have hsm := h.small
  obtain ⟨b0, b1, b2, b3⟩ := h.cells
  have hr := h.rng
  obtain ⟨n1, n2, n3⟩ := h.ne
  have n1' := n1.symm
  have n2' := n2.symm
  have hmn : m < n := by omega
  have hG1 := hG.swap ha hmn
  have HL := Lib.hid (show Good room m (sw f a m) (upd (upd (upd x (f m).1 a) (f a).1 m) (f a).1 (-1)) (upd D (f a).1 none) from by
    have hG2 := hG1
    rw [hm] at hG2
    have := hG2.leave
    rw [sw_b] at this
    exact this)
  have hia := (hG.ids a ha).1
  have HI := Lib.hid (show (f a).1 < room ∧ (f m).1 < room from ⟨(hG.ids a ha).1, (hG.ids m hmn).1⟩)
  have HO1 : Hid (a < m → UpI m (sw f a m) a) := Lib.hid (fun hlt => hO.but (fun i h1 h2 => ⟨by omega, sw_ne f h2 (by omega)⟩) (fun i h1 h2 => by omega))
  have HO2 : Hid (¬ a < m → HOrd m (sw f a m)) := Lib.hid (fun hlt => hO.cut (by omega) (fun i h1 => sw_ne f (by omega) (by omega)))
  have HH := Lib.hid h
  have HR : Hid (lo ≤ H ∧ H < hi ∧ lo ≤ X ∧ X < hi) := Lib.hid ⟨hr.1, hr.2.2.2.1, hr.2.2.1, hr.2.2.2.2.2⟩
  have HNR := Lib.hid hnr
  obtain ⟨fa, hfa⟩ : ∃ fa, fa = f a := ⟨_, rfl⟩
  have KS : Hid (∀ Z x', HpAt Z lo hi H W X room n (sw f a m) x' → Z.cell? ⟨H, 0, none⟩ = some (.slice (some ⟨W, 0, none⟩) n room) ∧ Z.cell? ⟨H, 1, none⟩ = some (.slice (some ⟨X, 0, none⟩) room room) ∧ Z.cell? ⟨W, m * 2, none⟩ = some (.int .i64 fa.1)) := Lib.hid (fun Z x' h1 => ⟨h1.cells.1, h1.cells.2.1, by have := (h1.who.at_ (show m < room by omega)).1; rw [sw_b, ← hfa] at this; exact this⟩)
  rw [← hfa] at HL HI hia ⊢
  have HFA := Lib.hid hfa
  have m0 : (n : Int) - 1 = (m : Int) := by omega
  have m1 : (0 : Int) ≤ (m : Int) := by omega
  have m2 : (m : Int) < (n : Int) := by omega
  have m3 : decide ((m : Int) < (n : Int)) = true := decide_eq_true m2
  have m4 : (m : Int) ≤ (room : Int) := by omega
  have m5 : m ≤ room := by omega
  have ia0 : (0 : Int) ≤ (fa.1 : Int) := by omega
  have HN := Lib.hid hm
  clear hG hO h hG1 hr hfa hm
  go_enter Tryz.func86, Tryz.ntmps86
  go_wp2_with (go_at_call 91; refine (swap_any _ lo hi H W X room n f x HH.out HNR.out ha hmn (by rw [← HFA.out]; exact HI.out.1) HI.out.2).mono ?_; rintro e w4 ⟨rfl, hh4', hm4'⟩; have hh4 := Lib.hid hh4'; have hm4 := Lib.hid hm4'; clear hh4' hm4')
  clear b0 b1 b2 b3
  obtain ⟨q0, q1, q2⟩ := KS.out _ _ hh4.out
  go_wp2_with fail
  go_region_held3 (fun Z => Z.cell? ⟨H, 0, none⟩ = some (.slice (some ⟨W, 0, none⟩) n room) ∧ Z.cell? ⟨H, 1, none⟩ = some (.slice (some ⟨X, 0, none⟩) room room) ∧ Z.cell? ⟨W, m * 2, none⟩ = some (.int .i64 fa.1))
    (first | exact KS.out _ _ hh4.out.drew | exact KS.out _ _ hp5.out | fail "no")
    (first | (go_at_call 74; refine (put_any X room fa.1 _ (-1) _ hh4.out.drew.whr HI.out.1).mono ?_; rintro e w5 ⟨rfl, hw5⟩; have hp5 := Lib.hid (show HpAt w5 lo hi H W X room n _ _ from by rw [hw5]; exact hh4.out.drew.put HI.out.1 (-1)); have hm5 := Lib.hid (show Mv lo hi w w5 from by rw [hw5]; exact hm4.out.drew.set HR.out.2.2.1 HR.out.2.2.2 _ _); clear hw5) | fail "no arm")
  clear q0 q1 q2
  obtain ⟨q0, q1, q2, q3⟩ := hp5.out.cells
  obtain ⟨Y, hY⟩ : ∃ Y, Y = w5.setCell ⟨H, 0, none⟩ (.slice (some ⟨W, 0, none⟩) m room) := ⟨_, rfl⟩
  have HHY : Hid (HpAt Y lo hi H W X room m (sw f a m) (upd (upd (upd x (f m).1 a) fa.1 m) fa.1 (-1))) := Lib.hid (by rw [hY]; have := hp5.out.len m; rwa [← HFA.out] at this)
  have HMY : Hid (Mv lo hi w Y) := Lib.hid (by rw [hY]; exact hm5.out.set HR.out.1 HR.out.2.1 _ _)
  have HY := Lib.hid hY
  clear hY
  by_cases hlt : a < m
  · have tk : decide ((a : Int) < (m : Int)) = true := decide_eq_true (by omega)
    have HU := Lib.hid (HO1.out hlt)
    go_wp2_with (go_at_call 72; rw [← HY.out]; refine (settle_any _ lo hi H W X room m _ _ _ HHY.out HL.out hlt HU.out).mono ?_; rintro e w6 ⟨f6, x6, rfl, hh6', hg6', ho6', hm6'⟩; have hh6 := Lib.hid hh6'; have hg6 := Lib.hid hg6'; have ho6 := Lib.hid ho6'; have hm6 := Lib.hid hm6'; clear hh6' hg6' ho6' hm6')
    go_end0
    exact ⟨f6, x6, rfl, hh6.out, hg6.out, ho6.out, HMY.out.trans hm6.out⟩
  · have tk : decide ((a : Int) < (m : Int)) = false := decide_eq_false (by omega)
    have HU := Lib.hid (HO2.out hlt)
    go_wp2_with fail
    go_end0
    rw [← HY.out]
    exact ⟨_, _, rfl, HHY.out, HL.out, HU.out, HMY.out⟩
end Go.Proofs.YtnenbgdonkgkfaaGreat
