/- Where one goes: up, down; those at two places change them. -/
import Derived.Test.YtnenbgdonkgkfaaGreatHeapC
namespace Go.Proofs.YtnenbgdonkgkfaaGreat
open Go.ChangeShapes Go.WideShapes Go.ChangeAt Go.RowKit
set_option linter.unusedVariables false

set_option maxRecDepth 100000 in
set_option maxHeartbeats 4000000 in
theorem up_any (B : Nat) (w : World) (lo hi H W X room n : Nat) (f : Nat → En) (x : Nat → Int) (h : HpAt w lo hi H W X room n f x) (hB : w.cell? ⟨B, 0, none⟩ = some (.pointer (some ⟨H, 0, none⟩))) {a : Nat} (hn : n ≤ room) (ha : a < n) :
    Calls Tryz.prog 81 #[.int .i64 a, .pointer (some ⟨B, 0, none⟩)] w fun e w' => e = .returned (.int .i64 (upV f a : Nat)) ∧ Below w.heap.size w w' := by
  obtain ⟨c0, _, _, _⟩ := h.cells
  have hsm := h.small
  have HA0 := ahead_any W room n f w h.who hn ha (show par a < n by unfold par; omega)
  have HU0 : upV f a = if ltH (f a) (f (par a)) then par a else a := rfl
  have hP2 : (max ((a : Int) - 1) 0) / 2 = ((par a : Nat) : Int) := by unfold par; omega
  obtain ⟨t, ht⟩ : ∃ t, t = decide (ltH (f a) (f (par a))) := ⟨_, rfl⟩
  rw [← ht] at HA0
  have HA := Lib.hid HA0
  have HU : Hid (((upV f a : Nat) : Int) = if t then (max ((a : Int) - 1) 0) / 2 else (a : Int)) := Lib.hid (by
    rw [HU0, hP2, ht]
    by_cases hl : ltH (f a) (f (par a)) <;> simp [hl])
  clear h ht HA0 HU0
  generalize ((upV f a : Nat) : Int) = R at HU ⊢
  rcases t with _ | _
  all_goals
    go_enter Tryz.func81, Tryz.ntmps81
    go_wp2_with (go_at_call 82; refine HA.out.mono ?_; rintro e w3 ⟨rfl, hb3⟩)
    go_ret
    rw [HU.out]
    first | exact ⟨rfl, hb3⟩ | exact ⟨by rw [← hP2]; rfl, hb3⟩
def Dst (n : Nat) (f : Nat → En) (a c m : Nat) : Prop := (c = 2 * a + 1 → m = a) ∧ (c = 2 * a + 2 → m = dn1 n f a) ∧ (c = 2 * a + 3 → m = downV n f a)
theorem Dst.next {n : Nat} {f : Nat → En} {a c m : Nat} (h : Dst n f a c m) (h1 : 2 * a + 1 ≤ c) (h2 : c ≤ 2 * a + 2) (h3 : c < n) : Dst n f a (c + 1) (if ltH (f c) (f m) then c else m) := by
  obtain ⟨e1, e2, e3⟩ := h
  rcases (show c = 2 * a + 1 ∨ c = 2 * a + 2 by omega) with rfl | rfl
  · obtain rfl := e1 rfl
    refine ⟨by omega, fun _ => ?_, by omega⟩
    unfold dn1
    by_cases hl : ltH (f (2 * m + 1)) (f m)
    · rw [if_pos hl, if_pos ⟨h3, hl⟩]
    · rw [if_neg hl, if_neg (fun k => hl k.2)]
  · obtain rfl := e2 rfl
    refine ⟨by omega, by omega, fun _ => ?_⟩
    unfold downV
    by_cases hl : ltH (f (2 * a + 2)) (f (dn1 n f a))
    · rw [if_pos hl, if_pos ⟨h3, hl⟩]
    · rw [if_neg hl, if_neg (fun k => hl k.2)]
theorem Dst.done {n : Nat} {f : Nat → En} {a c m : Nat} (h : Dst n f a c m) (h1 : 2 * a + 1 ≤ c) (h2 : c ≤ 2 * a + 3) (h3 : c = 2 * a + 3 ∨ n ≤ c) : m = downV n f a := by
  obtain ⟨e1, e2, e3⟩ := h
  rcases (show c = 2 * a + 1 ∨ c = 2 * a + 2 ∨ c = 2 * a + 3 by omega) with rfl | rfl | rfl
  · obtain rfl := e1 rfl
    unfold downV dn1
    rw [if_neg (show ¬ (2 * m + 1 < n ∧ ltH (f (2 * m + 1)) (f m)) from fun k => by omega), if_neg (fun k => by omega)]
  · obtain rfl := e2 rfl
    unfold downV
    rw [if_neg (fun k => by omega)]
  · exact e3 rfl
set_option maxRecDepth 100000 in
set_option maxHeartbeats 4000000 in
theorem down_any (B : Nat) (w : World) (lo hi H W X room n : Nat) (f : Nat → En) (x : Nat → Int) (h : HpAt w lo hi H W X room n f x) (hB : w.heap[B]? = some (.cells #[.pointer (some ⟨H, 0, none⟩)] 122 (0, 0))) {a : Nat} (hn : n ≤ room) (ha : a < n) :
    Calls Tryz.prog 83 #[.int .i64 a, .pointer (some ⟨B, 0, none⟩)] w fun e w' => e = .returned (.int .i64 (downV n f a : Nat)) ∧ Below w.heap.size w w' := by
  have hsm : n ≤ 1024 := Nat.le_trans hn h.small
  have ks : ∀ Y : World, Below w.heap.size w Y → (Y.cell? ⟨H, 0, none⟩ = some (.slice (some ⟨W, 0, none⟩) n room) ∧ Y.cell? ⟨B, 0, none⟩ = some (.pointer (some ⟨H, 0, none⟩))) := fun Y hY => ⟨(h.later hY).cells.1, cell_in ((hY.block B (lt_of_block hB)).trans hB) rfl⟩
  have KS := Lib.hid ks
  have HW := Lib.hid (fun (Y : World) (hY : Below w.heap.size w Y) => (h.later hY).who)
  have HN := Lib.hid hn
  clear ks h hB hn
  go_enter Tryz.func83, Tryz.ntmps83
  go_wp2_with fail
  go_loopw [4, 5] (fun s4 s5 wr => ∃ c m : Nat, s4 = .int .i64 m ∧ s5 = .int .i64 c ∧ 2 * a + 1 ≤ c ∧ c ≤ 2 * a + 3 ∧ m < n ∧ Hid (Dst n f a c m) ∧ Below w.heap.size w wr) (fun _ i _ => 2 * a + 3 - (intOf i).toNat)
  case atStart => exact ⟨2 * a + 1, a, rfl, by go_num, by omega, by omega, ha, Lib.hid ⟨fun _ => rfl, by omega, by omega⟩, Below.refl _ _⟩
  case round =>
    obtain ⟨c, m, rfl, rfl, hc1, hc2, hm, HD, hb⟩ := hrel
    obtain ⟨q0, q1⟩ := KS.out _ hb
    by_cases hlt : c ≤ 2 * a + 2 ∧ c < n
    · obtain ⟨l1, l2⟩ := hlt
      have tk : decide ((c : Int) ≤ 2 * (a : Int) + 2) = true := decide_eq_true (by omega)
      have tk2 : decide ((c : Int) < (n : Int)) = true := decide_eq_true (by omega)
      have HA0 := ahead_any W room n f wr (HW.out _ hb) HN.out l2 hm
      have HX := Lib.hid (HD.out.next hc1 l1 l2)
      obtain ⟨t, ht⟩ : ∃ t, t = decide (ltH (f c) (f m)) := ⟨_, rfl⟩
      rw [← ht] at HA0
      have HT : Hid (t = decide (ltH (f c) (f m))) := Lib.hid ht
      have HA := Lib.hid HA0
      clear HA0 ht
      rcases t with _ | _
      · have hx : ¬ ltH (f c) (f m) := of_decide_eq_false HT.out.symm
        have HY : Hid (Dst n f a (c + 1) m) := Lib.hid (by have := HX.out; rwa [if_neg hx] at this)
        clear hx
        go_wp2_with (go_at_call 82; refine HA.out.mono ?_; rintro e w3 ⟨rfl, hb3⟩)
        all_goals go_roundw
        case rel => exact ⟨c + 1, m, rfl, by go_num, by omega, by omega, hm, HY, hb.trans (hb3.mono hb.size)⟩
        case measure => simp [intOf]; omega
      · have hx : ltH (f c) (f m) := of_decide_eq_true HT.out.symm
        have HY : Hid (Dst n f a (c + 1) c) := Lib.hid (by have := HX.out; rwa [if_pos hx] at this)
        clear hx
        go_wp2_with (go_at_call 82; refine HA.out.mono ?_; rintro e w3 ⟨rfl, hb3⟩)
        all_goals go_roundw
        case rel => exact ⟨c + 1, c, rfl, by go_num, by omega, by omega, l2, HY, hb.trans (hb3.mono hb.size)⟩
        case measure => simp [intOf]; omega
    · have HE : Hid (m = downV n f a) := Lib.hid (HD.out.done hc1 hc2 (by omega))
      by_cases l1 : c ≤ 2 * a + 2
      · have tk : decide ((c : Int) ≤ 2 * (a : Int) + 2) = true := decide_eq_true (by omega)
        have tk2 : decide ((c : Int) < (n : Int)) = false := decide_eq_false (by omega)
        go_wp2_with fail
        go_ret
        exact ⟨by rw [← HE.out]; rfl, hb⟩
      · have tk : decide ((c : Int) ≤ 2 * (a : Int) + 2) = false := decide_eq_false (by omega)
        go_wp2_with fail
        go_ret
        exact ⟨by rw [← HE.out]; rfl, hb⟩
set_option maxRecDepth 100000 in
set_option maxHeartbeats 8000000 in
theorem swap_any (w : World) (lo hi H W X room n : Nat) (f : Nat → En) (x : Nat → Int) (h : HpAt w lo hi H W X room n f x) {a b : Nat} (hn : n ≤ room) (ha : a < n) (hb : b < n) (ia : (f a).1 < room) (ib : (f b).1 < room) :
    Calls Tryz.prog 91 #[.pointer (some ⟨H, 0, none⟩), .int .i64 a, .int .i64 b] w fun e w' => e = .returned (.tuple #[]) ∧ HpAt w' lo hi H W X room n (sw f a b) (upd (upd x (f b).1 a) (f a).1 b) ∧ Mv lo hi w w' := by
  obtain ⟨c0, c1, _, _⟩ := h.cells
  obtain ⟨k0, k1, k2, k3⟩ := h.who.at_ (show a < room by omega)
  obtain ⟨m0, m1, m2, m3⟩ := h.who.at_ (show b < room by omega)
  have a0 : (0 : Int) ≤ (a : Int) := by omega
  have a1 : (a : Int) < (n : Int) := by omega
  have a2 : decide ((a : Int) < (n : Int)) = true := decide_eq_true a1
  have b0 : (0 : Int) ≤ (b : Int) := by omega
  have b1 : (b : Int) < (n : Int) := by omega
  have b2 : decide ((b : Int) < (n : Int)) = true := decide_eq_true b1
  obtain ⟨n1, n2, n3⟩ := h.ne
  have n1' := n1.symm
  have H0 := Lib.hid h
  have hr := h.rng
  obtain ⟨⟨i1, d1⟩, he1⟩ : ∃ e, e = f a := ⟨_, rfl⟩
  obtain ⟨⟨i2, d2⟩, he2⟩ : ∃ e, e = f b := ⟨_, rfl⟩
  rw [← he1] at k0 k1 ia ⊢
  rw [← he2] at m0 m1 ib ⊢
  dsimp only at k0 k1 m0 m1 ia ib ⊢
  obtain ⟨V, hV⟩ : ∃ V, V = ((((w.setCell ⟨W, a * 2, none⟩ (.int .i64 i2)).setCell ⟨W, a * 2 + 1, none⟩ (.int .i64 d2)).setCell ⟨W, b * 2, none⟩ (.int .i64 i1)).setCell ⟨W, b * 2 + 1, none⟩ (.int .i64 d1)).drew := ⟨_, rfl⟩
  have HV : Hid (HpAt V lo hi H W X room n (sw f a b) x ∧ Mv lo hi w V) := Lib.hid (by
    rw [hV]
    have := (h.set (show a < room by omega) i2 d2).set (show b < room by omega) i1 d1
    rw [he1, he2] at this
    exact ⟨this.drew, ((((Mv.refl w).set hr.2.1 hr.2.2.2.2.1 _ _).set hr.2.1 hr.2.2.2.2.1 _ _).set hr.2.1 hr.2.2.2.2.1 _ _).set hr.2.1 hr.2.2.2.2.1 _ _ |>.drew⟩)
  have ks : ∀ (Y : World) (x' : Nat → Int), HpAt Y lo hi H W X room n (sw f a b) x' → (Y.cell? ⟨H, 0, none⟩ = some (.slice (some ⟨W, 0, none⟩) n room) ∧ Y.cell? ⟨H, 1, none⟩ = some (.slice (some ⟨X, 0, none⟩) room room) ∧ Y.cell? ⟨W, a * 2, none⟩ = some (.int .i64 i2) ∧ Y.cell? ⟨W, b * 2, none⟩ = some (.int .i64 i1)) := fun Y x' hY => by
    obtain ⟨q0, q1, _, _⟩ := hY.cells
    have r0 := (hY.who.at_ (show a < room by omega)).1
    have r1 := (hY.who.at_ (show b < room by omega)).1
    rw [sw_a, ← he2] at r0
    rw [sw_b, ← he1] at r1
    exact ⟨q0, q1, r0, r1⟩
  have KS := Lib.hid ks
  have HW := Lib.hid hV
  have HR : Hid (lo ≤ X ∧ X < hi) := Lib.hid ⟨hr.2.2.1, hr.2.2.2.2.2⟩
  clear h ks hV hr he1 he2 H0
  rcases Nat.decEq a b with hab | hab
  · have e1 : a * 2 ≠ b * 2 := by omega
    have e2 : a * 2 ≠ b * 2 + 1 := by omega
    have e3 : a * 2 + 1 ≠ b * 2 := by omega
    have e4 : a * 2 + 1 ≠ b * 2 + 1 := by omega
    go_enter Tryz.func91, Tryz.ntmps91
    go_wp2_with fail
    go_region
    rw [← HW.out]
    clear k0 k1 k2 k3 m0 m1 m2 m3 c0 c1
    obtain ⟨q0, q1, q2, q3⟩ := KS.out _ _ HV.out.1
    have i20 : (0 : Int) ≤ (i2 : Int) := by omega
    go_wp2_with fail
    go_region_held3 (fun Y => Y.cell? ⟨H, 0, none⟩ = some (.slice (some ⟨W, 0, none⟩) n room) ∧ Y.cell? ⟨H, 1, none⟩ = some (.slice (some ⟨X, 0, none⟩) room room) ∧ Y.cell? ⟨W, a * 2, none⟩ = some (.int .i64 i2) ∧ Y.cell? ⟨W, b * 2, none⟩ = some (.int .i64 i1))
      (first | exact KS.out _ _ HV.out.1.drew | exact KS.out _ _ hp4.out | fail "no")
      (first | (go_at_call 74; refine (put_any X room i2 x a _ HV.out.1.drew.whr ib).mono ?_; rintro e w4 ⟨rfl, hw4⟩; have hp4 := Lib.hid (show HpAt w4 lo hi H W X room n _ _ from by rw [hw4]; exact HV.out.1.drew.put ib a); have hm4 := Lib.hid (show Mv lo hi w w4 from by rw [hw4]; exact HV.out.2.drew.set HR.out.1 HR.out.2 _ _); clear hw4) | fail "no arm")
    clear q0 q1 q2 q3
    obtain ⟨q0, q1, q2, q3⟩ := KS.out _ _ hp4.out
    go_wp2_with fail
    go_region_held3 (fun Y => Y.cell? ⟨H, 0, none⟩ = some (.slice (some ⟨W, 0, none⟩) n room) ∧ Y.cell? ⟨H, 1, none⟩ = some (.slice (some ⟨X, 0, none⟩) room room) ∧ Y.cell? ⟨W, a * 2, none⟩ = some (.int .i64 i2) ∧ Y.cell? ⟨W, b * 2, none⟩ = some (.int .i64 i1))
      (first | exact KS.out _ _ hp4.out.drew | exact KS.out _ _ hp5.out | fail "no")
      (first | (go_at_call 74; refine (put_any X room i1 (upd x i2 a) b _ hp4.out.drew.whr ia).mono ?_; rintro e w5 ⟨rfl, hw5⟩; have hp5 := Lib.hid (show HpAt w5 lo hi H W X room n _ _ from by rw [hw5]; exact hp4.out.drew.put ia b); have hm5 := Lib.hid (show Mv lo hi w w5 from by rw [hw5]; exact hm4.out.drew.set HR.out.1 HR.out.2 _ _); clear hw5) | fail "no arm")
    go_end0
    exact ⟨rfl, hp5.out, hm5.out⟩
  · subst hab
    obtain ⟨rfl, rfl⟩ : i1 = i2 ∧ d1 = d2 := by
      rw [k0] at m0
      rw [k1] at m1
      simp only [Option.some.injEq, Value.int.injEq, true_and] at m0 m1
      exact ⟨by omega, m1⟩
    go_enter Tryz.func91, Tryz.ntmps91
    go_wp2_with fail
    go_region
    rw [← HW.out]
    clear k0 k1 k2 k3 m0 m1 m2 m3 c0 c1
    obtain ⟨q0, q1, q2, q3⟩ := KS.out _ _ HV.out.1
    have i10 : (0 : Int) ≤ (i1 : Int) := by omega
    go_wp2_with fail
    go_region_held3 (fun Y => Y.cell? ⟨H, 0, none⟩ = some (.slice (some ⟨W, 0, none⟩) n room) ∧ Y.cell? ⟨H, 1, none⟩ = some (.slice (some ⟨X, 0, none⟩) room room) ∧ Y.cell? ⟨W, a * 2, none⟩ = some (.int .i64 i1) ∧ Y.cell? ⟨W, a * 2, none⟩ = some (.int .i64 i1))
      (first | exact KS.out _ _ HV.out.1.drew | exact KS.out _ _ hp4.out | fail "no")
      (first | (go_at_call 74; refine (put_any X room i1 x a _ HV.out.1.drew.whr ib).mono ?_; rintro e w4 ⟨rfl, hw4⟩; have hp4 := Lib.hid (show HpAt w4 lo hi H W X room n _ _ from by rw [hw4]; exact HV.out.1.drew.put ib a); have hm4 := Lib.hid (show Mv lo hi w w4 from by rw [hw4]; exact HV.out.2.drew.set HR.out.1 HR.out.2 _ _); clear hw4) | fail "no arm")
    clear q0 q1 q2 q3
    obtain ⟨q0, q1, q2, q3⟩ := KS.out _ _ hp4.out
    go_wp2_with fail
    go_region_held3 (fun Y => Y.cell? ⟨H, 0, none⟩ = some (.slice (some ⟨W, 0, none⟩) n room) ∧ Y.cell? ⟨H, 1, none⟩ = some (.slice (some ⟨X, 0, none⟩) room room) ∧ Y.cell? ⟨W, a * 2, none⟩ = some (.int .i64 i1) ∧ Y.cell? ⟨W, a * 2, none⟩ = some (.int .i64 i1))
      (first | exact KS.out _ _ hp4.out.drew | exact KS.out _ _ hp5.out | fail "no")
      (first | (go_at_call 74; refine (put_any X room i1 (upd x i1 a) a _ hp4.out.drew.whr ia).mono ?_; rintro e w5 ⟨rfl, hw5⟩; have hp5 := Lib.hid (show HpAt w5 lo hi H W X room n _ _ from by rw [hw5]; exact hp4.out.drew.put ia a); have hm5 := Lib.hid (show Mv lo hi w w5 from by rw [hw5]; exact hm4.out.drew.set HR.out.1 HR.out.2 _ _); clear hw5) | fail "no arm")
    go_end0
    exact ⟨rfl, hp5.out, hm5.out⟩
end Go.Proofs.YtnenbgdonkgkfaaGreat
