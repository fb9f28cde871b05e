/- The walks of when two systems are the same: the program's. -/
import Derived.Test.YtiombjkjoehjpaaConfV
namespace Go.Proofs.Ytiombjkjoehjpaa
open Go.ChangeShapes Go.WideShapes Go.ChangeAt Go.RowKit
set_option linter.unusedVariables false
attribute [local go_sem ↓] Go.wp_at_zero Go.wp_at_succ

set_option maxRecDepth 100000 in
set_option maxHeartbeats 4000000 in
theorem eqPtL_any (xa ya : Option Addr) (xn xc yn yc : Nat) (w : World) (lo hi : Nat) (xs ys : List Pt) (us vs : List Pv) (hxn : xs.length = xn) (hyn : ys.length = yn) (hx : Lies w lo hi (.slice xa xn xc) xn 6 (us.flatMap Pv.cells)) (ax : AllLie w lo hi us xs) (hy : Lies w lo hi (.slice ya yn yc) yn 6 (vs.flatMap Pv.cells)) (ay : AllLie w lo hi vs ys) (hhi : hi ≤ w.heap.size) (b1 : xn ≤ 1000)
    (b2 : ∀ p ∈ xs, p.ts.length ≤ 1000 ∧ p.ss.length ≤ 1000 ∧ p.ds.length ≤ 1000) :
    Calls Try.prog 36 #[.slice xa xn xc, .slice ya yn yc, .func (.func 37) #[] #[]] w fun e w' => e = .returned (.bool (eqL eqPt xs ys)) ∧ Below w.heap.size w w' := by
  have HX := Lib.hid hx; have HY := Lib.hid hy; have HXN := Lib.hid hxn; have HYN := Lib.hid hyn; have AX := Lib.hid ax; have AY := Lib.hid ay; have LX := Lib.hid ax.length; have LY := Lib.hid ay.length; have B2 := Lib.hid b2
  clear hx hy hxn hyn ax ay b2
  by_cases hne : xn = yn
  case neg =>
    have t1 : ((xn : Int) != (yn : Int)) = true := by simp; omega
    have HR := Lib.hid (eqL_len eqPt xs ys (by rw [HXN.out, HYN.out]; exact hne))
    go_enter Try.func36, Try.ntmps36
    go_wp2
    go_ret
    exact ⟨by rw [HR.out]; rfl, Below.refl _ _⟩
  case pos =>
  subst hne
  go_enter Try.func36, Try.ntmps36
  go_wp2
  go_loopw [17] (fun i wr => ∃ k : Nat, k ≤ xn ∧ i = .int .i64 k ∧ Hid (∀ (i : Nat) (x y : Pt), i < k → xs[i]? = some x → ys[i]? = some y → eqPt x y = true) ∧ Below w.heap.size w wr) (fun i _ => xn - (intOf i).toNat)
  case atStart => exact ⟨0, by omega, rfl, Lib.hid (fun i x y h => by omega), Below.refl _ _⟩
  case round =>
    obtain ⟨k, hk, rfl, HA, hb⟩ := hrel
    by_cases hlt : k < xn
    · have tk : decide ((k : Int) < (xn : Int)) = true := by simpa using hlt
      obtain ⟨x, hx⟩ : ∃ x, xs[k]? = some x := ⟨_, List.getElem?_eq_getElem (by rw [HXN.out]; exact hlt)⟩
      obtain ⟨y, hy⟩ : ∃ x, ys[k]? = some x := ⟨_, List.getElem?_eq_getElem (by rw [HYN.out]; exact hlt)⟩
      obtain ⟨u, hu⟩ : ∃ x, us[k]? = some x := ⟨_, List.getElem?_eq_getElem (by rw [LX.out, HXN.out]; exact hlt)⟩
      obtain ⟨v, hv⟩ : ∃ x, vs[k]? = some x := ⟨_, List.getElem?_eq_getElem (by rw [LY.out, HYN.out]; exact hlt)⟩
      have hpu : PtLies w lo hi u x := AX.out.at hu hx
      have hpv : PtLies w lo hi v y := AY.out.at hv hy
      obtain ⟨ta, sa, da, tc, sc, dc, e1, e2, e3⟩ := PtLies.slices hpu
      obtain ⟨tb, sb, db, uc, rc, ec, d1, d2, d3⟩ := PtLies.slices hpv
      obtain ⟨_, _, q1, _, _, hc⟩ := HX.out.keep (SameIn.of_below hb hhi)
      cases q1
      obtain ⟨_, _, q2, _, _, hc2⟩ := HY.out.keep (SameIn.of_below hb hhi)
      cases q2
      rcases hc with h0 | ⟨b, off, rfl, hb1, hb2, hc⟩
      · omega
      rcases hc2 with h0 | ⟨b2, off2, rfl, hb3, hb4, hc2⟩
      · omega
      obtain ⟨r0, r1, r2, r3, r4, r5⟩ := Lies.pv hc hu
      obtain ⟨z0, z1, z2, z3, z4, z5⟩ := Lies.pv hc2 hv
      have HKX := Lib.hid hx; have HKY := Lib.hid hy
      have l0 : (0 : Int) ≤ (k : Int) := by omega
      have l1 : (k : Int) < (xn : Int) := by omega
      obtain ⟨m1, m2, m3⟩ := B2.out x (List.mem_of_getElem? hx)
      obtain ⟨u0, u1, u2, u3, u4, u5⟩ := u
      obtain ⟨v0, v1, v2, v3, v4, v5⟩ := v
      simp only at e1 e2 e3 d1 d2 d3 r0 r1 r2 r3 r4 r5 z0 z1 z2 z3 z4 z5
      subst e1; subst e2; subst e3; subst d1; subst d2; subst d3
      have hbw : b < wr.heap.size := by have := hb.size; omega
      have hbw2 : b2 < wr.heap.size := by have := hb.size; omega
      have cp : ∀ W : World, Below w.heap.size w W → Calls Try.prog 37 #[.agg #[.slice ta x.ts.length tc, .slice sa x.ss.length sc, .slice da x.ds.length dc, .int .u8 u3, .int .u8 u4, .int .u8 u5], .agg #[.slice tb y.ts.length uc, .slice sb y.ss.length rc, .slice db y.ds.length ec, .int .u8 v3, .int .u8 v4, .int .u8 v5]] W fun e w' => e = .returned (.bool (eqPt x y)) ∧ Below W.heap.size W w' := fun W h =>
        samePart_any _ _ _ _ _ _ _ _ _ _ _ _ _ _ _ _ _ _ _ _ _ _ _ _ W lo hi x y (hpu.keep (SameIn.of_below h hhi)) (hpv.keep (SameIn.of_below h hhi)) (Nat.le_trans hhi h.size) m1 m2 m3
      have CP := Lib.hid cp; have HBB := Lib.hid hb
      have g0 : ∀ o, (wr.alloc o).cell? ⟨b2, off2 + k * 6, none⟩ = some (.slice tb y.ts.length uc) := fun o => by rw [World.cell?_alloc_lt _ _ _ hbw2]; exact z0
      have g1 : ∀ o, (wr.alloc o).cell? ⟨b2, off2 + k * 6 + 1, none⟩ = some (.slice sb y.ss.length rc) := fun o => by rw [World.cell?_alloc_lt _ _ _ hbw2]; exact z1
      have g2 : ∀ o, (wr.alloc o).cell? ⟨b2, off2 + k * 6 + 2, none⟩ = some (.slice db y.ds.length ec) := fun o => by rw [World.cell?_alloc_lt _ _ _ hbw2]; exact z2
      have g3 : ∀ o, (wr.alloc o).cell? ⟨b2, off2 + k * 6 + 3, none⟩ = some (.int .u8 v3) := fun o => by rw [World.cell?_alloc_lt _ _ _ hbw2]; exact z3
      have g4 : ∀ o, (wr.alloc o).cell? ⟨b2, off2 + k * 6 + 4, none⟩ = some (.int .u8 v4) := fun o => by rw [World.cell?_alloc_lt _ _ _ hbw2]; exact z4
      have g5 : ∀ o, (wr.alloc o).cell? ⟨b2, off2 + k * 6 + 5, none⟩ = some (.int .u8 v5) := fun o => by rw [World.cell?_alloc_lt _ _ _ hbw2]; exact z5
      clear hc hc2 hx hy hu hv cp hpu hpv hb z0 z1 z2 z3 z4 z5
      cases heq : eqPt x y with
      | true =>
        have HE := Lib.hid heq
        have HN : Hid (∀ (i : Nat) (x y : Pt), i < k + 1 → xs[i]? = some x → ys[i]? = some y → eqPt x y = true) := Lib.hid (fun i x' y' hi h1 h2 => by
          by_cases hik : i < k
          · exact HA.out i x' y' hik h1 h2
          · have : i = k := by omega
            subst this
            rw [HKX.out] at h1; rw [HKY.out] at h2
            cases h1; cases h2
            exact heq)
        clear heq
        go_wp2_with (first | (go_at_call 37; refine (CP.out _ (b_alloc (HBB.out.alloc HBB.out.size _) (Nat.le_refl _) _)).mono ?_; rintro e w2 ⟨rfl, hb5⟩; rw [HE.out]))
        go_roundw
        case rel => exact ⟨k + 1, by omega, by go_num, HN, (b_alloc (HBB.out.alloc HBB.out.size _) (Nat.le_refl _) _).trans (hb5.mono (b_alloc (HBB.out.alloc HBB.out.size _) (Nat.le_refl _) _).size)⟩
        case measure => simp [intOf]; omega
      | false =>
        have HE := Lib.hid heq
        have HR := Lib.hid (eqL_at eqPt xs ys k x y HKX.out HKY.out heq)
        clear heq
        go_wp2_with (first | (go_at_call 37; refine (CP.out _ (b_alloc (HBB.out.alloc HBB.out.size _) (Nat.le_refl _) _)).mono ?_; rintro e w2 ⟨rfl, hb5⟩; rw [HE.out]))
        go_ret
        exact ⟨by rw [HR.out]; rfl, (b_alloc (HBB.out.alloc HBB.out.size _) (Nat.le_refl _) _).trans (hb5.mono (b_alloc (HBB.out.alloc HBB.out.size _) (Nat.le_refl _) _).size)⟩
    · have tk : decide ((k : Int) < (xn : Int)) = false := by simp; omega
      have HR := Lib.hid (eqL_all eqPt xs ys (by rw [HXN.out, HYN.out]) fun i x y h1 h2 => HA.out i x y (by have := (List.getElem?_eq_some_iff.1 h1).1; rw [HXN.out] at this; omega) h1 h2)
      go_wp2
      go_ret
      exact ⟨by rw [HR.out]; rfl, hb⟩
end Go.Proofs.Ytiombjkjoehjpaa
