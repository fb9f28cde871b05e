/- The walks of the library's slices.Equal over what a system is made of. -/
import Derived.Test.YtiombjkjoehjpaaConfT
namespace Go.Proofs.Ytiombjkjoehjpaa
open Go.ChangeShapes Go.WideShapes Go.ChangeAt Go.RowKit
set_option linter.unusedVariables false
attribute [local go_sem ↓] Go.wp_at_zero Go.wp_at_succ
theorem Lies.in1 {w : World} {b off : Nat} {xs : List Int} {i : Nat} {x : Int} (h : ∀ k u, (xs.flatMap intCells)[k]? = some u → w.cell? ⟨b, off + k, none⟩ = some u) (hx : xs[i]? = some x) : w.cell? ⟨b, off + i, none⟩ = some (.int .i64 x) := by
  have := flat_at intCells 1 (fun _ => rfl) xs i 0 x hx (by omega)
  rw [Nat.mul_one, Nat.add_zero] at this
  exact h i _ (this.trans rfl)
set_option maxRecDepth 100000 in
set_option maxHeartbeats 2000000 in
theorem eqTkL_any (xa ya : Option Addr) (xn xc yn yc : Nat) (w : World) (lo hi : Nat) (xs ys : List Tk) (hxn : xs.length = xn) (hyn : ys.length = yn) (hx : Lies w lo hi (.slice xa xn xc) xn 6 (xs.flatMap Tk.cells)) (hy : Lies w lo hi (.slice ya yn yc) yn 6 (ys.flatMap Tk.cells)) (hhi : hi ≤ w.heap.size) (b1 : xn ≤ 1000) :
    Calls Try.prog 58 #[.slice xa xn xc, .slice ya yn yc] w fun e w' => e = .returned (.bool (eqL eqTk xs ys)) ∧ Below w.heap.size w w' := by
  have HX := Lib.hid hx; have HY := Lib.hid hy; have HXN := Lib.hid hxn; have HYN := Lib.hid hyn
  clear hx hy hxn hyn
  by_cases hne : xn = yn
  case neg =>
    have t1 : ((xn : Int) != (yn : Int)) = true := by simp; omega
    have HR := Lib.hid (eqL_len eqTk xs ys (by rw [HXN.out, HYN.out]; exact hne))
    go_enter Try.func58, Try.ntmps58
    go_wp2
    go_ret
    exact ⟨by rw [HR.out]; rfl, Below.refl _ _⟩
  case pos =>
  subst hne
  go_enter Try.func58, Try.ntmps58
  go_wp2
  go_loopw [13] (fun i wr => ∃ k : Nat, k ≤ xn ∧ i = .int .i64 k ∧ Hid (∀ (i : Nat) (x y : Tk), i < k → xs[i]? = some x → ys[i]? = some y → eqTk x y = true) ∧ Below w.heap.size w wr) (fun i _ => xn - (intOf i).toNat)
  case atStart => exact ⟨0, by omega, rfl, Lib.hid (fun i x y h => by omega), Below.refl _ _⟩
  case round =>
    obtain ⟨k, hk, rfl, HA, hb⟩ := hrel
    by_cases hlt : k < xn
    · have tk : decide ((k : Int) < (xn : Int)) = true := by simpa using hlt
      obtain ⟨x, hx⟩ : ∃ x, xs[k]? = some x := ⟨_, List.getElem?_eq_getElem (by rw [HXN.out]; exact hlt)⟩
      obtain ⟨y, hy⟩ : ∃ x, ys[k]? = some x := ⟨_, List.getElem?_eq_getElem (by rw [HYN.out]; exact hlt)⟩
      obtain ⟨_, _, e1, _, _, hc⟩ := HX.out.keep (SameIn.of_below hb hhi)
      cases e1
      obtain ⟨_, _, e2, _, _, hc2⟩ := HY.out.keep (SameIn.of_below hb hhi)
      cases e2
      rcases hc with h0 | ⟨b, off, rfl, hb1, hb2, hc⟩
      · omega
      rcases hc2 with h0 | ⟨b2, off2, rfl, hb3, hb4, hc2⟩
      · omega
      have cx := Lies.tk hc hx
      have cy := Lies.tk hc2 hy
      have HKX := Lib.hid hx; have HKY := Lib.hid hy
      have l0 : (0 : Int) ≤ (k : Int) := by omega
      have l1 : (k : Int) < (xn : Int) := by omega
      have hE := eqInTk_conf x.hi x.t x.d x.v x.lo x.top y.hi y.t y.d y.v y.lo y.top
      have hM : Try.prog.eqGuardType Try.prog.depth 120 = false := by kernel_rfl
      have ks : wr.cell? ⟨b, off + k * 6, none⟩ = some (.bool x.hi) ∧ wr.cell? ⟨b, off + k * 6 + 1, none⟩ = some (.int .i64 x.t) ∧ wr.cell? ⟨b, off + k * 6 + 2, none⟩ = some (.int .i64 x.d) ∧ wr.cell? ⟨b, off + k * 6 + 3, none⟩ = some (.int .i64 x.v) ∧ wr.cell? ⟨b, off + k * 6 + 4, none⟩ = some (.int .i64 x.lo) ∧ wr.cell? ⟨b, off + k * 6 + 5, none⟩ = some (.int .i64 x.top) ∧ wr.cell? ⟨b2, off2 + k * 6, none⟩ = some (.bool y.hi) ∧ wr.cell? ⟨b2, off2 + k * 6 + 1, none⟩ = some (.int .i64 y.t) ∧ wr.cell? ⟨b2, off2 + k * 6 + 2, none⟩ = some (.int .i64 y.d) ∧ wr.cell? ⟨b2, off2 + k * 6 + 3, none⟩ = some (.int .i64 y.v) ∧ wr.cell? ⟨b2, off2 + k * 6 + 4, none⟩ = some (.int .i64 y.lo) ∧ wr.cell? ⟨b2, off2 + k * 6 + 5, none⟩ = some (.int .i64 y.top) := ⟨cx.1, cx.2.1, cx.2.2.1, cx.2.2.2.1, cx.2.2.2.2.1, cx.2.2.2.2.2, cy.1, cy.2.1, cy.2.2.1, cy.2.2.2.1, cy.2.2.2.2.1, cy.2.2.2.2.2⟩
      have HBB := Lib.hid hb
      clear hc hc2 hx hy cx cy hb
      obtain ⟨u0z, u1z, u2z, u3z, u4z, u5z, u6z, u7z, u8z, u9z, u10z, u11z⟩ := ks
      cases heq : eqTk x y with
      | true =>
        have HN : Hid (∀ (i : Nat) (x y : Tk), i < k + 1 → xs[i]? = some x → ys[i]? = some y → eqTk x y = true) := Lib.hid (fun i x' y' hi h1 h2 => by
          by_cases hik : i < k
          · exact HA.out i x' y' hik h1 h2
          · have : i = k := by omega
            subst this
            rw [HKX.out] at h1; rw [HKY.out] at h2
            cases h1; cases h2
            exact heq)
        have t2 : eqTk ⟨x.hi, x.t, x.d, x.v, x.lo, x.top⟩ ⟨y.hi, y.t, y.d, y.v, y.lo, y.top⟩ = true := heq
        go_wp2_with fail
        go_region_held3 (fun W => W.cell? ⟨b, off + k * 6, none⟩ = some (.bool x.hi) ∧ W.cell? ⟨b, off + k * 6 + 1, none⟩ = some (.int .i64 x.t) ∧ W.cell? ⟨b, off + k * 6 + 2, none⟩ = some (.int .i64 x.d) ∧ W.cell? ⟨b, off + k * 6 + 3, none⟩ = some (.int .i64 x.v) ∧ W.cell? ⟨b, off + k * 6 + 4, none⟩ = some (.int .i64 x.lo) ∧ W.cell? ⟨b, off + k * 6 + 5, none⟩ = some (.int .i64 x.top) ∧ W.cell? ⟨b2, off2 + k * 6, none⟩ = some (.bool y.hi) ∧ W.cell? ⟨b2, off2 + k * 6 + 1, none⟩ = some (.int .i64 y.t) ∧ W.cell? ⟨b2, off2 + k * 6 + 2, none⟩ = some (.int .i64 y.d) ∧ W.cell? ⟨b2, off2 + k * 6 + 3, none⟩ = some (.int .i64 y.v) ∧ W.cell? ⟨b2, off2 + k * 6 + 4, none⟩ = some (.int .i64 y.lo) ∧ W.cell? ⟨b2, off2 + k * 6 + 5, none⟩ = some (.int .i64 y.top)) (go_keep) (fail)
        go_wp2_with fail
        go_roundw
        case rel => exact ⟨k + 1, by omega, by go_num, HN, HBB.out.drew⟩
        case measure => simp [intOf]; omega
      | false =>
        have HR := Lib.hid (eqL_at eqTk xs ys k x y HKX.out HKY.out heq)
        have t2 : eqTk ⟨x.hi, x.t, x.d, x.v, x.lo, x.top⟩ ⟨y.hi, y.t, y.d, y.v, y.lo, y.top⟩ = false := heq
        go_wp2_with fail
        go_region_held3 (fun W => W.cell? ⟨b, off + k * 6, none⟩ = some (.bool x.hi) ∧ W.cell? ⟨b, off + k * 6 + 1, none⟩ = some (.int .i64 x.t) ∧ W.cell? ⟨b, off + k * 6 + 2, none⟩ = some (.int .i64 x.d) ∧ W.cell? ⟨b, off + k * 6 + 3, none⟩ = some (.int .i64 x.v) ∧ W.cell? ⟨b, off + k * 6 + 4, none⟩ = some (.int .i64 x.lo) ∧ W.cell? ⟨b, off + k * 6 + 5, none⟩ = some (.int .i64 x.top) ∧ W.cell? ⟨b2, off2 + k * 6, none⟩ = some (.bool y.hi) ∧ W.cell? ⟨b2, off2 + k * 6 + 1, none⟩ = some (.int .i64 y.t) ∧ W.cell? ⟨b2, off2 + k * 6 + 2, none⟩ = some (.int .i64 y.d) ∧ W.cell? ⟨b2, off2 + k * 6 + 3, none⟩ = some (.int .i64 y.v) ∧ W.cell? ⟨b2, off2 + k * 6 + 4, none⟩ = some (.int .i64 y.lo) ∧ W.cell? ⟨b2, off2 + k * 6 + 5, none⟩ = some (.int .i64 y.top)) (go_keep) (fail)
        go_wp2_with fail
        go_ret
        exact ⟨by rw [HR.out]; rfl, HBB.out.drew⟩
    · have tk : decide ((k : Int) < (xn : Int)) = false := by simp; omega
      have HR := Lib.hid (eqL_all eqTk xs ys (by rw [HXN.out, HYN.out]) fun i x y h1 h2 => HA.out i x y (by have := (List.getElem?_eq_some_iff.1 h1).1; rw [HXN.out] at this; omega) h1 h2)
      go_wp2
      go_ret
      exact ⟨by rw [HR.out]; rfl, hb⟩
set_option maxRecDepth 100000 in
set_option maxHeartbeats 2000000 in
theorem eqSvL_any (xa ya : Option Addr) (xn xc yn yc : Nat) (w : World) (lo hi : Nat) (xs ys : List Sv) (hxn : xs.length = xn) (hyn : ys.length = yn) (hx : Lies w lo hi (.slice xa xn xc) xn 3 (xs.flatMap Sv.cells)) (hy : Lies w lo hi (.slice ya yn yc) yn 3 (ys.flatMap Sv.cells)) (hhi : hi ≤ w.heap.size) (b1 : xn ≤ 1000) :
    Calls Try.prog 59 #[.slice xa xn xc, .slice ya yn yc] w fun e w' => e = .returned (.bool (eqL eqSv xs ys)) ∧ Below w.heap.size w w' := by
  have HX := Lib.hid hx; have HY := Lib.hid hy; have HXN := Lib.hid hxn; have HYN := Lib.hid hyn
  clear hx hy hxn hyn
  by_cases hne : xn = yn
  case neg =>
    have t1 : ((xn : Int) != (yn : Int)) = true := by simp; omega
    have HR := Lib.hid (eqL_len eqSv xs ys (by rw [HXN.out, HYN.out]; exact hne))
    go_enter Try.func59, Try.ntmps59
    go_wp2
    go_ret
    exact ⟨by rw [HR.out]; rfl, Below.refl _ _⟩
  case pos =>
  subst hne
  go_enter Try.func59, Try.ntmps59
  go_wp2
  go_loopw [13] (fun i wr => ∃ k : Nat, k ≤ xn ∧ i = .int .i64 k ∧ Hid (∀ (i : Nat) (x y : Sv), i < k → xs[i]? = some x → ys[i]? = some y → eqSv x y = true) ∧ Below w.heap.size w wr) (fun i _ => xn - (intOf i).toNat)
  case atStart => exact ⟨0, by omega, rfl, Lib.hid (fun i x y h => by omega), Below.refl _ _⟩
  case round =>
    obtain ⟨k, hk, rfl, HA, hb⟩ := hrel
    by_cases hlt : k < xn
    · have tk : decide ((k : Int) < (xn : Int)) = true := by simpa using hlt
      obtain ⟨x, hx⟩ : ∃ x, xs[k]? = some x := ⟨_, List.getElem?_eq_getElem (by rw [HXN.out]; exact hlt)⟩
      obtain ⟨y, hy⟩ : ∃ x, ys[k]? = some x := ⟨_, List.getElem?_eq_getElem (by rw [HYN.out]; exact hlt)⟩
      obtain ⟨_, _, e1, _, _, hc⟩ := HX.out.keep (SameIn.of_below hb hhi)
      cases e1
      obtain ⟨_, _, e2, _, _, hc2⟩ := HY.out.keep (SameIn.of_below hb hhi)
      cases e2
      rcases hc with h0 | ⟨b, off, rfl, hb1, hb2, hc⟩
      · omega
      rcases hc2 with h0 | ⟨b2, off2, rfl, hb3, hb4, hc2⟩
      · omega
      have cx := Lies.sv hc hx
      have cy := Lies.sv hc2 hy
      have HKX := Lib.hid hx; have HKY := Lib.hid hy
      have l0 : (0 : Int) ≤ (k : Int) := by omega
      have l1 : (k : Int) < (xn : Int) := by omega
      have hE := eqInSv_conf x.re x.c x.t y.re y.c y.t
      have hM : Try.prog.eqGuardType Try.prog.depth 123 = false := by kernel_rfl
      have ks : wr.cell? ⟨b, off + k * 3, none⟩ = some (.bool x.re) ∧ wr.cell? ⟨b, off + k * 3 + 1, none⟩ = some (.int .i64 x.c) ∧ wr.cell? ⟨b, off + k * 3 + 2, none⟩ = some (.int .i64 x.t) ∧ wr.cell? ⟨b2, off2 + k * 3, none⟩ = some (.bool y.re) ∧ wr.cell? ⟨b2, off2 + k * 3 + 1, none⟩ = some (.int .i64 y.c) ∧ wr.cell? ⟨b2, off2 + k * 3 + 2, none⟩ = some (.int .i64 y.t) := ⟨cx.1, cx.2.1, cx.2.2, cy.1, cy.2.1, cy.2.2⟩
      have HBB := Lib.hid hb
      clear hc hc2 hx hy cx cy hb
      obtain ⟨u0z, u1z, u2z, u3z, u4z, u5z⟩ := ks
      cases heq : eqSv x y with
      | true =>
        have HN : Hid (∀ (i : Nat) (x y : Sv), i < k + 1 → xs[i]? = some x → ys[i]? = some y → eqSv x y = true) := Lib.hid (fun i x' y' hi h1 h2 => by
          by_cases hik : i < k
          · exact HA.out i x' y' hik h1 h2
          · have : i = k := by omega
            subst this
            rw [HKX.out] at h1; rw [HKY.out] at h2
            cases h1; cases h2
            exact heq)
        have t2 : eqSv ⟨x.re, x.c, x.t⟩ ⟨y.re, y.c, y.t⟩ = true := heq
        go_wp2_with fail
        go_region_held3 (fun W => W.cell? ⟨b, off + k * 3, none⟩ = some (.bool x.re) ∧ W.cell? ⟨b, off + k * 3 + 1, none⟩ = some (.int .i64 x.c) ∧ W.cell? ⟨b, off + k * 3 + 2, none⟩ = some (.int .i64 x.t) ∧ W.cell? ⟨b2, off2 + k * 3, none⟩ = some (.bool y.re) ∧ W.cell? ⟨b2, off2 + k * 3 + 1, none⟩ = some (.int .i64 y.c) ∧ W.cell? ⟨b2, off2 + k * 3 + 2, none⟩ = some (.int .i64 y.t)) (go_keep) (fail)
        go_wp2_with fail
        go_roundw
        case rel => exact ⟨k + 1, by omega, by go_num, HN, HBB.out.drew⟩
        case measure => simp [intOf]; omega
      | false =>
        have HR := Lib.hid (eqL_at eqSv xs ys k x y HKX.out HKY.out heq)
        have t2 : eqSv ⟨x.re, x.c, x.t⟩ ⟨y.re, y.c, y.t⟩ = false := heq
        go_wp2_with fail
        go_region_held3 (fun W => W.cell? ⟨b, off + k * 3, none⟩ = some (.bool x.re) ∧ W.cell? ⟨b, off + k * 3 + 1, none⟩ = some (.int .i64 x.c) ∧ W.cell? ⟨b, off + k * 3 + 2, none⟩ = some (.int .i64 x.t) ∧ W.cell? ⟨b2, off2 + k * 3, none⟩ = some (.bool y.re) ∧ W.cell? ⟨b2, off2 + k * 3 + 1, none⟩ = some (.int .i64 y.c) ∧ W.cell? ⟨b2, off2 + k * 3 + 2, none⟩ = some (.int .i64 y.t)) (go_keep) (fail)
        go_wp2_with fail
        go_ret
        exact ⟨by rw [HR.out]; rfl, HBB.out.drew⟩
    · have tk : decide ((k : Int) < (xn : Int)) = false := by simp; omega
      have HR := Lib.hid (eqL_all eqSv xs ys (by rw [HXN.out, HYN.out]) fun i x y h1 h2 => HA.out i x y (by have := (List.getElem?_eq_some_iff.1 h1).1; rw [HXN.out] at this; omega) h1 h2)
      go_wp2
      go_ret
      exact ⟨by rw [HR.out]; rfl, hb⟩
set_option maxRecDepth 100000 in
set_option maxHeartbeats 2000000 in
theorem eqWnL_any (xa ya : Option Addr) (xn xc yn yc : Nat) (w : World) (lo hi : Nat) (xs ys : List Wn) (hxn : xs.length = xn) (hyn : ys.length = yn) (hx : Lies w lo hi (.slice xa xn xc) xn 3 (xs.flatMap Wn.cells)) (hy : Lies w lo hi (.slice ya yn yc) yn 3 (ys.flatMap Wn.cells)) (hhi : hi ≤ w.heap.size) (b1 : xn ≤ 1000) :
    Calls Try.prog 35 #[.slice xa xn xc, .slice ya yn yc] w fun e w' => e = .returned (.bool (eqL eqWn xs ys)) ∧ Below w.heap.size w w' := by
  have HX := Lib.hid hx; have HY := Lib.hid hy; have HXN := Lib.hid hxn; have HYN := Lib.hid hyn
  clear hx hy hxn hyn
  by_cases hne : xn = yn
  case neg =>
    have t1 : ((xn : Int) != (yn : Int)) = true := by simp; omega
    have HR := Lib.hid (eqL_len eqWn xs ys (by rw [HXN.out, HYN.out]; exact hne))
    go_enter Try.func35, Try.ntmps35
    go_wp2
    go_ret
    exact ⟨by rw [HR.out]; rfl, Below.refl _ _⟩
  case pos =>
  subst hne
  go_enter Try.func35, Try.ntmps35
  go_wp2
  go_loopw [13] (fun i wr => ∃ k : Nat, k ≤ xn ∧ i = .int .i64 k ∧ Hid (∀ (i : Nat) (x y : Wn), i < k → xs[i]? = some x → ys[i]? = some y → eqWn x y = true) ∧ Below w.heap.size w wr) (fun i _ => xn - (intOf i).toNat)
  case atStart => exact ⟨0, by omega, rfl, Lib.hid (fun i x y h => by omega), Below.refl _ _⟩
  case round =>
    obtain ⟨k, hk, rfl, HA, hb⟩ := hrel
    by_cases hlt : k < xn
    · have tk : decide ((k : Int) < (xn : Int)) = true := by simpa using hlt
      obtain ⟨x, hx⟩ : ∃ x, xs[k]? = some x := ⟨_, List.getElem?_eq_getElem (by rw [HXN.out]; exact hlt)⟩
      obtain ⟨y, hy⟩ : ∃ x, ys[k]? = some x := ⟨_, List.getElem?_eq_getElem (by rw [HYN.out]; exact hlt)⟩
      obtain ⟨_, _, e1, _, _, hc⟩ := HX.out.keep (SameIn.of_below hb hhi)
      cases e1
      obtain ⟨_, _, e2, _, _, hc2⟩ := HY.out.keep (SameIn.of_below hb hhi)
      cases e2
      rcases hc with h0 | ⟨b, off, rfl, hb1, hb2, hc⟩
      · omega
      rcases hc2 with h0 | ⟨b2, off2, rfl, hb3, hb4, hc2⟩
      · omega
      have cx := Lies.wn hc hx
      have cy := Lies.wn hc2 hy
      have HKX := Lib.hid hx; have HKY := Lib.hid hy
      have l0 : (0 : Int) ≤ (k : Int) := by omega
      have l1 : (k : Int) < (xn : Int) := by omega
      have hE := eqInWn_conf x.at_ x.len x.part y.at_ y.len y.part
      have hM : Try.prog.eqGuardType Try.prog.depth 71 = false := by kernel_rfl
      have ks : wr.cell? ⟨b, off + k * 3, none⟩ = some (.int .i64 x.at_) ∧ wr.cell? ⟨b, off + k * 3 + 1, none⟩ = some (.int .i64 x.len) ∧ wr.cell? ⟨b, off + k * 3 + 2, none⟩ = some (.int .i64 x.part) ∧ wr.cell? ⟨b2, off2 + k * 3, none⟩ = some (.int .i64 y.at_) ∧ wr.cell? ⟨b2, off2 + k * 3 + 1, none⟩ = some (.int .i64 y.len) ∧ wr.cell? ⟨b2, off2 + k * 3 + 2, none⟩ = some (.int .i64 y.part) := ⟨cx.1, cx.2.1, cx.2.2, cy.1, cy.2.1, cy.2.2⟩
      have HBB := Lib.hid hb
      clear hc hc2 hx hy cx cy hb
      obtain ⟨u0z, u1z, u2z, u3z, u4z, u5z⟩ := ks
      cases heq : eqWn x y with
      | true =>
        have HN : Hid (∀ (i : Nat) (x y : Wn), i < k + 1 → xs[i]? = some x → ys[i]? = some y → eqWn x y = true) := Lib.hid (fun i x' y' hi h1 h2 => by
          by_cases hik : i < k
          · exact HA.out i x' y' hik h1 h2
          · have : i = k := by omega
            subst this
            rw [HKX.out] at h1; rw [HKY.out] at h2
            cases h1; cases h2
            exact heq)
        have t2 : eqWn ⟨x.at_, x.len, x.part⟩ ⟨y.at_, y.len, y.part⟩ = true := heq
        go_wp2_with fail
        go_region_held3 (fun W => W.cell? ⟨b, off + k * 3, none⟩ = some (.int .i64 x.at_) ∧ W.cell? ⟨b, off + k * 3 + 1, none⟩ = some (.int .i64 x.len) ∧ W.cell? ⟨b, off + k * 3 + 2, none⟩ = some (.int .i64 x.part) ∧ W.cell? ⟨b2, off2 + k * 3, none⟩ = some (.int .i64 y.at_) ∧ W.cell? ⟨b2, off2 + k * 3 + 1, none⟩ = some (.int .i64 y.len) ∧ W.cell? ⟨b2, off2 + k * 3 + 2, none⟩ = some (.int .i64 y.part)) (go_keep) (fail)
        go_wp2_with fail
        go_roundw
        case rel => exact ⟨k + 1, by omega, by go_num, HN, HBB.out.drew⟩
        case measure => simp [intOf]; omega
      | false =>
        have HR := Lib.hid (eqL_at eqWn xs ys k x y HKX.out HKY.out heq)
        have t2 : eqWn ⟨x.at_, x.len, x.part⟩ ⟨y.at_, y.len, y.part⟩ = false := heq
        go_wp2_with fail
        go_region_held3 (fun W => W.cell? ⟨b, off + k * 3, none⟩ = some (.int .i64 x.at_) ∧ W.cell? ⟨b, off + k * 3 + 1, none⟩ = some (.int .i64 x.len) ∧ W.cell? ⟨b, off + k * 3 + 2, none⟩ = some (.int .i64 x.part) ∧ W.cell? ⟨b2, off2 + k * 3, none⟩ = some (.int .i64 y.at_) ∧ W.cell? ⟨b2, off2 + k * 3 + 1, none⟩ = some (.int .i64 y.len) ∧ W.cell? ⟨b2, off2 + k * 3 + 2, none⟩ = some (.int .i64 y.part)) (go_keep) (fail)
        go_wp2_with fail
        go_ret
        exact ⟨by rw [HR.out]; rfl, HBB.out.drew⟩
    · have tk : decide ((k : Int) < (xn : Int)) = false := by simp; omega
      have HR := Lib.hid (eqL_all eqWn xs ys (by rw [HXN.out, HYN.out]) fun i x y h1 h2 => HA.out i x y (by have := (List.getElem?_eq_some_iff.1 h1).1; rw [HXN.out] at this; omega) h1 h2)
      go_wp2
      go_ret
      exact ⟨by rw [HR.out]; rfl, hb⟩
set_option maxRecDepth 100000 in
set_option maxHeartbeats 2000000 in
theorem eqChL_any (xa ya : Option Addr) (xn xc yn yc : Nat) (w : World) (lo hi : Nat) (xs ys : List Ch) (hxn : xs.length = xn) (hyn : ys.length = yn) (hx : Lies w lo hi (.slice xa xn xc) xn 4 (xs.flatMap Ch.cells)) (hy : Lies w lo hi (.slice ya yn yc) yn 4 (ys.flatMap Ch.cells)) (hhi : hi ≤ w.heap.size) (b1 : xn ≤ 1000) :
    Calls Try.prog 38 #[.slice xa xn xc, .slice ya yn yc] w fun e w' => e = .returned (.bool (eqL eqCh xs ys)) ∧ Below w.heap.size w w' := by
  have HX := Lib.hid hx; have HY := Lib.hid hy; have HXN := Lib.hid hxn; have HYN := Lib.hid hyn
  clear hx hy hxn hyn
  by_cases hne : xn = yn
  case neg =>
    have t1 : ((xn : Int) != (yn : Int)) = true := by simp; omega
    have HR := Lib.hid (eqL_len eqCh xs ys (by rw [HXN.out, HYN.out]; exact hne))
    go_enter Try.func38, Try.ntmps38
    go_wp2
    go_ret
    exact ⟨by rw [HR.out]; rfl, Below.refl _ _⟩
  case pos =>
  subst hne
  go_enter Try.func38, Try.ntmps38
  go_wp2
  go_loopw [13] (fun i wr => ∃ k : Nat, k ≤ xn ∧ i = .int .i64 k ∧ Hid (∀ (i : Nat) (x y : Ch), i < k → xs[i]? = some x → ys[i]? = some y → eqCh x y = true) ∧ Below w.heap.size w wr) (fun i _ => xn - (intOf i).toNat)
  case atStart => exact ⟨0, by omega, rfl, Lib.hid (fun i x y h => by omega), Below.refl _ _⟩
  case round =>
    obtain ⟨k, hk, rfl, HA, hb⟩ := hrel
    by_cases hlt : k < xn
    · have tk : decide ((k : Int) < (xn : Int)) = true := by simpa using hlt
      obtain ⟨x, hx⟩ : ∃ x, xs[k]? = some x := ⟨_, List.getElem?_eq_getElem (by rw [HXN.out]; exact hlt)⟩
      obtain ⟨y, hy⟩ : ∃ x, ys[k]? = some x := ⟨_, List.getElem?_eq_getElem (by rw [HYN.out]; exact hlt)⟩
      obtain ⟨_, _, e1, _, _, hc⟩ := HX.out.keep (SameIn.of_below hb hhi)
      cases e1
      obtain ⟨_, _, e2, _, _, hc2⟩ := HY.out.keep (SameIn.of_below hb hhi)
      cases e2
      rcases hc with h0 | ⟨b, off, rfl, hb1, hb2, hc⟩
      · omega
      rcases hc2 with h0 | ⟨b2, off2, rfl, hb3, hb4, hc2⟩
      · omega
      have cx := Lies.ch hc hx
      have cy := Lies.ch hc2 hy
      have HKX := Lib.hid hx; have HKY := Lib.hid hy
      have l0 : (0 : Int) ≤ (k : Int) := by omega
      have l1 : (k : Int) < (xn : Int) := by omega
      have hE := eqInCh_conf x.queue x.from_ x.to x.size y.queue y.from_ y.to y.size
      have hM : Try.prog.eqGuardType Try.prog.depth 79 = false := by kernel_rfl
      have ks : wr.cell? ⟨b, off + k * 4, none⟩ = some (.bool x.queue) ∧ wr.cell? ⟨b, off + k * 4 + 1, none⟩ = some (.int .i64 x.from_) ∧ wr.cell? ⟨b, off + k * 4 + 2, none⟩ = some (.int .i64 x.to) ∧ wr.cell? ⟨b, off + k * 4 + 3, none⟩ = some (.int .i64 x.size) ∧ wr.cell? ⟨b2, off2 + k * 4, none⟩ = some (.bool y.queue) ∧ wr.cell? ⟨b2, off2 + k * 4 + 1, none⟩ = some (.int .i64 y.from_) ∧ wr.cell? ⟨b2, off2 + k * 4 + 2, none⟩ = some (.int .i64 y.to) ∧ wr.cell? ⟨b2, off2 + k * 4 + 3, none⟩ = some (.int .i64 y.size) := ⟨cx.1, cx.2.1, cx.2.2.1, cx.2.2.2, cy.1, cy.2.1, cy.2.2.1, cy.2.2.2⟩
      have HBB := Lib.hid hb
      clear hc hc2 hx hy cx cy hb
      obtain ⟨u0z, u1z, u2z, u3z, u4z, u5z, u6z, u7z⟩ := ks
      cases heq : eqCh x y with
      | true =>
        have HN : Hid (∀ (i : Nat) (x y : Ch), i < k + 1 → xs[i]? = some x → ys[i]? = some y → eqCh x y = true) := Lib.hid (fun i x' y' hi h1 h2 => by
          by_cases hik : i < k
          · exact HA.out i x' y' hik h1 h2
          · have : i = k := by omega
            subst this
            rw [HKX.out] at h1; rw [HKY.out] at h2
            cases h1; cases h2
            exact heq)
        have t2 : eqCh ⟨x.queue, x.from_, x.to, x.size⟩ ⟨y.queue, y.from_, y.to, y.size⟩ = true := heq
        go_wp2_with fail
        go_region_held3 (fun W => W.cell? ⟨b, off + k * 4, none⟩ = some (.bool x.queue) ∧ W.cell? ⟨b, off + k * 4 + 1, none⟩ = some (.int .i64 x.from_) ∧ W.cell? ⟨b, off + k * 4 + 2, none⟩ = some (.int .i64 x.to) ∧ W.cell? ⟨b, off + k * 4 + 3, none⟩ = some (.int .i64 x.size) ∧ W.cell? ⟨b2, off2 + k * 4, none⟩ = some (.bool y.queue) ∧ W.cell? ⟨b2, off2 + k * 4 + 1, none⟩ = some (.int .i64 y.from_) ∧ W.cell? ⟨b2, off2 + k * 4 + 2, none⟩ = some (.int .i64 y.to) ∧ W.cell? ⟨b2, off2 + k * 4 + 3, none⟩ = some (.int .i64 y.size)) (go_keep) (fail)
        go_wp2_with fail
        go_roundw
        case rel => exact ⟨k + 1, by omega, by go_num, HN, HBB.out.drew⟩
        case measure => simp [intOf]; omega
      | false =>
        have HR := Lib.hid (eqL_at eqCh xs ys k x y HKX.out HKY.out heq)
        have t2 : eqCh ⟨x.queue, x.from_, x.to, x.size⟩ ⟨y.queue, y.from_, y.to, y.size⟩ = false := heq
        go_wp2_with fail
        go_region_held3 (fun W => W.cell? ⟨b, off + k * 4, none⟩ = some (.bool x.queue) ∧ W.cell? ⟨b, off + k * 4 + 1, none⟩ = some (.int .i64 x.from_) ∧ W.cell? ⟨b, off + k * 4 + 2, none⟩ = some (.int .i64 x.to) ∧ W.cell? ⟨b, off + k * 4 + 3, none⟩ = some (.int .i64 x.size) ∧ W.cell? ⟨b2, off2 + k * 4, none⟩ = some (.bool y.queue) ∧ W.cell? ⟨b2, off2 + k * 4 + 1, none⟩ = some (.int .i64 y.from_) ∧ W.cell? ⟨b2, off2 + k * 4 + 2, none⟩ = some (.int .i64 y.to) ∧ W.cell? ⟨b2, off2 + k * 4 + 3, none⟩ = some (.int .i64 y.size)) (go_keep) (fail)
        go_wp2_with fail
        go_ret
        exact ⟨by rw [HR.out]; rfl, HBB.out.drew⟩
    · have tk : decide ((k : Int) < (xn : Int)) = false := by simp; omega
      have HR := Lib.hid (eqL_all eqCh xs ys (by rw [HXN.out, HYN.out]) fun i x y h1 h2 => HA.out i x y (by have := (List.getElem?_eq_some_iff.1 h1).1; rw [HXN.out] at this; omega) h1 h2)
      go_wp2
      go_ret
      exact ⟨by rw [HR.out]; rfl, hb⟩
set_option maxRecDepth 100000 in
set_option maxHeartbeats 2000000 in
theorem eqInL_any (xa ya : Option Addr) (xn xc yn yc : Nat) (w : World) (lo hi : Nat) (xs ys : List Int) (hxn : xs.length = xn) (hyn : ys.length = yn) (hx : Lies w lo hi (.slice xa xn xc) xn 1 (xs.flatMap intCells)) (hy : Lies w lo hi (.slice ya yn yc) yn 1 (ys.flatMap intCells)) (hhi : hi ≤ w.heap.size) (b1 : xn ≤ 1000) :
    Calls Try.prog 60 #[.slice xa xn xc, .slice ya yn yc] w fun e w' => e = .returned (.bool (eqL (fun (x y : Int) => x == y) xs ys)) ∧ Below w.heap.size w w' := by
  have HX := Lib.hid hx; have HY := Lib.hid hy; have HXN := Lib.hid hxn; have HYN := Lib.hid hyn
  clear hx hy hxn hyn
  by_cases hne : xn = yn
  case neg =>
    have t1 : ((xn : Int) != (yn : Int)) = true := by simp; omega
    have HR := Lib.hid (eqL_len (fun (x y : Int) => x == y) xs ys (by rw [HXN.out, HYN.out]; exact hne))
    go_enter Try.func60, Try.ntmps60
    go_wp2
    go_ret
    exact ⟨by rw [HR.out]; rfl, Below.refl _ _⟩
  case pos =>
  subst hne
  go_enter Try.func60, Try.ntmps60
  go_wp2
  go_loopw [13] (fun i wr => ∃ k : Nat, k ≤ xn ∧ i = .int .i64 k ∧ Hid (∀ (i : Nat) (x y : Int), i < k → xs[i]? = some x → ys[i]? = some y → (fun (x y : Int) => x == y) x y = true) ∧ Below w.heap.size w wr) (fun i _ => xn - (intOf i).toNat)
  case atStart => exact ⟨0, by omega, rfl, Lib.hid (fun i x y h => by omega), Below.refl _ _⟩
  case round =>
    obtain ⟨k, hk, rfl, HA, hb⟩ := hrel
    by_cases hlt : k < xn
    · have tk : decide ((k : Int) < (xn : Int)) = true := by simpa using hlt
      obtain ⟨x, hx⟩ : ∃ x, xs[k]? = some x := ⟨_, List.getElem?_eq_getElem (by rw [HXN.out]; exact hlt)⟩
      obtain ⟨y, hy⟩ : ∃ x, ys[k]? = some x := ⟨_, List.getElem?_eq_getElem (by rw [HYN.out]; exact hlt)⟩
      obtain ⟨_, _, e1, _, _, hc⟩ := HX.out.keep (SameIn.of_below hb hhi)
      cases e1
      obtain ⟨_, _, e2, _, _, hc2⟩ := HY.out.keep (SameIn.of_below hb hhi)
      cases e2
      rcases hc with h0 | ⟨b, off, rfl, hb1, hb2, hc⟩
      · omega
      rcases hc2 with h0 | ⟨b2, off2, rfl, hb3, hb4, hc2⟩
      · omega
      have cx := Lies.in1 hc hx
      have cy := Lies.in1 hc2 hy
      have HKX := Lib.hid hx; have HKY := Lib.hid hy
      have l0 : (0 : Int) ≤ (k : Int) := by omega
      have l1 : (k : Int) < (xn : Int) := by omega
      have ks : wr.cell? ⟨b, off + k, none⟩ = some (.int .i64 x) ∧ wr.cell? ⟨b2, off2 + k, none⟩ = some (.int .i64 y) := ⟨cx, cy⟩
      have HBB := Lib.hid hb
      clear hc hc2 hx hy cx cy hb
      obtain ⟨u0z, u1z⟩ := ks
      cases heq : (x == y) with
      | true =>
        have HN : Hid (∀ (i : Nat) (x y : Int), i < k + 1 → xs[i]? = some x → ys[i]? = some y → (fun (x y : Int) => x == y) x y = true) := Lib.hid (fun i x' y' hi h1 h2 => by
          by_cases hik : i < k
          · exact HA.out i x' y' hik h1 h2
          · have : i = k := by omega
            subst this
            rw [HKX.out] at h1; rw [HKY.out] at h2
            cases h1; cases h2
            exact heq)
        have t2 : (x != y) = false := by simpa using heq
        go_wp2_with fail
        go_region_held3 (fun W => W.cell? ⟨b, off + k, none⟩ = some (.int .i64 x) ∧ W.cell? ⟨b2, off2 + k, none⟩ = some (.int .i64 y)) (go_keep) (fail)
        go_wp2_with fail
        go_roundw
        case rel => exact ⟨k + 1, by omega, by go_num, HN, HBB.out.drew⟩
        case measure => simp [intOf]; omega
      | false =>
        have HR := Lib.hid (eqL_at (fun (x y : Int) => x == y) xs ys k x y HKX.out HKY.out heq)
        have t2 : (x != y) = true := by simpa using heq
        go_wp2_with fail
        go_region_held3 (fun W => W.cell? ⟨b, off + k, none⟩ = some (.int .i64 x) ∧ W.cell? ⟨b2, off2 + k, none⟩ = some (.int .i64 y)) (go_keep) (fail)
        go_wp2_with fail
        go_ret
        exact ⟨by rw [HR.out]; rfl, HBB.out.drew⟩
    · have tk : decide ((k : Int) < (xn : Int)) = false := by simp; omega
      have HR := Lib.hid (eqL_all (fun (x y : Int) => x == y) xs ys (by rw [HXN.out, HYN.out]) fun i x y h1 h2 => HA.out i x y (by have := (List.getElem?_eq_some_iff.1 h1).1; rw [HXN.out] at this; omega) h1 h2)
      go_wp2
      go_ret
      exact ⟨by rw [HR.out]; rfl, hb⟩
end Go.Proofs.Ytiombjkjoehjpaa
