/- The walk of when two partitions are the same: the document's. -/
import Derived.Test.YtiombjkjoehjpaaConfV
namespace Go.Proofs.Ytiombjkjoehjpaa
open Go.ChangeShapes Go.WideShapes Go.ChangeAt Go.RowKit
set_option linter.unusedVariables false
attribute [local go_sem ↓] Go.wp_at_zero Go.wp_at_succ

set_option maxRecDepth 100000 in
set_option maxHeartbeats 8000000 in
theorem refSamePart_any (ta sa da tb sb db : Option Addr) (tn tc sn sc dn dc un uc rn rc en ec : Nat) (x0 x1 x2 y0 y1 y2 : Int) (w : World) (lo hi : Nat) (p q : Pt) (hp : PtLies w lo hi ⟨.slice ta tn tc, .slice sa sn sc, .slice da dn dc, x0, x1, x2⟩ p) (hq : PtLies w lo hi ⟨.slice tb un uc, .slice sb rn rc, .slice db en ec, y0, y1, y2⟩ q) (hhi : hi ≤ w.heap.size)
    (l1 : p.ts.length ≤ 1000) (l2 : p.ss.length ≤ 1000) (l3 : p.ds.length ≤ 1000) :
    Calls Try.prog 33 #[.agg #[.slice ta tn tc, .slice sa sn sc, .slice da dn dc, .int .u8 x0, .int .u8 x1, .int .u8 x2], .agg #[.slice tb un uc, .slice sb rn rc, .slice db en ec, .int .u8 y0, .int .u8 y1, .int .u8 y2]] w fun e w' => e = .returned (.bool (eqPt p q)) ∧ Below w.heap.size w w' := by
  obtain ⟨V, hV⟩ : ∃ V, V = (w.alloc (.cells #[.slice ta tn tc, .slice sa sn sc, .slice da dn dc, .int .u8 x0, .int .u8 x1, .int .u8 x2] 58)).alloc (.cells #[.slice tb un uc, .slice sb rn rc, .slice db en ec, .int .u8 y0, .int .u8 y1, .int .u8 y2] 58) := ⟨_, rfl⟩
  have B1 : Below w.heap.size w V := by rw [hV]; exact b_alloc (below1 _ _) (Nat.le_refl _) _
  have s1 : V.heap[w.heap.size]? = some (.cells #[.slice ta tn tc, .slice sa sn sc, .slice da dn dc, .int .u8 x0, .int .u8 x1, .int .u8 x2] 58 (0, 0)) := by rw [hV]; simp only [heap_at, World.size_alloc]; simp
  have s2 : V.heap[w.heap.size + 1]? = some (.cells #[.slice tb un uc, .slice sb rn rc, .slice db en ec, .int .u8 y0, .int .u8 y1, .int .u8 y2] 58 (0, 0)) := by rw [hV]; simp only [heap_at, World.size_alloc]; simp
  have z1 := lt_of_block s1; have z2 := lt_of_block s2
  have hhv : hi ≤ V.heap.size := by omega
  obtain ⟨p1, p2, p3, p4, p5, p6⟩ := hp.keep (SameIn.of_below B1 hhi)
  obtain ⟨q1, q2, q3, q4, q5, q6⟩ := hq.keep (SameIn.of_below B1 hhi)
  have ln1 : p.ts.length = tn := by obtain ⟨_, _, e, _⟩ := p1; cases e; rfl
  have ln2 : p.ss.length = sn := by obtain ⟨_, _, e, _⟩ := p2; cases e; rfl
  have ln3 : p.ds.length = dn := by obtain ⟨_, _, e, _⟩ := p3; cases e; rfl
  have lm1 : q.ts.length = un := by obtain ⟨_, _, e, _⟩ := q1; cases e; rfl
  have lm2 : q.ss.length = rn := by obtain ⟨_, _, e, _⟩ := q2; cases e; rfl
  have lm3 : q.ds.length = en := by obtain ⟨_, _, e, _⟩ := q3; cases e; rfl
  rw [ln1] at p1 l1; rw [ln2] at p2 l2; rw [ln3] at p3 l3; rw [lm1] at q1; rw [lm2] at q2; rw [lm3] at q3
  have PA4 : Hid (x0 = p.a0 ∧ x1 = p.a1 ∧ x2 = p.a2 ∧ y0 = q.a0 ∧ y1 = q.a1 ∧ y2 = q.a2) := Lib.hid ⟨p4, p5, p6, q4, q5, q6⟩
  have P1 := Lib.hid p1; have P2 := Lib.hid p2; have P3 := Lib.hid p3; have Q1 := Lib.hid q1; have Q2 := Lib.hid q2; have Q3 := Lib.hid q3
  have LN1 := Lib.hid ln1; have LN2 := Lib.hid ln2; have LN3 := Lib.hid ln3; have LM1 := Lib.hid lm1; have LM2 := Lib.hid lm2; have LM3 := Lib.hid lm3
  have S1 := Lib.hid s1; have S2 := Lib.hid s2; have HB1 := Lib.hid B1; have HV := Lib.hid hV
  clear p1 p2 p3 p4 p5 p6 q1 q2 q3 q4 q5 q6 ln1 ln2 ln3 lm1 lm2 lm3 s1 s2 B1 hV hp hq
  have hM8 : Try.prog.eqGuardType Try.prog.depth 56 = false := by kernel_rfl
  have hA := eqInActs x0 x1 x2 y0 y1 y2
  by_cases n1 : tn = un
  case neg =>
    have t1 : ((tn : Int) != (un : Int)) = true := by simp; omega
    have hff := eqL_len eqTk p.ts q.ts (by rw [LN1.out, LM1.out]; exact n1)
    have HR : Hid (eqPt p q = false) := Lib.hid (by simp only [eqPt, hff]; simp)
    clear hff
    go_enter Try.func33, Try.ntmps33
    go_wp2_with fail
    go_ret
    exact ⟨by rw [HR.out]; rfl, by rw [← HV.out]; exact HB1.out⟩
  case pos =>
  subst n1
  by_cases n2 : sn = rn
  case neg =>
    have t2 : ((sn : Int) != (rn : Int)) = true := by simp; omega
    have hff := eqL_len eqSv p.ss q.ss (by rw [LN2.out, LM2.out]; exact n2)
    have HR : Hid (eqPt p q = false) := Lib.hid (by simp only [eqPt, hff]; simp)
    clear hff
    go_enter Try.func33, Try.ntmps33
    go_wp2_with fail
    go_ret
    exact ⟨by rw [HR.out]; rfl, by rw [← HV.out]; exact HB1.out⟩
  case pos =>
  subst n2
  by_cases n3 : dn = en
  case neg =>
    have t3 : ((dn : Int) != (en : Int)) = true := by simp; omega
    have hff := eqL_len (fun (x y : Int) => x == y) p.ds q.ds (by rw [LN3.out, LM3.out]; exact n3)
    have HR : Hid (eqPt p q = false) := Lib.hid (by simp only [eqPt, hff]; simp)
    clear hff
    go_enter Try.func33, Try.ntmps33
    go_wp2_with fail
    go_ret
    exact ⟨by rw [HR.out]; rfl, by rw [← HV.out]; exact HB1.out⟩
  case pos =>
  subst n3
  by_cases n4 : x0 = y0 ∧ x1 = y1 ∧ x2 = y2
  case neg =>
    have t4 : (x0 == y0 && (x1 == y1 && x2 == y2)) = false := by rw [Bool.eq_false_iff]; intro h; simp at h; exact n4 h
    have HR : Hid (eqPt p q = false) := Lib.hid (by obtain ⟨i1, i2, i3, i4, i5, i6⟩ := PA4.out; rw [eqPt, ← i1, ← i2, ← i3, ← i4, ← i5, ← i6, t4]; simp)
    rw [t4] at hA
    go_enter Try.func33, Try.ntmps33
    go_wp2_with fail
    go_ret
    exact ⟨by rw [HR.out]; rfl, by rw [← HV.out]; exact HB1.out⟩
  case pos =>
  have ACT := Lib.hid n4
  have t4 : (x0 == y0 && (x1 == y1 && x2 == y2)) = true := by simp [n4.1, n4.2.1, n4.2.2]
  rw [t4] at hA
  clear n4 t4
  have hb := Below.refl V.heap.size V
  go_enter Try.func33, Try.ntmps33
  go_wp2_with fail
  rw [← HV.out]
  have HBXHE1 := Lib.hid hb
  go_wp2_with fail
  go_loopw [5] (fun i wr => ∃ k : Nat, k ≤ tn ∧ i = .int .i64 k ∧ Hid (∀ (i : Nat) (x y : Tk), i < k → p.ts[i]? = some x → q.ts[i]? = some y → eqTk x y = true) ∧ Below V.heap.size V wr) (fun i _ => tn - (intOf i).toNat)
  case atStart => exact ⟨0, by omega, rfl, Lib.hid (fun i x y h => by omega), HBXHE1.out⟩
  case round =>
    clear hb HBXHE1
    obtain ⟨k, hk, rfl, HA, hb⟩ := hrel
    have B0 : wr.cell? ⟨w.heap.size, 0, none⟩ = some (.slice ta tn tc) := (hb.cell z1).trans (cell_in S1.out rfl)
    have B1 : wr.cell? ⟨w.heap.size + 1, 0, none⟩ = some (.slice tb tn uc) := (hb.cell z2).trans (cell_in S2.out rfl)
    by_cases hlt : k < tn
    · have tk : decide ((k : Int) < (tn : Int)) = true := by simpa using hlt
      obtain ⟨x, hx⟩ : ∃ x, p.ts[k]? = some x := ⟨_, List.getElem?_eq_getElem (by rw [LN1.out]; exact hlt)⟩
      obtain ⟨y, hy⟩ : ∃ x, q.ts[k]? = some x := ⟨_, List.getElem?_eq_getElem (by rw [LM1.out]; exact hlt)⟩
      obtain ⟨_, _, e1, _, _, hc⟩ := P1.out.keep (SameIn.of_below hb hhv)
      cases e1
      obtain ⟨_, _, e2, _, _, hc2⟩ := Q1.out.keep (SameIn.of_below hb hhv)
      cases e2
      rcases hc with h0 | ⟨b, off, rfl, hb1, hb2, hc⟩
      · omega
      rcases hc2 with h0 | ⟨b2, off2, rfl, hb3, hb4, hc2⟩
      · omega
      have cx := Lies.tk hc hx
      have cy := Lies.tk hc2 hy
      have HKX := Lib.hid hx; have HKY := Lib.hid hy
      have l0 : (0 : Int) ≤ (k : Int) := by omega
      have l1 : (k : Int) < (tn : Int) := by omega
      have hE := eqInTk_parcloseref03 x.hi x.t x.d x.v x.lo x.top y.hi y.t y.d y.v y.lo y.top
      have hM : Try.prog.eqGuardType Try.prog.depth 121 = false := by kernel_rfl
      have ks : wr.cell? ⟨b, off + k * 6, none⟩ = some (.bool x.hi) ∧ wr.cell? ⟨b, off + k * 6 + 1, none⟩ = some (.int .i64 x.t) ∧ wr.cell? ⟨b, off + k * 6 + 2, none⟩ = some (.int .i64 x.d) ∧ wr.cell? ⟨b, off + k * 6 + 3, none⟩ = some (.int .i64 x.v) ∧ wr.cell? ⟨b, off + k * 6 + 4, none⟩ = some (.int .i64 x.lo) ∧ wr.cell? ⟨b, off + k * 6 + 5, none⟩ = some (.int .i64 x.top) ∧ wr.cell? ⟨b2, off2 + k * 6, none⟩ = some (.bool y.hi) ∧ wr.cell? ⟨b2, off2 + k * 6 + 1, none⟩ = some (.int .i64 y.t) ∧ wr.cell? ⟨b2, off2 + k * 6 + 2, none⟩ = some (.int .i64 y.d) ∧ wr.cell? ⟨b2, off2 + k * 6 + 3, none⟩ = some (.int .i64 y.v) ∧ wr.cell? ⟨b2, off2 + k * 6 + 4, none⟩ = some (.int .i64 y.lo) ∧ wr.cell? ⟨b2, off2 + k * 6 + 5, none⟩ = some (.int .i64 y.top) := ⟨cx.1, cx.2.1, cx.2.2.1, cx.2.2.2.1, cx.2.2.2.2.1, cx.2.2.2.2.2, cy.1, cy.2.1, cy.2.2.1, cy.2.2.2.1, cy.2.2.2.2.1, cy.2.2.2.2.2⟩
      have HBB := Lib.hid hb
      clear hc hc2 hx hy cx cy hb
      obtain ⟨g0, g1, g2, g3, g4, g5, g6, g7, g8, g9, g10, g11⟩ := ks
      cases heq : eqTk x y with
      | true =>
        have HN : Hid (∀ (i : Nat) (x y : Tk), i < k + 1 → p.ts[i]? = some x → q.ts[i]? = some y → eqTk x y = true) := Lib.hid (fun i x' y' hi h1 h2 => by
          by_cases hik : i < k
          · exact HA.out i x' y' hik h1 h2
          · have : i = k := by omega
            subst this
            rw [HKX.out] at h1; rw [HKY.out] at h2
            cases h1; cases h2
            exact heq)
        have t2 : eqTk ⟨x.hi, x.t, x.d, x.v, x.lo, x.top⟩ ⟨y.hi, y.t, y.d, y.v, y.lo, y.top⟩ = true := heq
        go_wp2_with fail
        go_region_held3 (fun W => W.cell? ⟨w.heap.size, 0, none⟩ = some (.slice (some ⟨b, off, none⟩) tn tc) ∧ W.cell? ⟨w.heap.size + 1, 0, none⟩ = some (.slice (some ⟨b2, off2, none⟩) tn uc) ∧ W.cell? ⟨b, off + k * 6, none⟩ = some (.bool x.hi) ∧ W.cell? ⟨b, off + k * 6 + 1, none⟩ = some (.int .i64 x.t) ∧ W.cell? ⟨b, off + k * 6 + 2, none⟩ = some (.int .i64 x.d) ∧ W.cell? ⟨b, off + k * 6 + 3, none⟩ = some (.int .i64 x.v) ∧ W.cell? ⟨b, off + k * 6 + 4, none⟩ = some (.int .i64 x.lo) ∧ W.cell? ⟨b, off + k * 6 + 5, none⟩ = some (.int .i64 x.top) ∧ W.cell? ⟨b2, off2 + k * 6, none⟩ = some (.bool y.hi) ∧ W.cell? ⟨b2, off2 + k * 6 + 1, none⟩ = some (.int .i64 y.t) ∧ W.cell? ⟨b2, off2 + k * 6 + 2, none⟩ = some (.int .i64 y.d) ∧ W.cell? ⟨b2, off2 + k * 6 + 3, none⟩ = some (.int .i64 y.v) ∧ W.cell? ⟨b2, off2 + k * 6 + 4, none⟩ = some (.int .i64 y.lo) ∧ W.cell? ⟨b2, off2 + k * 6 + 5, none⟩ = some (.int .i64 y.top)) (go_keep) (fail)
        go_wp2_with fail
        go_roundw
        case rel => exact ⟨k + 1, by omega, by go_num, HN, HBB.out.drew⟩
        case measure => simp [intOf]; omega
      | false =>
        have hff := eqL_at eqTk _ _ k x y HKX.out HKY.out heq
        have HR : Hid (eqPt p q = false) := Lib.hid (by simp only [eqPt, hff]; simp)
        clear hff
        have t2 : eqTk ⟨x.hi, x.t, x.d, x.v, x.lo, x.top⟩ ⟨y.hi, y.t, y.d, y.v, y.lo, y.top⟩ = false := heq
        go_wp2_with fail
        go_region_held3 (fun W => W.cell? ⟨w.heap.size, 0, none⟩ = some (.slice (some ⟨b, off, none⟩) tn tc) ∧ W.cell? ⟨w.heap.size + 1, 0, none⟩ = some (.slice (some ⟨b2, off2, none⟩) tn uc) ∧ W.cell? ⟨b, off + k * 6, none⟩ = some (.bool x.hi) ∧ W.cell? ⟨b, off + k * 6 + 1, none⟩ = some (.int .i64 x.t) ∧ W.cell? ⟨b, off + k * 6 + 2, none⟩ = some (.int .i64 x.d) ∧ W.cell? ⟨b, off + k * 6 + 3, none⟩ = some (.int .i64 x.v) ∧ W.cell? ⟨b, off + k * 6 + 4, none⟩ = some (.int .i64 x.lo) ∧ W.cell? ⟨b, off + k * 6 + 5, none⟩ = some (.int .i64 x.top) ∧ W.cell? ⟨b2, off2 + k * 6, none⟩ = some (.bool y.hi) ∧ W.cell? ⟨b2, off2 + k * 6 + 1, none⟩ = some (.int .i64 y.t) ∧ W.cell? ⟨b2, off2 + k * 6 + 2, none⟩ = some (.int .i64 y.d) ∧ W.cell? ⟨b2, off2 + k * 6 + 3, none⟩ = some (.int .i64 y.v) ∧ W.cell? ⟨b2, off2 + k * 6 + 4, none⟩ = some (.int .i64 y.lo) ∧ W.cell? ⟨b2, off2 + k * 6 + 5, none⟩ = some (.int .i64 y.top)) (go_keep) (fail)
        go_wp2_with fail
        go_ret
        exact ⟨by rw [HR.out]; rfl, HB1.out.trans (HBB.out.drew.mono HB1.out.size)⟩
    · have tk : decide ((k : Int) < (tn : Int)) = false := by simp; omega
      have HE1 := Lib.hid (eqL_all eqTk p.ts q.ts (by rw [LN1.out, LM1.out]) fun i x y h1 h2 => HA.out i x y (by have := (List.getElem?_eq_some_iff.1 h1).1; rw [LN1.out] at this; omega) h1 h2)
      clear HA
      have HBXHE2 := Lib.hid hb
      go_wp2_with fail
      go_loopw [6] (fun i wr => ∃ k : Nat, k ≤ sn ∧ i = .int .i64 k ∧ Hid (∀ (i : Nat) (x y : Sv), i < k → p.ss[i]? = some x → q.ss[i]? = some y → eqSv x y = true) ∧ Below V.heap.size V wr) (fun i _ => sn - (intOf i).toNat)
      case atStart => exact ⟨0, by omega, rfl, Lib.hid (fun i x y h => by omega), HBXHE2.out⟩
      case round =>
        clear hb HBXHE2
        obtain ⟨k, hk, rfl, HA, hb⟩ := hrel
        have B0 : wr.cell? ⟨w.heap.size, 1, none⟩ = some (.slice sa sn sc) := (hb.cell z1).trans (cell_in S1.out rfl)
        have B1 : wr.cell? ⟨w.heap.size + 1, 1, none⟩ = some (.slice sb sn rc) := (hb.cell z2).trans (cell_in S2.out rfl)
        by_cases hlt : k < sn
        · have tk : decide ((k : Int) < (sn : Int)) = true := by simpa using hlt
          obtain ⟨x, hx⟩ : ∃ x, p.ss[k]? = some x := ⟨_, List.getElem?_eq_getElem (by rw [LN2.out]; exact hlt)⟩
          obtain ⟨y, hy⟩ : ∃ x, q.ss[k]? = some x := ⟨_, List.getElem?_eq_getElem (by rw [LM2.out]; exact hlt)⟩
          obtain ⟨_, _, e1, _, _, hc⟩ := P2.out.keep (SameIn.of_below hb hhv)
          cases e1
          obtain ⟨_, _, e2, _, _, hc2⟩ := Q2.out.keep (SameIn.of_below hb hhv)
          cases e2
          rcases hc with h0 | ⟨b, off, rfl, hb1, hb2, hc⟩
          · omega
          rcases hc2 with h0 | ⟨b2, off2, rfl, hb3, hb4, hc2⟩
          · omega
          have cx := Lies.sv hc hx
          have cy := Lies.sv hc2 hy
          have HKX := Lib.hid hx; have HKY := Lib.hid hy
          have l0 : (0 : Int) ≤ (k : Int) := by omega
          have l1 : (k : Int) < (sn : Int) := by omega
          have hE := eqInSv_parcloseref03 x.re x.c x.t y.re y.c y.t
          have hM : Try.prog.eqGuardType Try.prog.depth 124 = false := by kernel_rfl
          have ks : wr.cell? ⟨b, off + k * 3, none⟩ = some (.bool x.re) ∧ wr.cell? ⟨b, off + k * 3 + 1, none⟩ = some (.int .i64 x.c) ∧ wr.cell? ⟨b, off + k * 3 + 2, none⟩ = some (.int .i64 x.t) ∧ wr.cell? ⟨b2, off2 + k * 3, none⟩ = some (.bool y.re) ∧ wr.cell? ⟨b2, off2 + k * 3 + 1, none⟩ = some (.int .i64 y.c) ∧ wr.cell? ⟨b2, off2 + k * 3 + 2, none⟩ = some (.int .i64 y.t) := ⟨cx.1, cx.2.1, cx.2.2, cy.1, cy.2.1, cy.2.2⟩
          have HBB := Lib.hid hb
          clear hc hc2 hx hy cx cy hb
          obtain ⟨g0, g1, g2, g3, g4, g5⟩ := ks
          cases heq : eqSv x y with
          | true =>
            have HN : Hid (∀ (i : Nat) (x y : Sv), i < k + 1 → p.ss[i]? = some x → q.ss[i]? = some y → eqSv x y = true) := Lib.hid (fun i x' y' hi h1 h2 => by
              by_cases hik : i < k
              · exact HA.out i x' y' hik h1 h2
              · have : i = k := by omega
                subst this
                rw [HKX.out] at h1; rw [HKY.out] at h2
                cases h1; cases h2
                exact heq)
            have t2 : eqSv ⟨x.re, x.c, x.t⟩ ⟨y.re, y.c, y.t⟩ = true := heq
            go_wp2_with fail
            go_region_held3 (fun W => W.cell? ⟨w.heap.size, 1, none⟩ = some (.slice (some ⟨b, off, none⟩) sn sc) ∧ W.cell? ⟨w.heap.size + 1, 1, none⟩ = some (.slice (some ⟨b2, off2, none⟩) sn rc) ∧ W.cell? ⟨b, off + k * 3, none⟩ = some (.bool x.re) ∧ W.cell? ⟨b, off + k * 3 + 1, none⟩ = some (.int .i64 x.c) ∧ W.cell? ⟨b, off + k * 3 + 2, none⟩ = some (.int .i64 x.t) ∧ W.cell? ⟨b2, off2 + k * 3, none⟩ = some (.bool y.re) ∧ W.cell? ⟨b2, off2 + k * 3 + 1, none⟩ = some (.int .i64 y.c) ∧ W.cell? ⟨b2, off2 + k * 3 + 2, none⟩ = some (.int .i64 y.t)) (go_keep) (fail)
            go_wp2_with fail
            go_roundw
            case rel => exact ⟨k + 1, by omega, by go_num, HN, HBB.out.drew⟩
            case measure => simp [intOf]; omega
          | false =>
            have hff := eqL_at eqSv _ _ k x y HKX.out HKY.out heq
            have HR : Hid (eqPt p q = false) := Lib.hid (by simp only [eqPt, hff]; simp)
            clear hff
            have t2 : eqSv ⟨x.re, x.c, x.t⟩ ⟨y.re, y.c, y.t⟩ = false := heq
            go_wp2_with fail
            go_region_held3 (fun W => W.cell? ⟨w.heap.size, 1, none⟩ = some (.slice (some ⟨b, off, none⟩) sn sc) ∧ W.cell? ⟨w.heap.size + 1, 1, none⟩ = some (.slice (some ⟨b2, off2, none⟩) sn rc) ∧ W.cell? ⟨b, off + k * 3, none⟩ = some (.bool x.re) ∧ W.cell? ⟨b, off + k * 3 + 1, none⟩ = some (.int .i64 x.c) ∧ W.cell? ⟨b, off + k * 3 + 2, none⟩ = some (.int .i64 x.t) ∧ W.cell? ⟨b2, off2 + k * 3, none⟩ = some (.bool y.re) ∧ W.cell? ⟨b2, off2 + k * 3 + 1, none⟩ = some (.int .i64 y.c) ∧ W.cell? ⟨b2, off2 + k * 3 + 2, none⟩ = some (.int .i64 y.t)) (go_keep) (fail)
            go_wp2_with fail
            go_ret
            exact ⟨by rw [HR.out]; rfl, HB1.out.trans (HBB.out.drew.mono HB1.out.size)⟩
        · have tk : decide ((k : Int) < (sn : Int)) = false := by simp; omega
          have HE2 := Lib.hid (eqL_all eqSv p.ss q.ss (by rw [LN2.out, LM2.out]) fun i x y h1 h2 => HA.out i x y (by have := (List.getElem?_eq_some_iff.1 h1).1; rw [LN2.out] at this; omega) h1 h2)
          clear HA
          have HBXHE3 := Lib.hid hb
          go_wp2_with fail
          go_loopw [7] (fun i wr => ∃ k : Nat, k ≤ dn ∧ i = .int .i64 k ∧ Hid (∀ (i : Nat) (x y : Int), i < k → p.ds[i]? = some x → q.ds[i]? = some y → (fun (x y : Int) => x == y) x y = true) ∧ Below V.heap.size V wr) (fun i _ => dn - (intOf i).toNat)
          case atStart => exact ⟨0, by omega, rfl, Lib.hid (fun i x y h => by omega), HBXHE3.out⟩
          case round =>
            clear hb HBXHE3
            obtain ⟨k, hk, rfl, HA, hb⟩ := hrel
            have B0 : wr.cell? ⟨w.heap.size, 2, none⟩ = some (.slice da dn dc) := (hb.cell z1).trans (cell_in S1.out rfl)
            have B1 : wr.cell? ⟨w.heap.size + 1, 2, none⟩ = some (.slice db dn ec) := (hb.cell z2).trans (cell_in S2.out rfl)
            by_cases hlt : k < dn
            · have tk : decide ((k : Int) < (dn : Int)) = true := by simpa using hlt
              obtain ⟨x, hx⟩ : ∃ x, p.ds[k]? = some x := ⟨_, List.getElem?_eq_getElem (by rw [LN3.out]; exact hlt)⟩
              obtain ⟨y, hy⟩ : ∃ x, q.ds[k]? = some x := ⟨_, List.getElem?_eq_getElem (by rw [LM3.out]; exact hlt)⟩
              obtain ⟨_, _, e1, _, _, hc⟩ := P3.out.keep (SameIn.of_below hb hhv)
              cases e1
              obtain ⟨_, _, e2, _, _, hc2⟩ := Q3.out.keep (SameIn.of_below hb hhv)
              cases e2
              rcases hc with h0 | ⟨b, off, rfl, hb1, hb2, hc⟩
              · omega
              rcases hc2 with h0 | ⟨b2, off2, rfl, hb3, hb4, hc2⟩
              · omega
              have cx := Lies.in1 hc hx
              have cy := Lies.in1 hc2 hy
              have HKX := Lib.hid hx; have HKY := Lib.hid hy
              have l0 : (0 : Int) ≤ (k : Int) := by omega
              have l1 : (k : Int) < (dn : Int) := by omega
              have ks : wr.cell? ⟨b, off + k, none⟩ = some (.int .i64 x) ∧ wr.cell? ⟨b2, off2 + k, none⟩ = some (.int .i64 y) := ⟨cx, cy⟩
              have HBB := Lib.hid hb
              clear hc hc2 hx hy cx cy hb
              obtain ⟨g0, g1⟩ := ks
              cases heq : (x == y) with
              | true =>
                have HN : Hid (∀ (i : Nat) (x y : Int), i < k + 1 → p.ds[i]? = some x → q.ds[i]? = some y → (fun (x y : Int) => x == y) x y = true) := Lib.hid (fun i x' y' hi h1 h2 => by
                  by_cases hik : i < k
                  · exact HA.out i x' y' hik h1 h2
                  · have : i = k := by omega
                    subst this
                    rw [HKX.out] at h1; rw [HKY.out] at h2
                    cases h1; cases h2
                    exact heq)
                have t2 : (x != y) = false := by simpa using heq
                go_wp2_with fail
                go_region_held3 (fun W => W.cell? ⟨w.heap.size, 2, none⟩ = some (.slice (some ⟨b, off, none⟩) dn dc) ∧ W.cell? ⟨w.heap.size + 1, 2, none⟩ = some (.slice (some ⟨b2, off2, none⟩) dn ec) ∧ W.cell? ⟨b, off + k, none⟩ = some (.int .i64 x) ∧ W.cell? ⟨b2, off2 + k, none⟩ = some (.int .i64 y)) (go_keep) (fail)
                go_wp2_with fail
                go_roundw
                case rel => exact ⟨k + 1, by omega, by go_num, HN, HBB.out.drew⟩
                case measure => simp [intOf]; omega
              | false =>
                have hff := eqL_at (fun (x y : Int) => x == y) _ _ k x y HKX.out HKY.out heq
                have HR : Hid (eqPt p q = false) := Lib.hid (by simp only [eqPt, hff]; simp)
                clear hff
                have t2 : (x != y) = true := by simpa using heq
                go_wp2_with fail
                go_region_held3 (fun W => W.cell? ⟨w.heap.size, 2, none⟩ = some (.slice (some ⟨b, off, none⟩) dn dc) ∧ W.cell? ⟨w.heap.size + 1, 2, none⟩ = some (.slice (some ⟨b2, off2, none⟩) dn ec) ∧ W.cell? ⟨b, off + k, none⟩ = some (.int .i64 x) ∧ W.cell? ⟨b2, off2 + k, none⟩ = some (.int .i64 y)) (go_keep) (fail)
                go_wp2_with fail
                go_ret
                exact ⟨by rw [HR.out]; rfl, HB1.out.trans (HBB.out.drew.mono HB1.out.size)⟩
            · have tk : decide ((k : Int) < (dn : Int)) = false := by simp; omega
              have HE3 := Lib.hid (eqL_all (fun (x y : Int) => x == y) p.ds q.ds (by rw [LN3.out, LM3.out]) fun i x y h1 h2 => HA.out i x y (by have := (List.getElem?_eq_some_iff.1 h1).1; rw [LN3.out] at this; omega) h1 h2)
              clear HA
              have HR : Hid (eqPt p q = true) := Lib.hid (by obtain ⟨i1, i2, i3, i4, i5, i6⟩ := PA4.out; obtain ⟨j1, j2, j3⟩ := ACT.out; simp only [eqPt, HE1.out, HE2.out, HE3.out, ← i1, ← i2, ← i3, ← i4, ← i5, ← i6, j1, j2, j3]; simp)
              go_wp2_with fail
              go_ret
              exact ⟨by rw [HR.out]; rfl, HB1.out.trans (hb.mono HB1.out.size)⟩
end Go.Proofs.Ytiombjkjoehjpaa
