/- The walk of when two systems are the same: the document's. -/
import Derived.Test.YtiombjkjoehjpaaConfY
namespace Go.Proofs.Ytiombjkjoehjpaa
open Go.ChangeShapes Go.WideShapes Go.ChangeAt Go.RowKit
set_option linter.unusedVariables false
attribute [local go_sem ↓] Go.wp_at_zero Go.wp_at_succ

set_option maxRecDepth 100000 in
set_option maxHeartbeats 8000000 in
theorem refSame_any (wa pa ca xa qa ya : Option Addr) (wn wc pn pc cn cc xn xc qn qc yn yc : Nat) (w : World) (lo hi : Nat) (c d : Cf) (pvs qvs : List Pv) (h1 : c.ws.length = wn) (h2 : c.ps.length = pn) (h3 : c.cs.length = cn) (g1 : d.ws.length = xn) (g2 : d.ps.length = qn) (g3 : d.cs.length = yn)
    (p1 : Lies w lo hi (.slice wa wn wc) wn 3 (c.ws.flatMap Wn.cells)) (p2 : Lies w lo hi (.slice pa pn pc) pn 6 (pvs.flatMap Pv.cells)) (p3 : AllLie w lo hi pvs c.ps) (p4 : Lies w lo hi (.slice ca cn cc) cn 4 (c.cs.flatMap Ch.cells))
    (q1 : Lies w lo hi (.slice xa xn xc) xn 3 (d.ws.flatMap Wn.cells)) (q2 : Lies w lo hi (.slice qa qn qc) qn 6 (qvs.flatMap Pv.cells)) (q3 : AllLie w lo hi qvs d.ps) (q4 : Lies w lo hi (.slice ya yn yc) yn 4 (d.cs.flatMap Ch.cells)) (hhi : hi ≤ w.heap.size)
    (b1 : wn ≤ 1000) (b2 : pn ≤ 1000) (b3 : cn ≤ 1000) (b4 : ∀ p ∈ c.ps, p.ts.length ≤ 1000 ∧ p.ss.length ≤ 1000 ∧ p.ds.length ≤ 1000) :
    Calls Try.prog 15 #[.agg #[.int .i64 c.frame, .int .i64 c.margin, .slice wa wn wc, .slice pa pn pc, .slice ca cn cc], .agg #[.int .i64 d.frame, .int .i64 d.margin, .slice xa xn xc, .slice qa qn qc, .slice ya yn yc]] w fun e w' => e = .returned (.bool (eqCf c d)) ∧ Below w.heap.size w w' := by
  obtain ⟨V, hV⟩ : ∃ V, V = (w.alloc (.cells #[.int .i64 c.frame, .int .i64 c.margin, .slice wa wn wc, .slice pa pn pc, .slice ca cn cc] 26)).alloc (.cells #[.int .i64 d.frame, .int .i64 d.margin, .slice xa xn xc, .slice qa qn qc, .slice ya yn yc] 26) := ⟨_, rfl⟩
  have B1 : Below w.heap.size w V := by rw [hV]; exact b_alloc (below1 _ _) (Nat.le_refl _) _
  have s1 : V.heap[w.heap.size]? = some (.cells #[.int .i64 c.frame, .int .i64 c.margin, .slice wa wn wc, .slice pa pn pc, .slice ca cn cc] 26 (0, 0)) := by rw [hV]; simp only [heap_at, World.size_alloc]; simp
  have s2 : V.heap[w.heap.size + 1]? = some (.cells #[.int .i64 d.frame, .int .i64 d.margin, .slice xa xn xc, .slice qa qn qc, .slice ya yn yc] 26 (0, 0)) := by rw [hV]; simp only [heap_at, World.size_alloc]; simp
  have z1 := lt_of_block s1; have z2 := lt_of_block s2
  have hhv : hi ≤ V.heap.size := by omega
  have si : SameIn w V lo hi := SameIn.of_below B1 hhi
  have P1 := Lib.hid (p1.keep si); have P2 := Lib.hid (p2.keep si); have AX := Lib.hid (p3.keep si); have P3 := Lib.hid (p4.keep si)
  have Q1 := Lib.hid (q1.keep si); have Q2 := Lib.hid (q2.keep si); have AY := Lib.hid (q3.keep si); have Q3 := Lib.hid (q4.keep si)
  have LN1 := Lib.hid h1; have LN2 := Lib.hid h2; have LN3 := Lib.hid h3; have LM1 := Lib.hid g1; have LM2 := Lib.hid g2; have LM3 := Lib.hid g3
  have LX := Lib.hid p3.length; have LY := Lib.hid q3.length; have B4 := Lib.hid b4
  have S1 := Lib.hid s1; have S2 := Lib.hid s2; have HB1 := Lib.hid B1; have HV := Lib.hid hV
  clear p1 p2 p3 p4 q1 q2 q3 q4 h1 h2 h3 g1 g2 g3 si s1 s2 B1 hV b4
  by_cases n0 : c.frame = d.frame
  case neg =>
    have t0 : (c.frame != d.frame) = true := by simpa using n0
    have HR : Hid (eqCf c d = false) := Lib.hid (by simp [eqCf, n0])
    go_enter Try.func15, Try.ntmps15
    go_wp2_with fail
    go_ret
    exact ⟨by rw [HR.out]; rfl, by rw [← HV.out]; exact HB1.out⟩
  case pos =>
  have t0 : (c.frame != d.frame) = false := by simpa using n0
  have FR : Hid ((c.frame == d.frame) = true) := Lib.hid (by simpa using n0)
  clear n0
  by_cases n0 : c.margin = d.margin
  case neg =>
    have t1 : (c.margin != d.margin) = true := by simpa using n0
    have HR : Hid (eqCf c d = false) := Lib.hid (by simp [eqCf, n0])
    go_enter Try.func15, Try.ntmps15
    go_wp2_with fail
    go_ret
    exact ⟨by rw [HR.out]; rfl, by rw [← HV.out]; exact HB1.out⟩
  case pos =>
  have t1 : (c.margin != d.margin) = false := by simpa using n0
  have MG : Hid ((c.margin == d.margin) = true) := Lib.hid (by simpa using n0)
  clear n0
  by_cases n1 : wn = xn
  case neg =>
    have t2 : ((wn : Int) != (xn : Int)) = true := by simp; omega
    have hff := eqL_len eqWn c.ws d.ws (by rw [LN1.out, LM1.out]; exact n1)
    have HR : Hid (eqCf c d = false) := Lib.hid (by simp only [eqCf, hff]; simp)
    clear hff
    go_enter Try.func15, Try.ntmps15
    go_wp2_with fail
    go_ret
    exact ⟨by rw [HR.out]; rfl, by rw [← HV.out]; exact HB1.out⟩
  case pos =>
  subst n1
  by_cases n2 : pn = qn
  case neg =>
    have t2 : ((pn : Int) != (qn : Int)) = true := by simp; omega
    have hff := eqL_len eqPt c.ps d.ps (by rw [LN2.out, LM2.out]; exact n2)
    have HR : Hid (eqCf c d = false) := Lib.hid (by simp only [eqCf, hff]; simp)
    clear hff
    go_enter Try.func15, Try.ntmps15
    go_wp2_with fail
    go_ret
    exact ⟨by rw [HR.out]; rfl, by rw [← HV.out]; exact HB1.out⟩
  case pos =>
  subst n2
  by_cases n3 : cn = yn
  case neg =>
    have t2 : ((cn : Int) != (yn : Int)) = true := by simp; omega
    have hff := eqL_len eqCh c.cs d.cs (by rw [LN3.out, LM3.out]; exact n3)
    have HR : Hid (eqCf c d = false) := Lib.hid (by simp only [eqCf, hff]; simp)
    clear hff
    go_enter Try.func15, Try.ntmps15
    go_wp2_with fail
    go_ret
    exact ⟨by rw [HR.out]; rfl, by rw [← HV.out]; exact HB1.out⟩
  case pos =>
  subst n3
  have hb := Below.refl V.heap.size V
  go_enter Try.func15, Try.ntmps15
  go_wp2_with fail
  rw [← HV.out]
  have HBXHE1 := Lib.hid hb
  go_wp2_with fail
  go_loopw [5] (fun i wr => ∃ k : Nat, k ≤ wn ∧ i = .int .i64 k ∧ Hid (∀ (i : Nat) (x y : Wn), i < k → c.ws[i]? = some x → d.ws[i]? = some y → eqWn x y = true) ∧ Below V.heap.size V wr) (fun i _ => wn - (intOf i).toNat)
  case atStart => exact ⟨0, by omega, rfl, Lib.hid (fun i x y h => by omega), HBXHE1.out⟩
  case round =>
    clear hb HBXHE1
    obtain ⟨k, hk, rfl, HA, hb⟩ := hrel
    have B0 : wr.cell? ⟨w.heap.size, 2, none⟩ = some (.slice wa wn wc) := (hb.cell z1).trans (cell_in S1.out rfl)
    have B1 : wr.cell? ⟨w.heap.size + 1, 2, none⟩ = some (.slice xa wn xc) := (hb.cell z2).trans (cell_in S2.out rfl)
    by_cases hlt : k < wn
    · have tk : decide ((k : Int) < (wn : Int)) = true := by simpa using hlt
      obtain ⟨x, hx⟩ : ∃ x, c.ws[k]? = some x := ⟨_, List.getElem?_eq_getElem (by rw [LN1.out]; exact hlt)⟩
      obtain ⟨y, hy⟩ : ∃ x, d.ws[k]? = some x := ⟨_, List.getElem?_eq_getElem (by rw [LM1.out]; exact hlt)⟩
      obtain ⟨_, _, e1, _, _, hc⟩ := P1.out.keep (SameIn.of_below hb hhv)
      cases e1
      obtain ⟨_, _, e2, _, _, hc2⟩ := Q1.out.keep (SameIn.of_below hb hhv)
      cases e2
      rcases hc with h0 | ⟨b, off, rfl, hb1, hb2, hc⟩
      · omega
      rcases hc2 with h0 | ⟨b2, off2, rfl, hb3, hb4, hc2⟩
      · omega
      have cx := Lies.wn hc hx
      have cy := Lies.wn hc2 hy
      have HKX := Lib.hid hx; have HKY := Lib.hid hy
      have l0 : (0 : Int) ≤ (k : Int) := by omega
      have l1 : (k : Int) < (wn : Int) := by omega
      have hE := eqInWn_parcloseref03 x.at_ x.len x.part y.at_ y.len y.part
      have hM : Try.prog.eqGuardType Try.prog.depth 72 = false := by kernel_rfl
      have ks : wr.cell? ⟨b, off + k * 3, none⟩ = some (.int .i64 x.at_) ∧ wr.cell? ⟨b, off + k * 3 + 1, none⟩ = some (.int .i64 x.len) ∧ wr.cell? ⟨b, off + k * 3 + 2, none⟩ = some (.int .i64 x.part) ∧ wr.cell? ⟨b2, off2 + k * 3, none⟩ = some (.int .i64 y.at_) ∧ wr.cell? ⟨b2, off2 + k * 3 + 1, none⟩ = some (.int .i64 y.len) ∧ wr.cell? ⟨b2, off2 + k * 3 + 2, none⟩ = some (.int .i64 y.part) := ⟨cx.1, cx.2.1, cx.2.2, cy.1, cy.2.1, cy.2.2⟩
      have HBB := Lib.hid hb
      clear hc hc2 hx hy cx cy hb
      obtain ⟨g0, g1, g2, g3, g4, g5⟩ := ks
      cases heq : eqWn x y with
      | true =>
        have HN : Hid (∀ (i : Nat) (x y : Wn), i < k + 1 → c.ws[i]? = some x → d.ws[i]? = some y → eqWn x y = true) := Lib.hid (fun i x' y' hi h1 h2 => by
          by_cases hik : i < k
          · exact HA.out i x' y' hik h1 h2
          · have : i = k := by omega
            subst this
            rw [HKX.out] at h1; rw [HKY.out] at h2
            cases h1; cases h2
            exact heq)
        have t2 : eqWn ⟨x.at_, x.len, x.part⟩ ⟨y.at_, y.len, y.part⟩ = true := heq
        go_wp2_with fail
        go_region_held3 (fun W => W.cell? ⟨w.heap.size, 2, none⟩ = some (.slice (some ⟨b, off, none⟩) wn wc) ∧ W.cell? ⟨w.heap.size + 1, 2, none⟩ = some (.slice (some ⟨b2, off2, none⟩) wn xc) ∧ W.cell? ⟨b, off + k * 3, none⟩ = some (.int .i64 x.at_) ∧ W.cell? ⟨b, off + k * 3 + 1, none⟩ = some (.int .i64 x.len) ∧ W.cell? ⟨b, off + k * 3 + 2, none⟩ = some (.int .i64 x.part) ∧ W.cell? ⟨b2, off2 + k * 3, none⟩ = some (.int .i64 y.at_) ∧ W.cell? ⟨b2, off2 + k * 3 + 1, none⟩ = some (.int .i64 y.len) ∧ W.cell? ⟨b2, off2 + k * 3 + 2, none⟩ = some (.int .i64 y.part)) (go_keep) (fail)
        go_wp2_with fail
        go_roundw
        case rel => exact ⟨k + 1, by omega, by go_num, HN, HBB.out.drew⟩
        case measure => simp [intOf]; omega
      | false =>
        have hff := eqL_at eqWn _ _ k x y HKX.out HKY.out heq
        have HR : Hid (eqCf c d = false) := Lib.hid (by simp only [eqCf, hff]; simp)
        clear hff
        have t2 : eqWn ⟨x.at_, x.len, x.part⟩ ⟨y.at_, y.len, y.part⟩ = false := heq
        go_wp2_with fail
        go_region_held3 (fun W => W.cell? ⟨w.heap.size, 2, none⟩ = some (.slice (some ⟨b, off, none⟩) wn wc) ∧ W.cell? ⟨w.heap.size + 1, 2, none⟩ = some (.slice (some ⟨b2, off2, none⟩) wn xc) ∧ W.cell? ⟨b, off + k * 3, none⟩ = some (.int .i64 x.at_) ∧ W.cell? ⟨b, off + k * 3 + 1, none⟩ = some (.int .i64 x.len) ∧ W.cell? ⟨b, off + k * 3 + 2, none⟩ = some (.int .i64 x.part) ∧ W.cell? ⟨b2, off2 + k * 3, none⟩ = some (.int .i64 y.at_) ∧ W.cell? ⟨b2, off2 + k * 3 + 1, none⟩ = some (.int .i64 y.len) ∧ W.cell? ⟨b2, off2 + k * 3 + 2, none⟩ = some (.int .i64 y.part)) (go_keep) (fail)
        go_wp2_with fail
        go_ret
        exact ⟨by rw [HR.out]; rfl, HB1.out.trans (HBB.out.drew.mono HB1.out.size)⟩
    · have tk : decide ((k : Int) < (wn : Int)) = false := by simp; omega
      have HE1 := Lib.hid (eqL_all eqWn c.ws d.ws (by rw [LN1.out, LM1.out]) fun i x y h1 h2 => HA.out i x y (by have := (List.getElem?_eq_some_iff.1 h1).1; rw [LN1.out] at this; omega) h1 h2)
      clear HA
      have HBXP := Lib.hid hb
      go_wp2_with fail
      go_loopw [6] (fun i wr => ∃ k : Nat, k ≤ pn ∧ i = .int .i64 k ∧ Hid (∀ (i : Nat) (x y : Pt), i < k → c.ps[i]? = some x → d.ps[i]? = some y → eqPt x y = true) ∧ Below V.heap.size V wr) (fun i _ => pn - (intOf i).toNat)
      case atStart => exact ⟨0, by omega, rfl, Lib.hid (fun i x y h => by omega), HBXP.out⟩
      case round =>
        clear hb HBXP
        obtain ⟨k, hk, rfl, HA, hb⟩ := hrel
        have B0 : wr.cell? ⟨w.heap.size, 3, none⟩ = some (.slice pa pn pc) := (hb.cell z1).trans (cell_in S1.out rfl)
        have B1 : wr.cell? ⟨w.heap.size + 1, 3, none⟩ = some (.slice qa pn qc) := (hb.cell z2).trans (cell_in S2.out rfl)
        by_cases hlt : k < pn
        · have tk : decide ((k : Int) < (pn : Int)) = true := by simpa using hlt
          obtain ⟨x, hx⟩ : ∃ x, c.ps[k]? = some x := ⟨_, List.getElem?_eq_getElem (by rw [LN2.out]; exact hlt)⟩
          obtain ⟨y, hy⟩ : ∃ x, d.ps[k]? = some x := ⟨_, List.getElem?_eq_getElem (by rw [LM2.out]; exact hlt)⟩
          obtain ⟨u, hu⟩ : ∃ x, pvs[k]? = some x := ⟨_, List.getElem?_eq_getElem (by rw [LX.out, LN2.out]; exact hlt)⟩
          obtain ⟨v, hv⟩ : ∃ x, qvs[k]? = some x := ⟨_, List.getElem?_eq_getElem (by rw [LY.out, LM2.out]; exact hlt)⟩
          have hpu : PtLies V lo hi u x := AX.out.at hu hx
          have hpv : PtLies V lo hi v y := AY.out.at hv hy
          obtain ⟨ta, sa, da, tc, sc, dc, e1, e2, e3⟩ := PtLies.slices hpu
          obtain ⟨tb, sb, db, uc, rc, ec, d1, d2, d3⟩ := PtLies.slices hpv
          obtain ⟨_, _, q1, _, _, hc⟩ := P2.out.keep (SameIn.of_below hb hhv)
          cases q1
          obtain ⟨_, _, q2, _, _, hc2⟩ := Q2.out.keep (SameIn.of_below hb hhv)
          cases q2
          rcases hc with h0 | ⟨b, off, rfl, hb1, hb2, hc⟩
          · omega
          rcases hc2 with h0 | ⟨b2, off2, rfl, hb3, hb4, hc2⟩
          · omega
          obtain ⟨r0, r1, r2, r3, r4, r5⟩ := Lies.pv hc hu
          obtain ⟨s0, s1, s2, s3, s4, s5⟩ := Lies.pv hc2 hv
          have HKX := Lib.hid hx; have HKY := Lib.hid hy
          have l0 : (0 : Int) ≤ (k : Int) := by omega
          have l1 : (k : Int) < (pn : Int) := by omega
          obtain ⟨m1, m2, m3⟩ := B4.out x (List.mem_of_getElem? hx)
          obtain ⟨u0, u1, u2, u3, u4, u5⟩ := u
          obtain ⟨v0, v1, v2, v3, v4, v5⟩ := v
          simp only at e1 e2 e3 d1 d2 d3 r0 r1 r2 r3 r4 r5 s0 s1 s2 s3 s4 s5
          subst e1; subst e2; subst e3; subst d1; subst d2; subst d3
          have hbw : b < wr.heap.size := by have := hb.size; omega
          have hbw2 : b2 < wr.heap.size := by have := hb.size; omega
          have y1 : w.heap.size < wr.heap.size := by have := hb.size; omega
          have y2 : w.heap.size + 1 < wr.heap.size := by have := hb.size; omega
          have cp : ∀ W : World, Below wr.heap.size wr W → Calls Try.prog 33 #[.agg #[.slice ta x.ts.length tc, .slice sa x.ss.length sc, .slice da x.ds.length dc, .int .u8 u3, .int .u8 u4, .int .u8 u5], .agg #[.slice tb y.ts.length uc, .slice sb y.ss.length rc, .slice db y.ds.length ec, .int .u8 v3, .int .u8 v4, .int .u8 v5]] W fun e w' => e = .returned (.bool (eqPt x y)) ∧ Below W.heap.size W w' := fun W h =>
            have hV := hb.trans (h.mono hb.size)
            refSamePart_any _ _ _ _ _ _ _ _ _ _ _ _ _ _ _ _ _ _ _ _ _ _ _ _ W lo hi x y (hpu.keep (SameIn.of_below hV hhv)) (hpv.keep (SameIn.of_below hV hhv)) (Nat.le_trans hhv hV.size) m1 m2 m3
          have ks : ∀ W : World, Below wr.heap.size wr W → (Below wr.heap.size wr W ∧ W.cell? ⟨w.heap.size, 3, none⟩ = some (.slice (some ⟨b, off, none⟩) pn pc) ∧ W.cell? ⟨w.heap.size + 1, 3, none⟩ = some (.slice (some ⟨b2, off2, none⟩) pn qc) ∧ W.cell? ⟨b, off + k * 6, none⟩ = some (.slice ta x.ts.length tc) ∧ W.cell? ⟨b, off + k * 6 + 1, none⟩ = some (.slice sa x.ss.length sc) ∧ W.cell? ⟨b, off + k * 6 + 2, none⟩ = some (.slice da x.ds.length dc) ∧ W.cell? ⟨b, off + k * 6 + 3, none⟩ = some (.int .u8 u3) ∧ W.cell? ⟨b, off + k * 6 + 4, none⟩ = some (.int .u8 u4) ∧ W.cell? ⟨b, off + k * 6 + 5, none⟩ = some (.int .u8 u5) ∧ W.cell? ⟨b2, off2 + k * 6, none⟩ = some (.slice tb y.ts.length uc) ∧ W.cell? ⟨b2, off2 + k * 6 + 1, none⟩ = some (.slice sb y.ss.length rc) ∧ W.cell? ⟨b2, off2 + k * 6 + 2, none⟩ = some (.slice db y.ds.length ec) ∧ W.cell? ⟨b2, off2 + k * 6 + 3, none⟩ = some (.int .u8 v3) ∧ W.cell? ⟨b2, off2 + k * 6 + 4, none⟩ = some (.int .u8 v4) ∧ W.cell? ⟨b2, off2 + k * 6 + 5, none⟩ = some (.int .u8 v5)) := fun W h =>
            ⟨h, (h.cell y1).trans B0, (h.cell y2).trans B1, (h.cell hbw).trans r0, (h.cell hbw).trans r1, (h.cell hbw).trans r2, (h.cell hbw).trans r3, (h.cell hbw).trans r4, (h.cell hbw).trans r5, (h.cell hbw2).trans s0, (h.cell hbw2).trans s1, (h.cell hbw2).trans s2, (h.cell hbw2).trans s3, (h.cell hbw2).trans s4, (h.cell hbw2).trans s5⟩
          have CP := Lib.hid cp; have HBB := Lib.hid hb; have KS := Lib.hid ks
          clear hc hc2 hx hy hu hv cp hpu hpv hb ks
          cases heq : eqPt x y with
          | true =>
            have HE := Lib.hid heq
            have HN : Hid (∀ (i : Nat) (x y : Pt), i < k + 1 → c.ps[i]? = some x → d.ps[i]? = some y → eqPt x y = true) := Lib.hid (fun i x' y' hi h1 h2 => by
              by_cases hik : i < k
              · exact HA.out i x' y' hik h1 h2
              · have : i = k := by omega
                subst this
                rw [HKX.out] at h1; rw [HKY.out] at h2
                cases h1; cases h2
                exact heq)
            clear heq
            go_wp2_with fail
            go_region_held3 (fun W => Below wr.heap.size wr W ∧ W.cell? ⟨w.heap.size, 3, none⟩ = some (.slice (some ⟨b, off, none⟩) pn pc) ∧ W.cell? ⟨w.heap.size + 1, 3, none⟩ = some (.slice (some ⟨b2, off2, none⟩) pn qc) ∧ W.cell? ⟨b, off + k * 6, none⟩ = some (.slice ta x.ts.length tc) ∧ W.cell? ⟨b, off + k * 6 + 1, none⟩ = some (.slice sa x.ss.length sc) ∧ W.cell? ⟨b, off + k * 6 + 2, none⟩ = some (.slice da x.ds.length dc) ∧ W.cell? ⟨b, off + k * 6 + 3, none⟩ = some (.int .u8 u3) ∧ W.cell? ⟨b, off + k * 6 + 4, none⟩ = some (.int .u8 u4) ∧ W.cell? ⟨b, off + k * 6 + 5, none⟩ = some (.int .u8 u5) ∧ W.cell? ⟨b2, off2 + k * 6, none⟩ = some (.slice tb y.ts.length uc) ∧ W.cell? ⟨b2, off2 + k * 6 + 1, none⟩ = some (.slice sb y.ss.length rc) ∧ W.cell? ⟨b2, off2 + k * 6 + 2, none⟩ = some (.slice db y.ds.length ec) ∧ W.cell? ⟨b2, off2 + k * 6 + 3, none⟩ = some (.int .u8 v3) ∧ W.cell? ⟨b2, off2 + k * 6 + 4, none⟩ = some (.int .u8 v4) ∧ W.cell? ⟨b2, off2 + k * 6 + 5, none⟩ = some (.int .u8 v5))
              (first | exact KS.out _ ((Below.refl _ _).drew) | exact KS.out _ (by assumption))
              (first | (go_at_call 33; refine (CP.out _ (by go_split_ands; assumption)).mono ?_; rintro e w2 ⟨rfl, hb5⟩; rw [HE.out]; have hbn : Below wr.heap.size wr w2 := (by go_split_ands; exact bel_go3 (by assumption) hb5)))
            go_wp2_with fail
            go_roundw
            case rel => exact ⟨k + 1, by omega, by go_num, HN, HBB.out.trans (hbn.mono HBB.out.size)⟩
            case measure => simp [intOf]; omega
          | false =>
            have HE := Lib.hid heq
            have hff := eqL_at eqPt _ _ k x y HKX.out HKY.out heq
            have HR : Hid (eqCf c d = false) := Lib.hid (by simp only [eqCf, hff]; simp)
            clear hff heq
            go_wp2_with fail
            go_region_held3 (fun W => Below wr.heap.size wr W ∧ W.cell? ⟨w.heap.size, 3, none⟩ = some (.slice (some ⟨b, off, none⟩) pn pc) ∧ W.cell? ⟨w.heap.size + 1, 3, none⟩ = some (.slice (some ⟨b2, off2, none⟩) pn qc) ∧ W.cell? ⟨b, off + k * 6, none⟩ = some (.slice ta x.ts.length tc) ∧ W.cell? ⟨b, off + k * 6 + 1, none⟩ = some (.slice sa x.ss.length sc) ∧ W.cell? ⟨b, off + k * 6 + 2, none⟩ = some (.slice da x.ds.length dc) ∧ W.cell? ⟨b, off + k * 6 + 3, none⟩ = some (.int .u8 u3) ∧ W.cell? ⟨b, off + k * 6 + 4, none⟩ = some (.int .u8 u4) ∧ W.cell? ⟨b, off + k * 6 + 5, none⟩ = some (.int .u8 u5) ∧ W.cell? ⟨b2, off2 + k * 6, none⟩ = some (.slice tb y.ts.length uc) ∧ W.cell? ⟨b2, off2 + k * 6 + 1, none⟩ = some (.slice sb y.ss.length rc) ∧ W.cell? ⟨b2, off2 + k * 6 + 2, none⟩ = some (.slice db y.ds.length ec) ∧ W.cell? ⟨b2, off2 + k * 6 + 3, none⟩ = some (.int .u8 v3) ∧ W.cell? ⟨b2, off2 + k * 6 + 4, none⟩ = some (.int .u8 v4) ∧ W.cell? ⟨b2, off2 + k * 6 + 5, none⟩ = some (.int .u8 v5))
              (first | exact KS.out _ ((Below.refl _ _).drew) | exact KS.out _ (by assumption))
              (first | (go_at_call 33; refine (CP.out _ (by go_split_ands; assumption)).mono ?_; rintro e w2 ⟨rfl, hb5⟩; rw [HE.out]; have hbn : Below wr.heap.size wr w2 := (by go_split_ands; exact bel_go3 (by assumption) hb5)))
            go_wp2_with fail
            go_ret
            exact ⟨by rw [HR.out]; rfl, HB1.out.trans ((HBB.out.trans (hbn.mono HBB.out.size)).mono HB1.out.size)⟩
        · have tk : decide ((k : Int) < (pn : Int)) = false := by simp; omega
          have HE2 := Lib.hid (eqL_all eqPt c.ps d.ps (by rw [LN2.out, LM2.out]) fun i x y h1 h2 => HA.out i x y (by have := (List.getElem?_eq_some_iff.1 h1).1; rw [LN2.out] at this; omega) h1 h2)
          clear HA
          have HBXHE3 := Lib.hid hb
          go_wp2_with fail
          go_loopw [7] (fun i wr => ∃ k : Nat, k ≤ cn ∧ i = .int .i64 k ∧ Hid (∀ (i : Nat) (x y : Ch), i < k → c.cs[i]? = some x → d.cs[i]? = some y → eqCh x y = true) ∧ Below V.heap.size V wr) (fun i _ => cn - (intOf i).toNat)
          case atStart => exact ⟨0, by omega, rfl, Lib.hid (fun i x y h => by omega), HBXHE3.out⟩
          case round =>
            clear hb HBXHE3
            obtain ⟨k, hk, rfl, HA, hb⟩ := hrel
            have B0 : wr.cell? ⟨w.heap.size, 4, none⟩ = some (.slice ca cn cc) := (hb.cell z1).trans (cell_in S1.out rfl)
            have B1 : wr.cell? ⟨w.heap.size + 1, 4, none⟩ = some (.slice ya cn yc) := (hb.cell z2).trans (cell_in S2.out rfl)
            by_cases hlt : k < cn
            · have tk : decide ((k : Int) < (cn : Int)) = true := by simpa using hlt
              obtain ⟨x, hx⟩ : ∃ x, c.cs[k]? = some x := ⟨_, List.getElem?_eq_getElem (by rw [LN3.out]; exact hlt)⟩
              obtain ⟨y, hy⟩ : ∃ x, d.cs[k]? = some x := ⟨_, List.getElem?_eq_getElem (by rw [LM3.out]; exact hlt)⟩
              obtain ⟨_, _, e1, _, _, hc⟩ := P3.out.keep (SameIn.of_below hb hhv)
              cases e1
              obtain ⟨_, _, e2, _, _, hc2⟩ := Q3.out.keep (SameIn.of_below hb hhv)
              cases e2
              rcases hc with h0 | ⟨b, off, rfl, hb1, hb2, hc⟩
              · omega
              rcases hc2 with h0 | ⟨b2, off2, rfl, hb3, hb4, hc2⟩
              · omega
              have cx := Lies.ch hc hx
              have cy := Lies.ch hc2 hy
              have HKX := Lib.hid hx; have HKY := Lib.hid hy
              have l0 : (0 : Int) ≤ (k : Int) := by omega
              have l1 : (k : Int) < (cn : Int) := by omega
              have hE := eqInCh_parcloseref03 x.queue x.from_ x.to x.size y.queue y.from_ y.to y.size
              have hM : Try.prog.eqGuardType Try.prog.depth 80 = false := by kernel_rfl
              have ks : wr.cell? ⟨b, off + k * 4, none⟩ = some (.bool x.queue) ∧ wr.cell? ⟨b, off + k * 4 + 1, none⟩ = some (.int .i64 x.from_) ∧ wr.cell? ⟨b, off + k * 4 + 2, none⟩ = some (.int .i64 x.to) ∧ wr.cell? ⟨b, off + k * 4 + 3, none⟩ = some (.int .i64 x.size) ∧ wr.cell? ⟨b2, off2 + k * 4, none⟩ = some (.bool y.queue) ∧ wr.cell? ⟨b2, off2 + k * 4 + 1, none⟩ = some (.int .i64 y.from_) ∧ wr.cell? ⟨b2, off2 + k * 4 + 2, none⟩ = some (.int .i64 y.to) ∧ wr.cell? ⟨b2, off2 + k * 4 + 3, none⟩ = some (.int .i64 y.size) := ⟨cx.1, cx.2.1, cx.2.2.1, cx.2.2.2, cy.1, cy.2.1, cy.2.2.1, cy.2.2.2⟩
              have HBB := Lib.hid hb
              clear hc hc2 hx hy cx cy hb
              obtain ⟨g0, g1, g2, g3, g4, g5, g6, g7⟩ := ks
              cases heq : eqCh x y with
              | true =>
                have HN : Hid (∀ (i : Nat) (x y : Ch), i < k + 1 → c.cs[i]? = some x → d.cs[i]? = some y → eqCh x y = true) := Lib.hid (fun i x' y' hi h1 h2 => by
                  by_cases hik : i < k
                  · exact HA.out i x' y' hik h1 h2
                  · have : i = k := by omega
                    subst this
                    rw [HKX.out] at h1; rw [HKY.out] at h2
                    cases h1; cases h2
                    exact heq)
                have t2 : eqCh ⟨x.queue, x.from_, x.to, x.size⟩ ⟨y.queue, y.from_, y.to, y.size⟩ = true := heq
                go_wp2_with fail
                go_region_held3 (fun W => W.cell? ⟨w.heap.size, 4, none⟩ = some (.slice (some ⟨b, off, none⟩) cn cc) ∧ W.cell? ⟨w.heap.size + 1, 4, none⟩ = some (.slice (some ⟨b2, off2, none⟩) cn yc) ∧ W.cell? ⟨b, off + k * 4, none⟩ = some (.bool x.queue) ∧ W.cell? ⟨b, off + k * 4 + 1, none⟩ = some (.int .i64 x.from_) ∧ W.cell? ⟨b, off + k * 4 + 2, none⟩ = some (.int .i64 x.to) ∧ W.cell? ⟨b, off + k * 4 + 3, none⟩ = some (.int .i64 x.size) ∧ W.cell? ⟨b2, off2 + k * 4, none⟩ = some (.bool y.queue) ∧ W.cell? ⟨b2, off2 + k * 4 + 1, none⟩ = some (.int .i64 y.from_) ∧ W.cell? ⟨b2, off2 + k * 4 + 2, none⟩ = some (.int .i64 y.to) ∧ W.cell? ⟨b2, off2 + k * 4 + 3, none⟩ = some (.int .i64 y.size)) (go_keep) (fail)
                go_wp2_with fail
                go_roundw
                case rel => exact ⟨k + 1, by omega, by go_num, HN, HBB.out.drew⟩
                case measure => simp [intOf]; omega
              | false =>
                have hff := eqL_at eqCh _ _ k x y HKX.out HKY.out heq
                have HR : Hid (eqCf c d = false) := Lib.hid (by simp only [eqCf, hff]; simp)
                clear hff
                have t2 : eqCh ⟨x.queue, x.from_, x.to, x.size⟩ ⟨y.queue, y.from_, y.to, y.size⟩ = false := heq
                go_wp2_with fail
                go_region_held3 (fun W => W.cell? ⟨w.heap.size, 4, none⟩ = some (.slice (some ⟨b, off, none⟩) cn cc) ∧ W.cell? ⟨w.heap.size + 1, 4, none⟩ = some (.slice (some ⟨b2, off2, none⟩) cn yc) ∧ W.cell? ⟨b, off + k * 4, none⟩ = some (.bool x.queue) ∧ W.cell? ⟨b, off + k * 4 + 1, none⟩ = some (.int .i64 x.from_) ∧ W.cell? ⟨b, off + k * 4 + 2, none⟩ = some (.int .i64 x.to) ∧ W.cell? ⟨b, off + k * 4 + 3, none⟩ = some (.int .i64 x.size) ∧ W.cell? ⟨b2, off2 + k * 4, none⟩ = some (.bool y.queue) ∧ W.cell? ⟨b2, off2 + k * 4 + 1, none⟩ = some (.int .i64 y.from_) ∧ W.cell? ⟨b2, off2 + k * 4 + 2, none⟩ = some (.int .i64 y.to) ∧ W.cell? ⟨b2, off2 + k * 4 + 3, none⟩ = some (.int .i64 y.size)) (go_keep) (fail)
                go_wp2_with fail
                go_ret
                exact ⟨by rw [HR.out]; rfl, HB1.out.trans (HBB.out.drew.mono HB1.out.size)⟩
            · have tk : decide ((k : Int) < (cn : Int)) = false := by simp; omega
              have HE3 := Lib.hid (eqL_all eqCh c.cs d.cs (by rw [LN3.out, LM3.out]) fun i x y h1 h2 => HA.out i x y (by have := (List.getElem?_eq_some_iff.1 h1).1; rw [LN3.out] at this; omega) h1 h2)
              clear HA
              have HR : Hid (eqCf c d = true) := Lib.hid (by simp only [eqCf, HE1.out, HE2.out, HE3.out, FR.out, MG.out]; simp)
              go_wp2_with fail
              go_ret
              exact ⟨by rw [HR.out]; rfl, HB1.out.trans (hb.mono HB1.out.size)⟩
end Go.Proofs.Ytiombjkjoehjpaa
