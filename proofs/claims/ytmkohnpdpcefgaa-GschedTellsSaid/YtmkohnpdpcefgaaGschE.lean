/- Who gets a tick: the document's At. -/
import Derived.Test.YtmkohnpdpcefgaaGschD
import Derived.Test.YtmkohnpdpcefgaaGschS
namespace Go.Proofs.Ytmkohnpdpcefgaa
open Go.ChangeShapes Go.WideShapes Go.ChangeAt Go.RowKit
set_option linter.unusedVariables false

theorem Try.sizeChoR : (Try.prog.info? 53).map (·.size) = some 3 := by kernel_rfl
set_option maxRecDepth 100000 in
set_option maxHeartbeats 4000000 in
theorem dat_any {w : World} {r F : Nat} {c : Cf} (h : RcAt w r F c) (hok : (checkV c).1 = 0) (tick : Int) (t0 : -9223372036854775808 ≤ tick) (t1 : tick ≤ 9223372036854775807)
    (ra : Option Addr) (rn rc hi : Nat) (rs : List Bool) (hn : rs.length = rn) (hl : Lies w 0 hi (.slice ra rn rc) rn 1 (rs.flatMap boolCells)) (hh : hi ≤ w.heap.size) :
    Calls Try.prog 15 #[.pointer (some ⟨r, 0, none⟩), .int .i64 tick, .slice ra rn rc] w fun e w' => e = .returned (choA (choV F c rs tick)) ∧ Below w.heap.size w w' := by
  obtain ⟨hs, pvs, wa, pa, ca, wc, pc, cc, t, la, lc, h0, hR, hsys, htab⟩ := h
  obtain ⟨V, hV⟩ : ∃ V, V = w.alloc (.cells #[.int .i64 0, .int .i64 0, .int .i64 0] 53) := ⟨_, rfl⟩
  obtain ⟨E, hE⟩ : ∃ E, E = w.heap.size := ⟨_, rfl⟩
  have hbV : Below w.heap.size w V := by rw [hV]; exact below1 _ _
  have hEV : V.heap[E]? = some (.cells #[.int .i64 0, .int .i64 0, .int .i64 0] 53 (0, 0)) := by rw [hV, hE]; exact heap_alloc_new _ _
  have KX : Hid (∀ W : World, Below V.heap.size V W → W.heap[E]? = some (.cells #[.int .i64 0, .int .i64 0, .int .i64 0] 53 (0, 0)) ∧ W.cell? ⟨r, 5, none⟩ = some (.pointer (some ⟨t, 0, none⟩)) ∧ W.cell? ⟨r, 3, none⟩ = some (.slice pa c.ps.length pc)) := Lib.hid (fun W hW => by
    have a2 := (hW.block E (lt_of_block hEV)).trans hEV
    have hw : Below w.heap.size w W := hbV.trans (hW.mono hbV.size)
    exact ⟨a2, (hw.cell (p := ⟨r, 5, none⟩) (lt_of_block hR)).trans (cell_in (j := 5) hR rfl), (hw.cell (p := ⟨r, 3, none⟩) (lt_of_block hR)).trans (cell_in (j := 3) hR rfl)⟩)
  have CO := Lib.hid (fun (W : World) (hb : Below w.heap.size w W) => rOwner_any (htab.keep hb (Nat.le_refl _)) hb.size tick t0 t1)
  have KR : Hid (∀ (j : Nat) (W : World), j < rn → Below w.heap.size w W → ∃ b off, ra = some ⟨b, off, none⟩ ∧ W.cell? ⟨b, off + j, none⟩ = some (.bool (rdyV rs (j : Int)))) := Lib.hid (fun j W hj hW => by
    obtain ⟨b, off, e, _, hc⟩ := rdy_cell hn (hl.keep (SameIn.of_below hW hh)) hj
    exact ⟨b, off, e, hc⟩)
  have HN := Lib.hid hn
  have HV := Lib.hid hV
  have HE := Lib.hid hE
  have HBV := Lib.hid hbV
  obtain ⟨_, k1, _⟩ := KX.out V (Below.refl _ _)
  rcases owner_ok hok F tick with ho | ⟨k, hk, ho | ho⟩
  · have HO := Lib.hid ho
    clear ho hV hE hEV hbV hsys htab hl hn hR
    go_enter Try.func15, Try.ntmps15
    go_upto_region 1 with fail
    rw [← HV.out, ← HE.out]
    go_wp2_with (first
      | (go_at_call 30; refine (CO.out _ HBV.out).mono ?_; rintro e w2 ⟨rfl, hb2⟩; rw [HO.out]; have j1 := (KX.out w2 hb2).1; have y0 := free_in j1 0; have y1 := free_in j1 1; have y2 := free_in j1 2; have z0 := cell_in j1 (j := 0) rfl; have z1 := cell_in j1 (j := 1) rfl; have z2 := cell_in j1 (j := 2) rfl; have K1 := Lib.hid j1; have HB2 := Lib.hid hb2; clear j1 hb2))
    have hX := set3g K1.out rfl (.int .i64 4) (.int .i64 (-1)) (.int .i64 (-1))
    refine bodyPost_ret (results_cell_row (P := Try.prog) rfl _ _ E _ _ (0, 0) _ rfl hX Try.underlying53 rfl Try.sizeChoR) rfl ?_
    exact ⟨cho_ret (choV_gap HO.out), set3_below (HBV.out.trans (HB2.out.mono HBV.out.size)) (by rw [HE.out]; exact Nat.le_refl _) _ _ _⟩
  · have HO := Lib.hid ho
    clear ho hV hE hEV hbV hsys htab hl hn hR
    go_enter Try.func15, Try.ntmps15
    go_upto_region 1 with fail
    rw [← HV.out, ← HE.out]
    go_wp2_with (first
      | (go_at_call 30; refine (CO.out _ HBV.out).mono ?_; rintro e w2 ⟨rfl, hb2⟩; rw [HO.out]; have j1 := (KX.out w2 hb2).1; have y0 := free_in j1 0; have y1 := free_in j1 1; have y2 := free_in j1 2; have z0 := cell_in j1 (j := 0) rfl; have z1 := cell_in j1 (j := 1) rfl; have z2 := cell_in j1 (j := 2) rfl; have K1 := Lib.hid j1; have HB2 := Lib.hid hb2; clear j1 hb2))
    have hX := set3g K1.out rfl (.int .i64 3) (.int .i64 k) (.int .i64 (-1))
    refine bodyPost_ret (results_cell_row (P := Try.prog) rfl _ _ E _ _ (0, 0) _ rfl hX Try.underlying53 rfl Try.sizeChoR) rfl ?_
    exact ⟨cho_ret (choV_margin HO.out), set3_below (HBV.out.trans (HB2.out.mono HBV.out.size)) (by rw [HE.out]; exact Nat.le_refl _) _ _ _⟩
  · have HO := Lib.hid ho
    have hlen := hsys.l3.length
    obtain ⟨x, hx⟩ : ∃ x, c.ps[k]? = some x := ⟨_, List.getElem?_eq_getElem hk⟩
    obtain ⟨pv, hpv⟩ : ∃ x, pvs[k]? = some x := ⟨_, List.getElem?_eq_getElem (by rw [hlen]; exact hk)⟩
    have hpl := hsys.l3.at hpv hx
    obtain ⟨ta, sa, da, tc, sc, dc, e1, e2, e3⟩ := hpl.slices
    obtain ⟨a2, c2, ee, _, _, hc⟩ := id hsys.l2
    cases ee
    rcases hc with hz | ⟨b, off, rfl, hb1, hb2, hc⟩
    · omega
    obtain ⟨s0, s1, s2, s3, s4, s5⟩ := Lies.pv hc hpv
    rw [e3] at s2
    obtain ⟨xs, hxs⟩ : ∃ xs, xs = x.ds := ⟨_, rfl⟩
    obtain ⟨n, hnn⟩ : ∃ n, n = x.ds.length := ⟨_, rfl⟩
    have hvl := hpl.2.2.1
    rw [e3, ← hxs] at hvl
    rw [← hnn] at s2
    have hnx : xs.length = n := by rw [hxs, hnn]
    rw [hnx] at hvl
    have hdon : donV c.ps (k : Int) = xs := by rw [hxs]; exact donV_at hx
    have hnat := don_nat hok hk
    rw [hdon, hnx] at hnat
    have hxl := hnat.1
    have KY : Hid (∀ W : World, Below V.heap.size V W → W.cell? ⟨b, off + k * 6 + 2, none⟩ = some (.slice da n dc)) := Lib.hid (fun W hW => ((hbV.trans (hW.mono hbV.size)).cell (p := ⟨b, off + k * 6 + 2, none⟩) (by show b < _; omega)).trans s2)
    have KD : Hid (∀ (j : Nat) (W : World), j < n → Below w.heap.size w W → ∃ (b off m : Nat), da = some ⟨b, off, none⟩ ∧ xs[j]? = some (m : Int) ∧ W.cell? ⟨b, off + j, none⟩ = some (.int .i64 m)) := Lib.hid (fun j W hj hW => by
      obtain ⟨a3, c3, ee, _, _, hc3⟩ := hvl.keep (SameIn.of_below hW h0)
      cases ee
      rcases hc3 with hz | ⟨b3, off3, rfl, _, _, hc3⟩
      · omega
      have hj2 : xs[j]? = some (xs[j]'(by omega)) := List.getElem?_eq_getElem (by omega)
      have e := flat_at intCells 1 (fun _ => rfl) xs j 0 _ hj2 (by omega)
      simp only [Nat.mul_one, Nat.add_zero] at e
      have h5 := hnat.2 _ (List.mem_of_getElem? hj2)
      refine ⟨b3, off3, (xs[j]'(by omega)).toNat, rfl, by rw [hj2]; congr 1; omega, ?_⟩
      rw [show (((xs[j]'(by omega)).toNat : Nat) : Int) = xs[j]'(by omega) by omega]
      exact hc3 j _ (by rw [e]; rfl))
    have HNX := Lib.hid hnx
    have HDON := Lib.hid hdon
    obtain ⟨pn, hpn⟩ : ∃ pn, pn = c.ps.length := ⟨_, rfl⟩
    rw [← hpn] at KX hk
    have l0 : (0 : Int) ≤ (k : Int) := by omega
    have l1 : (k : Int) < (pn : Int) := by omega
    clear ho hV hE hEV hbV hsys htab hl hn hR hlen hx hpv hpl e1 e2 e3 hc s0 s1 s2 s3 s4 s5 hxs hnn hvl hnx hdon hnat hpn
    go_enter Try.func15, Try.ntmps15
    go_upto_region 1 with fail
    rw [← HV.out, ← HE.out]
    go_upto_region 6 with (first
      | (go_at_call 30; refine (CO.out _ HBV.out).mono ?_; rintro e w2 ⟨rfl, hb2⟩; rw [HO.out]; have HB2 := Lib.hid hb2; have HBW := Lib.hid (HBV.out.trans (hb2.mono HBV.out.size)); clear hb2))
    cases hr : rdyV rs (k : Int) with
    | true =>
      have hkr : k < rn := by
        rcases Nat.lt_or_ge k rn with h | h
        · exact h
        · have := rdyV_out (rs := rs) (p := (k : Int)) (by rw [HN.out]; omega)
          rw [this] at hr; cases hr
      obtain ⟨br, orr, ea, cr⟩ := KR.out k w2 hkr HBW.out
      subst ea
      rw [hr] at cr
      have HR := Lib.hid hr; clear hr
      have d0 : decide ((k : Int) < (rn : Int)) = true := decide_eq_true (by omega)
      have l2 : (k : Int) < (rn : Int) := by omega
      have j1 := (KX.out w2 HB2.out).1
      have y0 := free_in j1 0
      have y1 := free_in j1 1
      have y2 := free_in j1 2
      have z0 := cell_in j1 (j := 0) rfl
      have z1 := cell_in j1 (j := 1) rfl
      have z2 := cell_in j1 (j := 2) rfl
      have K1 := Lib.hid j1
      clear j1
      go_wp2_with fail
      have hX := set3g K1.out rfl (.int .i64 0) (.int .i64 k) (.int .i64 k)
      refine bodyPost_ret (results_cell_row (P := Try.prog) rfl _ _ E _ _ (0, 0) _ rfl hX Try.underlying53 rfl Try.sizeChoR) rfl ?_
      exact ⟨cho_ret ((choV_open HO.out).trans (openV_own HR.out)), set3_below HBW.out (by rw [HE.out]; exact Nat.le_refl _) _ _ _⟩
    | false =>
      obtain ⟨_, m5, m3⟩ := KX.out w2 HB2.out
      have m2 := KY.out w2 HB2.out
      have HR := Lib.hid hr
      have hcase : (decide ((k : Int) < (rn : Int)) = false ∧ decide (k < rn) = false) ∨ ((decide ((k : Int) < (rn : Int)) = true ∧ decide (k < rn) = true) ∧ (k : Int) < (rn : Int) ∧ ∃ br orr, ra = some ⟨br, orr, none⟩ ∧ w2.cell? ⟨br, orr + k, none⟩ = some (.bool false)) := by
        rcases Nat.lt_or_ge k rn with h | h
        · obtain ⟨br, orr, ea, cr⟩ := KR.out k w2 h HBW.out
          rw [hr] at cr
          exact .inr ⟨⟨decide_eq_true (by omega), decide_eq_true h⟩, by omega, br, orr, ea, cr⟩
        · exact .inl ⟨decide_eq_false (by omega), decide_eq_false (by omega)⟩
      clear hr
      rcases hcase with ⟨d0, d0n⟩ | ⟨⟨d0, d0n⟩, l2, br, orr, ea, cr⟩
      all_goals
        (try cases ea
         go_wp2_with fail
         go_loopw [10] (fun s wr => ∃ j : Nat, j ≤ n ∧ s = .int .i64 j ∧ Hid (∀ (i : Nat) (q : Int), i < j → xs[i]? = some q → rdyV rs q = false) ∧ Hid (Below V.heap.size V wr)) (fun s _ => n - (intOf s).toNat)
         case atStart => exact ⟨0, Nat.zero_le _, rfl, Lib.hid (fun i q hi => by omega), HB2⟩
         case round =>
           try clear cr
           clear m5 m3 m2 d0 d0n HB2 HBW
           obtain ⟨j, hj, rfl, HA, HB⟩ := hrel
           by_cases hlt : j < n
           · have t0 : decide ((j : Int) < (n : Int)) = true := decide_eq_true (by omega)
             have j0 : (0 : Int) ≤ (j : Int) := by omega
             have j1 : (j : Int) < (n : Int) := by omega
             have HW := Lib.hid (HBV.out.trans (HB.out.mono HBV.out.size))
             obtain ⟨bd, od, m, ed, hm, cm⟩ := KD.out j wr hlt HW.out
             subst ed
             have HM := Lib.hid hm; clear hm
             cases hr2 : rdyV rs (m : Int) with
             | true =>
               have hmr : m < rn := by
                 rcases Nat.lt_or_ge m rn with h | h
                 · exact h
                 · have := rdyV_out (rs := rs) (p := (m : Int)) (by rw [HN.out]; omega)
                   rw [this] at hr2; cases hr2
               obtain ⟨bq, oq, eq, cq⟩ := KR.out m wr hmr HW.out
               cases eq
               rw [hr2] at cq
               have HR2 := Lib.hid hr2; clear hr2
               have d1 : decide ((m : Int) < (rn : Int)) = true := decide_eq_true (by omega)
               have l3 : (m : Int) < (rn : Int) := by omega
               have l4 : (0 : Int) ≤ (m : Int) := by omega
               have k1 := (KX.out wr HB.out).1
               have y0 := free_in k1 0
               have y1 := free_in k1 1
               have y2 := free_in k1 2
               have z0 := cell_in k1 (j := 0) rfl
               have z1 := cell_in k1 (j := 1) rfl
               have z2 := cell_in k1 (j := 2) rfl
               have K1 := Lib.hid k1
               clear k1
               go_wp2_with fail
               have hX := set3g K1.out rfl (.int .i64 1) (.int .i64 k) (.int .i64 m)
               refine bodyPost_ret (results_cell_row (P := Try.prog) rfl _ _ E _ _ (0, 0) _ rfl hX Try.underlying53 rfl Try.sizeChoR) rfl ?_
               exact ⟨cho_ret ((choV_open HO.out).trans (by rw [HDON.out]; exact openV_given HR.out HM.out HR2.out HA.out)), set3_below HW.out (by rw [HE.out]; exact Nat.le_refl _) _ _ _⟩
             | false =>
               have hcase2 : (decide ((m : Int) < (rn : Int)) = false ∧ decide (m < rn) = false) ∨ ((decide ((m : Int) < (rn : Int)) = true ∧ decide (m < rn) = true) ∧ (m : Int) < (rn : Int) ∧ m < rn) := by
                 rcases Nat.lt_or_ge m rn with h | h
                 · exact .inr ⟨⟨decide_eq_true (by omega), decide_eq_true h⟩, by omega, h⟩
                 · exact .inl ⟨decide_eq_false (by omega), decide_eq_false (by omega)⟩
               have l4 : (0 : Int) ≤ (m : Int) := by omega
               have HR2 := Lib.hid hr2; clear hr2
               rcases hcase2 with ⟨d1, d1n⟩ | ⟨⟨d1, d1n⟩, l3, hmr⟩
               · go_wp2_with fail
                 go_roundw
                 case rel => exact ⟨j + 1, by omega, by go_num, Lib.hid (fun i q hi hq => by
                   rcases Nat.lt_or_ge i j with h | h
                   · exact HA.out i q h hq
                   · have : i = j := by omega
                     subst this; rw [HM.out] at hq; cases hq; exact HR2.out), HB⟩
                 case measure => simp [intOf]; omega
               · obtain ⟨bq, oq, eq, cq⟩ := KR.out m wr hmr HW.out
                 cases eq
                 rw [HR2.out] at cq
                 go_wp2_with fail
                 go_roundw
                 case rel => exact ⟨j + 1, by omega, by go_num, Lib.hid (fun i q hi hq => by
                   rcases Nat.lt_or_ge i j with h | h
                   · exact HA.out i q h hq
                   · have : i = j := by omega
                     subst this; rw [HM.out] at hq; cases hq; exact HR2.out), HB⟩
                 case measure => simp [intOf]; omega
           · have t0 : decide ((j : Int) < (n : Int)) = false := decide_eq_false (by omega)
             have k1 := (KX.out wr HB.out).1
             have y0 := free_in k1 0
             have y1 := free_in k1 1
             have y2 := free_in k1 2
             have z0 := cell_in k1 (j := 0) rfl
             have z1 := cell_in k1 (j := 1) rfl
             have z2 := cell_in k1 (j := 2) rfl
             have K1 := Lib.hid k1
             clear k1
             go_wp2_with fail
             have hX := set3g K1.out rfl (.int .i64 2) (.int .i64 k) (.int .i64 (-1))
             refine bodyPost_ret (results_cell_row (P := Try.prog) rfl _ _ E _ _ (0, 0) _ rfl hX Try.underlying53 rfl Try.sizeChoR) rfl ?_
             exact ⟨cho_ret ((choV_open HO.out).trans (by rw [HDON.out]; exact openV_lost HR.out (fun i q hq => HA.out i q (by have := (List.getElem?_eq_some_iff.1 hq).1; have := HNX.out; omega) hq))), set3_below (HBV.out.trans (HB.out.mono HBV.out.size)) (by rw [HE.out]; exact Nat.le_refl _) _ _ _⟩)
end Go.Proofs.Ytmkohnpdpcefgaa
