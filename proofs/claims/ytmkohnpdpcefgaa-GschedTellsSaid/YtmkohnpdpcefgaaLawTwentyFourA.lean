/- Who gets any tick, as the document says. -/
import Derived.Test.YtmkohnpdpcefgaaGschE
import Derived.Test.YtmkohnpdpcefgaaGschL
namespace Go.Proofs.Ytmkohnpdpcefgaa
open Go.ChangeShapes Go.WideShapes Go.ChangeAt Go.RowKit
set_option linter.unusedVariables false

theorem RcAt.next {w : World} {r F : Nat} {c : Cf} (h : RcAt w r F c) : ∃ t, ∀ W : World, Below w.heap.size w W → W.cell? ⟨r, 5, none⟩ = some (.pointer (some ⟨t, 0, none⟩)) ∧ ∀ p tick : Int, I64 tick → Calls Try.prog 13 #[.pointer (some ⟨t, 0, none⟩), .int .i64 p, .int .i64 tick] W fun e w' => e = .returned (.tuple #[.int .i64 (nextT F c.margin c.ws p tick).1, .bool (nextT F c.margin c.ws p tick).2]) ∧ Below W.heap.size W w' := by
  obtain ⟨hs, pvs, wa, pa, ca, wc, pc, cc, t, la, lc, h0, hR, hsys, htab⟩ := h
  exact ⟨t, fun W hW => ⟨(hW.cell (p := ⟨r, 5, none⟩) (lt_of_block hR)).trans (cell_in (j := 5) hR rfl), fun p tick ht => rNext_any (htab.keep hW (Nat.le_refl _)) hW.size p tick ht.1 ht.2⟩⟩
set_option maxRecDepth 100000 in
set_option maxHeartbeats 8000000 in
theorem GschedTells_body (wa pa ca : Option Addr) (wc pc cc : Nat) (tick : Int) (ra : Option Addr) (rn rc : Nat) (p : Int) (w : World) (c : Cf) (pvs : List Pv) (rs : List Bool) (h : SysL w w.heap.size c pvs wa pa ca wc pc cc) (hin : c.In) (ht : I64 tick) (hn : rs.length = rn) (hl : Lies w 0 w.heap.size (.slice ra rn rc) rn 1 (rs.flatMap boolCells)) (hp : I64 p) :
    Calls Try.prog 3 #[.agg #[.int .i64 c.frame, .int .i64 c.margin, .slice wa c.ws.length wc, .slice pa c.ps.length pc, .slice ca c.cs.length cc], .int .i64 tick, .slice ra rn rc, .int .i64 p] w fun e w' => e = .returned (.bool true) ∧ Below w.heap.size w w' := by
  obtain ⟨V, hV⟩ : ∃ V, V = w.alloc (.cells #[.int .i64 c.frame, .int .i64 c.margin, .slice wa c.ws.length wc, .slice pa c.ps.length pc, .slice ca c.cs.length cc] 26) := ⟨_, rfl⟩
  have hB1 : Below w.heap.size w V := by rw [hV]; exact below1 _ _
  have hblk : V.heap[w.heap.size]? = some (.cells #[.int .i64 c.frame, .int .i64 c.margin, .slice wa c.ws.length wc, .slice pa c.ps.length pc, .slice ca c.cs.length cc] 26 (0, 0)) := by rw [hV]; exact heap_alloc_new _ _
  have ks : ∀ W : World, Below V.heap.size V W → (W.cell? ⟨w.heap.size, 0, none⟩ = some (.int .i64 c.frame) ∧ W.cell? ⟨w.heap.size, 1, none⟩ = some (.int .i64 c.margin) ∧ W.cell? ⟨w.heap.size, 2, none⟩ = some (.slice wa c.ws.length wc) ∧ W.cell? ⟨w.heap.size, 3, none⟩ = some (.slice pa c.ps.length pc) ∧ W.cell? ⟨w.heap.size, 4, none⟩ = some (.slice ca c.cs.length cc)) := by
    intro W g
    have q := fun (i : Nat) (u : Value) hu => (g.cell (p := ⟨w.heap.size, i, none⟩) (lt_of_block hblk)).trans (cell_in (j := i) (u := u) hblk hu)
    exact ⟨q 0 _ rfl, q 1 _ rfl, q 2 _ rfl, q 3 _ rfl, q 4 _ rfl⟩
  have SV : SysL V w.heap.size c pvs wa pa ca wc pc cc := h.keep (SameIn.of_below hB1 (Nat.le_refl _))
  have CL := Lib.hid (light_any c.frame c.margin wa pa ca c.ws.length wc c.ps.length pc c.cs.length cc V 0 w.heap.size c pvs rfl rfl rfl SV.l2 SV.l3 hB1.size)
  have KL := Lib.hid (hl.keep (SameIn.of_below hB1 (Nat.le_refl _)))
  have KS := Lib.hid ks; have HB1 := Lib.hid hB1; have HS := Lib.hid SV; have HV := Lib.hid hV; have HIN := Lib.hid hin.2.2.1; have HSZ := Lib.hid hB1.size
  have HN := Lib.hid hn
  clear ks hB1 SV hV hblk h hl hn
  cases hlt : lightB c with
  | false =>
    have HLT := Lib.hid hlt; clear hlt
    go_enter Try.func3, Try.ntmps3
    go_wp2_with (first
      | (go_at_call 6; rw [← HV.out]; refine CL.out.mono ?_; rintro e w1 ⟨rfl, hb1⟩; rw [HLT.out])
      | (go_at_call 7; refine (knows24_any _).mono ?_; rintro e w2 ⟨rfl, hb2⟩))
    go_ret
    exact ⟨rfl, HB1.out.trans ((bel_next hb1 hb2).mono HB1.out.size)⟩
  | true =>
  have HF := Lib.hid (light_bounds hlt)
  have HLT := Lib.hid hlt; clear hlt
  by_cases hbig : 20 < rn
  · have d0 : decide (20 < (rn : Int)) = true := decide_eq_true (by omega)
    have d1 : decide (20 < rn) = true := decide_eq_true hbig
    go_enter Try.func3, Try.ntmps3
    go_wp2_with (first
      | (go_at_call 6; rw [← HV.out]; refine CL.out.mono ?_; rintro e w1 ⟨rfl, hb1⟩; rw [HLT.out])
      | (go_at_call 7; refine (knows24_any _).mono ?_; rintro e w2 ⟨rfl, hb2⟩))
    go_ret
    exact ⟨rfl, HB1.out.trans ((bel_next hb1 hb2).mono HB1.out.size)⟩
  have d0 : decide (20 < (rn : Int)) = false := decide_eq_false (by omega)
  have d1 : decide (20 < rn) = false := decide_eq_false hbig
  by_cases hz : (checkV c).1 = 0
  case neg =>
    have HZ := Lib.hid hz; clear hz
    go_enter Try.func3, Try.ntmps3
    go_wp2_with (first
      | (go_at_call 6; rw [← HV.out]; refine CL.out.mono ?_; rintro e w1 ⟨rfl, hb1⟩; rw [HLT.out])
      | (go_at_call 7; refine (knows24_any _).mono ?_; rintro e w2 ⟨rfl, hb2⟩; have HB2 := Lib.hid (bel_next hb1 hb2); obtain ⟨z0, z1, z2, z3, z4⟩ := KS.out _ HB2.out)
      | (go_at_call 9; refine (config_sys HF.out (HS.out.keep (SameIn.of_below HB2.out HSZ.out)) (Nat.le_trans HSZ.out HB2.out.size)).mono ?_; rintro e w3 ⟨vs, i1, i2, i3, j1, j2, j3, rfl, hs3, hb3⟩; have HS3 := Lib.hid hs3; have HB3 := Lib.hid (bel_next HB2.out hb3); clear hs3 hb3)
      | (go_at_call 8; refine (gnew_no HF.out.far HS3.out (Nat.le_refl _) HIN.out HZ.out).mono ?_; rintro e w4 ⟨rfl, hb4⟩; have HB4 := Lib.hid (bel_next HB3.out hb4); obtain ⟨z0, z1, z2, z3, z4⟩ := KS.out _ HB4.out)
      | (go_at_call 10; refine (dnew_no HF.out (HS.out.keep (SameIn.of_below HB4.out HSZ.out)) (Nat.le_trans HSZ.out HB4.out.size) HIN.out HZ.out).mono ?_; rintro e w5 ⟨rfl, hb5⟩; have HB5 := Lib.hid (bel_next HB4.out hb5)))
    go_ret
    exact ⟨rfl, HB1.out.trans (HB5.out.mono HB1.out.size)⟩
  case pos =>
  obtain ⟨F, hF⟩ := frame_nat hz
  obtain ⟨⟨x0, x1, x2⟩, hxx⟩ : ∃ x, x = choV F c rs tick := ⟨_, rfl⟩
  obtain ⟨y, hy⟩ : ∃ y, y = (nextT F c.margin c.ws p tick).1 := ⟨_, rfl⟩
  obtain ⟨b2, hb2⟩ : ∃ y, y = (nextT F c.margin c.ws p tick).2 := ⟨_, rfl⟩
  obtain ⟨xs, hxs⟩ : ∃ xs, xs = donV c.ps p := ⟨_, rfl⟩
  obtain ⟨n, hnn⟩ : ∃ n, n = xs.length := ⟨_, rfl⟩
  have HFF := Lib.hid hF; have HZ := Lib.hid hz
  have HXX := Lib.hid hxx; have HY := Lib.hid hy; have HB := Lib.hid hb2; have HXS := Lib.hid hxs; have HNN := Lib.hid hnn
  have hM : Try.prog.eqGuardType Try.prog.depth 53 = false := by kernel_rfl
  have e3 : ∀ W : World, _ := fun W => eqInChoR x0 x1 x2 x0 x1 x2 W
  simp only [eqCho_self] at e3
  have HT := Lib.hid ht
  have hn1000 : n ≤ 1000 := by
    rw [hnn, hxs]
    by_cases h : 0 ≤ p ∧ p < (c.ps.length : Int)
    · obtain ⟨k, rfl⟩ := Int.eq_ofNat_of_zero_le h.1
      exact (don_nat hz (by omega)).1
    · rw [donV_out h]; exact Nat.zero_le _
  have KP : Hid ((¬ (0 ≤ p ∧ p < (c.ps.length : Int)) ∧ n = 0) ∨ ((0 ≤ p ∧ p < (c.ps.length : Int)) ∧ ∃ (k b off : Nat) (da : Option Addr) (dc : Nat), p = (k : Int) ∧ pa = some ⟨b, off, none⟩ ∧ ∀ W : World, Below V.heap.size V W → W.cell? ⟨b, off + k * 6 + 2, none⟩ = some (.slice da n dc) ∧ ∀ j x, j < n → xs[j]? = some x → ∃ b2 o2, da = some ⟨b2, o2, none⟩ ∧ W.cell? ⟨b2, o2 + j, none⟩ = some (.int .i64 x))) := Lib.hid (by
    by_cases h : 0 ≤ p ∧ p < (c.ps.length : Int)
    case neg => exact .inl ⟨h, by rw [hnn, hxs, donV_out h]; rfl⟩
    case pos =>
      obtain ⟨k, rfl⟩ := Int.eq_ofNat_of_zero_le h.1
      have hk : k < c.ps.length := by omega
      have hlen := HS.out.l3.length
      obtain ⟨x, hx⟩ : ∃ x, c.ps[k]? = some x := ⟨_, List.getElem?_eq_getElem hk⟩
      obtain ⟨pv, hpv⟩ : ∃ x, pvs[k]? = some x := ⟨_, List.getElem?_eq_getElem (by rw [hlen]; exact hk)⟩
      have hpl := HS.out.l3.at hpv hx
      obtain ⟨ta, sa, da, tc, sc, dc, e1, e2, e3⟩ := hpl.slices
      obtain ⟨a2, c2, ee, _, _, hc⟩ := id HS.out.l2
      cases ee
      rcases hc with hz | ⟨b, off, rfl, hb1, hb2, hc⟩
      · omega
      obtain ⟨s0, s1, s2, s3, s4, s5⟩ := Lies.pv hc hpv
      rw [e3] at s2
      have hvl := hpl.2.2.1
      rw [e3] at hvl
      have hxd : xs = x.ds := by rw [hxs]; exact donV_at hx
      rw [← hxd, ← hnn] at s2 hvl
      have hVz := HSZ.out
      refine .inr ⟨h, k, b, off, da, dc, rfl, rfl, fun W hW => ⟨(hW.cell (p := ⟨b, off + k * 6 + 2, none⟩) (by show b < _; omega)).trans s2, fun j y hj hy => ?_⟩⟩
      obtain ⟨a3, c3, ee, _, _, hc3⟩ := hvl.keep (SameIn.of_below hW hVz)
      cases ee
      rcases hc3 with hz | ⟨b3, off3, rfl, _, _, hc3⟩
      · omega
      have e := flat_at intCells 1 (fun _ => rfl) xs j 0 _ hy (by omega)
      simp only [Nat.mul_one, Nat.add_zero] at e
      exact ⟨b3, off3, rfl, hc3 j _ (by rw [e]; rfl)⟩)
  have HPS : Hid (c.ps.length ≤ 6) := Lib.hid (far_ok hz).1
  clear hF hz hxx hy hb2 hxs hnn ht
  go_enter Try.func3, Try.ntmps3
  go_upto_region 11 with (first
    | (go_at_call 6; rw [← HV.out]; refine CL.out.mono ?_; rintro e w1 ⟨rfl, hb1⟩; rw [HLT.out])
    | (go_at_call 7; refine (knows24_any _).mono ?_; rintro e w2 ⟨rfl, hb2⟩; have HB2 := Lib.hid (bel_next hb1 hb2); obtain ⟨z0, z1, z2, z3, z4⟩ := KS.out _ HB2.out; clear hb1 hb2)
    | (go_at_call 9; refine (config_sys HF.out (HS.out.keep (SameIn.of_below HB2.out HSZ.out)) (Nat.le_trans HSZ.out HB2.out.size)).mono ?_; rintro e w3 ⟨vs, i1, i2, i3, j1, j2, j3, rfl, hs3, hb3⟩; have HS3 := Lib.hid hs3; have HB3 := Lib.hid (bel_next HB2.out hb3); clear hs3 hb3)
    | (go_at_call 8; refine (gnew_yes HF.out HS3.out (Nat.le_refl _) HIN.out HZ.out F HFF.out).mono ?_; rintro e w4 ⟨s, rfl, hs4, hb4⟩; have HS4 := Lib.hid hs4; have HB4 := Lib.hid (bel_next HB3.out hb4); clear hs4 hb4; obtain ⟨z0, z1, z2, z3, z4⟩ := KS.out _ HB4.out)
    | (go_at_call 10; refine (dnew_yes HF.out (HS.out.keep (SameIn.of_below HB4.out HSZ.out)) (Nat.le_trans HSZ.out HB4.out.size) HIN.out HZ.out F HFF.out).mono ?_; rintro e w5 ⟨r, rfl, hr5, hb5⟩; have HR5 := Lib.hid hr5; have HS5 := Lib.hid (HS4.out.later hb5); have HB5 := Lib.hid (bel_next HB4.out hb5); clear hr5 hb5)
    | (go_at_call 11; refine (gdonees_any HS5.out HZ.out p).mono ?_; rintro e w6 ⟨ao, n', cap, rfl, hn', hl6, hb6⟩; rw [← HXS.out] at hn' hl6; have hnn' : n = n' := (by rw [← hn', HNN.out]); subst hnn'; have HL6 := Lib.hid hl6; have HS6 := Lib.hid (HS5.out.later hb6); have HR6 := Lib.hid (HR5.out.later hb6); have HB6 := Lib.hid (bel_next HB5.out hb6); clear hl6 hb6 hn'))
  obtain ⟨z0, z1, z2, z3, z4⟩ := KS.out _ HB6.out
  rcases KP.out with ⟨hno, hn0⟩ | ⟨hyes, k, b, off, da, dc, rfl, rfl, hkc⟩
  · have HP := Lib.hid KP; clear KP
    subst hn0
    by_cases hp0 : 0 ≤ p
    · have hp1 : ¬ p < (c.ps.length : Int) := fun h => hno ⟨hp0, h⟩
      have d2 : decide (0 ≤ p) = true := decide_eq_true hp0
      have d3 : decide (p < (c.ps.length : Int)) = false := decide_eq_false hp1
      clear hno hp0 hp1
      go_wp2_with fail
      go_loopw [13] (fun s wr => s = .int .i64 0 ∧ Hid (Below w6.heap.size w6 wr)) (fun s _ => 0)
      case atStart => exact ⟨rfl, Lib.hid (Below.refl _ _)⟩
      case round =>
        obtain ⟨rfl, HBr⟩ := hrel
        have HBx := Lib.hid (HB6.out.trans (HBr.out.mono HB6.out.size))
        have HSx := Lib.hid (HS6.out.later HBr.out)
        have HRx := Lib.hid (HR6.out.later HBr.out)
        obtain ⟨t, htn⟩ := HRx.out.next
        have HTN := Lib.hid htn; clear htn
        go_wp2_with (first
          | (go_at_call 15; refine (dat_any (HRx.out.later HB10.out) HZ.out tick HT.out.1 HT.out.2 ra rn rc w.heap.size rs HN.out (KL.out.keep (SameIn.of_below (HBx.out.trans (HB10.out.mono HBx.out.size)) HSZ.out)) (Nat.le_trans HSZ.out (HBx.out.trans (HB10.out.mono HBx.out.size)).size)).mono ?_; rintro e w11 ⟨rfl, hb11⟩; rw [← HXX.out, cho_mk]; have HB11 := Lib.hid (HB10.out.trans (hb11.mono HB10.out.size)); clear hb11)
          | (go_at_call 14; refine (gat_any (HSx.out.later HB9.out) HZ.out tick HT.out.1 HT.out.2 ra rn rc w.heap.size rs HN.out (KL.out.keep (SameIn.of_below (HBx.out.trans (HB9.out.mono HBx.out.size)) HSZ.out)) (Nat.le_trans HSZ.out (HBx.out.trans (HB9.out.mono HBx.out.size)).size)).mono ?_; rintro e w10 ⟨rfl, hb10⟩; rw [← HXX.out, cho_mk]; have HB10 := Lib.hid (HB9.out.trans (hb10.mono HB9.out.size)); clear hb10)
          | (go_at_call 13; refine ((HTN.out _ HB8.out).2 _ tick HT.out).mono ?_; rintro e w9 ⟨rfl, hb9⟩; rw [← HY.out, ← HB.out]; have HB9 := Lib.hid (HB8.out.trans (hb9.mono HB8.out.size)); clear hb9)
          | (go_at_call 12; refine (gnext_any HSx.out _ tick HT.out.1 HT.out.2).mono ?_; rintro e w8 ⟨rfl, hb8⟩; rw [← HY.out, ← HB.out]; have HB8 := Lib.hid hb8; have m5 := (HTN.out _ hb8).1; clear hb8))
        go_ret
        exact ⟨rfl, HB1.out.trans ((HBx.out.trans (HB11.out.mono HBx.out.size)).mono HB1.out.size)⟩
    · have d2 : decide (0 ≤ p) = false := decide_eq_false hp0
      clear hno hp0
      go_wp2_with fail
      go_loopw [13] (fun s wr => s = .int .i64 0 ∧ Hid (Below w6.heap.size w6 wr)) (fun s _ => 0)
      case atStart => exact ⟨rfl, Lib.hid (Below.refl _ _)⟩
      case round =>
        obtain ⟨rfl, HBr⟩ := hrel
        have HBx := Lib.hid (HB6.out.trans (HBr.out.mono HB6.out.size))
        have HSx := Lib.hid (HS6.out.later HBr.out)
        have HRx := Lib.hid (HR6.out.later HBr.out)
        obtain ⟨t, htn⟩ := HRx.out.next
        have HTN := Lib.hid htn; clear htn
        go_wp2_with (first
          | (go_at_call 15; refine (dat_any (HRx.out.later HB10.out) HZ.out tick HT.out.1 HT.out.2 ra rn rc w.heap.size rs HN.out (KL.out.keep (SameIn.of_below (HBx.out.trans (HB10.out.mono HBx.out.size)) HSZ.out)) (Nat.le_trans HSZ.out (HBx.out.trans (HB10.out.mono HBx.out.size)).size)).mono ?_; rintro e w11 ⟨rfl, hb11⟩; rw [← HXX.out, cho_mk]; have HB11 := Lib.hid (HB10.out.trans (hb11.mono HB10.out.size)); clear hb11)
          | (go_at_call 14; refine (gat_any (HSx.out.later HB9.out) HZ.out tick HT.out.1 HT.out.2 ra rn rc w.heap.size rs HN.out (KL.out.keep (SameIn.of_below (HBx.out.trans (HB9.out.mono HBx.out.size)) HSZ.out)) (Nat.le_trans HSZ.out (HBx.out.trans (HB9.out.mono HBx.out.size)).size)).mono ?_; rintro e w10 ⟨rfl, hb10⟩; rw [← HXX.out, cho_mk]; have HB10 := Lib.hid (HB9.out.trans (hb10.mono HB9.out.size)); clear hb10)
          | (go_at_call 13; refine ((HTN.out _ HB8.out).2 _ tick HT.out).mono ?_; rintro e w9 ⟨rfl, hb9⟩; rw [← HY.out, ← HB.out]; have HB9 := Lib.hid (HB8.out.trans (hb9.mono HB8.out.size)); clear hb9)
          | (go_at_call 12; refine (gnext_any HSx.out _ tick HT.out.1 HT.out.2).mono ?_; rintro e w8 ⟨rfl, hb8⟩; rw [← HY.out, ← HB.out]; have HB8 := Lib.hid hb8; have m5 := (HTN.out _ hb8).1; clear hb8))
        go_ret
        exact ⟨rfl, HB1.out.trans ((HBx.out.trans (HB11.out.mono HBx.out.size)).mono HB1.out.size)⟩
  · have KC := Lib.hid hkc; clear hkc KP
    have l0 := hyes.1
    have l1 := hyes.2
    clear hyes
    have d2 : decide (0 ≤ (k : Int)) = true := decide_eq_true l0
    have d3 : decide ((k : Int) < (c.ps.length : Int)) = true := decide_eq_true l1
    have d4 : decide (k < c.ps.length) = true := decide_eq_true (by omega)
    have m0 := ((KC.out _ HB6.out).1)
    go_wp2_with fail
    go_loopw [13] (fun s wr => ∃ j : Nat, j ≤ n ∧ s = .int .i64 j ∧ Hid (Below w6.heap.size w6 wr)) (fun s _ => n - (intOf s).toNat)
    case atStart => exact ⟨0, Nat.zero_le _, rfl, Lib.hid (Below.refl _ _)⟩
    case round =>
      clear z0 z1 z2 z3 z4 m0
      obtain ⟨j, hj, rfl, HBr⟩ := hrel
      by_cases hlt : j < n
      · have t0 : decide ((j : Int) < (n : Int)) = true := decide_eq_true (by omega)
        have j0 : (0 : Int) ≤ (j : Int) := by omega
        have j1 : (j : Int) < (n : Int) := by omega
        obtain ⟨x, hx⟩ : ∃ x, xs[j]? = some x := ⟨_, List.getElem?_eq_getElem (by have := HNN.out; omega)⟩
        have HBx := Lib.hid (HB6.out.trans (HBr.out.mono HB6.out.size))
        obtain ⟨m0, m1⟩ := KC.out wr HBx.out
        obtain ⟨b3, o3, ed, m2⟩ := m1 j x hlt hx
        subst ed
        obtain ⟨a4, c4, ee, _, _, hc4⟩ := HL6.out.keep (SameIn.of_below HBr.out (Nat.le_refl _))
        cases ee
        rcases hc4 with hz | ⟨b4, off4, rfl, _, _, hc4⟩
        · omega
        have m3 : wr.cell? ⟨b4, off4 + j, none⟩ = some (.int .i64 x) := by
          have e := flat_at intCells 1 (fun _ => rfl) xs j 0 _ hx (by omega)
          simp only [Nat.mul_one, Nat.add_zero] at e
          exact hc4 j _ (by rw [e]; rfl)
        obtain ⟨_, _, _, z3, _⟩ := KS.out _ HBx.out
        clear m1 hc4 hx
        go_wp2_with fail
        go_region
        go_wp2_with fail
        go_roundw
        case rel => exact ⟨j + 1, by omega, by go_num, Lib.hid HBr.out.drew⟩
        case measure => simp [intOf]; omega
      · have t0 : decide ((j : Int) < (n : Int)) = false := decide_eq_false (by omega)
        have HBx := Lib.hid (HB6.out.trans (HBr.out.mono HB6.out.size))
        have HSx := Lib.hid (HS6.out.later HBr.out)
        have HRx := Lib.hid (HR6.out.later HBr.out)
        obtain ⟨t, htn⟩ := HRx.out.next
        have HTN := Lib.hid htn; clear htn
        go_wp2_with (first
          | (go_at_call 15; refine (dat_any (HRx.out.later HB10.out) HZ.out tick HT.out.1 HT.out.2 ra rn rc w.heap.size rs HN.out (KL.out.keep (SameIn.of_below (HBx.out.trans (HB10.out.mono HBx.out.size)) HSZ.out)) (Nat.le_trans HSZ.out (HBx.out.trans (HB10.out.mono HBx.out.size)).size)).mono ?_; rintro e w11 ⟨rfl, hb11⟩; rw [← HXX.out, cho_mk]; have HB11 := Lib.hid (HB10.out.trans (hb11.mono HB10.out.size)); clear hb11)
          | (go_at_call 14; refine (gat_any (HSx.out.later HB9.out) HZ.out tick HT.out.1 HT.out.2 ra rn rc w.heap.size rs HN.out (KL.out.keep (SameIn.of_below (HBx.out.trans (HB9.out.mono HBx.out.size)) HSZ.out)) (Nat.le_trans HSZ.out (HBx.out.trans (HB9.out.mono HBx.out.size)).size)).mono ?_; rintro e w10 ⟨rfl, hb10⟩; rw [← HXX.out, cho_mk]; have HB10 := Lib.hid (HB9.out.trans (hb10.mono HB9.out.size)); clear hb10)
          | (go_at_call 13; refine ((HTN.out _ HB8.out).2 _ tick HT.out).mono ?_; rintro e w9 ⟨rfl, hb9⟩; rw [← HY.out, ← HB.out]; have HB9 := Lib.hid (HB8.out.trans (hb9.mono HB8.out.size)); clear hb9)
          | (go_at_call 12; refine (gnext_any HSx.out _ tick HT.out.1 HT.out.2).mono ?_; rintro e w8 ⟨rfl, hb8⟩; rw [← HY.out, ← HB.out]; have HB8 := Lib.hid hb8; have m5 := (HTN.out _ hb8).1; clear hb8))
        go_ret
        exact ⟨rfl, HB1.out.trans ((HBx.out.trans (HB11.out.mono HBx.out.size)).mono HB1.out.size)⟩
end Go.Proofs.Ytmkohnpdpcefgaa
