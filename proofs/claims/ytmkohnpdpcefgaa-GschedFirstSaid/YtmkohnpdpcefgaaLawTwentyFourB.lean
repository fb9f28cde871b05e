/- In its open ticks a partition that is ready runs; a tick is given only along the owner's list. -/
import Derived.Test.YtmkohnpdpcefgaaGschL
import Derived.Test.YtmkohnpdpcefgaaSysZ
namespace Go.Proofs.Ytmkohnpdpcefgaa
open Go.ChangeShapes Go.WideShapes Go.ChangeAt Go.RowKit
set_option linter.unusedVariables false

theorem Wide.far {c : Cf} (h : Wide c) : Far c := fun p hp => by have := (h.2.2.2 p hp).2.2; omega
theorem ok_light {c : Cf} (h : (checkV c).1 = 0) : lightB c = true := by
  obtain ⟨h1, h2, h3, h4, h5⟩ := (check_iff c).1 h
  have g1 := (winV_ok h2.2 h3).1
  unfold chanV at h5
  split at h5
  · cases h5
  unfold lightB
  rw [Bool.and_eq_true, decide_eq_true_eq, List.all_eq_true]
  refine ⟨⟨by omega, by omega, by omega⟩, fun p hp => ?_⟩
  obtain ⟨k, hk, rfl⟩ := List.getElem_of_mem hp
  have hx := List.getElem?_eq_getElem hk
  have h6 := h4 k _ hx
  have h7 := (don_ok h hx).1
  unfold okPt at h6
  rw [Bool.and_eq_true] at h6
  have h8 := of_decide_eq_true h6.1
  unfold wrongOf at h8
  have h9 : (c.ps[k]).ts.length ≤ 6 := by
    by_cases g : 6 < (c.ps[k]).ts.length
    · rw [if_pos g] at h8; omega
    · omega
  have h10 : (c.ps[k]).ss.length ≤ 3 := by
    rw [if_neg (by omega)] at h8
    split at h8
    · omega
    by_cases g : 3 < (c.ps[k]).ss.length
    · rw [if_pos g] at h8; omega
    · omega
  unfold fewB
  simp only [Bool.and_eq_true, decide_eq_true_eq]
  exact ⟨by omega, by omega, by omega⟩
theorem openV_cases (xs : List Int) (rs : List Bool) (o : Int) (h : rdyV rs o = false) (hd : ∀ d ∈ xs, 0 ≤ d) :
    (∃ (i m : Nat), xs[i]? = some (m : Int) ∧ rdyV rs (m : Int) = true ∧ (∀ (j : Nat) (q : Int), j < i → xs[j]? = some q → rdyV rs q = false) ∧ openV xs rs o = (1, o, (m : Int))) ∨ ((∀ (j : Nat) (q : Int), xs[j]? = some q → rdyV rs q = false) ∧ openV xs rs o = (2, o, -1)) := by
  cases hf : xs.find? (rdyV rs) with
  | none =>
    rw [List.find?_eq_none] at hf
    have hn : ∀ (j : Nat) (q : Int), xs[j]? = some q → rdyV rs q = false := fun j q hq => by
      have := hf q (List.mem_of_getElem? hq)
      simpa using this
    exact .inr ⟨hn, openV_lost h hn⟩
  | some p =>
    rw [List.find?_eq_some_iff_getElem] at hf
    obtain ⟨hp, i, hi, hxi, hn⟩ := hf
    have h0 : 0 ≤ p := hd p (by rw [← hxi]; exact List.getElem_mem hi)
    obtain ⟨m, rfl⟩ := Int.eq_ofNat_of_zero_le h0
    have hx : xs[i]? = some (m : Int) := by rw [List.getElem?_eq_getElem hi, hxi]
    have hn' : ∀ (j : Nat) (q : Int), j < i → xs[j]? = some q → rdyV rs q = false := fun j q hj hq => by
      have := hn j hj
      obtain ⟨hl, rfl⟩ := List.getElem?_eq_some_iff.1 hq
      simpa using this
    exact .inl ⟨i, m, hx, hp, hn', openV_given h hx hp hn'⟩
set_option maxRecDepth 100000 in
set_option maxHeartbeats 4000000 in
theorem gis_any (k : Nat) (ra : Option Addr) (rn rc : Nat) (w : World) (lo hi : Nat) (rs : List Bool) (hn : rs.length = rn) (hl : Lies w lo hi (.slice ra rn rc) rn 1 (rs.flatMap boolCells)) :
    Calls Try.prog 16 #[.slice ra rn rc, .int .i64 k] w fun e w' => e = .returned (.bool (rdyV rs (k : Int))) ∧ Below w.heap.size w w' := by
  have p0 : decide (0 ≤ (k : Int)) = true := decide_eq_true (by omega)
  by_cases hk : k < rn
  · obtain ⟨b, off, rfl, _, hc⟩ := rdy_cell hn hl hk
    obtain ⟨r, hr⟩ : ∃ r, r = rdyV rs (k : Int) := ⟨_, rfl⟩
    rw [← hr] at hc ⊢
    have t0 : decide ((k : Int) < (rn : Int)) = true := decide_eq_true (by omega)
    have t1 : decide (k < rn) = true := decide_eq_true (by omega)
    have l0 : (0 : Int) ≤ (k : Int) := by omega
    have l1 : (k : Int) < (rn : Int) := by omega
    clear hr hl hn
    go_enter Try.func16, Try.ntmps16
    go_wp2
    go_ret
    exact ⟨rfl, Below.refl _ _⟩
  · have t0 : decide ((k : Int) < (rn : Int)) = false := decide_eq_false (by omega)
    have t1 : decide (k < rn) = false := decide_eq_false (by omega)
    rw [rdyV_out (by omega)]
    clear hl hn
    go_enter Try.func16, Try.ntmps16
    go_wp2
    go_ret
    exact ⟨rfl, Below.refl _ _⟩
set_option maxRecDepth 100000 in
set_option maxHeartbeats 8000000 in
theorem GschedFirst_body (wa pa ca : Option Addr) (wc pc cc : Nat) (tick : Int) (ra : Option Addr) (rn rc : Nat) (w : World) (c : Cf) (pvs : List Pv) (rs : List Bool) (h : SysL w w.heap.size c pvs wa pa ca wc pc cc) (hin : c.In) (hwd : Wide c) (ht : I64 tick) (hn : rs.length = rn) (hl : Lies w 0 w.heap.size (.slice ra rn rc) rn 1 (rs.flatMap boolCells)) :
    Calls Try.prog 4 #[.agg #[.int .i64 c.frame, .int .i64 c.margin, .slice wa c.ws.length wc, .slice pa c.ps.length pc, .slice ca c.cs.length cc], .int .i64 tick, .slice ra rn rc] w fun e w' => e = .returned (.bool true) ∧ Below w.heap.size w w' := by
  obtain ⟨V, hV⟩ : ∃ V, V = w.alloc (.cells #[.int .i64 c.frame, .int .i64 c.margin, .slice wa c.ws.length wc, .slice pa c.ps.length pc, .slice ca c.cs.length cc] 26) := ⟨_, rfl⟩
  have hB1 : Below w.heap.size w V := by rw [hV]; exact below1 _ _
  have hblk : V.heap[w.heap.size]? = some (.cells #[.int .i64 c.frame, .int .i64 c.margin, .slice wa c.ws.length wc, .slice pa c.ps.length pc, .slice ca c.cs.length cc] 26 (0, 0)) := by rw [hV]; exact heap_alloc_new _ _
  have ks : ∀ W : World, Below V.heap.size V W → (W.cell? ⟨w.heap.size, 0, none⟩ = some (.int .i64 c.frame) ∧ W.cell? ⟨w.heap.size, 1, none⟩ = some (.int .i64 c.margin) ∧ W.cell? ⟨w.heap.size, 2, none⟩ = some (.slice wa c.ws.length wc) ∧ W.cell? ⟨w.heap.size, 3, none⟩ = some (.slice pa c.ps.length pc) ∧ W.cell? ⟨w.heap.size, 4, none⟩ = some (.slice ca c.cs.length cc)) := by
    intro W g
    have q := fun (i : Nat) (u : Value) hu => (g.cell (p := ⟨w.heap.size, i, none⟩) (lt_of_block hblk)).trans (cell_in (j := i) (u := u) hblk hu)
    exact ⟨q 0 _ rfl, q 1 _ rfl, q 2 _ rfl, q 3 _ rfl, q 4 _ rfl⟩
  have SV : SysL V w.heap.size c pvs wa pa ca wc pc cc := h.keep (SameIn.of_below hB1 (Nat.le_refl _))
  have CL := Lib.hid (fun (W : World) (hb : Below V.heap.size V W) => light_any c.frame c.margin wa pa ca c.ws.length wc c.ps.length pc c.cs.length cc W 0 w.heap.size c pvs rfl rfl rfl (SV.keep (SameIn.of_below hb hB1.size)).l2 (SV.keep (SameIn.of_below hb hB1.size)).l3 (Nat.le_trans hB1.size hb.size))
  have KL := Lib.hid (hl.keep (SameIn.of_below hB1 (Nat.le_refl _)))
  have CC := Lib.hid (config_wide_sys hwd SV hB1.size)
  have KS := Lib.hid ks; have HB1 := Lib.hid hB1; have HV := Lib.hid hV; have HIN := Lib.hid hin.2.2.1; have HSZ := Lib.hid hB1.size
  have HN := Lib.hid hn; have HW := Lib.hid hwd
  clear ks hB1 SV hV hblk h hl hn hwd hin
  by_cases hz : (checkV c).1 = 0
  case neg =>
    have HZ := Lib.hid hz; clear hz
    cases hlt : lightB c
    all_goals
      (have HLT := Lib.hid hlt; clear hlt
       go_enter Try.func4, Try.ntmps4
       go_wp2_with (first
         | (go_at_call 9; rw [← HV.out]; refine CC.out.mono ?_; rintro e w3 ⟨vs, i1, i2, i3, j1, j2, j3, rfl, hs3, hb3⟩; have HS3 := Lib.hid hs3; have HB3 := Lib.hid hb3; clear hs3 hb3)
         | (go_at_call 8; refine (gnew_no HW.out.far HS3.out (Nat.le_refl _) HIN.out HZ.out).mono ?_; rintro e w4 ⟨rfl, hb4⟩; have HB4 := Lib.hid (bel_next HB3.out hb4); obtain ⟨z0, z1, z2, z3, z4⟩ := KS.out _ HB4.out; clear hb4)
         | (go_at_call 6; refine (CL.out _ HB4.out).mono ?_; rintro e w5 ⟨rfl, hb5⟩; rw [HLT.out]; have HB5 := Lib.hid (bel_next HB4.out hb5); clear hb5)
         | (go_at_call 7; refine (knows24_any _).mono ?_; rintro e w6 ⟨rfl, hb6⟩; have HB6 := Lib.hid (bel_next HB5.out hb6); clear hb6))
       go_ret
       exact ⟨rfl, HB1.out.trans (HB6.out.mono HB1.out.size)⟩)
  case pos =>
  have hlt := ok_light hz
  have HF := Lib.hid (light_bounds hlt)
  have HLT := Lib.hid hlt; clear hlt
  obtain ⟨F, hF⟩ := frame_nat hz
  have HFF := Lib.hid hF; have HZ := Lib.hid hz; clear hF
  by_cases hbig : 20 < rn
  · have d0 : decide (20 < (rn : Int)) = true := decide_eq_true (by omega)
    have d1 : decide (20 < rn) = true := decide_eq_true hbig
    clear hz
    go_enter Try.func4, Try.ntmps4
    go_wp2_with (first
      | (go_at_call 9; rw [← HV.out]; refine CC.out.mono ?_; rintro e w3 ⟨vs, i1, i2, i3, j1, j2, j3, rfl, hs3, hb3⟩; have HS3 := Lib.hid hs3; have HB3 := Lib.hid hb3; clear hs3 hb3)
      | (go_at_call 8; refine (gnew_yes HF.out HS3.out (Nat.le_refl _) HIN.out HZ.out F HFF.out).mono ?_; rintro e w4 ⟨s, rfl, hs4, hb4⟩; have HS4 := Lib.hid hs4; have HB4 := Lib.hid (bel_next HB3.out hb4); obtain ⟨z0, z1, z2, z3, z4⟩ := KS.out _ HB4.out; clear hs4 hb4)
      | (go_at_call 6; refine (CL.out _ HB4.out).mono ?_; rintro e w5 ⟨rfl, hb5⟩; rw [HLT.out]; have HB5 := Lib.hid (bel_next HB4.out hb5); have HS5 := Lib.hid (HS4.out.later hb5); clear hb5 z0 z1 z2 z3 z4)
      | (go_at_call 7; refine (knows24_any _).mono ?_; rintro e w6 ⟨rfl, hb6⟩; have HB6 := Lib.hid (bel_next HB5.out hb6); have HS6 := Lib.hid (HS5.out.later hb6); clear hb6))
    go_ret
    exact ⟨rfl, HB1.out.trans (HB6.out.mono HB1.out.size)⟩
  have d0 : decide (20 < (rn : Int)) = false := decide_eq_false (by omega)
  have d1 : decide (20 < rn) = false := decide_eq_false hbig
  have HT := Lib.hid ht; clear ht
  have CIS : Hid (∀ (k : Nat) (W : World), Below V.heap.size V W → Calls Try.prog 16 #[.slice ra rn rc, .int .i64 k] W fun e w' => e = .returned (.bool (rdyV rs (k : Int))) ∧ Below W.heap.size W w') := Lib.hid (fun k W hW => gis_any k ra rn rc W 0 w.heap.size rs HN.out (KL.out.keep (SameIn.of_below hW HSZ.out)))
  rcases owner_ok hz F tick with ho | ⟨k, hk, ho | ho⟩
  · have HX := Lib.hid (choV_gap (rs := rs) ho)
    clear ho hz
    go_enter Try.func4, Try.ntmps4
    go_upto_region 5 with (first
      | (go_at_call 9; rw [← HV.out]; refine CC.out.mono ?_; rintro e w3 ⟨vs, i1, i2, i3, j1, j2, j3, rfl, hs3, hb3⟩; have HS3 := Lib.hid hs3; have HB3 := Lib.hid hb3; clear hs3 hb3)
      | (go_at_call 8; refine (gnew_yes HF.out HS3.out (Nat.le_refl _) HIN.out HZ.out F HFF.out).mono ?_; rintro e w4 ⟨s, rfl, hs4, hb4⟩; have HS4 := Lib.hid hs4; have HB4 := Lib.hid (bel_next HB3.out hb4); obtain ⟨z0, z1, z2, z3, z4⟩ := KS.out _ HB4.out; clear hs4 hb4)
      | (go_at_call 6; refine (CL.out _ HB4.out).mono ?_; rintro e w5 ⟨rfl, hb5⟩; rw [HLT.out]; have HB5 := Lib.hid (bel_next HB4.out hb5); have HS5 := Lib.hid (HS4.out.later hb5); clear hb5 z0 z1 z2 z3 z4)
      | (go_at_call 7; refine (knows24_any _).mono ?_; rintro e w6 ⟨rfl, hb6⟩; have HB6 := Lib.hid (bel_next HB5.out hb6); have HS6 := Lib.hid (HS5.out.later hb6); clear hb6)
      | (go_at_call 14; refine (gat_any HS6.out HZ.out tick HT.out.1 HT.out.2 ra rn rc w.heap.size rs HN.out (KL.out.keep (SameIn.of_below HB6.out HSZ.out)) (Nat.le_trans HSZ.out HB6.out.size)).mono ?_; rintro e w7 ⟨rfl, hb7⟩; rw [HX.out, cho_mk]; have HB7 := Lib.hid (bel_next HB6.out hb7); have HS7 := Lib.hid (HS6.out.later hb7); clear hb7))
    have HE := Lib.hid (heap_alloc_new w7 (.cells #[.int .i64 4, .int .i64 (-1), .int .i64 (-1)] 54))
    have HB8 := Lib.hid (b_alloc HB7.out (Nat.le_refl _) (.cells #[.int .i64 4, .int .i64 (-1), .int .i64 (-1)] 54))
    have HS8 := Lib.hid (HS7.out.later (below1 w7 (.cells #[.int .i64 4, .int .i64 (-1), .int .i64 (-1)] 54)))
    obtain ⟨W8, hW8⟩ : ∃ W8, W8 = w7.alloc (.cells #[.int .i64 4, .int .i64 (-1), .int .i64 (-1)] 54) := ⟨_, rfl⟩
    obtain ⟨E, hE⟩ : ∃ E, E = w7.heap.size := ⟨_, rfl⟩
    rw [← hW8, ← hE] at HE
    rw [← hW8] at HB8 HS8
    rw [← hW8, ← hE]
    have KE : Hid (∀ W : World, Below W8.heap.size W8 W → W.cell? ⟨E, 0, none⟩ = some (.int .i64 4) ∧ W.cell? ⟨E, 1, none⟩ = some (.int .i64 (-1)) ∧ W.cell? ⟨E, 2, none⟩ = some (.int .i64 (-1))) := Lib.hid (fun W hW => by
      have a := (hW.block E (lt_of_block HE.out)).trans HE.out
      exact ⟨cell_in a rfl, cell_in a rfl, cell_in a rfl⟩)
    clear hW8 hE
    obtain ⟨e0, e1, e2⟩ := KE.out W8 (Below.refl _ _)
    go_wp2_with fail
    go_ret
    exact ⟨rfl, HB1.out.trans (HB8.out.mono HB1.out.size)⟩
  · have HX := Lib.hid (choV_margin (rs := rs) ho)
    clear ho hz
    go_enter Try.func4, Try.ntmps4
    go_upto_region 5 with (first
      | (go_at_call 9; rw [← HV.out]; refine CC.out.mono ?_; rintro e w3 ⟨vs, i1, i2, i3, j1, j2, j3, rfl, hs3, hb3⟩; have HS3 := Lib.hid hs3; have HB3 := Lib.hid hb3; clear hs3 hb3)
      | (go_at_call 8; refine (gnew_yes HF.out HS3.out (Nat.le_refl _) HIN.out HZ.out F HFF.out).mono ?_; rintro e w4 ⟨s, rfl, hs4, hb4⟩; have HS4 := Lib.hid hs4; have HB4 := Lib.hid (bel_next HB3.out hb4); obtain ⟨z0, z1, z2, z3, z4⟩ := KS.out _ HB4.out; clear hs4 hb4)
      | (go_at_call 6; refine (CL.out _ HB4.out).mono ?_; rintro e w5 ⟨rfl, hb5⟩; rw [HLT.out]; have HB5 := Lib.hid (bel_next HB4.out hb5); have HS5 := Lib.hid (HS4.out.later hb5); clear hb5 z0 z1 z2 z3 z4)
      | (go_at_call 7; refine (knows24_any _).mono ?_; rintro e w6 ⟨rfl, hb6⟩; have HB6 := Lib.hid (bel_next HB5.out hb6); have HS6 := Lib.hid (HS5.out.later hb6); clear hb6)
      | (go_at_call 14; refine (gat_any HS6.out HZ.out tick HT.out.1 HT.out.2 ra rn rc w.heap.size rs HN.out (KL.out.keep (SameIn.of_below HB6.out HSZ.out)) (Nat.le_trans HSZ.out HB6.out.size)).mono ?_; rintro e w7 ⟨rfl, hb7⟩; rw [HX.out, cho_mk]; have HB7 := Lib.hid (bel_next HB6.out hb7); have HS7 := Lib.hid (HS6.out.later hb7); clear hb7))
    have HE := Lib.hid (heap_alloc_new w7 (.cells #[.int .i64 3, .int .i64 k, .int .i64 (-1)] 54))
    have HB8 := Lib.hid (b_alloc HB7.out (Nat.le_refl _) (.cells #[.int .i64 3, .int .i64 k, .int .i64 (-1)] 54))
    have HS8 := Lib.hid (HS7.out.later (below1 w7 (.cells #[.int .i64 3, .int .i64 k, .int .i64 (-1)] 54)))
    obtain ⟨W8, hW8⟩ : ∃ W8, W8 = w7.alloc (.cells #[.int .i64 3, .int .i64 k, .int .i64 (-1)] 54) := ⟨_, rfl⟩
    obtain ⟨E, hE⟩ : ∃ E, E = w7.heap.size := ⟨_, rfl⟩
    rw [← hW8, ← hE] at HE
    rw [← hW8] at HB8 HS8
    rw [← hW8, ← hE]
    have KE : Hid (∀ W : World, Below W8.heap.size W8 W → W.cell? ⟨E, 0, none⟩ = some (.int .i64 3) ∧ W.cell? ⟨E, 1, none⟩ = some (.int .i64 k) ∧ W.cell? ⟨E, 2, none⟩ = some (.int .i64 (-1))) := Lib.hid (fun W hW => by
      have a := (hW.block E (lt_of_block HE.out)).trans HE.out
      exact ⟨cell_in a rfl, cell_in a rfl, cell_in a rfl⟩)
    clear hW8 hE
    obtain ⟨e0, e1, e2⟩ := KE.out W8 (Below.refl _ _)
    go_wp2_with fail
    go_ret
    exact ⟨rfl, HB1.out.trans (HB8.out.mono HB1.out.size)⟩
  · have hx := choV_open (rs := rs) ho
    have hnat := don_nat hz hk
    obtain ⟨xs, hxs⟩ : ∃ xs, xs = donV c.ps (k : Int) := ⟨_, rfl⟩
    rw [← hxs] at hx hnat
    obtain ⟨n, hnn⟩ : ∃ n, n = xs.length := ⟨_, rfl⟩
    have hn1000 : n ≤ 1000 := by rw [hnn]; exact hnat.1
    have HNN := Lib.hid hnn; have HXS := Lib.hid hxs; have HNAT := Lib.hid hnat.2
    have p0 : decide (0 ≤ (k : Int)) = true := decide_eq_true (by omega)
    clear hz hxs hnn
    cases hr : rdyV rs (k : Int) with
    | true =>
      have HX := Lib.hid (hx.trans (openV_own hr))
      have HR := Lib.hid hr
      clear hx hr hnat ho
      go_enter Try.func4, Try.ntmps4
      go_upto_region 5 with (first
        | (go_at_call 9; rw [← HV.out]; refine CC.out.mono ?_; rintro e w3 ⟨vs, i1, i2, i3, j1, j2, j3, rfl, hs3, hb3⟩; have HS3 := Lib.hid hs3; have HB3 := Lib.hid hb3; clear hs3 hb3)
        | (go_at_call 8; refine (gnew_yes HF.out HS3.out (Nat.le_refl _) HIN.out HZ.out F HFF.out).mono ?_; rintro e w4 ⟨s, rfl, hs4, hb4⟩; have HS4 := Lib.hid hs4; have HB4 := Lib.hid (bel_next HB3.out hb4); obtain ⟨z0, z1, z2, z3, z4⟩ := KS.out _ HB4.out; clear hs4 hb4)
        | (go_at_call 6; refine (CL.out _ HB4.out).mono ?_; rintro e w5 ⟨rfl, hb5⟩; rw [HLT.out]; have HB5 := Lib.hid (bel_next HB4.out hb5); have HS5 := Lib.hid (HS4.out.later hb5); clear hb5 z0 z1 z2 z3 z4)
        | (go_at_call 7; refine (knows24_any _).mono ?_; rintro e w6 ⟨rfl, hb6⟩; have HB6 := Lib.hid (bel_next HB5.out hb6); have HS6 := Lib.hid (HS5.out.later hb6); clear hb6)
        | (go_at_call 14; refine (gat_any HS6.out HZ.out tick HT.out.1 HT.out.2 ra rn rc w.heap.size rs HN.out (KL.out.keep (SameIn.of_below HB6.out HSZ.out)) (Nat.le_trans HSZ.out HB6.out.size)).mono ?_; rintro e w7 ⟨rfl, hb7⟩; rw [HX.out, cho_mk]; have HB7 := Lib.hid (bel_next HB6.out hb7); have HS7 := Lib.hid (HS6.out.later hb7); clear hb7))
      have HE := Lib.hid (heap_alloc_new w7 (.cells #[.int .i64 0, .int .i64 k, .int .i64 k] 54))
      have HB8 := Lib.hid (b_alloc HB7.out (Nat.le_refl _) (.cells #[.int .i64 0, .int .i64 k, .int .i64 k] 54))
      have HS8 := Lib.hid (HS7.out.later (below1 w7 (.cells #[.int .i64 0, .int .i64 k, .int .i64 k] 54)))
      obtain ⟨W8, hW8⟩ : ∃ W8, W8 = w7.alloc (.cells #[.int .i64 0, .int .i64 k, .int .i64 k] 54) := ⟨_, rfl⟩
      obtain ⟨E, hE⟩ : ∃ E, E = w7.heap.size := ⟨_, rfl⟩
      rw [← hW8, ← hE] at HE
      rw [← hW8] at HB8 HS8
      rw [← hW8, ← hE]
      have KE : Hid (∀ W : World, Below W8.heap.size W8 W → W.cell? ⟨E, 0, none⟩ = some (.int .i64 0) ∧ W.cell? ⟨E, 1, none⟩ = some (.int .i64 k) ∧ W.cell? ⟨E, 2, none⟩ = some (.int .i64 k)) := Lib.hid (fun W hW => by
        have a := (hW.block E (lt_of_block HE.out)).trans HE.out
        exact ⟨cell_in a rfl, cell_in a rfl, cell_in a rfl⟩)
      clear hW8 hE
      obtain ⟨e0, e1, e2⟩ := KE.out W8 (Below.refl _ _)
      go_wp2_with (first
        | (go_at_call 16; refine (CIS.out k _ HB8.out).mono ?_; rintro e w9 ⟨rfl, hb9⟩; rw [HR.out]; have HB9 := Lib.hid (bel_next HB8.out hb9); obtain ⟨e0, e1, e2⟩ := KE.out w9 hb9; clear hb9))
      go_ret
      exact ⟨rfl, HB1.out.trans (HB9.out.mono HB1.out.size)⟩
    | false =>
      have HR := Lib.hid hr
      rcases openV_cases xs rs (k : Int) hr hnat.2 with ⟨i, m, hi, hm, hlow, ho2⟩ | ⟨hlow, ho2⟩
      · have HX := Lib.hid (hx.trans ho2)
        have HI := Lib.hid hi; have HM := Lib.hid hm; have HLOW := Lib.hid hlow
        have hin : i < n := by have := (List.getElem?_eq_some_iff.1 hi).1; have := HNN.out; omega
        have p1 : decide (0 ≤ (m : Int)) = true := decide_eq_true (by omega)
        clear hx hr hnat ho hi hm hlow ho2
        go_enter Try.func4, Try.ntmps4
        go_upto_region 5 with (first
          | (go_at_call 9; rw [← HV.out]; refine CC.out.mono ?_; rintro e w3 ⟨vs, i1, i2, i3, j1, j2, j3, rfl, hs3, hb3⟩; have HS3 := Lib.hid hs3; have HB3 := Lib.hid hb3; clear hs3 hb3)
          | (go_at_call 8; refine (gnew_yes HF.out HS3.out (Nat.le_refl _) HIN.out HZ.out F HFF.out).mono ?_; rintro e w4 ⟨s, rfl, hs4, hb4⟩; have HS4 := Lib.hid hs4; have HB4 := Lib.hid (bel_next HB3.out hb4); obtain ⟨z0, z1, z2, z3, z4⟩ := KS.out _ HB4.out; clear hs4 hb4)
          | (go_at_call 6; refine (CL.out _ HB4.out).mono ?_; rintro e w5 ⟨rfl, hb5⟩; rw [HLT.out]; have HB5 := Lib.hid (bel_next HB4.out hb5); have HS5 := Lib.hid (HS4.out.later hb5); clear hb5 z0 z1 z2 z3 z4)
          | (go_at_call 7; refine (knows24_any _).mono ?_; rintro e w6 ⟨rfl, hb6⟩; have HB6 := Lib.hid (bel_next HB5.out hb6); have HS6 := Lib.hid (HS5.out.later hb6); clear hb6)
          | (go_at_call 14; refine (gat_any HS6.out HZ.out tick HT.out.1 HT.out.2 ra rn rc w.heap.size rs HN.out (KL.out.keep (SameIn.of_below HB6.out HSZ.out)) (Nat.le_trans HSZ.out HB6.out.size)).mono ?_; rintro e w7 ⟨rfl, hb7⟩; rw [HX.out, cho_mk]; have HB7 := Lib.hid (bel_next HB6.out hb7); have HS7 := Lib.hid (HS6.out.later hb7); clear hb7))
        have HE := Lib.hid (heap_alloc_new w7 (.cells #[.int .i64 1, .int .i64 k, .int .i64 m] 54))
        have HB8 := Lib.hid (b_alloc HB7.out (Nat.le_refl _) (.cells #[.int .i64 1, .int .i64 k, .int .i64 m] 54))
        have HS8 := Lib.hid (HS7.out.later (below1 w7 (.cells #[.int .i64 1, .int .i64 k, .int .i64 m] 54)))
        obtain ⟨W8, hW8⟩ : ∃ W8, W8 = w7.alloc (.cells #[.int .i64 1, .int .i64 k, .int .i64 m] 54) := ⟨_, rfl⟩
        obtain ⟨E, hE⟩ : ∃ E, E = w7.heap.size := ⟨_, rfl⟩
        rw [← hW8, ← hE] at HE
        rw [← hW8] at HB8 HS8
        rw [← hW8, ← hE]
        have KE : Hid (∀ W : World, Below W8.heap.size W8 W → W.cell? ⟨E, 0, none⟩ = some (.int .i64 1) ∧ W.cell? ⟨E, 1, none⟩ = some (.int .i64 k) ∧ W.cell? ⟨E, 2, none⟩ = some (.int .i64 m)) := Lib.hid (fun W hW => by
          have a := (hW.block E (lt_of_block HE.out)).trans HE.out
          exact ⟨cell_in a rfl, cell_in a rfl, cell_in a rfl⟩)
        clear hW8 hE
        obtain ⟨e0, e1, e2⟩ := KE.out W8 (Below.refl _ _)
        go_wp2_with (first
          | (go_at_call 16; have _z := HB10; refine (CIS.out k _ HB10.out).mono ?_; rintro e w11 ⟨rfl, hb11⟩; rw [HR.out]; have HB11 := Lib.hid (bel_next HB10.out hb11); have HG11 := Lib.hid (HG10.out.trans (hb11.mono HG10.out.size)); have HL11 := Lib.hid ((HL10.out.keep (SameIn.of_below hb11 (Nat.le_refl _))).wider (Nat.le_refl _) hb11.size); clear hb11)
          | (go_at_call 11; have _z := HB9; refine (gdonees_any HS9.out HZ.out (k : Int)).mono ?_; rintro e w10 ⟨ao, n', cap, rfl, hn', hl10, hb10⟩; rw [← HXS.out] at hn' hl10; have hnn' : n = n' := (by rw [← hn', HNN.out]); subst hnn'; have HL10 := Lib.hid hl10; have HB10 := Lib.hid (bel_next HB9.out hb10); have HG10 := Lib.hid (HG9.out.trans (hb10.mono HG9.out.size)); obtain ⟨e0, e1, e2⟩ := KE.out w10 HG10.out; clear hl10 hb10 hn')
          | (go_at_call 16; refine (CIS.out m _ HB8.out).mono ?_; rintro e w9 ⟨rfl, hb9⟩; rw [HM.out]; have HB9 := Lib.hid (bel_next HB8.out hb9); have HG9 := Lib.hid hb9; have HS9 := Lib.hid (HS8.out.later hb9); obtain ⟨e0, e1, e2⟩ := KE.out w9 hb9; clear hb9))
        go_loopw [10] (fun s wr => ∃ j : Nat, j ≤ i ∧ s = .int .i64 j ∧ Hid (Below w11.heap.size w11 wr)) (fun s _ => n - (intOf s).toNat)
        case atStart => exact ⟨0, Nat.zero_le _, rfl, Lib.hid (Below.refl _ _)⟩
        case round =>
          clear e0 e1 e2
          obtain ⟨j, hj, rfl, HBr⟩ := hrel
          have hlt : j < n := by omega
          have t0 : decide ((j : Int) < (n : Int)) = true := decide_eq_true (by omega)
          have j0 : (0 : Int) ≤ (j : Int) := by omega
          have j1 : (j : Int) < (n : Int) := by omega
          have HGr := Lib.hid (HG11.out.trans (HBr.out.mono HG11.out.size))
          have HBx := Lib.hid (HB11.out.trans (HBr.out.mono HB11.out.size))
          obtain ⟨e0, e1, e2⟩ := KE.out wr HGr.out
          obtain ⟨x, hx⟩ : ∃ x, xs[j]? = some x := ⟨_, List.getElem?_eq_getElem (by have := HNN.out; omega)⟩
          have hx0 := HNAT.out x (List.mem_of_getElem? hx)
          obtain ⟨mx, rfl⟩ := Int.eq_ofNat_of_zero_le hx0
          obtain ⟨a4, c4, ee, _, _, hc4⟩ := HL11.out.keep (SameIn.of_below HBr.out (by have := HBr.out.size; exact Nat.le_refl _))
          cases ee
          rcases hc4 with hz | ⟨b4, off4, rfl, _, _, hc4⟩
          · omega
          have m3 : wr.cell? ⟨b4, off4 + j, none⟩ = some (.int .i64 mx) := by
            have e := flat_at intCells 1 (fun _ => rfl) xs j 0 _ hx (by omega)
            simp only [Nat.mul_one, Nat.add_zero] at e
            exact hc4 j _ (by rw [e]; rfl)
          have HXJ := Lib.hid hx
          clear hc4 hx hx0
          by_cases hji : j = i
          · subst hji
            have hmm : mx = m := by have := HXJ.out; rw [HI.out] at this; simp at this; omega
            subst hmm
            go_wp2_with fail
            go_region
            go_wp2_with fail
            go_ret
            exact ⟨rfl, HB1.out.trans (HBx.out.drew.mono HB1.out.size)⟩
          · have hq := HLOW.out j _ (by omega) HXJ.out
            have hne : mx ≠ m := fun e => by subst e; rw [HM.out] at hq; cases hq
            have q1 : decide ((mx : Int) = (m : Int)) = false := decide_eq_false (by omega)
            have q2 : ((mx : Int) == (m : Int)) = false := by rw [beq_eq_false_iff_ne]; omega
            have q3 : decide (mx = m) = false := decide_eq_false hne
            have q4 : (mx == m) = false := by simpa using hne
            have HQ := Lib.hid hq
            have HBd := Lib.hid HBx.out.drew
            have HBrd := Lib.hid HBr.out.drew
            clear hq hne
            go_wp2_with fail
            go_region
            go_wp2_with (first | (go_at_call 16; refine (CIS.out mx _ HBd.out).mono ?_; rintro e w12 ⟨rfl, hb12⟩; rw [HQ.out]; have HB12 := Lib.hid (HBrd.out.trans (hb12.mono HBrd.out.size)); clear hb12))
            go_roundw
            case rel => exact ⟨j + 1, by omega, by go_num, HB12⟩
            case measure => simp [intOf]; omega
      · have HX := Lib.hid (hx.trans ho2)
        have HLOW := Lib.hid hlow
        clear hx hr hnat ho hlow ho2
        go_enter Try.func4, Try.ntmps4
        go_upto_region 5 with (first
          | (go_at_call 9; rw [← HV.out]; refine CC.out.mono ?_; rintro e w3 ⟨vs, i1, i2, i3, j1, j2, j3, rfl, hs3, hb3⟩; have HS3 := Lib.hid hs3; have HB3 := Lib.hid hb3; clear hs3 hb3)
          | (go_at_call 8; refine (gnew_yes HF.out HS3.out (Nat.le_refl _) HIN.out HZ.out F HFF.out).mono ?_; rintro e w4 ⟨s, rfl, hs4, hb4⟩; have HS4 := Lib.hid hs4; have HB4 := Lib.hid (bel_next HB3.out hb4); obtain ⟨z0, z1, z2, z3, z4⟩ := KS.out _ HB4.out; clear hs4 hb4)
          | (go_at_call 6; refine (CL.out _ HB4.out).mono ?_; rintro e w5 ⟨rfl, hb5⟩; rw [HLT.out]; have HB5 := Lib.hid (bel_next HB4.out hb5); have HS5 := Lib.hid (HS4.out.later hb5); clear hb5 z0 z1 z2 z3 z4)
          | (go_at_call 7; refine (knows24_any _).mono ?_; rintro e w6 ⟨rfl, hb6⟩; have HB6 := Lib.hid (bel_next HB5.out hb6); have HS6 := Lib.hid (HS5.out.later hb6); clear hb6)
          | (go_at_call 14; refine (gat_any HS6.out HZ.out tick HT.out.1 HT.out.2 ra rn rc w.heap.size rs HN.out (KL.out.keep (SameIn.of_below HB6.out HSZ.out)) (Nat.le_trans HSZ.out HB6.out.size)).mono ?_; rintro e w7 ⟨rfl, hb7⟩; rw [HX.out, cho_mk]; have HB7 := Lib.hid (bel_next HB6.out hb7); have HS7 := Lib.hid (HS6.out.later hb7); clear hb7))
        have HE := Lib.hid (heap_alloc_new w7 (.cells #[.int .i64 2, .int .i64 k, .int .i64 (-1)] 54))
        have HB8 := Lib.hid (b_alloc HB7.out (Nat.le_refl _) (.cells #[.int .i64 2, .int .i64 k, .int .i64 (-1)] 54))
        have HS8 := Lib.hid (HS7.out.later (below1 w7 (.cells #[.int .i64 2, .int .i64 k, .int .i64 (-1)] 54)))
        obtain ⟨W8, hW8⟩ : ∃ W8, W8 = w7.alloc (.cells #[.int .i64 2, .int .i64 k, .int .i64 (-1)] 54) := ⟨_, rfl⟩
        obtain ⟨E, hE⟩ : ∃ E, E = w7.heap.size := ⟨_, rfl⟩
        rw [← hW8, ← hE] at HE
        rw [← hW8] at HB8 HS8
        rw [← hW8, ← hE]
        have KE : Hid (∀ W : World, Below W8.heap.size W8 W → W.cell? ⟨E, 0, none⟩ = some (.int .i64 2) ∧ W.cell? ⟨E, 1, none⟩ = some (.int .i64 k) ∧ W.cell? ⟨E, 2, none⟩ = some (.int .i64 (-1))) := Lib.hid (fun W hW => by
          have a := (hW.block E (lt_of_block HE.out)).trans HE.out
          exact ⟨cell_in a rfl, cell_in a rfl, cell_in a rfl⟩)
        clear hW8 hE
        obtain ⟨e0, e1, e2⟩ := KE.out W8 (Below.refl _ _)
        go_wp2_with (first
          | (go_at_call 16; refine (CIS.out k _ HB10.out).mono ?_; rintro e w11 ⟨rfl, hb11⟩; rw [HR.out]; have HB11 := Lib.hid (bel_next HB10.out hb11); have HG11 := Lib.hid (HG10.out.trans (hb11.mono HG10.out.size)); have HL11 := Lib.hid ((HL10.out.keep (SameIn.of_below hb11 (Nat.le_refl _))).wider (Nat.le_refl _) hb11.size); clear hb11)
          | (go_at_call 11; refine (gdonees_any HS8.out HZ.out (k : Int)).mono ?_; rintro e w10 ⟨ao, n', cap, rfl, hn', hl10, hb10⟩; rw [← HXS.out] at hn' hl10; have hnn' : n = n' := (by rw [← hn', HNN.out]); subst hnn'; have HL10 := Lib.hid hl10; have HB10 := Lib.hid (bel_next HB8.out hb10); have HG10 := Lib.hid hb10; obtain ⟨e0, e1, e2⟩ := KE.out w10 hb10; clear hl10 hb10 hn'))
        go_loopw [10] (fun s wr => ∃ j : Nat, j ≤ n ∧ s = .int .i64 j ∧ Hid (Below w11.heap.size w11 wr)) (fun s _ => n - (intOf s).toNat)
        case atStart => exact ⟨0, Nat.zero_le _, rfl, Lib.hid (Below.refl _ _)⟩
        case round =>
          clear e0 e1 e2
          obtain ⟨j, hj, rfl, HBr⟩ := hrel
          have HGr := Lib.hid (HG11.out.trans (HBr.out.mono HG11.out.size))
          have HBx := Lib.hid (HB11.out.trans (HBr.out.mono HB11.out.size))
          obtain ⟨e0, e1, e2⟩ := KE.out wr HGr.out
          by_cases hlt : j < n
          · have t0 : decide ((j : Int) < (n : Int)) = true := decide_eq_true (by omega)
            have j0 : (0 : Int) ≤ (j : Int) := by omega
            have j1 : (j : Int) < (n : Int) := by omega
            obtain ⟨x, hx⟩ : ∃ x, xs[j]? = some x := ⟨_, List.getElem?_eq_getElem (by have := HNN.out; omega)⟩
            have hx0 := HNAT.out x (List.mem_of_getElem? hx)
            obtain ⟨mx, rfl⟩ := Int.eq_ofNat_of_zero_le hx0
            obtain ⟨a4, c4, ee, _, _, hc4⟩ := HL11.out.keep (SameIn.of_below HBr.out (by have := HBr.out.size; exact Nat.le_refl _))
            cases ee
            rcases hc4 with hz | ⟨b4, off4, rfl, _, _, hc4⟩
            · omega
            have m3 : wr.cell? ⟨b4, off4 + j, none⟩ = some (.int .i64 mx) := by
              have e := flat_at intCells 1 (fun _ => rfl) xs j 0 _ hx (by omega)
              simp only [Nat.mul_one, Nat.add_zero] at e
              exact hc4 j _ (by rw [e]; rfl)
            have HQ := Lib.hid (HLOW.out j _ hx)
            have q1 : decide ((mx : Int) = -1) = false := decide_eq_false (by omega)
            have q2 : ((mx : Int) == -1) = false := by rw [beq_eq_false_iff_ne]; omega
            have HBd := Lib.hid HBx.out.drew
            have HBrd := Lib.hid HBr.out.drew
            clear hc4 hx hx0
            go_wp2_with fail
            go_region
            go_wp2_with (first | (go_at_call 16; refine (CIS.out mx _ HBd.out).mono ?_; rintro e w12 ⟨rfl, hb12⟩; rw [HQ.out]; have HB12 := Lib.hid (HBrd.out.trans (hb12.mono HBrd.out.size)); clear hb12))
            go_roundw
            case rel => exact ⟨j + 1, by omega, by go_num, HB12⟩
            case measure => simp [intOf]; omega
          · have t0 : decide ((j : Int) < (n : Int)) = false := decide_eq_false (by omega)
            go_wp2_with fail
            go_ret
            exact ⟨rfl, HB1.out.trans (HBx.out.mono HB1.out.size)⟩
end Go.Proofs.Ytmkohnpdpcefgaa
