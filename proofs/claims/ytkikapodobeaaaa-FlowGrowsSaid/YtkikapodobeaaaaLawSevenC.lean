/- A statement of the layer of who may learn of whom: what leads in is closed. -/
import Derived.Test.YtkikapodobeaaaaLawSevenB
namespace Go.Proofs.Ytkikapodobeaaaa
open Go.ChangeShapes Go.WideShapes Go.ChangeAt Go.RowKit
set_option linter.unusedVariables false
attribute [local go_sem ↓] Go.wp_at_zero Go.wp_at_succ

theorem closed_same {c : Cf} {l : List Int} {s t : List Bool} (hs : CutOf c l s) (ht : t.length = c.ps.length) (h : ∀ j : Nat, t[j]? = some true ↔ ((j : Int) ∈ l ∧ j < c.ps.length) ∨ ∃ b : Nat, isE c (j : Int) (b : Int) = true ∧ s[b]? = some true) : t = s := by
  refine CutOf.same ⟨ht, fun i => (h i).trans ?_⟩ hs
  constructor
  · rintro (⟨h1, h2⟩ | ⟨b, h1, h2⟩)
    · exact .of h1 (has_nat h2)
    · exact .on h1 ((hs.2 b).1 h2)
  · intro hl
    cases hl with
    | of h1 h2 => exact .inl ⟨h1, by have := hasB_true h2; omega⟩
    | @on _ b h1 h2 =>
      have hb := (isE_has h1).2
      have e : ((b.toNat : Nat) : Int) = b := by omega
      exact .inr ⟨b.toNat, by rw [e]; exact h1, (hs.2 _).2 (by rw [e]; exact h2)⟩
theorem BoolAt.ne {w : World} {G H : Nat} {s : List Bool} (h : BoolAt w G s) {o : Nat} {v : Value} (hc : w.cell? ⟨H, o, none⟩ = some v) (hv : ∀ b, v ≠ .bool b) : H ≠ G := by
  rintro rfl
  unfold BoolAt at h
  simp [World.cell?, h] at hc
  rcases hc with ⟨_, rfl⟩ | ⟨_, rfl⟩
  · exact hv _ rfl
  · exact hv _ rfl
set_option maxRecDepth 100000 in
set_option maxHeartbeats 8000000 in
theorem FlowClosed_body (wa pa ca : Option Addr) (wc pc cc : Nat) (la : Option Addr) (ln lc : Nat) (w : World) (c : Cf) (pvs : List Pv) (l : List Int) (h : SysL w w.heap.size c pvs wa pa ca wc pc cc) (hln : l.length = ln) (hl : Lies w 0 w.heap.size (.slice la ln lc) ln 1 (l.flatMap intCells)) :
    Calls Try.prog 5 #[.agg #[.int .i64 c.frame, .int .i64 c.margin, .slice wa c.ws.length wc, .slice pa c.ps.length pc, .slice ca c.cs.length cc], .slice la ln lc] w fun e w' => e = .returned (.bool true) ∧ Below w.heap.size w w' := by
  obtain ⟨i9, hi9, hy0, hy1, hy2⟩ := info_parts Try.infoBool
  have HJ := Lib.hid hi9
  clear hi9
  obtain ⟨V, hV⟩ : ∃ V, V = w.alloc (.cells #[.int .i64 c.frame, .int .i64 c.margin, .slice wa c.ws.length wc, .slice pa c.ps.length pc, .slice ca c.cs.length cc] 26) := ⟨_, rfl⟩
  have hB1 : Below w.heap.size w V := by rw [hV]; exact below1 _ _
  have hblk : V.heap[w.heap.size]? = some (.cells #[.int .i64 c.frame, .int .i64 c.margin, .slice wa c.ws.length wc, .slice pa c.ps.length pc, .slice ca c.cs.length cc] 26 (0, 0)) := by rw [hV]; exact heap_alloc_new _ _
  have ks := box_cells hblk
  have hvs : w.heap.size < V.heap.size := lt_of_block hblk
  have kk : ∀ W : World, Below V.heap.size V W → SysL W w.heap.size c pvs wa pa ca wc pc cc ∧ Lies W 0 w.heap.size (.slice la ln lc) ln 1 (l.flatMap intCells) ∧ w.heap.size ≤ W.heap.size := fun W g =>
    ⟨h.keep (SameIn.of_below (hB1.trans (g.mono hB1.size)) (Nat.le_refl _)), hl.keep (SameIn.of_below (hB1.trans (g.mono hB1.size)) (Nat.le_refl _)), Nat.le_trans hB1.size g.size⟩
  have SV := (kk V (Below.refl _ _)).1
  have CL := Lib.hid (light_any c.frame c.margin wa pa ca c.ws.length wc c.ps.length pc c.cs.length cc V 0 w.heap.size c pvs rfl rfl rfl SV.l2 SV.l3 hB1.size)
  have KS := Lib.hid ks; have KK := Lib.hid kk; have HB1 := Lib.hid hB1; have HV := Lib.hid hV; have HLN := Lib.hid hln
  clear ks hB1 SV hV hblk h hl hln kk
  by_cases hgo : lightB c = true ∧ ln ≤ 40
  · obtain ⟨hlt, h40⟩ := hgo
    have hf := light_bounds hlt
    have HF := Lib.hid hf
    have hpn := hf.2.1
    have hel : (edgesI c).length ≤ 1000000 := by
      rw [edgesI_is]
      have h1 := allTo_len c c.ps.length c.ps.length
      have h2 : c.ps.length * c.ps.length ≤ 1000 * 1000 := Nat.mul_le_mul hf.2.1 hf.2.1
      omega
    have HLT := Lib.hid hlt; clear hlt hf
    have t40 : decide ((40 : Int) < (ln : Int)) = false := by rw [decide_eq_false_iff_not]; omega
    go_enter Try.func5, Try.ntmps5
    go_wp2_with (first
      | (refine wpList_make_full _ (by rfl) (.tmp 32) (.tmp 32) 44 (by rfl) w5.heap.size 4 i9 _ 1 Try.underlying44 HJ.out hy0 hy1 _ _ c.ps.length c.ps.length c.ps.length (by rfl) (by rfl) rfl rfl (by rw [hy2]; omega) (by simp [maxLen]; omega) (Nat.le_refl _) ?_; intro w6 hown6 hgrow6)
      | (go_at_call 7; rw [← HV.out]; refine CL.out.mono ?_; rintro e w1 ⟨rfl, hb1⟩; rw [HLT.out]; obtain ⟨z0, z1, z2, z3, z4⟩ := KS.out _ hb1)
      | (go_at_call 8; refine (knows7_any _).mono ?_; rintro e w2 ⟨rfl, hb2⟩; obtain ⟨z0, z1, z2, z3, z4⟩ := KS.out _ (bel3 hb1 hb2))
      | (go_at_call 10; refine (config_sys HF.out (KK.out _ (bel3 hb1 hb2)).1 (KK.out _ (bel3 hb1 hb2)).2.2).mono ?_; rintro e w3 ⟨vs, i1, i2, i3, j1, j2, j3, rfl, hs3, hb3⟩; have hs3' := hs3.keep (SameIn.of_below (below1 w3 (.cells #[.int .i64 c.frame, .int .i64 c.margin, .slice i1 c.ws.length j1, .slice i2 c.ps.length j2, .slice i3 c.cs.length j3] 35)) (Nat.le_refl _)); have hx3 := heap_alloc_new w3 (.cells #[.int .i64 c.frame, .int .i64 c.margin, .slice i1 c.ws.length j1, .slice i2 c.ps.length j2, .slice i3 c.cs.length j3] 35); have hbc := bel3 hb1 (bel3 hb2 (bel3 hb3 (below1 w3 (.cells #[.int .i64 c.frame, .int .i64 c.margin, .slice i1 c.ws.length j1, .slice i2 c.ps.length j2, .slice i3 c.cs.length j3] 35)))))
      | (go_at_call 18; refine (cut_sys HF.out hs3' (by simp) la ln lc 0 w.heap.size l HLN.out (KK.out _ hbc).2.1 (KK.out _ hbc).2.2 (by omega)).mono ?_; rintro e w4 ⟨G4, s, rfl, hG4, hS4, hcut, hb4⟩; obtain ⟨u0, u1, u2, u3, u4⟩ := box_cells hx3 w4 hb4)
      | (go_at_call 9; refine (edges_sys HF.out (hs3'.keep (SameIn.of_below hb4 (by simp))) (by have := hb4.size; simp at this; omega)).mono ?_; rintro e w5 ⟨ea, ecap, rfl, ho5, hb5⟩; obtain ⟨u0, u1, u2, u3, u4⟩ := box_cells hx3 w5 (bel3 hb4 hb5))
      | go_in)
    have hbm : Below w5.heap.size w5 w6 := ⟨hgrow6.os, hgrow6.tape, hgrow6.output, hgrow6.size, fun b hb => hgrow6.block b hb (by simp)⟩
    have HT := Lib.hid (BoolAt.made (W := w5) (w' := w6) hown6)
    have hS6 := (hS4.later hb5).later hbm
    have hbv6 : Below V.heap.size V w6 := bel3 hbc (bel3 hb4 (bel3 hb5 hbm))
    have hE6 := (Lies.of_owns ho5).keep (SameIn.of_below hbm (Nat.le_refl _))
    have hx6 := (bel3 hb4 (bel3 hb5 hbm)).block _ (lt_of_block hx3) |>.trans hx3
    have hz1 := hb4.size; have hz2 := hb5.size; have hz3 := hbm.size
    have hg4 := lt_of_block hS4
    have hww : w.heap.size ≤ w3.heap.size := by have := (bel3 hb1 (bel3 hb2 hb3)).size; omega
    rw [World.size_alloc] at hz1
    obtain ⟨T, hTe⟩ : ∃ T, T = w5.heap.size := ⟨_, rfl⟩
    rw [← hTe] at HT hE6
    rw [← hTe]
    have hT6 := lt_of_block HT.out
    have hG4T : G4 ≠ T := by omega
    have hTG4 : T ≠ G4 := by omega
    have hX3 : w3.heap.size ≠ T := by omega
    have HBV6 := Lib.hid hbv6; have HS6 := Lib.hid hS6; have HE6 := Lib.hid hE6; have HX6 := Lib.hid hx6; have HCT := Lib.hid hcut
    have HTv : Hid (V.heap.size ≤ T) := Lib.hid (by have := (bel3 hbc (bel3 hb4 hb5)).size; omega)
    have HTe : Hid (w4.heap.size ≤ T ∧ T < w6.heap.size) := Lib.hid ⟨by omega, hT6⟩
    obtain ⟨el, hele⟩ : ∃ el, el = edgesI c := ⟨_, rfl⟩
    have HEL : Hid (∀ e, e ∈ el ↔ isE c e.1 e.2 = true) := Lib.hid (fun e => by rw [hele]; exact edgesI_mem)
    obtain ⟨m, hm⟩ : ∃ m, m = el.length := ⟨_, rfl⟩
    rw [← hele] at HE6 hel ⊢
    rw [← hm] at HE6 hel ⊢
    have HM := Lib.hid hm
    have hslen := hcut.1
    have HSL := Lib.hid hslen
    have hw5T : Hid (T = w5.heap.size) := Lib.hid hTe
    clear hown6 hgrow6 hbm hS6 hS4 hbv6 hE6 hx6 hx3 hs3' hs3 ho5 hbc hcut hb1 hb2 hb3 hb4 hb5 z0 z1 z2 z3 z4 u0 u1 u2 u3 u4 hele hm hslen hTe hz1 hz2 hz3
    go_loopw [9] (fun i wr => ∃ (k : Nat) (t : List Bool), k ≤ ln ∧ i = .int .i64 k ∧ Hid (BoolAt wr T t ∧ t.length = c.ps.length ∧ ∀ j : Nat, t[j]? = some true ↔ (j : Int) ∈ l.take k ∧ j < c.ps.length) ∧ But T w6 wr) (fun i _ => ln - (intOf i).toNat)
    case atStart =>
      refine ⟨0, _, by omega, rfl, Lib.hid ⟨HT.out, by simp, fun j => ⟨fun h => ?_, fun h => by simp at h⟩⟩, But.refl _ _⟩
      have := (List.getElem?_eq_some_iff.1 h).2
      simp at this
    case round =>
      obtain ⟨k, t, hk, rfl, HS, hb⟩ := hrel
      clear HT
      have hbsz := hb.size
      have hbV : Below V.heap.size V wr := HBV6.out.trans (hb.below HTv.out HBV6.out.size)
      have hSs : BoolAt wr G4 s := hb.at HS6.out hG4T
      by_cases hlt : k < ln
      · have tk : decide ((k : Int) < (ln : Int)) = true := by simpa using hlt
        obtain ⟨x, hx⟩ : ∃ x, l[k]? = some x := ⟨_, List.getElem?_eq_getElem (by rw [HLN.out]; exact hlt)⟩
        obtain ⟨a2, c2, ee, _, _, hc⟩ := (KK.out _ hbV).2.1
        cases ee
        rcases hc with h0 | ⟨g, off, rfl, hq1, hq2, hc⟩
        · omega
        have c0 := Lies.int hc hx
        have hgT : g ≠ T := HS.out.1.ne c0 (by intro b hb; cases hb)
        have hTg : T ≠ g := fun e => hgT e.symm
        have hgs := cell_lt c0
        have hXs : w3.heap.size < wr.heap.size := by have := lt_of_block HX6.out; omega
        have hX := hb.at HX6.out hX3
        have KC : Hid (∀ W : World, Below wr.heap.size wr W → Below wr.heap.size wr W ∧ W.cell? ⟨g, off + k, none⟩ = some (.int .i64 x) ∧ (W.cell? ⟨w3.heap.size, 0, none⟩ = some (.int .i64 c.frame) ∧ W.cell? ⟨w3.heap.size, 1, none⟩ = some (.int .i64 c.margin) ∧ W.cell? ⟨w3.heap.size, 2, none⟩ = some (.slice i1 c.ws.length j1) ∧ W.cell? ⟨w3.heap.size, 3, none⟩ = some (.slice i2 c.ps.length j2) ∧ W.cell? ⟨w3.heap.size, 4, none⟩ = some (.slice i3 c.cs.length j3))) := Lib.hid (fun W hW => ⟨hW, (hW.cell (p := ⟨g, off + k, none⟩) hgs).trans c0, box_cells hX W hW⟩)
        obtain ⟨_, q0, u0, u1, u2, u3, u4⟩ := KC.out wr (Below.refl _ _)
        have HTK := Lib.hid (take_snoc hx)
        have HMEM := Lib.hid (List.mem_of_getElem? hx)
        have l0 : (0 : Int) ≤ (k : Int) := by omega
        have l1 : (k : Int) < (ln : Int) := by omega
        have HSs := Lib.hid hSs
        clear hx hc hX c0 hSs
        cases hh2 : hasB c.ps.length x with
        | false =>
          have HX := Lib.hid hh2; clear hh2
          go_wp2_with fail
          go_region_held3 (fun W => Below wr.heap.size wr W ∧ W.cell? ⟨g, off + k, none⟩ = some (.int .i64 x) ∧ (W.cell? ⟨w3.heap.size, 0, none⟩ = some (.int .i64 c.frame) ∧ W.cell? ⟨w3.heap.size, 1, none⟩ = some (.int .i64 c.margin) ∧ W.cell? ⟨w3.heap.size, 2, none⟩ = some (.slice i1 c.ws.length j1) ∧ W.cell? ⟨w3.heap.size, 3, none⟩ = some (.slice i2 c.ps.length j2) ∧ W.cell? ⟨w3.heap.size, 4, none⟩ = some (.slice i3 c.cs.length j3)))
            (first | exact KC.out _ ((Below.refl _ _).drew) | exact KC.out _ (Below.refl _ _) | exact KC.out _ (by assumption))
            (first | (go_at_call 20; refine (has_any _ _ _ _ _ _ _ _ _ _ _ _ _).mono ?_; rintro e w8 ⟨rfl, hb8⟩; rw [HX.out]; have hbn : Below wr.heap.size wr w8 := ((Below.refl wr.heap.size wr).drew).trans hb8))
          go_wp2
          go_roundw
          case rel =>
            refine ⟨k + 1, t, by omega, by go_num, Lib.hid ⟨HS.out.1.later hbn, HS.out.2.1, fun j => ?_⟩, hb.trans (But.of_below hbn)⟩
            rw [HS.out.2.2 j, HTK.out]
            constructor
            · rintro ⟨h1, h2⟩; exact ⟨List.mem_append_left _ h1, h2⟩
            · rintro ⟨h1, h2⟩
              rcases List.mem_append.1 h1 with h1 | h1
              · exact ⟨h1, h2⟩
              · simp at h1
                have := hasB_false HX.out
                omega
          case measure => simp [intOf]; omega
        | true =>
          have hr := hasB_true hh2
          obtain ⟨j, rfl⟩ : ∃ j : Nat, x = (j : Int) := ⟨x.toNat, by omega⟩
          have hjn : j < c.ps.length := by omega
          have y0 : (0 : Int) ≤ (j : Int) := by omega
          have y1 : (j : Int) < (c.ps.length : Int) := by omega
          have HSJ : Hid (s[j]? = some true) := Lib.hid ((HCT.out.2 j).2 (.of HMEM.out hh2))
          have HX := Lib.hid hh2; clear hh2
          obtain ⟨bj, hbj⟩ : ∃ bj, t[j]? = some bj := ⟨_, List.getElem?_eq_getElem (by rw [HS.out.2.1]; exact hjn)⟩
          have HBJ := Lib.hid hbj
          clear hbj
          go_wp2_with fail
          go_region_held3 (fun W => Below wr.heap.size wr W ∧ W.cell? ⟨g, off + k, none⟩ = some (.int .i64 (j : Int)) ∧ (W.cell? ⟨w3.heap.size, 0, none⟩ = some (.int .i64 c.frame) ∧ W.cell? ⟨w3.heap.size, 1, none⟩ = some (.int .i64 c.margin) ∧ W.cell? ⟨w3.heap.size, 2, none⟩ = some (.slice i1 c.ws.length j1) ∧ W.cell? ⟨w3.heap.size, 3, none⟩ = some (.slice i2 c.ps.length j2) ∧ W.cell? ⟨w3.heap.size, 4, none⟩ = some (.slice i3 c.cs.length j3)))
            (first | exact KC.out _ ((Below.refl _ _).drew) | exact KC.out _ (Below.refl _ _) | exact KC.out _ (by assumption))
            (first | (go_at_call 20; refine (has_any _ _ _ _ _ _ _ _ _ _ _ _ _).mono ?_; rintro e w8 ⟨rfl, hb8⟩; rw [HX.out]; have hbn : Below wr.heap.size wr w8 := ((Below.refl wr.heap.size wr).drew).trans hb8))
          have e0 := ((HS.out.1.later hbn).cell HBJ.out).1
          have e1 := ((HS.out.1.later hbn).cell HBJ.out).2
          have e2 := ((HSs.out.later hbn).cell HSJ.out).1
          go_wp2
          go_roundw
          case rel =>
            have hjs : j < t.length := by rw [HS.out.2.1]; exact hjn
            refine ⟨k + 1, t.set j true, by omega, by go_num, Lib.hid ⟨(HS.out.1.later hbn).set j true, by rw [List.length_set]; exact HS.out.2.1, fun i => ?_⟩, (hb.trans (But.of_below hbn)).set j _⟩
            rw [set_true hjs, HS.out.2.2 i, HTK.out, List.mem_append, List.mem_singleton]
            constructor
            · rintro (rfl | ⟨h1, h2⟩)
              · exact ⟨.inr rfl, hjn⟩
              · exact ⟨.inl h1, h2⟩
            · rintro ⟨h1 | h1, h2⟩
              · exact .inr ⟨h1, h2⟩
              · exact .inl (by omega)
          case measure => simp [intOf]; omega
      · have tk : decide ((k : Int) < (ln : Int)) = false := by simp; omega
        have HS2 : Hid (BoolAt wr T t ∧ t.length = c.ps.length ∧ ∀ j : Nat, t[j]? = some true ↔ ((j : Int) ∈ l ∧ j < c.ps.length) ∨ ∃ b : Nat, ((j : Int), (b : Int)) ∈ el.take 0 ∧ s[b]? = some true) := Lib.hid ⟨HS.out.1, HS.out.2.1, fun j => by rw [HS.out.2.2 j, List.take_of_length_le (by rw [HLN.out]; omega)]; simp⟩
        clear HS hSs hbV
        go_wp2
        go_loopw [10] (fun i wr => ∃ (k : Nat) (t : List Bool), k ≤ m ∧ i = .int .i64 k ∧ Hid (BoolAt wr T t ∧ t.length = c.ps.length ∧ ∀ j : Nat, t[j]? = some true ↔ ((j : Int) ∈ l ∧ j < c.ps.length) ∨ ∃ b : Nat, ((j : Int), (b : Int)) ∈ el.take k ∧ s[b]? = some true) ∧ But T w6 wr) (fun i _ => m - (intOf i).toNat)
        case atStart => exact ⟨0, t, by omega, rfl, HS2, hb⟩
        case round =>
          clear HS2 hb hbsz hlt hk tk
          obtain ⟨k, t, hk, rfl, HS, hb⟩ := hrel
          have hbsz := hb.size
          have hSs : BoolAt wr G4 s := hb.at HS6.out hG4T
          by_cases hlt : k < m
          · have tk : decide ((k : Int) < (m : Int)) = true := by simpa using hlt
            obtain ⟨x, hx⟩ : ∃ x, el[k]? = some x := ⟨_, List.getElem?_eq_getElem (by rw [← HM.out]; exact hlt)⟩
            obtain ⟨a2, c2', ee, _, _, hc⟩ := HE6.out.keep (hb.same (lo := w4.heap.size) (hi := T) (.inr (Nat.le_refl _)) (Nat.le_of_lt HTe.out.2))
            cases ee
            rcases hc with h0 | ⟨g1, o1, rfl, q1, q2, hc⟩
            · omega
            have fx := fun j hj => flat_at eC 2 eC_len el k j x hx hj
            have c0 : wr.cell? ⟨g1, o1 + k * 2, none⟩ = some (.int .i64 x.1) := hc (k * 2) _ ((fx 0 (by omega)).trans rfl)
            have c1 : wr.cell? ⟨g1, o1 + k * 2 + 1, none⟩ = some (.int .i64 x.2) := by have := hc (k * 2 + 1) _ ((fx 1 (by omega)).trans rfl); rwa [← Nat.add_assoc] at this
            have hE := (HEL.out x).1 (List.mem_of_getElem? hx)
            have hh := isE_has hE
            obtain ⟨x1, x2⟩ := x
            obtain ⟨a, rfl⟩ : ∃ a : Nat, x1 = (a : Int) := ⟨x1.toNat, by have := hh.1; simp at this; omega⟩
            obtain ⟨b, rfl⟩ : ∃ b : Nat, x2 = (b : Int) := ⟨x2.toNat, by have := hh.2; simp at this; omega⟩
            simp only at hE hh c0 c1
            have a0 : (0 : Int) ≤ (a : Int) := by omega
            have a1 : (a : Int) < (c.ps.length : Int) := by omega
            have b0 : (0 : Int) ≤ (b : Int) := by omega
            have b1 : (b : Int) < (c.ps.length : Int) := by omega
            have hT1 : T ≠ g1 := by omega
            have hT2 : g1 ≠ T := by omega
            have l0 : (0 : Int) ≤ (k : Int) := by omega
            have l1 : (k : Int) < (m : Int) := by omega
            obtain ⟨sb, hsb⟩ : ∃ sb, s[b]? = some sb := ⟨_, List.getElem?_eq_getElem (by rw [HSL.out]; omega)⟩
            have e0 := (hSs.cell hsb).1
            have HTK := Lib.hid (take_snoc hx)
            have HE := Lib.hid hE; have HSB := Lib.hid hsb
            clear hx hc fx hE hh
            cases sb with
            | false =>
              clear hsb
              go_wp2
              go_roundw
              case rel =>
                refine ⟨k + 1, t, by omega, by go_num, Lib.hid ⟨HS.out.1, HS.out.2.1, fun j => ?_⟩, hb⟩
                rw [HS.out.2.2 j, HTK.out]
                constructor
                · rintro (h | ⟨b', h1, h2⟩)
                  · exact .inl h
                  · exact .inr ⟨b', List.mem_append_left _ h1, h2⟩
                · rintro (h | ⟨b', h1, h2⟩)
                  · exact .inl h
                  · rcases List.mem_append.1 h1 with h1 | h1
                    · exact .inr ⟨b', h1, h2⟩
                    · simp at h1
                      obtain ⟨_, h3⟩ := h1
                      have : b' = b := by omega
                      subst this
                      rw [HSB.out] at h2
                      cases h2
              case measure => simp [intOf]; omega
            | true =>
              have hsa : s[a]? = some true := (HCT.out.2 a).2 (.on HE.out ((HCT.out.2 b).1 hsb))
              have e1 := (hSs.cell hsa).1
              obtain ⟨ta, hta⟩ : ∃ ta, t[a]? = some ta := ⟨_, List.getElem?_eq_getElem (by rw [HS.out.2.1]; omega)⟩
              have e2 := (HS.out.1.cell hta).1
              have e3 := (HS.out.1.cell hta).2
              clear hsb hsa hta
              go_wp2
              go_roundw
              case rel =>
                have has : a < t.length := by rw [HS.out.2.1]; omega
                refine ⟨k + 1, t.set a true, by omega, by go_num, Lib.hid ⟨HS.out.1.set a true, by rw [List.length_set]; exact HS.out.2.1, fun j => ?_⟩, hb.set a _⟩
                rw [set_true has, HS.out.2.2 j, HTK.out]
                constructor
                · rintro (rfl | h | ⟨b', h1, h2⟩)
                  · exact .inr ⟨b, by simp, HSB.out⟩
                  · exact .inl h
                  · exact .inr ⟨b', List.mem_append_left _ h1, h2⟩
                · rintro (h | ⟨b', h1, h2⟩)
                  · exact .inr (.inl h)
                  · rcases List.mem_append.1 h1 with h1 | h1
                    · exact .inr (.inr ⟨b', h1, h2⟩)
                    · simp at h1
                      exact .inl (by omega)
              case measure => simp [intOf]; omega
          · have tk : decide ((k : Int) < (m : Int)) = false := by simp; omega
            have hts : t = s := closed_same HCT.out HS.out.2.1 (fun j => by
              rw [HS.out.2.2 j, List.take_of_length_le (by rw [← HM.out]; omega)]
              refine or_congr Iff.rfl ⟨?_, ?_⟩
              · rintro ⟨b, h1, h2⟩; exact ⟨b, (HEL.out _).1 h1, h2⟩
              · rintro ⟨b, h1, h2⟩; exact ⟨b, (HEL.out _).2 h1, h2⟩)
            have HT2 := Lib.hid HS.out.1
            have HSs := Lib.hid hSs
            subst hts
            have HBC := Lib.hid (bools7_same (some ⟨T, 0, none⟩) (some ⟨G4, 0, none⟩) c.ps.length c.ps.length c.ps.length wr _ _ _ _ t HSL.out (HT2.out.lies HSL.out) (HSs.out.lies HSL.out) (lt_of_block HT2.out) (lt_of_block HSs.out) (by omega))
            have HBW : Hid (Below V.heap.size V wr) := Lib.hid (HBV6.out.trans (hb.below HTv.out HBV6.out.size))
            clear HS hSs
            go_wp2_with (first | (go_at_call 17; refine HBC.out.mono ?_; rintro e w9 ⟨rfl, hb9⟩))
            go_ret
            exact ⟨rfl, HB1.out.trans ((bel3 HBW.out hb9).mono HB1.out.size)⟩
  · have hno : lightB c = false ∨ (lightB c = true ∧ 40 < ln) := by
      cases hh : lightB c with
      | false => exact .inl rfl
      | true => exact .inr ⟨rfl, Nat.lt_of_not_le (fun hc => hgo ⟨hh, hc⟩)⟩
    rcases hno with hno | ⟨hno, h40⟩
    · have HLT := Lib.hid hno; clear hno hgo
      go_enter Try.func5, Try.ntmps5
      go_wp2_with (first
        | (go_at_call 7; rw [← HV.out]; refine CL.out.mono ?_; rintro e w1 ⟨rfl, hb1⟩; rw [HLT.out])
        | (go_at_call 8; refine (knows7_any _).mono ?_; rintro e w2 ⟨rfl, hb2⟩))
      go_ret
      exact ⟨rfl, HB1.out.trans ((bel3 hb1 hb2).mono HB1.out.size)⟩
    · have HLT := Lib.hid hno; clear hno hgo
      have t40 : decide ((40 : Int) < (ln : Int)) = true := by rw [decide_eq_true_eq]; omega
      go_enter Try.func5, Try.ntmps5
      go_wp2_with (first
        | (go_at_call 7; rw [← HV.out]; refine CL.out.mono ?_; rintro e w1 ⟨rfl, hb1⟩; rw [HLT.out])
        | (go_at_call 8; refine (knows7_any _).mono ?_; rintro e w2 ⟨rfl, hb2⟩))
      go_ret
      exact ⟨rfl, HB1.out.trans ((bel3 hb1 hb2).mono HB1.out.size)⟩
end Go.Proofs.Ytkikapodobeaaaa
