/- A statement of the layer of who may learn of whom: who leads into any partitions. -/
import Derived.Test.YtkikapodobeaaaaLawSevenA
namespace Go.Proofs.Ytkikapodobeaaaa
open Go.ChangeShapes Go.WideShapes Go.ChangeAt Go.RowKit
set_option linter.unusedVariables false
attribute [local go_sem ↓] Go.wp_at_zero Go.wp_at_succ

theorem intsOf_row {w : World} {base n : Nat} {a : Option Addr} {cap : Nat} {s : List Bool} (h : w.ownsRow base 3 1 (.slice a (intsOf s).length cap) (intsOf s).length ((intsOf s).flatMap intCells)) : Lies w base w.heap.size (.slice a (intsOf s).length cap) (intsOf s).length 1 ((intsOf s).map fun x => ValInt x) := by
  have := Lies.of_owns h
  rwa [flat_int] at this
set_option maxRecDepth 100000 in
set_option maxHeartbeats 8000000 in
theorem FlowInto_body (wa pa ca : Option Addr) (wc pc cc : Nat) (la : Option Addr) (ln lc : Nat) (x y : Int) (w : World) (c : Cf) (pvs : List Pv) (l : List Int) (h : SysL w w.heap.size c pvs wa pa ca wc pc cc) (hln : l.length = ln) (hl : Lies w 0 w.heap.size (.slice la ln lc) ln 1 (l.flatMap intCells)) :
    Calls Try.prog 4 #[.agg #[.int .i64 c.frame, .int .i64 c.margin, .slice wa c.ws.length wc, .slice pa c.ps.length pc, .slice ca c.cs.length cc], .slice la ln lc, .int .i64 x, .int .i64 y] w fun e w' => e = .returned (.bool true) ∧ Below w.heap.size w w' := by
  obtain ⟨V, hV⟩ : ∃ V, V = w.alloc (.cells #[.int .i64 c.frame, .int .i64 c.margin, .slice wa c.ws.length wc, .slice pa c.ps.length pc, .slice ca c.cs.length cc] 26) := ⟨_, rfl⟩
  have hB1 : Below w.heap.size w V := by rw [hV]; exact below1 _ _
  have hblk : V.heap[w.heap.size]? = some (.cells #[.int .i64 c.frame, .int .i64 c.margin, .slice wa c.ws.length wc, .slice pa c.ps.length pc, .slice ca c.cs.length cc] 26 (0, 0)) := by rw [hV]; exact heap_alloc_new _ _
  have ks := box_cells hblk
  have hvs : w.heap.size < V.heap.size := lt_of_block hblk
  have kk : ∀ W : World, Below V.heap.size V W → SysL W w.heap.size c pvs wa pa ca wc pc cc ∧ Lies W 0 w.heap.size (.slice la ln lc) ln 1 (l.flatMap intCells) ∧ w.heap.size ≤ W.heap.size := fun W g =>
    ⟨h.keep (SameIn.of_below (hB1.trans (g.mono hB1.size)) (Nat.le_refl _)), hl.keep (SameIn.of_below (hB1.trans (g.mono hB1.size)) (Nat.le_refl _)), Nat.le_trans hB1.size g.size⟩
  have SV := (kk V (Below.refl _ _)).1
  have CL := Lib.hid (light_any c.frame c.margin wa pa ca c.ws.length wc c.ps.length pc c.cs.length cc V 0 w.heap.size c pvs rfl rfl rfl SV.l2 SV.l3 hB1.size)
  have KS := Lib.hid ks; have KK := Lib.hid kk; have HB1 := Lib.hid hB1; have HV := Lib.hid hV; have HLN := Lib.hid hln
  clear ks hB1 SV hV hblk h hl hln kk
  by_cases hgo : lightB c = true ∧ ln ≤ 40
  · obtain ⟨hlt, h40⟩ := hgo
    have hf := light_bounds hlt
    have HF := Lib.hid hf
    have hpn := hf.2.1
    have HLT := Lib.hid hlt; clear hlt hf
    have t40 : decide ((40 : Int) < (ln : Int)) = false := by rw [decide_eq_false_iff_not]; omega
    have hx : hasB c.ps.length x = false ∨ ∃ j : Nat, x = (j : Int) ∧ j < c.ps.length := by
      cases hh : hasB c.ps.length x with
      | false => exact .inl rfl
      | true => have := hasB_true hh; exact .inr ⟨x.toNat, by omega, by omega⟩
    rcases hx with hx | ⟨j, rfl, hj⟩
    · have HX := Lib.hid hx
      clear hx
      go_enter Try.func4, Try.ntmps4
      go_wp2_with (first
        | (go_at_call 7; rw [← HV.out]; refine CL.out.mono ?_; rintro e w1 ⟨rfl, hb1⟩; rw [HLT.out]; obtain ⟨z0, z1, z2, z3, z4⟩ := KS.out _ hb1)
        | (go_at_call 10; refine (config_sys HF.out (KK.out _ hb1).1 (KK.out _ hb1).2.2).mono ?_; rintro e w2 ⟨vs, i1, i2, i3, j1, j2, j3, rfl, hs2, hb2⟩; obtain ⟨z0, z1, z2, z3, z4⟩ := KS.out _ (bel3 hb1 hb2); have hlt2 : w.heap.size < w2.heap.size := by (have := hb1.size; have := hb2.size; omega))
        | (go_at_call 12; refine (refHas_any _ _ _ _ _ _ _ _ _ _ _ _ _).mono ?_; rintro e w5 ⟨rfl, hb5⟩; rw [HX.out]))
      have HB5 := Lib.hid (bel3 hb1 (bel3 hb2 (bel3 (below1 _ _) hb5)))
      have hb25 : Below w2.heap.size w2 w5 := bel3 (below1 _ _) hb5
      have hbx := (hb5.block _ (by simp)).trans (heap_alloc_new w2 (.cells #[.int .i64 c.frame, .int .i64 c.margin, .slice i1 c.ws.length j1, .slice i2 c.ps.length j2, .slice i3 c.cs.length j3] 35))
      have HRB : Hid (∀ b : Bool, (b = true ↔ Leads c [y] x) → b = false) := Lib.hid (fun b hb => by
        cases b with
        | false => rfl
        | true => exact absurd (hb.1 rfl).has (hasB_false HX.out))
      have hbv : Below V.heap.size V w5 := HB5.out
      have hx5 : SysL w5 w2.heap.size c vs i1 i2 i3 j1 j2 j3 := hs2.keep (SameIn.of_below hb25 (Nat.le_refl _))
      have hsz5 := hb25.size
      have ks5 : ∀ W : World, Below w5.heap.size w5 W → Below w5.heap.size w5 W ∧ (W.cell? ⟨w.heap.size, 0, none⟩ = some (.int .i64 c.frame) ∧ W.cell? ⟨w.heap.size, 1, none⟩ = some (.int .i64 c.margin) ∧ W.cell? ⟨w.heap.size, 2, none⟩ = some (.slice wa c.ws.length wc) ∧ W.cell? ⟨w.heap.size, 3, none⟩ = some (.slice pa c.ps.length pc) ∧ W.cell? ⟨w.heap.size, 4, none⟩ = some (.slice ca c.cs.length cc)) ∧ (W.cell? ⟨w2.heap.size, 0, none⟩ = some (.int .i64 c.frame) ∧ W.cell? ⟨w2.heap.size, 1, none⟩ = some (.int .i64 c.margin) ∧ W.cell? ⟨w2.heap.size, 2, none⟩ = some (.slice i1 c.ws.length j1) ∧ W.cell? ⟨w2.heap.size, 3, none⟩ = some (.slice i2 c.ps.length j2) ∧ W.cell? ⟨w2.heap.size, 4, none⟩ = some (.slice i3 c.cs.length j3)) := fun W g =>
        ⟨g, KS.out _ (bel3 hbv g), box_cells hbx W g⟩
      have CI : Hid (∀ X : World, Below w5.heap.size w5 X → Calls Try.prog 15 #[.agg #[.int .i64 c.frame, .int .i64 c.margin, .slice i1 c.ws.length j1, .slice i2 c.ps.length j2, .slice i3 c.cs.length j3], .slice la ln lc] X fun e w' => ∃ (a : Option Addr) (cap : Nat) (s : List Bool), e = .returned (.slice a (intsOf s).length cap) ∧ w'.ownsRow X.heap.size 3 1 (.slice a (intsOf s).length cap) (intsOf s).length ((intsOf s).flatMap intCells) ∧ CutOf c l s ∧ Below X.heap.size X w') := Lib.hid (fun X g => into_sys HF.out (hx5.keep (SameIn.of_below g hsz5)) (Nat.le_trans hsz5 g.size) la ln lc 0 w.heap.size l HLN.out (KK.out _ (bel3 hbv g)).2.1 (KK.out _ (bel3 hbv g)).2.2 (by omega))
      have CJ : Hid (∀ X : World, Below w5.heap.size w5 X → Calls Try.prog 16 #[.agg #[.int .i64 c.frame, .int .i64 c.margin, .slice wa c.ws.length wc, .slice pa c.ps.length pc, .slice ca c.cs.length cc], .slice la ln lc] X fun e w' => ∃ (a : Option Addr) (cap : Nat) (s : List Bool), e = .returned (.slice a (intsOf s).length cap) ∧ w'.ownsRow X.heap.size 3 1 (.slice a (intsOf s).length cap) (intsOf s).length ((intsOf s).flatMap intCells) ∧ CutOf c l s ∧ Below X.heap.size X w') := Lib.hid (fun X g => refInto_sys HF.out (KK.out _ (bel3 hbv g)).1 (KK.out _ (bel3 hbv g)).2.2 la ln lc 0 w.heap.size l HLN.out (KK.out _ (bel3 hbv g)).2.1 (KK.out _ (bel3 hbv g)).2.2 (by omega))
      have CC : Hid (∀ X : World, Below w5.heap.size w5 X → Calls Try.prog 18 #[.agg #[.int .i64 c.frame, .int .i64 c.margin, .slice i1 c.ws.length j1, .slice i2 c.ps.length j2, .slice i3 c.cs.length j3], .slice la ln lc] X fun e w' => ∃ (G : Nat) (s : List Bool), e = .returned (.slice (some ⟨G, 0, none⟩) c.ps.length c.ps.length) ∧ X.heap.size ≤ G ∧ BoolAt w' G s ∧ CutOf c l s ∧ Below X.heap.size X w') := Lib.hid (fun X g => cut_sys HF.out (hx5.keep (SameIn.of_below g hsz5)) (Nat.le_trans hsz5 g.size) la ln lc 0 w.heap.size l HLN.out (KK.out _ (bel3 hbv g)).2.1 (KK.out _ (bel3 hbv g)).2.2 (by omega))
      have CD : Hid (∀ X : World, Below w5.heap.size w5 X → Calls Try.prog 13 #[.agg #[.int .i64 c.frame, .int .i64 c.margin, .slice wa c.ws.length wc, .slice pa c.ps.length pc, .slice ca c.cs.length cc], .slice la ln lc] X fun e w' => ∃ (G : Nat) (s : List Bool), e = .returned (.slice (some ⟨G, 0, none⟩) c.ps.length c.ps.length) ∧ X.heap.size ≤ G ∧ BoolAt w' G s ∧ CutOf c l s ∧ Below X.heap.size X w') := Lib.hid (fun X g => refCut_sys HF.out (KK.out _ (bel3 hbv g)).1 (KK.out _ (bel3 hbv g)).2.2 la ln lc 0 w.heap.size l HLN.out (KK.out _ (bel3 hbv g)).2.1 (KK.out _ (bel3 hbv g)).2.2 (by omega))
      have CR : Hid (∀ X : World, Below w5.heap.size w5 X → ∀ x y : Int, Calls Try.prog 19 #[.agg #[.int .i64 c.frame, .int .i64 c.margin, .slice i1 c.ws.length j1, .slice i2 c.ps.length j2, .slice i3 c.cs.length j3], .int .i64 x, .int .i64 y] X fun e w' => ∃ b : Bool, e = .returned (.bool b) ∧ (b = true ↔ Leads c [y] x) ∧ Below X.heap.size X w') := Lib.hid (fun X g x y => reaches_sys HF.out (hx5.keep (SameIn.of_below g hsz5)) (Nat.le_trans hsz5 g.size) x y)
      have KS5 := Lib.hid ks5
      obtain ⟨_, ⟨z0, z1, z2, z3, z4⟩, u0, u1, u2, u3, u4⟩ := ks5 w5 (Below.refl _ _)
      clear ks5 hx5 hbx hbv hb25 hs2 hsz5 hb1 hb2
      go_region_held3 (fun W => Below w5.heap.size w5 W ∧ (W.cell? ⟨w.heap.size, 0, none⟩ = some (.int .i64 c.frame) ∧ W.cell? ⟨w.heap.size, 1, none⟩ = some (.int .i64 c.margin) ∧ W.cell? ⟨w.heap.size, 2, none⟩ = some (.slice wa c.ws.length wc) ∧ W.cell? ⟨w.heap.size, 3, none⟩ = some (.slice pa c.ps.length pc) ∧ W.cell? ⟨w.heap.size, 4, none⟩ = some (.slice ca c.cs.length cc)) ∧ (W.cell? ⟨w2.heap.size, 0, none⟩ = some (.int .i64 c.frame) ∧ W.cell? ⟨w2.heap.size, 1, none⟩ = some (.int .i64 c.margin) ∧ W.cell? ⟨w2.heap.size, 2, none⟩ = some (.slice i1 c.ws.length j1) ∧ W.cell? ⟨w2.heap.size, 3, none⟩ = some (.slice i2 c.ps.length j2) ∧ W.cell? ⟨w2.heap.size, 4, none⟩ = some (.slice i3 c.cs.length j3)))
        (first | exact KS5.out _ ((Below.refl _ _).drew) | exact KS5.out _ (by assumption))
        (first
          | (go_at_call 15; refine (CI.out _ (by first | assumption | exact Below.refl _ _ | exact (Below.refl _ _).drew)).mono ?_; rintro e w6 ⟨a6, c6, s6, rfl, o6, k6, b6⟩; have n6 : Below w5.heap.size w5 w6 := bel3 (by first | assumption | exact Below.refl _ _ | exact (Below.refl _ _).drew) b6)
          | (go_at_call 16; refine (CJ.out _ n6).mono ?_; rintro e w7 ⟨a7, c7, s7, rfl, o7, k7, b7⟩; have n7 : Below w5.heap.size w5 w7 := bel3 n6 b7; obtain rfl : s7 = s6 := k7.same k6)
          | (go_at_call 14; refine (ints7_same _ _ _ _ _ w7 _ _ _ _ (intsOf s7) rfl ((intsOf_row (n := 0) o6).keep (SameIn.of_below b7 (Nat.le_refl _))) (intsOf_row (n := 0) o7) b7.size (Nat.le_refl _) (by have := intsTo_len s7 s7.length; have := k6.1; unfold intsOf; omega)).mono ?_; rintro e w8 ⟨rfl, b8⟩; have n8 : Below w5.heap.size w5 w8 := bel3 n7 b8)
          | (go_at_call 18; refine (CC.out _ n8).mono ?_; rintro e w9 ⟨G9, s9, rfl, _, o9, k9, b9⟩; have n9 : Below w5.heap.size w5 w9 := bel3 n8 b9)
          | (go_at_call 13; refine (CD.out _ n9).mono ?_; rintro e w10 ⟨G10, s10, rfl, _, o10, k10, b10⟩; have n10 : Below w5.heap.size w5 w10 := bel3 n9 b10; obtain rfl : s10 = s9 := k10.same k9)
          | (go_at_call 17; refine (bools7_same _ _ _ _ _ w10 _ _ _ _ s10 k10.1 ((o9.later b10).lies k10.1) (o10.lies k10.1) (lt_of_block (o9.later b10)) (lt_of_block o10) (by omega)).mono ?_; rintro e w11 ⟨rfl, b11⟩; have n11 : Below w5.heap.size w5 w11 := bel3 n10 b11)
          | (go_at_call 19; refine (CR.out _ n11 _ _).mono ?_; rintro e w12 ⟨b, rfl, hbl, b12⟩; have n12 : Below w5.heap.size w5 w12 := bel3 n11 b12; have hbe := HRB.out b hbl; subst hbe)
          | (go_at_call 8; refine (knows7_any _).mono ?_; rintro e w13 ⟨rfl, b13⟩; have n13 : Below w5.heap.size w5 w13 := bel3 n12 b13))
      go_wp2
      go_ret
      exact ⟨rfl, HB1.out.trans ((bel3 HB5.out n13).mono HB1.out.size)⟩
    · have HX : Hid (hasB c.ps.length (j : Int) = true) := Lib.hid (has_nat hj)
      have j0 : (0 : Int) ≤ (j : Int) := by omega
      have j1' : (j : Int) < (c.ps.length : Int) := by omega
      go_enter Try.func4, Try.ntmps4
      go_wp2_with (first
        | (go_at_call 7; rw [← HV.out]; refine CL.out.mono ?_; rintro e w1 ⟨rfl, hb1⟩; rw [HLT.out]; obtain ⟨z0, z1, z2, z3, z4⟩ := KS.out _ hb1)
        | (go_at_call 10; refine (config_sys HF.out (KK.out _ hb1).1 (KK.out _ hb1).2.2).mono ?_; rintro e w2 ⟨vs, i1, i2, i3, j1, j2, j3, rfl, hs2, hb2⟩; obtain ⟨z0, z1, z2, z3, z4⟩ := KS.out _ (bel3 hb1 hb2); have hlt2 : w.heap.size < w2.heap.size := by (have := hb1.size; have := hb2.size; omega))
        | (go_at_call 12; refine (refHas_any _ _ _ _ _ _ _ _ _ _ _ _ _).mono ?_; rintro e w4 ⟨rfl, hb4⟩; rw [HX.out]; obtain ⟨z0, z1, z2, z3, z4⟩ := KS.out _ (bel3 hb1 (bel3 hb2 (bel3 (below1 _ _) hb4))))
        | (go_at_call 13; refine (refCut_sys HF.out (KK.out _ (bel3 hb1 (bel3 hb2 (bel3 (below1 _ _) (bel3 hb4 (below1 _ _)))))).1 (KK.out _ (bel3 hb1 (bel3 hb2 (bel3 (below1 _ _) (bel3 hb4 (below1 _ _)))))).2.2 (some ⟨w4.heap.size, 0, none⟩) 1 1 w4.heap.size (w4.heap.size + 1) [y] rfl (one_lies (cs := #[.int .i64 y]) (heap_alloc_new _ _) rfl) (by simp) (by omega)).mono ?_; rintro e w5 ⟨G, s, rfl, _, hS, hcut, hb5⟩; obtain ⟨bj, hbj⟩ : ∃ bj, s[j]? = some bj := ⟨_, List.getElem?_eq_getElem (by rw [hcut.1]; exact hj)⟩; have q0 := (hS.cell hbj).1; have HCT := Lib.hid hcut; have HBJ := Lib.hid hbj; clear hcut hbj hS)
        | go_in)
      have HB5 := Lib.hid (bel3 hb1 (bel3 hb2 (bel3 (below1 _ _) (bel3 hb4 (bel3 (below1 _ _) hb5)))))
      have hb25 : Below w2.heap.size w2 w5 := bel3 (below1 _ _) (bel3 hb4 (bel3 (below1 _ _) hb5))
      have hbx := ((bel3 hb4 (bel3 (below1 _ _) hb5)).block _ (by simp)).trans (heap_alloc_new w2 (.cells #[.int .i64 c.frame, .int .i64 c.margin, .slice i1 c.ws.length j1, .slice i2 c.ps.length j2, .slice i3 c.cs.length j3] 35))
      have HRB : Hid (∀ b : Bool, (b = true ↔ Leads c [y] (j : Int)) → b = bj) := Lib.hid (fun b hb => by
        rw [← HCT.out.2 j, HBJ.out, Option.some.injEq] at hb
        exact Bool.eq_iff_iff.2 hb)
      have hbv : Below V.heap.size V w5 := HB5.out
      have hx5 : SysL w5 w2.heap.size c vs i1 i2 i3 j1 j2 j3 := hs2.keep (SameIn.of_below hb25 (Nat.le_refl _))
      have hsz5 := hb25.size
      have ks5 : ∀ W : World, Below w5.heap.size w5 W → Below w5.heap.size w5 W ∧ (W.cell? ⟨w.heap.size, 0, none⟩ = some (.int .i64 c.frame) ∧ W.cell? ⟨w.heap.size, 1, none⟩ = some (.int .i64 c.margin) ∧ W.cell? ⟨w.heap.size, 2, none⟩ = some (.slice wa c.ws.length wc) ∧ W.cell? ⟨w.heap.size, 3, none⟩ = some (.slice pa c.ps.length pc) ∧ W.cell? ⟨w.heap.size, 4, none⟩ = some (.slice ca c.cs.length cc)) ∧ (W.cell? ⟨w2.heap.size, 0, none⟩ = some (.int .i64 c.frame) ∧ W.cell? ⟨w2.heap.size, 1, none⟩ = some (.int .i64 c.margin) ∧ W.cell? ⟨w2.heap.size, 2, none⟩ = some (.slice i1 c.ws.length j1) ∧ W.cell? ⟨w2.heap.size, 3, none⟩ = some (.slice i2 c.ps.length j2) ∧ W.cell? ⟨w2.heap.size, 4, none⟩ = some (.slice i3 c.cs.length j3)) := fun W g =>
        ⟨g, KS.out _ (bel3 hbv g), box_cells hbx W g⟩
      have CI : Hid (∀ X : World, Below w5.heap.size w5 X → Calls Try.prog 15 #[.agg #[.int .i64 c.frame, .int .i64 c.margin, .slice i1 c.ws.length j1, .slice i2 c.ps.length j2, .slice i3 c.cs.length j3], .slice la ln lc] X fun e w' => ∃ (a : Option Addr) (cap : Nat) (s : List Bool), e = .returned (.slice a (intsOf s).length cap) ∧ w'.ownsRow X.heap.size 3 1 (.slice a (intsOf s).length cap) (intsOf s).length ((intsOf s).flatMap intCells) ∧ CutOf c l s ∧ Below X.heap.size X w') := Lib.hid (fun X g => into_sys HF.out (hx5.keep (SameIn.of_below g hsz5)) (Nat.le_trans hsz5 g.size) la ln lc 0 w.heap.size l HLN.out (KK.out _ (bel3 hbv g)).2.1 (KK.out _ (bel3 hbv g)).2.2 (by omega))
      have CJ : Hid (∀ X : World, Below w5.heap.size w5 X → Calls Try.prog 16 #[.agg #[.int .i64 c.frame, .int .i64 c.margin, .slice wa c.ws.length wc, .slice pa c.ps.length pc, .slice ca c.cs.length cc], .slice la ln lc] X fun e w' => ∃ (a : Option Addr) (cap : Nat) (s : List Bool), e = .returned (.slice a (intsOf s).length cap) ∧ w'.ownsRow X.heap.size 3 1 (.slice a (intsOf s).length cap) (intsOf s).length ((intsOf s).flatMap intCells) ∧ CutOf c l s ∧ Below X.heap.size X w') := Lib.hid (fun X g => refInto_sys HF.out (KK.out _ (bel3 hbv g)).1 (KK.out _ (bel3 hbv g)).2.2 la ln lc 0 w.heap.size l HLN.out (KK.out _ (bel3 hbv g)).2.1 (KK.out _ (bel3 hbv g)).2.2 (by omega))
      have CC : Hid (∀ X : World, Below w5.heap.size w5 X → Calls Try.prog 18 #[.agg #[.int .i64 c.frame, .int .i64 c.margin, .slice i1 c.ws.length j1, .slice i2 c.ps.length j2, .slice i3 c.cs.length j3], .slice la ln lc] X fun e w' => ∃ (G : Nat) (s : List Bool), e = .returned (.slice (some ⟨G, 0, none⟩) c.ps.length c.ps.length) ∧ X.heap.size ≤ G ∧ BoolAt w' G s ∧ CutOf c l s ∧ Below X.heap.size X w') := Lib.hid (fun X g => cut_sys HF.out (hx5.keep (SameIn.of_below g hsz5)) (Nat.le_trans hsz5 g.size) la ln lc 0 w.heap.size l HLN.out (KK.out _ (bel3 hbv g)).2.1 (KK.out _ (bel3 hbv g)).2.2 (by omega))
      have CD : Hid (∀ X : World, Below w5.heap.size w5 X → Calls Try.prog 13 #[.agg #[.int .i64 c.frame, .int .i64 c.margin, .slice wa c.ws.length wc, .slice pa c.ps.length pc, .slice ca c.cs.length cc], .slice la ln lc] X fun e w' => ∃ (G : Nat) (s : List Bool), e = .returned (.slice (some ⟨G, 0, none⟩) c.ps.length c.ps.length) ∧ X.heap.size ≤ G ∧ BoolAt w' G s ∧ CutOf c l s ∧ Below X.heap.size X w') := Lib.hid (fun X g => refCut_sys HF.out (KK.out _ (bel3 hbv g)).1 (KK.out _ (bel3 hbv g)).2.2 la ln lc 0 w.heap.size l HLN.out (KK.out _ (bel3 hbv g)).2.1 (KK.out _ (bel3 hbv g)).2.2 (by omega))
      have CR : Hid (∀ X : World, Below w5.heap.size w5 X → ∀ x y : Int, Calls Try.prog 19 #[.agg #[.int .i64 c.frame, .int .i64 c.margin, .slice i1 c.ws.length j1, .slice i2 c.ps.length j2, .slice i3 c.cs.length j3], .int .i64 x, .int .i64 y] X fun e w' => ∃ b : Bool, e = .returned (.bool b) ∧ (b = true ↔ Leads c [y] x) ∧ Below X.heap.size X w') := Lib.hid (fun X g x y => reaches_sys HF.out (hx5.keep (SameIn.of_below g hsz5)) (Nat.le_trans hsz5 g.size) x y)
      have KS5 := Lib.hid ks5
      obtain ⟨_, ⟨z0, z1, z2, z3, z4⟩, u0, u1, u2, u3, u4⟩ := ks5 w5 (Below.refl _ _)
      clear ks5 hx5 hbx hbv hb25 hs2 hsz5 hb1 hb2
      go_region_held3 (fun W => Below w5.heap.size w5 W ∧ (W.cell? ⟨w.heap.size, 0, none⟩ = some (.int .i64 c.frame) ∧ W.cell? ⟨w.heap.size, 1, none⟩ = some (.int .i64 c.margin) ∧ W.cell? ⟨w.heap.size, 2, none⟩ = some (.slice wa c.ws.length wc) ∧ W.cell? ⟨w.heap.size, 3, none⟩ = some (.slice pa c.ps.length pc) ∧ W.cell? ⟨w.heap.size, 4, none⟩ = some (.slice ca c.cs.length cc)) ∧ (W.cell? ⟨w2.heap.size, 0, none⟩ = some (.int .i64 c.frame) ∧ W.cell? ⟨w2.heap.size, 1, none⟩ = some (.int .i64 c.margin) ∧ W.cell? ⟨w2.heap.size, 2, none⟩ = some (.slice i1 c.ws.length j1) ∧ W.cell? ⟨w2.heap.size, 3, none⟩ = some (.slice i2 c.ps.length j2) ∧ W.cell? ⟨w2.heap.size, 4, none⟩ = some (.slice i3 c.cs.length j3)))
        (first | exact KS5.out _ ((Below.refl _ _).drew) | exact KS5.out _ (by assumption))
        (first
          | (go_at_call 15; refine (CI.out _ (by first | assumption | exact Below.refl _ _ | exact (Below.refl _ _).drew)).mono ?_; rintro e w6 ⟨a6, c6, s6, rfl, o6, k6, b6⟩; have n6 : Below w5.heap.size w5 w6 := bel3 (by first | assumption | exact Below.refl _ _ | exact (Below.refl _ _).drew) b6)
          | (go_at_call 16; refine (CJ.out _ n6).mono ?_; rintro e w7 ⟨a7, c7, s7, rfl, o7, k7, b7⟩; have n7 : Below w5.heap.size w5 w7 := bel3 n6 b7; obtain rfl : s7 = s6 := k7.same k6)
          | (go_at_call 14; refine (ints7_same _ _ _ _ _ w7 _ _ _ _ (intsOf s7) rfl ((intsOf_row (n := 0) o6).keep (SameIn.of_below b7 (Nat.le_refl _))) (intsOf_row (n := 0) o7) b7.size (Nat.le_refl _) (by have := intsTo_len s7 s7.length; have := k6.1; unfold intsOf; omega)).mono ?_; rintro e w8 ⟨rfl, b8⟩; have n8 : Below w5.heap.size w5 w8 := bel3 n7 b8)
          | (go_at_call 18; refine (CC.out _ n8).mono ?_; rintro e w9 ⟨G9, s9, rfl, _, o9, k9, b9⟩; have n9 : Below w5.heap.size w5 w9 := bel3 n8 b9)
          | (go_at_call 13; refine (CD.out _ n9).mono ?_; rintro e w10 ⟨G10, s10, rfl, _, o10, k10, b10⟩; have n10 : Below w5.heap.size w5 w10 := bel3 n9 b10; obtain rfl : s10 = s9 := k10.same k9)
          | (go_at_call 17; refine (bools7_same _ _ _ _ _ w10 _ _ _ _ s10 k10.1 ((o9.later b10).lies k10.1) (o10.lies k10.1) (lt_of_block (o9.later b10)) (lt_of_block o10) (by omega)).mono ?_; rintro e w11 ⟨rfl, b11⟩; have n11 : Below w5.heap.size w5 w11 := bel3 n10 b11)
          | (go_at_call 19; refine (CR.out _ n11 _ _).mono ?_; rintro e w12 ⟨b, rfl, hbl, b12⟩; have n12 : Below w5.heap.size w5 w12 := bel3 n11 b12; have hbe := HRB.out b hbl; subst hbe)
          | (go_at_call 8; refine (knows7_any _).mono ?_; rintro e w13 ⟨rfl, b13⟩; have n13 : Below w5.heap.size w5 w13 := bel3 n12 b13))
      go_wp2
      go_ret
      exact ⟨rfl, HB1.out.trans ((bel3 HB5.out n13).mono HB1.out.size)⟩
  · have hno : lightB c = false ∨ (lightB c = true ∧ 40 < ln) := by
      cases hh : lightB c with
      | false => exact .inl rfl
      | true => exact .inr ⟨rfl, Nat.lt_of_not_le (fun hc => hgo ⟨hh, hc⟩)⟩
    rcases hno with hno | ⟨hno, h40⟩
    · have HLT := Lib.hid hno; clear hno hgo
      go_enter Try.func4, Try.ntmps4
      go_wp2_with (first
        | (go_at_call 7; rw [← HV.out]; refine CL.out.mono ?_; rintro e w1 ⟨rfl, hb1⟩; rw [HLT.out])
        | (go_at_call 8; refine (knows7_any _).mono ?_; rintro e w2 ⟨rfl, hb2⟩))
      go_ret
      exact ⟨rfl, HB1.out.trans ((bel3 hb1 hb2).mono HB1.out.size)⟩
    · have HLT := Lib.hid hno; clear hno hgo
      have t40 : decide ((40 : Int) < (ln : Int)) = true := by rw [decide_eq_true_eq]; omega
      go_enter Try.func4, Try.ntmps4
      go_wp2_with (first
        | (go_at_call 7; rw [← HV.out]; refine CL.out.mono ?_; rintro e w1 ⟨rfl, hb1⟩; rw [HLT.out])
        | (go_at_call 8; refine (knows7_any _).mono ?_; rintro e w2 ⟨rfl, hb2⟩))
      go_ret
      exact ⟨rfl, HB1.out.trans ((bel3 hb1 hb2).mono HB1.out.size)⟩
end Go.Proofs.Ytkikapodobeaaaa
