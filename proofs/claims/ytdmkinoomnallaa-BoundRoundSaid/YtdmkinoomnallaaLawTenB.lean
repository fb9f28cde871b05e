/- The walk of the statement on a round more: from far on the demand is more by always the same. -/
import Derived.Test.YtdmkinoomnallaaLawTenA
namespace Go.Proofs.Ytdmkinoomnallaa
open Go.ChangeShapes Go.WideShapes Go.ChangeAt Go.RowKit
set_option linter.unusedVariables false

theorem lowV_bd {p : Pt} (t : Int) (h1 : p.ts.length ≤ 20) (h2 : p.ss.length ≤ 20) : 0 ≤ lowV p t ∧ lowV p t ≤ 43980465111080000 := by
  have a := sum_bd (fun k => ofV k t false) (fun x => ofV_bd x t false) p.ts h1
  have b := sum_bd (fun s => servV s t) (fun x => servV_bd x t) p.ss h2
  unfold lowV
  omega
theorem highV_bd {p : Pt} (t : Int) (h1 : p.ts.length ≤ 20) : 0 ≤ highV p t ∧ highV p t ≤ 43980465111080000 := by
  have a := sum_bd (fun k => ofV k t true) (fun x => ofV_bd x t true) p.ts h1
  unfold highV
  omega
set_option maxRecDepth 100000 in
set_option maxHeartbeats 4000000 in
theorem BoundRound_not (F : Int) (ta sa da : Option Addr) (tn tc sn sc dn dc : Nat) (x0 x1 x2 : Int) (t : Int) (high : Bool) (w : World) (hn : (decide (tn ≤ 20) && decide (sn ≤ 20)) = false ∨ t < 0 ∨ 1048576 < t) :
    Calls Try.prog 5 #[.int .i64 F, .agg #[.slice ta tn tc, .slice sa sn sc, .slice da dn dc, .int .u8 x0, .int .u8 x1, .int .u8 x2], .int .i64 t, .bool high] w fun e w' => e = .returned (.bool true) ∧ Below w.heap.size w w' := by
  have B1 := Lib.hid (below1 w (.cells #[.slice ta tn tc, .slice sa sn sc, .slice da dn dc, .int .u8 x0, .int .u8 x1, .int .u8 x2] 27))
  cases hf : (decide (tn ≤ 20) && decide (sn ≤ 20)) with
  | false =>
    have HFW := Lib.hid hf
    clear hf hn
    go_enter Try.func5, Try.ntmps5
    go_wp2_with (first
      | (go_at_call 6; refine (few10_any _ _ _ _ _ _ _ _ _ _ _ _ _).mono ?_; rintro e w1 ⟨rfl, hb1⟩; rw [HFW.out])
      | (go_at_call 7; refine (knows10_any _).mono ?_; rintro e w2 ⟨rfl, hb2⟩))
    go_ret
    exact ⟨rfl, bel_thenD (bel_thenD B1.out (Nat.le_refl _) hb1) (Nat.le_refl _) hb2⟩
  | true =>
    have HFW := Lib.hid hf
    rcases (show t < 0 ∨ (0 ≤ t ∧ 1048576 < t) by
      rcases hn with h | h | h
      · rw [hf] at h; cases h
      · exact .inl h
      · omega) with h | ⟨h, h2⟩
    · have t1 : decide (t < 0) = true := by simpa using h
      clear hf hn
      go_enter Try.func5, Try.ntmps5
      go_wp2_with (first
        | (go_at_call 6; refine (few10_any _ _ _ _ _ _ _ _ _ _ _ _ _).mono ?_; rintro e w1 ⟨rfl, hb1⟩; rw [HFW.out])
        | (go_at_call 7; refine (knows10_any _).mono ?_; rintro e w2 ⟨rfl, hb2⟩))
      go_ret
      exact ⟨rfl, bel_thenD (bel_thenD B1.out (Nat.le_refl _) hb1) (Nat.le_refl _) hb2⟩
    · have t1 : decide (t < 0) = false := by simp; omega
      have t2 : decide (1048576 < t) = true := by simpa using h2
      clear hf hn
      go_enter Try.func5, Try.ntmps5
      go_wp2_with (first
        | (go_at_call 6; refine (few10_any _ _ _ _ _ _ _ _ _ _ _ _ _).mono ?_; rintro e w1 ⟨rfl, hb1⟩; rw [HFW.out])
        | (go_at_call 7; refine (knows10_any _).mono ?_; rintro e w2 ⟨rfl, hb2⟩))
      go_ret
      exact ⟨rfl, bel_thenD (bel_thenD B1.out (Nat.le_refl _) hb1) (Nat.le_refl _) hb2⟩
set_option maxRecDepth 100000 in
set_option maxHeartbeats 4000000 in
theorem BoundRound_no (F : Int) (ta sa da : Option Addr) (tn tc sn sc dn dc : Nat) (x0 x1 x2 : Int) (t : Int) (high : Bool) (w : World) (p : Pt) (hF : I64 F) (htn : p.ts.length = tn) (hsn : p.ss.length = sn) (hdn : p.ds.length = dn)
    (hts : Lies w 0 w.heap.size (.slice ta tn tc) tn 6 (p.ts.flatMap Tk.cells)) (hss : Lies w 0 w.heap.size (.slice sa sn sc) sn 3 (p.ss.flatMap Sv.cells)) (hds : Lies w 0 w.heap.size (.slice da dn dc) dn 1 (p.ds.flatMap intCells)) (hd2 : dn * 8 ≤ 140737488355328)
    (ht2 : tn ≤ 20) (hs2 : sn ≤ 20) (ht0 : 0 ≤ t) (ht1 : t ≤ 1048576) (hok : hyperOk F p = false) :
    Calls Try.prog 5 #[.int .i64 F, .agg #[.slice ta tn tc, .slice sa sn sc, .slice da dn dc, .int .u8 x0, .int .u8 x1, .int .u8 x2], .int .i64 t, .bool high] w fun e w' => e = .returned (.bool true) ∧ Below w.heap.size w w' := by
  obtain ⟨V, hV⟩ : ∃ V, V = w.alloc (.cells #[.slice ta tn tc, .slice sa sn sc, .slice da dn dc, .int .u8 x0, .int .u8 x1, .int .u8 x2] 27) := ⟨_, rfl⟩
  have ks : ∀ W : World, Below V.heap.size V W → W.cell? ⟨w.heap.size, 0, none⟩ = some (.slice ta tn tc) ∧ W.cell? ⟨w.heap.size, 1, none⟩ = some (.slice sa sn sc) ∧ W.cell? ⟨w.heap.size, 2, none⟩ = some (.slice da dn dc) ∧ W.cell? ⟨w.heap.size, 3, none⟩ = some (.int .u8 x0) ∧ W.cell? ⟨w.heap.size, 4, none⟩ = some (.int .u8 x1) ∧ W.cell? ⟨w.heap.size, 5, none⟩ = some (.int .u8 x2) := fun W h => by
    rw [hV] at h
    exact boxK6 _ _ _ _ _ _ _ _ W h
  have hBV : Below w.heap.size w V := by rw [hV]; exact below1 _ _
  have hVw : w.heap.size < V.heap.size := by rw [hV]; simp
  have hsame : ∀ W : World, Below V.heap.size V W → SameIn w W 0 w.heap.size := fun W hb => SameIn.of_below (hBV.trans (hb.mono (Nat.le_of_lt hVw))) (Nat.le_refl _)
  have hsize : ∀ W : World, Below V.heap.size V W → w.heap.size ≤ W.heap.size := fun W hb => Nat.le_trans (Nat.le_of_lt hVw) hb.size
  have CP := Lib.hid (fun (W : World) (hb : Below V.heap.size V W) =>
    part_wide ta sa da tn tc sn sc dn dc x0 x1 x2 W 0 w.heap.size p.ts p.ss p.ds htn hsn hdn (hts.keep (hsame W hb)) (hss.keep (hsame W hb)) (hds.keep (hsame W hb)) (hsize W hb) (by omega) (by omega) hd2)
  have HTN := Lib.hid htn; have HSN := Lib.hid hsn
  have HFW : Hid ((decide (tn ≤ 20) && decide (sn ≤ 20)) = true) := Lib.hid (by simp; omega)
  have HV := Lib.hid hV; have HBV := Lib.hid hBV; have KS := Lib.hid ks
  have HOK := Lib.hid hok
  have t1 : decide (t < 0) = false := by simp; omega
  have t2 : decide (1048576 < t) = false := by simp; omega
  have HNO := Lib.hid (hyper_no hok)
  clear hV hBV ks hts hss hds htn hsn hdn hsame hsize hd2 hok
  go_enter Try.func5, Try.ntmps5
  go_wp2_with (first
    | (go_at_call 13; refine (far_at (PX.out _ hbn) (by omega) (by omega) _ _ _ _ _ _).mono ?_; rintro e w4 ⟨rfl, hb4⟩; rw [← HFA.out]; have hbn := bel_thenD hbn (Nat.le_refl _) hb4; obtain ⟨_, z0, z1, z2, z3, z4, z5⟩ := KT.out _ hbn)
    | (go_at_call 9; rw [← HX.out]; refine (hyper_at hF (PX.out X (Below.refl _ _)) (by omega) (by omega) _ _ _ _ _ _).mono ?_; rintro e w3 ⟨rfl, hbn⟩; rw [HOK.out, HNO.out]; obtain ⟨_, z0, z1, z2, z3, z4, z5⟩ := KT.out _ hbn)
    | (go_at_call 8; refine (CP.out _ HB1.out).mono ?_; rintro e w2 ⟨ta', tc', sa', sc', da', dc', rfl, o1, o2, o3, hb2⟩
       have HB2 := Lib.hid (bel_thenD HB1.out (Nat.le_refl _) hb2)
       obtain ⟨X, hX⟩ : ∃ X, X = w2.alloc (.cells #[.slice ta' tn tc', .slice sa' sn sc', .slice da' dn dc', .int .u8 x0, .int .u8 x1, .int .u8 x2] 33) := ⟨_, rfl⟩
       have hbx : Below w2.heap.size w2 X := by rw [hX]; exact below1 _ _
       have HVV : Hid (Below V.heap.size V X) := Lib.hid (bel_thenD HB2.out (Nat.le_refl _) hbx)
       have hp2 : PartAt w2 w2.heap.size p ta' sa' tn tc' sn sc' := ⟨HTN.out, HSN.out, (Lies.of_owns o1).wider (Nat.zero_le _) (Nat.le_refl _), (Lies.of_owns o2).wider (Nat.zero_le _) (Nat.le_refl _), Nat.le_refl _⟩
       have PX := Lib.hid (fun (W : World) (hb : Below X.heap.size X W) => (hp2.later hbx).later hb)
       have KT : Hid (∀ W : World, Below X.heap.size X W → Below X.heap.size X W ∧ W.cell? ⟨w2.heap.size, 0, none⟩ = some (.slice ta' tn tc') ∧ W.cell? ⟨w2.heap.size, 1, none⟩ = some (.slice sa' sn sc') ∧ W.cell? ⟨w2.heap.size, 2, none⟩ = some (.slice da' dn dc') ∧ W.cell? ⟨w2.heap.size, 3, none⟩ = some (.int .u8 x0) ∧ W.cell? ⟨w2.heap.size, 4, none⟩ = some (.int .u8 x1) ∧ W.cell? ⟨w2.heap.size, 5, none⟩ = some (.int .u8 x2)) := Lib.hid fun W h => by
         have h' := h
         rw [hX] at h'
         exact ⟨h, boxK6 _ _ _ _ _ _ _ _ W h'⟩
       have HX := Lib.hid hX
       clear hX hbx hp2 o1 o2 o3 hb2)
    | (go_at_call 7; refine (knows10_any _).mono ?_; rintro e w9 ⟨rfl, hb9⟩; have HB1 := Lib.hid (bel_thenD HB0.out (Nat.le_refl _) hb9); obtain ⟨z0, z1, z2, z3, z4, z5⟩ := KS.out _ HB1.out; clear hb9)
    | (go_at_call 6; refine (few10_any _ _ _ _ _ _ _ _ _ _ _ _ _).mono ?_; rintro e w1 ⟨rfl, hb1⟩; rw [HFW.out]; rw [← HV.out] at hb1; have HB0 := Lib.hid hb1; obtain ⟨z0, z1, z2, z3, z4, z5⟩ := KS.out _ hb1; clear hb1))
  go_ret
  exact ⟨rfl, HBV.out.trans ((bel_thenD HVV.out (Nat.le_refl _) hbn).mono (Nat.le_of_lt hVw))⟩
set_option maxRecDepth 100000 in
set_option maxHeartbeats 4000000 in
theorem BoundRound_low (F : Int) (ta sa da : Option Addr) (tn tc sn sc dn dc : Nat) (x0 x1 x2 : Int) (t : Int) (w : World) (p : Pt) (hF : I64 F) (htn : p.ts.length = tn) (hsn : p.ss.length = sn) (hdn : p.ds.length = dn)
    (hts : Lies w 0 w.heap.size (.slice ta tn tc) tn 6 (p.ts.flatMap Tk.cells)) (hss : Lies w 0 w.heap.size (.slice sa sn sc) sn 3 (p.ss.flatMap Sv.cells)) (hds : Lies w 0 w.heap.size (.slice da dn dc) dn 1 (p.ds.flatMap intCells)) (hd2 : dn * 8 ≤ 140737488355328)
    (ht2 : tn ≤ 20) (hs2 : sn ≤ 20) (ht0 : 0 ≤ t) (ht1 : t ≤ 1048576) (hok : hyperOk F p = true) :
    Calls Try.prog 5 #[.int .i64 F, .agg #[.slice ta tn tc, .slice sa sn sc, .slice da dn dc, .int .u8 x0, .int .u8 x1, .int .u8 x2], .int .i64 t, .bool false] w fun e w' => e = .returned (.bool true) ∧ Below w.heap.size w w' := by
  obtain ⟨V, hV⟩ : ∃ V, V = w.alloc (.cells #[.slice ta tn tc, .slice sa sn sc, .slice da dn dc, .int .u8 x0, .int .u8 x1, .int .u8 x2] 27) := ⟨_, rfl⟩
  have ks : ∀ W : World, Below V.heap.size V W → W.cell? ⟨w.heap.size, 0, none⟩ = some (.slice ta tn tc) ∧ W.cell? ⟨w.heap.size, 1, none⟩ = some (.slice sa sn sc) ∧ W.cell? ⟨w.heap.size, 2, none⟩ = some (.slice da dn dc) ∧ W.cell? ⟨w.heap.size, 3, none⟩ = some (.int .u8 x0) ∧ W.cell? ⟨w.heap.size, 4, none⟩ = some (.int .u8 x1) ∧ W.cell? ⟨w.heap.size, 5, none⟩ = some (.int .u8 x2) := fun W h => by
    rw [hV] at h
    exact boxK6 _ _ _ _ _ _ _ _ W h
  have hBV : Below w.heap.size w V := by rw [hV]; exact below1 _ _
  have hVw : w.heap.size < V.heap.size := by rw [hV]; simp
  have hsame : ∀ W : World, Below V.heap.size V W → SameIn w W 0 w.heap.size := fun W hb => SameIn.of_below (hBV.trans (hb.mono (Nat.le_of_lt hVw))) (Nat.le_refl _)
  have hsize : ∀ W : World, Below V.heap.size V W → w.heap.size ≤ W.heap.size := fun W hb => Nat.le_trans (Nat.le_of_lt hVw) hb.size
  have CP := Lib.hid (fun (W : World) (hb : Below V.heap.size V W) =>
    part_wide ta sa da tn tc sn sc dn dc x0 x1 x2 W 0 w.heap.size p.ts p.ss p.ds htn hsn hdn (hts.keep (hsame W hb)) (hss.keep (hsame W hb)) (hds.keep (hsame W hb)) (hsize W hb) (by omega) (by omega) hd2)
  have HTN := Lib.hid htn; have HSN := Lib.hid hsn
  have HFW : Hid ((decide (tn ≤ 20) && decide (sn ≤ 20)) = true) := Lib.hid (by simp; omega)
  have HV := Lib.hid hV; have HBV := Lib.hid hBV; have KS := Lib.hid ks
  have HOK := Lib.hid hok
  have t1 : decide (t < 0) = false := by simp; omega
  have t2 : decide (1048576 < t) = false := by simp; omega
  obtain ⟨g1, g2, ⟨g3, g4⟩, g5, g6⟩ := hyper_ok hok
  obtain ⟨f1, f2⟩ := farV_bd p
  have hrd : lowV p (t + farV p + hyperV F p) = lowV p (t + farV p) + rateV (hyperV F p) p false := low_round (by omega) (by omega) (by omega) g5 g6
  have A0 := lowV_bd (p := p) (t + farV p + hyperV F p) (by omega) (by omega)
  have B0 := lowV_bd (p := p) (t + farV p) (by omega) (by omega)
  have hrem : (hyperV F p).tmod F = 0 := Int.tmod_eq_zero_of_dvd g4
  clear g4 g5 g6
  obtain ⟨h, hh⟩ : ∃ h, h = hyperV F p := ⟨_, rfl⟩
  rw [← hh] at g1 g2 hrd A0 hrem
  obtain ⟨f, hf⟩ : ∃ f, f = farV p := ⟨_, rfl⟩
  rw [← hf] at f1 f2 hrd A0 B0
  obtain ⟨A, hA⟩ : ∃ A, A = lowV p (t + f + h) := ⟨_, rfl⟩
  obtain ⟨B, hB⟩ : ∃ B, B = lowV p (t + f) := ⟨_, rfl⟩
  obtain ⟨R, hR⟩ : ∃ R, R = rateV h p false := ⟨_, rfl⟩
  rw [← hA, ← hB, ← hR] at hrd
  rw [← hA] at A0
  rw [← hB] at B0
  obtain ⟨a0, a1⟩ := A0
  obtain ⟨b0, b1⟩ := B0
  have HH := Lib.hid hh; have HFA := Lib.hid hf; have HA := Lib.hid hA; have HB := Lib.hid hB; have HR := Lib.hid hR
  have S1 : IntKind.i64.wrap (t + f) = t + f := IntWalk.i64_in _ (by omega)
  have S2 : IntKind.i64.wrap (t + f + h) = t + f + h := IntWalk.i64_in _ (by omega)
  have e1 : A - B = R := by omega
  have S3 : IntKind.i64.wrap R = R := IntWalk.i64_in _ (by omega)
  have nz : (F == 0) = false := by simp; omega
  have nz2 : ¬ F = 0 := by omega
  have e2 : h % F = 0 := by rw [← Int.tmod_eq_emod_of_nonneg (by omega)]; exact hrem
  clear hh hf hA hB hR hrd
  clear hV hBV ks hts hss hds htn hsn hdn hsame hsize hd2 hok
  go_enter Try.func5, Try.ntmps5
  go_wp2_with (first
    | (go_at_call 13; refine (far_at (PX.out _ hbn) (by omega) (by omega) _ _ _ _ _ _).mono ?_; rintro e w4 ⟨rfl, hb4⟩; rw [← HFA.out]; have hbn := bel_thenD hbn (Nat.le_refl _) hb4; obtain ⟨_, z0, z1, z2, z3, z4, z5⟩ := KT.out _ hbn)
    | (go_at_call 9; rw [← HX.out]; refine (hyper_at hF (PX.out X (Below.refl _ _)) (by omega) (by omega) _ _ _ _ _ _).mono ?_; rintro e w3 ⟨rfl, hbn⟩; rw [HOK.out, ← HH.out]; obtain ⟨_, z0, z1, z2, z3, z4, z5⟩ := KT.out _ hbn)
    | (go_at_call 8; refine (CP.out _ HB1.out).mono ?_; rintro e w2 ⟨ta', tc', sa', sc', da', dc', rfl, o1, o2, o3, hb2⟩
       have HB2 := Lib.hid (bel_thenD HB1.out (Nat.le_refl _) hb2)
       obtain ⟨X, hX⟩ : ∃ X, X = w2.alloc (.cells #[.slice ta' tn tc', .slice sa' sn sc', .slice da' dn dc', .int .u8 x0, .int .u8 x1, .int .u8 x2] 33) := ⟨_, rfl⟩
       have hbx : Below w2.heap.size w2 X := by rw [hX]; exact below1 _ _
       have HVV : Hid (Below V.heap.size V X) := Lib.hid (bel_thenD HB2.out (Nat.le_refl _) hbx)
       have hp2 : PartAt w2 w2.heap.size p ta' sa' tn tc' sn sc' := ⟨HTN.out, HSN.out, (Lies.of_owns o1).wider (Nat.zero_le _) (Nat.le_refl _), (Lies.of_owns o2).wider (Nat.zero_le _) (Nat.le_refl _), Nat.le_refl _⟩
       have PX := Lib.hid (fun (W : World) (hb : Below X.heap.size X W) => (hp2.later hbx).later hb)
       have KT : Hid (∀ W : World, Below X.heap.size X W → Below X.heap.size X W ∧ W.cell? ⟨w2.heap.size, 0, none⟩ = some (.slice ta' tn tc') ∧ W.cell? ⟨w2.heap.size, 1, none⟩ = some (.slice sa' sn sc') ∧ W.cell? ⟨w2.heap.size, 2, none⟩ = some (.slice da' dn dc') ∧ W.cell? ⟨w2.heap.size, 3, none⟩ = some (.int .u8 x0) ∧ W.cell? ⟨w2.heap.size, 4, none⟩ = some (.int .u8 x1) ∧ W.cell? ⟨w2.heap.size, 5, none⟩ = some (.int .u8 x2)) := Lib.hid fun W h => by
         have h' := h
         rw [hX] at h'
         exact ⟨h, boxK6 _ _ _ _ _ _ _ _ W h'⟩
       have HX := Lib.hid hX
       clear hX hbx hp2 o1 o2 o3 hb2)
    | (go_at_call 7; refine (knows10_any _).mono ?_; rintro e w9 ⟨rfl, hb9⟩; have HB1 := Lib.hid (bel_thenD HB0.out (Nat.le_refl _) hb9); obtain ⟨z0, z1, z2, z3, z4, z5⟩ := KS.out _ HB1.out; clear hb9)
    | (go_at_call 6; refine (few10_any _ _ _ _ _ _ _ _ _ _ _ _ _).mono ?_; rintro e w1 ⟨rfl, hb1⟩; rw [HFW.out]; rw [← HV.out] at hb1; have HB0 := Lib.hid hb1; obtain ⟨z0, z1, z2, z3, z4, z5⟩ := KS.out _ hb1; clear hb1))
  go_region_held3 (fun W => Below X.heap.size X W ∧ W.cell? ⟨w2.heap.size, 0, none⟩ = some (.slice ta' tn tc') ∧ W.cell? ⟨w2.heap.size, 1, none⟩ = some (.slice sa' sn sc') ∧ W.cell? ⟨w2.heap.size, 2, none⟩ = some (.slice da' dn dc') ∧ W.cell? ⟨w2.heap.size, 3, none⟩ = some (.int .u8 x0) ∧ W.cell? ⟨w2.heap.size, 4, none⟩ = some (.int .u8 x1) ∧ W.cell? ⟨w2.heap.size, 5, none⟩ = some (.int .u8 x2))
    (first | exact KT.out _ (by assumption) | exact KT.out _ (Below.drew (by assumption)))
    (first
      | (go_at_call 21; refine (low_any _ _ _ _ _ _ _ _ _ _ _ _ _ _ _ p (PX.out _ (by go_split_ands; assumption)) (by omega) (by omega)).mono ?_; rintro e w1 ⟨rfl, hb1⟩; (first | rw [← HA.out] | rw [← HB.out]); have hbn : Below X.heap.size X w1 := (by go_split_ands; exact bel_thenD (by assumption) (Nat.le_refl _) hb1))
      | (go_at_call 20; refine (rate_any _ _ _ _ _ _ _ _ _ _ _ _ _ _ _ _ p (PX.out _ (by go_split_ands; assumption)) (by omega) (by omega)).mono ?_; rintro e w1 ⟨rfl, hb1⟩; rw [← HR.out]; have hbn : Below X.heap.size X w1 := (by go_split_ands; exact bel_thenD (by assumption) (Nat.le_refl _) hb1))
      | fail "no arm")
  all_goals
    (go_wp2_with fail
     go_ret
     exact ⟨rfl, HBV.out.trans ((bel_thenD HVV.out (Nat.le_refl _) (by repeat first | assumption | refine below_drewD _ ?_)).mono (Nat.le_of_lt hVw))⟩)
set_option maxRecDepth 100000 in
set_option maxHeartbeats 4000000 in
theorem BoundRound_high (F : Int) (ta sa da : Option Addr) (tn tc sn sc dn dc : Nat) (x0 x1 x2 : Int) (t : Int) (w : World) (p : Pt) (hF : I64 F) (htn : p.ts.length = tn) (hsn : p.ss.length = sn) (hdn : p.ds.length = dn)
    (hts : Lies w 0 w.heap.size (.slice ta tn tc) tn 6 (p.ts.flatMap Tk.cells)) (hss : Lies w 0 w.heap.size (.slice sa sn sc) sn 3 (p.ss.flatMap Sv.cells)) (hds : Lies w 0 w.heap.size (.slice da dn dc) dn 1 (p.ds.flatMap intCells)) (hd2 : dn * 8 ≤ 140737488355328)
    (ht2 : tn ≤ 20) (hs2 : sn ≤ 20) (ht0 : 0 ≤ t) (ht1 : t ≤ 1048576) (hok : hyperOk F p = true) :
    Calls Try.prog 5 #[.int .i64 F, .agg #[.slice ta tn tc, .slice sa sn sc, .slice da dn dc, .int .u8 x0, .int .u8 x1, .int .u8 x2], .int .i64 t, .bool true] w fun e w' => e = .returned (.bool true) ∧ Below w.heap.size w w' := by
  obtain ⟨V, hV⟩ : ∃ V, V = w.alloc (.cells #[.slice ta tn tc, .slice sa sn sc, .slice da dn dc, .int .u8 x0, .int .u8 x1, .int .u8 x2] 27) := ⟨_, rfl⟩
  have ks : ∀ W : World, Below V.heap.size V W → W.cell? ⟨w.heap.size, 0, none⟩ = some (.slice ta tn tc) ∧ W.cell? ⟨w.heap.size, 1, none⟩ = some (.slice sa sn sc) ∧ W.cell? ⟨w.heap.size, 2, none⟩ = some (.slice da dn dc) ∧ W.cell? ⟨w.heap.size, 3, none⟩ = some (.int .u8 x0) ∧ W.cell? ⟨w.heap.size, 4, none⟩ = some (.int .u8 x1) ∧ W.cell? ⟨w.heap.size, 5, none⟩ = some (.int .u8 x2) := fun W h => by
    rw [hV] at h
    exact boxK6 _ _ _ _ _ _ _ _ W h
  have hBV : Below w.heap.size w V := by rw [hV]; exact below1 _ _
  have hVw : w.heap.size < V.heap.size := by rw [hV]; simp
  have hsame : ∀ W : World, Below V.heap.size V W → SameIn w W 0 w.heap.size := fun W hb => SameIn.of_below (hBV.trans (hb.mono (Nat.le_of_lt hVw))) (Nat.le_refl _)
  have hsize : ∀ W : World, Below V.heap.size V W → w.heap.size ≤ W.heap.size := fun W hb => Nat.le_trans (Nat.le_of_lt hVw) hb.size
  have CP := Lib.hid (fun (W : World) (hb : Below V.heap.size V W) =>
    part_wide ta sa da tn tc sn sc dn dc x0 x1 x2 W 0 w.heap.size p.ts p.ss p.ds htn hsn hdn (hts.keep (hsame W hb)) (hss.keep (hsame W hb)) (hds.keep (hsame W hb)) (hsize W hb) (by omega) (by omega) hd2)
  have HTN := Lib.hid htn; have HSN := Lib.hid hsn
  have HFW : Hid ((decide (tn ≤ 20) && decide (sn ≤ 20)) = true) := Lib.hid (by simp; omega)
  have HV := Lib.hid hV; have HBV := Lib.hid hBV; have KS := Lib.hid ks
  have HOK := Lib.hid hok
  have t1 : decide (t < 0) = false := by simp; omega
  have t2 : decide (1048576 < t) = false := by simp; omega
  obtain ⟨g1, g2, ⟨g3, g4⟩, g5, g6⟩ := hyper_ok hok
  obtain ⟨f1, f2⟩ := farV_bd p
  have hrd : highV p (t + farV p + hyperV F p) = highV p (t + farV p) + rateV (hyperV F p) p true := high_round (by omega) (by omega) (by omega) g5
  have A0 := highV_bd (p := p) (t + farV p + hyperV F p) (by omega)
  have B0 := highV_bd (p := p) (t + farV p) (by omega)
  have hrem : (hyperV F p).tmod F = 0 := Int.tmod_eq_zero_of_dvd g4
  clear g4 g5 g6
  obtain ⟨h, hh⟩ : ∃ h, h = hyperV F p := ⟨_, rfl⟩
  rw [← hh] at g1 g2 hrd A0 hrem
  obtain ⟨f, hf⟩ : ∃ f, f = farV p := ⟨_, rfl⟩
  rw [← hf] at f1 f2 hrd A0 B0
  obtain ⟨A, hA⟩ : ∃ A, A = highV p (t + f + h) := ⟨_, rfl⟩
  obtain ⟨B, hB⟩ : ∃ B, B = highV p (t + f) := ⟨_, rfl⟩
  obtain ⟨R, hR⟩ : ∃ R, R = rateV h p true := ⟨_, rfl⟩
  rw [← hA, ← hB, ← hR] at hrd
  rw [← hA] at A0
  rw [← hB] at B0
  obtain ⟨a0, a1⟩ := A0
  obtain ⟨b0, b1⟩ := B0
  have HH := Lib.hid hh; have HFA := Lib.hid hf; have HA := Lib.hid hA; have HB := Lib.hid hB; have HR := Lib.hid hR
  have S1 : IntKind.i64.wrap (t + f) = t + f := IntWalk.i64_in _ (by omega)
  have S2 : IntKind.i64.wrap (t + f + h) = t + f + h := IntWalk.i64_in _ (by omega)
  have e1 : A - B = R := by omega
  have S3 : IntKind.i64.wrap R = R := IntWalk.i64_in _ (by omega)
  have nz : (F == 0) = false := by simp; omega
  have nz2 : ¬ F = 0 := by omega
  have e2 : h % F = 0 := by rw [← Int.tmod_eq_emod_of_nonneg (by omega)]; exact hrem
  clear hh hf hA hB hR hrd
  clear hV hBV ks hts hss hds htn hsn hdn hsame hsize hd2 hok
  go_enter Try.func5, Try.ntmps5
  go_wp2_with (first
    | (go_at_call 13; refine (far_at (PX.out _ hbn) (by omega) (by omega) _ _ _ _ _ _).mono ?_; rintro e w4 ⟨rfl, hb4⟩; rw [← HFA.out]; have hbn := bel_thenD hbn (Nat.le_refl _) hb4; obtain ⟨_, z0, z1, z2, z3, z4, z5⟩ := KT.out _ hbn)
    | (go_at_call 9; rw [← HX.out]; refine (hyper_at hF (PX.out X (Below.refl _ _)) (by omega) (by omega) _ _ _ _ _ _).mono ?_; rintro e w3 ⟨rfl, hbn⟩; rw [HOK.out, ← HH.out]; obtain ⟨_, z0, z1, z2, z3, z4, z5⟩ := KT.out _ hbn)
    | (go_at_call 8; refine (CP.out _ HB1.out).mono ?_; rintro e w2 ⟨ta', tc', sa', sc', da', dc', rfl, o1, o2, o3, hb2⟩
       have HB2 := Lib.hid (bel_thenD HB1.out (Nat.le_refl _) hb2)
       obtain ⟨X, hX⟩ : ∃ X, X = w2.alloc (.cells #[.slice ta' tn tc', .slice sa' sn sc', .slice da' dn dc', .int .u8 x0, .int .u8 x1, .int .u8 x2] 33) := ⟨_, rfl⟩
       have hbx : Below w2.heap.size w2 X := by rw [hX]; exact below1 _ _
       have HVV : Hid (Below V.heap.size V X) := Lib.hid (bel_thenD HB2.out (Nat.le_refl _) hbx)
       have hp2 : PartAt w2 w2.heap.size p ta' sa' tn tc' sn sc' := ⟨HTN.out, HSN.out, (Lies.of_owns o1).wider (Nat.zero_le _) (Nat.le_refl _), (Lies.of_owns o2).wider (Nat.zero_le _) (Nat.le_refl _), Nat.le_refl _⟩
       have PX := Lib.hid (fun (W : World) (hb : Below X.heap.size X W) => (hp2.later hbx).later hb)
       have KT : Hid (∀ W : World, Below X.heap.size X W → Below X.heap.size X W ∧ W.cell? ⟨w2.heap.size, 0, none⟩ = some (.slice ta' tn tc') ∧ W.cell? ⟨w2.heap.size, 1, none⟩ = some (.slice sa' sn sc') ∧ W.cell? ⟨w2.heap.size, 2, none⟩ = some (.slice da' dn dc') ∧ W.cell? ⟨w2.heap.size, 3, none⟩ = some (.int .u8 x0) ∧ W.cell? ⟨w2.heap.size, 4, none⟩ = some (.int .u8 x1) ∧ W.cell? ⟨w2.heap.size, 5, none⟩ = some (.int .u8 x2)) := Lib.hid fun W h => by
         have h' := h
         rw [hX] at h'
         exact ⟨h, boxK6 _ _ _ _ _ _ _ _ W h'⟩
       have HX := Lib.hid hX
       clear hX hbx hp2 o1 o2 o3 hb2)
    | (go_at_call 7; refine (knows10_any _).mono ?_; rintro e w9 ⟨rfl, hb9⟩; have HB1 := Lib.hid (bel_thenD HB0.out (Nat.le_refl _) hb9); obtain ⟨z0, z1, z2, z3, z4, z5⟩ := KS.out _ HB1.out; clear hb9)
    | (go_at_call 6; refine (few10_any _ _ _ _ _ _ _ _ _ _ _ _ _).mono ?_; rintro e w1 ⟨rfl, hb1⟩; rw [HFW.out]; rw [← HV.out] at hb1; have HB0 := Lib.hid hb1; obtain ⟨z0, z1, z2, z3, z4, z5⟩ := KS.out _ hb1; clear hb1))
  go_region_held3 (fun W => Below X.heap.size X W ∧ W.cell? ⟨w2.heap.size, 0, none⟩ = some (.slice ta' tn tc') ∧ W.cell? ⟨w2.heap.size, 1, none⟩ = some (.slice sa' sn sc') ∧ W.cell? ⟨w2.heap.size, 2, none⟩ = some (.slice da' dn dc') ∧ W.cell? ⟨w2.heap.size, 3, none⟩ = some (.int .u8 x0) ∧ W.cell? ⟨w2.heap.size, 4, none⟩ = some (.int .u8 x1) ∧ W.cell? ⟨w2.heap.size, 5, none⟩ = some (.int .u8 x2))
    (first | exact KT.out _ (by assumption) | exact KT.out _ (Below.drew (by assumption)))
    (first
      | (go_at_call 19; refine (high_any _ _ _ _ _ _ _ _ _ _ _ _ _ _ _ p (PX.out _ (by go_split_ands; assumption)) (by omega) (by omega)).mono ?_; rintro e w1 ⟨rfl, hb1⟩; (first | rw [← HA.out] | rw [← HB.out]); have hbn : Below X.heap.size X w1 := (by go_split_ands; exact bel_thenD (by assumption) (Nat.le_refl _) hb1))
      | (go_at_call 20; refine (rate_any _ _ _ _ _ _ _ _ _ _ _ _ _ _ _ _ p (PX.out _ (by go_split_ands; assumption)) (by omega) (by omega)).mono ?_; rintro e w1 ⟨rfl, hb1⟩; rw [← HR.out]; have hbn : Below X.heap.size X w1 := (by go_split_ands; exact bel_thenD (by assumption) (Nat.le_refl _) hb1))
      | fail "no arm")
  all_goals
    (go_wp2_with fail
     go_ret
     exact ⟨rfl, HBV.out.trans ((bel_thenD HVV.out (Nat.le_refl _) (by repeat first | assumption | refine below_drewD _ ?_)).mono (Nat.le_of_lt hVw))⟩)
theorem BoundRound_walk (F : Int) (v : Pv) (p : Pt) (t : Int) (high : Bool) (w : World) (hF : I64 F) (hl : PtLies w 0 w.heap.size v p) (hd2 : p.ds.length * 8 ≤ 140737488355328) :
    Calls Try.prog 5 #[.int .i64 F, .agg v.cells.toArray, .int .i64 t, .bool high] w fun e w' => e = .returned (.bool true) ∧ Below w.heap.size w w' := by
  obtain ⟨ta, sa, da, tc, sc, dc, e1, e2, e3⟩ := hl.slices
  obtain ⟨h1, h2, h3, _⟩ := hl
  obtain ⟨v1, v2, v3, x0, x1, x2⟩ := v
  simp only at e1 e2 e3
  subst e1 e2 e3
  by_cases h : (p.ts.length ≤ 20 ∧ p.ss.length ≤ 20) ∧ 0 ≤ t ∧ t ≤ 1048576
  · cases ho : hyperOk F p with
    | false => exact BoundRound_no F ta sa da _ tc _ sc _ dc x0 x1 x2 t high w p hF rfl rfl rfl h1 h2 h3 hd2 h.1.1 h.1.2 h.2.1 h.2.2 ho
    | true =>
      cases high with
      | false => exact BoundRound_low F ta sa da _ tc _ sc _ dc x0 x1 x2 t w p hF rfl rfl rfl h1 h2 h3 hd2 h.1.1 h.1.2 h.2.1 h.2.2 ho
      | true => exact BoundRound_high F ta sa da _ tc _ sc _ dc x0 x1 x2 t w p hF rfl rfl rfl h1 h2 h3 hd2 h.1.1 h.1.2 h.2.1 h.2.2 ho
  · refine BoundRound_not F ta sa da _ tc _ sc _ dc x0 x1 x2 t high w ?_
    by_cases hf : p.ts.length ≤ 20 ∧ p.ss.length ≤ 20
    · exact .inr (by omega)
    · exact .inl (by simp; omega)
end Go.Proofs.Ytdmkinoomnallaa
