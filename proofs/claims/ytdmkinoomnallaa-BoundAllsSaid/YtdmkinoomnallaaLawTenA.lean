/- What must come of bounds; a partition's bounds by what is read of it; the walk of the statement on the bound of any partition. -/
import Derived.Test.YtdmkinoomnallaaBoundS
import Derived.Test.YtdmkinoomnallaaBoundU
import Derived.Test.YtdmkinoomnallaaCopy
import Derived.Test.YtdmkinoomnallaaRead
import Derived.Deep.RegionHeld3
namespace Go.Proofs.Ytdmkinoomnallaa
open Go.ChangeShapes Go.WideShapes Go.ChangeAt Go.RowKit
set_option linter.unusedVariables false

theorem hyper_at {F : Int} {ta sa : Option Addr} {tn tc sn sc : Nat} {w : World} {hi : Nat} {p : Pt} (hF : I64 F) (h : PartAt w hi p ta sa tn tc sn sc) (ht2 : tn ≤ 1000) (hs2 : sn ≤ 1000) (da : Option Addr) (dn dc : Nat) (x0 x1 x2 : Int) :
    Calls Try.prog 9 #[.int .i64 F, .agg #[.slice ta tn tc, .slice sa sn sc, .slice da dn dc, .int .u8 x0, .int .u8 x1, .int .u8 x2]] w fun e w' => e = .returned (.tuple #[.int .i64 (hyperV F p), .bool (hyperOk F p)]) ∧ Below w.heap.size w w' :=
  hyper_any F ta sa da tn tc sn sc dn dc x0 x1 x2 w 0 hi p hF h.etn h.esn h.ts h.ss h.le ht2 hs2
theorem far_at {ta sa : Option Addr} {tn tc sn sc : Nat} {w : World} {hi : Nat} {p : Pt} (h : PartAt w hi p ta sa tn tc sn sc) (ht2 : tn ≤ 1000) (hs2 : sn ≤ 1000) (da : Option Addr) (dn dc : Nat) (x0 x1 x2 : Int) :
    Calls Try.prog 13 #[.agg #[.slice ta tn tc, .slice sa sn sc, .slice da dn dc, .int .u8 x0, .int .u8 x1, .int .u8 x2]] w fun e w' => e = .returned (.int .i64 (farV p)) ∧ Below w.heap.size w w' :=
  far_any ta sa da tn tc sn sc dn dc x0 x1 x2 w 0 hi p h.etn h.esn h.ts h.ss h.le ht2 hs2
theorem bound_at {F : Int} {ta sa : Option Addr} {tn tc sn sc : Nat} {w : World} {hi : Nat} {p : Pt} (hF : I64 F) (h : PartAt w hi p ta sa tn tc sn sc) (ht2 : tn ≤ 1000) (hs2 : sn ≤ 1000) (da : Option Addr) (dn dc : Nat) (x0 x1 x2 : Int) :
    Calls Try.prog 11 #[.int .i64 F, .agg #[.slice ta tn tc, .slice sa sn sc, .slice da dn dc, .int .u8 x0, .int .u8 x1, .int .u8 x2]] w fun e w' => e = .returned (.tuple #[.int .i64 (boundV F p), .bool (boundOk F p)]) ∧ Below w.heap.size w w' :=
  bound_any F ta sa da tn tc sn sc dn dc x0 x1 x2 w 0 hi p hF h.etn h.esn h.ts h.ss h.le ht2 hs2
theorem refHyper_at {F : Int} {ta sa : Option Addr} {tn tc sn sc : Nat} {w : World} {hi : Nat} {p : Pt} (hF : I64 F) (h : PartAt w hi p ta sa tn tc sn sc) (ht2 : tn ≤ 1000) (hs2 : sn ≤ 1000) (da : Option Addr) (dn dc : Nat) (x0 x1 x2 : Int) :
    Calls Try.prog 10 #[.int .i64 F, .agg #[.slice ta tn tc, .slice sa sn sc, .slice da dn dc, .int .u8 x0, .int .u8 x1, .int .u8 x2]] w fun e w' => e = .returned (.tuple #[.int .i64 (hyperV F p), .bool (hyperOk F p)]) ∧ Below w.heap.size w w' :=
  refHyper_any F ta sa da tn tc sn sc dn dc x0 x1 x2 w 0 hi p hF h.etn h.esn h.ts h.ss h.le ht2 hs2
theorem refFar_at {ta sa : Option Addr} {tn tc sn sc : Nat} {w : World} {hi : Nat} {p : Pt} (h : PartAt w hi p ta sa tn tc sn sc) (ht2 : tn ≤ 1000) (hs2 : sn ≤ 1000) (da : Option Addr) (dn dc : Nat) (x0 x1 x2 : Int) :
    Calls Try.prog 14 #[.agg #[.slice ta tn tc, .slice sa sn sc, .slice da dn dc, .int .u8 x0, .int .u8 x1, .int .u8 x2]] w fun e w' => e = .returned (.int .i64 (farV p)) ∧ Below w.heap.size w w' :=
  refFar_any ta sa da tn tc sn sc dn dc x0 x1 x2 w 0 hi p h.etn h.esn h.ts h.ss h.le ht2 hs2
theorem refBound_at {F : Int} {ta sa : Option Addr} {tn tc sn sc : Nat} {w : World} {hi : Nat} {p : Pt} (hF : I64 F) (h : PartAt w hi p ta sa tn tc sn sc) (ht2 : tn ≤ 1000) (hs2 : sn ≤ 1000) (da : Option Addr) (dn dc : Nat) (x0 x1 x2 : Int) :
    Calls Try.prog 12 #[.int .i64 F, .agg #[.slice ta tn tc, .slice sa sn sc, .slice da dn dc, .int .u8 x0, .int .u8 x1, .int .u8 x2]] w fun e w' => e = .returned (.tuple #[.int .i64 (boundV F p), .bool (boundOk F p)]) ∧ Below w.heap.size w w' :=
  refBound_any F ta sa da tn tc sn sc dn dc x0 x1 x2 w 0 hi p hF h.etn h.esn h.ts h.ss h.le ht2 hs2
theorem few10_any (ta sa da : Option Addr) (tn tc sn sc dn dc : Nat) (x0 x1 x2 : Int) (w : World) :
    Calls Try.prog 6 #[.agg #[.slice ta tn tc, .slice sa sn sc, .slice da dn dc, .int .u8 x0, .int .u8 x1, .int .u8 x2]] w fun e w' => e = .returned (.bool (decide (tn ≤ 20) && decide (sn ≤ 20))) ∧ Below w.heap.size w w' := by
  go_enter Try.func6, Try.ntmps6
  go_wp2
  all_goals go_ret
  all_goals exact ⟨ret_b (by rw [Bool.eq_iff_iff]; simp <;> omega), below1 _ _⟩
def oneP : Pt := ⟨[⟨false, 30, 25, 25, 1, 1⟩], [], [], 0, 0, 0⟩
theorem sure10 : hyperV 20 oneP = 60 ∧ hyperOk 20 oneP = true ∧ boundV 20 oneP = 85 ∧ boundOk 20 oneP = true ∧ farV oneP = 25 := by decide +kernel
theorem none_lies (w : World) (lo hi sz : Nat) : Lies w lo hi (.slice none 0 0) 0 sz [] := ⟨none, 0, rfl, by simp, fun _ => ⟨rfl, rfl⟩, .inl rfl⟩
set_option maxRecDepth 100000 in
set_option maxHeartbeats 2000000 in
theorem knows10_any (w : World) : Calls Try.prog 7 #[] w fun e w' => e = .returned (.bool true) ∧ Below w.heap.size w w' := by
  obtain ⟨k1, k2, k3, k4, k5⟩ := sure10
  have K1 := Lib.hid k1; have K2 := Lib.hid k2; have K3 := Lib.hid k3; have K4 := Lib.hid k4; have K5 := Lib.hid k5
  clear k1 k2 k3 k4 k5
  obtain ⟨V, hV⟩ : ∃ V, V = (w.alloc (.cells #[.bool false, .int .i64 30, .int .i64 25, .int .i64 25, .int .i64 1, .int .i64 1] 60)).alloc (.cells #[.slice (some ⟨w.heap.size, 0, none⟩) 1 1, .slice none 0 0, .slice none 0 0, .int .u8 0, .int .u8 0, .int .u8 0] 33) := ⟨_, rfl⟩
  have hb1 : Below (w.alloc (.cells #[.bool false, .int .i64 30, .int .i64 25, .int .i64 25, .int .i64 1, .int .i64 1] 60)).heap.size (w.alloc (.cells #[.bool false, .int .i64 30, .int .i64 25, .int .i64 25, .int .i64 1, .int .i64 1] 60)) V := by rw [hV]; exact below1 _ _
  have B2 := Lib.hid (show Below w.heap.size w V from bel_thenD (below1 _ _) (Nat.le_refl _) hb1)
  have hpa : PartAt V (w.heap.size + 1) oneP (some ⟨w.heap.size, 0, none⟩) none 1 1 0 0 := by
    have h0 : PartAt (w.alloc (.cells #[.bool false, .int .i64 30, .int .i64 25, .int .i64 25, .int .i64 1, .int .i64 1] 60)) (w.heap.size + 1) oneP (some ⟨w.heap.size, 0, none⟩) none 1 1 0 0 :=
      ⟨rfl, rfl, (one_lies (heap_alloc_new w _) rfl).wider (Nat.zero_le _) (Nat.le_refl _), none_lies _ _ _ _, by simp⟩
    exact h0.later hb1
  have PA := Lib.hid (fun (W : World) (h : Below V.heap.size V W) => hpa.later h)
  have KS : Hid (∀ W : World, Below V.heap.size V W → W.cell? ⟨w.heap.size + 1, 0, none⟩ = some (.slice (some ⟨w.heap.size, 0, none⟩) 1 1) ∧ W.cell? ⟨w.heap.size + 1, 1, none⟩ = some (.slice none 0 0) ∧ W.cell? ⟨w.heap.size + 1, 2, none⟩ = some (.slice none 0 0) ∧ W.cell? ⟨w.heap.size + 1, 3, none⟩ = some (.int .u8 0) ∧ W.cell? ⟨w.heap.size + 1, 4, none⟩ = some (.int .u8 0) ∧ W.cell? ⟨w.heap.size + 1, 5, none⟩ = some (.int .u8 0)) := Lib.hid fun W h => by
    rw [hV] at h
    have k := boxK6 _ _ _ _ _ _ _ _ W h
    simpa only [World.size_alloc] using k
  have HV := Lib.hid hV
  clear hV hb1 hpa
  have i20 : I64 20 := by unfold I64; omega
  go_enter Try.func7, Try.ntmps7
  go_wp2_with (first
    | (go_at_call 13; refine (far_at (PA.out _ hbn) (by omega) (by omega) _ _ _ _ _ _).mono ?_; rintro e w4 ⟨rfl, hb4⟩; rw [K5.out]; have hbn := bel_thenD hbn (Nat.le_refl _) hb4)
    | (go_at_call 11; refine (bound_at i20 (PA.out _ hbn) (by omega) (by omega) _ _ _ _ _ _).mono ?_; rintro e w3 ⟨rfl, hb3⟩; rw [K3.out, K4.out]; have hbn := bel_thenD hbn (Nat.le_refl _) hb3; obtain ⟨k0, k1, k2, k3, k4, k5⟩ := KS.out _ hbn)
    | (go_at_call 9; rw [← HV.out]; refine (hyper_at i20 (PA.out V (Below.refl _ _)) (by omega) (by omega) _ _ _ _ _ _).mono ?_; rintro e w2 ⟨rfl, hbn⟩; rw [K1.out, K2.out]; obtain ⟨k0, k1, k2, k3, k4, k5⟩ := KS.out _ hbn))
  go_ret
  exact ⟨rfl, bel_thenD B2.out (Nat.le_refl _) (by assumption)⟩
set_option maxRecDepth 100000 in
set_option maxHeartbeats 4000000 in
theorem BoundTells_not (F : Int) (ta sa da : Option Addr) (tn tc sn sc dn dc : Nat) (x0 x1 x2 : Int) (w : World) (hf : (decide (tn ≤ 20) && decide (sn ≤ 20)) = false) :
    Calls Try.prog 3 #[.int .i64 F, .agg #[.slice ta tn tc, .slice sa sn sc, .slice da dn dc, .int .u8 x0, .int .u8 x1, .int .u8 x2]] w fun e w' => e = .returned (.bool true) ∧ Below w.heap.size w w' := by
  have B1 := Lib.hid (below1 w (.cells #[.slice ta tn tc, .slice sa sn sc, .slice da dn dc, .int .u8 x0, .int .u8 x1, .int .u8 x2] 27))
  have HFW := Lib.hid hf
  clear hf
  go_enter Try.func3, Try.ntmps3
  go_wp2_with (first
    | (go_at_call 6; refine (few10_any _ _ _ _ _ _ _ _ _ _ _ _ _).mono ?_; rintro e w1 ⟨rfl, hb1⟩; rw [HFW.out])
    | (go_at_call 7; refine (knows10_any _).mono ?_; rintro e w2 ⟨rfl, hb2⟩))
  go_ret
  exact ⟨rfl, bel_thenD (bel_thenD B1.out (Nat.le_refl _) hb1) (Nat.le_refl _) hb2⟩
set_option maxRecDepth 100000 in
set_option maxHeartbeats 4000000 in
theorem BoundTells_is (F : Int) (ta sa da : Option Addr) (tn tc sn sc dn dc : Nat) (x0 x1 x2 : Int) (w : World) (p : Pt) (hF : I64 F) (htn : p.ts.length = tn) (hsn : p.ss.length = sn) (hdn : p.ds.length = dn)
    (hts : Lies w 0 w.heap.size (.slice ta tn tc) tn 6 (p.ts.flatMap Tk.cells)) (hss : Lies w 0 w.heap.size (.slice sa sn sc) sn 3 (p.ss.flatMap Sv.cells)) (hds : Lies w 0 w.heap.size (.slice da dn dc) dn 1 (p.ds.flatMap intCells)) (hd2 : dn * 8 ≤ 140737488355328)
    (ht2 : tn ≤ 20) (hs2 : sn ≤ 20) :
    Calls Try.prog 3 #[.int .i64 F, .agg #[.slice ta tn tc, .slice sa sn sc, .slice da dn dc, .int .u8 x0, .int .u8 x1, .int .u8 x2]] w fun e w' => e = .returned (.bool true) ∧ Below w.heap.size w w' := by
  obtain ⟨V, hV⟩ : ∃ V, V = w.alloc (.cells #[.slice ta tn tc, .slice sa sn sc, .slice da dn dc, .int .u8 x0, .int .u8 x1, .int .u8 x2] 27) := ⟨_, rfl⟩
  have ks : ∀ W : World, Below V.heap.size V W → W.cell? ⟨w.heap.size, 0, none⟩ = some (.slice ta tn tc) ∧ W.cell? ⟨w.heap.size, 1, none⟩ = some (.slice sa sn sc) ∧ W.cell? ⟨w.heap.size, 2, none⟩ = some (.slice da dn dc) ∧ W.cell? ⟨w.heap.size, 3, none⟩ = some (.int .u8 x0) ∧ W.cell? ⟨w.heap.size, 4, none⟩ = some (.int .u8 x1) ∧ W.cell? ⟨w.heap.size, 5, none⟩ = some (.int .u8 x2) := fun W h => by
    rw [hV] at h
    exact boxK6 _ _ _ _ _ _ _ _ W h
  have hBV : Below w.heap.size w V := by rw [hV]; exact below1 _ _
  have hVw : w.heap.size < V.heap.size := by rw [hV]; simp
  have hsame : ∀ W : World, Below V.heap.size V W → SameIn w W 0 w.heap.size := fun W hb => SameIn.of_below (hBV.trans (hb.mono (Nat.le_of_lt hVw))) (Nat.le_refl _)
  have hsize : ∀ W : World, Below V.heap.size V W → w.heap.size ≤ W.heap.size := fun W hb => Nat.le_trans (Nat.le_of_lt hVw) hb.size
  have CP := Lib.hid (fun (W : World) (hb : Below V.heap.size V W) =>
    part_wide ta sa da tn tc sn sc dn dc x0 x1 x2 W 0 w.heap.size p.ts p.ss p.ds htn hsn hdn (hts.keep (hsame W hb)) (hss.keep (hsame W hb)) (hds.keep (hsame W hb)) (hsize W hb) (by omega) (by omega) hd2)
  have PR := Lib.hid (fun (W : World) (hb : Below V.heap.size V W) => (⟨htn, hsn, hts.keep (hsame W hb), hss.keep (hsame W hb), hsize W hb⟩ : PartAt W w.heap.size p ta sa tn tc sn sc))
  have HTN := Lib.hid htn; have HSN := Lib.hid hsn
  have HFW : Hid ((decide (tn ≤ 20) && decide (sn ≤ 20)) = true) := Lib.hid (by simp; omega)
  have HV := Lib.hid hV; have HBV := Lib.hid hBV; have KS := Lib.hid ks
  obtain ⟨h, hh⟩ : ∃ h, h = hyperV F p := ⟨_, rfl⟩
  obtain ⟨ho, hho⟩ : ∃ h, h = hyperOk F p := ⟨_, rfl⟩
  obtain ⟨b, hhb⟩ : ∃ h, h = boundV F p := ⟨_, rfl⟩
  obtain ⟨bo, hbo⟩ : ∃ h, h = boundOk F p := ⟨_, rfl⟩
  obtain ⟨f, hf⟩ : ∃ h, h = farV p := ⟨_, rfl⟩
  have HH := Lib.hid hh; have HO := Lib.hid hho; have HB := Lib.hid hhb; have HBO := Lib.hid hbo; have HFA := Lib.hid hf
  clear hV hBV ks hts hss hds htn hsn hdn hsame hsize hd2 hh hho hhb hbo hf
  go_enter Try.func3, Try.ntmps3
  go_wp2_with (first
    | (go_at_call 12; refine (refBound_at hF (PR.out _ (bel_thenD HVV.out (Nat.le_refl _) hbn)) (by omega) (by omega) _ _ _ _ _ _).mono ?_; rintro e w6 ⟨rfl, hb6⟩; rw [← HB.out, ← HBO.out]; have hbn := bel_thenD hbn (Nat.le_refl _) hb6; obtain ⟨_, y0, y1, y2, y3, y4, y5, z0, z1, z2, z3, z4, z5⟩ := KT.out _ hbn)
    | (go_at_call 11; refine (bound_at hF (PX.out _ hbn) (by omega) (by omega) _ _ _ _ _ _).mono ?_; rintro e w5 ⟨rfl, hb5⟩; rw [← HB.out, ← HBO.out]; have hbn := bel_thenD hbn (Nat.le_refl _) hb5; obtain ⟨_, y0, y1, y2, y3, y4, y5, z0, z1, z2, z3, z4, z5⟩ := KT.out _ hbn)
    | (go_at_call 10; refine (refHyper_at hF (PR.out _ (bel_thenD HVV.out (Nat.le_refl _) hbn)) (by omega) (by omega) _ _ _ _ _ _).mono ?_; rintro e w4 ⟨rfl, hb4⟩; rw [← HH.out, ← HO.out]; have hbn := bel_thenD hbn (Nat.le_refl _) hb4; obtain ⟨_, y0, y1, y2, y3, y4, y5, z0, z1, z2, z3, z4, z5⟩ := KT.out _ hbn)
    | (go_at_call 9; rw [← HX.out]; refine (hyper_at hF (PX.out X (Below.refl _ _)) (by omega) (by omega) _ _ _ _ _ _).mono ?_; rintro e w3 ⟨rfl, hbn⟩; rw [← HH.out, ← HO.out]; obtain ⟨_, y0, y1, y2, y3, y4, y5, z0, z1, z2, z3, z4, z5⟩ := KT.out _ hbn)
    | (go_at_call 8; refine (CP.out _ HB1.out).mono ?_; rintro e w2 ⟨ta', tc', sa', sc', da', dc', rfl, o1, o2, o3, hb2⟩
       have HB2 := Lib.hid (bel_thenD HB1.out (Nat.le_refl _) hb2)
       obtain ⟨X, hX⟩ : ∃ X, X = w2.alloc (.cells #[.slice ta' tn tc', .slice sa' sn sc', .slice da' dn dc', .int .u8 x0, .int .u8 x1, .int .u8 x2] 33) := ⟨_, rfl⟩
       have hbx : Below w2.heap.size w2 X := by rw [hX]; exact below1 _ _
       have HVV : Hid (Below V.heap.size V X) := Lib.hid (bel_thenD HB2.out (Nat.le_refl _) hbx)
       have hp2 : PartAt w2 w2.heap.size p ta' sa' tn tc' sn sc' := ⟨HTN.out, HSN.out, (Lies.of_owns o1).wider (Nat.zero_le _) (Nat.le_refl _), (Lies.of_owns o2).wider (Nat.zero_le _) (Nat.le_refl _), Nat.le_refl _⟩
       have PX := Lib.hid (fun (W : World) (hb : Below X.heap.size X W) => (hp2.later hbx).later hb)
       have KT : Hid (∀ W : World, Below X.heap.size X W → Below X.heap.size X W ∧ W.cell? ⟨w.heap.size, 0, none⟩ = some (.slice ta tn tc) ∧ W.cell? ⟨w.heap.size, 1, none⟩ = some (.slice sa sn sc) ∧ W.cell? ⟨w.heap.size, 2, none⟩ = some (.slice da dn dc) ∧ W.cell? ⟨w.heap.size, 3, none⟩ = some (.int .u8 x0) ∧ W.cell? ⟨w.heap.size, 4, none⟩ = some (.int .u8 x1) ∧ W.cell? ⟨w.heap.size, 5, none⟩ = some (.int .u8 x2) ∧ W.cell? ⟨w2.heap.size, 0, none⟩ = some (.slice ta' tn tc') ∧ W.cell? ⟨w2.heap.size, 1, none⟩ = some (.slice sa' sn sc') ∧ W.cell? ⟨w2.heap.size, 2, none⟩ = some (.slice da' dn dc') ∧ W.cell? ⟨w2.heap.size, 3, none⟩ = some (.int .u8 x0) ∧ W.cell? ⟨w2.heap.size, 4, none⟩ = some (.int .u8 x1) ∧ W.cell? ⟨w2.heap.size, 5, none⟩ = some (.int .u8 x2)) := Lib.hid fun W h => by
         obtain ⟨k0, k1, k2, k3, k4, k5⟩ := KS.out W (bel_thenD HVV.out (Nat.le_refl _) h)
         have h' := h
         rw [hX] at h'
         exact ⟨h, k0, k1, k2, k3, k4, k5, boxK6 _ _ _ _ _ _ _ _ W h'⟩
       have HX := Lib.hid hX
       clear hX hbx hp2 o1 o2 o3 hb2)
    | (go_at_call 6; refine (few10_any _ _ _ _ _ _ _ _ _ _ _ _ _).mono ?_; rintro e w1 ⟨rfl, hb1⟩; rw [HFW.out]; rw [← HV.out] at hb1; have HB1 := Lib.hid hb1; obtain ⟨z0, z1, z2, z3, z4, z5⟩ := KS.out _ hb1; clear hb1))
  go_region_held3 (fun W => Below X.heap.size X W ∧ W.cell? ⟨w.heap.size, 0, none⟩ = some (.slice ta tn tc) ∧ W.cell? ⟨w.heap.size, 1, none⟩ = some (.slice sa sn sc) ∧ W.cell? ⟨w.heap.size, 2, none⟩ = some (.slice da dn dc) ∧ W.cell? ⟨w.heap.size, 3, none⟩ = some (.int .u8 x0) ∧ W.cell? ⟨w.heap.size, 4, none⟩ = some (.int .u8 x1) ∧ W.cell? ⟨w.heap.size, 5, none⟩ = some (.int .u8 x2) ∧ W.cell? ⟨w2.heap.size, 0, none⟩ = some (.slice ta' tn tc') ∧ W.cell? ⟨w2.heap.size, 1, none⟩ = some (.slice sa' sn sc') ∧ W.cell? ⟨w2.heap.size, 2, none⟩ = some (.slice da' dn dc') ∧ W.cell? ⟨w2.heap.size, 3, none⟩ = some (.int .u8 x0) ∧ W.cell? ⟨w2.heap.size, 4, none⟩ = some (.int .u8 x1) ∧ W.cell? ⟨w2.heap.size, 5, none⟩ = some (.int .u8 x2))
    (first | exact KT.out _ (by assumption) | exact KT.out _ (Below.drew (by assumption)))
    (first
      | (go_at_call 13; refine (far_at (PX.out _ (by go_split_ands; assumption)) (by omega) (by omega) _ _ _ _ _ _).mono ?_; rintro e w1 ⟨rfl, hb1⟩; rw [← HFA.out]; have hbn : Below X.heap.size X w1 := (by go_split_ands; exact bel_thenD (by assumption) (Nat.le_refl _) hb1))
      | (go_at_call 14; refine (refFar_at (PR.out _ (bel_thenD HVV.out (Nat.le_refl _) (by go_split_ands; assumption))) (by omega) (by omega) _ _ _ _ _ _).mono ?_; rintro e w1 ⟨rfl, hb1⟩; rw [← HFA.out]; have hbn : Below X.heap.size X w1 := (by go_split_ands; exact bel_thenD (by assumption) (Nat.le_refl _) hb1))
      | (go_at_call 7; refine (knows10_any _).mono ?_; rintro e w1 ⟨rfl, hb1⟩; have hbn : Below X.heap.size X w1 := (by go_split_ands; exact bel_thenD (by assumption) (Nat.le_refl _) hb1))
      | fail "no arm")
  all_goals
    (go_wp2_with fail
     go_ret
     exact ⟨rfl, HBV.out.trans ((bel_thenD HVV.out (Nat.le_refl _) (by repeat first | assumption | refine below_drewD _ ?_)).mono (Nat.le_of_lt hVw))⟩)
theorem BoundTells_walk (F : Int) (v : Pv) (p : Pt) (w : World) (hF : I64 F) (hl : PtLies w 0 w.heap.size v p) (hd2 : p.ds.length * 8 ≤ 140737488355328) :
    Calls Try.prog 3 #[.int .i64 F, .agg v.cells.toArray] w fun e w' => e = .returned (.bool true) ∧ Below w.heap.size w w' := by
  obtain ⟨ta, sa, da, tc, sc, dc, e1, e2, e3⟩ := hl.slices
  obtain ⟨h1, h2, h3, _⟩ := hl
  obtain ⟨v1, v2, v3, x0, x1, x2⟩ := v
  simp only at e1 e2 e3
  subst e1 e2 e3
  by_cases h : p.ts.length ≤ 20 ∧ p.ss.length ≤ 20
  · exact BoundTells_is F ta sa da _ tc _ sc _ dc x0 x1 x2 w p hF rfl rfl rfl h1 h2 h3 hd2 h.1 h.2
  · exact BoundTells_not F ta sa da _ tc _ sc _ dc x0 x1 x2 w (by simp; omega)
end Go.Proofs.Ytdmkinoomnallaa
