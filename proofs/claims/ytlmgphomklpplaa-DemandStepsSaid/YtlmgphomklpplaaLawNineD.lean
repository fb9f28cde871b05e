/- The walk of the statement that the program's steps are the document's. -/
import Derived.Test.YtlmgphomklpplaaDemandY
import Derived.Test.YtlmgphomklpplaaDemandZ
import Derived.Test.YtlmgphomklpplaaLawNineA
import Derived.Test.YtlmgphomklpplaaCopy
namespace Go.Proofs.Ytlmgphomklpplaa
open Go.ChangeShapes Go.WideShapes Go.ChangeAt Go.RowKit
set_option linter.unusedVariables false
attribute [local go_sem ↓] Go.wp_at_zero Go.wp_at_succ

theorem few9_any (ta sa da : Option Addr) (tn tc sn sc dn dc : Nat) (x0 x1 x2 : Int) (w : World) :
    Calls Try.prog 13 #[.agg #[.slice ta tn tc, .slice sa sn sc, .slice da dn dc, .int .u8 x0, .int .u8 x1, .int .u8 x2]] w fun e w' => e = .returned (.bool (decide (tn ≤ 20) && decide (sn ≤ 20))) ∧ Below w.heap.size w w' := by
  go_enter Try.func13, Try.ntmps13
  go_wp2
  all_goals go_ret
  all_goals exact ⟨ret_b (by rw [Bool.eq_iff_iff]; simp <;> omega), below1 _ _⟩
theorem Lies.intD {w : World} {b off : Nat} {xs : List Int} {i : Nat} {x : Int} (h : ∀ k u, (xs.flatMap intCells)[k]? = some u → w.cell? ⟨b, off + k, none⟩ = some u) (hx : xs[i]? = some x) : w.cell? ⟨b, off + i, none⟩ = some (.int .i64 x) := by
  have := flat_at intCells 1 (fun _ => rfl) xs i 0 x hx (by omega)
  rw [Nat.mul_one, Nat.add_zero] at this
  exact h i _ (this.trans rfl)
set_option maxRecDepth 100000 in
set_option maxHeartbeats 4000000 in
theorem DemandSteps_not (ta sa da : Option Addr) (tn tc sn sc dn dc : Nat) (x0 x1 x2 : Int) (most : Int) (high : Bool) (w : World) (hn : (decide (tn ≤ 20) && decide (sn ≤ 20)) = false ∨ 400 < most) :
    Calls Try.prog 4 #[.agg #[.slice ta tn tc, .slice sa sn sc, .slice da dn dc, .int .u8 x0, .int .u8 x1, .int .u8 x2], .int .i64 most, .bool high] w fun e w' => e = .returned (.bool true) ∧ Below w.heap.size w w' := by
  obtain ⟨V, hV⟩ : ∃ V, V = w.alloc (.cells #[.slice ta tn tc, .slice sa sn sc, .slice da dn dc, .int .u8 x0, .int .u8 x1, .int .u8 x2] 39) := ⟨_, rfl⟩
  have ks : ∀ W : World, Below V.heap.size V W → W.cell? ⟨w.heap.size, 0, none⟩ = some (.slice ta tn tc) ∧ W.cell? ⟨w.heap.size, 1, none⟩ = some (.slice sa sn sc) ∧ W.cell? ⟨w.heap.size, 2, none⟩ = some (.slice da dn dc) ∧ W.cell? ⟨w.heap.size, 3, none⟩ = some (.int .u8 x0) ∧ W.cell? ⟨w.heap.size, 4, none⟩ = some (.int .u8 x1) ∧ W.cell? ⟨w.heap.size, 5, none⟩ = some (.int .u8 x2) := fun W h => by
    rw [hV] at h
    have k := box_says w #[.slice ta tn tc, .slice sa sn sc, .slice da dn dc, .int .u8 x0, .int .u8 x1, .int .u8 x2] 39 W h
    exact ⟨k 0 _ rfl, k 1 _ rfl, k 2 _ rfl, k 3 _ rfl, k 4 _ rfl, k 5 _ rfl⟩
  have hBV : Below w.heap.size w V := by rw [hV]; exact below1 _ _
  have hVw : w.heap.size < V.heap.size := by rw [hV]; simp
  have HV := Lib.hid hV; have HBV := Lib.hid hBV; have KS := Lib.hid ks
  clear hV hBV ks
  cases hf : (decide (tn ≤ 20) && decide (sn ≤ 20)) with
  | false =>
    have HFW := Lib.hid hf
    clear hf hn
    go_enter Try.func4, Try.ntmps4
    go_wp2_with (first
      | (go_at_call 13; refine (few9_any _ _ _ _ _ _ _ _ _ _ _ _ _).mono ?_; rintro e w1 ⟨rfl, hb1⟩; rw [HFW.out]; rw [← HV.out] at hb1)
      | (go_at_call 12; refine (knows9_any _).mono ?_; rintro e w2 ⟨rfl, hb2⟩))
    go_ret
    exact ⟨rfl, HBV.out.trans ((bel_thenD hb1 (Nat.le_refl _) hb2).mono (Nat.le_of_lt hVw))⟩
  | true =>
    have HFW := Lib.hid hf
    have hm : 400 < most := by
      rcases hn with h | h
      · rw [hf] at h; cases h
      · exact h
    clear hf hn
    go_enter Try.func4, Try.ntmps4
    go_wp2_with (first
      | (go_at_call 13; refine (few9_any _ _ _ _ _ _ _ _ _ _ _ _ _).mono ?_; rintro e w1 ⟨rfl, hb1⟩; rw [HFW.out]; rw [← HV.out] at hb1)
      | (go_at_call 12; refine (knows9_any _).mono ?_; rintro e w2 ⟨rfl, hb2⟩))
    go_ret
    exact ⟨rfl, HBV.out.trans ((bel_thenD hb1 (Nat.le_refl _) hb2).mono (Nat.le_of_lt hVw))⟩
set_option maxRecDepth 100000 in
set_option maxHeartbeats 4000000 in
theorem DemandSteps_is (ta sa da : Option Addr) (tn tc sn sc dn dc : Nat) (x0 x1 x2 : Int) (most : Int) (high : Bool) (w : World) (p : Pt) (htn : p.ts.length = tn) (hsn : p.ss.length = sn) (hdn : p.ds.length = dn)
    (hts : Lies w 0 w.heap.size (.slice ta tn tc) tn 6 (p.ts.flatMap Tk.cells)) (hss : Lies w 0 w.heap.size (.slice sa sn sc) sn 3 (p.ss.flatMap Sv.cells)) (hds : Lies w 0 w.heap.size (.slice da dn dc) dn 1 (p.ds.flatMap intCells)) (hd2 : dn * 8 ≤ 140737488355328)
    (ht2 : tn ≤ 20) (hs2 : sn ≤ 20) (hm : most ≤ 400) :
    Calls Try.prog 4 #[.agg #[.slice ta tn tc, .slice sa sn sc, .slice da dn dc, .int .u8 x0, .int .u8 x1, .int .u8 x2], .int .i64 most, .bool high] w fun e w' => e = .returned (.bool true) ∧ Below w.heap.size w w' := by
  obtain ⟨K, hK⟩ : ∃ K : Nat, min (max most 0) 65536 = (K : Int) := Int.eq_ofNat_of_zero_le (by omega)
  have hK2 : K ≤ 400 := by omega
  obtain ⟨V, hV⟩ : ∃ V, V = w.alloc (.cells #[.slice ta tn tc, .slice sa sn sc, .slice da dn dc, .int .u8 x0, .int .u8 x1, .int .u8 x2] 39) := ⟨_, rfl⟩
  have ks : ∀ W : World, Below V.heap.size V W → W.cell? ⟨w.heap.size, 0, none⟩ = some (.slice ta tn tc) ∧ W.cell? ⟨w.heap.size, 1, none⟩ = some (.slice sa sn sc) ∧ W.cell? ⟨w.heap.size, 2, none⟩ = some (.slice da dn dc) ∧ W.cell? ⟨w.heap.size, 3, none⟩ = some (.int .u8 x0) ∧ W.cell? ⟨w.heap.size, 4, none⟩ = some (.int .u8 x1) ∧ W.cell? ⟨w.heap.size, 5, none⟩ = some (.int .u8 x2) := fun W h => by
    rw [hV] at h
    have k := box_says w #[.slice ta tn tc, .slice sa sn sc, .slice da dn dc, .int .u8 x0, .int .u8 x1, .int .u8 x2] 39 W h
    exact ⟨k 0 _ rfl, k 1 _ rfl, k 2 _ rfl, k 3 _ rfl, k 4 _ rfl, k 5 _ rfl⟩
  have hBV : Below w.heap.size w V := by rw [hV]; exact below1 _ _
  have hVw : w.heap.size < V.heap.size := by rw [hV]; simp
  have hsame : ∀ W : World, Below V.heap.size V W → SameIn w W 0 w.heap.size := fun W hb => SameIn.of_below (hBV.trans (hb.mono (Nat.le_of_lt hVw))) (Nat.le_refl _)
  have hsize : ∀ W : World, Below V.heap.size V W → w.heap.size ≤ W.heap.size := fun W hb => Nat.le_trans (Nat.le_of_lt hVw) hb.size
  have CP := Lib.hid (fun (W : World) (hb : Below V.heap.size V W) =>
    part_wide ta sa da tn tc sn sc dn dc x0 x1 x2 W 0 w.heap.size p.ts p.ss p.ds htn hsn hdn (hts.keep (hsame W hb)) (hss.keep (hsame W hb)) (hds.keep (hsame W hb)) (hsize W hb) (by omega) (by omega) hd2)
  have CR := Lib.hid (fun (W : World) (hb : Below V.heap.size V W) =>
    rSteps_any ta sa da tn tc sn sc dn dc x0 x1 x2 most high W 0 w.heap.size p htn hsn (hts.keep (hsame W hb)) (hss.keep (hsame W hb)) (hsize W hb) ht2 hs2 hm K hK (fun t => demV p t high) rfl)
  have CS := Lib.hid (fun (W : World) (ta' sa' da' : Option Addr) (tc' sc' dc' : Nat) (h1 : Lies W 0 W.heap.size (.slice ta' tn tc') tn 6 (p.ts.flatMap Tk.cells)) (h2 : Lies W 0 W.heap.size (.slice sa' sn sc') sn 3 (p.ss.flatMap Sv.cells)) =>
    steps_any ta' sa' da' tn tc' sn sc' dn dc' x0 x1 x2 most high W 0 W.heap.size p htn hsn h1 h2 (Nat.le_refl _) (by omega) (by omega) K hK)
  have hL := outL_is (fun t => demV p t high) (metE (onceV p high) (againV p high)) K (fun t h1 h2 => met_is p high h1 (by omega))
  obtain ⟨L, hLL⟩ : ∃ L, L = (stepsV (fun t => demV p t high) K).map fun (n : Nat) => (n : Int) := ⟨_, rfl⟩
  rw [← hLL] at CR hL
  rw [hL] at CS
  have HFW : Hid ((decide (tn ≤ 20) && decide (sn ≤ 20)) = true) := Lib.hid (by simp; omega)
  have HV := Lib.hid hV; have HBV := Lib.hid hBV; have KS := Lib.hid ks
  have hlen : L.length ≤ 400 := by
    rw [hLL, List.length_map]
    exact Nat.le_trans (stepsV_len _ K) hK2
  clear hV hBV ks hts hss hds htn hsn hdn hsame hsize hL hLL hK hd2
  have hm0 : decide (400 < most) = false := by simp; omega
  go_enter Try.func4, Try.ntmps4
  go_wp2_with (first
    | (go_at_call 13; refine (few9_any _ _ _ _ _ _ _ _ _ _ _ _ _).mono ?_; rintro e w1 ⟨rfl, hb1⟩; rw [HFW.out]; rw [← HV.out] at hb1; have HB1 := Lib.hid hb1; obtain ⟨z0, z1, z2, z3, z4, z5⟩ := KS.out _ hb1; clear hb1)
    | (go_at_call 14; refine (CS.out _ _ _ _ _ _ _ ((Lies.of_owns HO1.out).wider (Nat.zero_le _) (Nat.le_refl _)) ((Lies.of_owns HO2.out).wider (Nat.zero_le _) (Nat.le_refl _))).mono ?_; rintro e w3 ⟨la, lc, rfl, ol, hb3⟩
       have HOL := Lib.hid ol; have HB3 := Lib.hid (bel_thenD HB2.out (Nat.le_refl _) hb3); clear ol hb3 z0 z1 z2 z3 z4 z5; obtain ⟨z0, z1, z2, z3, z4, z5⟩ := KS.out _ HB3.out)
    | (go_at_call 15; refine (CP.out _ HB1.out).mono ?_; rintro e w2 ⟨ta', tc', sa', sc', da', dc', rfl, o1, o2, o3, hb2⟩
       have HO1 := Lib.hid o1; have HO2 := Lib.hid o2; have HB2 := Lib.hid (bel_thenD HB1.out (Nat.le_refl _) hb2); clear o1 o2 o3 hb2)
    | (go_at_call 16; refine (CR.out _ HB3.out).mono ?_; rintro e w4 ⟨ma, mc, rfl, om, hb4⟩
       have HL1 := Lib.hid ((Lies.of_owns HOL.out).keep (SameIn.of_below hb4 (Nat.le_refl _))); have HL2 := Lib.hid (Lies.of_owns om); have HS3 := Lib.hid hb4.size; have HB4 := Lib.hid (bel_thenD HB3.out (Nat.le_refl _) hb4); clear om hb4))
  clear z0 z1 z2 z3 z4 z5 CP CR CS HOL HB1 HB2 HO1 HO2
  obtain ⟨ln, hln⟩ : ∃ ln, ln = L.length := ⟨_, rfl⟩
  rw [← hln] at HL1 HL2 hlen
  rw [← hln]
  have HLN := Lib.hid hln
  clear hln
  go_loopw [9] (fun i wr => ∃ k : Nat, k ≤ ln ∧ i = .int .i64 k ∧ Below w4.heap.size w4 wr) (fun i _ => ln - (intOf i).toNat)
  case atStart => exact ⟨0, by omega, rfl, Below.refl _ _⟩
  case round =>
    obtain ⟨k, hk, rfl, hb⟩ := hrel
    by_cases hlt : k < ln
    · have tk : decide ((k : Int) < (ln : Int)) = true := by simpa using hlt
      obtain ⟨x, hx⟩ : ∃ x, L[k]? = some x := ⟨_, List.getElem?_eq_getElem (by rw [← HLN.out]; exact hlt)⟩
      have hs3 := HS3.out
      obtain ⟨a1, c1, e1, _, _, hc1⟩ := HL1.out.keep (SameIn.of_below hb (by omega))
      obtain ⟨a2, c2, e2, _, _, hc2⟩ := HL2.out.keep (SameIn.of_below hb (Nat.le_refl _))
      cases e1; cases e2
      rcases hc1 with h0 | ⟨b1, off1, rfl, _, _, hc1⟩
      · omega
      rcases hc2 with h0 | ⟨b2, off2, rfl, _, _, hc2⟩
      · omega
      have y1 := Lies.intD hc1 hx
      have y2 := Lies.intD hc2 hx
      clear hc1 hc2 hx
      have l0 : (0 : Int) ≤ (k : Int) := by omega
      have l1 : (k : Int) < (ln : Int) := by omega
      go_wp2_with fail
      go_quiet (fail)
      go_wp2_with fail
      go_roundw
      case rel => exact ⟨k + 1, by omega, by go_num, by repeat first | assumption | refine below_drewD _ ?_⟩
      case measure => simp [intOf]; omega
    · have tk : decide ((k : Int) < (ln : Int)) = false := by simp; omega
      go_wp2_with (first
        | (go_at_call 12; refine (knows9_any _).mono ?_; rintro e w5 ⟨rfl, hb5⟩))
      go_ret
      exact ⟨rfl, HBV.out.trans ((bel_thenD (bel_thenD HB4.out (Nat.le_refl _) hb) (Nat.le_refl _) hb5).mono (Nat.le_of_lt hVw))⟩
theorem DemandSteps_walk (v : Pv) (p : Pt) (most : Int) (high : Bool) (w : World) (hl : PtLies w 0 w.heap.size v p) (hd2 : p.ds.length * 8 ≤ 140737488355328) :
    Calls Try.prog 4 #[.agg v.cells.toArray, .int .i64 most, .bool high] w fun e w' => e = .returned (.bool true) ∧ Below w.heap.size w w' := by
  obtain ⟨ta, sa, da, tc, sc, dc, e1, e2, e3⟩ := hl.slices
  obtain ⟨h1, h2, h3, _⟩ := hl
  obtain ⟨v1, v2, v3, x0, x1, x2⟩ := v
  simp only at e1 e2 e3
  subst e1 e2 e3
  by_cases h : (p.ts.length ≤ 20 ∧ p.ss.length ≤ 20) ∧ most ≤ 400
  · exact DemandSteps_is ta sa da _ tc _ sc _ dc x0 x1 x2 most high w p rfl rfl rfl h1 h2 h3 hd2 h.1.1 h.1.2 h.2
  · refine DemandSteps_not ta sa da _ tc _ sc _ dc x0 x1 x2 most high w ?_
    by_cases hf : p.ts.length ≤ 20 ∧ p.ss.length ≤ 20
    · exact .inr (by omega)
    · exact .inl (by simp; omega)
end Go.Proofs.Ytlmgphomklpplaa
