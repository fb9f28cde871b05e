/- The document's demand of a partition, and its steps. -/
import Derived.Test.YtdbbdlobahalkaaGreatDemandOne
import Derived.Test.YtdbbdlobahalkaaGreatDemandS
import Derived.Test.YtdbbdlobahalkaaGreatGrow
namespace Go.Proofs.YtdbbdlobahalkaaGreat
open Go.ChangeShapes Go.WideShapes Go.ChangeAt Go.RowKit
set_option linter.unusedVariables false
attribute [local go_sem ↓] Go.wp_at_zero Go.wp_at_succ

theorem ofV_bd (k : Tk) (t : Int) (high : Bool) : 0 ≤ ofV k t high ∧ ofV k t high ≤ 1099511627777000 := by
  obtain ⟨c0, c1⟩ := cutT_in t
  unfold ofV
  by_cases h : okTk k = true
  · rw [if_pos h]
    split
    · exact highAt_bd h c0 c1
    · exact lowAt_bd h c0 c1
  · rw [if_neg h]; omega
theorem servV_bd (s : Sv) (t : Int) : 0 ≤ servV s t ∧ servV s t ≤ 1099511627777000 := by
  obtain ⟨c0, c1⟩ := cutT_in t
  unfold servV
  by_cases h : okSv s = true
  · rw [if_pos h]; exact servAt_bd h c0 c1
  · rw [if_neg h]; omega
theorem take_map_next {α : Type} (f : α → Int) (xs : List α) (k : Nat) (x : α) (h : xs[k]? = some x) : sumI ((xs.take (k + 1)).map f) = sumI ((xs.take k).map f) + f x := by
  rw [List.take_add_one, h, List.map_append]
  exact sumI_snoc _ _
theorem sum_bd {α : Type} (f : α → Int) (hf : ∀ x, 0 ≤ f x ∧ f x ≤ 1099511627777000) (xs : List α) (h : xs.length ≤ 20) : 0 ≤ sumI (xs.map f) ∧ sumI (xs.map f) ≤ 21990232555540000 := by
  have := sumI_bd (B := 1099511627777000) xs.length (xs.map f) (by simp) (fun x hx => by
    obtain ⟨y, _, rfl⟩ := List.mem_map.1 hx
    exact hf y)
  have h2 : ((xs.length : Nat) : Int) ≤ 20 := by omega
  omega
theorem stepsV_len (d : Int → Int) : ∀ k, (stepsV d k).length ≤ k
  | 0 => by simp [stepsV]
  | k + 1 => by
    have := stepsV_len d k
    rw [stepsV_next]
    split
    · omega
    · rw [List.length_append]; simp; omega
set_option maxRecDepth 100000 in
set_option maxHeartbeats 2000000 in
theorem rDemand_any (ta sa da : Option Addr) (tn tc sn sc dn dc : Nat) (x0 x1 x2 : Int) (t : Int) (high : Bool) (w : World) (lo hi : Nat) (p : Pt) (htn : p.ts.length = tn) (hsn : p.ss.length = sn)
    (hts : Lies w lo hi (.slice ta tn tc) tn 6 (p.ts.flatMap Tk.cells)) (hss : Lies w lo hi (.slice sa sn sc) sn 3 (p.ss.flatMap Sv.cells)) (hhi : hi ≤ w.heap.size) (ht2 : tn ≤ 20) (hs2 : sn ≤ 20) :
    Calls Tryz.prog 35 #[.agg #[.slice ta tn tc, .slice sa sn sc, .slice da dn dc, .int .u8 x0, .int .u8 x1, .int .u8 x2], .int .i64 t, .bool high] w fun e w' => e = .returned (.int .i64 (demV p t high)) ∧ Below w.heap.size w w' := by
  obtain ⟨V, hV⟩ : ∃ V, V = w.alloc (.cells #[.slice ta tn tc, .slice sa sn sc, .slice da dn dc, .int .u8 x0, .int .u8 x1, .int .u8 x2] 81) := ⟨_, rfl⟩
  have ks : ∀ W : World, Below V.heap.size V W → W.cell? ⟨w.heap.size, 0, none⟩ = some (.slice ta tn tc) ∧ W.cell? ⟨w.heap.size, 1, none⟩ = some (.slice sa sn sc) ∧ W.cell? ⟨w.heap.size, 2, none⟩ = some (.slice da dn dc) ∧ W.cell? ⟨w.heap.size, 3, none⟩ = some (.int .u8 x0) ∧ W.cell? ⟨w.heap.size, 4, none⟩ = some (.int .u8 x1) ∧ W.cell? ⟨w.heap.size, 5, none⟩ = some (.int .u8 x2) := fun W h => by
    rw [hV] at h
    have k := box_says w #[.slice ta tn tc, .slice sa sn sc, .slice da dn dc, .int .u8 x0, .int .u8 x1, .int .u8 x2] 81 W h
    exact ⟨k 0 _ rfl, k 1 _ rfl, k 2 _ rfl, k 3 _ rfl, k 4 _ rfl, k 5 _ rfl⟩
  have hBV : Below w.heap.size w V := by rw [hV]; exact below1 _ _
  have hVw : w.heap.size < V.heap.size := by rw [hV]; simp
  have HT := Lib.hid hts; have HS := Lib.hid hss; have HTN := Lib.hid htn; have HSN := Lib.hid hsn
  have HV := Lib.hid hV; have HBV := Lib.hid hBV; have KS := Lib.hid ks
  have hDL : high = false → demV p t high = sumI (p.ts.map fun k => ofV k t false) + sumI (p.ss.map fun s => servV s t) := fun h => by subst h; rfl
  have hDH : high = true → demV p t high = sumI (p.ts.map fun k => ofV k t true) := fun h => by subst h; rfl
  have HDL := Lib.hid hDL; have HDH := Lib.hid hDH
  have HBD := Lib.hid (fun (xs : List Tk) (h : xs.length ≤ 20) => sum_bd (fun k => ofV k t high) (fun x => ofV_bd x t high) xs h)
  have HBS := Lib.hid (fun (xs : List Sv) (h : xs.length ≤ 20) => sum_bd (fun s => servV s t) (fun x => servV_bd x t) xs h)
  clear hV hBV ks hts hss htn hsn hDL hDH
  go_enter Tryz.func35, Tryz.ntmps35
  go_wp2_with fail
  rw [← HV.out]
  go_wp2_with fail
  go_loopw [7, 8] (fun n i wr => ∃ k : Nat, k ≤ tn ∧ n = .int .i64 (sumI ((p.ts.take k).map fun k => ofV k t high)) ∧ i = .int .i64 k ∧ Below V.heap.size V wr) (fun _ i _ => tn - (intOf i).toNat)
  case atStart => exact ⟨0, by omega, rfl, rfl, Below.refl _ _⟩
  case round =>
    obtain ⟨k, hk, rfl, rfl, hb⟩ := hrel
    obtain ⟨z0, z1, _⟩ := KS.out wr hb
    by_cases hlt : k < tn
    · have tk : decide ((k : Int) < (tn : Int)) = true := by simpa using hlt
      obtain ⟨x, hx⟩ : ∃ x, p.ts[k]? = some x := ⟨_, List.getElem?_eq_getElem (by rw [HTN.out]; exact hlt)⟩
      have hlies := HT.out.keep (SameIn.of_below (HBV.out.trans (hb.mono (Nat.le_of_lt hVw))) hhi)
      obtain ⟨a2, c2, e2, _, _, hc⟩ := hlies
      cases e2
      rcases hc with h0 | ⟨b, off, rfl, hb1, hb2, hc⟩
      · omega
      obtain ⟨s0, s1, s2, s3, s4, s5⟩ := Lies.tk hc hx
      have HN := Lib.hid (take_map_next (fun k => ofV k t high) p.ts k x hx)
      obtain ⟨m0, m1⟩ := HBD.out (p.ts.take k) (by rw [List.length_take]; omega)
      have HOV := ofV_bd x t high
      obtain ⟨v0, v1⟩ := HOV
      clear hc hx
      obtain ⟨xb, xt, xd, xv, xlo, xtop⟩ := x
      simp only at s0 s1 s2 s3 s4 s5
      obtain ⟨y, hy⟩ : ∃ y, y = ofV ⟨xb, xt, xd, xv, xlo, xtop⟩ t high := ⟨_, rfl⟩
      rw [← hy] at HN v0 v1
      have HY := Lib.hid hy
      clear hy
      generalize sumI ((p.ts.take k).map fun k => ofV k t high) = sm at *
      have l0 : (0 : Int) ≤ (k : Int) := by omega
      have l1 : (k : Int) < (tn : Int) := by omega
      go_wp2_with (first
        | (go_at_call 70; refine (rOf_any _ _ _ _ _ _ _ _ _).mono ?_; rintro e w1 ⟨rfl, hb1'⟩; rw [← HY.out]))
      go_roundw
      case rel => exact ⟨k + 1, by omega, by rw [HN.out], by go_num, hb.trans (hb1'.mono hb.size)⟩
      case measure => simp [intOf]; omega
    · have tk : decide ((k : Int) < (tn : Int)) = false := by simp; omega
      obtain ⟨m0, m1⟩ := HBD.out p.ts (by rw [HTN.out]; omega)
      have HE := Lib.hid (show sumI ((p.ts.take k).map fun k => ofV k t high) = sumI (p.ts.map fun k => ofV k t high) from by rw [List.take_of_length_le (show p.ts.length ≤ k by rw [HTN.out]; omega)])
      rw [HE.out]
      clear HE HT HTN HBD
      cases high with
      | true =>
        obtain ⟨sm, hsm⟩ : ∃ sm, sm = sumI (p.ts.map fun k => ofV k t true) := ⟨_, rfl⟩
        have HD2 := Lib.hid ((HDH.out rfl).trans hsm.symm)
        rw [← hsm]
        clear HDH HDL hsm m0 m1
        go_wp2_with fail
        go_loopw [7, 9] (fun n i wx => n = .int .i64 sm ∧ i = .int .i64 0 ∧ Below V.heap.size V wx) (fun _ _ _ => 0)
        case atStart => exact ⟨rfl, rfl, hb⟩
        case round =>
          clear hb z0 z1
          obtain ⟨rfl, rfl, hb⟩ := hrel
          obtain ⟨z0, z1, _⟩ := KS.out wr hb
          go_wp2_with fail
          all_goals go_ret
          all_goals exact ⟨ret_iD HD2.out.symm, HBV.out.trans (hb.mono (Nat.le_of_lt hVw))⟩
      | false =>
        obtain ⟨sm, hsm⟩ : ∃ sm, sm = sumI (p.ts.map fun k => ofV k t false) := ⟨_, rfl⟩
        rw [← hsm] at HDL m0 m1
        rw [← hsm]
        have HD2 := Lib.hid (HDL.out rfl)
        clear HDH HDL hsm
        obtain ⟨wo, hwo⟩ : ∃ wo, wo = wr := ⟨_, rfl⟩
        subst hwo
        go_wp2_with fail
        clear z0 z1
        go_loopw [7, 9] (fun n i wx => ∃ k : Nat, k ≤ sn ∧ n = .int .i64 (sm + sumI ((p.ss.take k).map fun s => servV s t)) ∧ i = .int .i64 k ∧ Below V.heap.size V wx) (fun _ i _ => sn - (intOf i).toNat)
        case atStart => exact ⟨0, by omega, by simp [sumI], rfl, hb⟩
        case round =>
          clear hb hk tk hlt
          obtain ⟨k, hk, rfl, rfl, hb⟩ := hrel
          obtain ⟨z0, z1, _⟩ := KS.out wr hb
          by_cases hlt : k < sn
          · have tk : decide ((k : Int) < (sn : Int)) = true := by simpa using hlt
            obtain ⟨x, hx⟩ : ∃ x, p.ss[k]? = some x := ⟨_, List.getElem?_eq_getElem (by rw [HSN.out]; exact hlt)⟩
            have hlies := HS.out.keep (SameIn.of_below (HBV.out.trans (hb.mono (Nat.le_of_lt hVw))) hhi)
            obtain ⟨a2, c2, e2, _, _, hc⟩ := hlies
            cases e2
            rcases hc with h0 | ⟨b, off, rfl, hb1, hb2, hc⟩
            · omega
            obtain ⟨s0, s1, s2⟩ := Lies.sv hc hx
            have HN := Lib.hid (take_map_next (fun s => servV s t) p.ss k x hx)
            obtain ⟨n0, n1⟩ := HBS.out (p.ss.take k) (by rw [List.length_take]; omega)
            have HOV := servV_bd x t
            obtain ⟨v0, v1⟩ := HOV
            clear hc hx
            obtain ⟨xr, xc, xt⟩ := x
            simp only at s0 s1 s2
            obtain ⟨y, hy⟩ : ∃ y, y = servV ⟨xr, xc, xt⟩ t := ⟨_, rfl⟩
            rw [← hy] at HN v0 v1
            have HY := Lib.hid hy
            clear hy
            generalize sumI ((p.ss.take k).map fun s => servV s t) = sm2 at *
            have l0 : (0 : Int) ≤ (k : Int) := by omega
            have l1 : (k : Int) < (sn : Int) := by omega
            go_wp2_with (first
              | (go_at_call 71; refine (rServe_any _ _ _ _ _).mono ?_; rintro e w1 ⟨rfl, hb1'⟩; rw [← HY.out]))
            go_roundw
            case rel => exact ⟨k + 1, by omega, by rw [HN.out, Int.add_assoc], by go_num, hb.trans (hb1'.mono hb.size)⟩
            case measure => simp [intOf]; omega
          · have tk : decide ((k : Int) < (sn : Int)) = false := by simp; omega
            have HE := Lib.hid (show sumI ((p.ss.take k).map fun s => servV s t) = sumI (p.ss.map fun s => servV s t) from by rw [List.take_of_length_le (show p.ss.length ≤ k by rw [HSN.out]; omega)])
            rw [HE.out]
            generalize sumI (p.ss.map fun s => servV s t) = sm2 at *
            clear HE HS HSN HBS
            go_wp2_with fail
            go_ret
            exact ⟨ret_iD HD2.out.symm, HBV.out.trans (hb.mono (Nat.le_of_lt hVw))⟩
end Go.Proofs.YtdbbdlobahalkaaGreat
