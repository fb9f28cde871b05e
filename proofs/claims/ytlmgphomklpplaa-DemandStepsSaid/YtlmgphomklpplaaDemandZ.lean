/- The document's demand of a partition, and its steps. -/
import Derived.Test.YtlmgphomklpplaaDemandR
import Derived.Test.YtlmgphomklpplaaDemandS
import Derived.Test.YtlmgphomklpplaaGrow
namespace Go.Proofs.Ytlmgphomklpplaa
open Go.ChangeShapes Go.WideShapes Go.ChangeAt Go.RowKit
set_option linter.unusedVariables false
attribute [local go_sem ↓] Go.wp_at_zero Go.wp_at_succ

theorem ofV_bd (k : Tk) (t : Int) (high : Bool) : 0 ≤ ofV k t high ∧ ofV k t high ≤ 1099511627777000 := by
  obtain ⟨c0, c1⟩ := cutT_in t
  unfold ofV
  by_cases h : okTk k = true
  · rw [if_pos h]
    split
    · exact highAt_bd h c0 c1
    · exact lowAt_bd h c0 c1
  · rw [if_neg h]; omega
theorem servV_bd (s : Sv) (t : Int) : 0 ≤ servV s t ∧ servV s t ≤ 1099511627777000 := by
  obtain ⟨c0, c1⟩ := cutT_in t
  unfold servV
  by_cases h : okSv s = true
  · rw [if_pos h]; exact servAt_bd h c0 c1
  · rw [if_neg h]; omega
theorem take_map_next {α : Type} (f : α → Int) (xs : List α) (k : Nat) (x : α) (h : xs[k]? = some x) : sumI ((xs.take (k + 1)).map f) = sumI ((xs.take k).map f) + f x := by
  rw [List.take_add_one, h, List.map_append]
  exact sumI_snoc _ _
theorem sum_bd {α : Type} (f : α → Int) (hf : ∀ x, 0 ≤ f x ∧ f x ≤ 1099511627777000) (xs : List α) (h : xs.length ≤ 20) : 0 ≤ sumI (xs.map f) ∧ sumI (xs.map f) ≤ 21990232555540000 := by
  have := sumI_bd (B := 1099511627777000) xs.length (xs.map f) (by simp) (fun x hx => by
    obtain ⟨y, _, rfl⟩ := List.mem_map.1 hx
    exact hf y)
  have h2 : ((xs.length : Nat) : Int) ≤ 20 := by omega
  omega
theorem stepsV_len (d : Int → Int) : ∀ k, (stepsV d k).length ≤ k
  | 0 => by simp [stepsV]
  | k + 1 => by
    have := stepsV_len d k
    rw [stepsV_next]
    split
    · omega
    · rw [List.length_append]; simp; omega
set_option maxRecDepth 100000 in
set_option maxHeartbeats 2000000 in
theorem rDemand_any (ta sa da : Option Addr) (tn tc sn sc dn dc : Nat) (x0 x1 x2 : Int) (t : Int) (high : Bool) (w : World) (lo hi : Nat) (p : Pt) (htn : p.ts.length = tn) (hsn : p.ss.length = sn)
    (hts : Lies w lo hi (.slice ta tn tc) tn 6 (p.ts.flatMap Tk.cells)) (hss : Lies w lo hi (.slice sa sn sc) sn 3 (p.ss.flatMap Sv.cells)) (hhi : hi ≤ w.heap.size) (ht2 : tn ≤ 20) (hs2 : sn ≤ 20) :
    Calls Try.prog 30 #[.agg #[.slice ta tn tc, .slice sa sn sc, .slice da dn dc, .int .u8 x0, .int .u8 x1, .int .u8 x2], .int .i64 t, .bool high] w fun e w' => e = .returned (.int .i64 (demV p t high)) ∧ Below w.heap.size w w' := by
  obtain ⟨V, hV⟩ : ∃ V, V = w.alloc (.cells #[.slice ta tn tc, .slice sa sn sc, .slice da dn dc, .int .u8 x0, .int .u8 x1, .int .u8 x2] 39) := ⟨_, rfl⟩
  have ks : ∀ W : World, Below V.heap.size V W → W.cell? ⟨w.heap.size, 0, none⟩ = some (.slice ta tn tc) ∧ W.cell? ⟨w.heap.size, 1, none⟩ = some (.slice sa sn sc) ∧ W.cell? ⟨w.heap.size, 2, none⟩ = some (.slice da dn dc) ∧ W.cell? ⟨w.heap.size, 3, none⟩ = some (.int .u8 x0) ∧ W.cell? ⟨w.heap.size, 4, none⟩ = some (.int .u8 x1) ∧ W.cell? ⟨w.heap.size, 5, none⟩ = some (.int .u8 x2) := fun W h => by
    rw [hV] at h
    have k := box_says w #[.slice ta tn tc, .slice sa sn sc, .slice da dn dc, .int .u8 x0, .int .u8 x1, .int .u8 x2] 39 W h
    exact ⟨k 0 _ rfl, k 1 _ rfl, k 2 _ rfl, k 3 _ rfl, k 4 _ rfl, k 5 _ rfl⟩
  have hBV : Below w.heap.size w V := by rw [hV]; exact below1 _ _
  have hVw : w.heap.size < V.heap.size := by rw [hV]; simp
  have HT := Lib.hid hts; have HS := Lib.hid hss; have HTN := Lib.hid htn; have HSN := Lib.hid hsn
  have HV := Lib.hid hV; have HBV := Lib.hid hBV; have KS := Lib.hid ks
  have hDL : high = false → demV p t high = sumI (p.ts.map fun k => ofV k t false) + sumI (p.ss.map fun s => servV s t) := fun h => by subst h; rfl
  have hDH : high = true → demV p t high = sumI (p.ts.map fun k => ofV k t true) := fun h => by subst h; rfl
  have HDL := Lib.hid hDL; have HDH := Lib.hid hDH
  have HBD := Lib.hid (fun (xs : List Tk) (h : xs.length ≤ 20) => sum_bd (fun k => ofV k t high) (fun x => ofV_bd x t high) xs h)
  have HBS := Lib.hid (fun (xs : List Sv) (h : xs.length ≤ 20) => sum_bd (fun s => servV s t) (fun x => servV_bd x t) xs h)
  clear hV hBV ks hts hss htn hsn hDL hDH
  go_enter Try.func30, Try.ntmps30
  go_wp2_with fail
  rw [← HV.out]
  go_wp2_with fail
  go_loopw [7, 8] (fun n i wr => ∃ k : Nat, k ≤ tn ∧ n = .int .i64 (sumI ((p.ts.take k).map fun k => ofV k t high)) ∧ i = .int .i64 k ∧ Below V.heap.size V wr) (fun _ i _ => tn - (intOf i).toNat)
  case atStart => exact ⟨0, by omega, rfl, rfl, Below.refl _ _⟩
  case round =>
    obtain ⟨k, hk, rfl, rfl, hb⟩ := hrel
    obtain ⟨z0, z1, _⟩ := KS.out wr hb
    by_cases hlt : k < tn
    · have tk : decide ((k : Int) < (tn : Int)) = true := by simpa using hlt
      obtain ⟨x, hx⟩ : ∃ x, p.ts[k]? = some x := ⟨_, List.getElem?_eq_getElem (by rw [HTN.out]; exact hlt)⟩
      have hlies := HT.out.keep (SameIn.of_below (HBV.out.trans (hb.mono (Nat.le_of_lt hVw))) hhi)
      obtain ⟨a2, c2, e2, _, _, hc⟩ := hlies
      cases e2
      rcases hc with h0 | ⟨b, off, rfl, hb1, hb2, hc⟩
      · omega
      obtain ⟨s0, s1, s2, s3, s4, s5⟩ := Lies.tk hc hx
      have HN := Lib.hid (take_map_next (fun k => ofV k t high) p.ts k x hx)
      obtain ⟨m0, m1⟩ := HBD.out (p.ts.take k) (by rw [List.length_take]; omega)
      have HOV := ofV_bd x t high
      obtain ⟨v0, v1⟩ := HOV
      clear hc hx
      obtain ⟨xb, xt, xd, xv, xlo, xtop⟩ := x
      simp only at s0 s1 s2 s3 s4 s5
      obtain ⟨y, hy⟩ : ∃ y, y = ofV ⟨xb, xt, xd, xv, xlo, xtop⟩ t high := ⟨_, rfl⟩
      rw [← hy] at HN v0 v1
      have HY := Lib.hid hy
      clear hy
      generalize sumI ((p.ts.take k).map fun k => ofV k t high) = sm at *
      have l0 : (0 : Int) ≤ (k : Int) := by omega
      have l1 : (k : Int) < (tn : Int) := by omega
      go_wp2_with (first
        | (go_at_call 9; refine (rOf_any _ _ _ _ _ _ _ _ _).mono ?_; rintro e w1 ⟨rfl, hb1'⟩; rw [← HY.out]))
      go_roundw
      case rel => exact ⟨k + 1, by omega, by rw [HN.out], by go_num, hb.trans (hb1'.mono hb.size)⟩
      case measure => simp [intOf]; omega
    · have tk : decide ((k : Int) < (tn : Int)) = false := by simp; omega
      obtain ⟨m0, m1⟩ := HBD.out p.ts (by rw [HTN.out]; omega)
      have HE := Lib.hid (show sumI ((p.ts.take k).map fun k => ofV k t high) = sumI (p.ts.map fun k => ofV k t high) from by rw [List.take_of_length_le (show p.ts.length ≤ k by rw [HTN.out]; omega)])
      rw [HE.out]
      clear HE HT HTN HBD
      cases high with
      | true =>
        obtain ⟨sm, hsm⟩ : ∃ sm, sm = sumI (p.ts.map fun k => ofV k t true) := ⟨_, rfl⟩
        have HD2 := Lib.hid ((HDH.out rfl).trans hsm.symm)
        rw [← hsm]
        clear HDH HDL hsm m0 m1
        go_wp2_with fail
        go_loopw [7, 9] (fun n i wx => n = .int .i64 sm ∧ i = .int .i64 0 ∧ Below V.heap.size V wx) (fun _ _ _ => 0)
        case atStart => exact ⟨rfl, rfl, hb⟩
        case round =>
          clear hb z0 z1
          obtain ⟨rfl, rfl, hb⟩ := hrel
          obtain ⟨z0, z1, _⟩ := KS.out wr hb
          go_wp2_with fail
          all_goals go_ret
          all_goals exact ⟨ret_iD HD2.out.symm, HBV.out.trans (hb.mono (Nat.le_of_lt hVw))⟩
      | false =>
        obtain ⟨sm, hsm⟩ : ∃ sm, sm = sumI (p.ts.map fun k => ofV k t false) := ⟨_, rfl⟩
        rw [← hsm] at HDL m0 m1
        rw [← hsm]
        have HD2 := Lib.hid (HDL.out rfl)
        clear HDH HDL hsm
        obtain ⟨wo, hwo⟩ : ∃ wo, wo = wr := ⟨_, rfl⟩
        subst hwo
        go_wp2_with fail
        clear z0 z1
        go_loopw [7, 9] (fun n i wx => ∃ k : Nat, k ≤ sn ∧ n = .int .i64 (sm + sumI ((p.ss.take k).map fun s => servV s t)) ∧ i = .int .i64 k ∧ Below V.heap.size V wx) (fun _ i _ => sn - (intOf i).toNat)
        case atStart => exact ⟨0, by omega, by simp [sumI], rfl, hb⟩
        case round =>
          clear hb hk tk hlt
          obtain ⟨k, hk, rfl, rfl, hb⟩ := hrel
          obtain ⟨z0, z1, _⟩ := KS.out wr hb
          by_cases hlt : k < sn
          · have tk : decide ((k : Int) < (sn : Int)) = true := by simpa using hlt
            obtain ⟨x, hx⟩ : ∃ x, p.ss[k]? = some x := ⟨_, List.getElem?_eq_getElem (by rw [HSN.out]; exact hlt)⟩
            have hlies := HS.out.keep (SameIn.of_below (HBV.out.trans (hb.mono (Nat.le_of_lt hVw))) hhi)
            obtain ⟨a2, c2, e2, _, _, hc⟩ := hlies
            cases e2
            rcases hc with h0 | ⟨b, off, rfl, hb1, hb2, hc⟩
            · omega
            obtain ⟨s0, s1, s2⟩ := Lies.sv hc hx
            have HN := Lib.hid (take_map_next (fun s => servV s t) p.ss k x hx)
            obtain ⟨n0, n1⟩ := HBS.out (p.ss.take k) (by rw [List.length_take]; omega)
            have HOV := servV_bd x t
            obtain ⟨v0, v1⟩ := HOV
            clear hc hx
            obtain ⟨xr, xc, xt⟩ := x
            simp only at s0 s1 s2
            obtain ⟨y, hy⟩ : ∃ y, y = servV ⟨xr, xc, xt⟩ t := ⟨_, rfl⟩
            rw [← hy] at HN v0 v1
            have HY := Lib.hid hy
            clear hy
            generalize sumI ((p.ss.take k).map fun s => servV s t) = sm2 at *
            have l0 : (0 : Int) ≤ (k : Int) := by omega
            have l1 : (k : Int) < (sn : Int) := by omega
            go_wp2_with (first
              | (go_at_call 11; refine (rServe_any _ _ _ _ _).mono ?_; rintro e w1 ⟨rfl, hb1'⟩; rw [← HY.out]))
            go_roundw
            case rel => exact ⟨k + 1, by omega, by rw [HN.out, Int.add_assoc], by go_num, hb.trans (hb1'.mono hb.size)⟩
            case measure => simp [intOf]; omega
          · have tk : decide ((k : Int) < (sn : Int)) = false := by simp; omega
            have HE := Lib.hid (show sumI ((p.ss.take k).map fun s => servV s t) = sumI (p.ss.map fun s => servV s t) from by rw [List.take_of_length_le (show p.ss.length ≤ k by rw [HSN.out]; omega)])
            rw [HE.out]
            generalize sumI (p.ss.map fun s => servV s t) = sm2 at *
            clear HE HS HSN HBS
            go_wp2_with fail
            go_ret
            exact ⟨ret_iD HD2.out.symm, HBV.out.trans (hb.mono (Nat.le_of_lt hVw))⟩
set_option maxRecDepth 100000 in
set_option maxHeartbeats 4000000 in
theorem rSteps_any (ta sa da : Option Addr) (tn tc sn sc dn dc : Nat) (x0 x1 x2 : Int) (most : Int) (high : Bool) (w : World) (lo hi : Nat) (p : Pt) (htn : p.ts.length = tn) (hsn : p.ss.length = sn)
    (hts : Lies w lo hi (.slice ta tn tc) tn 6 (p.ts.flatMap Tk.cells)) (hss : Lies w lo hi (.slice sa sn sc) sn 3 (p.ss.flatMap Sv.cells)) (hhi : hi ≤ w.heap.size) (ht2 : tn ≤ 20) (hs2 : sn ≤ 20) (hm : most ≤ 400) (K : Nat) (hK : min (max most 0) 65536 = (K : Int)) (d : Int → Int) (hdd : d = fun t => demV p t high) :
    Calls Try.prog 16 #[.agg #[.slice ta tn tc, .slice sa sn sc, .slice da dn dc, .int .u8 x0, .int .u8 x1, .int .u8 x2], .int .i64 most, .bool high] w fun e w' => ∃ a cap, e = .returned (.slice a ((stepsV d K).map fun (n : Nat) => (n : Int)).length cap) ∧ w'.ownsRow w.heap.size 3 1 (.slice a ((stepsV d K).map fun (n : Nat) => (n : Int)).length cap) ((stepsV d K).map fun (n : Nat) => (n : Int)).length (((stepsV d K).map fun (n : Nat) => (n : Int)).flatMap intCells) ∧ Below w.heap.size w w' := by
  obtain ⟨i0, hi0, hz0, hz1, hz2⟩ := info_parts Try.infoInt
  have HI := Lib.hid hi0
  have hK2 : K ≤ 400 := by omega
  obtain ⟨V, hV⟩ : ∃ V, V = w.alloc (.cells #[.slice ta tn tc, .slice sa sn sc, .slice da dn dc, .int .u8 x0, .int .u8 x1, .int .u8 x2] 39) := ⟨_, rfl⟩
  have ks : ∀ W : World, Below V.heap.size V W → W.cell? ⟨w.heap.size, 0, none⟩ = some (.slice ta tn tc) ∧ W.cell? ⟨w.heap.size, 1, none⟩ = some (.slice sa sn sc) ∧ W.cell? ⟨w.heap.size, 2, none⟩ = some (.slice da dn dc) ∧ W.cell? ⟨w.heap.size, 3, none⟩ = some (.int .u8 x0) ∧ W.cell? ⟨w.heap.size, 4, none⟩ = some (.int .u8 x1) ∧ W.cell? ⟨w.heap.size, 5, none⟩ = some (.int .u8 x2) := fun W h => by
    rw [hV] at h
    have k := box_says w #[.slice ta tn tc, .slice sa sn sc, .slice da dn dc, .int .u8 x0, .int .u8 x1, .int .u8 x2] 39 W h
    exact ⟨k 0 _ rfl, k 1 _ rfl, k 2 _ rfl, k 3 _ rfl, k 4 _ rfl, k 5 _ rfl⟩
  have hBV : Below w.heap.size w V := by rw [hV]; exact below1 _ _
  have hVw : w.heap.size < V.heap.size := by rw [hV]; simp
  have CD := Lib.hid (fun (W : World) (hb : Below V.heap.size V W) (t : Int) =>
    rDemand_any ta sa da tn tc sn sc dn dc x0 x1 x2 t high W lo hi p htn hsn (hts.keep (SameIn.of_below (hBV.trans (hb.mono (Nat.le_of_lt hVw))) hhi)) (hss.keep (SameIn.of_below (hBV.trans (hb.mono (Nat.le_of_lt hVw))) hhi)) (Nat.le_trans hhi (Nat.le_trans (Nat.le_of_lt hVw) hb.size)) ht2 hs2)
  have HDD := Lib.hid (show ∀ t, d t = demV p t high from fun t => by rw [hdd])
  clear hdd
  rcases (show (most < 0 ∧ K = 0) ∨ (0 ≤ most ∧ most ≤ 65536 ∧ most = (K : Int)) by omega) with ⟨e1, e2⟩ | ⟨e1, e2, e3⟩
  · subst e2
    clear hK
    have HV := Lib.hid hV; have HBV := Lib.hid hBV; have KS := Lib.hid ks
    clear hV hBV ks hts hss htn hsn hi0
    go_enter Try.func16, Try.ntmps16
    go_wp2_with fail
    rw [← HV.out]
    obtain ⟨z0, z1, z2, z3, z4, z5⟩ := KS.out V (Below.refl _ _)
    go_wp2_with (first
      | (go_at_call 30; refine (CD.out _ (Below.refl _ _) _).mono ?_; rintro e w1 ⟨rfl, hb1⟩))
    clear z0 z1 z2 z3 z4 z5
    obtain ⟨e0, he0⟩ : ∃ e0, e0 = d ((0 : Nat) : Int) := ⟨_, rfl⟩
    have HD0 : Hid (demV p 0 high = e0) := Lib.hid (by rw [he0, HDD.out]; rfl)
    have HE0 := Lib.hid he0
    clear he0
    rw [HD0.out]
    have HB1 := Lib.hid hb1
    clear hb1
    go_loopw [7, 8, 9] (fun s7 s8 s9 wr => ∃ (k nc : Nat) (na : Option Addr), k ≤ 0 ∧ s7 = .slice na ((stepsV d k).map fun (n : Nat) => (n : Int)).length nc ∧ s8 = .int .i64 (d (k : Int)) ∧ s9 = .int .i64 ((k + 1 : Nat) : Int) ∧ Hid (wr.ownsRow w1.heap.size 3 1 (.slice na ((stepsV d k).map fun (n : Nat) => (n : Int)).length nc) ((stepsV d k).map fun (n : Nat) => (n : Int)).length (((stepsV d k).map fun (n : Nat) => (n : Int)).flatMap intCells)) ∧ Below w1.heap.size w1 wr) (fun _ _ s9 _ => 2 - (intOf s9).toNat)
    case atStart => exact ⟨0, 0, none, by omega, rfl, by rw [HE0.out], rfl, Lib.hid (World.ownsRow_nil _ _ _ _), Below.refl _ _⟩
    case round =>
      obtain ⟨k, nc, na, hk, rfl, rfl, rfl, HO, hb⟩ := hrel
      have hbV := HB1.out.trans (hb.mono HB1.out.size)
      obtain ⟨z0, z1, z2, z3, z4, z5⟩ := KS.out wr hbV
      obtain rfl : k = 0 := by omega
      clear z0 z1 z2 z3 z4 z5
      go_wp2_with fail
      go_ret
      exact ⟨na, nc, rfl, owns_base HO.out (Nat.le_trans (Nat.le_of_lt hVw) HB1.out.size), HBV.out.trans (hbV.mono (Nat.le_of_lt hVw))⟩
  · subst e3
    clear hK e1 e2
    have HV := Lib.hid hV; have HBV := Lib.hid hBV; have KS := Lib.hid ks
    clear hV hBV ks hts hss htn hsn hi0
    go_enter Try.func16, Try.ntmps16
    go_wp2_with fail
    rw [← HV.out]
    obtain ⟨z0, z1, z2, z3, z4, z5⟩ := KS.out V (Below.refl _ _)
    go_wp2_with (first
      | (go_at_call 30; refine (CD.out _ (Below.refl _ _) _).mono ?_; rintro e w1 ⟨rfl, hb1⟩))
    clear z0 z1 z2 z3 z4 z5
    obtain ⟨e0, he0⟩ : ∃ e0, e0 = d ((0 : Nat) : Int) := ⟨_, rfl⟩
    have HD0 : Hid (demV p 0 high = e0) := Lib.hid (by rw [he0, HDD.out]; rfl)
    have HE0 := Lib.hid he0
    clear he0
    rw [HD0.out]
    have HB1 := Lib.hid hb1
    clear hb1
    go_loopw [7, 8, 9] (fun s7 s8 s9 wr => ∃ (k nc : Nat) (na : Option Addr), k ≤ K ∧ s7 = .slice na ((stepsV d k).map fun (n : Nat) => (n : Int)).length nc ∧ s8 = .int .i64 (d (k : Int)) ∧ s9 = .int .i64 ((k + 1 : Nat) : Int) ∧ Hid (wr.ownsRow w1.heap.size 3 1 (.slice na ((stepsV d k).map fun (n : Nat) => (n : Int)).length nc) ((stepsV d k).map fun (n : Nat) => (n : Int)).length (((stepsV d k).map fun (n : Nat) => (n : Int)).flatMap intCells)) ∧ Below w1.heap.size w1 wr) (fun _ _ s9 _ => K + 2 - (intOf s9).toNat)
    case atStart => exact ⟨0, 0, none, by omega, rfl, by rw [HE0.out], rfl, Lib.hid (World.ownsRow_nil _ _ _ _), Below.refl _ _⟩
    case round =>
      obtain ⟨k, nc, na, hk, rfl, rfl, rfl, HO, hb⟩ := hrel
      have hbV := HB1.out.trans (hb.mono HB1.out.size)
      obtain ⟨z0, z1, z2, z3, z4, z5⟩ := KS.out wr hbV
      by_cases hlt : k < K
      · have tk : decide (((k + 1 : Nat) : Int) ≤ (K : Int)) = true := by simp; omega
        have tk2 : decide ((k : Int) + 1 ≤ (K : Int)) = true := by simp; omega
        have tk3 : decide (k + 1 ≤ K) = true := by simp; omega
        have tk4 : decide (k < K) = true := by simp; omega
        have hil : ((stepsV d k).map fun (n : Nat) => (n : Int)).length ≤ k := by rw [List.length_map]; exact stepsV_len d k
        have HN := Lib.hid (stepsV_next d k)
        have CK := Lib.hid (CD.out wr hbV ((k : Int) + 1))
        by_cases hd : d ((k : Int) + 1) = d (k : Int)
        · have HN2 : Hid ((stepsV d (k + 1)).map (fun (n : Nat) => (n : Int)) = (stepsV d k).map (fun (n : Nat) => (n : Int))) := Lib.hid (by rw [HN.out, if_pos hd])
          have HDK : Hid (demV p ((k : Int) + 1) high = d (k : Int)) := Lib.hid (by rw [← hd, HDD.out])
          have HEQ : Hid (d ((k + 1 : Nat) : Int) = d (k : Int)) := Lib.hid (by rw [← hd]; congr 1)
          clear hd HN
          obtain ⟨ls, hls⟩ : ∃ ls, ls = (stepsV d k).map fun (n : Nat) => (n : Int) := ⟨_, rfl⟩
          rw [← hls] at HO hil HN2
          rw [← hls]
          have HLS := Lib.hid hls
          clear hls
          generalize d (k : Int) = y at *
          go_wp2_with (first
            | (go_at_call 30; refine CK.out.mono ?_; rintro e w5 ⟨rfl, hb5⟩; rw [HDK.out]))
          go_roundw
          case rel => exact ⟨k + 1, nc, na, by omega, by rw [HN2.out], by rw [HEQ.out], by go_num, Lib.hid (by rw [HN2.out]; exact owns_later HO.out hb5), hb.trans (hb5.mono hb.size)⟩
          case measure => simp [intOf]; omega
        · have HN2 : Hid ((stepsV d (k + 1)).map (fun (n : Nat) => (n : Int)) = (stepsV d k).map (fun (n : Nat) => (n : Int)) ++ [((k + 1 : Nat) : Int)]) := Lib.hid (by rw [HN.out, if_neg hd]; simp)
          have HDK : Hid (demV p ((k : Int) + 1) high = d ((k : Int) + 1)) := Lib.hid (by rw [HDD.out])
          have HEQ : Hid (d ((k + 1 : Nat) : Int) = d ((k : Int) + 1)) := Lib.hid (by congr 1)
          have t1 : (d ((k : Int) + 1) == d (k : Int)) = false := by simpa using hd
          clear HN
          obtain ⟨ls, hls⟩ : ∃ ls, ls = (stepsV d k).map fun (n : Nat) => (n : Int) := ⟨_, rfl⟩
          rw [← hls] at HO hil HN2
          rw [← hls]
          generalize d (k : Int) = y at *
          generalize d ((k : Int) + 1) = x at *
          have hap : ∀ w5 : World, Below wr.heap.size wr w5 → ∀ W : World, W.heap = (w5.alloc (.cells #[.int .i64 ((k + 1 : Nat) : Int)] 3)).heap → W.ownsRow w1.heap.size 3 1 (.slice na ls.length nc) ls.length (ls.flatMap intCells) ∧ Lies W w5.heap.size (w5.heap.size + 1) (.slice (some ⟨w5.heap.size, 0, none⟩) 1 1) 1 1 [.int .i64 ((k + 1 : Nat) : Int)] ∧ w1.heap.size ≤ W.heap.size := by
            intro w5 hb5 W hW
            have hz : W.heap.size = w5.heap.size + 1 := by rw [hW]; simp
            have h5 := hb5.size
            have h6 := hb.size
            refine ⟨owns_hold (owns_later HO.out hb5) ⟨by omega, fun g hg => ?_⟩, one_lies (cs := #[.int .i64 ((k + 1 : Nat) : Int)]) (t := 3) (by rw [hW]; exact heap_alloc_new _ _) rfl, by omega⟩
            have := (owns_own (owns_later HO.out hb5) g hg).2
            rw [hW, heap_at, if_neg (by omega)]
          have HAP := Lib.hid hap
          have HLS := Lib.hid hls
          clear hd hap hls
          go_wp2_with (first
            | (go_at_call 30; refine CK.out.mono ?_; rintro e w5 ⟨rfl, hb5⟩; rw [HDK.out]; have HB5 := Lib.hid hb5; clear hb5)
            | (refine wpList_append_lie2 (by rfl) (.tmp 29) (.tmp 31) 36 (by rfl) w1.heap.size 3 i0 _ 1 8 Try.underlying36 HI.out hz0 hz1 hz2 rfl (by omega) (.slice na ls.length nc) ls.length (ls.flatMap intCells) (by rfl) (HAP.out w5 HB5.out _ (by rfl)).1 (.slice (some ⟨w5.heap.size, 0, none⟩) 1 1) w5.heap.size (w5.heap.size + 1) 1 [.int .i64 ((k + 1 : Nat) : Int)] (by rfl) (HAP.out w5 HB5.out _ (by rfl)).2.1 (in_one _) (ls.length + 1) rfl (by simp only [maxLen]; omega) (by omega) (HAP.out w5 HB5.out _ (by rfl)).2.2 ?_; intro ao cap' w6 hown6 hgrow6 hob6)
            | go_in)
          have hb15 : Below w1.heap.size w1 w5 := hb.trans (HB5.out.mono hb.size)
          go_roundw
          case rel =>
            refine ⟨k + 1, cap', ao, by omega, by rw [HN2.out]; simp, by rw [HEQ.out], by go_num, Lib.hid ?_, (hb15.alloc hb15.size _).grown hgrow6 (by simp; exact Nat.le_succ_of_le hb15.size) (fun q hq => (owns_own HO.out q hq).1)⟩
            rw [HN2.out, List.length_append, List.flatMap_append]
            exact hown6
          case measure => simp [intOf]; omega
      · have tk : decide (((k + 1 : Nat) : Int) ≤ (K : Int)) = false := by simp; omega
        have tk2 : decide ((k : Int) + 1 ≤ (K : Int)) = false := by simp; omega
        have tk3 : decide (k + 1 ≤ K) = false := by simp; omega
        have tk4 : decide (k < K) = false := by simp; omega
        obtain rfl : k = K := by omega
        clear z0 z1 z2 z3 z4 z5
        go_wp2_with fail
        go_ret
        exact ⟨na, nc, rfl, owns_base HO.out (Nat.le_trans (Nat.le_of_lt hVw) HB1.out.size), HBV.out.trans (hbV.mono (Nat.le_of_lt hVw))⟩
end Go.Proofs.Ytlmgphomklpplaa
