/- The program's Hyper, Far and Of. -/
import Derived.Test.YtdmkinoomnallaaBoundO
namespace Go.Proofs.Ytdmkinoomnallaa
open Go.ChangeShapes Go.WideShapes Go.ChangeAt Go.RowKit
set_option linter.unusedVariables false
attribute [local go_sem ↓] Go.wp_at_zero Go.wp_at_succ

theorem IntRow.snoc {W : World} {a : Option Addr} {ls : List Int} {x : Int} (h : IntRow W a (ls ++ [x]).length (ls ++ [x])) : IntRow W a (ls.length + 1) (ls ++ [x]) := by
  rw [List.length_append] at h; exact h
theorem h64_last {p : Pt} {F : Int} (hF : -9223372036854775808 ≤ F ∧ F ≤ 9223372036854775807) : ∀ x ∈ periodsV p ++ [F], -9223372036854775808 ≤ x ∧ x ≤ 9223372036854775807 := fun x hx => by
  rcases List.mem_append.1 hx with h | h
  · have := periods_in h; omega
  · simp at h; subst h; exact hF
theorem periods_len (p : Pt) : (periodsV p).length ≤ p.ts.length + p.ss.length := by
  unfold periodsV
  rw [List.length_append, List.length_map, List.length_map]
  have := List.length_filter_le okTk p.ts
  have := List.length_filter_le okSv p.ss
  omega
theorem fars_len (p : Pt) : (farsV p).length ≤ p.ts.length + p.ss.length := by
  unfold farsV
  rw [List.length_append, List.length_map, List.length_map]
  have := List.length_filter_le okTk p.ts
  have := List.length_filter_le okSv p.ss
  omega
set_option maxRecDepth 100000 in
set_option maxHeartbeats 2000000 in
theorem hyper_any (F : Int) (ta sa da : Option Addr) (tn tc sn sc dn dc : Nat) (x0 x1 x2 : Int) (w : World) (lo hi : Nat) (p : Pt) (hF : -9223372036854775808 ≤ F ∧ F ≤ 9223372036854775807) (htn : p.ts.length = tn) (hsn : p.ss.length = sn)
    (hts : Lies w lo hi (.slice ta tn tc) tn 6 (p.ts.flatMap Tk.cells)) (hss : Lies w lo hi (.slice sa sn sc) sn 3 (p.ss.flatMap Sv.cells)) (hhi : hi ≤ w.heap.size) (ht2 : tn ≤ 1000) (hs2 : sn ≤ 1000) :
    Calls Try.prog 9 #[.int .i64 F, .agg #[.slice ta tn tc, .slice sa sn sc, .slice da dn dc, .int .u8 x0, .int .u8 x1, .int .u8 x2]] w fun e w' => e = .returned (.tuple #[.int .i64 (hyperV F p), .bool (hyperOk F p)]) ∧ Below w.heap.size w w' := by
  obtain ⟨i0, hi0, hz0, hz1, hz2⟩ := info_parts Try.infoInt
  have HI := Lib.hid hi0
  have hb1 := below1 w (.cells #[.slice ta tn tc, .slice sa sn sc, .slice da dn dc, .int .u8 x0, .int .u8 x1, .int .u8 x2] 33)
  have B1 := Lib.hid hb1
  have CE := Lib.hid (eachT_any ta sa da tn tc sn sc dn dc x0 x1 x2 (w.alloc (.cells #[.slice ta tn tc, .slice sa sn sc, .slice da dn dc, .int .u8 x0, .int .u8 x1, .int .u8 x2] 33)) lo hi p htn hsn (hts.keep (SameIn.of_below hb1 hhi)) (hss.keep (SameIn.of_below hb1 hhi)) (by simp; omega) ht2 hs2)
  have HL := Lib.hid (hyper_last F p)
  have H64 := Lib.hid (h64_last (p := p) hF)
  have hlen : (periodsV p).length ≤ 2000 := by have := periods_len p; omega
  clear hb1 hts hss hi0
  generalize periodsV p = ls at *
  go_enter Try.func9, Try.ntmps9
  go_wp2_with (first
    | (go_at_call 22; refine CE.out.mono ?_; rintro e w1 ⟨na, nc, rfl, ho, hb1⟩; have HO := Lib.hid ho; have HB1 := Lib.hid hb1; clear ho hb1; have HAP := Lib.hid (HO.out.hap HB1.out.size F))
    | (refine wpList_append_lie2 (by rfl) (.tmp 9) (.tmp 11) 24 (by rfl) (w.alloc (.cells #[.slice ta tn tc, .slice sa sn sc, .slice da dn dc, .int .u8 x0, .int .u8 x1, .int .u8 x2] 33)).heap.size 3 i0 _ 1 8 Try.underlying24 HI.out hz0 hz1 hz2 rfl (by omega) (.slice na ls.length nc) ls.length (ls.flatMap intCells) (by rfl) (HAP.out w1 (Below.refl _ _) _ (by rfl)).1 (.slice (some ⟨w1.heap.size, 0, none⟩) 1 1) w1.heap.size (w1.heap.size + 1) 1 [.int .i64 F] (by rfl) (HAP.out w1 (Below.refl _ _) _ (by rfl)).2.1 (in_one _) (ls.length + 1) rfl (by simp only [maxLen]; omega) (by omega) (HAP.out w1 (Below.refl _ _) _ (by rfl)).2.2 ?_; intro ao cap' w6 hown6 hgrow6 hob6; have HO6 := Lib.hid (IntRow.snoc ((Ints.more hown6).row H64.out)); have HB6 := Lib.hid (ints_below HO.out HB1.out HB1.out.size (Below.refl _ _) rfl hgrow6); clear hown6 hgrow6 hob6)
    | (go_at_call 24; refine (numLcm_any _ _ _ _ _ _ HO6.out).mono ?_; rintro e w7 ⟨rfl, n7, rfl⟩; rw [HL.out.1, HL.out.2])
    | go_in)
  go_ret2
  exact ⟨rfl, below_drewD _ (bel_thenD B1.out (Nat.le_refl _) HB6.out)⟩
set_option maxRecDepth 100000 in
set_option maxHeartbeats 2000000 in
theorem far_any (ta sa da : Option Addr) (tn tc sn sc dn dc : Nat) (x0 x1 x2 : Int) (w : World) (lo hi : Nat) (p : Pt) (htn : p.ts.length = tn) (hsn : p.ss.length = sn)
    (hts : Lies w lo hi (.slice ta tn tc) tn 6 (p.ts.flatMap Tk.cells)) (hss : Lies w lo hi (.slice sa sn sc) sn 3 (p.ss.flatMap Sv.cells)) (hhi : hi ≤ w.heap.size) (ht2 : tn ≤ 1000) (hs2 : sn ≤ 1000) :
    Calls Try.prog 13 #[.agg #[.slice ta tn tc, .slice sa sn sc, .slice da dn dc, .int .u8 x0, .int .u8 x1, .int .u8 x2]] w fun e w' => e = .returned (.int .i64 (farV p)) ∧ Below w.heap.size w w' := by
  have hb1 := below1 w (.cells #[.slice ta tn tc, .slice sa sn sc, .slice da dn dc, .int .u8 x0, .int .u8 x1, .int .u8 x2] 33)
  have B1 := Lib.hid hb1
  have CE := Lib.hid (eachD_any ta sa da tn tc sn sc dn dc x0 x1 x2 (w.alloc (.cells #[.slice ta tn tc, .slice sa sn sc, .slice da dn dc, .int .u8 x0, .int .u8 x1, .int .u8 x2] 33)) lo hi p htn hsn (hts.keep (SameIn.of_below hb1 hhi)) (hss.keep (SameIn.of_below hb1 hhi)) (by simp; omega) ht2 hs2)
  have HL := Lib.hid (fars_most p)
  have hlen : (farsV p).length ≤ 2000 := by have := fars_len p; omega
  clear hb1 hts hss
  generalize farsV p = ls at *
  go_enter Try.func13, Try.ntmps13
  go_wp2_with (first
    | (go_at_call 28; refine (greatest_any _ _ _ ls _ _ _ rfl HO.out.lies hlen).mono ?_; rintro e w7 ⟨rfl, rfl⟩; rw [HL.out])
    | (go_at_call 22; refine CE.out.mono ?_; rintro e w1 ⟨na, nc, rfl, ho, hb1⟩; have HO := Lib.hid ho; have HB1 := Lib.hid hb1; clear ho hb1))
  go_ret
  exact ⟨rfl, bel_thenD B1.out (Nat.le_refl _) HB1.out⟩
set_option maxRecDepth 100000 in
set_option maxHeartbeats 2000000 in
theorem bound_any (F : Int) (ta sa da : Option Addr) (tn tc sn sc dn dc : Nat) (x0 x1 x2 : Int) (w : World) (lo hi : Nat) (p : Pt) (hF : -9223372036854775808 ≤ F ∧ F ≤ 9223372036854775807) (htn : p.ts.length = tn) (hsn : p.ss.length = sn)
    (hts : Lies w lo hi (.slice ta tn tc) tn 6 (p.ts.flatMap Tk.cells)) (hss : Lies w lo hi (.slice sa sn sc) sn 3 (p.ss.flatMap Sv.cells)) (hhi : hi ≤ w.heap.size) (ht2 : tn ≤ 1000) (hs2 : sn ≤ 1000) :
    Calls Try.prog 11 #[.int .i64 F, .agg #[.slice ta tn tc, .slice sa sn sc, .slice da dn dc, .int .u8 x0, .int .u8 x1, .int .u8 x2]] w fun e w' => e = .returned (.tuple #[.int .i64 (boundV F p), .bool (boundOk F p)]) ∧ Below w.heap.size w w' := by
  have hb1 := below1 w (.cells #[.slice ta tn tc, .slice sa sn sc, .slice da dn dc, .int .u8 x0, .int .u8 x1, .int .u8 x2] 33)
  have B1 := Lib.hid hb1
  have KS := Lib.hid (boxK6 w (.slice ta tn tc) (.slice sa sn sc) (.slice da dn dc) (.int .u8 x0) (.int .u8 x1) (.int .u8 x2) 33)
  have hwa : hi ≤ (w.alloc (.cells #[.slice ta tn tc, .slice sa sn sc, .slice da dn dc, .int .u8 x0, .int .u8 x1, .int .u8 x2] 33)).heap.size := by simp; omega
  have CH := Lib.hid (hyper_any F ta sa da tn tc sn sc dn dc x0 x1 x2 (w.alloc (.cells #[.slice ta tn tc, .slice sa sn sc, .slice da dn dc, .int .u8 x0, .int .u8 x1, .int .u8 x2] 33)) lo hi p hF htn hsn (hts.keep (SameIn.of_below hb1 hhi)) (hss.keep (SameIn.of_below hb1 hhi)) hwa ht2 hs2)
  have CF := Lib.hid (fun (W : World) (hb : Below (w.alloc (.cells #[.slice ta tn tc, .slice sa sn sc, .slice da dn dc, .int .u8 x0, .int .u8 x1, .int .u8 x2] 33)).heap.size (w.alloc (.cells #[.slice ta tn tc, .slice sa sn sc, .slice da dn dc, .int .u8 x0, .int .u8 x1, .int .u8 x2] 33)) W) =>
    far_any ta sa da tn tc sn sc dn dc x0 x1 x2 W lo hi p htn hsn ((hts.keep (SameIn.of_below hb1 hhi)).keep (SameIn.of_below hb hwa)) ((hss.keep (SameIn.of_below hb1 hhi)).keep (SameIn.of_below hb hwa)) (Nat.le_trans hwa hb.size) ht2 hs2)
  clear hts hss hb1 hwa
  obtain ⟨h0, h1⟩ := hyper_bd F p
  obtain ⟨f0, f1⟩ := farV_bd p
  cases ho : hyperOk F p with
  | false =>
    have hO : boundOk F p = false := by unfold boundOk; rw [ho]; rfl
    have HO := Lib.hid ho; have HO2 := Lib.hid hO; have HV := Lib.hid (bound_no hO).1
    clear ho hO
    generalize hyperV F p = h at *
    generalize farV p = f at *
    go_enter Try.func11, Try.ntmps11
    go_wp2_with (first
      | (go_at_call 13; refine (CF.out _ (by assumption)).mono ?_; rintro e w2 ⟨rfl, hb2⟩)
      | (go_at_call 9; refine CH.out.mono ?_; rintro e w1 ⟨rfl, hb1⟩; rw [HO.out]; obtain ⟨k0, k1, k2, k3, k4, k5⟩ := KS.out _ hb1))
    go_ret2
    exact ⟨ret_tup HV.out.symm HO2.out.symm, bel_thenD (bel_thenD B1.out (Nat.le_refl _) hb1) (Nat.le_refl _) hb2⟩
  | true =>
    have HO := Lib.hid ho
    cases hO : boundOk F p with
    | false =>
      have HO2 := Lib.hid hO; have HV := Lib.hid (bound_no hO).1
      have hg : 65536 < hyperV F p + farV p := by
        rcases (bound_no hO).2 with h | h
        · rw [ho] at h; cases h
        · exact h
      clear ho hO
      generalize hyperV F p = h at *
      generalize farV p = f at *
      have S1 : IntKind.i64.wrap (h + f) = h + f := IntWalk.i64_in _ (by omega)
      go_enter Try.func11, Try.ntmps11
      go_wp2_with (first
        | (go_at_call 13; refine (CF.out _ (by assumption)).mono ?_; rintro e w2 ⟨rfl, hb2⟩)
        | (go_at_call 9; refine CH.out.mono ?_; rintro e w1 ⟨rfl, hb1⟩; rw [HO.out]; obtain ⟨k0, k1, k2, k3, k4, k5⟩ := KS.out _ hb1))
      go_ret2
      exact ⟨ret_tup HV.out.symm rfl, bel_thenD (bel_thenD B1.out (Nat.le_refl _) hb1) (Nat.le_refl _) hb2⟩
    | true =>
      have HO2 := Lib.hid hO; have HV := Lib.hid (bound_ok hO).2.2
      have hg := (bound_ok hO).2.1
      clear ho hO
      generalize hyperV F p = h at *
      generalize farV p = f at *
      have S1 : IntKind.i64.wrap (h + f) = h + f := IntWalk.i64_in _ (by omega)
      go_enter Try.func11, Try.ntmps11
      go_wp2_with (first
        | (go_at_call 13; refine (CF.out _ (by assumption)).mono ?_; rintro e w2 ⟨rfl, hb2⟩)
        | (go_at_call 9; refine CH.out.mono ?_; rintro e w1 ⟨rfl, hb1⟩; rw [HO.out]; obtain ⟨k0, k1, k2, k3, k4, k5⟩ := KS.out _ hb1))
      go_ret2
      exact ⟨ret_tup HV.out.symm rfl, bel_thenD (bel_thenD B1.out (Nat.le_refl _) hb1) (Nat.le_refl _) hb2⟩
end Go.Proofs.Ytdmkinoomnallaa
