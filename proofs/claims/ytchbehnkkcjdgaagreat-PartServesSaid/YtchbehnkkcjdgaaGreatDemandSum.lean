/- Joined of BoundT, BoundU: The program's total, Low, High and Rate of package demand. -/
import Derived.Test.YtchbehnkkcjdgaaGreatBoundProg
import Derived.Test.YtchbehnkkcjdgaaGreatDemandZ
import Derived.Deep.RegionLaw
namespace Go.Proofs.YtchbehnkkcjdgaaGreat
open Go.ChangeShapes Go.WideShapes Go.ChangeAt Go.RowKit
set_option linter.unusedVariables false
attribute [local go_sem ↓] Go.wp_at_zero Go.wp_at_succ
theorem sumI_from : ∀ (l : List Int) (a : Int), l.foldl (fun a b => a + b) a = a + sumI l
 | [], a => by simp [sumI]
 | x :: l, a => by
   have h1 := sumI_from l (a + x)
   have h2 := sumI_from l (0 + x)
   have e : sumI (x :: l) = l.foldl (fun a b => a + b) (0 + x) := rfl
   rw [e, List.foldl_cons, h1, h2]
   omega
theorem sumI_append (a b : List Int) : sumI (a ++ b) = sumI a + sumI b := by
 have : sumI (a ++ b) = (b.foldl (fun a b => a + b) (sumI a)) := by unfold sumI; rw [List.foldl_append]
 rw [this, sumI_from]
/-- All that is summed up is small. -/
def Small (l : List Int) : Prop := ∀ x ∈ l, 0 ≤ x ∧ x ≤ 1099511627777000
theorem Small.take {l : List Int} (h : Small l) (k : Nat) : Small (l.take k) := fun x hx => h x (List.mem_of_mem_take hx)
theorem Small.bd {l : List Int} (h : Small l) (hl : l.length ≤ 2000) : 0 ≤ sumI l ∧ sumI l ≤ 2199023255554000000 := by
 have := sumI_bd l.length l rfl h
 have h2 : ((l.length : Nat) : Int) ≤ 2000 := by omega
 omega
theorem Small.append {a b : List Int} (h : Small a) (k : Small b) : Small (a ++ b) := fun x hx => by
 rcases List.mem_append.1 hx with hx | hx
 ·exact h x hx
 ·exact k x hx
theorem Small.gath {α : Type} {c : α → Bool} {g : α → Int} (h : ∀ x, c x = true → 0 ≤ g x ∧ g x ≤ 1099511627777000) (xs : List α) : Small ((xs.filter c).map g) := fun y hy => by
 obtain ⟨x, hx, rfl⟩ := List.mem_map.1 hy
 exact h x (List.mem_filter.1 hx).2
theorem sum_next {l : List Int} {k : Nat} {x : Int} (h : l[k]? = some x) : sumI (l.take (k + 1)) = sumI (l.take k) + x := by
 rw [List.take_add_one, h]
 exact sumI_snoc _ _
theorem filter_all {α : Type} (xs : List α) : xs.filter (fun _ => true) = xs := by simp
theorem low_is (p : Pt) (t : Int) : sumI ((p.ts.filter fun _ => true).map (fun k => ofV k t false) ++ (p.ss.filter fun _ => true).map (fun s => servV s t)) = lowV p t := by
 rw [sumI_append, filter_all, filter_all]; rfl
theorem low_small (p : Pt) (t : Int) : Small ((p.ts.filter fun _ => true).map (fun k => ofV k t false) ++ (p.ss.filter fun _ => true).map (fun s => servV s t)) :=
 (Small.gath (fun x _ => ofV_bd x t false) _).append (Small.gath (fun x _ => servV_bd x t) _)
theorem high_is (p : Pt) (t : Int) : sumI ((p.ts.filter fun _ => true).map (fun k => ofV k t true)) = highV p t := by
 rw [filter_all]; rfl
theorem high_small (p : Pt) (t : Int) : Small ((p.ts.filter fun _ => true).map (fun k => ofV k t true)) := Small.gath (fun x _ => ofV_bd x t true) _
def cntDs (high : Bool) (k : Tk) : Bool := okTk k && (k.hi || !high)
def cntS (high : Bool) (s : Sv) : Bool := okSv s && !high
def budDs (high : Bool) (k : Tk) : Int := if high then k.top else k.lo
def ratT (N : Int) (high : Bool) (k : Tk) : Int := N / k.t * budDs high k
def ratS (N : Int) (s : Sv) : Int := N / s.t * s.c
theorem mul_bdE {a b : Int} (a0 : 0 ≤ a) (a1 : a ≤ 1099511627776) (b0 : 0 ≤ b) (b1 : b ≤ 1000) : 0 ≤ a * b ∧ a * b ≤ 1099511627777000 := by
 have := mul_bdD b0 b1 a0 (show a ≤ 1099511627777 by omega)
 rwa [Int.mul_comm] at this
theorem ratT_bd {N : Int} {high : Bool} {k : Tk} (h : cntDs high k = true) (n0 : 0 ≤ N) (n1 : N ≤ 1099511627776) : 0 ≤ ratT N high k ∧ ratT N high k ≤ 1099511627777000 := by
 unfold cntDs at h
 rw [Bool.and_eq_true] at h
 have := okTk_t h.1
 have h1 := Int.ediv_nonneg n0 (show 0 ≤ k.t by omega)
 have h2 := div_le_self n0 (show 1 ≤ k.t by omega)
 have h3 : 0 ≤ budDs high k ∧ budDs high k ≤ 1000 := by unfold budDs; split <;> omega
 exact mul_bdE h1 (by omega) h3.1 h3.2
theorem ratS_bd {N : Int} {high : Bool} {s : Sv} (h : cntS high s = true) (n0 : 0 ≤ N) (n1 : N ≤ 1099511627776) : 0 ≤ ratS N s ∧ ratS N s ≤ 1099511627777000 := by
 unfold cntS at h
 rw [Bool.and_eq_true] at h
 have := okSv_t h.1
 have h1 := Int.ediv_nonneg n0 (show 0 ≤ s.t by omega)
 have h2 := div_le_self n0 (show 1 ≤ s.t by omega)
 exact mul_bdE h1 (by omega) (by omega) (by omega)
theorem rate_small (N : Int) (p : Pt) (high : Bool) (n0 : 0 ≤ N) (n1 : N ≤ 1099511627776) : Small ((p.ts.filter (cntDs high)).map (ratT N high) ++ (p.ss.filter (cntS high)).map (ratS N)) :=
 (Small.gath (fun x h => ratT_bd h n0 n1) _).append (Small.gath (fun x h => ratS_bd h n0 n1) _)
theorem rate_is (n : Int) (p : Pt) (high : Bool) : sumI ((p.ts.filter (cntDs high)).map (ratT (cutT n) high) ++ (p.ss.filter (cntS high)).map (ratS (cutT n))) = rateV n p high := by
 rw [sumI_append]
 unfold rateV
 congr 1
 ·refine sum_gath (fun x h => ?_) (fun x h => ?_) _
  ·unfold cntDs at h; unfold rateTk ratT budDs
   rw [if_neg (by intro h2; rcases h2 with h2 | ⟨h2, h3⟩ <;> simp_all)]
  ·unfold cntDs at h; unfold rateTk
   rw [if_pos (by cases h1 : okTk x <;> cases h2 : x.hi <;> cases high <;> simp_all)]
 ·cases high with
  | true =>
    have : p.ss.filter (cntS true) = [] := by rw [List.filter_eq_nil_iff]; intro x _; simp [cntS]
    rw [this]; rfl
  | false =>
    rw [if_neg (by simp)]
    refine sum_gath (fun x h => ?_) (fun x h => ?_) _
    ·unfold cntS at h; unfold rateSv ratS
     rw [if_neg (by simp_all)]
    ·unfold cntS at h; unfold rateSv
     rw [if_pos (by simp_all)]
theorem Ints.made {W : World} {g B : Nat} {arr : Array Value} (hg : W.heap[g]? = some (.cells arr 3 (0, 0))) (hs : arr.size = 9) (hB : B ≤ g) : Ints W B (some ⟨g, 0, none⟩) 9 [] :=
 Fresh.owns (arr := arr) (cap := 9) (m := 0) (size := 1) (news := []) ⟨rfl, by omega, by simp [maxLen], by simp [hs], by simp⟩ hg hB
/-- A partition's two lists, wherever they are read. -/
structure PartAt (w : World) (hi : Nat) (p : Pt) (ta sa : Option Addr) (tn tc sn sc : Nat) : Prop where
 etn : p.ts.length = tn
 esn : p.ss.length = sn
 ts : Lies w 0 hi (.slice ta tn tc) tn 6 (p.ts.flatMap Tk.cells)
 ss : Lies w 0 hi (.slice sa sn sc) sn 3 (p.ss.flatMap Sv.cells)
 le : hi ≤ w.heap.size
theorem PartAt.later {w w' : World} {hi : Nat} {p : Pt} {ta sa : Option Addr} {tn tc sn sc : Nat} (h : PartAt w hi p ta sa tn tc sn sc) (hb : Below w.heap.size w w') : PartAt w' hi p ta sa tn tc sn sc :=
 ⟨h.etn, h.esn, h.ts.keep (SameIn.of_below hb h.le), h.ss.keep (SameIn.of_below hb h.le), Nat.le_trans h.le hb.size⟩
set_option maxRecDepth 100000 in
theorem total_any (a : Option Addr) (n cap : Nat) (ls : List Int) (w : World) (lo hi : Nat) (hn : ls.length = n) (hl : Lies w lo hi (.slice a n cap) n 1 (ls.flatMap intCells)) (h2 : n ≤ 2000) (hs : Small ls) :
 Calls Tryz.prog 132 #[.slice a n cap] w fun e w' => e = .returned (.int .i64 (sumI ls)) ∧ w = w' := by
 have HL := Lib.hid hl
 have HN := Lib.hid hn
 have HS := Lib.hid hs
 clear hl hn hs
 go_enter Tryz.func132, Tryz.ntmps132
 go_wp2
 go_loopw [3, 8] (fun m i wr => ∃ k : Nat, k ≤ n ∧ m = .int .i64 (sumI (ls.take k)) ∧ i = .int .i64 k ∧ wr = w) (fun _ i _ => n - (intOf i).toNat)
 case atStart => exact ⟨0, by omega, rfl, rfl, rfl⟩
 case round =>
  obtain ⟨k, hk, rfl, rfl, rfl⟩ := hrel
  by_cases hlt : k < n
  ·have tk : decide ((k : Int) < (n : Int)) = true := by simpa using hlt
   obtain ⟨x, hx⟩ : ∃ x, ls[k]? = some x := ⟨_, List.getElem?_eq_getElem (by rw [HN.out]; exact hlt)⟩
   obtain ⟨a2, c2, e2, _, _, hc⟩ := HL.out
   cases e2
   rcases hc with h0 | ⟨b, off, rfl, hb1, hb2, hc⟩
   ·omega
   have s0 := Lies.int' hc hx
   have HM := Lib.hid (sum_next hx)
   obtain ⟨m0, m1⟩ := (HS.out.take k).bd (by rw [List.length_take]; omega)
   obtain ⟨v0, v1⟩ := HS.out x (List.mem_of_getElem? hx)
   clear hc hx
   generalize sumI (ls.take k) = y at *
   have l0 : (0 : Int) ≤ (k : Int) := by omega
   have l1 : (k : Int) < (n : Int) := by omega
   have S1 : IntKind.i64.wrap (9223372036854775807 - y) = 9223372036854775807 - y := IntWalk.i64_in _ (by omega)
   have S2 : IntKind.i64.wrap (y + x) = y + x := IntWalk.i64_in _ (by omega)
   have tg : decide (9223372036854775807 - y < x) = false := by simp; omega
   go_wp2_with fail
   all_goals go_roundw
   case rel => exact ⟨k + 1, by omega, by rw [HM.out], by go_num, by trivial⟩
   case measure => simp [intOf]; omega
  ·have tk : decide ((k : Int) < (n : Int)) = false := by simp; omega
   have HE : Hid (sumI (ls.take k) = sumI ls) := Lib.hid (by rw [List.take_of_length_le (show ls.length ≤ k by rw [HN.out]; omega)])
   go_wp2_with fail
   go_ret
   exact ⟨ret_iD HE.out, rfl⟩
set_option maxRecDepth 100000 in
theorem budget_any (b : Bool) (t d v lo top : Int) (high : Bool) (w : World) :
 Calls Tryz.prog 138 #[.agg #[.bool b, .int .i64 t, .int .i64 d, .int .i64 v, .int .i64 lo, .int .i64 top], .bool high] w fun e w' => e = .returned (.int .i64 (budDs high ⟨b, t, d, v, lo, top⟩)) ∧ Below w.heap.size w w' := by
 cases high
 all_goals
  (go_enter Tryz.func138, Tryz.ntmps138
   go_wp2
   go_ret
   exact ⟨rfl, below1 _ _⟩)
set_option maxRecDepth 100000 in
set_option maxHeartbeats 4000000 in
theorem low_any (ta sa da : Option Addr) (tn tc sn sc dn dc : Nat) (x0 x1 x2 : Int) (t : Int) (w : World) (hi : Nat) (p : Pt) (hp : PartAt w hi p ta sa tn tc sn sc) (ht2 : tn ≤ 20) (hs2 : sn ≤ 20) :
 Calls Tryz.prog 83 #[.agg #[.slice ta tn tc, .slice sa sn sc, .slice da dn dc, .int .u8 x0, .int .u8 x1, .int .u8 x2], .int .i64 t] w fun e w' => e = .returned (.int .i64 (lowV p t)) ∧ Below w.heap.size w w' := by
 obtain ⟨i0, hi0, hz0, hz1, hz2⟩ := info_parts Tryz.infoInt
 have HI := Lib.hid hi0
 obtain ⟨htn, hsn, hts, hss, hhi⟩ := hp
 obtain ⟨V, hV⟩ : ∃ V, V = w.alloc (.cells #[.slice ta tn tc, .slice sa sn sc, .slice da dn dc, .int .u8 x0, .int .u8 x1, .int .u8 x2] 37) := ⟨_, rfl⟩
 have ks : ∀ W : World, Below V.heap.size V W → W.cell? ⟨w.heap.size, 0, none⟩ = some (.slice ta tn tc) ∧ W.cell? ⟨w.heap.size, 1, none⟩ = some (.slice sa sn sc) := fun W h => by
  rw [hV] at h
  have k := box_says w #[.slice ta tn tc, .slice sa sn sc, .slice da dn dc, .int .u8 x0, .int .u8 x1, .int .u8 x2] 37 W h
  exact ⟨k 0 _ rfl, k 1 _ rfl⟩
 have hBV : Below w.heap.size w V := by rw [hV]; exact below1 _ _
 have hVw : w.heap.size < V.heap.size := by rw [hV]; simp
 have HVE : Hid (V.heap.size = w.heap.size + 1) := Lib.hid (by rw [hV]; simp)
 have HT := Lib.hid hts; have HS := Lib.hid hss; have HTN := Lib.hid htn; have HSN := Lib.hid hsn
 have HV := Lib.hid hV; have HBV := Lib.hid hBV; have KS := Lib.hid ks
 have HLI := Lib.hid (low_is p t); have HLS := Lib.hid (low_small p t)
 have hmk : ∀ W : World, (Instr.makeSlice 24 (.int .i64 0) (.int .i64 9)).run Tryz.prog W = .ok (.slice (some ⟨W.heap.size, 0, none⟩) 0 9) (W.alloc (.cells #[.int .i64 0, .int .i64 0, .int .i64 0, .int .i64 0, .int .i64 0, .int .i64 0, .int .i64 0, .int .i64 0, .int .i64 0] 3)) := fun _ => by kernel_rfl
 have H1 := Lib.hid (Ints.made (heap_alloc_new V (.cells #[.int .i64 0, .int .i64 0, .int .i64 0, .int .i64 0, .int .i64 0, .int .i64 0, .int .i64 0, .int .i64 0, .int .i64 0] 3)) rfl (Nat.le_refl _))
 have HB0 := Lib.hid (below1 V (.cells #[.int .i64 0, .int .i64 0, .int .i64 0, .int .i64 0, .int .i64 0, .int .i64 0, .int .i64 0, .int .i64 0, .int .i64 0] 3))
 obtain ⟨z0, z1⟩ := ks _ HB0.out
 clear hV hBV ks hts hss htn hsn hi0
 go_enter Tryz.func83, Tryz.ntmps83
 go_wp2_with fail
 rw [← HV.out]
 go_wp2_with fail
 clear z0 z1 hmk
 go_loopw [5, 14] (fun s i wr => ∃ (k nc : Nat) (na : Option Addr), k ≤ tn ∧ s = .slice na (gath (fun _ => true) (fun k => ofV k t false) p.ts k).length nc ∧ i = .int .i64 k ∧ Hid (Ints wr V.heap.size na nc (gath (fun _ => true) (fun k => ofV k t false) p.ts k)) ∧ Below V.heap.size V wr) (fun _ i _ => tn - (intOf i).toNat)
 case atStart => exact ⟨0, 9, some ⟨V.heap.size, 0, none⟩, by omega, by rw [HVE.out]; rfl, rfl, Lib.hid H1.out, HB0.out⟩
 case round =>
  obtain ⟨k, nc, na, hk, rfl, rfl, HO, hb⟩ := hrel
  by_cases hlt : k < tn
  ·have tk : decide ((k : Int) < (tn : Int)) = true := by simpa using hlt
   obtain ⟨x, hx⟩ : ∃ x, p.ts[k]? = some x := ⟨_, List.getElem?_eq_getElem (by rw [HTN.out]; exact hlt)⟩
   have hlies := HT.out.keep (SameIn.of_below (HBV.out.trans (hb.mono (Nat.le_of_lt hVw))) hhi)
   obtain ⟨a2, c2, e2, _, _, hc⟩ := hlies
   cases e2
   rcases hc with h0 | ⟨b, off, rfl, hb1, hb2, hc⟩
   ·omega
   obtain ⟨s0, s1, s2, s3, s4, s5⟩ := Lies.tk hc hx
   have HX := Lib.hid hx
   have hbw : b < wr.heap.size := by have := hb.size; omega
   have l0 : (0 : Int) ≤ (k : Int) := by omega
   have l1 : (k : Int) < (tn : Int) := by omega
   clear hc hx
   obtain ⟨xb, xt, xd, xv, xlo, xtop⟩ := x
   simp only at s0 s1 s2 s3 s4 s5
   have BB := Lib.hid (below1 wr (.cells #[.bool xb, .int .i64 xt, .int .i64 xd, .int .i64 xv, .int .i64 xlo, .int .i64 xtop] 111))
   have hgl := gath_len (fun _ => true) (fun k => ofV k t false) p.ts k
   have HN := Lib.hid (gath_yes (c := fun _ => true) (g := fun k => ofV k t false) HX.out rfl)
   obtain ⟨ls, hls⟩ : ∃ ls, ls = gath (fun _ => true) (fun k => ofV k t false) p.ts k := ⟨_, rfl⟩
   rw [← hls] at HO HN hgl
   rw [← hls]
   obtain ⟨y, hy⟩ : ∃ y, y = ofV ⟨xb, xt, xd, xv, xlo, xtop⟩ t false := ⟨_, rfl⟩
   rw [← hy] at HN
   have HY := Lib.hid hy
   have HAP := Lib.hid (HO.out.hap hb.size y)
   clear hls hy
   go_wp2_with (first
    | (go_at_call 130; refine (of_any _ _ _ _ _ _ _ _ _).mono ?_; rintro e w2 ⟨rfl, hb1'⟩; rw [← HY.out]; have HB5 := Lib.hid (bel_thenD BB.out (Nat.le_refl _) hb1'); clear hb1')
    | (refine wpList_append_lie2 (by rfl) (.tmp 18) (.tmp 22) 24 (by rfl) V.heap.size 3 i0 _ 1 8 Tryz.underlying24 HI.out hz0 hz1 hz2 rfl (by omega) (.slice na ls.length nc) ls.length (ls.flatMap intCells) (by rfl) (HAP.out w2 HB5.out _ (by rfl)).1 (.slice (some ⟨w2.heap.size, 0, none⟩) 1 1) w2.heap.size (w2.heap.size + 1) 1 [.int .i64 y] (by rfl) (HAP.out w2 HB5.out _ (by rfl)).2.1 (in_one _) (ls.length + 1) rfl (by simp only [maxLen]; omega) (by omega) (HAP.out w2 HB5.out _ (by rfl)).2.2 ?_; intro ao cap' w6 hown6 hgrow6 hob6)
    | go_in)
   go_roundw
   case rel => exact ⟨k + 1, cap', ao, by omega, by rw [HN.out]; exact snoc_slice _ _ _ _, by go_num, Lib.hid (by rw [HN.out]; exact Ints.more hown6), ints_below HO.out hb hb.size HB5.out rfl hgrow6⟩
   case measure => simp [intOf]; omega
  ·have tk : decide ((k : Int) < (tn : Int)) = false := by simp; omega
   have hgl := gath_len (fun _ => true) (fun k => ofV k t false) p.ts k
   have HG := Lib.hid (gath_end (c := fun _ => true) (g := fun k => ofV k t false) (xs := p.ts) (k := k) (by rw [HTN.out]; omega))
   obtain ⟨pre, hpre⟩ : ∃ pre, pre = gath (fun _ => true) (fun k => ofV k t false) p.ts k := ⟨_, rfl⟩
   rw [← hpre] at HO HG hgl
   rw [← hpre]
   clear hpre HT HTN
   obtain ⟨z0, z1⟩ := KS.out wr hb
   obtain ⟨wo, hwo⟩ : ∃ wo, wo = wr := ⟨_, rfl⟩
   subst hwo
   go_wp2_with fail
   clear z0 z1
   go_loopw [5, 28] (fun s i wr => ∃ (j nc : Nat) (na : Option Addr), j ≤ sn ∧ s = .slice na (pre ++ gath (fun _ => true) (fun s => servV s t) p.ss j).length nc ∧ i = .int .i64 j ∧ Hid (Ints wr V.heap.size na nc (pre ++ gath (fun _ => true) (fun s => servV s t) p.ss j)) ∧ Below V.heap.size V wr) (fun _ i _ => sn - (intOf i).toNat)
   case atStart => exact ⟨0, nc, na, by omega, by rw [gath_zero, List.append_nil], rfl, Lib.hid (by rw [gath_zero, List.append_nil]; exact HO.out), hb⟩
   case round =>
    clear hb HO
    obtain ⟨j, nc, na, hj, rfl, rfl, HO, hb⟩ := hrel
    by_cases hlt2 : j < sn
    ·have tj : decide ((j : Int) < (sn : Int)) = true := by simpa using hlt2
     obtain ⟨x, hx⟩ : ∃ x, p.ss[j]? = some x := ⟨_, List.getElem?_eq_getElem (by rw [HSN.out]; exact hlt2)⟩
     have hlies := HS.out.keep (SameIn.of_below (HBV.out.trans (hb.mono (Nat.le_of_lt hVw))) hhi)
     obtain ⟨a2, c2, e2, _, _, hc⟩ := hlies
     cases e2
     rcases hc with h0 | ⟨b, off, rfl, hb1, hb2, hc⟩
     ·omega
     obtain ⟨s0, s1, s2⟩ := Lies.sv hc hx
     have HX := Lib.hid hx
     have hbw : b < wr.heap.size := by have := hb.size; omega
     have l0 : (0 : Int) ≤ (j : Int) := by omega
     have l1 : (j : Int) < (sn : Int) := by omega
     clear hc hx
     obtain ⟨xr, xc, xt⟩ := x
     simp only at s0 s1 s2
     have BB := Lib.hid (below1 wr (.cells #[.bool xr, .int .i64 xc, .int .i64 xt] 114))
     have hgl2 : (pre ++ gath (fun _ => true) (fun s => servV s t) p.ss j).length ≤ 2000 := by
      have := gath_len (fun _ => true) (fun s => servV s t) p.ss j
      rw [List.length_append]; omega
     have HN : Hid (pre ++ gath (fun _ => true) (fun s => servV s t) p.ss (j + 1) = (pre ++ gath (fun _ => true) (fun s => servV s t) p.ss j) ++ [servV ⟨xr, xc, xt⟩ t]) := Lib.hid (by rw [gath_yes (c := fun _ => true) (g := fun s => servV s t) HX.out rfl, List.append_assoc])
     obtain ⟨ls, hls⟩ : ∃ ls, ls = pre ++ gath (fun _ => true) (fun s => servV s t) p.ss j := ⟨_, rfl⟩
     rw [← hls] at HO HN hgl2
     rw [← hls]
     obtain ⟨y, hy⟩ : ∃ y, y = servV ⟨xr, xc, xt⟩ t := ⟨_, rfl⟩
     rw [← hy] at HN
     have HY := Lib.hid hy
     have HAP := Lib.hid (HO.out.hap hb.size y)
     clear hls hy
     go_wp2_with (first
      | (go_at_call 131; refine (serve_any _ _ _ _ _).mono ?_; rintro e w2 ⟨rfl, hb1'⟩; rw [← HY.out]; have HB5 := Lib.hid (bel_thenD BB.out (Nat.le_refl _) hb1'); clear hb1')
      | (refine wpList_append_lie2 (by rfl) (.tmp 32) (.tmp 36) 24 (by rfl) V.heap.size 3 i0 _ 1 8 Tryz.underlying24 HI.out hz0 hz1 hz2 rfl (by omega) (.slice na ls.length nc) ls.length (ls.flatMap intCells) (by rfl) (HAP.out w2 HB5.out _ (by rfl)).1 (.slice (some ⟨w2.heap.size, 0, none⟩) 1 1) w2.heap.size (w2.heap.size + 1) 1 [.int .i64 y] (by rfl) (HAP.out w2 HB5.out _ (by rfl)).2.1 (in_one _) (ls.length + 1) rfl (by simp only [maxLen]; omega) (by omega) (HAP.out w2 HB5.out _ (by rfl)).2.2 ?_; intro ao cap' w6 hown6 hgrow6 hob6)
      | go_in)
     go_roundw
     case rel => exact ⟨j + 1, cap', ao, by omega, by rw [HN.out]; exact snoc_slice _ _ _ _, by go_num, Lib.hid (by rw [HN.out]; exact Ints.more hown6), ints_below HO.out hb hb.size HB5.out rfl hgrow6⟩
     case measure => simp [intOf]; omega
    ·have tj : decide ((j : Int) < (sn : Int)) = false := by simp; omega
     have hgl2 : (pre ++ gath (fun _ => true) (fun s => servV s t) p.ss j).length ≤ 2000 := by
      have := gath_len (fun _ => true) (fun s => servV s t) p.ss j
      rw [List.length_append]; omega
     have HL := Lib.hid (show pre ++ gath (fun _ => true) (fun s => servV s t) p.ss j = (p.ts.filter fun _ => true).map (fun k => ofV k t false) ++ (p.ss.filter fun _ => true).map (fun s => servV s t) from by rw [HG.out, gath_end (c := fun _ => true) (g := fun s => servV s t) (xs := p.ss) (k := j) (by rw [HSN.out]; omega)])
     obtain ⟨ls, hls⟩ : ∃ ls, ls = pre ++ gath (fun _ => true) (fun s => servV s t) p.ss j := ⟨_, rfl⟩
     rw [← hls] at HO HL hgl2
     rw [← hls]
     clear hls
     go_wp2_with (first
      | (go_at_call 132; refine (total_any _ _ _ ls _ _ _ rfl HO.out.lies hgl2 (by rw [HL.out]; exact HLS.out)).mono ?_; rintro e w7 ⟨rfl, rfl⟩))
     go_ret
     exact ⟨ret_iD (by rw [HL.out]; exact HLI.out), HBV.out.trans (hb.mono (Nat.le_of_lt hVw))⟩
set_option maxRecDepth 100000 in
set_option maxHeartbeats 4000000 in
theorem high_any (ta sa da : Option Addr) (tn tc sn sc dn dc : Nat) (x0 x1 x2 : Int) (t : Int) (w : World) (hi : Nat) (p : Pt) (hp : PartAt w hi p ta sa tn tc sn sc) (ht2 : tn ≤ 20) (hs2 : sn ≤ 20) :
 Calls Tryz.prog 84 #[.agg #[.slice ta tn tc, .slice sa sn sc, .slice da dn dc, .int .u8 x0, .int .u8 x1, .int .u8 x2], .int .i64 t] w fun e w' => e = .returned (.int .i64 (highV p t)) ∧ Below w.heap.size w w' := by
 obtain ⟨i0, hi0, hz0, hz1, hz2⟩ := info_parts Tryz.infoInt
 have HI := Lib.hid hi0
 obtain ⟨htn, hsn, hts, hss, hhi⟩ := hp
 obtain ⟨V, hV⟩ : ∃ V, V = w.alloc (.cells #[.slice ta tn tc, .slice sa sn sc, .slice da dn dc, .int .u8 x0, .int .u8 x1, .int .u8 x2] 37) := ⟨_, rfl⟩
 have ks : ∀ W : World, Below V.heap.size V W → W.cell? ⟨w.heap.size, 0, none⟩ = some (.slice ta tn tc) := fun W h => by
  rw [hV] at h
  exact box_says w #[.slice ta tn tc, .slice sa sn sc, .slice da dn dc, .int .u8 x0, .int .u8 x1, .int .u8 x2] 37 W h 0 _ rfl
 have hBV : Below w.heap.size w V := by rw [hV]; exact below1 _ _
 have hVw : w.heap.size < V.heap.size := by rw [hV]; simp
 have HVE : Hid (V.heap.size = w.heap.size + 1) := Lib.hid (by rw [hV]; simp)
 have HT := Lib.hid hts; have HTN := Lib.hid htn
 have HV := Lib.hid hV; have HBV := Lib.hid hBV; have KS := Lib.hid ks
 have HLI := Lib.hid (high_is p t); have HLS := Lib.hid (high_small p t)
 have hmk : ∀ W : World, (Instr.makeSlice 24 (.int .i64 0) (.int .i64 9)).run Tryz.prog W = .ok (.slice (some ⟨W.heap.size, 0, none⟩) 0 9) (W.alloc (.cells #[.int .i64 0, .int .i64 0, .int .i64 0, .int .i64 0, .int .i64 0, .int .i64 0, .int .i64 0, .int .i64 0, .int .i64 0] 3)) := fun _ => by kernel_rfl
 have H1 := Lib.hid (Ints.made (heap_alloc_new V (.cells #[.int .i64 0, .int .i64 0, .int .i64 0, .int .i64 0, .int .i64 0, .int .i64 0, .int .i64 0, .int .i64 0, .int .i64 0] 3)) rfl (Nat.le_refl _))
 have HB0 := Lib.hid (below1 V (.cells #[.int .i64 0, .int .i64 0, .int .i64 0, .int .i64 0, .int .i64 0, .int .i64 0, .int .i64 0, .int .i64 0, .int .i64 0] 3))
 have z0 := ks _ HB0.out
 clear hV hBV ks hts hss htn hsn hi0
 go_enter Tryz.func84, Tryz.ntmps84
 go_wp2_with fail
 rw [← HV.out]
 go_wp2_with fail
 clear z0 hmk
 go_loopw [5, 12] (fun s i wr => ∃ (k nc : Nat) (na : Option Addr), k ≤ tn ∧ s = .slice na (gath (fun _ => true) (fun k => ofV k t true) p.ts k).length nc ∧ i = .int .i64 k ∧ Hid (Ints wr V.heap.size na nc (gath (fun _ => true) (fun k => ofV k t true) p.ts k)) ∧ Below V.heap.size V wr) (fun _ i _ => tn - (intOf i).toNat)
 case atStart => exact ⟨0, 9, some ⟨V.heap.size, 0, none⟩, by omega, by rw [HVE.out]; rfl, rfl, Lib.hid H1.out, HB0.out⟩
 case round =>
  obtain ⟨k, nc, na, hk, rfl, rfl, HO, hb⟩ := hrel
  by_cases hlt : k < tn
  ·have tk : decide ((k : Int) < (tn : Int)) = true := by simpa using hlt
   obtain ⟨x, hx⟩ : ∃ x, p.ts[k]? = some x := ⟨_, List.getElem?_eq_getElem (by rw [HTN.out]; exact hlt)⟩
   have hlies := HT.out.keep (SameIn.of_below (HBV.out.trans (hb.mono (Nat.le_of_lt hVw))) hhi)
   obtain ⟨a2, c2, e2, _, _, hc⟩ := hlies
   cases e2
   rcases hc with h0 | ⟨b, off, rfl, hb1, hb2, hc⟩
   ·omega
   obtain ⟨s0, s1, s2, s3, s4, s5⟩ := Lies.tk hc hx
   have HX := Lib.hid hx
   have hbw : b < wr.heap.size := by have := hb.size; omega
   have l0 : (0 : Int) ≤ (k : Int) := by omega
   have l1 : (k : Int) < (tn : Int) := by omega
   clear hc hx
   obtain ⟨xb, xt, xd, xv, xlo, xtop⟩ := x
   simp only at s0 s1 s2 s3 s4 s5
   have BB := Lib.hid (below1 wr (.cells #[.bool xb, .int .i64 xt, .int .i64 xd, .int .i64 xv, .int .i64 xlo, .int .i64 xtop] 111))
   have hgl := gath_len (fun _ => true) (fun k => ofV k t true) p.ts k
   have HN := Lib.hid (gath_yes (c := fun _ => true) (g := fun k => ofV k t true) HX.out rfl)
   obtain ⟨ls, hls⟩ : ∃ ls, ls = gath (fun _ => true) (fun k => ofV k t true) p.ts k := ⟨_, rfl⟩
   rw [← hls] at HO HN hgl
   rw [← hls]
   obtain ⟨y, hy⟩ : ∃ y, y = ofV ⟨xb, xt, xd, xv, xlo, xtop⟩ t true := ⟨_, rfl⟩
   rw [← hy] at HN
   have HY := Lib.hid hy
   have HAP := Lib.hid (HO.out.hap hb.size y)
   clear hls hy
   go_wp2_with (first
    | (go_at_call 130; refine (of_any _ _ _ _ _ _ _ _ _).mono ?_; rintro e w2 ⟨rfl, hb1'⟩; rw [← HY.out]; have HB5 := Lib.hid (bel_thenD BB.out (Nat.le_refl _) hb1'); clear hb1')
    | (refine wpList_append_lie2 (by rfl) (.tmp 16) (.tmp 20) 24 (by rfl) V.heap.size 3 i0 _ 1 8 Tryz.underlying24 HI.out hz0 hz1 hz2 rfl (by omega) (.slice na ls.length nc) ls.length (ls.flatMap intCells) (by rfl) (HAP.out w2 HB5.out _ (by rfl)).1 (.slice (some ⟨w2.heap.size, 0, none⟩) 1 1) w2.heap.size (w2.heap.size + 1) 1 [.int .i64 y] (by rfl) (HAP.out w2 HB5.out _ (by rfl)).2.1 (in_one _) (ls.length + 1) rfl (by simp only [maxLen]; omega) (by omega) (HAP.out w2 HB5.out _ (by rfl)).2.2 ?_; intro ao cap' w6 hown6 hgrow6 hob6)
    | go_in)
   go_roundw
   case rel => exact ⟨k + 1, cap', ao, by omega, by rw [HN.out]; exact snoc_slice _ _ _ _, by go_num, Lib.hid (by rw [HN.out]; exact Ints.more hown6), ints_below HO.out hb hb.size HB5.out rfl hgrow6⟩
   case measure => simp [intOf]; omega
  ·have tk : decide ((k : Int) < (tn : Int)) = false := by simp; omega
   have hgl2 : (gath (fun _ => true) (fun k => ofV k t true) p.ts k).length ≤ 2000 := by
    have := gath_len (fun _ => true) (fun k => ofV k t true) p.ts k
    omega
   have HL := Lib.hid (gath_end (c := fun _ => true) (g := fun k => ofV k t true) (xs := p.ts) (k := k) (by rw [HTN.out]; omega))
   obtain ⟨ls, hls⟩ : ∃ ls, ls = gath (fun _ => true) (fun k => ofV k t true) p.ts k := ⟨_, rfl⟩
   rw [← hls] at HO HL hgl2
   rw [← hls]
   clear hls HT HTN
   go_wp2_with (first
    | (go_at_call 132; refine (total_any _ _ _ ls _ _ _ rfl HO.out.lies hgl2 (by rw [HL.out]; exact HLS.out)).mono ?_; rintro e w7 ⟨rfl, rfl⟩))
   go_ret
   exact ⟨ret_iD (by rw [HL.out]; exact HLI.out), HBV.out.trans (hb.mono (Nat.le_of_lt hVw))⟩
end Go.Proofs.YtchbehnkkcjdgaaGreat
namespace Go.Proofs.YtchbehnkkcjdgaaGreat
open Go.ChangeShapes Go.WideShapes Go.ChangeAt Go.RowKit
set_option linter.unusedVariables false
attribute [local go_sem ↓] Go.wp_at_zero Go.wp_at_succ
theorem ints_below2 {V wr w5 w6 : World} {B : Nat} {a : Option Addr} {cap : Nat} {ls : List Int} {o : Obj} (h : Ints wr B a cap ls) (hb : Below B V wr) (hB : B ≤ wr.heap.size) (h5 : Below wr.heap.size wr w5) (hg : (w5.alloc o).drew.grownBy w6 (Value.slice a ls.length cap).ownBlock) : Below B V w6 := by
 have h15 : Below B V w5 := hb.trans (h5.mono hB)
 exact ((h15.alloc (Nat.le_trans hB h5.size) o).drew).grown hg (by simp [World.drew]; exact Nat.le_succ_of_le (Nat.le_trans hB h5.size)) (fun q hq => (owns_own h q hq).1)
theorem obj_alloc {w : World} {X : Nat} {o : Obj} (h : w.heap[X]? = some o) (o' : Obj) : (w.alloc o').heap[X]? = some o := by
 rw [heap_at, if_neg (by intro e; subst e; rw [Array.getElem?_eq_none (Nat.le_refl _)] at h; cases h)]
 exact h
set_option maxRecDepth 100000 in
set_option maxHeartbeats 4000000 in
theorem rate_any (ta sa da : Option Addr) (tn tc sn sc dn dc : Nat) (x0 x1 x2 : Int) (t : Int) (high : Bool) (w : World) (hi : Nat) (p : Pt) (hp : PartAt w hi p ta sa tn tc sn sc) (ht2 : tn ≤ 20) (hs2 : sn ≤ 20) :
 Calls Tryz.prog 86 #[.int .i64 t, .agg #[.slice ta tn tc, .slice sa sn sc, .slice da dn dc, .int .u8 x0, .int .u8 x1, .int .u8 x2], .bool high] w fun e w' => e = .returned (.int .i64 (rateV t p high)) ∧ Below w.heap.size w w' := by
 obtain ⟨i0, hi0, hz0, hz1, hz2⟩ := info_parts Tryz.infoInt
 have HI := Lib.hid hi0
 obtain ⟨htn, hsn, hts, hss, hhi⟩ := hp
 obtain ⟨V, hV⟩ : ∃ V, V = w.alloc (.cells #[.slice ta tn tc, .slice sa sn sc, .slice da dn dc, .int .u8 x0, .int .u8 x1, .int .u8 x2] 37) := ⟨_, rfl⟩
 have ks : ∀ W : World, Below V.heap.size V W → W.cell? ⟨w.heap.size, 0, none⟩ = some (.slice ta tn tc) ∧ W.cell? ⟨w.heap.size, 1, none⟩ = some (.slice sa sn sc) := fun W h => by
  rw [hV] at h
  have k := box_says w #[.slice ta tn tc, .slice sa sn sc, .slice da dn dc, .int .u8 x0, .int .u8 x1, .int .u8 x2] 37 W h
  exact ⟨k 0 _ rfl, k 1 _ rfl⟩
 have hBV : Below w.heap.size w V := by rw [hV]; exact below1 _ _
 have hVw : w.heap.size < V.heap.size := by rw [hV]; simp
 have HVE : Hid (V.heap.size = w.heap.size + 1) := Lib.hid (by rw [hV]; simp)
 have HT := Lib.hid hts; have HS := Lib.hid hss; have HTN := Lib.hid htn; have HSN := Lib.hid hsn
 have HV := Lib.hid hV; have HBV := Lib.hid hBV; have KS := Lib.hid ks
 obtain ⟨n0, n1⟩ := cutT_in t
 have HLI := Lib.hid (rate_is t p high); have HLS := Lib.hid (rate_small (cutT t) p high n0 n1)
 have HH : Hid (min (max t 0) 1099511627776 = cutT t) := Lib.hid rfl
 obtain ⟨N, hN⟩ : ∃ N, N = cutT t := ⟨_, rfl⟩
 rw [← hN] at HLI HLS HH n0 n1
 clear hN
 have hmk : ∀ W : World, (Instr.makeSlice 24 (.int .i64 0) (.int .i64 9)).run Tryz.prog W = .ok (.slice (some ⟨W.heap.size, 0, none⟩) 0 9) (W.alloc (.cells #[.int .i64 0, .int .i64 0, .int .i64 0, .int .i64 0, .int .i64 0, .int .i64 0, .int .i64 0, .int .i64 0, .int .i64 0] 3)) := fun _ => by kernel_rfl
 have H1 := Lib.hid (Ints.made (heap_alloc_new V (.cells #[.int .i64 0, .int .i64 0, .int .i64 0, .int .i64 0, .int .i64 0, .int .i64 0, .int .i64 0, .int .i64 0, .int .i64 0] 3)) rfl (Nat.le_refl _))
 have HB0 := Lib.hid (below1 V (.cells #[.int .i64 0, .int .i64 0, .int .i64 0, .int .i64 0, .int .i64 0, .int .i64 0, .int .i64 0, .int .i64 0, .int .i64 0] 3))
 obtain ⟨z0, z1⟩ := ks _ HB0.out
 clear hV hBV ks hts hss htn hsn hi0
 go_enter Tryz.func86, Tryz.ntmps86
 go_wp2_with (first | (go_at_call 136; rw [← HV.out]; refine (heldD_any _ 1099511627776 _ (by omega)).mono ?_; rintro e w2 ⟨rfl, rfl⟩; rw [HH.out]))
 clear z0 z1 hmk
 go_loopw [7, 18] (fun s i wr => ∃ (k nc : Nat) (na : Option Addr), k ≤ tn ∧ s = .slice na (gath (cntDs high) (ratT N high) p.ts k).length nc ∧ i = .int .i64 k ∧ Hid (Ints wr V.heap.size na nc (gath (cntDs high) (ratT N high) p.ts k)) ∧ Below V.heap.size V wr) (fun _ i _ => tn - (intOf i).toNat)
 case atStart => exact ⟨0, 9, some ⟨V.heap.size, 0, none⟩, by omega, rfl, rfl, Lib.hid H1.out, HB0.out⟩
 case round =>
  obtain ⟨k, nc, na, hk, rfl, rfl, HO, hb⟩ := hrel
  by_cases hlt : k < tn
  ·have tk : decide ((k : Int) < (tn : Int)) = true := by simpa using hlt
   obtain ⟨x, hx⟩ : ∃ x, p.ts[k]? = some x := ⟨_, List.getElem?_eq_getElem (by rw [HTN.out]; exact hlt)⟩
   have hlies := HT.out.keep (SameIn.of_below (HBV.out.trans (hb.mono (Nat.le_of_lt hVw))) hhi)
   obtain ⟨a2, c2, e2, _, _, hc⟩ := hlies
   cases e2
   rcases hc with h0 | ⟨b, off, rfl, hb1, hb2, hc⟩
   ·omega
   obtain ⟨s0, s1, s2, s3, s4, s5⟩ := Lies.tk hc hx
   have HX := Lib.hid hx
   have hbw : b < wr.heap.size := by have := hb.size; omega
   have l0 : (0 : Int) ≤ (k : Int) := by omega
   have l1 : (k : Int) < (tn : Int) := by omega
   clear hc hx
   obtain ⟨xb, xt, xd, xv, xlo, xtop⟩ := x
   simp only at s0 s1 s2 s3 s4 s5
   obtain ⟨B, hB⟩ : ∃ B, B = wr.alloc (.cells #[.bool xb, .int .i64 xt, .int .i64 xd, .int .i64 xv, .int .i64 xlo, .int .i64 xtop] 111) := ⟨_, rfl⟩
   have hBB := below1 wr (.cells #[.bool xb, .int .i64 xt, .int .i64 xd, .int .i64 xv, .int .i64 xlo, .int .i64 xtop] 111)
   rw [← hB] at hBB
   have KB : Hid (∀ W : World, W.heap[wr.heap.size]? = some (.cells #[.bool xb, .int .i64 xt, .int .i64 xd, .int .i64 xv, .int .i64 xlo, .int .i64 xtop] 111 (0, 0)) → W.heap[wr.heap.size]? = some (.cells #[.bool xb, .int .i64 xt, .int .i64 xd, .int .i64 xv, .int .i64 xlo, .int .i64 xtop] 111 (0, 0)) ∧ W.cell? ⟨wr.heap.size, 0, none⟩ = some (.bool xb) ∧ W.cell? ⟨wr.heap.size, 1, none⟩ = some (.int .i64 xt) ∧ W.cell? ⟨wr.heap.size, 2, none⟩ = some (.int .i64 xd) ∧ W.cell? ⟨wr.heap.size, 3, none⟩ = some (.int .i64 xv) ∧ W.cell? ⟨wr.heap.size, 4, none⟩ = some (.int .i64 xlo) ∧ W.cell? ⟨wr.heap.size, 5, none⟩ = some (.int .i64 xtop)) := Lib.hid fun W h => ⟨h, cell_in h rfl, cell_in h rfl, cell_in h rfl, cell_in h rfl, cell_in h rfl, cell_in h rfl⟩
   have KO : Hid (∀ W : World, Below B.heap.size B W → W.heap[wr.heap.size]? = some (.cells #[.bool xb, .int .i64 xt, .int .i64 xd, .int .i64 xv, .int .i64 xlo, .int .i64 xtop] 111 (0, 0))) := Lib.hid fun W h => (h.block wr.heap.size (by rw [hB]; simp)).trans (by rw [hB]; exact heap_alloc_new _ _)
   have BB := Lib.hid hBB
   have HB := Lib.hid hB
   clear hBB hB
   have hgl := gath_len (cntDs high) (ratT N high) p.ts k
   cases hok : cntDs high ⟨xb, xt, xd, xv, xlo, xtop⟩ with
   | true =>
     have HN := Lib.hid (gath_yes (c := cntDs high) (g := ratT N high) HX.out hok)
     have hrb := ratT_bd (N := N) hok n0 n1
     have hkt : okTk ⟨xb, xt, xd, xv, xlo, xtop⟩ = true := by unfold cntDs at hok; rw [Bool.and_eq_true] at hok; exact hok.1
     obtain ⟨a1, a2, a3, a4, a5, a6, a7, a8⟩ := okTk_t hkt
     simp only at a1 a2 a3 a4 a5 a6 a7
     have HOK : Hid ((okTk ⟨xb, xt, xd, xv, xlo, xtop⟩ && (xb || !high)) = true) := Lib.hid hok
     obtain ⟨e1, q0, q1⟩ := divT (n := N) (t := xt) n0 (by omega)
     obtain ⟨q, hq⟩ : ∃ q, q = N / xt := ⟨_, rfl⟩
     have HR : Hid (ratT N high ⟨xb, xt, xd, xv, xlo, xtop⟩ = q * budDs high ⟨xb, xt, xd, xv, xlo, xtop⟩) := Lib.hid (by rw [hq]; rfl)
     rw [HR.out] at hrb
     rw [← hq] at e1 q0 q1
     have e3 := hq.symm
     clear hok hkt hq a8
     obtain ⟨bd, hbd⟩ : ∃ bd, bd = budDs high ⟨xb, xt, xd, xv, xlo, xtop⟩ := ⟨_, rfl⟩
     rw [← hbd] at HR hrb
     have HBD := Lib.hid hbd
     rw [HR.out] at HN
     obtain ⟨ls, hls⟩ : ∃ ls, ls = gath (cntDs high) (ratT N high) p.ts k := ⟨_, rfl⟩
     rw [← hls] at HO HN hgl
     rw [← hls]
     have HAP := Lib.hid (HO.out.hap hb.size (q * bd))
     have nz : (xt == 0) = false := by simp; omega
     have nz2 : ¬ xt = 0 := by omega
     have S1 : IntKind.i64.wrap (q * bd) = q * bd := IntWalk.i64_in _ (by omega)
     have S2 : IntKind.i64.wrap q = q := IntWalk.i64_in _ (by omega)
     clear hls hbd
     go_wp2_with (first
      | (go_at_call 137; rw [← HB.out]; refine (counts_any _ _ _ _ _ _ _ _).mono ?_; rintro e w2 ⟨rfl, hb1'⟩; rw [HOK.out]; have HB5 := Lib.hid hb1'; clear hb1'))
     have ho5 := KO.out _ HB5.out
     go_region_held3 (fun W => W.heap[wr.heap.size]? = some (.cells #[.bool xb, .int .i64 xt, .int .i64 xd, .int .i64 xv, .int .i64 xlo, .int .i64 xtop] 111 (0, 0)) ∧ W.cell? ⟨wr.heap.size, 0, none⟩ = some (.bool xb) ∧ W.cell? ⟨wr.heap.size, 1, none⟩ = some (.int .i64 xt) ∧ W.cell? ⟨wr.heap.size, 2, none⟩ = some (.int .i64 xd) ∧ W.cell? ⟨wr.heap.size, 3, none⟩ = some (.int .i64 xv) ∧ W.cell? ⟨wr.heap.size, 4, none⟩ = some (.int .i64 xlo) ∧ W.cell? ⟨wr.heap.size, 5, none⟩ = some (.int .i64 xtop))
      (first | exact KB.out _ (by assumption) | exact KB.out _ ho5 | exact KB.out _ (obj_alloc (by assumption) _))
      (first
        | (go_at_call 138; refine (budget_any _ _ _ _ _ _ _ _).mono ?_; rintro e w3 ⟨rfl, hb3⟩; rw [← HBD.out]; have HB7 := Lib.hid (bel_thenD HB5.out.drew (Nat.le_refl _) hb3); have ho7 := KO.out _ HB7.out; have HB6 := Lib.hid (bel_thenD BB.out (Nat.le_refl _) HB7.out))
        | (refine step_append_lie2 (by rfl) (.tmp 25) (.tmp 34) 24 (by rfl) V.heap.size 3 i0 _ 1 8 Tryz.underlying24 HI.out hz0 hz1 hz2 rfl (by omega) (.slice na ls.length nc) ls.length (ls.flatMap intCells) (by rfl) (HAP.out w3 HB6.out _ (by rfl)).1 (.slice (some ⟨w3.heap.size, 0, none⟩) 1 1) w3.heap.size (w3.heap.size + 1) 1 [.int .i64 (q * bd)] (by rfl) (HAP.out w3 HB6.out _ (by rfl)).2.1 (in_one _) (ls.length + 1) rfl (by simp only [maxLen]; omega) (by omega) (HAP.out w3 HB6.out _ (by rfl)).2.2 ?_; intro ao cap' w6 hown6 hgrow6 hob6; have ho8 := grown_keep hgrow6 (HAP.out w3 HB6.out _ (by rfl)).1 (obj_alloc ho7 _) (by decide))
        | fail "no arm")
     all_goals go_wp2_with fail
     all_goals go_roundw
     case rel => exact ⟨k + 1, cap', ao, by omega, by rw [HN.out]; exact snoc_slice _ _ _ _, by go_num, Lib.hid (by rw [HN.out]; exact Ints.more hown6), ints_below HO.out hb hb.size HB6.out rfl hgrow6⟩
     case measure => simp [intOf]; omega
   | false =>
     have HN := Lib.hid (gath_no (c := cntDs high) (g := ratT N high) HX.out hok)
     have HOK : Hid ((okTk ⟨xb, xt, xd, xv, xlo, xtop⟩ && (xb || !high)) = false) := Lib.hid hok
     clear hok
     obtain ⟨ls, hls⟩ : ∃ ls, ls = gath (cntDs high) (ratT N high) p.ts k := ⟨_, rfl⟩
     rw [← hls] at HO HN hgl
     rw [← hls]
     clear hls
     go_wp2_with (first
      | (go_at_call 137; rw [← HB.out]; refine (counts_any _ _ _ _ _ _ _ _).mono ?_; rintro e w2 ⟨rfl, hb1'⟩; rw [HOK.out]; have HB5 := Lib.hid (bel_thenD BB.out (Nat.le_refl _) hb1'); clear hb1'))
     go_roundw
     case rel => exact ⟨k + 1, nc, na, by omega, by rw [HN.out], by go_num, Lib.hid (by rw [HN.out]; exact HO.out.later HB5.out), hb.trans (HB5.out.mono hb.size)⟩
     case measure => simp [intOf]; omega
  ·have tk : decide ((k : Int) < (tn : Int)) = false := by simp; omega
   have hgl := gath_len (cntDs high) (ratT N high) p.ts k
   have HG := Lib.hid (gath_end (c := cntDs high) (g := ratT N high) (xs := p.ts) (k := k) (by rw [HTN.out]; omega))
   obtain ⟨pre, hpre⟩ : ∃ pre, pre = gath (cntDs high) (ratT N high) p.ts k := ⟨_, rfl⟩
   rw [← hpre] at HO HG hgl
   rw [← hpre]
   clear hpre HT HTN
   obtain ⟨z0, z1⟩ := KS.out wr hb
   obtain ⟨wo, hwo⟩ : ∃ wo, wo = wr := ⟨_, rfl⟩
   subst hwo
   go_wp2_with fail
   clear z0 z1
   go_loopw [7, 40] (fun s i wr => ∃ (j nc : Nat) (na : Option Addr), j ≤ sn ∧ s = .slice na (pre ++ gath (cntS high) (ratS N) p.ss j).length nc ∧ i = .int .i64 j ∧ Hid (Ints wr V.heap.size na nc (pre ++ gath (cntS high) (ratS N) p.ss j)) ∧ Below V.heap.size V wr) (fun _ i _ => sn - (intOf i).toNat)
   case atStart => exact ⟨0, nc, na, by omega, by rw [gath_zero, List.append_nil], rfl, Lib.hid (by rw [gath_zero, List.append_nil]; exact HO.out), hb⟩
   case round =>
    clear hb HO
    obtain ⟨j, nc, na, hj, rfl, rfl, HO, hb⟩ := hrel
    by_cases hlt2 : j < sn
    ·have tj : decide ((j : Int) < (sn : Int)) = true := by simpa using hlt2
     obtain ⟨x, hx⟩ : ∃ x, p.ss[j]? = some x := ⟨_, List.getElem?_eq_getElem (by rw [HSN.out]; exact hlt2)⟩
     have hlies := HS.out.keep (SameIn.of_below (HBV.out.trans (hb.mono (Nat.le_of_lt hVw))) hhi)
     obtain ⟨a2, c2, e2, _, _, hc⟩ := hlies
     cases e2
     rcases hc with h0 | ⟨b, off, rfl, hb1, hb2, hc⟩
     ·omega
     obtain ⟨s0, s1, s2⟩ := Lies.sv hc hx
     have HX := Lib.hid hx
     have hbw : b < wr.heap.size := by have := hb.size; omega
     have l0 : (0 : Int) ≤ (j : Int) := by omega
     have l1 : (j : Int) < (sn : Int) := by omega
     clear hc hx
     obtain ⟨xr, xc, xt⟩ := x
     simp only at s0 s1 s2
     obtain ⟨B, hB⟩ : ∃ B, B = wr.alloc (.cells #[.bool xr, .int .i64 xc, .int .i64 xt] 114) := ⟨_, rfl⟩
     have hBB := below1 wr (.cells #[.bool xr, .int .i64 xc, .int .i64 xt] 114)
     rw [← hB] at hBB
     have KB : Hid (∀ W : World, W.heap[wr.heap.size]? = some (.cells #[.bool xr, .int .i64 xc, .int .i64 xt] 114 (0, 0)) → W.heap[wr.heap.size]? = some (.cells #[.bool xr, .int .i64 xc, .int .i64 xt] 114 (0, 0)) ∧ W.cell? ⟨wr.heap.size, 0, none⟩ = some (.bool xr) ∧ W.cell? ⟨wr.heap.size, 1, none⟩ = some (.int .i64 xc) ∧ W.cell? ⟨wr.heap.size, 2, none⟩ = some (.int .i64 xt)) := Lib.hid fun W h => ⟨h, cell_in h rfl, cell_in h rfl, cell_in h rfl⟩
     have KO : Hid (∀ W : World, Below B.heap.size B W → W.heap[wr.heap.size]? = some (.cells #[.bool xr, .int .i64 xc, .int .i64 xt] 114 (0, 0))) := Lib.hid fun W h => (h.block wr.heap.size (by rw [hB]; simp)).trans (by rw [hB]; exact heap_alloc_new _ _)
     have BB := Lib.hid hBB
     have HB := Lib.hid hB
     clear hBB hB
     have hgl2 : (pre ++ gath (cntS high) (ratS N) p.ss j).length ≤ 2000 := by
      have := gath_len (cntS high) (ratS N) p.ss j
      rw [List.length_append]; omega
     by_cases hok : cntS high ⟨xr, xc, xt⟩ = true
     ·have HN : Hid (pre ++ gath (cntS high) (ratS N) p.ss (j + 1) = (pre ++ gath (cntS high) (ratS N) p.ss j) ++ [ratS N ⟨xr, xc, xt⟩]) := Lib.hid (by rw [gath_yes (c := cntS high) (g := ratS N) HX.out hok, List.append_assoc])
      have hrb := ratS_bd (N := N) hok n0 n1
      obtain ⟨hkt, hhi2⟩ : okSv ⟨xr, xc, xt⟩ = true ∧ high = false := by unfold cntS at hok; rw [Bool.and_eq_true] at hok; exact ⟨hok.1, by simpa using hok.2⟩
      subst hhi2
      obtain ⟨a1, a2, a3⟩ := okSv_t hkt
      simp only at a1 a2 a3
      have HOK := Lib.hid hkt
      obtain ⟨e1, q0, q1⟩ := divT (n := N) (t := xt) n0 (by omega)
      obtain ⟨q, hq⟩ : ∃ q, q = N / xt := ⟨_, rfl⟩
      have HR : Hid (ratS N ⟨xr, xc, xt⟩ = q * xc) := Lib.hid (by rw [hq]; rfl)
      rw [HR.out] at hrb
      rw [← hq] at e1 q0 q1
      have e3 := hq.symm
      clear hok hkt hq
      rw [HR.out] at HN
      obtain ⟨ls, hls⟩ : ∃ ls, ls = pre ++ gath (cntS false) (ratS N) p.ss j := ⟨_, rfl⟩
      rw [← hls] at HO HN hgl2
      rw [← hls]
      have HAP := Lib.hid (HO.out.hap hb.size (q * xc))
      have nz : (xt == 0) = false := by simp; omega
      have nz2 : ¬ xt = 0 := by omega
      have S1 : IntKind.i64.wrap (q * xc) = q * xc := IntWalk.i64_in _ (by omega)
      have S2 : IntKind.i64.wrap q = q := IntWalk.i64_in _ (by omega)
      clear hls
      go_wp2_with (first
       | (go_at_call 139; rw [← HB.out]; refine (serverRight_any _ _ _ _).mono ?_; rintro e w2 ⟨rfl, hb1'⟩; rw [HOK.out]; have HB5 := Lib.hid hb1'; clear hb1'))
      have ho5 := KO.out _ HB5.out
      have HB6 := Lib.hid (bel_thenD BB.out (Nat.le_refl _) HB5.out)
      go_region_held3 (fun W => W.heap[wr.heap.size]? = some (.cells #[.bool xr, .int .i64 xc, .int .i64 xt] 114 (0, 0)) ∧ W.cell? ⟨wr.heap.size, 0, none⟩ = some (.bool xr) ∧ W.cell? ⟨wr.heap.size, 1, none⟩ = some (.int .i64 xc) ∧ W.cell? ⟨wr.heap.size, 2, none⟩ = some (.int .i64 xt))
       (first | exact KB.out _ (by assumption) | exact KB.out _ ho5 | exact KB.out _ (obj_alloc ho5 _) | exact KB.out _ (obj_alloc (by assumption) _))
       (first
         | (refine step_append_lie2 (by rfl) (.tmp 50) (.tmp 58) 24 (by rfl) V.heap.size 3 i0 _ 1 8 Tryz.underlying24 HI.out hz0 hz1 hz2 rfl (by omega) (.slice na ls.length nc) ls.length (ls.flatMap intCells) (by rfl) (HAP.out w2 HB6.out _ (by rfl)).1 (.slice (some ⟨w2.heap.size, 0, none⟩) 1 1) w2.heap.size (w2.heap.size + 1) 1 [.int .i64 (q * xc)] (by rfl) (HAP.out w2 HB6.out _ (by rfl)).2.1 (in_one _) (ls.length + 1) rfl (by simp only [maxLen]; omega) (by omega) (HAP.out w2 HB6.out _ (by rfl)).2.2 ?_; intro ao cap' w6 hown6 hgrow6 hob6; have ho8 := grown_keep hgrow6 (HAP.out w2 HB6.out _ (by rfl)).1 (obj_alloc ho5 _) (by decide))
         | fail "no arm")
      all_goals go_wp2_with fail
      all_goals go_roundw
      case rel => exact ⟨j + 1, cap', ao, by omega, by rw [HN.out]; exact snoc_slice _ _ _ _, by go_num, Lib.hid (by rw [HN.out]; exact Ints.more hown6), ints_below2 HO.out hb hb.size HB6.out hgrow6⟩
      case measure => simp [intOf]; omega
     ·have hok' : cntS high ⟨xr, xc, xt⟩ = false := by simpa using hok
      have HN : Hid (pre ++ gath (cntS high) (ratS N) p.ss (j + 1) = pre ++ gath (cntS high) (ratS N) p.ss j) := Lib.hid (by rw [gath_no (c := cntS high) (g := ratS N) HX.out hok'])
      obtain ⟨ls, hls⟩ : ∃ ls, ls = pre ++ gath (cntS high) (ratS N) p.ss j := ⟨_, rfl⟩
      rw [← hls] at HO HN hgl2
      rw [← hls]
      clear hls hok
      have hc2 : okSv ⟨xr, xc, xt⟩ = false ∨ (okSv ⟨xr, xc, xt⟩ = true ∧ high = true) := by unfold cntS at hok'; cases h1 : okSv ⟨xr, xc, xt⟩ <;> cases h2 : high <;> simp_all
      clear hok'
      rcases hc2 with hs | ⟨hs, rfl⟩
      ·have HOK := Lib.hid hs
       clear hs
       go_wp2_with (first
        | (go_at_call 139; rw [← HB.out]; refine (serverRight_any _ _ _ _).mono ?_; rintro e w2 ⟨rfl, hb1'⟩; rw [HOK.out]; have HB5 := Lib.hid (bel_thenD BB.out (Nat.le_refl _) hb1'); clear hb1'))
       go_roundw
       case rel => exact ⟨j + 1, nc, na, by omega, by rw [HN.out], by go_num, Lib.hid (by rw [HN.out]; exact HO.out.later HB5.out), hb.trans (HB5.out.mono hb.size)⟩
       case measure => simp [intOf]; omega
      ·have HOK := Lib.hid hs
       clear hs
       go_wp2_with (first
        | (go_at_call 139; rw [← HB.out]; refine (serverRight_any _ _ _ _).mono ?_; rintro e w2 ⟨rfl, hb1'⟩; rw [HOK.out]; have HB5 := Lib.hid (bel_thenD BB.out (Nat.le_refl _) hb1'); clear hb1'))
       go_roundw
       case rel => exact ⟨j + 1, nc, na, by omega, by rw [HN.out], by go_num, Lib.hid (by rw [HN.out]; exact HO.out.later HB5.out), hb.trans (HB5.out.mono hb.size)⟩
       case measure => simp [intOf]; omega
    ·have tj : decide ((j : Int) < (sn : Int)) = false := by simp; omega
     have hgl2 : (pre ++ gath (cntS high) (ratS N) p.ss j).length ≤ 2000 := by
      have := gath_len (cntS high) (ratS N) p.ss j
      rw [List.length_append]; omega
     have HL := Lib.hid (show pre ++ gath (cntS high) (ratS N) p.ss j = (p.ts.filter (cntDs high)).map (ratT N high) ++ (p.ss.filter (cntS high)).map (ratS N) from by rw [HG.out, gath_end (c := cntS high) (g := ratS N) (xs := p.ss) (k := j) (by rw [HSN.out]; omega)])
     obtain ⟨ls, hls⟩ : ∃ ls, ls = pre ++ gath (cntS high) (ratS N) p.ss j := ⟨_, rfl⟩
     rw [← hls] at HO HL hgl2
     rw [← hls]
     clear hls
     go_wp2_with (first
      | (go_at_call 132; refine (total_any _ _ _ ls _ _ _ rfl HO.out.lies hgl2 (by rw [HL.out]; exact HLS.out)).mono ?_; rintro e w7 ⟨rfl, rfl⟩))
     go_ret
     exact ⟨ret_iD (by rw [HL.out]; exact HLI.out), HBV.out.trans (hb.mono (Nat.le_of_lt hVw))⟩
end Go.Proofs.YtchbehnkkcjdgaaGreat
