/- Joined of BoundT, BoundU: The program's total, Low, High and Rate of package demand. -/
import Derived.Test.YtdbbdlobahalkaaBoundProg
import Derived.Test.YtdbbdlobahalkaaDemandZ
import Derived.Deep.RegionLaw
namespace Go.Proofs.Ytdbbdlobahalkaa
open Go.ChangeShapes Go.WideShapes Go.ChangeAt Go.RowKit
set_option linter.unusedVariables false
attribute [local go_sem ↓] Go.wp_at_zero Go.wp_at_succ

theorem sumI_from : ∀ (l : List Int) (a : Int), l.foldl (fun a b => a + b) a = a + sumI l
  | [], a => by simp [sumI]
  | x :: l, a => by
    have h1 := sumI_from l (a + x)
    have h2 := sumI_from l (0 + x)
    have e : sumI (x :: l) = l.foldl (fun a b => a + b) (0 + x) := rfl
    rw [e, List.foldl_cons, h1, h2]
    omega
theorem sumI_append (a b : List Int) : sumI (a ++ b) = sumI a + sumI b := by
  have : sumI (a ++ b) = (b.foldl (fun a b => a + b) (sumI a)) := by unfold sumI; rw [List.foldl_append]
  rw [this, sumI_from]
/-- All that is summed up is small. -/
def Small (l : List Int) : Prop := ∀ x ∈ l, 0 ≤ x ∧ x ≤ 1099511627777000
theorem Small.take {l : List Int} (h : Small l) (k : Nat) : Small (l.take k) := fun x hx => h x (List.mem_of_mem_take hx)
theorem Small.bd {l : List Int} (h : Small l) (hl : l.length ≤ 2000) : 0 ≤ sumI l ∧ sumI l ≤ 2199023255554000000 := by
  have := sumI_bd l.length l rfl h
  have h2 : ((l.length : Nat) : Int) ≤ 2000 := by omega
  omega
theorem Small.append {a b : List Int} (h : Small a) (k : Small b) : Small (a ++ b) := fun x hx => by
  rcases List.mem_append.1 hx with hx | hx
  · exact h x hx
  · exact k x hx
theorem Small.gath {α : Type} {c : α → Bool} {g : α → Int} (h : ∀ x, c x = true → 0 ≤ g x ∧ g x ≤ 1099511627777000) (xs : List α) : Small ((xs.filter c).map g) := fun y hy => by
  obtain ⟨x, hx, rfl⟩ := List.mem_map.1 hy
  exact h x (List.mem_filter.1 hx).2
theorem sum_next {l : List Int} {k : Nat} {x : Int} (h : l[k]? = some x) : sumI (l.take (k + 1)) = sumI (l.take k) + x := by
  rw [List.take_add_one, h]
  exact sumI_snoc _ _
theorem filter_all {α : Type} (xs : List α) : xs.filter (fun _ => true) = xs := by simp
theorem low_is (p : Pt) (t : Int) : sumI ((p.ts.filter fun _ => true).map (fun k => ofV k t false) ++ (p.ss.filter fun _ => true).map (fun s => servV s t)) = lowV p t := by
  rw [sumI_append, filter_all, filter_all]; rfl
theorem low_small (p : Pt) (t : Int) : Small ((p.ts.filter fun _ => true).map (fun k => ofV k t false) ++ (p.ss.filter fun _ => true).map (fun s => servV s t)) :=
  (Small.gath (fun x _ => ofV_bd x t false) _).append (Small.gath (fun x _ => servV_bd x t) _)
theorem high_is (p : Pt) (t : Int) : sumI ((p.ts.filter fun _ => true).map (fun k => ofV k t true)) = highV p t := by
  rw [filter_all]; rfl
theorem high_small (p : Pt) (t : Int) : Small ((p.ts.filter fun _ => true).map (fun k => ofV k t true)) := Small.gath (fun x _ => ofV_bd x t true) _
def cntT (high : Bool) (k : Tk) : Bool := okTk k && (k.hi || !high)
def cntS (high : Bool) (s : Sv) : Bool := okSv s && !high
def budT (high : Bool) (k : Tk) : Int := if high then k.top else k.lo
def ratT (N : Int) (high : Bool) (k : Tk) : Int := N / k.t * budT high k
def ratS (N : Int) (s : Sv) : Int := N / s.t * s.c
theorem mul_bdE {a b : Int} (a0 : 0 ≤ a) (a1 : a ≤ 1099511627776) (b0 : 0 ≤ b) (b1 : b ≤ 1000) : 0 ≤ a * b ∧ a * b ≤ 1099511627777000 := by
  have := mul_bdD b0 b1 a0 (show a ≤ 1099511627777 by omega)
  rwa [Int.mul_comm] at this
theorem ratT_bd {N : Int} {high : Bool} {k : Tk} (h : cntT high k = true) (n0 : 0 ≤ N) (n1 : N ≤ 1099511627776) : 0 ≤ ratT N high k ∧ ratT N high k ≤ 1099511627777000 := by
  unfold cntT at h
  rw [Bool.and_eq_true] at h
  have := okTk_t h.1
  have h1 := Int.ediv_nonneg n0 (show 0 ≤ k.t by omega)
  have h2 := div_le_self n0 (show 1 ≤ k.t by omega)
  have h3 : 0 ≤ budT high k ∧ budT high k ≤ 1000 := by unfold budT; split <;> omega
  exact mul_bdE h1 (by omega) h3.1 h3.2
theorem ratS_bd {N : Int} {high : Bool} {s : Sv} (h : cntS high s = true) (n0 : 0 ≤ N) (n1 : N ≤ 1099511627776) : 0 ≤ ratS N s ∧ ratS N s ≤ 1099511627777000 := by
  unfold cntS at h
  rw [Bool.and_eq_true] at h
  have := okSv_t h.1
  have h1 := Int.ediv_nonneg n0 (show 0 ≤ s.t by omega)
  have h2 := div_le_self n0 (show 1 ≤ s.t by omega)
  exact mul_bdE h1 (by omega) (by omega) (by omega)
theorem rate_small (N : Int) (p : Pt) (high : Bool) (n0 : 0 ≤ N) (n1 : N ≤ 1099511627776) : Small ((p.ts.filter (cntT high)).map (ratT N high) ++ (p.ss.filter (cntS high)).map (ratS N)) :=
  (Small.gath (fun x h => ratT_bd h n0 n1) _).append (Small.gath (fun x h => ratS_bd h n0 n1) _)
theorem rate_is (n : Int) (p : Pt) (high : Bool) : sumI ((p.ts.filter (cntT high)).map (ratT (cutT n) high) ++ (p.ss.filter (cntS high)).map (ratS (cutT n))) = rateV n p high := by
  rw [sumI_append]
  unfold rateV
  congr 1
  · refine sum_gath (fun x h => ?_) (fun x h => ?_) _
    · unfold cntT at h; unfold rateTk ratT budT
      rw [if_neg (by intro h2; rcases h2 with h2 | ⟨h2, h3⟩ <;> simp_all)]
    · unfold cntT at h; unfold rateTk
      rw [if_pos (by cases h1 : okTk x <;> cases h2 : x.hi <;> cases high <;> simp_all)]
  · cases high with
    | true =>
      have : p.ss.filter (cntS true) = [] := by rw [List.filter_eq_nil_iff]; intro x _; simp [cntS]
      rw [this]; rfl
    | false =>
      rw [if_neg (by simp)]
      refine sum_gath (fun x h => ?_) (fun x h => ?_) _
      · unfold cntS at h; unfold rateSv ratS
        rw [if_neg (by simp_all)]
      · unfold cntS at h; unfold rateSv
        rw [if_pos (by simp_all)]
theorem Ints.made {W : World} {g B : Nat} {arr : Array Value} (hg : W.heap[g]? = some (.cells arr 3 (0, 0))) (hs : arr.size = 9) (hB : B ≤ g) : Ints W B (some ⟨g, 0, none⟩) 9 [] :=
  Fresh.owns (arr := arr) (cap := 9) (m := 0) (size := 1) (news := []) ⟨rfl, by omega, by simp [maxLen], by simp [hs], by simp⟩ hg hB
/-- A partition's two lists, wherever they are read. -/
structure PartAt (w : World) (hi : Nat) (p : Pt) (ta sa : Option Addr) (tn tc sn sc : Nat) : Prop where
  etn : p.ts.length = tn
  esn : p.ss.length = sn
  ts : Lies w 0 hi (.slice ta tn tc) tn 6 (p.ts.flatMap Tk.cells)
  ss : Lies w 0 hi (.slice sa sn sc) sn 3 (p.ss.flatMap Sv.cells)
  le : hi ≤ w.heap.size
theorem PartAt.later {w w' : World} {hi : Nat} {p : Pt} {ta sa : Option Addr} {tn tc sn sc : Nat} (h : PartAt w hi p ta sa tn tc sn sc) (hb : Below w.heap.size w w') : PartAt w' hi p ta sa tn tc sn sc :=
  ⟨h.etn, h.esn, h.ts.keep (SameIn.of_below hb h.le), h.ss.keep (SameIn.of_below hb h.le), Nat.le_trans h.le hb.size⟩

set_option maxRecDepth 100000 in
theorem total_any (a : Option Addr) (n cap : Nat) (ls : List Int) (w : World) (lo hi : Nat) (hn : ls.length = n) (hl : Lies w lo hi (.slice a n cap) n 1 (ls.flatMap intCells)) (h2 : n ≤ 2000) (hs : Small ls) :
    Calls Try.prog 81 #[.slice a n cap] w fun e w' => e = .returned (.int .i64 (sumI ls)) ∧ w = w' := by
  have HL := Lib.hid hl
  have HN := Lib.hid hn
  have HS := Lib.hid hs
  clear hl hn hs
  go_enter Try.func81, Try.ntmps81
  go_wp2
  go_loopw [3, 8] (fun m i wr => ∃ k : Nat, k ≤ n ∧ m = .int .i64 (sumI (ls.take k)) ∧ i = .int .i64 k ∧ wr = w) (fun _ i _ => n - (intOf i).toNat)
  case atStart => exact ⟨0, by omega, rfl, rfl, rfl⟩
  case round =>
    obtain ⟨k, hk, rfl, rfl, rfl⟩ := hrel
    by_cases hlt : k < n
    · have tk : decide ((k : Int) < (n : Int)) = true := by simpa using hlt
      obtain ⟨x, hx⟩ : ∃ x, ls[k]? = some x := ⟨_, List.getElem?_eq_getElem (by rw [HN.out]; exact hlt)⟩
      obtain ⟨a2, c2, e2, _, _, hc⟩ := HL.out
      cases e2
      rcases hc with h0 | ⟨b, off, rfl, hb1, hb2, hc⟩
      · omega
      have s0 := Lies.int' hc hx
      have HM := Lib.hid (sum_next hx)
      obtain ⟨m0, m1⟩ := (HS.out.take k).bd (by rw [List.length_take]; omega)
      obtain ⟨v0, v1⟩ := HS.out x (List.mem_of_getElem? hx)
      clear hc hx
      generalize sumI (ls.take k) = y at *
      have l0 : (0 : Int) ≤ (k : Int) := by omega
      have l1 : (k : Int) < (n : Int) := by omega
      have S1 : IntKind.i64.wrap (9223372036854775807 - y) = 9223372036854775807 - y := IntWalk.i64_in _ (by omega)
      have S2 : IntKind.i64.wrap (y + x) = y + x := IntWalk.i64_in _ (by omega)
      have tg : decide (9223372036854775807 - y < x) = false := by simp; omega
      go_wp2_with fail
      all_goals go_roundw
      case rel => exact ⟨k + 1, by omega, by rw [HM.out], by go_num, by trivial⟩
      case measure => simp [intOf]; omega
    · have tk : decide ((k : Int) < (n : Int)) = false := by simp; omega
      have HE : Hid (sumI (ls.take k) = sumI ls) := Lib.hid (by rw [List.take_of_length_le (show ls.length ≤ k by rw [HN.out]; omega)])
      go_wp2_with fail
      go_ret
      exact ⟨ret_iD HE.out, rfl⟩
set_option maxRecDepth 100000 in
set_option maxHeartbeats 4000000 in
theorem low_any (ta sa da : Option Addr) (tn tc sn sc dn dc : Nat) (x0 x1 x2 : Int) (t : Int) (w : World) (hi : Nat) (p : Pt) (hp : PartAt w hi p ta sa tn tc sn sc) (ht2 : tn ≤ 20) (hs2 : sn ≤ 20) :
    Calls Try.prog 59 #[.agg #[.slice ta tn tc, .slice sa sn sc, .slice da dn dc, .int .u8 x0, .int .u8 x1, .int .u8 x2], .int .i64 t] w fun e w' => e = .returned (.int .i64 (lowV p t)) ∧ Below w.heap.size w w' := by
  obtain ⟨i0, hi0, hz0, hz1, hz2⟩ := info_parts Try.infoInt
  have HI := Lib.hid hi0
  obtain ⟨htn, hsn, hts, hss, hhi⟩ := hp
  obtain ⟨V, hV⟩ : ∃ V, V = w.alloc (.cells #[.slice ta tn tc, .slice sa sn sc, .slice da dn dc, .int .u8 x0, .int .u8 x1, .int .u8 x2] 58) := ⟨_, rfl⟩
  have ks : ∀ W : World, Below V.heap.size V W → W.cell? ⟨w.heap.size, 0, none⟩ = some (.slice ta tn tc) ∧ W.cell? ⟨w.heap.size, 1, none⟩ = some (.slice sa sn sc) := fun W h => by
    rw [hV] at h
    have k := box_says w #[.slice ta tn tc, .slice sa sn sc, .slice da dn dc, .int .u8 x0, .int .u8 x1, .int .u8 x2] 58 W h
    exact ⟨k 0 _ rfl, k 1 _ rfl⟩
  have hBV : Below w.heap.size w V := by rw [hV]; exact below1 _ _
  have hVw : w.heap.size < V.heap.size := by rw [hV]; simp
  have HVE : Hid (V.heap.size = w.heap.size + 1) := Lib.hid (by rw [hV]; simp)
  have HT := Lib.hid hts; have HS := Lib.hid hss; have HTN := Lib.hid htn; have HSN := Lib.hid hsn
  have HV := Lib.hid hV; have HBV := Lib.hid hBV; have KS := Lib.hid ks
  have HLI := Lib.hid (low_is p t); have HLS := Lib.hid (low_small p t)
  have hmk : ∀ W : World, (Instr.makeSlice 48 (.int .i64 0) (.int .i64 9)).run Try.prog W = .ok (.slice (some ⟨W.heap.size, 0, none⟩) 0 9) (W.alloc (.cells #[.int .i64 0, .int .i64 0, .int .i64 0, .int .i64 0, .int .i64 0, .int .i64 0, .int .i64 0, .int .i64 0, .int .i64 0] 3)) := fun _ => by kernel_rfl
  have H1 := Lib.hid (Ints.made (heap_alloc_new V (.cells #[.int .i64 0, .int .i64 0, .int .i64 0, .int .i64 0, .int .i64 0, .int .i64 0, .int .i64 0, .int .i64 0, .int .i64 0] 3)) rfl (Nat.le_refl _))
  have HB0 := Lib.hid (below1 V (.cells #[.int .i64 0, .int .i64 0, .int .i64 0, .int .i64 0, .int .i64 0, .int .i64 0, .int .i64 0, .int .i64 0, .int .i64 0] 3))
  obtain ⟨z0, z1⟩ := ks _ HB0.out
  clear hV hBV ks hts hss htn hsn hi0
  go_enter Try.func59, Try.ntmps59
  go_wp2_with fail
  rw [← HV.out]
  go_wp2_with fail
  clear z0 z1 hmk
  go_loopw [5, 14] (fun s i wr => ∃ (k nc : Nat) (na : Option Addr), k ≤ tn ∧ s = .slice na (gath (fun _ => true) (fun k => ofV k t false) p.ts k).length nc ∧ i = .int .i64 k ∧ Hid (Ints wr V.heap.size na nc (gath (fun _ => true) (fun k => ofV k t false) p.ts k)) ∧ Below V.heap.size V wr) (fun _ i _ => tn - (intOf i).toNat)
  case atStart => exact ⟨0, 9, some ⟨V.heap.size, 0, none⟩, by omega, by rw [HVE.out]; rfl, rfl, Lib.hid H1.out, HB0.out⟩
  case round =>
    obtain ⟨k, nc, na, hk, rfl, rfl, HO, hb⟩ := hrel
    by_cases hlt : k < tn
    · have tk : decide ((k : Int) < (tn : Int)) = true := by simpa using hlt
      obtain ⟨x, hx⟩ : ∃ x, p.ts[k]? = some x := ⟨_, List.getElem?_eq_getElem (by rw [HTN.out]; exact hlt)⟩
      have hlies := HT.out.keep (SameIn.of_below (HBV.out.trans (hb.mono (Nat.le_of_lt hVw))) hhi)
      obtain ⟨a2, c2, e2, _, _, hc⟩ := hlies
      cases e2
      rcases hc with h0 | ⟨b, off, rfl, hb1, hb2, hc⟩
      · omega
      obtain ⟨s0, s1, s2, s3, s4, s5⟩ := Lies.tk hc hx
      have HX := Lib.hid hx
      have hbw : b < wr.heap.size := by have := hb.size; omega
      have l0 : (0 : Int) ≤ (k : Int) := by omega
      have l1 : (k : Int) < (tn : Int) := by omega
      clear hc hx
      obtain ⟨xb, xt, xd, xv, xlo, xtop⟩ := x
      simp only at s0 s1 s2 s3 s4 s5
      have BB := Lib.hid (below1 wr (.cells #[.bool xb, .int .i64 xt, .int .i64 xd, .int .i64 xv, .int .i64 xlo, .int .i64 xtop] 65))
      have hgl := gath_len (fun _ => true) (fun k => ofV k t false) p.ts k
      have HN := Lib.hid (gath_yes (c := fun _ => true) (g := fun k => ofV k t false) HX.out rfl)
      obtain ⟨ls, hls⟩ : ∃ ls, ls = gath (fun _ => true) (fun k => ofV k t false) p.ts k := ⟨_, rfl⟩
      rw [← hls] at HO HN hgl
      rw [← hls]
      obtain ⟨y, hy⟩ : ∃ y, y = ofV ⟨xb, xt, xd, xv, xlo, xtop⟩ t false := ⟨_, rfl⟩
      rw [← hy] at HN
      have HY := Lib.hid hy
      have HAP := Lib.hid (HO.out.hap hb.size y)
      clear hls hy
      go_wp2_with (first
        | (go_at_call 79; refine (of_any _ _ _ _ _ _ _ _ _).mono ?_; rintro e w2 ⟨rfl, hb1'⟩; rw [← HY.out]; have HB5 := Lib.hid (bel_thenD BB.out (Nat.le_refl _) hb1'); clear hb1')
        | (refine wpList_append_lie2 (by rfl) (.tmp 18) (.tmp 22) 48 (by rfl) V.heap.size 3 i0 _ 1 8 Try.underlying48 HI.out hz0 hz1 hz2 rfl (by omega) (.slice na ls.length nc) ls.length (ls.flatMap intCells) (by rfl) (HAP.out w2 HB5.out _ (by rfl)).1 (.slice (some ⟨w2.heap.size, 0, none⟩) 1 1) w2.heap.size (w2.heap.size + 1) 1 [.int .i64 y] (by rfl) (HAP.out w2 HB5.out _ (by rfl)).2.1 (in_one _) (ls.length + 1) rfl (by simp only [maxLen]; omega) (by omega) (HAP.out w2 HB5.out _ (by rfl)).2.2 ?_; intro ao cap' w6 hown6 hgrow6 hob6)
        | go_in)
      go_roundw
      case rel => exact ⟨k + 1, cap', ao, by omega, by rw [HN.out]; exact snoc_slice _ _ _ _, by go_num, Lib.hid (by rw [HN.out]; exact Ints.more hown6), ints_below HO.out hb hb.size HB5.out rfl hgrow6⟩
      case measure => simp [intOf]; omega
    · have tk : decide ((k : Int) < (tn : Int)) = false := by simp; omega
      have hgl := gath_len (fun _ => true) (fun k => ofV k t false) p.ts k
      have HG := Lib.hid (gath_end (c := fun _ => true) (g := fun k => ofV k t false) (xs := p.ts) (k := k) (by rw [HTN.out]; omega))
      obtain ⟨pre, hpre⟩ : ∃ pre, pre = gath (fun _ => true) (fun k => ofV k t false) p.ts k := ⟨_, rfl⟩
      rw [← hpre] at HO HG hgl
      rw [← hpre]
      clear hpre HT HTN
      obtain ⟨z0, z1⟩ := KS.out wr hb
      obtain ⟨wo, hwo⟩ : ∃ wo, wo = wr := ⟨_, rfl⟩
      subst hwo
      go_wp2_with fail
      clear z0 z1
      go_loopw [5, 28] (fun s i wr => ∃ (j nc : Nat) (na : Option Addr), j ≤ sn ∧ s = .slice na (pre ++ gath (fun _ => true) (fun s => servV s t) p.ss j).length nc ∧ i = .int .i64 j ∧ Hid (Ints wr V.heap.size na nc (pre ++ gath (fun _ => true) (fun s => servV s t) p.ss j)) ∧ Below V.heap.size V wr) (fun _ i _ => sn - (intOf i).toNat)
      case atStart => exact ⟨0, nc, na, by omega, by rw [gath_zero, List.append_nil], rfl, Lib.hid (by rw [gath_zero, List.append_nil]; exact HO.out), hb⟩
      case round =>
        clear hb HO
        obtain ⟨j, nc, na, hj, rfl, rfl, HO, hb⟩ := hrel
        by_cases hlt2 : j < sn
        · have tj : decide ((j : Int) < (sn : Int)) = true := by simpa using hlt2
          obtain ⟨x, hx⟩ : ∃ x, p.ss[j]? = some x := ⟨_, List.getElem?_eq_getElem (by rw [HSN.out]; exact hlt2)⟩
          have hlies := HS.out.keep (SameIn.of_below (HBV.out.trans (hb.mono (Nat.le_of_lt hVw))) hhi)
          obtain ⟨a2, c2, e2, _, _, hc⟩ := hlies
          cases e2
          rcases hc with h0 | ⟨b, off, rfl, hb1, hb2, hc⟩
          · omega
          obtain ⟨s0, s1, s2⟩ := Lies.sv hc hx
          have HX := Lib.hid hx
          have hbw : b < wr.heap.size := by have := hb.size; omega
          have l0 : (0 : Int) ≤ (j : Int) := by omega
          have l1 : (j : Int) < (sn : Int) := by omega
          clear hc hx
          obtain ⟨xr, xc, xt⟩ := x
          simp only at s0 s1 s2
          have BB := Lib.hid (below1 wr (.cells #[.bool xr, .int .i64 xc, .int .i64 xt] 91))
          have hgl2 : (pre ++ gath (fun _ => true) (fun s => servV s t) p.ss j).length ≤ 2000 := by
            have := gath_len (fun _ => true) (fun s => servV s t) p.ss j
            rw [List.length_append]; omega
          have HN : Hid (pre ++ gath (fun _ => true) (fun s => servV s t) p.ss (j + 1) = (pre ++ gath (fun _ => true) (fun s => servV s t) p.ss j) ++ [servV ⟨xr, xc, xt⟩ t]) := Lib.hid (by rw [gath_yes (c := fun _ => true) (g := fun s => servV s t) HX.out rfl, List.append_assoc])
          obtain ⟨ls, hls⟩ : ∃ ls, ls = pre ++ gath (fun _ => true) (fun s => servV s t) p.ss j := ⟨_, rfl⟩
          rw [← hls] at HO HN hgl2
          rw [← hls]
          obtain ⟨y, hy⟩ : ∃ y, y = servV ⟨xr, xc, xt⟩ t := ⟨_, rfl⟩
          rw [← hy] at HN
          have HY := Lib.hid hy
          have HAP := Lib.hid (HO.out.hap hb.size y)
          clear hls hy
          go_wp2_with (first
            | (go_at_call 80; refine (serve_any _ _ _ _ _).mono ?_; rintro e w2 ⟨rfl, hb1'⟩; rw [← HY.out]; have HB5 := Lib.hid (bel_thenD BB.out (Nat.le_refl _) hb1'); clear hb1')
            | (refine wpList_append_lie2 (by rfl) (.tmp 32) (.tmp 36) 48 (by rfl) V.heap.size 3 i0 _ 1 8 Try.underlying48 HI.out hz0 hz1 hz2 rfl (by omega) (.slice na ls.length nc) ls.length (ls.flatMap intCells) (by rfl) (HAP.out w2 HB5.out _ (by rfl)).1 (.slice (some ⟨w2.heap.size, 0, none⟩) 1 1) w2.heap.size (w2.heap.size + 1) 1 [.int .i64 y] (by rfl) (HAP.out w2 HB5.out _ (by rfl)).2.1 (in_one _) (ls.length + 1) rfl (by simp only [maxLen]; omega) (by omega) (HAP.out w2 HB5.out _ (by rfl)).2.2 ?_; intro ao cap' w6 hown6 hgrow6 hob6)
            | go_in)
          go_roundw
          case rel => exact ⟨j + 1, cap', ao, by omega, by rw [HN.out]; exact snoc_slice _ _ _ _, by go_num, Lib.hid (by rw [HN.out]; exact Ints.more hown6), ints_below HO.out hb hb.size HB5.out rfl hgrow6⟩
          case measure => simp [intOf]; omega
        · have tj : decide ((j : Int) < (sn : Int)) = false := by simp; omega
          have hgl2 : (pre ++ gath (fun _ => true) (fun s => servV s t) p.ss j).length ≤ 2000 := by
            have := gath_len (fun _ => true) (fun s => servV s t) p.ss j
            rw [List.length_append]; omega
          have HL := Lib.hid (show pre ++ gath (fun _ => true) (fun s => servV s t) p.ss j = (p.ts.filter fun _ => true).map (fun k => ofV k t false) ++ (p.ss.filter fun _ => true).map (fun s => servV s t) from by rw [HG.out, gath_end (c := fun _ => true) (g := fun s => servV s t) (xs := p.ss) (k := j) (by rw [HSN.out]; omega)])
          obtain ⟨ls, hls⟩ : ∃ ls, ls = pre ++ gath (fun _ => true) (fun s => servV s t) p.ss j := ⟨_, rfl⟩
          rw [← hls] at HO HL hgl2
          rw [← hls]
          clear hls
          go_wp2_with (first
            | (go_at_call 81; refine (total_any _ _ _ ls _ _ _ rfl HO.out.lies hgl2 (by rw [HL.out]; exact HLS.out)).mono ?_; rintro e w7 ⟨rfl, rfl⟩))
          go_ret
          exact ⟨ret_iD (by rw [HL.out]; exact HLI.out), HBV.out.trans (hb.mono (Nat.le_of_lt hVw))⟩
set_option maxRecDepth 100000 in
set_option maxHeartbeats 4000000 in
theorem high_any (ta sa da : Option Addr) (tn tc sn sc dn dc : Nat) (x0 x1 x2 : Int) (t : Int) (w : World) (hi : Nat) (p : Pt) (hp : PartAt w hi p ta sa tn tc sn sc) (ht2 : tn ≤ 20) (hs2 : sn ≤ 20) :
    Calls Try.prog 60 #[.agg #[.slice ta tn tc, .slice sa sn sc, .slice da dn dc, .int .u8 x0, .int .u8 x1, .int .u8 x2], .int .i64 t] w fun e w' => e = .returned (.int .i64 (highV p t)) ∧ Below w.heap.size w w' := by
  obtain ⟨i0, hi0, hz0, hz1, hz2⟩ := info_parts Try.infoInt
  have HI := Lib.hid hi0
  obtain ⟨htn, hsn, hts, hss, hhi⟩ := hp
  obtain ⟨V, hV⟩ : ∃ V, V = w.alloc (.cells #[.slice ta tn tc, .slice sa sn sc, .slice da dn dc, .int .u8 x0, .int .u8 x1, .int .u8 x2] 58) := ⟨_, rfl⟩
  have ks : ∀ W : World, Below V.heap.size V W → W.cell? ⟨w.heap.size, 0, none⟩ = some (.slice ta tn tc) := fun W h => by
    rw [hV] at h
    exact box_says w #[.slice ta tn tc, .slice sa sn sc, .slice da dn dc, .int .u8 x0, .int .u8 x1, .int .u8 x2] 58 W h 0 _ rfl
  have hBV : Below w.heap.size w V := by rw [hV]; exact below1 _ _
  have hVw : w.heap.size < V.heap.size := by rw [hV]; simp
  have HVE : Hid (V.heap.size = w.heap.size + 1) := Lib.hid (by rw [hV]; simp)
  have HT := Lib.hid hts; have HTN := Lib.hid htn
  have HV := Lib.hid hV; have HBV := Lib.hid hBV; have KS := Lib.hid ks
  have HLI := Lib.hid (high_is p t); have HLS := Lib.hid (high_small p t)
  have hmk : ∀ W : World, (Instr.makeSlice 48 (.int .i64 0) (.int .i64 9)).run Try.prog W = .ok (.slice (some ⟨W.heap.size, 0, none⟩) 0 9) (W.alloc (.cells #[.int .i64 0, .int .i64 0, .int .i64 0, .int .i64 0, .int .i64 0, .int .i64 0, .int .i64 0, .int .i64 0, .int .i64 0] 3)) := fun _ => by kernel_rfl
  have H1 := Lib.hid (Ints.made (heap_alloc_new V (.cells #[.int .i64 0, .int .i64 0, .int .i64 0, .int .i64 0, .int .i64 0, .int .i64 0, .int .i64 0, .int .i64 0, .int .i64 0] 3)) rfl (Nat.le_refl _))
  have HB0 := Lib.hid (below1 V (.cells #[.int .i64 0, .int .i64 0, .int .i64 0, .int .i64 0, .int .i64 0, .int .i64 0, .int .i64 0, .int .i64 0, .int .i64 0] 3))
  have z0 := ks _ HB0.out
  clear hV hBV ks hts hss htn hsn hi0
  go_enter Try.func60, Try.ntmps60
  go_wp2_with fail
  rw [← HV.out]
  go_wp2_with fail
  clear z0 hmk
  go_loopw [5, 12] (fun s i wr => ∃ (k nc : Nat) (na : Option Addr), k ≤ tn ∧ s = .slice na (gath (fun _ => true) (fun k => ofV k t true) p.ts k).length nc ∧ i = .int .i64 k ∧ Hid (Ints wr V.heap.size na nc (gath (fun _ => true) (fun k => ofV k t true) p.ts k)) ∧ Below V.heap.size V wr) (fun _ i _ => tn - (intOf i).toNat)
  case atStart => exact ⟨0, 9, some ⟨V.heap.size, 0, none⟩, by omega, by rw [HVE.out]; rfl, rfl, Lib.hid H1.out, HB0.out⟩
  case round =>
    obtain ⟨k, nc, na, hk, rfl, rfl, HO, hb⟩ := hrel
    by_cases hlt : k < tn
    · have tk : decide ((k : Int) < (tn : Int)) = true := by simpa using hlt
      obtain ⟨x, hx⟩ : ∃ x, p.ts[k]? = some x := ⟨_, List.getElem?_eq_getElem (by rw [HTN.out]; exact hlt)⟩
      have hlies := HT.out.keep (SameIn.of_below (HBV.out.trans (hb.mono (Nat.le_of_lt hVw))) hhi)
      obtain ⟨a2, c2, e2, _, _, hc⟩ := hlies
      cases e2
      rcases hc with h0 | ⟨b, off, rfl, hb1, hb2, hc⟩
      · omega
      obtain ⟨s0, s1, s2, s3, s4, s5⟩ := Lies.tk hc hx
      have HX := Lib.hid hx
      have hbw : b < wr.heap.size := by have := hb.size; omega
      have l0 : (0 : Int) ≤ (k : Int) := by omega
      have l1 : (k : Int) < (tn : Int) := by omega
      clear hc hx
      obtain ⟨xb, xt, xd, xv, xlo, xtop⟩ := x
      simp only at s0 s1 s2 s3 s4 s5
      have BB := Lib.hid (below1 wr (.cells #[.bool xb, .int .i64 xt, .int .i64 xd, .int .i64 xv, .int .i64 xlo, .int .i64 xtop] 65))
      have hgl := gath_len (fun _ => true) (fun k => ofV k t true) p.ts k
      have HN := Lib.hid (gath_yes (c := fun _ => true) (g := fun k => ofV k t true) HX.out rfl)
      obtain ⟨ls, hls⟩ : ∃ ls, ls = gath (fun _ => true) (fun k => ofV k t true) p.ts k := ⟨_, rfl⟩
      rw [← hls] at HO HN hgl
      rw [← hls]
      obtain ⟨y, hy⟩ : ∃ y, y = ofV ⟨xb, xt, xd, xv, xlo, xtop⟩ t true := ⟨_, rfl⟩
      rw [← hy] at HN
      have HY := Lib.hid hy
      have HAP := Lib.hid (HO.out.hap hb.size y)
      clear hls hy
      go_wp2_with (first
        | (go_at_call 79; refine (of_any _ _ _ _ _ _ _ _ _).mono ?_; rintro e w2 ⟨rfl, hb1'⟩; rw [← HY.out]; have HB5 := Lib.hid (bel_thenD BB.out (Nat.le_refl _) hb1'); clear hb1')
        | (refine wpList_append_lie2 (by rfl) (.tmp 16) (.tmp 20) 48 (by rfl) V.heap.size 3 i0 _ 1 8 Try.underlying48 HI.out hz0 hz1 hz2 rfl (by omega) (.slice na ls.length nc) ls.length (ls.flatMap intCells) (by rfl) (HAP.out w2 HB5.out _ (by rfl)).1 (.slice (some ⟨w2.heap.size, 0, none⟩) 1 1) w2.heap.size (w2.heap.size + 1) 1 [.int .i64 y] (by rfl) (HAP.out w2 HB5.out _ (by rfl)).2.1 (in_one _) (ls.length + 1) rfl (by simp only [maxLen]; omega) (by omega) (HAP.out w2 HB5.out _ (by rfl)).2.2 ?_; intro ao cap' w6 hown6 hgrow6 hob6)
        | go_in)
      go_roundw
      case rel => exact ⟨k + 1, cap', ao, by omega, by rw [HN.out]; exact snoc_slice _ _ _ _, by go_num, Lib.hid (by rw [HN.out]; exact Ints.more hown6), ints_below HO.out hb hb.size HB5.out rfl hgrow6⟩
      case measure => simp [intOf]; omega
    · have tk : decide ((k : Int) < (tn : Int)) = false := by simp; omega
      have hgl2 : (gath (fun _ => true) (fun k => ofV k t true) p.ts k).length ≤ 2000 := by
        have := gath_len (fun _ => true) (fun k => ofV k t true) p.ts k
        omega
      have HL := Lib.hid (gath_end (c := fun _ => true) (g := fun k => ofV k t true) (xs := p.ts) (k := k) (by rw [HTN.out]; omega))
      obtain ⟨ls, hls⟩ : ∃ ls, ls = gath (fun _ => true) (fun k => ofV k t true) p.ts k := ⟨_, rfl⟩
      rw [← hls] at HO HL hgl2
      rw [← hls]
      clear hls HT HTN
      go_wp2_with (first
        | (go_at_call 81; refine (total_any _ _ _ ls _ _ _ rfl HO.out.lies hgl2 (by rw [HL.out]; exact HLS.out)).mono ?_; rintro e w7 ⟨rfl, rfl⟩))
      go_ret
      exact ⟨ret_iD (by rw [HL.out]; exact HLI.out), HBV.out.trans (hb.mono (Nat.le_of_lt hVw))⟩
end Go.Proofs.Ytdbbdlobahalkaa
namespace Go.Proofs.Ytdbbdlobahalkaa
open Go.ChangeShapes Go.WideShapes Go.ChangeAt Go.RowKit
set_option linter.unusedVariables false
attribute [local go_sem ↓] Go.wp_at_zero Go.wp_at_succ

theorem ints_below2 {V wr w5 w6 : World} {B : Nat} {a : Option Addr} {cap : Nat} {ls : List Int} {o : Obj} (h : Ints wr B a cap ls) (hb : Below B V wr) (hB : B ≤ wr.heap.size) (h5 : Below wr.heap.size wr w5) (hg : (w5.alloc o).drew.grownBy w6 (Value.slice a ls.length cap).ownBlock) : Below B V w6 := by
  have h15 : Below B V w5 := hb.trans (h5.mono hB)
  exact ((h15.alloc (Nat.le_trans hB h5.size) o).drew).grown hg (by simp [World.drew]; exact Nat.le_succ_of_le (Nat.le_trans hB h5.size)) (fun q hq => (owns_own h q hq).1)
theorem obj_alloc {w : World} {X : Nat} {o : Obj} (h : w.heap[X]? = some o) (o' : Obj) : (w.alloc o').heap[X]? = some o := by
  rw [heap_at, if_neg (by intro e; subst e; rw [Array.getElem?_eq_none (Nat.le_refl _)] at h; cases h)]
  exact h
end Go.Proofs.Ytdbbdlobahalkaa
