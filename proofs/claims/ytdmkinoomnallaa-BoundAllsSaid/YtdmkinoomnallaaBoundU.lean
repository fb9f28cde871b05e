/- The program's Rate of package demand. -/
import Derived.Test.YtdmkinoomnallaaBoundT
namespace Go.Proofs.Ytdmkinoomnallaa
open Go.ChangeShapes Go.WideShapes Go.ChangeAt Go.RowKit
set_option linter.unusedVariables false
attribute [local go_sem ↓] Go.wp_at_zero Go.wp_at_succ

theorem ints_below2 {V wr w5 w6 : World} {B : Nat} {a : Option Addr} {cap : Nat} {ls : List Int} {o : Obj} (h : Ints wr B a cap ls) (hb : Below B V wr) (hB : B ≤ wr.heap.size) (h5 : Below wr.heap.size wr w5) (hg : (w5.alloc o).drew.grownBy w6 (Value.slice a ls.length cap).ownBlock) : Below B V w6 := by
  have h15 : Below B V w5 := hb.trans (h5.mono hB)
  exact ((h15.alloc (Nat.le_trans hB h5.size) o).drew).grown hg (by simp [World.drew]; exact Nat.le_succ_of_le (Nat.le_trans hB h5.size)) (fun q hq => (owns_own h q hq).1)
theorem obj_alloc {w : World} {X : Nat} {o : Obj} (h : w.heap[X]? = some o) (o' : Obj) : (w.alloc o').heap[X]? = some o := by
  rw [heap_at, if_neg (by intro e; subst e; rw [Array.getElem?_eq_none (Nat.le_refl _)] at h; cases h)]
  exact h
set_option maxRecDepth 100000 in
set_option maxHeartbeats 4000000 in
theorem rate_any (ta sa da : Option Addr) (tn tc sn sc dn dc : Nat) (x0 x1 x2 : Int) (t : Int) (high : Bool) (w : World) (hi : Nat) (p : Pt) (hp : PartAt w hi p ta sa tn tc sn sc) (ht2 : tn ≤ 20) (hs2 : sn ≤ 20) :
    Calls Try.prog 20 #[.int .i64 t, .agg #[.slice ta tn tc, .slice sa sn sc, .slice da dn dc, .int .u8 x0, .int .u8 x1, .int .u8 x2], .bool high] w fun e w' => e = .returned (.int .i64 (rateV t p high)) ∧ Below w.heap.size w w' := by
  obtain ⟨i0, hi0, hz0, hz1, hz2⟩ := info_parts Try.infoInt
  have HI := Lib.hid hi0
  obtain ⟨htn, hsn, hts, hss, hhi⟩ := hp
  obtain ⟨V, hV⟩ : ∃ V, V = w.alloc (.cells #[.slice ta tn tc, .slice sa sn sc, .slice da dn dc, .int .u8 x0, .int .u8 x1, .int .u8 x2] 33) := ⟨_, rfl⟩
  have ks : ∀ W : World, Below V.heap.size V W → W.cell? ⟨w.heap.size, 0, none⟩ = some (.slice ta tn tc) ∧ W.cell? ⟨w.heap.size, 1, none⟩ = some (.slice sa sn sc) := fun W h => by
    rw [hV] at h
    have k := box_says w #[.slice ta tn tc, .slice sa sn sc, .slice da dn dc, .int .u8 x0, .int .u8 x1, .int .u8 x2] 33 W h
    exact ⟨k 0 _ rfl, k 1 _ rfl⟩
  have hBV : Below w.heap.size w V := by rw [hV]; exact below1 _ _
  have hVw : w.heap.size < V.heap.size := by rw [hV]; simp
  have HVE : Hid (V.heap.size = w.heap.size + 1) := Lib.hid (by rw [hV]; simp)
  have HT := Lib.hid hts; have HS := Lib.hid hss; have HTN := Lib.hid htn; have HSN := Lib.hid hsn
  have HV := Lib.hid hV; have HBV := Lib.hid hBV; have KS := Lib.hid ks
  obtain ⟨n0, n1⟩ := cutT_in t
  have HLI := Lib.hid (rate_is t p high); have HLS := Lib.hid (rate_small (cutT t) p high n0 n1)
  have HH : Hid (min (max t 0) 1099511627776 = cutT t) := Lib.hid rfl
  obtain ⟨N, hN⟩ : ∃ N, N = cutT t := ⟨_, rfl⟩
  rw [← hN] at HLI HLS HH n0 n1
  clear hN
  have hmk : ∀ W : World, (Instr.makeSlice 24 (.int .i64 0) (.int .i64 9)).run Try.prog W = .ok (.slice (some ⟨W.heap.size, 0, none⟩) 0 9) (W.alloc (.cells #[.int .i64 0, .int .i64 0, .int .i64 0, .int .i64 0, .int .i64 0, .int .i64 0, .int .i64 0, .int .i64 0, .int .i64 0] 3)) := fun _ => by kernel_rfl
  have H1 := Lib.hid (Ints.made (heap_alloc_new V (.cells #[.int .i64 0, .int .i64 0, .int .i64 0, .int .i64 0, .int .i64 0, .int .i64 0, .int .i64 0, .int .i64 0, .int .i64 0] 3)) rfl (Nat.le_refl _))
  have HB0 := Lib.hid (below1 V (.cells #[.int .i64 0, .int .i64 0, .int .i64 0, .int .i64 0, .int .i64 0, .int .i64 0, .int .i64 0, .int .i64 0, .int .i64 0] 3))
  obtain ⟨z0, z1⟩ := ks _ HB0.out
  clear hV hBV ks hts hss htn hsn hi0
  go_enter Try.func20, Try.ntmps20
  go_wp2_with (first | (go_at_call 33; rw [← HV.out]; refine (heldD_any _ 1099511627776 _ (by omega)).mono ?_; rintro e w2 ⟨rfl, rfl⟩; rw [HH.out]))
  clear z0 z1 hmk
  go_loopw [7, 18] (fun s i wr => ∃ (k nc : Nat) (na : Option Addr), k ≤ tn ∧ s = .slice na (gath (cntT high) (ratT N high) p.ts k).length nc ∧ i = .int .i64 k ∧ Hid (Ints wr V.heap.size na nc (gath (cntT high) (ratT N high) p.ts k)) ∧ Below V.heap.size V wr) (fun _ i _ => tn - (intOf i).toNat)
  case atStart => exact ⟨0, 9, some ⟨V.heap.size, 0, none⟩, by omega, rfl, rfl, Lib.hid H1.out, HB0.out⟩
  case round =>
    obtain ⟨k, nc, na, hk, rfl, rfl, HO, hb⟩ := hrel
    by_cases hlt : k < tn
    · have tk : decide ((k : Int) < (tn : Int)) = true := by simpa using hlt
      obtain ⟨x, hx⟩ : ∃ x, p.ts[k]? = some x := ⟨_, List.getElem?_eq_getElem (by rw [HTN.out]; exact hlt)⟩
      have hlies := HT.out.keep (SameIn.of_below (HBV.out.trans (hb.mono (Nat.le_of_lt hVw))) hhi)
      obtain ⟨a2, c2, e2, _, _, hc⟩ := hlies
      cases e2
      rcases hc with h0 | ⟨b, off, rfl, hb1, hb2, hc⟩
      · omega
      obtain ⟨s0, s1, s2, s3, s4, s5⟩ := Lies.tk hc hx
      have HX := Lib.hid hx
      have hbw : b < wr.heap.size := by have := hb.size; omega
      have l0 : (0 : Int) ≤ (k : Int) := by omega
      have l1 : (k : Int) < (tn : Int) := by omega
      clear hc hx
      obtain ⟨xb, xt, xd, xv, xlo, xtop⟩ := x
      simp only at s0 s1 s2 s3 s4 s5
      obtain ⟨B, hB⟩ : ∃ B, B = wr.alloc (.cells #[.bool xb, .int .i64 xt, .int .i64 xd, .int .i64 xv, .int .i64 xlo, .int .i64 xtop] 60) := ⟨_, rfl⟩
      have hBB := below1 wr (.cells #[.bool xb, .int .i64 xt, .int .i64 xd, .int .i64 xv, .int .i64 xlo, .int .i64 xtop] 60)
      rw [← hB] at hBB
      have KB : Hid (∀ W : World, W.heap[wr.heap.size]? = some (.cells #[.bool xb, .int .i64 xt, .int .i64 xd, .int .i64 xv, .int .i64 xlo, .int .i64 xtop] 60 (0, 0)) → W.heap[wr.heap.size]? = some (.cells #[.bool xb, .int .i64 xt, .int .i64 xd, .int .i64 xv, .int .i64 xlo, .int .i64 xtop] 60 (0, 0)) ∧ W.cell? ⟨wr.heap.size, 0, none⟩ = some (.bool xb) ∧ W.cell? ⟨wr.heap.size, 1, none⟩ = some (.int .i64 xt) ∧ W.cell? ⟨wr.heap.size, 2, none⟩ = some (.int .i64 xd) ∧ W.cell? ⟨wr.heap.size, 3, none⟩ = some (.int .i64 xv) ∧ W.cell? ⟨wr.heap.size, 4, none⟩ = some (.int .i64 xlo) ∧ W.cell? ⟨wr.heap.size, 5, none⟩ = some (.int .i64 xtop)) := Lib.hid fun W h => ⟨h, cell_in h rfl, cell_in h rfl, cell_in h rfl, cell_in h rfl, cell_in h rfl, cell_in h rfl⟩
      have KO : Hid (∀ W : World, Below B.heap.size B W → W.heap[wr.heap.size]? = some (.cells #[.bool xb, .int .i64 xt, .int .i64 xd, .int .i64 xv, .int .i64 xlo, .int .i64 xtop] 60 (0, 0))) := Lib.hid fun W h => (h.block wr.heap.size (by rw [hB]; simp)).trans (by rw [hB]; exact heap_alloc_new _ _)
      have BB := Lib.hid hBB
      have HB := Lib.hid hB
      clear hBB hB
      have hgl := gath_len (cntT high) (ratT N high) p.ts k
      cases hok : cntT high ⟨xb, xt, xd, xv, xlo, xtop⟩ with
      | true =>
        have HN := Lib.hid (gath_yes (c := cntT high) (g := ratT N high) HX.out hok)
        have hrb := ratT_bd (N := N) hok n0 n1
        have hkt : okTk ⟨xb, xt, xd, xv, xlo, xtop⟩ = true := by unfold cntT at hok; rw [Bool.and_eq_true] at hok; exact hok.1
        obtain ⟨a1, a2, a3, a4, a5, a6, a7, a8⟩ := okTk_t hkt
        simp only at a1 a2 a3 a4 a5 a6 a7
        have HOK : Hid ((okTk ⟨xb, xt, xd, xv, xlo, xtop⟩ && (xb || !high)) = true) := Lib.hid hok
        obtain ⟨e1, q0, q1⟩ := divT (n := N) (t := xt) n0 (by omega)
        obtain ⟨q, hq⟩ : ∃ q, q = N / xt := ⟨_, rfl⟩
        have HR : Hid (ratT N high ⟨xb, xt, xd, xv, xlo, xtop⟩ = q * budT high ⟨xb, xt, xd, xv, xlo, xtop⟩) := Lib.hid (by rw [hq]; rfl)
        rw [HR.out] at hrb
        rw [← hq] at e1 q0 q1
        have e3 := hq.symm
        clear hok hkt hq a8
        obtain ⟨bd, hbd⟩ : ∃ bd, bd = budT high ⟨xb, xt, xd, xv, xlo, xtop⟩ := ⟨_, rfl⟩
        rw [← hbd] at HR hrb
        have HBD := Lib.hid hbd
        rw [HR.out] at HN
        obtain ⟨ls, hls⟩ : ∃ ls, ls = gath (cntT high) (ratT N high) p.ts k := ⟨_, rfl⟩
        rw [← hls] at HO HN hgl
        rw [← hls]
        have HAP := Lib.hid (HO.out.hap hb.size (q * bd))
        have nz : (xt == 0) = false := by simp; omega
        have nz2 : ¬ xt = 0 := by omega
        have S1 : IntKind.i64.wrap (q * bd) = q * bd := IntWalk.i64_in _ (by omega)
        have S2 : IntKind.i64.wrap q = q := IntWalk.i64_in _ (by omega)
        clear hls hbd
        go_wp2_with (first
          | (go_at_call 34; rw [← HB.out]; refine (counts_any _ _ _ _ _ _ _ _).mono ?_; rintro e w2 ⟨rfl, hb1'⟩; rw [HOK.out]; have HB5 := Lib.hid hb1'; clear hb1'))
        have ho5 := KO.out _ HB5.out
        go_region_held3 (fun W => W.heap[wr.heap.size]? = some (.cells #[.bool xb, .int .i64 xt, .int .i64 xd, .int .i64 xv, .int .i64 xlo, .int .i64 xtop] 60 (0, 0)) ∧ W.cell? ⟨wr.heap.size, 0, none⟩ = some (.bool xb) ∧ W.cell? ⟨wr.heap.size, 1, none⟩ = some (.int .i64 xt) ∧ W.cell? ⟨wr.heap.size, 2, none⟩ = some (.int .i64 xd) ∧ W.cell? ⟨wr.heap.size, 3, none⟩ = some (.int .i64 xv) ∧ W.cell? ⟨wr.heap.size, 4, none⟩ = some (.int .i64 xlo) ∧ W.cell? ⟨wr.heap.size, 5, none⟩ = some (.int .i64 xtop))
          (first | exact KB.out _ (by assumption) | exact KB.out _ ho5 | exact KB.out _ (obj_alloc (by assumption) _))
          (first
            | (go_at_call 35; refine (budget_any _ _ _ _ _ _ _ _).mono ?_; rintro e w3 ⟨rfl, hb3⟩; rw [← HBD.out]; have HB7 := Lib.hid (bel_thenD HB5.out.drew (Nat.le_refl _) hb3); have ho7 := KO.out _ HB7.out; have HB6 := Lib.hid (bel_thenD BB.out (Nat.le_refl _) HB7.out))
            | (refine step_append_lie2 (by rfl) (.tmp 25) (.tmp 34) 24 (by rfl) V.heap.size 3 i0 _ 1 8 Try.underlying24 HI.out hz0 hz1 hz2 rfl (by omega) (.slice na ls.length nc) ls.length (ls.flatMap intCells) (by rfl) (HAP.out w3 HB6.out _ (by rfl)).1 (.slice (some ⟨w3.heap.size, 0, none⟩) 1 1) w3.heap.size (w3.heap.size + 1) 1 [.int .i64 (q * bd)] (by rfl) (HAP.out w3 HB6.out _ (by rfl)).2.1 (in_one _) (ls.length + 1) rfl (by simp only [maxLen]; omega) (by omega) (HAP.out w3 HB6.out _ (by rfl)).2.2 ?_; intro ao cap' w6 hown6 hgrow6 hob6; have ho8 := grown_keep hgrow6 (HAP.out w3 HB6.out _ (by rfl)).1 (obj_alloc ho7 _) (by decide))
            | fail "no arm")
        all_goals go_wp2_with fail
        all_goals go_roundw
        case rel => exact ⟨k + 1, cap', ao, by omega, by rw [HN.out]; exact snoc_slice _ _ _ _, by go_num, Lib.hid (by rw [HN.out]; exact Ints.more hown6), ints_below HO.out hb hb.size HB6.out rfl hgrow6⟩
        case measure => simp [intOf]; omega
      | false =>
        have HN := Lib.hid (gath_no (c := cntT high) (g := ratT N high) HX.out hok)
        have HOK : Hid ((okTk ⟨xb, xt, xd, xv, xlo, xtop⟩ && (xb || !high)) = false) := Lib.hid hok
        clear hok
        obtain ⟨ls, hls⟩ : ∃ ls, ls = gath (cntT high) (ratT N high) p.ts k := ⟨_, rfl⟩
        rw [← hls] at HO HN hgl
        rw [← hls]
        clear hls
        go_wp2_with (first
          | (go_at_call 34; rw [← HB.out]; refine (counts_any _ _ _ _ _ _ _ _).mono ?_; rintro e w2 ⟨rfl, hb1'⟩; rw [HOK.out]; have HB5 := Lib.hid (bel_thenD BB.out (Nat.le_refl _) hb1'); clear hb1'))
        go_roundw
        case rel => exact ⟨k + 1, nc, na, by omega, by rw [HN.out], by go_num, Lib.hid (by rw [HN.out]; exact HO.out.later HB5.out), hb.trans (HB5.out.mono hb.size)⟩
        case measure => simp [intOf]; omega
    · have tk : decide ((k : Int) < (tn : Int)) = false := by simp; omega
      have hgl := gath_len (cntT high) (ratT N high) p.ts k
      have HG := Lib.hid (gath_end (c := cntT high) (g := ratT N high) (xs := p.ts) (k := k) (by rw [HTN.out]; omega))
      obtain ⟨pre, hpre⟩ : ∃ pre, pre = gath (cntT high) (ratT N high) p.ts k := ⟨_, rfl⟩
      rw [← hpre] at HO HG hgl
      rw [← hpre]
      clear hpre HT HTN
      obtain ⟨z0, z1⟩ := KS.out wr hb
      obtain ⟨wo, hwo⟩ : ∃ wo, wo = wr := ⟨_, rfl⟩
      subst hwo
      go_wp2_with fail
      clear z0 z1
      go_loopw [7, 40] (fun s i wr => ∃ (j nc : Nat) (na : Option Addr), j ≤ sn ∧ s = .slice na (pre ++ gath (cntS high) (ratS N) p.ss j).length nc ∧ i = .int .i64 j ∧ Hid (Ints wr V.heap.size na nc (pre ++ gath (cntS high) (ratS N) p.ss j)) ∧ Below V.heap.size V wr) (fun _ i _ => sn - (intOf i).toNat)
      case atStart => exact ⟨0, nc, na, by omega, by rw [gath_zero, List.append_nil], rfl, Lib.hid (by rw [gath_zero, List.append_nil]; exact HO.out), hb⟩
      case round =>
        clear hb HO
        obtain ⟨j, nc, na, hj, rfl, rfl, HO, hb⟩ := hrel
        by_cases hlt2 : j < sn
        · have tj : decide ((j : Int) < (sn : Int)) = true := by simpa using hlt2
          obtain ⟨x, hx⟩ : ∃ x, p.ss[j]? = some x := ⟨_, List.getElem?_eq_getElem (by rw [HSN.out]; exact hlt2)⟩
          have hlies := HS.out.keep (SameIn.of_below (HBV.out.trans (hb.mono (Nat.le_of_lt hVw))) hhi)
          obtain ⟨a2, c2, e2, _, _, hc⟩ := hlies
          cases e2
          rcases hc with h0 | ⟨b, off, rfl, hb1, hb2, hc⟩
          · omega
          obtain ⟨s0, s1, s2⟩ := Lies.sv hc hx
          have HX := Lib.hid hx
          have hbw : b < wr.heap.size := by have := hb.size; omega
          have l0 : (0 : Int) ≤ (j : Int) := by omega
          have l1 : (j : Int) < (sn : Int) := by omega
          clear hc hx
          obtain ⟨xr, xc, xt⟩ := x
          simp only at s0 s1 s2
          obtain ⟨B, hB⟩ : ∃ B, B = wr.alloc (.cells #[.bool xr, .int .i64 xc, .int .i64 xt] 63) := ⟨_, rfl⟩
          have hBB := below1 wr (.cells #[.bool xr, .int .i64 xc, .int .i64 xt] 63)
          rw [← hB] at hBB
          have KB : Hid (∀ W : World, W.heap[wr.heap.size]? = some (.cells #[.bool xr, .int .i64 xc, .int .i64 xt] 63 (0, 0)) → W.heap[wr.heap.size]? = some (.cells #[.bool xr, .int .i64 xc, .int .i64 xt] 63 (0, 0)) ∧ W.cell? ⟨wr.heap.size, 0, none⟩ = some (.bool xr) ∧ W.cell? ⟨wr.heap.size, 1, none⟩ = some (.int .i64 xc) ∧ W.cell? ⟨wr.heap.size, 2, none⟩ = some (.int .i64 xt)) := Lib.hid fun W h => ⟨h, cell_in h rfl, cell_in h rfl, cell_in h rfl⟩
          have KO : Hid (∀ W : World, Below B.heap.size B W → W.heap[wr.heap.size]? = some (.cells #[.bool xr, .int .i64 xc, .int .i64 xt] 63 (0, 0))) := Lib.hid fun W h => (h.block wr.heap.size (by rw [hB]; simp)).trans (by rw [hB]; exact heap_alloc_new _ _)
          have BB := Lib.hid hBB
          have HB := Lib.hid hB
          clear hBB hB
          have hgl2 : (pre ++ gath (cntS high) (ratS N) p.ss j).length ≤ 2000 := by
            have := gath_len (cntS high) (ratS N) p.ss j
            rw [List.length_append]; omega
          by_cases hok : cntS high ⟨xr, xc, xt⟩ = true
          · have HN : Hid (pre ++ gath (cntS high) (ratS N) p.ss (j + 1) = (pre ++ gath (cntS high) (ratS N) p.ss j) ++ [ratS N ⟨xr, xc, xt⟩]) := Lib.hid (by rw [gath_yes (c := cntS high) (g := ratS N) HX.out hok, List.append_assoc])
            have hrb := ratS_bd (N := N) hok n0 n1
            obtain ⟨hkt, hhi2⟩ : okSv ⟨xr, xc, xt⟩ = true ∧ high = false := by unfold cntS at hok; rw [Bool.and_eq_true] at hok; exact ⟨hok.1, by simpa using hok.2⟩
            subst hhi2
            obtain ⟨a1, a2, a3⟩ := okSv_t hkt
            simp only at a1 a2 a3
            have HOK := Lib.hid hkt
            obtain ⟨e1, q0, q1⟩ := divT (n := N) (t := xt) n0 (by omega)
            obtain ⟨q, hq⟩ : ∃ q, q = N / xt := ⟨_, rfl⟩
            have HR : Hid (ratS N ⟨xr, xc, xt⟩ = q * xc) := Lib.hid (by rw [hq]; rfl)
            rw [HR.out] at hrb
            rw [← hq] at e1 q0 q1
            have e3 := hq.symm
            clear hok hkt hq
            rw [HR.out] at HN
            obtain ⟨ls, hls⟩ : ∃ ls, ls = pre ++ gath (cntS false) (ratS N) p.ss j := ⟨_, rfl⟩
            rw [← hls] at HO HN hgl2
            rw [← hls]
            have HAP := Lib.hid (HO.out.hap hb.size (q * xc))
            have nz : (xt == 0) = false := by simp; omega
            have nz2 : ¬ xt = 0 := by omega
            have S1 : IntKind.i64.wrap (q * xc) = q * xc := IntWalk.i64_in _ (by omega)
            have S2 : IntKind.i64.wrap q = q := IntWalk.i64_in _ (by omega)
            clear hls
            go_wp2_with (first
              | (go_at_call 36; rw [← HB.out]; refine (serverRight_any _ _ _ _).mono ?_; rintro e w2 ⟨rfl, hb1'⟩; rw [HOK.out]; have HB5 := Lib.hid hb1'; clear hb1'))
            have ho5 := KO.out _ HB5.out
            have HB6 := Lib.hid (bel_thenD BB.out (Nat.le_refl _) HB5.out)
            go_region_held3 (fun W => W.heap[wr.heap.size]? = some (.cells #[.bool xr, .int .i64 xc, .int .i64 xt] 63 (0, 0)) ∧ W.cell? ⟨wr.heap.size, 0, none⟩ = some (.bool xr) ∧ W.cell? ⟨wr.heap.size, 1, none⟩ = some (.int .i64 xc) ∧ W.cell? ⟨wr.heap.size, 2, none⟩ = some (.int .i64 xt))
              (first | exact KB.out _ (by assumption) | exact KB.out _ ho5 | exact KB.out _ (obj_alloc ho5 _) | exact KB.out _ (obj_alloc (by assumption) _))
              (first
                | (refine step_append_lie2 (by rfl) (.tmp 50) (.tmp 58) 24 (by rfl) V.heap.size 3 i0 _ 1 8 Try.underlying24 HI.out hz0 hz1 hz2 rfl (by omega) (.slice na ls.length nc) ls.length (ls.flatMap intCells) (by rfl) (HAP.out w2 HB6.out _ (by rfl)).1 (.slice (some ⟨w2.heap.size, 0, none⟩) 1 1) w2.heap.size (w2.heap.size + 1) 1 [.int .i64 (q * xc)] (by rfl) (HAP.out w2 HB6.out _ (by rfl)).2.1 (in_one _) (ls.length + 1) rfl (by simp only [maxLen]; omega) (by omega) (HAP.out w2 HB6.out _ (by rfl)).2.2 ?_; intro ao cap' w6 hown6 hgrow6 hob6; have ho8 := grown_keep hgrow6 (HAP.out w2 HB6.out _ (by rfl)).1 (obj_alloc ho5 _) (by decide))
                | fail "no arm")
            all_goals go_wp2_with fail
            all_goals go_roundw
            case rel => exact ⟨j + 1, cap', ao, by omega, by rw [HN.out]; exact snoc_slice _ _ _ _, by go_num, Lib.hid (by rw [HN.out]; exact Ints.more hown6), ints_below2 HO.out hb hb.size HB6.out hgrow6⟩
            case measure => simp [intOf]; omega
          · have hok' : cntS high ⟨xr, xc, xt⟩ = false := by simpa using hok
            have HN : Hid (pre ++ gath (cntS high) (ratS N) p.ss (j + 1) = pre ++ gath (cntS high) (ratS N) p.ss j) := Lib.hid (by rw [gath_no (c := cntS high) (g := ratS N) HX.out hok'])
            obtain ⟨ls, hls⟩ : ∃ ls, ls = pre ++ gath (cntS high) (ratS N) p.ss j := ⟨_, rfl⟩
            rw [← hls] at HO HN hgl2
            rw [← hls]
            clear hls hok
            have hc2 : okSv ⟨xr, xc, xt⟩ = false ∨ (okSv ⟨xr, xc, xt⟩ = true ∧ high = true) := by unfold cntS at hok'; cases h1 : okSv ⟨xr, xc, xt⟩ <;> cases h2 : high <;> simp_all
            clear hok'
            rcases hc2 with hs | ⟨hs, rfl⟩
            · have HOK := Lib.hid hs
              clear hs
              go_wp2_with (first
                | (go_at_call 36; rw [← HB.out]; refine (serverRight_any _ _ _ _).mono ?_; rintro e w2 ⟨rfl, hb1'⟩; rw [HOK.out]; have HB5 := Lib.hid (bel_thenD BB.out (Nat.le_refl _) hb1'); clear hb1'))
              go_roundw
              case rel => exact ⟨j + 1, nc, na, by omega, by rw [HN.out], by go_num, Lib.hid (by rw [HN.out]; exact HO.out.later HB5.out), hb.trans (HB5.out.mono hb.size)⟩
              case measure => simp [intOf]; omega
            · have HOK := Lib.hid hs
              clear hs
              go_wp2_with (first
                | (go_at_call 36; rw [← HB.out]; refine (serverRight_any _ _ _ _).mono ?_; rintro e w2 ⟨rfl, hb1'⟩; rw [HOK.out]; have HB5 := Lib.hid (bel_thenD BB.out (Nat.le_refl _) hb1'); clear hb1'))
              go_roundw
              case rel => exact ⟨j + 1, nc, na, by omega, by rw [HN.out], by go_num, Lib.hid (by rw [HN.out]; exact HO.out.later HB5.out), hb.trans (HB5.out.mono hb.size)⟩
              case measure => simp [intOf]; omega
        · have tj : decide ((j : Int) < (sn : Int)) = false := by simp; omega
          have hgl2 : (pre ++ gath (cntS high) (ratS N) p.ss j).length ≤ 2000 := by
            have := gath_len (cntS high) (ratS N) p.ss j
            rw [List.length_append]; omega
          have HL := Lib.hid (show pre ++ gath (cntS high) (ratS N) p.ss j = (p.ts.filter (cntT high)).map (ratT N high) ++ (p.ss.filter (cntS high)).map (ratS N) from by rw [HG.out, gath_end (c := cntS high) (g := ratS N) (xs := p.ss) (k := j) (by rw [HSN.out]; omega)])
          obtain ⟨ls, hls⟩ : ∃ ls, ls = pre ++ gath (cntS high) (ratS N) p.ss j := ⟨_, rfl⟩
          rw [← hls] at HO HL hgl2
          rw [← hls]
          clear hls
          go_wp2_with (first
            | (go_at_call 32; refine (total_any _ _ _ ls _ _ _ rfl HO.out.lies hgl2 (by rw [HL.out]; exact HLS.out)).mono ?_; rintro e w7 ⟨rfl, rfl⟩))
          go_ret
          exact ⟨ret_iD (by rw [HL.out]; exact HLI.out), HBV.out.trans (hb.mono (Nat.le_of_lt hVw))⟩
end Go.Proofs.Ytdmkinoomnallaa
