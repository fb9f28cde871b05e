/- Joined of BoundR, BoundS: The document's Lcm, Hyper, Far and Of. -/
import Derived.Test.YtdbbdlobahalkaaBoundProg
import Derived.Deep.QuietTactic
import Derived.BigQuiet
import Derived.WalkSmall
namespace Go.Proofs.Ytdbbdlobahalkaa
open Go.ChangeShapes Go.WideShapes Go.ChangeAt Go.RowKit
set_option linter.unusedVariables false
attribute [local go_sem ↓] Go.wp_at_zero Go.wp_at_succ

set_option maxRecDepth 100000 in
set_option maxHeartbeats 2000000 in
theorem refLcm_row (most : Int) (b off len cap : Nat) (l : List Int) (w : World) (hl : l.length = len) (hm : len ≤ 4611686018427387904)
    (hc : ∀ k, k < len → w.cell? ⟨b, off + k, none⟩ = some (.int .i64 (l.getD k 0))) (hw : ∀ k, k < len → l.getD k 0 ≤ 9223372036854775807) :
    Calls Try.prog 39 #[.int .i64 most, .slice (some ⟨b, off, none⟩) len cap] w fun e w' => e = .returned (.tuple #[.int .i64 (lcmV most l), .bool (lcmOk most l)]) ∧ ∃ n, w' = w.drewN n := by
  have HL := Lib.hid hl
  have HC := Lib.hid hc
  have HW := Lib.hid hw
  clear hl hc hw
  go_enter Try.func39, Try.ntmps39
  go_wp2
  go_loopw [6, 7] (fun u i wr => ∃ (acc : Int) (k : Nat), k ≤ len ∧ u = .int .i64 acc ∧ i = .int .i64 k ∧ 1 ≤ acc ∧ acc ≤ 4611686018427387904 ∧ Hid (lcmRun 1 l = lcmRun acc (l.drop k)) ∧ ∃ n, wr = w.drewN n) (fun _ i _ => len - (intOf i).toNat)
  case atStart => exact ⟨1, 0, by omega, rfl, rfl, by omega, by omega, Lib.hid rfl, 0, rfl⟩
  case round =>
    obtain ⟨acc, k, hk, rfl, rfl, a1, a2, HR, n, hwr⟩ := hrel
    have HWR := Lib.hid hwr
    by_cases hlt : k < len
    · have hcell : wr.cell? ⟨b, off + k, none⟩ = some (.int .i64 (l.getD k 0)) := by rw [hwr]; exact HC.out k hlt
      clear hwr
      have hx := HW.out k hlt
      have hd := drop_at (l := l) (k := k) (by rw [HL.out]; exact hlt)
      have HD := Lib.hid hd; clear hd
      generalize l.getD k 0 = x at hcell hx HD
      have tk : decide ((k : Int) < (len : Int)) = true := by simpa using hlt
      have l0 : (0 : Int) ≤ (k : Int) := by omega
      have l1 : (k : Int) < (len : Int) := by omega
      by_cases hx1 : x < 1
      · obtain ⟨h1, h2⟩ := lcm_end_none (most := most) (l := l) (by rw [HR.out, HD.out]; exact lcmRun_stop1 hx1)
        have H1 := Lib.hid h1; have H2 := Lib.hid h2; clear h1 h2
        go_wp2
        go_ret2
        exact ⟨ret_tup H1.out.symm H2.out.symm, n, HWR.out⟩
      · have x1 : 1 ≤ x := by omega
        obtain ⟨g1, g2, g3⟩ := gcdI_one a1 x1
        obtain ⟨q1, q2⟩ := quo_two a1 x1
        have t1 : decide (x < 1) = false := by simp; omega
        have FS := Lib.hid (fits_swap a1 x1 a2)
        have LS := Lib.hid (lcm_swap a1 x1)
        obtain ⟨g, hg⟩ : ∃ g, g = gcdI acc x := ⟨_, rfl⟩
        have hg' : gcdI acc x = g := hg.symm
        have t2 : (g == 0) = false := by simp; omega
        have t3 : ¬ g = 0 := by omega
        have e1 : x.tdiv g = x / g := Int.tdiv_eq_ediv_of_nonneg (by omega)
        obtain ⟨q, hq⟩ : ∃ q, q = x / g := ⟨_, rfl⟩
        rw [hg', ← hq] at FS LS q1 q2
        rw [← hq] at e1
        have e3 : x / g = q := hq.symm
        have e2 : IntKind.i64.wrap q = q := IntWalk.i64_in _ (by omega)
        have HGG := Lib.hid hg'
        have HGC : Hid (∀ W : World, Calls Try.prog 63 #[.int .i64 acc, .int .i64 x] W fun e w' => e = .returned (.int .i64 g) ∧ ∃ m, w' = W.drewN m) := Lib.hid fun W => by
          rw [← hg']; exact refGcd_any acc x W (by omega) (by omega)
        rw [hg'] at g1 g2 g3
        clear hg hq hg'
        cases f : mulFits (acc / gcdI acc x) x with
        | false =>
          obtain ⟨h1, h2⟩ := lcm_end_none (most := most) (l := l) (by rw [HR.out, HD.out]; exact lcmRun_stop2 f)
          have H1 := Lib.hid h1; have H2 := Lib.hid h2; clear h1 h2 hx1
          have HM : Hid (mulFits acc q = false) := Lib.hid (FS.out.trans (by rw [← HGG.out]; exact f))
          clear FS LS f
          go_wp2_with fail
          go_quiet (first | (go_at_call 63; exact Calls.quiet_of (HGC.out _)))
          go_wp2_with (first | (go_at_call 64; refine (refMul_any _ _ _).mono ?_; rintro e w' ⟨rfl, rfl⟩; rw [HM.out]))
          go_ret2
          exact ⟨ret_tup H1.out.symm H2.out.symm, n + nq, by rw [HWR.out, World.drewN_drewN]⟩
        | true =>
          have hn := lcmRun_next (l := l.drop (k + 1)) x1 f
          have HN := Lib.hid hn
          obtain ⟨p1, p2⟩ := lcmNext_one a1 x1 f
          have HM : Hid (mulFits acc q = true) := Lib.hid (FS.out.trans (by rw [← HGG.out]; exact f))
          have HV : Hid (mulTold acc q = lcmNext acc x) := Lib.hid ((mulTold_t HM.out).trans LS.out)
          clear FS LS f hn hx1
          by_cases hp : most < lcmNext acc x
          · obtain ⟨h1, h2⟩ := lcm_end_past (most := most) (l := l) (by rw [HR.out, HD.out, HN.out]) p1 p2 hp
            have H1 := Lib.hid h1; have H2 := Lib.hid h2; clear h1 h2
            generalize lcmNext acc x = y at *
            have tp : decide (most < y) = true := by simpa using hp
            go_wp2_with fail
            go_quiet (first | (go_at_call 63; exact Calls.quiet_of (HGC.out _)))
            go_wp2_with (first | (go_at_call 64; refine (refMul_any _ _ _).mono ?_; rintro e w' ⟨rfl, rfl⟩; rw [HM.out, HV.out]))
            go_ret2
            exact ⟨ret_tup H1.out.symm H2.out.symm, n + nq, by rw [HWR.out, World.drewN_drewN]⟩
          · have tp : decide (most < lcmNext acc x) = false := by simp; omega
            generalize lcmNext acc x = y at *
            go_wp2_with fail
            go_quiet (first | (go_at_call 63; exact Calls.quiet_of (HGC.out _)))
            go_wp2_with (first | (go_at_call 64; refine (refMul_any _ _ _).mono ?_; rintro e w' ⟨rfl, rfl⟩; rw [HM.out, HV.out]))
            go_roundw
            case rel => exact ⟨y, k + 1, by omega, rfl, by go_num, p1, p2, Lib.hid (by rw [HR.out, HD.out, HN.out]), n + nq, by rw [HWR.out, World.drewN_drewN]⟩
            case measure => simp [intOf]; omega
    · clear hwr
      have hke : k = len := by omega
      have hd := drop_end (l := l) (k := k) (by rw [HL.out]; omega)
      have tk : decide ((k : Int) < (len : Int)) = false := by simp; omega
      have hr : lcmRun 1 l = some acc := by rw [HR.out, hd]; rfl
      clear hd hke
      by_cases hm : most < acc
      · obtain ⟨h1, h2⟩ := lcm_end_over hr hm
        have H1 := Lib.hid h1; have H2 := Lib.hid h2; clear h1 h2 hr
        go_wp2
        go_ret2
        exact ⟨ret_tup H1.out.symm H2.out.symm, n, HWR.out⟩
      · obtain ⟨h1, h2⟩ := lcm_end_in hr hm
        have H1 := Lib.hid h1; have H2 := Lib.hid h2; clear h1 h2 hr
        go_wp2
        go_ret2
        exact ⟨ret_tup H1.out.symm H2.out.symm, n, HWR.out⟩
theorem refLcm_nil (most : Int) (a : Option Addr) (cap : Nat) (w : World) :
    Calls Try.prog 39 #[.int .i64 most, .slice a 0 cap] w fun e w' => e = .returned (.tuple #[.int .i64 (lcmV most []), .bool (lcmOk most [])]) ∧ ∃ n, w' = w.drewN n := by
  by_cases h : most < 1
  · obtain ⟨h1, h2⟩ := lcm_end_over (most := most) (n := 1) (l := []) rfl h
    have H1 := Lib.hid h1; have H2 := Lib.hid h2; clear h1 h2
    go_enter Try.func39, Try.ntmps39
    go_wp2
    go_loopw [6, 7] (fun u i wr => u = .int .i64 1 ∧ i = .int .i64 0 ∧ wr = w) (fun _ _ _ => 0)
    case atStart => exact ⟨rfl, rfl, rfl⟩
    case round =>
      obtain ⟨rfl, rfl, rfl⟩ := hrel
      go_wp2
      go_ret2
      exact ⟨ret_tup H1.out.symm H2.out.symm, 0, rfl⟩
  · obtain ⟨h1, h2⟩ := lcm_end_in (most := most) (n := 1) (l := []) rfl h
    have H1 := Lib.hid h1; have H2 := Lib.hid h2; clear h1 h2
    go_enter Try.func39, Try.ntmps39
    go_wp2
    go_loopw [6, 7] (fun u i wr => u = .int .i64 1 ∧ i = .int .i64 0 ∧ wr = w) (fun _ _ _ => 0)
    case atStart => exact ⟨rfl, rfl, rfl⟩
    case round =>
      obtain ⟨rfl, rfl, rfl⟩ := hrel
      go_wp2
      go_ret2
      exact ⟨ret_tup H1.out.symm H2.out.symm, 0, rfl⟩
theorem refLcm_any (most : Int) (a : Option Addr) (len cap : Nat) (l : List Int) (w : World) (h : IntRow w a len l) (h2 : len ≤ 4611686018427387904) :
    Calls Try.prog 39 #[.int .i64 most, .slice a len cap] w fun e w' => e = .returned (.tuple #[.int .i64 (lcmV most l), .bool (lcmOk most l)]) ∧ ∃ n, w' = w.drewN n := by
  rcases h with ⟨rfl, rfl⟩ | ⟨b, off, rfl, hl, hm, hc, hw⟩
  · exact refLcm_nil most a cap w
  · exact refLcm_row most b off len cap l w hl h2 hc (fun k hk => (hw k hk).2)
end Go.Proofs.Ytdbbdlobahalkaa
namespace Go.Proofs.Ytdbbdlobahalkaa
open Go.ChangeShapes Go.WideShapes Go.ChangeAt Go.RowKit
set_option linter.unusedVariables false
attribute [local go_sem ↓] Go.wp_at_zero Go.wp_at_succ

theorem Ints.one {W : World} {B g : Nat} {x : Int} (hg : W.heap[g]? = some (.cells #[.int .i64 x] 3 (0, 0))) (hB : B ≤ g) : Ints W B (some ⟨g, 0, none⟩) 1 [x] :=
  Fresh.owns (arr := #[.int .i64 x]) (cap := 1) (m := 1) (size := 1) (news := [.int .i64 x]) ⟨rfl, by omega, by simp [maxLen], rfl, rfl⟩ hg hB
theorem h64_first {p : Pt} {F : Int} (hF : -9223372036854775808 ≤ F ∧ F ≤ 9223372036854775807) : ∀ x ∈ F :: periodsV p, -9223372036854775808 ≤ x ∧ x ≤ 9223372036854775807 := fun x hx => by
  rcases List.mem_cons.1 hx with h | h
  · subst h; exact hF
  · have := periods_in h; omega
set_option maxRecDepth 100000 in
set_option maxHeartbeats 4000000 in
theorem refHyper_any (F : Int) (ta sa da : Option Addr) (tn tc sn sc dn dc : Nat) (x0 x1 x2 : Int) (w : World) (lo hi : Nat) (p : Pt) (hF : -9223372036854775808 ≤ F ∧ F ≤ 9223372036854775807) (htn : p.ts.length = tn) (hsn : p.ss.length = sn)
    (hts : Lies w lo hi (.slice ta tn tc) tn 6 (p.ts.flatMap Tk.cells)) (hss : Lies w lo hi (.slice sa sn sc) sn 3 (p.ss.flatMap Sv.cells)) (hhi : hi ≤ w.heap.size) (ht2 : tn ≤ 1000) (hs2 : sn ≤ 1000) :
    Calls Try.prog 23 #[.int .i64 F, .agg #[.slice ta tn tc, .slice sa sn sc, .slice da dn dc, .int .u8 x0, .int .u8 x1, .int .u8 x2]] w fun e w' => e = .returned (.tuple #[.int .i64 (hyperV F p), .bool (hyperOk F p)]) ∧ Below w.heap.size w w' := by
  obtain ⟨i0, hi0, hz0, hz1, hz2⟩ := info_parts Try.infoInt
  have HI := Lib.hid hi0
  obtain ⟨V, hV⟩ : ∃ V, V = w.alloc (.cells #[.slice ta tn tc, .slice sa sn sc, .slice da dn dc, .int .u8 x0, .int .u8 x1, .int .u8 x2] 51) := ⟨_, rfl⟩
  have ks : ∀ W : World, Below V.heap.size V W → W.cell? ⟨w.heap.size, 0, none⟩ = some (.slice ta tn tc) ∧ W.cell? ⟨w.heap.size, 1, none⟩ = some (.slice sa sn sc) := fun W h => by
    rw [hV] at h
    have k := box_says w #[.slice ta tn tc, .slice sa sn sc, .slice da dn dc, .int .u8 x0, .int .u8 x1, .int .u8 x2] 51 W h
    exact ⟨k 0 _ rfl, k 1 _ rfl⟩
  have hBV : Below w.heap.size w V := by rw [hV]; exact below1 _ _
  have hVw : w.heap.size < V.heap.size := by rw [hV]; simp
  have HVE : Hid (V.heap.size = w.heap.size + 1) := Lib.hid (by rw [hV]; simp)
  have HT := Lib.hid hts; have HS := Lib.hid hss; have HTN := Lib.hid htn; have HSN := Lib.hid hsn
  have HV := Lib.hid hV; have HBV := Lib.hid hBV; have KS := Lib.hid ks
  have H64 := Lib.hid (h64_first (p := p) hF)
  have H1 := Lib.hid (Ints.one (heap_alloc_new V (.cells #[.int .i64 F] 3)) (Nat.le_refl _))
  have HB0 := Lib.hid (below1 V (.cells #[.int .i64 F] 3))
  clear hV hBV ks hts hss htn hsn hi0
  go_enter Try.func23, Try.ntmps23
  go_wp2_with fail
  rw [← HV.out]
  go_loopw [6, 7] (fun s i wr => ∃ (k nc : Nat) (na : Option Addr), k ≤ tn ∧ s = .slice na (F :: gath okTk Tk.t p.ts k).length nc ∧ i = .int .i64 k ∧ Hid (Ints wr V.heap.size na nc (F :: gath okTk Tk.t p.ts k)) ∧ Below V.heap.size V wr) (fun _ i _ => tn - (intOf i).toNat)
  case atStart => exact ⟨0, 1, some ⟨V.heap.size, 0, none⟩, by omega, by rw [HVE.out]; rfl, rfl, Lib.hid H1.out, HB0.out⟩
  case round =>
    obtain ⟨k, nc, na, hk, rfl, rfl, HO, hb⟩ := hrel
    obtain ⟨z0, z1⟩ := KS.out wr hb
    by_cases hlt : k < tn
    · have tk : decide ((k : Int) < (tn : Int)) = true := by simpa using hlt
      obtain ⟨x, hx⟩ : ∃ x, p.ts[k]? = some x := ⟨_, List.getElem?_eq_getElem (by rw [HTN.out]; exact hlt)⟩
      have hlies := HT.out.keep (SameIn.of_below (HBV.out.trans (hb.mono (Nat.le_of_lt hVw))) hhi)
      obtain ⟨a2, c2, e2, _, _, hc⟩ := hlies
      cases e2
      rcases hc with h0 | ⟨b, off, rfl, hb1, hb2, hc⟩
      · omega
      obtain ⟨s0, s1, s2, s3, s4, s5⟩ := Lies.tk hc hx
      have HX := Lib.hid hx
      have hbw : b < wr.heap.size := by have := hb.size; omega
      have l0 : (0 : Int) ≤ (k : Int) := by omega
      have l1 : (k : Int) < (tn : Int) := by omega
      clear hc hx
      obtain ⟨xb, xt, xd, xv, xlo, xtop⟩ := x
      simp only at s0 s1 s2 s3 s4 s5
      have KL : Hid (∀ W : World, Below wr.heap.size wr W → W.cell? ⟨w.heap.size, 0, none⟩ = some (.slice (some ⟨b, off, none⟩) tn tc) ∧ W.cell? ⟨b, off + k * 6 + 1, none⟩ = some (.int .i64 xt)) := Lib.hid fun W h => ⟨(KS.out W (hb.trans (h.mono hb.size))).1, (h.cell (p := ⟨b, off + k * 6 + 1, none⟩) hbw).trans s1⟩
      have hgl : (F :: gath okTk Tk.t p.ts k).length ≤ 2000 := by
        have := gath_len okTk Tk.t p.ts k
        rw [List.length_cons]; omega
      cases hok : okTk ⟨xb, xt, xd, xv, xlo, xtop⟩ with
      | true =>
        have HN : Hid (F :: gath okTk Tk.t p.ts (k + 1) = (F :: gath okTk Tk.t p.ts k) ++ [xt]) := Lib.hid (by rw [gath_yes (c := okTk) (g := Tk.t) HX.out hok]; rfl)
        have HOK := Lib.hid hok
        clear hok
        obtain ⟨ls, hls⟩ : ∃ ls, ls = F :: gath okTk Tk.t p.ts k := ⟨_, rfl⟩
        rw [← hls] at HO HN hgl
        rw [← hls]
        have HAP := Lib.hid (HO.out.hap hb.size xt)
        clear hls
        go_wp2_with (first
          | (go_at_call 37; refine (refTask_any _ _ _ _ _ _ _).mono ?_; rintro e w2 ⟨rfl, hb1'⟩; rw [HOK.out]; obtain ⟨y0, y1⟩ := KL.out _ hb1'; have HB5 := Lib.hid hb1'; clear hb1')
          | (refine wpList_append_lie2 (by rfl) (.tmp 24) (.tmp 31) 48 (by rfl) V.heap.size 3 i0 _ 1 8 Try.underlying48 HI.out hz0 hz1 hz2 rfl (by omega) (.slice na ls.length nc) ls.length (ls.flatMap intCells) (by rfl) (HAP.out w2 HB5.out _ (by rfl)).1 (.slice (some ⟨w2.heap.size, 0, none⟩) 1 1) w2.heap.size (w2.heap.size + 1) 1 [.int .i64 xt] (by rfl) (HAP.out w2 HB5.out _ (by rfl)).2.1 (in_one _) (ls.length + 1) rfl (by simp only [maxLen]; omega) (by omega) (HAP.out w2 HB5.out _ (by rfl)).2.2 ?_; intro ao cap' w6 hown6 hgrow6 hob6)
          | go_in)
        go_roundw
        case rel => exact ⟨k + 1, cap', ao, by omega, by rw [HN.out]; exact snoc_slice _ _ _ _, by go_num, Lib.hid (by rw [HN.out]; exact Ints.more hown6), ints_below HO.out hb hb.size HB5.out rfl hgrow6⟩
        case measure => simp [intOf]; omega
      | false =>
        have HN : Hid (F :: gath okTk Tk.t p.ts (k + 1) = F :: gath okTk Tk.t p.ts k) := Lib.hid (by rw [gath_no (c := okTk) (g := Tk.t) HX.out hok])
        have HOK := Lib.hid hok
        clear hok
        obtain ⟨ls, hls⟩ : ∃ ls, ls = F :: gath okTk Tk.t p.ts k := ⟨_, rfl⟩
        rw [← hls] at HO HN hgl
        rw [← hls]
        clear hls
        go_wp2_with (first
          | (go_at_call 37; refine (refTask_any _ _ _ _ _ _ _).mono ?_; rintro e w1 ⟨rfl, hb1'⟩; rw [HOK.out]; have HB1 := Lib.hid hb1'; clear hb1'))
        go_roundw
        case rel => exact ⟨k + 1, nc, na, by omega, by rw [HN.out], by go_num, Lib.hid (by rw [HN.out]; exact HO.out.later HB1.out), hb.trans (HB1.out.mono hb.size)⟩
        case measure => simp [intOf]; omega
    · have tk : decide ((k : Int) < (tn : Int)) = false := by simp; omega
      have HG := Lib.hid (gath_end (c := okTk) (g := Tk.t) (xs := p.ts) (k := k) (by rw [HTN.out]; omega))
      have hgl := gath_len okTk Tk.t p.ts k
      obtain ⟨pre, hpre⟩ : ∃ pre, pre = gath okTk Tk.t p.ts k := ⟨_, rfl⟩
      rw [← hpre] at HO HG hgl
      rw [← hpre]
      clear hpre HT
      obtain ⟨wo, hwo⟩ : ∃ wo, wo = wr := ⟨_, rfl⟩
      subst hwo
      go_wp2_with fail
      clear z0 z1
      go_loopw [6, 8] (fun s i wr => ∃ (j nc : Nat) (na : Option Addr), j ≤ sn ∧ s = .slice na (F :: (pre ++ gath okSv Sv.t p.ss j)).length nc ∧ i = .int .i64 j ∧ Hid (Ints wr V.heap.size na nc (F :: (pre ++ gath okSv Sv.t p.ss j))) ∧ Below V.heap.size V wr) (fun _ i _ => sn - (intOf i).toNat)
      case atStart => exact ⟨0, nc, na, by omega, by rw [gath_zero, List.append_nil], rfl, Lib.hid (by rw [gath_zero, List.append_nil]; exact HO.out), hb⟩
      case round =>
        clear hb HO
        obtain ⟨j, nc, na, hj, rfl, rfl, HO, hb⟩ := hrel
        obtain ⟨z0, z1⟩ := KS.out wr hb
        by_cases hlt2 : j < sn
        · have tj : decide ((j : Int) < (sn : Int)) = true := by simpa using hlt2
          obtain ⟨x, hx⟩ : ∃ x, p.ss[j]? = some x := ⟨_, List.getElem?_eq_getElem (by rw [HSN.out]; exact hlt2)⟩
          have hlies := HS.out.keep (SameIn.of_below (HBV.out.trans (hb.mono (Nat.le_of_lt hVw))) hhi)
          obtain ⟨a2, c2, e2, _, _, hc⟩ := hlies
          cases e2
          rcases hc with h0 | ⟨b, off, rfl, hb1, hb2, hc⟩
          · omega
          obtain ⟨s0, s1, s2⟩ := Lies.sv hc hx
          have HX := Lib.hid hx
          have hbw : b < wr.heap.size := by have := hb.size; omega
          have l0 : (0 : Int) ≤ (j : Int) := by omega
          have l1 : (j : Int) < (sn : Int) := by omega
          clear hc hx
          obtain ⟨xr, xc, xt⟩ := x
          simp only at s0 s1 s2
          have KL : Hid (∀ W : World, Below wr.heap.size wr W → W.cell? ⟨w.heap.size, 1, none⟩ = some (.slice (some ⟨b, off, none⟩) sn sc) ∧ W.cell? ⟨b, off + j * 3 + 2, none⟩ = some (.int .i64 xt)) := Lib.hid fun W h => ⟨(KS.out W (hb.trans (h.mono hb.size))).2, (h.cell (p := ⟨b, off + j * 3 + 2, none⟩) hbw).trans s2⟩
          have hgl2 : (F :: (pre ++ gath okSv Sv.t p.ss j)).length ≤ 3000 := by
            have := gath_len okSv Sv.t p.ss j
            rw [List.length_cons, List.length_append]; omega
          cases hok : okSv ⟨xr, xc, xt⟩ with
          | true =>
            have HN : Hid (F :: (pre ++ gath okSv Sv.t p.ss (j + 1)) = (F :: (pre ++ gath okSv Sv.t p.ss j)) ++ [xt]) := Lib.hid (by rw [gath_yes (c := okSv) (g := Sv.t) HX.out hok, List.cons_append, List.append_assoc])
            have HOK := Lib.hid hok
            clear hok
            obtain ⟨ls, hls⟩ : ∃ ls, ls = F :: (pre ++ gath okSv Sv.t p.ss j) := ⟨_, rfl⟩
            rw [← hls] at HO HN hgl2
            rw [← hls]
            have HAP := Lib.hid (HO.out.hap hb.size xt)
            clear hls
            go_wp2_with (first
              | (go_at_call 38; refine (refServer_any _ _ _ _).mono ?_; rintro e w2 ⟨rfl, hb1'⟩; rw [HOK.out]; obtain ⟨y0, y1⟩ := KL.out _ hb1'; have HB5 := Lib.hid hb1'; clear hb1')
              | (refine wpList_append_lie2 (by rfl) (.tmp 46) (.tmp 53) 48 (by rfl) V.heap.size 3 i0 _ 1 8 Try.underlying48 HI.out hz0 hz1 hz2 rfl (by omega) (.slice na ls.length nc) ls.length (ls.flatMap intCells) (by rfl) (HAP.out w2 HB5.out _ (by rfl)).1 (.slice (some ⟨w2.heap.size, 0, none⟩) 1 1) w2.heap.size (w2.heap.size + 1) 1 [.int .i64 xt] (by rfl) (HAP.out w2 HB5.out _ (by rfl)).2.1 (in_one _) (ls.length + 1) rfl (by simp only [maxLen]; omega) (by omega) (HAP.out w2 HB5.out _ (by rfl)).2.2 ?_; intro ao cap' w6 hown6 hgrow6 hob6)
              | go_in)
            go_roundw
            case rel => exact ⟨j + 1, cap', ao, by omega, by rw [HN.out]; exact snoc_slice _ _ _ _, by go_num, Lib.hid (by rw [HN.out]; exact Ints.more hown6), ints_below HO.out hb hb.size HB5.out rfl hgrow6⟩
            case measure => simp [intOf]; omega
          | false =>
            have HN : Hid (F :: (pre ++ gath okSv Sv.t p.ss (j + 1)) = F :: (pre ++ gath okSv Sv.t p.ss j)) := Lib.hid (by rw [gath_no (c := okSv) (g := Sv.t) HX.out hok])
            have HOK := Lib.hid hok
            clear hok
            obtain ⟨ls, hls⟩ : ∃ ls, ls = F :: (pre ++ gath okSv Sv.t p.ss j) := ⟨_, rfl⟩
            rw [← hls] at HO HN hgl2
            rw [← hls]
            clear hls
            go_wp2_with (first
              | (go_at_call 38; refine (refServer_any _ _ _ _).mono ?_; rintro e w1 ⟨rfl, hb1'⟩; rw [HOK.out]; have HB1 := Lib.hid hb1'; clear hb1'))
            go_roundw
            case rel => exact ⟨j + 1, nc, na, by omega, by rw [HN.out], by go_num, Lib.hid (by rw [HN.out]; exact HO.out.later HB1.out), hb.trans (HB1.out.mono hb.size)⟩
            case measure => simp [intOf]; omega
        · have tj : decide ((j : Int) < (sn : Int)) = false := by simp; omega
          have HL : Hid (F :: (pre ++ gath okSv Sv.t p.ss j) = F :: periodsV p) := Lib.hid (by rw [HG.out, gath_end (c := okSv) (g := Sv.t) (xs := p.ss) (k := j) (by rw [HSN.out]; omega)]; rfl)
          obtain ⟨ls, hls⟩ : ∃ ls, ls = F :: (pre ++ gath okSv Sv.t p.ss j) := ⟨_, rfl⟩
          rw [← hls] at HO HL
          rw [← hls]
          clear hls
          have hgl3 : ls.length ≤ 4611686018427387904 := by
            rw [HL.out, List.length_cons]
            have := periods_len p
            have := HSN.out
            have := HTN.out
            omega
          have HR := Lib.hid (HO.out.row (by rw [HL.out]; exact H64.out))
          have HV1 : Hid (lcmV 65536 ls = hyperV F p ∧ lcmOk 65536 ls = hyperOk F p) := Lib.hid (by rw [HL.out]; exact ⟨rfl, rfl⟩)
          go_wp2_with (first
            | (go_at_call 39; refine (refLcm_any _ _ _ _ _ _ HR.out hgl3).mono ?_; rintro e w7 ⟨rfl, n7, rfl⟩; rw [HV1.out.1, HV1.out.2]))
          go_ret2
          exact ⟨rfl, below_drewD _ (HBV.out.trans (hb.mono (Nat.le_of_lt hVw)))⟩
set_option maxRecDepth 100000 in
set_option maxHeartbeats 4000000 in
theorem refFar_any (ta sa da : Option Addr) (tn tc sn sc dn dc : Nat) (x0 x1 x2 : Int) (w : World) (lo hi : Nat) (p : Pt) (htn : p.ts.length = tn) (hsn : p.ss.length = sn)
    (hts : Lies w lo hi (.slice ta tn tc) tn 6 (p.ts.flatMap Tk.cells)) (hss : Lies w lo hi (.slice sa sn sc) sn 3 (p.ss.flatMap Sv.cells)) (hhi : hi ≤ w.heap.size) (ht2 : tn ≤ 1000) (hs2 : sn ≤ 1000) :
    Calls Try.prog 24 #[.agg #[.slice ta tn tc, .slice sa sn sc, .slice da dn dc, .int .u8 x0, .int .u8 x1, .int .u8 x2]] w fun e w' => e = .returned (.int .i64 (farV p)) ∧ Below w.heap.size w w' := by
  obtain ⟨V, hV⟩ : ∃ V, V = w.alloc (.cells #[.slice ta tn tc, .slice sa sn sc, .slice da dn dc, .int .u8 x0, .int .u8 x1, .int .u8 x2] 51) := ⟨_, rfl⟩
  have ks : ∀ W : World, Below V.heap.size V W → W.cell? ⟨w.heap.size, 0, none⟩ = some (.slice ta tn tc) ∧ W.cell? ⟨w.heap.size, 1, none⟩ = some (.slice sa sn sc) := fun W h => by
    rw [hV] at h
    have k := box_says w #[.slice ta tn tc, .slice sa sn sc, .slice da dn dc, .int .u8 x0, .int .u8 x1, .int .u8 x2] 51 W h
    exact ⟨k 0 _ rfl, k 1 _ rfl⟩
  have hBV : Below w.heap.size w V := by rw [hV]; exact below1 _ _
  have hVw : w.heap.size < V.heap.size := by rw [hV]; simp
  have HT := Lib.hid hts; have HS := Lib.hid hss; have HTN := Lib.hid htn; have HSN := Lib.hid hsn
  have HV := Lib.hid hV; have HBV := Lib.hid hBV; have KS := Lib.hid ks
  clear hV hBV ks hts hss htn hsn
  go_enter Try.func24, Try.ntmps24
  go_wp2_with fail
  rw [← HV.out]
  go_loopw [3, 4] (fun s i wr => ∃ k : Nat, k ≤ tn ∧ s = .int .i64 (mostI 1 (gath okTk Tk.d p.ts k)) ∧ i = .int .i64 k ∧ Below V.heap.size V wr) (fun _ i _ => tn - (intOf i).toNat)
  case atStart => exact ⟨0, by omega, rfl, rfl, Below.refl _ _⟩
  case round =>
    obtain ⟨k, hk, rfl, rfl, hb⟩ := hrel
    obtain ⟨z0, z1⟩ := KS.out wr hb
    by_cases hlt : k < tn
    · have tk : decide ((k : Int) < (tn : Int)) = true := by simpa using hlt
      obtain ⟨x, hx⟩ : ∃ x, p.ts[k]? = some x := ⟨_, List.getElem?_eq_getElem (by rw [HTN.out]; exact hlt)⟩
      have hlies := HT.out.keep (SameIn.of_below (HBV.out.trans (hb.mono (Nat.le_of_lt hVw))) hhi)
      obtain ⟨a2, c2, e2, _, _, hc⟩ := hlies
      cases e2
      rcases hc with h0 | ⟨b, off, rfl, hb1, hb2, hc⟩
      · omega
      obtain ⟨s0, s1, s2, s3, s4, s5⟩ := Lies.tk hc hx
      have HX := Lib.hid hx
      have hbw : b < wr.heap.size := by have := hb.size; omega
      have l0 : (0 : Int) ≤ (k : Int) := by omega
      have l1 : (k : Int) < (tn : Int) := by omega
      clear hc hx
      obtain ⟨xb, xt, xd, xv, xlo, xtop⟩ := x
      simp only at s0 s1 s2 s3 s4 s5
      have KL : Hid (∀ W : World, Below wr.heap.size wr W → W.cell? ⟨w.heap.size, 0, none⟩ = some (.slice (some ⟨b, off, none⟩) tn tc) ∧ W.cell? ⟨b, off + k * 6 + 2, none⟩ = some (.int .i64 xd)) := Lib.hid fun W h => ⟨(KS.out W (hb.trans (h.mono hb.size))).1, (h.cell (p := ⟨b, off + k * 6 + 2, none⟩) hbw).trans s2⟩
      cases hok : okTk ⟨xb, xt, xd, xv, xlo, xtop⟩ with
      | true =>
        have HN : Hid (mostI 1 (gath okTk Tk.d p.ts (k + 1)) = max (mostI 1 (gath okTk Tk.d p.ts k)) xd) := Lib.hid (by rw [gath_yes (c := okTk) (g := Tk.d) HX.out hok]; exact mostI_snoc _ _ _)
        have HOK := Lib.hid hok
        clear hok
        generalize mostI 1 (gath okTk Tk.d p.ts k) = m at *
        go_wp2_with (first
          | (go_at_call 37; refine (refTask_any _ _ _ _ _ _ _).mono ?_; rintro e w2 ⟨rfl, hb1'⟩; rw [HOK.out]; obtain ⟨y0, y1⟩ := KL.out _ hb1'; have HB5 := Lib.hid hb1'; clear hb1'))
        go_roundw
        case rel => exact ⟨k + 1, by omega, by rw [HN.out]; (first | rfl | (congr 1; omega) | go_num), by go_num, hb.trans (HB5.out.mono hb.size)⟩
        case measure => simp [intOf]; omega
      | false =>
        have HN : Hid (gath okTk Tk.d p.ts (k + 1) = gath okTk Tk.d p.ts k) := Lib.hid (by rw [gath_no (c := okTk) (g := Tk.d) HX.out hok])
        have HOK := Lib.hid hok
        clear hok
        generalize gath okTk Tk.d p.ts k = m at *
        go_wp2_with (first
          | (go_at_call 37; refine (refTask_any _ _ _ _ _ _ _).mono ?_; rintro e w1 ⟨rfl, hb1'⟩; rw [HOK.out]; have HB1 := Lib.hid hb1'; clear hb1'))
        go_roundw
        case rel => exact ⟨k + 1, by omega, by rw [HN.out], by go_num, hb.trans (HB1.out.mono hb.size)⟩
        case measure => simp [intOf]; omega
    · have tk : decide ((k : Int) < (tn : Int)) = false := by simp; omega
      have HG := Lib.hid (gath_end (c := okTk) (g := Tk.d) (xs := p.ts) (k := k) (by rw [HTN.out]; omega))
      obtain ⟨pre, hpre⟩ : ∃ pre, pre = mostI 1 (gath okTk Tk.d p.ts k) := ⟨_, rfl⟩
      rw [← hpre]
      have HP := Lib.hid hpre
      clear hpre HT HTN
      obtain ⟨wo, hwo⟩ : ∃ wo, wo = wr := ⟨_, rfl⟩
      subst hwo
      go_wp2_with fail
      clear z0 z1
      go_loopw [3, 5] (fun s i wr => ∃ j : Nat, j ≤ sn ∧ s = .int .i64 (mostI pre (gath okSv Sv.t p.ss j)) ∧ i = .int .i64 j ∧ Below V.heap.size V wr) (fun _ i _ => sn - (intOf i).toNat)
      case atStart => exact ⟨0, by omega, rfl, rfl, hb⟩
      case round =>
        clear hb
        obtain ⟨j, hj, rfl, rfl, hb⟩ := hrel
        obtain ⟨z0, z1⟩ := KS.out wr hb
        by_cases hlt2 : j < sn
        · have tj : decide ((j : Int) < (sn : Int)) = true := by simpa using hlt2
          obtain ⟨x, hx⟩ : ∃ x, p.ss[j]? = some x := ⟨_, List.getElem?_eq_getElem (by rw [HSN.out]; exact hlt2)⟩
          have hlies := HS.out.keep (SameIn.of_below (HBV.out.trans (hb.mono (Nat.le_of_lt hVw))) hhi)
          obtain ⟨a2, c2, e2, _, _, hc⟩ := hlies
          cases e2
          rcases hc with h0 | ⟨b, off, rfl, hb1, hb2, hc⟩
          · omega
          obtain ⟨s0, s1, s2⟩ := Lies.sv hc hx
          have HX := Lib.hid hx
          have hbw : b < wr.heap.size := by have := hb.size; omega
          have l0 : (0 : Int) ≤ (j : Int) := by omega
          have l1 : (j : Int) < (sn : Int) := by omega
          clear hc hx
          obtain ⟨xr, xc, xt⟩ := x
          simp only at s0 s1 s2
          have KL : Hid (∀ W : World, Below wr.heap.size wr W → W.cell? ⟨w.heap.size, 1, none⟩ = some (.slice (some ⟨b, off, none⟩) sn sc) ∧ W.cell? ⟨b, off + j * 3 + 2, none⟩ = some (.int .i64 xt)) := Lib.hid fun W h => ⟨(KS.out W (hb.trans (h.mono hb.size))).2, (h.cell (p := ⟨b, off + j * 3 + 2, none⟩) hbw).trans s2⟩
          cases hok : okSv ⟨xr, xc, xt⟩ with
          | true =>
            have HN : Hid (mostI pre (gath okSv Sv.t p.ss (j + 1)) = max (mostI pre (gath okSv Sv.t p.ss j)) xt) := Lib.hid (by rw [gath_yes (c := okSv) (g := Sv.t) HX.out hok]; exact mostI_snoc _ _ _)
            have HOK := Lib.hid hok
            clear hok
            generalize mostI pre (gath okSv Sv.t p.ss j) = m at *
            go_wp2_with (first
              | (go_at_call 38; refine (refServer_any _ _ _ _).mono ?_; rintro e w2 ⟨rfl, hb1'⟩; rw [HOK.out]; obtain ⟨y0, y1⟩ := KL.out _ hb1'; have HB5 := Lib.hid hb1'; clear hb1'))
            go_roundw
            case rel => exact ⟨j + 1, by omega, by rw [HN.out]; (first | rfl | (congr 1; omega) | go_num), by go_num, hb.trans (HB5.out.mono hb.size)⟩
            case measure => simp [intOf]; omega
          | false =>
            have HN : Hid (gath okSv Sv.t p.ss (j + 1) = gath okSv Sv.t p.ss j) := Lib.hid (by rw [gath_no (c := okSv) (g := Sv.t) HX.out hok])
            have HOK := Lib.hid hok
            clear hok
            generalize gath okSv Sv.t p.ss j = m at *
            go_wp2_with (first
              | (go_at_call 38; refine (refServer_any _ _ _ _).mono ?_; rintro e w1 ⟨rfl, hb1'⟩; rw [HOK.out]; have HB1 := Lib.hid hb1'; clear hb1'))
            go_roundw
            case rel => exact ⟨j + 1, by omega, by rw [HN.out], by go_num, hb.trans (HB1.out.mono hb.size)⟩
            case measure => simp [intOf]; omega
        · have tj : decide ((j : Int) < (sn : Int)) = false := by simp; omega
          have HL : Hid (mostI pre (gath okSv Sv.t p.ss j) = farV p) := Lib.hid (by rw [HP.out, HG.out, gath_end (c := okSv) (g := Sv.t) (xs := p.ss) (k := j) (by rw [HSN.out]; omega)]; rfl)
          obtain ⟨m, hm⟩ : ∃ m, m = mostI pre (gath okSv Sv.t p.ss j) := ⟨_, rfl⟩
          rw [← hm] at HL
          rw [← hm]
          clear hm HP HG
          go_wp2_with fail
          go_ret
          exact ⟨ret_iD HL.out, HBV.out.trans (hb.mono (Nat.le_of_lt hVw))⟩
set_option maxRecDepth 100000 in
set_option maxHeartbeats 2000000 in
theorem refBound_any (F : Int) (ta sa da : Option Addr) (tn tc sn sc dn dc : Nat) (x0 x1 x2 : Int) (w : World) (lo hi : Nat) (p : Pt) (hF : -9223372036854775808 ≤ F ∧ F ≤ 9223372036854775807) (htn : p.ts.length = tn) (hsn : p.ss.length = sn)
    (hts : Lies w lo hi (.slice ta tn tc) tn 6 (p.ts.flatMap Tk.cells)) (hss : Lies w lo hi (.slice sa sn sc) sn 3 (p.ss.flatMap Sv.cells)) (hhi : hi ≤ w.heap.size) (ht2 : tn ≤ 1000) (hs2 : sn ≤ 1000) :
    Calls Try.prog 13 #[.int .i64 F, .agg #[.slice ta tn tc, .slice sa sn sc, .slice da dn dc, .int .u8 x0, .int .u8 x1, .int .u8 x2]] w fun e w' => e = .returned (.tuple #[.int .i64 (boundV F p), .bool (boundOk F p)]) ∧ Below w.heap.size w w' := by
  have hb1 := below1 w (.cells #[.slice ta tn tc, .slice sa sn sc, .slice da dn dc, .int .u8 x0, .int .u8 x1, .int .u8 x2] 51)
  have B1 := Lib.hid hb1
  have KS := Lib.hid (boxK6 w (.slice ta tn tc) (.slice sa sn sc) (.slice da dn dc) (.int .u8 x0) (.int .u8 x1) (.int .u8 x2) 51)
  have hwa : hi ≤ (w.alloc (.cells #[.slice ta tn tc, .slice sa sn sc, .slice da dn dc, .int .u8 x0, .int .u8 x1, .int .u8 x2] 51)).heap.size := by simp; omega
  have CH := Lib.hid (refHyper_any F ta sa da tn tc sn sc dn dc x0 x1 x2 (w.alloc (.cells #[.slice ta tn tc, .slice sa sn sc, .slice da dn dc, .int .u8 x0, .int .u8 x1, .int .u8 x2] 51)) lo hi p hF htn hsn (hts.keep (SameIn.of_below hb1 hhi)) (hss.keep (SameIn.of_below hb1 hhi)) hwa ht2 hs2)
  have CF := Lib.hid (fun (W : World) (hb : Below (w.alloc (.cells #[.slice ta tn tc, .slice sa sn sc, .slice da dn dc, .int .u8 x0, .int .u8 x1, .int .u8 x2] 51)).heap.size (w.alloc (.cells #[.slice ta tn tc, .slice sa sn sc, .slice da dn dc, .int .u8 x0, .int .u8 x1, .int .u8 x2] 51)) W) =>
    refFar_any ta sa da tn tc sn sc dn dc x0 x1 x2 W lo hi p htn hsn ((hts.keep (SameIn.of_below hb1 hhi)).keep (SameIn.of_below hb hwa)) ((hss.keep (SameIn.of_below hb1 hhi)).keep (SameIn.of_below hb hwa)) (Nat.le_trans hwa hb.size) ht2 hs2)
  clear hts hss hb1 hwa
  obtain ⟨h0, h1⟩ := hyper_bd F p
  obtain ⟨f0, f1⟩ := farV_bd p
  cases ho : hyperOk F p with
  | false =>
    have hO : boundOk F p = false := by unfold boundOk; rw [ho]; rfl
    have HO := Lib.hid ho; have HO2 := Lib.hid hO; have HV := Lib.hid (bound_no hO).1
    clear ho hO
    generalize hyperV F p = h at *
    generalize farV p = f at *
    go_enter Try.func13, Try.ntmps13
    go_wp2_with (first
      | (go_at_call 23; refine CH.out.mono ?_; rintro e w1 ⟨rfl, hb1⟩; rw [HO.out]; obtain ⟨k0, k1, k2, k3, k4, k5⟩ := KS.out _ hb1))
    go_ret2
    exact ⟨ret_tup HV.out.symm HO2.out.symm, bel_thenD B1.out (Nat.le_refl _) hb1⟩
  | true =>
    have HO := Lib.hid ho
    cases hO : boundOk F p with
    | false =>
      have HV := Lib.hid (bound_no hO).1
      have hg : 65536 < hyperV F p + farV p := by
        rcases (bound_no hO).2 with h | h
        · rw [ho] at h; cases h
        · exact h
      clear ho hO
      generalize hyperV F p = h at *
      generalize farV p = f at *
      have S1 : IntKind.i64.wrap (h + f) = h + f := IntWalk.i64_in _ (by omega)
      go_enter Try.func13, Try.ntmps13
      go_wp2_with (first
        | (go_at_call 24; refine (CF.out _ (by assumption)).mono ?_; rintro e w2 ⟨rfl, hb2⟩)
        | (go_at_call 23; refine CH.out.mono ?_; rintro e w1 ⟨rfl, hb1⟩; rw [HO.out]; obtain ⟨k0, k1, k2, k3, k4, k5⟩ := KS.out _ hb1))
      go_ret2
      exact ⟨ret_tup HV.out.symm rfl, bel_thenD (bel_thenD B1.out (Nat.le_refl _) hb1) (Nat.le_refl _) hb2⟩
    | true =>
      have HV := Lib.hid (bound_ok hO).2.2
      have hg := (bound_ok hO).2.1
      clear ho hO
      generalize hyperV F p = h at *
      generalize farV p = f at *
      have S1 : IntKind.i64.wrap (h + f) = h + f := IntWalk.i64_in _ (by omega)
      go_enter Try.func13, Try.ntmps13
      go_wp2_with (first
        | (go_at_call 24; refine (CF.out _ (by exact bel_thenD (by assumption) (Nat.le_refl _) hb2)).mono ?_; rintro e w3 ⟨rfl, hb3⟩)
        | (go_at_call 24; refine (CF.out _ (by assumption)).mono ?_; rintro e w2 ⟨rfl, hb2⟩; obtain ⟨j0, j1, j2, j3, j4, j5⟩ := KS.out _ (bel_thenD (by assumption) (Nat.le_refl _) hb2))
        | (go_at_call 23; refine CH.out.mono ?_; rintro e w1 ⟨rfl, hb1⟩; rw [HO.out]; obtain ⟨k0, k1, k2, k3, k4, k5⟩ := KS.out _ hb1))
      go_ret2
      exact ⟨ret_tup HV.out.symm rfl, bel_thenD (bel_thenD (bel_thenD B1.out (Nat.le_refl _) hb1) (Nat.le_refl _) hb2) (Nat.le_refl _) hb3⟩
end Go.Proofs.Ytdbbdlobahalkaa
