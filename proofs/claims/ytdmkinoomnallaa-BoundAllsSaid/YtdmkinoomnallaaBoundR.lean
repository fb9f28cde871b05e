/- The document's Lcm, Hyper, Far and Of. -/
import Derived.Test.YtdmkinoomnallaaBoundP
import Derived.Deep.QuietTactic
import Derived.BigQuiet
import Derived.WalkSmall
namespace Go.Proofs.Ytdmkinoomnallaa
open Go.ChangeShapes Go.WideShapes Go.ChangeAt Go.RowKit
set_option linter.unusedVariables false
attribute [local go_sem ↓] Go.wp_at_zero Go.wp_at_succ

set_option maxRecDepth 100000 in
set_option maxHeartbeats 2000000 in
theorem refLcm_row (most : Int) (b off len cap : Nat) (l : List Int) (w : World) (hl : l.length = len) (hm : len ≤ 4611686018427387904)
    (hc : ∀ k, k < len → w.cell? ⟨b, off + k, none⟩ = some (.int .i64 (l.getD k 0))) (hw : ∀ k, k < len → l.getD k 0 ≤ 9223372036854775807) :
    Calls Try.prog 27 #[.int .i64 most, .slice (some ⟨b, off, none⟩) len cap] w fun e w' => e = .returned (.tuple #[.int .i64 (lcmV most l), .bool (lcmOk most l)]) ∧ ∃ n, w' = w.drewN n := by
  have HL := Lib.hid hl
  have HC := Lib.hid hc
  have HW := Lib.hid hw
  clear hl hc hw
  go_enter Try.func27, Try.ntmps27
  go_wp2
  go_loopw [6, 7] (fun u i wr => ∃ (acc : Int) (k : Nat), k ≤ len ∧ u = .int .i64 acc ∧ i = .int .i64 k ∧ 1 ≤ acc ∧ acc ≤ 4611686018427387904 ∧ Hid (lcmRun 1 l = lcmRun acc (l.drop k)) ∧ ∃ n, wr = w.drewN n) (fun _ i _ => len - (intOf i).toNat)
  case atStart => exact ⟨1, 0, by omega, rfl, rfl, by omega, by omega, Lib.hid rfl, 0, rfl⟩
  case round =>
    obtain ⟨acc, k, hk, rfl, rfl, a1, a2, HR, n, hwr⟩ := hrel
    have HWR := Lib.hid hwr
    by_cases hlt : k < len
    · have hcell : wr.cell? ⟨b, off + k, none⟩ = some (.int .i64 (l.getD k 0)) := by rw [hwr]; exact HC.out k hlt
      clear hwr
      have hx := HW.out k hlt
      have hd := drop_at (l := l) (k := k) (by rw [HL.out]; exact hlt)
      have HD := Lib.hid hd; clear hd
      generalize l.getD k 0 = x at hcell hx HD
      have tk : decide ((k : Int) < (len : Int)) = true := by simpa using hlt
      have l0 : (0 : Int) ≤ (k : Int) := by omega
      have l1 : (k : Int) < (len : Int) := by omega
      by_cases hx1 : x < 1
      · obtain ⟨h1, h2⟩ := lcm_end_none (most := most) (l := l) (by rw [HR.out, HD.out]; exact lcmRun_stop1 hx1)
        have H1 := Lib.hid h1; have H2 := Lib.hid h2; clear h1 h2
        go_wp2
        go_ret2
        exact ⟨ret_tup H1.out.symm H2.out.symm, n, HWR.out⟩
      · have x1 : 1 ≤ x := by omega
        obtain ⟨g1, g2, g3⟩ := gcdI_one a1 x1
        obtain ⟨q1, q2⟩ := quo_two a1 x1
        have t1 : decide (x < 1) = false := by simp; omega
        have FS := Lib.hid (fits_swap a1 x1 a2)
        have LS := Lib.hid (lcm_swap a1 x1)
        obtain ⟨g, hg⟩ : ∃ g, g = gcdI acc x := ⟨_, rfl⟩
        have hg' : gcdI acc x = g := hg.symm
        have t2 : (g == 0) = false := by simp; omega
        have t3 : ¬ g = 0 := by omega
        have e1 : x.tdiv g = x / g := Int.tdiv_eq_ediv_of_nonneg (by omega)
        obtain ⟨q, hq⟩ : ∃ q, q = x / g := ⟨_, rfl⟩
        rw [hg', ← hq] at FS LS q1 q2
        rw [← hq] at e1
        have e3 : x / g = q := hq.symm
        have e2 : IntKind.i64.wrap q = q := IntWalk.i64_in _ (by omega)
        have HGG := Lib.hid hg'
        have HGC : Hid (∀ W : World, Calls Try.prog 41 #[.int .i64 acc, .int .i64 x] W fun e w' => e = .returned (.int .i64 g) ∧ ∃ m, w' = W.drewN m) := Lib.hid fun W => by
          rw [← hg']; exact refGcd_any acc x W (by omega) (by omega)
        rw [hg'] at g1 g2 g3
        clear hg hq hg'
        cases f : mulFits (acc / gcdI acc x) x with
        | false =>
          obtain ⟨h1, h2⟩ := lcm_end_none (most := most) (l := l) (by rw [HR.out, HD.out]; exact lcmRun_stop2 f)
          have H1 := Lib.hid h1; have H2 := Lib.hid h2; clear h1 h2 hx1
          have HM : Hid (mulFits acc q = false) := Lib.hid (FS.out.trans (by rw [← HGG.out]; exact f))
          clear FS LS f
          go_wp2_with fail
          go_quiet (first | (go_at_call 41; exact Calls.quiet_of (HGC.out _)))
          go_wp2_with (first | (go_at_call 42; refine (refMul_any _ _ _).mono ?_; rintro e w' ⟨rfl, rfl⟩; rw [HM.out]))
          go_ret2
          exact ⟨ret_tup H1.out.symm H2.out.symm, n + nq, by rw [HWR.out, World.drewN_drewN]⟩
        | true =>
          have hn := lcmRun_next (l := l.drop (k + 1)) x1 f
          have HN := Lib.hid hn
          obtain ⟨p1, p2⟩ := lcmNext_one a1 x1 f
          have HM : Hid (mulFits acc q = true) := Lib.hid (FS.out.trans (by rw [← HGG.out]; exact f))
          have HV : Hid (mulTold acc q = lcmNext acc x) := Lib.hid ((mulTold_t HM.out).trans LS.out)
          clear FS LS f hn hx1
          by_cases hp : most < lcmNext acc x
          · obtain ⟨h1, h2⟩ := lcm_end_past (most := most) (l := l) (by rw [HR.out, HD.out, HN.out]) p1 p2 hp
            have H1 := Lib.hid h1; have H2 := Lib.hid h2; clear h1 h2
            generalize lcmNext acc x = y at *
            have tp : decide (most < y) = true := by simpa using hp
            go_wp2_with fail
            go_quiet (first | (go_at_call 41; exact Calls.quiet_of (HGC.out _)))
            go_wp2_with (first | (go_at_call 42; refine (refMul_any _ _ _).mono ?_; rintro e w' ⟨rfl, rfl⟩; rw [HM.out, HV.out]))
            go_ret2
            exact ⟨ret_tup H1.out.symm H2.out.symm, n + nq, by rw [HWR.out, World.drewN_drewN]⟩
          · have tp : decide (most < lcmNext acc x) = false := by simp; omega
            generalize lcmNext acc x = y at *
            go_wp2_with fail
            go_quiet (first | (go_at_call 41; exact Calls.quiet_of (HGC.out _)))
            go_wp2_with (first | (go_at_call 42; refine (refMul_any _ _ _).mono ?_; rintro e w' ⟨rfl, rfl⟩; rw [HM.out, HV.out]))
            go_roundw
            case rel => exact ⟨y, k + 1, by omega, rfl, by go_num, p1, p2, Lib.hid (by rw [HR.out, HD.out, HN.out]), n + nq, by rw [HWR.out, World.drewN_drewN]⟩
            case measure => simp [intOf]; omega
    · clear hwr
      have hke : k = len := by omega
      have hd := drop_end (l := l) (k := k) (by rw [HL.out]; omega)
      have tk : decide ((k : Int) < (len : Int)) = false := by simp; omega
      have hr : lcmRun 1 l = some acc := by rw [HR.out, hd]; rfl
      clear hd hke
      by_cases hm : most < acc
      · obtain ⟨h1, h2⟩ := lcm_end_over hr hm
        have H1 := Lib.hid h1; have H2 := Lib.hid h2; clear h1 h2 hr
        go_wp2
        go_ret2
        exact ⟨ret_tup H1.out.symm H2.out.symm, n, HWR.out⟩
      · obtain ⟨h1, h2⟩ := lcm_end_in hr hm
        have H1 := Lib.hid h1; have H2 := Lib.hid h2; clear h1 h2 hr
        go_wp2
        go_ret2
        exact ⟨ret_tup H1.out.symm H2.out.symm, n, HWR.out⟩
theorem refLcm_nil (most : Int) (a : Option Addr) (cap : Nat) (w : World) :
    Calls Try.prog 27 #[.int .i64 most, .slice a 0 cap] w fun e w' => e = .returned (.tuple #[.int .i64 (lcmV most []), .bool (lcmOk most [])]) ∧ ∃ n, w' = w.drewN n := by
  by_cases h : most < 1
  · obtain ⟨h1, h2⟩ := lcm_end_over (most := most) (n := 1) (l := []) rfl h
    have H1 := Lib.hid h1; have H2 := Lib.hid h2; clear h1 h2
    go_enter Try.func27, Try.ntmps27
    go_wp2
    go_loopw [6, 7] (fun u i wr => u = .int .i64 1 ∧ i = .int .i64 0 ∧ wr = w) (fun _ _ _ => 0)
    case atStart => exact ⟨rfl, rfl, rfl⟩
    case round =>
      obtain ⟨rfl, rfl, rfl⟩ := hrel
      go_wp2
      go_ret2
      exact ⟨ret_tup H1.out.symm H2.out.symm, 0, rfl⟩
  · obtain ⟨h1, h2⟩ := lcm_end_in (most := most) (n := 1) (l := []) rfl h
    have H1 := Lib.hid h1; have H2 := Lib.hid h2; clear h1 h2
    go_enter Try.func27, Try.ntmps27
    go_wp2
    go_loopw [6, 7] (fun u i wr => u = .int .i64 1 ∧ i = .int .i64 0 ∧ wr = w) (fun _ _ _ => 0)
    case atStart => exact ⟨rfl, rfl, rfl⟩
    case round =>
      obtain ⟨rfl, rfl, rfl⟩ := hrel
      go_wp2
      go_ret2
      exact ⟨ret_tup H1.out.symm H2.out.symm, 0, rfl⟩
theorem refLcm_any (most : Int) (a : Option Addr) (len cap : Nat) (l : List Int) (w : World) (h : IntRow w a len l) (h2 : len ≤ 4611686018427387904) :
    Calls Try.prog 27 #[.int .i64 most, .slice a len cap] w fun e w' => e = .returned (.tuple #[.int .i64 (lcmV most l), .bool (lcmOk most l)]) ∧ ∃ n, w' = w.drewN n := by
  rcases h with ⟨rfl, rfl⟩ | ⟨b, off, rfl, hl, hm, hc, hw⟩
  · exact refLcm_nil most a cap w
  · exact refLcm_row most b off len cap l w hl h2 hc (fun k hk => (hw k hk).2)
end Go.Proofs.Ytdmkinoomnallaa
