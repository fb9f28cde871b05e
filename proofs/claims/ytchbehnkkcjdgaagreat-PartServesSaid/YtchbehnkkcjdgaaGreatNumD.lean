/- The contract of package num's Lcm, over a list in memory or nil. -/
import Derived.Test.YtchbehnkkcjdgaaGreatNumC
import Derived.WalkSmall
namespace Go.Proofs.YtchbehnkkcjdgaaGreat
open Go.ChangeShapes Go.WideShapes Go.ChangeAt Go.RowKit
set_option linter.unusedVariables false
/-- A slice of ints in memory: empty, or a row of cells. -/
def IntRow (w : World) (a : Option Addr) (len : Nat) (l : List Int) : Prop :=
 (len = 0 ∧ l = []) ∨
 ∃ b off, a = some ⟨b, off, none⟩ ∧ l.length = len ∧ len ≤ maxLen ∧ (∀ i, i < len → w.cell? ⟨b, off + i, none⟩ = some (.int .i64 (l.getD i 0))) ∧ ∀ i, i < len → -9223372036854775808 ≤ l.getD i 0 ∧ l.getD i 0 ≤ 9223372036854775807
theorem IntRow.length {w : World} {a : Option Addr} {len : Nat} {l : List Int} (h : IntRow w a len l) : l.length = len := by
 rcases h with ⟨rfl, rfl⟩ | ⟨b, off, rfl, hl, _⟩
 ·rfl
 ·exact hl
/-- What is made later leaves it as it was. -/
theorem IntRow.later {w w' : World} {a : Option Addr} {len : Nat} {l : List Int} (h : IntRow w a len l) (hb : Below w.heap.size w w') : IntRow w' a len l := by
 rcases h with h | ⟨b, off, rfl, hl, hm, hc, hw⟩
 ·exact .inl h
 ·exact .inr ⟨b, off, rfl, hl, hm, fun i hi => (hb.cell (p := ⟨b, off + i, none⟩) (World.block_lt_of_cell? _ ⟨b, off + i, none⟩ (hc i hi))).trans (hc i hi), hw⟩
theorem IntRow.drewN {w : World} {a : Option Addr} {len : Nat} {l : List Int} (h : IntRow w a len l) (n : Nat) : IntRow (w.drewN n) a len l := by
 exact h.later (below_drewN (Below.refl _ _) n)
theorem numLcm_nil (most : Int) (a : Option Addr) (cap : Nat) (w : World) :
 Calls Tryz.prog 135 #[.int .i64 most, .slice a 0 cap] w fun e w' => e = .returned (.tuple #[.int .i64 (lcmV most []), .bool (lcmOk most [])]) ∧ ∃ n, w' = w.drewN n := by
 by_cases h : most < 1
 ·obtain ⟨h1, h2⟩ := lcm_end_over (most := most) (n := 1) (l := []) rfl h
  have H1 := Lib.hid h1; have H2 := Lib.hid h2; clear h1 h2
  go_enter Tryz.func135, Tryz.ntmps135
  go_wp2
  go_loopw [6, 13] (fun u i wr => u = .int .i64 1 ∧ i = .int .i64 0 ∧ wr = w) (fun _ _ _ => 0)
  case atStart => exact ⟨rfl, rfl, rfl⟩
  case round =>
   obtain ⟨rfl, rfl, rfl⟩ := hrel
   go_wp2
   go_ret2
   exact ⟨ret_tup H1.out.symm H2.out.symm, 0, rfl⟩
 ·obtain ⟨h1, h2⟩ := lcm_end_in (most := most) (n := 1) (l := []) rfl h
  have H1 := Lib.hid h1; have H2 := Lib.hid h2; clear h1 h2
  go_enter Tryz.func135, Tryz.ntmps135
  go_wp2
  go_loopw [6, 13] (fun u i wr => u = .int .i64 1 ∧ i = .int .i64 0 ∧ wr = w) (fun _ _ _ => 0)
  case atStart => exact ⟨rfl, rfl, rfl⟩
  case round =>
   obtain ⟨rfl, rfl, rfl⟩ := hrel
   go_wp2
   go_ret2
   exact ⟨ret_tup H1.out.symm H2.out.symm, 0, rfl⟩
theorem numLcm_row (most : Int) (b off len cap : Nat) (l : List Int) (w : World) (hl : l.length = len) (hm : len ≤ 9223372036854775807)
 (hc : ∀ k, k < len → w.cell? ⟨b, off + k, none⟩ = some (.int .i64 (l.getD k 0))) (hw : ∀ k, k < len → l.getD k 0 ≤ 9223372036854775807) :
 Calls Tryz.prog 135 #[.int .i64 most, .slice (some ⟨b, off, none⟩) len cap] w fun e w' => e = .returned (.tuple #[.int .i64 (lcmV most l), .bool (lcmOk most l)]) ∧ ∃ n, w' = w.drewN n := by
 have HL := Lib.hid hl
 have HC := Lib.hid hc
 have HW := Lib.hid hw
 clear hl hc hw
 go_enter Tryz.func135, Tryz.ntmps135
 go_wp2
 go_loopw [6, 13] (fun u i wr => ∃ (acc : Int) (k : Nat), k ≤ len ∧ u = .int .i64 acc ∧ i = .int .i64 k ∧ 1 ≤ acc ∧ acc ≤ 4611686018427387904 ∧ Hid (lcmRun 1 l = lcmRun acc (l.drop k)) ∧ ∃ n, wr = w.drewN n) (fun _ i _ => len - (intOf i).toNat)
 case atStart => exact ⟨1, 0, by omega, rfl, rfl, by omega, by omega, Lib.hid rfl, 0, rfl⟩
 case round =>
  obtain ⟨acc, k, hk, rfl, rfl, a1, a2, HR, n, rfl⟩ := hrel
  by_cases hlt : k < len
  ·have hcell := HC.out k hlt
   have hx := HW.out k hlt
   have hd := drop_at (l := l) (k := k) (by rw [HL.out]; exact hlt)
   have HD := Lib.hid hd; clear hd
   generalize l.getD k 0 = x at hcell hx HD
   have tk : decide ((k : Int) < (len : Int)) = true := by simpa using hlt
   by_cases hx1 : x < 1
   ·obtain ⟨h1, h2⟩ := lcm_end_none (most := most) (l := l) (by rw [HR.out, HD.out]; exact lcmRun_stop1 hx1)
    have H1 := Lib.hid h1; have H2 := Lib.hid h2; clear h1 h2
    go_wp2
    go_ret2
    exact ⟨ret_tup H1.out.symm H2.out.symm, n, rfl⟩
   ·have x1 : 1 ≤ x := by omega
    obtain ⟨g1, g2, g3⟩ := gcdI_one a1 x1
    obtain ⟨q1, q2⟩ := quo_one a1 x1
    have t1 : decide (x < 1) = false := by simp; omega
    have t2 : (gcdI acc x == 0) = false := by simp; omega
    cases f : mulFits (acc / gcdI acc x) x with
    | false =>
      obtain ⟨h1, h2⟩ := lcm_end_none (most := most) (l := l) (by rw [HR.out, HD.out]; exact lcmRun_stop2 f)
      have H1 := Lib.hid h1; have H2 := Lib.hid h2; clear h1 h2 hx1
      go_wp2_with (first | (go_at_call 177; refine (numGcd_any _ _ _ (by omega) (by omega)).mono ?_; rintro e w' ⟨rfl, n2, rfl⟩) | (go_at_call 176; refine (numMul_any _ _ _).mono ?_; rintro e w' ⟨rfl, rfl⟩))
      go_ret2
      exact ⟨ret_tup H1.out.symm H2.out.symm, _, by first | rfl | exact World.drewN_drewN _ _ _⟩
    | true =>
      have hn := lcmRun_next (l := l.drop (k + 1)) x1 f
      have HN := Lib.hid hn
      obtain ⟨p1, p2⟩ := lcmNext_one a1 x1 f
      have hv : mulTold (acc / gcdI acc x) x = lcmNext acc x := mulTold_t f
      have HV := Lib.hid hv
      clear hn hv hx1
      go_wp2_with (first | (go_at_call 177; refine (numGcd_any _ _ _ (by omega) (by omega)).mono ?_; rintro e w' ⟨rfl, n2, rfl⟩) | (go_at_call 176; refine (numMul_any _ _ _).mono ?_; rintro e w' ⟨rfl, rfl⟩))
      go_roundw
      case rel => exact ⟨lcmNext acc x, k + 1, by omega, by rw [HV.out], by go_num, p1, p2, Lib.hid (by rw [HR.out, HD.out, HN.out]), _, by first | rfl | exact World.drewN_drewN _ _ _⟩
      case measure => simp [intOf]; omega
  ·have hke : k = len := by omega
   have hd := drop_end (l := l) (k := k) (by rw [HL.out]; omega)
   have tk : decide ((k : Int) < (len : Int)) = false := by simp; omega
   have hr : lcmRun 1 l = some acc := by rw [HR.out, hd]; rfl
   clear hd hke
   by_cases hm : most < acc
   ·obtain ⟨h1, h2⟩ := lcm_end_over hr hm
    have H1 := Lib.hid h1; have H2 := Lib.hid h2; clear h1 h2 hr
    go_wp2
    go_ret2
    exact ⟨ret_tup H1.out.symm H2.out.symm, n, rfl⟩
   ·obtain ⟨h1, h2⟩ := lcm_end_in hr hm
    have H1 := Lib.hid h1; have H2 := Lib.hid h2; clear h1 h2 hr
    go_wp2
    go_ret2
    exact ⟨ret_tup H1.out.symm H2.out.symm, n, rfl⟩
theorem numLcm_any (most : Int) (a : Option Addr) (len cap : Nat) (l : List Int) (w : World) (h : IntRow w a len l) :
 Calls Tryz.prog 135 #[.int .i64 most, .slice a len cap] w fun e w' => e = .returned (.tuple #[.int .i64 (lcmV most l), .bool (lcmOk most l)]) ∧ ∃ n, w' = w.drewN n := by
 rcases h with ⟨rfl, rfl⟩ | ⟨b, off, rfl, hl, hm, hc, hw⟩
 ·exact numLcm_nil most a cap w
 ·unfold maxLen at hm
  exact numLcm_row most b off len cap l w hl (by omega) hc (fun k hk => (hw k hk).2)
end Go.Proofs.YtchbehnkkcjdgaaGreat
