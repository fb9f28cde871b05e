/- The program's wheel: a tick's slot, and the one whose turn comes. -/
import Derived.Test.YtbjhoncojegjiaaDoorWheelI
namespace Go.Proofs.YtbjhoncojegjiaaDoor
open Go.ChangeShapes Go.WideShapes Go.ChangeAt Go.RowKit
set_option linter.unusedVariables false

set_option maxRecDepth 100000 in
set_option maxHeartbeats 200000 in
theorem slot_any (w : World) (H a b : Nat) (ha : a < 2 ^ 63) (hb : b < 2 ^ 63) (hab : a ≠ b) : Calls Tryd.prog 24 #[.pointer (some ⟨H, 259, none⟩), .int .i64 a, .int .i64 b] w fun e w' => e = .returned (.pointer (some ⟨H, 259 + slotK a b, none⟩)) ∧ ∃ q, w' = w.drewN q := by
  have hx := i64_xor_nat a b (by omega) (by omega)
  obtain ⟨x, hxe⟩ : ∃ x, x = a ^^^ b := ⟨_, rfl⟩
  have hx63 : x < 2 ^ 63 := by rw [hxe]; exact Nat.xor_lt_two_pow ha hb
  have hb63 := (bitLen_le (x := x) (by omega) 63).2 hx63
  have hb1 : 1 ≤ Lib.bitLen x := by
    have h1 := (bitLen_le (x := x) (by omega) 0)
    have h2 : ¬ x < 2 ^ 0 := by rw [hxe, xor_lt]; simpa using hab
    omega
  have HA := Lib.hid (at_any w H b (lev a b) (lev_lt ha hb))
  have HS : Hid (16 * lev a b + b / 16 ^ lev a b % 16 = slotK a b) := Lib.hid rfl
  rw [HS.out] at HA
  have hlev : lev a b = (Lib.bitLen x - 1) / 4 := by unfold lev; rw [← hxe]
  rw [← hxe] at hx
  obtain ⟨n, hn⟩ : ∃ n, n = Lib.bitLen x := ⟨_, rfl⟩
  have HN := Lib.hid hn
  have hlv : ((n : Int) - 1).tdiv 4 = ((lev a b : Nat) : Int) := by
    rw [hlev, ← hn, Int.tdiv_eq_ediv_of_nonneg (by omega)]
    omega
  have hwl : wrap64 ((lev a b : Nat) : Int) = (lev a b : Nat) := IntWalk.wrap64_in _ (by have := lev_lt ha hb; constructor <;> omega)
  generalize lev a b = lv at HA hlv hwl
  have HL := Lib.hid (fun W => Tryd.len_any (x : Int) W (by omega) (by omega))
  have hu : IntKind.u64.wrap (x : Int) = (x : Int) := by rw [IntKind.wrap_u64]; omega
  have n0 : 1 ≤ n := by omega
  have n1 : n ≤ 63 := by omega
  clear hn hxe hx63 hb63 hb1 HS hlev ha hb hab
  go_enter Tryd.func24, Tryd.ntmps24
  go_wp2_with (first
    | (go_at_call 31; refine HA.out.mono ?_; rintro e w4 ⟨rfl, q, hw4⟩)
    | (go_at_call 32; refine (HL.out _).mono ?_; rintro e w3 ⟨rfl, hw3⟩; rw [hw3, Int.toNat_natCast, ← HN.out]; clear hw3)
    | fail "no arm")
  go_ret
  exact ⟨rfl, q, by first | rfl | exact hw4⟩
set_option maxRecDepth 100000 in
set_option maxHeartbeats 200000 in
theorem turn_any (w : World) (H n : Nat) (h0 : n ≠ 0) (hn : n < 2 ^ 63) (hT : TabAt 1 Lib.deBruijn64tab w) : Calls Tryd.prog 28 #[.pointer (some ⟨H, 259, none⟩), .int .i64 n] w fun e w' => e = .returned (.pointer (some ⟨H, 259 + turnK n, none⟩)) ∧ ∃ q, w' = w.drewN q := by
  have HA := Lib.hid (at_any w H n (tlev n) (tlev_lt h0 (by omega)))
  have HS : Hid (16 * tlev n + n / 16 ^ tlev n % 16 = turnK n) := Lib.hid rfl
  rw [HS.out] at HA
  obtain ⟨c, hc⟩ : ∃ c, c = Lib.ctz 64 n := ⟨_, rfl⟩
  have HC := Lib.hid hc
  have c1 : c < 64 := by
    obtain ⟨_, _, h⟩ := ctz_spec h0 (by omega)
    rw [hc]; exact h
  have hlv : (c : Int).tdiv 4 = ((tlev n : Nat) : Int) := by
    unfold tlev
    rw [← hc, Int.tdiv_eq_ediv_of_nonneg (by omega)]
    omega
  have hwl : wrap64 ((tlev n : Nat) : Int) = (tlev n : Nat) := IntWalk.wrap64_in _ (by have := tlev_lt h0 (by omega : n < 2 ^ 64); constructor <;> omega)
  generalize tlev n = lv at HA hlv hwl
  have HL := Lib.hid (Tryd.tz_any n (by omega) w hT)
  have hu : IntKind.u64.wrap (n : Int) = (n : Int) := by rw [IntKind.wrap_u64]; omega
  clear hc HS hT h0 hn
  go_enter Tryd.func28, Tryd.ntmps28
  go_wp2_with (first
    | (go_at_call 31; refine HA.out.mono ?_; rintro e w4 ⟨rfl, q, hw4⟩)
    | (go_at_call 35; refine HL.out.mono ?_; rintro e w3 ⟨rfl, hw3⟩; rw [hw3, ← HC.out]; clear hw3)
    | fail "no arm")
  go_ret
  exact ⟨rfl, q, by first | rfl | exact hw4⟩
end Go.Proofs.YtbjhoncojegjiaaDoor
