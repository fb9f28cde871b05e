/- HealthNames. -/
import Derived.Test.YtndpodkgdinijaaHealM
import Derived.Test.YtndpodkgdinijaaRead
namespace Go.Proofs.Ytndpodkgdinijaa
open Go.ChangeShapes Go.WideShapes Go.ChangeAt Go.RowKit
set_option linter.unusedVariables false
set_option linter.unusedSimpArgs false

theorem eqInA3 (a b c : Int) (w : World) : (Op.equalIn 10000 22 (.agg #[.int .u8 a, .int .u8 b, .int .u8 c]) (.agg #[.int .u8 a, .int .u8 b, .int .u8 c])).run Try.prog w = .ok true w := by
  have hc : Try.prog.cellsOf 5 = 1 := by kernel_rfl
  obtain ⟨i, hi⟩ : ∃ i, Try.prog.info? 5 = some i := Option.isSome_iff_exists.1 (by kernel_rfl)
  rw [show (10000 : Nat) = 9999 + 1 from rfl, run_equalIn_array w 9999 _ _ Try.underlying22 hi, hc]
  have rI := fun (a b : Int) => run_equalIn_int (P := Try.prog) w 9998 5 .u8 .u8 a b Try.underlying5
  have r3 : List.range 3 = [0, 1, 2] := rfl
  simp [Op.eqItems, part, r3, rI, hc]

set_option maxRecDepth 100000 in
set_option maxHeartbeats 8000000 in
theorem knows22_any (w : World) : Calls Try.prog 5 #[] w fun e w' => e = .returned (.bool true) ∧ Below w.heap.size w w' := by
  go_enter Try.func5, Try.ntmps5
  go_upto_region 2 with (first
    | (go_at_call 6; refine (hnew_yes _ 0 1 2 rfl).mono ?_; rintro e w2 ⟨H, rfl, h0', hH', hb0'⟩; have h0 := Lib.hid h0'; have hb0 := Lib.hid hb0'; have hH := Lib.hid hH'; clear h0' hb0' hH')
    | fail "no arm")
  have HF := Lib.hid (hfault_1 w2 H 0 1 2 0 0 0 h0.out (by omega))
  go_wp2_with (first
    | (go_at_call 12; refine (hcount_1 _ H 0 1 2 0 (0 + 1) 0 h1.out).mono ?_; rintro e w9 ⟨rfl, hw9⟩; rw [hw9]; clear hw9)
    | (go_at_call 8; refine HF.out.mono ?_; rintro e w3 ⟨rfl, h1', hb1'⟩; have h1 := Lib.hid h1'; have hb1 := Lib.hid hb1'; clear h1' hb1')
    | (go_at_call 10; refine (hnum_any _ _).mono ?_; rintro e w9 ⟨rfl, hw9⟩; rw [hw9]; clear hw9)
    | (go_at_call 13; refine (hname_any _ 1).mono ?_; rintro e w9 ⟨rfl, hw9⟩; rw [hw9, show nameV 1 = [111, 118, 101, 114, 114, 117, 110] from rfl]; clear hw9)
    | (go_at_call 15; refine (hdoes_any _ 2).mono ?_; rintro e w9 ⟨rfl, hw9⟩; rw [hw9, show doesV 2 = [97, 103, 97, 105, 110] from rfl]; clear hw9)
    | fail "no arm")
  go_ret
  exact ⟨rfl, hb0.out.trans (hb1.out.below hH.out hb0.out.size)⟩

set_option maxRecDepth 100000 in
set_option maxHeartbeats 8000000 in
theorem HealthNames_walk (k act : Int) (w : World) (hk : I64 k) (h0 : 0 ≤ act) : Calls Try.prog 4 #[.int .i64 k, .int .u8 act] w fun e w' => e = .returned (.bool true) ∧ Below w.heap.size w w' := by
  have HF := Lib.hid (fun W : World => hfault_no W none k (Lib.hid (hknows_nil W k)))
  have HC := Lib.hid (fun W : World => hcount_no W none k (Lib.hid (hknows_nil W k)))
  have HE : ∀ W : World, (Op.equalIn 10000 22 (.agg #[.int .u8 0, .int .u8 0, .int .u8 0]) (.agg #[.int .u8 0, .int .u8 0, .int .u8 0])).run Try.prog W = .ok true W := fun W => eqInA3 0 0 0 W
  have hM : Try.prog.eqGuardType Try.prog.depth 22 = false := by kernel_rfl
  obtain ⟨N, hN⟩ : ∃ N, N = (nameV k).toArray := ⟨_, rfl⟩
  obtain ⟨D, hD⟩ : ∃ D, D = (doesV act).toArray := ⟨_, rfl⟩
  have HN := Lib.hid hN
  have HD := Lib.hid hD
  have H0 := Lib.hid h0
  clear hN hD h0 hk
  go_enter Try.func4, Try.ntmps4
  go_wp2_with (first
    | (go_at_call 10; refine (hnum_any _ _).mono ?_; rintro e w9 ⟨rfl, hw9⟩; rw [hw9]; clear hw9)
    | (go_at_call 8; refine (HF.out _).mono ?_; rintro e w9 ⟨rfl, hw9⟩; rw [hw9]; clear hw9)
    | (go_at_call 12; refine (HC.out _).mono ?_; rintro e w9 ⟨rfl, hw9⟩; rw [hw9]; clear hw9)
    | (go_at_call 13; refine (hname_any _ k).mono ?_; rintro e w9 ⟨rfl, hw9⟩; rw [hw9, ← HN.out]; clear hw9)
    | (go_at_call 15; refine (hdoes_any _ act).mono ?_; rintro e w9 ⟨rfl, hw9⟩; rw [hw9, ← HD.out]; clear hw9)
    | (go_at_call 5; have _z := b4; refine (knows22_any _).mono ?_; rintro e w5 ⟨rfl, b5'⟩; have b5 := Lib.hid (b4.out.trans (b5'.mono b4.out.size)); clear b5')
    | (go_at_call 11; have _z := b3; refine (hacts_nil _).mono ?_; rintro e w4 ⟨rfl, b4'⟩; have b4 := Lib.hid (b3.out.trans (b4'.mono b3.out.size)); clear b4')
    | (go_at_call 16; have _z := b2; refine (rdoes_any _ act H0.out).mono ?_; rintro e w3 ⟨rfl, b3'⟩; rw [← HD.out]; have b3 := Lib.hid (b2.out.trans (b3'.mono b2.out.size)); clear b3')
    | (go_at_call 14; refine (rname_any _ k).mono ?_; rintro e w2 ⟨rfl, b2'⟩; rw [← HN.out]; have b2 := Lib.hid b2'; clear b2')
    | fail "no arm")
  go_ret
  exact ⟨rfl, b5.out⟩

end Go.Proofs.Ytndpodkgdinijaa
