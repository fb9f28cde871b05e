/- The program's wheel: what only reads: made, a number, Now, Len, When; a slot's place. -/
import Derived.Test.YtbjhoncojegjiaaDoorWheelF
import Derived.BigQuiet
namespace Go.Proofs.YtbjhoncojegjiaaDoor
open Go.ChangeShapes Go.WideShapes Go.ChangeAt Go.RowKit
set_option linter.unusedVariables false

set_option maxRecDepth 100000 in
theorem isMade_nil (w : World) : Calls Tryd.prog 27 #[.pointer none] w fun e w' => e = .returned (.bool false) ∧ w' = w := by
  go_enter Tryd.func27, Tryd.ntmps27
  go_wp2
  go_ret
  exact ⟨rfl, rfl⟩
set_option maxRecDepth 100000 in
theorem isMade_any (w : World) (H : Nat) (m : Bool) (h : w.cell? ⟨H, 0, none⟩ = some (.bool m)) : Calls Tryd.prog 27 #[.pointer (some ⟨H, 0, none⟩)] w fun e w' => e = .returned (.bool m) ∧ w' = w := by
  go_enter Tryd.func27, Tryd.ntmps27
  go_wp2
  go_ret
  exact ⟨rfl, rfl⟩
/-- What isMade answers of a pointer. -/
def MadeIs (p : Option Addr) (m : Bool) (w : World) : Prop := Calls Tryd.prog 27 #[.pointer p] w fun e w' => e = .returned (.bool m) ∧ w' = w
set_option maxRecDepth 100000 in
theorem isNumber_no (w : World) (p : Option Addr) (h : MadeIs p false w) (id : Int) : Calls Tryd.prog 23 #[.pointer p, .int .i64 id] w fun e w' => e = .returned (.bool false) ∧ w' = w := by
  have HM := Lib.hid h; clear h
  go_enter Tryd.func23, Tryd.ntmps23
  go_wp2_with (go_at_call 27; refine HM.out.mono ?_; rintro e w3 ⟨rfl, rfl⟩)
  go_ret
  exact ⟨rfl, rfl⟩
set_option maxRecDepth 100000 in
theorem isNumber_any (w : World) (p : Option Addr) (h : MadeIs p true w) (id : Int) : Calls Tryd.prog 23 #[.pointer p, .int .i64 id] w fun e w' => e = .returned (.bool (inT id)) ∧ w' = w := by
  have HM := Lib.hid h; clear h
  by_cases h0 : 0 ≤ id
  · have t0 : decide (0 ≤ id) = true := decide_eq_true h0
    have HI : Hid (decide (id < 256) = inT id) := Lib.hid (by unfold inT; rw [t0, Bool.true_and])
    go_enter Tryd.func23, Tryd.ntmps23
    go_wp2_with (go_at_call 27; refine HM.out.mono ?_; rintro e w3 ⟨rfl, rfl⟩)
    go_ret
    exact ⟨by rw [← HI.out]; rfl, rfl⟩
  · have t0 : decide (0 ≤ id) = false := decide_eq_false h0
    have HI : Hid (inT id = false) := Lib.hid (by unfold inT; rw [t0, Bool.false_and])
    go_enter Tryd.func23, Tryd.ntmps23
    go_wp2_with (go_at_call 27; refine HM.out.mono ?_; rintro e w3 ⟨rfl, rfl⟩)
    go_ret
    exact ⟨by rw [HI.out]; rfl, rfl⟩
set_option maxRecDepth 100000 in
theorem nowW_no (w : World) (p : Option Addr) (h : MadeIs p false w) : Calls Tryd.prog 20 #[.pointer p] w fun e w' => e = .returned (.int .i64 0) ∧ w' = w := by
  have HM := Lib.hid h; clear h
  go_enter Tryd.func20, Tryd.ntmps20
  go_wp2_with (go_at_call 27; refine HM.out.mono ?_; rintro e w3 ⟨rfl, rfl⟩)
  go_ret
  exact ⟨rfl, rfl⟩
set_option maxRecDepth 100000 in
theorem lenW_no (w : World) (p : Option Addr) (h : MadeIs p false w) : Calls Tryd.prog 21 #[.pointer p] w fun e w' => e = .returned (.int .i64 0) ∧ w' = w := by
  have HM := Lib.hid h; clear h
  go_enter Tryd.func21, Tryd.ntmps21
  go_wp2_with (go_at_call 27; refine HM.out.mono ?_; rintro e w3 ⟨rfl, rfl⟩)
  go_ret
  exact ⟨rfl, rfl⟩
set_option maxRecDepth 100000 in
theorem goW_no (w : World) (p : Option Addr) (h : ∀ Y, Below w.heap.size w Y → MadeIs p false Y) : Calls Tryd.prog 16 #[.pointer p] w fun e w' => e = .returned (.slice none 0 0) ∧ Below w.heap.size w w' := by
  have HM := Lib.hid (h _ (below1 w (.cells #[.pointer p] 24))); clear h
  go_enter Tryd.func16, Tryd.ntmps16
  go_wp2_with (go_at_call 27; refine HM.out.mono ?_; rintro e w3 ⟨rfl, hw3⟩; rw [hw3]; clear hw3)
  go_ret
  exact ⟨rfl, below1 _ _⟩
set_option maxRecDepth 100000 in
theorem setW_no (w : World) (p : Option Addr) (h : MadeIs p false w) (id tick : Int) : Calls Tryd.prog 11 #[.pointer p, .int .i64 id, .int .i64 tick] w fun e w' => e = .returned (.int .i64 1) ∧ w' = w := by
  have HM := Lib.hid (isNumber_no w p h id); clear h
  go_enter Tryd.func11, Tryd.ntmps11
  go_wp2_with (go_at_call 23; refine HM.out.mono ?_; rintro e w3 ⟨rfl, rfl⟩)
  go_ret
  exact ⟨rfl, rfl⟩
set_option maxRecDepth 100000 in
theorem whenW_no (w : World) (p : Option Addr) (h : MadeIs p false w) (id : Int) : Calls Tryd.prog 18 #[.pointer p, .int .i64 id] w fun e w' => e = .returned (.tuple #[.int .i64 0, .bool false]) ∧ w' = w := by
  have HM := Lib.hid (isNumber_no w p h id); clear h
  go_enter Tryd.func18, Tryd.ntmps18
  go_wp2_with (go_at_call 23; refine HM.out.mono ?_; rintro e w3 ⟨rfl, rfl⟩)
  go_ret2
  exact ⟨rfl, rfl⟩
set_option maxRecDepth 100000 in
theorem cancelW_no (w : World) (p : Option Addr) (h : MadeIs p false w) (id : Int) : Calls Tryd.prog 13 #[.pointer p, .int .i64 id] w fun e w' => e = .returned (.bool false) ∧ w' = w := by
  have HM := Lib.hid (whenW_no w p h id); clear h
  go_enter Tryd.func13, Tryd.ntmps13
  go_wp2_with (go_at_call 18; refine HM.out.mono ?_; rintro e w3 ⟨rfl, rfl⟩)
  go_ret
  exact ⟨rfl, rfl⟩
section
variable {w : World} {H : Nat} {now len : Int} {y : Nat → Int} {sl : Nat → Value}
theorem WCells.madeIs (h : WCells w H true now len y sl) : MadeIs (some ⟨H, 0, none⟩) true w := isMade_any w H true h.made
set_option maxRecDepth 100000 in
theorem nowW_any (h : WCells w H true now len y sl) : Calls Tryd.prog 20 #[.pointer (some ⟨H, 0, none⟩)] w fun e w' => e = .returned (.int .i64 now) ∧ w' = w := by
  have HM := Lib.hid h.madeIs
  have c0 := h.now_.1
  clear h
  go_enter Tryd.func20, Tryd.ntmps20
  go_wp2_with (go_at_call 27; refine HM.out.mono ?_; rintro e w3 ⟨rfl, rfl⟩)
  go_ret
  exact ⟨rfl, rfl⟩
set_option maxRecDepth 100000 in
theorem lenW_any (h : WCells w H true now len y sl) : Calls Tryd.prog 21 #[.pointer (some ⟨H, 0, none⟩)] w fun e w' => e = .returned (.int .i64 len) ∧ w' = w := by
  have HM := Lib.hid h.madeIs
  have c0 := h.len_.1
  clear h
  go_enter Tryd.func21, Tryd.ntmps21
  go_wp2_with (go_at_call 27; refine HM.out.mono ?_; rintro e w3 ⟨rfl, rfl⟩)
  go_ret
  exact ⟨rfl, rfl⟩
/-- The tick of a number: 0, it is not set. -/
def yV (y : Nat → Int) (id : Int) : Int := if inT id then y id.toNat else 0
theorem inT_nat {id : Int} (h : inT id = true) : ∃ i : Nat, id = i ∧ i < 256 := by
  simp only [inT, Bool.and_eq_true, decide_eq_true_eq] at h
  exact ⟨id.toNat, by omega, by omega⟩
set_option maxRecDepth 100000 in
theorem whenW_any (h : WCells w H true now len y sl) (id : Int) : Calls Tryd.prog 18 #[.pointer (some ⟨H, 0, none⟩), .int .i64 id] w fun e w' => e = .returned (.tuple #[.int .i64 (yV y id), .bool (!(yV y id == 0))]) ∧ w' = w := by
  cases hin : inT id with
  | false =>
    have HM := Lib.hid (isNumber_any w _ h.madeIs id)
    rw [hin] at HM
    have HV : Hid (yV y id = 0) := Lib.hid (by simp [yV, hin])
    clear h hin
    go_enter Tryd.func18, Tryd.ntmps18
    go_wp2_with (go_at_call 23; refine HM.out.mono ?_; rintro e w3 ⟨rfl, rfl⟩)
    go_ret2
    rw [HV.out]
    exact ⟨rfl, rfl⟩
  | true =>
    have HM := Lib.hid (isNumber_any w _ h.madeIs id)
    rw [hin] at HM
    obtain ⟨i, rfl, hi⟩ := inT_nat hin
    have HV : Hid (yV y (i : Int) = y i) := Lib.hid (by simp [yV, hin])
    obtain ⟨c0, _⟩ := h.tick hi
    have i0 : (0 : Int) ≤ (i : Int) := by omega
    have i1 : (i : Int) < 256 := by omega
    have i2 : i < 256 := hi
    obtain ⟨v, hv⟩ : ∃ v, v = y i := ⟨_, rfl⟩
    rw [← hv] at c0 HV
    clear h hv hin
    rw [HV.out]
    cases hz : (v == 0) with
    | true =>
      have hv0 : v = 0 := by simpa using hz
      have HZ := Lib.hid hv0
      clear hv0
      go_enter Tryd.func18, Tryd.ntmps18
      go_wp2_with (go_at_call 23; refine HM.out.mono ?_; rintro e w3 ⟨rfl, rfl⟩)
      go_ret2
      rw [HZ.out]
      exact ⟨rfl, rfl⟩
    | false =>
      go_enter Tryd.func18, Tryd.ntmps18
      go_wp2_with (go_at_call 23; refine HM.out.mono ?_; rintro e w3 ⟨rfl, rfl⟩)
      go_ret2
      exact ⟨rfl, rfl⟩
end
theorem i64_xor_nat (a b : Nat) (ha : a < 9223372036854775808) (hb : b < 9223372036854775808) : bits .xor .i64 (a : Int) (b : Int) = ((a ^^^ b : Nat) : Int) := by
  have hx : a ^^^ b < 2 ^ 63 := Nat.xor_lt_two_pow (by omega) (by omega)
  have h1 : (BitVec.ofInt 64 (a : Int)).toNat = a := by
    rw [BitVec.ofInt_natCast, BitVec.toNat_ofNat]; exact Nat.mod_eq_of_lt (by omega)
  have h2 : (BitVec.ofInt 64 (b : Int)).toNat = b := by
    rw [BitVec.ofInt_natCast, BitVec.toNat_ofNat]; exact Nat.mod_eq_of_lt (by omega)
  show IntKind.i64.wrap ((BitVec.ofInt 64 (a : Int) ^^^ BitVec.ofInt 64 (b : Int)).toNat : Int) = _
  rw [BitVec.toNat_xor, h1, h2]
  simp [IntKind.wrap, IntKind.bits, IntKind.signed]
  omega
set_option maxRecDepth 100000 in
set_option maxHeartbeats 2000000 in
/-- A slot's place. -/
theorem at_any (w : World) (H t lv : Nat) (hl : lv < 16) : Calls Tryd.prog 31 #[.pointer (some ⟨H, 259, none⟩), .int .i64 t, .int .i64 lv] w fun e w' => e = .returned (.pointer (some ⟨H, 259 + (16 * lv + t / 16 ^ lv % 16), none⟩)) ∧ ∃ q, w' = w.drewN q := by
  obtain ⟨d, hd⟩ : ∃ d, d = t / 16 ^ lv % 16 := ⟨_, rfl⟩
  rw [← hd]
  have l0 : (0 : Int) ≤ (lv : Int) := by omega
  have l1 : (lv : Int) < 16 := by omega
  have l2 : lv < 16 := hl
  have l3 : (0 : Int) ≤ (lv : Int) * 4 := by omega
  have d0 : (0 : Int) ≤ (d : Int) := by omega
  have d1 : (d : Int) < 16 := by omega
  have d2 : d < 16 := by omega
  have m0 : min ((lv : Int) * 4).toNat 64 = lv * 4 := by omega
  have e0 : ((t : Int) / 2 ^ (lv * 4)).tmod 16 = (d : Int) := by
    rw [hd, p16, Nat.mul_comm 4 lv]
    rw [Int.tmod_eq_emod_of_nonneg (Int.ediv_nonneg (by omega) (Int.pow_nonneg (by omega)))]
    simp
  have HE : Hid (259 + lv * 16 + d = 259 + (16 * lv + d)) := Lib.hid (by omega)
  clear hd
  go_enter Tryd.func31, Tryd.ntmps31
  go_wp2_with fail
  go_quiet (fail)
  go_wp2
  go_ret
  exact ⟨by rw [HE.out]; rfl, _, rfl⟩
end Go.Proofs.YtbjhoncojegjiaaDoor
