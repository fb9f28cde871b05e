/- RefillNil, out of the contracts. -/
import Derived.Test.YtiioodpofdlkhaaRefillC
import Derived.Test.YtiioodpofdlkhaaBuild
namespace Go.Proofs.Ytiioodpofdlkhaa
open Go.ChangeShapes Go.WideShapes Go.ChangeAt Go.RowKit
set_option linter.unusedVariables false

/-- The cells of a budget that nobody made (of the program's own make: to be written anew for each). -/
def zc18 : Array Value := #[.slice none 0 0, .bool false, .int .i64 0, .int .i64 0, .int .i64 0, .int .i64 0, .int .i64 0, .bool false]
set_option maxRecDepth 100000 in
theorem built_zero18 : Try.prog.built 46 [] = some zc18 := by kernel_rfl
/-- The contracts of a budget that nobody made. -/
structure RefillNo where
  No : World → Option Addr → Prop
  later : ∀ {w w' : World} {p : Option Addr}, No w p → Below w.heap.size w w' → No w' p
  nil : ∀ w, No w none
  zero : ∀ (w : World) (H : Nat), w.heap[H]? = some (.cells zc18 46 (0, 0)) → No w (some ⟨H, 0, none⟩)
  go : ∀ (w : World) (p : Option Addr) (now : Int) (busy : Bool), No w p → Calls Try.prog 9 #[.pointer p, .int .i64 now, .bool busy] w fun e w' => e = .returned (.tuple #[]) ∧ Below w.heap.size w w'
  done_ : ∀ (w : World) (p : Option Addr), No w p → Calls Try.prog 11 #[.pointer p] w fun e w' => e = .returned (.tuple #[]) ∧ Below w.heap.size w w'
  stop : ∀ (w : World) (p : Option Addr), No w p → Calls Try.prog 12 #[.pointer p] w fun e w' => e = .returned (.tuple #[]) ∧ Below w.heap.size w w'
  resume : ∀ (w : World) (p : Option Addr), No w p → Calls Try.prog 13 #[.pointer p] w fun e w' => e = .returned (.tuple #[]) ∧ Below w.heap.size w w'
  reset : ∀ (w : World) (p : Option Addr), No w p → Calls Try.prog 16 #[.pointer p] w fun e w' => e = .returned (.tuple #[]) ∧ Below w.heap.size w w'
  due : ∀ (w : World) (p : Option Addr), No w p → Calls Try.prog 17 #[.pointer p] w fun e w' => e = .returned (.tuple #[.int .i64 0, .bool false]) ∧ Below w.heap.size w w'
  use : ∀ (w : World) (p : Option Addr), No w p → Calls Try.prog 10 #[.pointer p] w fun e w' => e = .returned (.bool false) ∧ Below w.heap.size w w'
  free : ∀ (w : World) (p : Option Addr), No w p → Calls Try.prog 14 #[.pointer p] w fun e w' => e = .returned (.int .i64 0) ∧ Below w.heap.size w w'
  live : ∀ (w : World) (p : Option Addr), No w p → Calls Try.prog 8 #[.pointer p] w fun e w' => ∃ ao cap, e = .returned (.slice ao 0 cap) ∧ Below w.heap.size w w'
set_option maxRecDepth 100000 in
set_option maxHeartbeats 8000000 in
theorem RefillNil_of (N : RefillNo) (O : RefillOk) (now : Int) (w : World) : Calls Try.prog 5 #[.int .i64 now] w fun e w' => e = .returned (.bool true) ∧ Below w.heap.size w w' := by
  have HZ := Lib.hid built_zero18
  go_enter Try.func5, Try.ntmps5
  go_wp2_with fail
  go_loopw [3, 4] (fun s3 s4 wr => ∃ (k : Nat) (p : Option Addr), k ≤ 2 ∧ s3 = .pointer p ∧ s4 = .int .i64 k ∧ Hid (N.No wr p) ∧ Hid (Below w.heap.size w wr)) (fun _ s _ => 2 - (intOf s).toNat)
  case atStart => exact ⟨0, none, Nat.zero_le _, rfl, rfl, Lib.hid (N.nil _), Lib.hid (Below.refl _ _)⟩
  case round =>
    obtain ⟨k, p, hk, rfl, rfl, HN, HW⟩ := hrel
    by_cases hlt : k < 2
    · have l0 : decide ((k : Int) < 2) = true := decide_eq_true (by omega)
      go_wp2_with (first
        | (refine wpList_build3 (by rfl) 46 _ (by rfl) [] (by simp) zc18 HZ.out ?_)
        | (go_at_call 8; have _z := hb10; refine (N.live _ p hb10.out.1).mono ?_; rintro e w11 ⟨ao11, cap11, rfl, b11⟩; have hb11 := Lib.hid (And.intro (N.later hb10.out.1 b11) (hb10.out.2.trans (b11.mono hb10.out.2.size))); clear b11)
        | (go_at_call 14; have _z := hb9; refine (N.free _ p hb9.out.1).mono ?_; rintro e w10 ⟨rfl, b10⟩; have hb10 := Lib.hid (And.intro (N.later hb9.out.1 b10) (hb9.out.2.trans (b10.mono hb9.out.2.size))); clear b10)
        | (go_at_call 10; have _z := hb8; refine (N.use _ p hb8.out.1).mono ?_; rintro e w9 ⟨rfl, b9⟩; have hb9 := Lib.hid (And.intro (N.later hb8.out.1 b9) (hb8.out.2.trans (b9.mono hb8.out.2.size))); clear b9)
        | (go_at_call 17; have _z := hb7; refine (N.due _ p hb7.out.1).mono ?_; rintro e w8 ⟨rfl, b8⟩; have hb8 := Lib.hid (And.intro (N.later hb7.out.1 b8) (hb7.out.2.trans (b8.mono hb7.out.2.size))); clear b8)
        | (go_at_call 16; have _z := hb6; refine (N.reset _ p hb6.out.1).mono ?_; rintro e w7 ⟨rfl, b7⟩; have hb7 := Lib.hid (And.intro (N.later hb6.out.1 b7) (hb6.out.2.trans (b7.mono hb6.out.2.size))); clear b7)
        | (go_at_call 13; have _z := hb5; refine (N.resume _ p hb5.out.1).mono ?_; rintro e w6 ⟨rfl, b6⟩; have hb6 := Lib.hid (And.intro (N.later hb5.out.1 b6) (hb5.out.2.trans (b6.mono hb5.out.2.size))); clear b6)
        | (go_at_call 12; have _z := hb4; refine (N.stop _ p hb4.out.1).mono ?_; rintro e w5 ⟨rfl, b5⟩; have hb5 := Lib.hid (And.intro (N.later hb4.out.1 b5) (hb4.out.2.trans (b5.mono hb4.out.2.size))); clear b5)
        | (go_at_call 11; have _z := hb3; refine (N.done_ _ p hb3.out.1).mono ?_; rintro e w4 ⟨rfl, b4⟩; have hb4 := Lib.hid (And.intro (N.later hb3.out.1 b4) (hb3.out.2.trans (b4.mono hb3.out.2.size))); clear b4)
        | (go_at_call 9; refine (N.go _ p now true HN.out).mono ?_; rintro e w3 ⟨rfl, b3⟩; have hb3 := Lib.hid (And.intro (N.later HN.out b3) (HW.out.trans (b3.mono HW.out.size))); clear b3)
        | fail "no arm")
      go_roundw
      case rel => exact ⟨k + 1, _, by omega, rfl, by go_num, Lib.hid (N.zero _ _ (heap_alloc_new _ _)), Lib.hid (b_alloc hb11.out.2 (Nat.le_refl _) _)⟩
      case measure => simp [intOf]; omega
    · have l0 : decide ((k : Int) < 2) = false := decide_eq_false (by omega)
      go_wp2_with (first
        | (go_at_call 6; have _z := hb3; refine (O.new_no false 1 1 (-1) _ (by decide)).mono ?_; rintro e w4 ⟨rfl, b4⟩; have hb4 := Lib.hid (hb3.out.trans (b4.mono hb3.out.size)); clear b4)
        | (go_at_call 7; refine (knows18_of O _).mono ?_; rintro e w3 ⟨rfl, b3⟩; have hb3 := Lib.hid (HW.out.trans (b3.mono HW.out.size)); clear b3)
        | fail "no arm")
      go_ret
      exact ⟨rfl, hb4.out⟩
end Go.Proofs.Ytiioodpofdlkhaa
