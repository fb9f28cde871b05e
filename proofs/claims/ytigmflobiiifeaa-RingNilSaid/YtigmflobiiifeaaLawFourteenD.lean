/- RingNil, out of the contracts. -/
import Derived.Test.YtigmflobiiifeaaRingC
namespace Go.Proofs.Ytigmflobiiifeaa
open Go.ChangeShapes Go.WideShapes Go.ChangeAt Go.RowKit
set_option linter.unusedVariables false

/-- The cells of a ring that nobody made (of the program's own make: to be written anew for each). -/
def zc14 : Array Value := #[.int .i64 0, .int .i64 0, .int .i64 0, .slice none 0 0]
/-- The contracts of a ring that nobody made. -/
structure RingNo where
  No : World → Option Addr → Prop
  later : ∀ {w w' : World} {p : Option Addr}, No w p → Below w.heap.size w w' → No w' p
  nil : ∀ w, No w none
  zero : ∀ (w : World) (H : Nat), w.heap[H]? = some (.cells zc14 51 (0, 0)) → No w (some ⟨H, 0, none⟩)
  push : ∀ (w : World) (p : Option Addr) (x : Int), No w p → Calls Try.prog 9 #[.pointer p, .int .i64 x] w fun e w' => e = .returned (.bool false) ∧ Below w.heap.size w w'
  pop : ∀ (w : World) (p : Option Addr), No w p → Calls Try.prog 11 #[.pointer p] w fun e w' => e = .returned (.tuple #[.int .i64 0, .bool false]) ∧ Below w.heap.size w w'
  at' : ∀ (w : World) (p : Option Addr) (i : Int), No w p → Calls Try.prog 16 #[.pointer p, .int .i64 i] w fun e w' => e = .returned (.tuple #[.int .i64 0, .bool false]) ∧ Below w.heap.size w w'
  set : ∀ (w : World) (p : Option Addr) (i x : Int), No w p → Calls Try.prog 13 #[.pointer p, .int .i64 i, .int .i64 x] w fun e w' => e = .returned (.bool false) ∧ Below w.heap.size w w'
  len : ∀ (w : World) (p : Option Addr), No w p → Calls Try.prog 18 #[.pointer p] w fun e w' => e = .returned (.int .i64 0) ∧ Below w.heap.size w w'
  room : ∀ (w : World) (p : Option Addr), No w p → Calls Try.prog 19 #[.pointer p] w fun e w' => e = .returned (.int .i64 0) ∧ Below w.heap.size w w'
  clear : ∀ (w : World) (p : Option Addr), No w p → Calls Try.prog 15 #[.pointer p] w fun e w' => e = .returned (.tuple #[]) ∧ Below w.heap.size w w'
  all : ∀ (w : World) (p : Option Addr), No w p → Calls Try.prog 21 #[.pointer p] w fun e w' => ∃ ao cap, e = .returned (.slice ao 0 cap) ∧ Below w.heap.size w w'
set_option maxRecDepth 100000 in
set_option maxHeartbeats 4000000 in
theorem RingNil_of (N : RingNo) (P : RingIntB) (a b c : Int) (w : World) : Calls Try.prog 5 #[.agg #[.int .i64 a, .int .i64 b, .int .i64 c]] w fun e w' => e = .returned (.bool true) ∧ Below w.heap.size w w' := by
  obtain ⟨V, hV⟩ : ∃ V, V = w.alloc (.cells #[.int .i64 a, .int .i64 b, .int .i64 c] 29) := ⟨_, rfl⟩
  obtain ⟨E, hE⟩ : ∃ E, E = w.heap.size := ⟨_, rfl⟩
  have hbV : Below w.heap.size w V := by rw [hV]; exact below1 _ _
  have hEV : V.heap[E]? = some (.cells #[.int .i64 a, .int .i64 b, .int .i64 c] 29 (0, 0)) := by rw [hV, hE]; exact heap_alloc_new _ _
  have KS : Hid (∀ Y, Below V.heap.size V Y → Y.cell? ⟨E, 1, none⟩ = some (.int .i64 b) ∧ Y.cell? ⟨E, 2, none⟩ = some (.int .i64 c)) := Lib.hid (fun Y hY => ⟨cell_in ((hY.block _ (lt_of_block hEV)).trans hEV) rfl, cell_in ((hY.block _ (lt_of_block hEV)).trans hEV) rfl⟩)
  have HB := Lib.hid hbV
  have HV := Lib.hid hV
  have HE := Lib.hid hE
  clear hbV hEV hV hE
  go_enter Try.func5, Try.ntmps5
  go_upto_region 1 with fail
  rw [← HV.out, ← HE.out]
  go_wp2_with fail
  go_loopw [3, 4] (fun s3 s4 wr => ∃ (k : Nat) (p : Option Addr), k ≤ 2 ∧ s3 = .pointer p ∧ s4 = .int .i64 k ∧ Hid (N.No wr p) ∧ Hid (Below V.heap.size V wr)) (fun _ s _ => 2 - (intOf s).toNat)
  case atStart => exact ⟨0, none, Nat.zero_le _, rfl, rfl, Lib.hid (N.nil _), Lib.hid (Below.refl _ _)⟩
  case round =>
    obtain ⟨k, p, hk, rfl, rfl, HN, HW⟩ := hrel
    by_cases hlt : k < 2
    · have l0 : decide ((k : Int) < 2) = true := decide_eq_true (by omega)
      go_wp2_with (first
        | (go_at_call 21; have _z := hb9; refine (N.all _ p hb9.out.1).mono ?_; rintro e w10 ⟨ao, cap, rfl, b10⟩; have hb10 := Lib.hid (And.intro (N.later hb9.out.1 b10) (hb9.out.2.trans (b10.mono hb9.out.2.size))); clear b10)
        | (go_at_call 19; have _z := hb8; refine (N.room _ p hb8.out.1).mono ?_; rintro e w9 ⟨rfl, b9⟩; have hb9 := Lib.hid (And.intro (N.later hb8.out.1 b9) (hb8.out.2.trans (b9.mono hb8.out.2.size))); clear b9)
        | (go_at_call 18; have _z := hb7; refine (N.len _ p hb7.out.1).mono ?_; rintro e w8 ⟨rfl, b8⟩; have hb8 := Lib.hid (And.intro (N.later hb7.out.1 b8) (hb7.out.2.trans (b8.mono hb7.out.2.size))); clear b8)
        | (go_at_call 13; have _z := hb6; refine (N.set _ p b c hb6.out.1).mono ?_; rintro e w7 ⟨rfl, b7⟩; have hb7 := Lib.hid (And.intro (N.later hb6.out.1 b7) (hb6.out.2.trans (b7.mono hb6.out.2.size))); clear b7)
        | (go_at_call 9; have _z := hb5; refine (N.push _ p c hb5.out.1).mono ?_; rintro e w6 ⟨rfl, b6⟩; have hb6 := Lib.hid (And.intro (N.later hb5.out.1 b6) (hb5.out.2.trans (b6.mono hb5.out.2.size))); obtain ⟨x6, y6⟩ := KS.out _ hb6.out.2; clear b6)
        | (go_at_call 16; have _z := hb4; refine (N.at' _ p b hb4.out.1).mono ?_; rintro e w5 ⟨rfl, b5⟩; have hb5 := Lib.hid (And.intro (N.later hb4.out.1 b5) (hb4.out.2.trans (b5.mono hb4.out.2.size))); obtain ⟨x5, y5⟩ := KS.out _ hb5.out.2; clear b5)
        | (go_at_call 11; have _z := hb3; refine (N.pop _ p hb3.out.1).mono ?_; rintro e w4 ⟨rfl, b4⟩; have hb4 := Lib.hid (And.intro (N.later hb3.out.1 b4) (hb3.out.2.trans (b4.mono hb3.out.2.size))); obtain ⟨x4, y4⟩ := KS.out _ hb4.out.2; clear b4)
        | (go_at_call 15; refine (N.clear _ p HN.out).mono ?_; rintro e w3 ⟨rfl, b3⟩; have hb3 := Lib.hid (And.intro (N.later HN.out b3) (HW.out.trans (b3.mono HW.out.size))); clear b3)
        | fail "no arm")
      go_roundw
      case rel => exact ⟨k + 1, _, by omega, rfl, by go_num, Lib.hid (N.zero _ _ (heap_alloc_new _ _)), Lib.hid (b_alloc hb10.out.2 (Nat.le_refl _) _)⟩
      case measure => simp [intOf]; omega
    · have l0 : decide ((k : Int) < 2) = false := decide_eq_false (by omega)
      have HKK := Lib.hid (knows14_of P wr)
      go_wp2_with (go_at_call 6; refine HKK.out.mono ?_; rintro e w3 ⟨rfl, hb3⟩)
      go_ret
      exact ⟨rfl, HB.out.trans ((HW.out.trans (hb3.mono HW.out.size)).mono HB.out.size)⟩
end Go.Proofs.Ytigmflobiiifeaa
