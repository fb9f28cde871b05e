/- What is asked of the program's budget that is filled again; knows. -/
import Derived.Test.YtiioodpofdlkhaaTwo
import Derived.Test.YtiioodpofdlkhaaRefillM
import Derived.Test.YtiioodpofdlkhaaBks
import Derived.Test.YtiioodpofdlkhaaRead
import Derived.Deep.CutRange
import Derived.Deep.CutBlock
namespace Go.Proofs.Ytiioodpofdlkhaa
open Go.ChangeShapes Go.WideShapes Go.ChangeAt Go.RowKit
set_option linter.unusedVariables false

/-- May a budget of these be? -/
def newOk (re : Bool) (c t st : Int) : Bool := okSv ⟨re, c, t⟩ && (decide (0 ≤ st) && decide (st ≤ 4611686018427387904))
/-- The contracts of a budget of the server s, from st on: b is what it has. Its own blocks are S. -/
structure RefillOk where
  Rg : Nat → Sv → Int → Rd → World → (Nat → Prop) → Prop
  own : ∀ (H : Nat) (s : Sv) (st : Int) (b : Rd), OwnP (Rg H s st b)
  bd : ∀ {w : World} {H : Nat} {S : Nat → Prop} {s : Sv} {st : Int} {b : Rd}, Rg H s st b w S → newOk s.re s.c s.t st = true ∧ RdOk s.c 4611687117939015680 b ∧ st ≤ b.now ∧ ∀ x ∈ b.live, st ≤ x.at_
  new_yes : ∀ (re : Bool) (c t st : Int) (w : World), newOk re c t st = true → Calls Try.prog 6 #[.agg #[.bool re, .int .i64 c, .int .i64 t], .int .i64 st] w fun e w' => ∃ H S, e = .returned (.pointer (some ⟨H, 0, none⟩)) ∧ Rg H ⟨re, c, t⟩ st ⟨st, c, [], false⟩ w' S ∧ (∀ k, S k → w.heap.size ≤ k) ∧ Below w.heap.size w w'
  new_no : ∀ (re : Bool) (c t st : Int) (w : World), newOk re c t st = false → Calls Try.prog 6 #[.agg #[.bool re, .int .i64 c, .int .i64 t], .int .i64 st] w fun e w' => e = .returned (.pointer none) ∧ Below w.heap.size w w'
  go : ∀ (w : World) (H : Nat) (S : Nat → Prop) (s : Sv) (st : Int) (b : Rd) (now : Int) (busy : Bool), b.now ≤ now → now ≤ 4611687117939015680 → Rg H s st b w S → Calls Try.prog 9 #[.pointer (some ⟨H, 0, none⟩), .int .i64 now, .bool busy] w fun e w' => ∃ S', e = .returned (.tuple #[]) ∧ Rg H s st (rGo s.c s.t st b now busy) w' S' ∧ GrowS S S' w w'
  use : ∀ (w : World) (H : Nat) (S : Nat → Prop) (s : Sv) (st : Int) (b : Rd), Rg H s st b w S → Calls Try.prog 10 #[.pointer (some ⟨H, 0, none⟩)] w fun e w' => ∃ S', e = .returned (.bool (rUseOk b)) ∧ Rg H s st (rUse b) w' S' ∧ GrowS S S' w w'
  done_ : ∀ (w : World) (H : Nat) (S : Nat → Prop) (s : Sv) (st : Int) (b : Rd), Rg H s st b w S → Calls Try.prog 11 #[.pointer (some ⟨H, 0, none⟩)] w fun e w' => ∃ S', e = .returned (.tuple #[]) ∧ Rg H s st (rDone b) w' S' ∧ GrowS S S' w w'
  stop : ∀ (w : World) (H : Nat) (S : Nat → Prop) (s : Sv) (st : Int) (b : Rd), Rg H s st b w S → Calls Try.prog 12 #[.pointer (some ⟨H, 0, none⟩)] w fun e w' => ∃ S', e = .returned (.tuple #[]) ∧ Rg H s st (rStop (rDone b) true) w' S' ∧ GrowS S S' w w'
  resume : ∀ (w : World) (H : Nat) (S : Nat → Prop) (s : Sv) (st : Int) (b : Rd), Rg H s st b w S → Calls Try.prog 13 #[.pointer (some ⟨H, 0, none⟩)] w fun e w' => ∃ S', e = .returned (.tuple #[]) ∧ Rg H s st (rStop b false) w' S' ∧ GrowS S S' w w'
  reset : ∀ (w : World) (H : Nat) (S : Nat → Prop) (s : Sv) (st : Int) (b : Rd), Rg H s st b w S → Calls Try.prog 16 #[.pointer (some ⟨H, 0, none⟩)] w fun e w' => ∃ S', e = .returned (.tuple #[]) ∧ Rg H s st (rReset s.c b) w' S' ∧ GrowS S S' w w'
  due : ∀ (w : World) (H : Nat) (S : Nat → Prop) (s : Sv) (st : Int) (b : Rd), Rg H s st b w S → Calls Try.prog 17 #[.pointer (some ⟨H, 0, none⟩)] w fun e w' => e = .returned (.tuple #[.int .i64 (rDue s.t b), .bool (rUseOk b)]) ∧ Below w.heap.size w w'
  free : ∀ (w : World) (H : Nat) (S : Nat → Prop) (s : Sv) (st : Int) (b : Rd), Rg H s st b w S → Calls Try.prog 14 #[.pointer (some ⟨H, 0, none⟩)] w fun e w' => e = .returned (.int .i64 b.free) ∧ Below w.heap.size w w'
  live : ∀ (w : World) (H : Nat) (S : Nat → Prop) (s : Sv) (st : Int) (b : Rd), Rg H s st b w S → Calls Try.prog 8 #[.pointer (some ⟨H, 0, none⟩)] w fun e w' => ∃ ao cap, e = .returned (.slice ao b.live.length cap) ∧ Lies w' w.heap.size w'.heap.size (.slice ao b.live.length cap) b.live.length 2 (b.live.flatMap Bk.cells) ∧ Below w.heap.size w w'
set_option maxRecDepth 100000 in
set_option maxHeartbeats 8000000 in
theorem knows18_of (O : RefillOk) (w : World) : Calls Try.prog 7 #[] w fun e w' => e = .returned (.bool true) ∧ Below w.heap.size w w' := by
  have HN := Lib.hid (O.new_yes true 3 10 0 w (by decide))
  obtain ⟨sv, hsv⟩ : ∃ sv : Sv, sv = ⟨true, 3, 10⟩ := ⟨_, rfl⟩
  rw [← hsv] at HN
  have E1 := Lib.hid (show rGo sv.c sv.t 0 ⟨0, 3, [], false⟩ 8 true = ⟨8, 0, [⟨8, 3⟩], false⟩ ∧ True by rw [hsv]; exact ⟨rfl, trivial⟩)
  have E2 := Lib.hid (show rUse ⟨8, 0, [⟨8, 3⟩], false⟩ = ⟨8, 0, [⟨8, 2⟩], false⟩ ∧ rUseOk ⟨8, 0, [⟨8, 3⟩], false⟩ = true from ⟨rfl, rfl⟩)
  have E3 := Lib.hid (show rUse ⟨8, 0, [⟨8, 2⟩], false⟩ = ⟨8, 0, [⟨8, 1⟩], false⟩ ∧ rUseOk ⟨8, 0, [⟨8, 2⟩], false⟩ = true from ⟨rfl, rfl⟩)
  have E4 := Lib.hid (show rUse ⟨8, 0, [⟨8, 1⟩], false⟩ = ⟨8, 0, [], false⟩ ∧ rUseOk ⟨8, 0, [⟨8, 1⟩], false⟩ = true from ⟨rfl, rfl⟩)
  have E5 := Lib.hid (show rUse ⟨8, 0, [], false⟩ = ⟨8, 0, [], false⟩ ∧ rUseOk ⟨8, 0, [], false⟩ = false from ⟨rfl, rfl⟩)
  have E6 := Lib.hid (show rGo sv.c sv.t 0 ⟨8, 0, [], false⟩ 10 true = ⟨10, 0, [⟨10, 3⟩], false⟩ ∧ True by rw [hsv]; exact ⟨rfl, trivial⟩)
  have E7 := Lib.hid (show rDue sv.t ⟨10, 0, [⟨10, 3⟩], false⟩ = 20 ∧ rUseOk ⟨10, 0, [⟨10, 3⟩], false⟩ = true by rw [hsv]; exact ⟨rfl, rfl⟩)
  clear hsv
  go_enter Try.func7, Try.ntmps7
  go_wp2_with (first
    | (go_at_call 14; have _z := hb11; refine (O.free _ H S9 sv 0 ⟨10, 0, [⟨10, 3⟩], false⟩ ((O.own _ _ _ _).later h9.out hb11.out)).mono ?_; rintro e w12 ⟨rfl, b12⟩; have hb12 := Lib.hid (hb11.out.trans (b12.mono hb11.out.size)); clear b12)
    | (go_at_call 8; have _z := hb10; refine (O.live _ H S9 sv 0 ⟨10, 0, [⟨10, 3⟩], false⟩ ((O.own _ _ _ _).later h9.out hb10.out)).mono ?_; rintro e w11 ⟨ao, cap, rfl, _, b11⟩; have hb11 := Lib.hid (hb10.out.trans (b11.mono hb10.out.size)); clear b11)
    | (go_at_call 17; have _z := h9; refine (O.due _ H S9 sv 0 ⟨10, 0, [⟨10, 3⟩], false⟩ h9.out).mono ?_; rintro e w10 ⟨rfl, b10⟩; rw [E7.out.1, E7.out.2]; have hb10 := Lib.hid b10; clear b10)
    | (go_at_call 9; have _z := h8; refine (O.go _ H S8 sv 0 ⟨8, 0, [], false⟩ 10 true (by decide) (by decide) h8.out).mono ?_; rintro e w9 ⟨S9, rfl, h9', g9'⟩; rw [E6.out.1] at h9'; have h9 := Lib.hid h9'; have g9 := Lib.hid (g9'.step g8.out.1 g8.out.2); clear h9' g9')
    | (go_at_call 10; have _z := h7; refine (O.use _ H S7 sv 0 ⟨8, 0, [], false⟩ h7.out).mono ?_; rintro e w8 ⟨S8, rfl, h8', g8'⟩; rw [E5.out.1] at h8'; rw [E5.out.2]; have h8 := Lib.hid h8'; have g8 := Lib.hid (g8'.step g7.out.1 g7.out.2); clear h8' g8')
    | (go_at_call 10; have _z := h6; refine (O.use _ H S6 sv 0 ⟨8, 0, [⟨8, 1⟩], false⟩ h6.out).mono ?_; rintro e w7 ⟨S7, rfl, h7', g7'⟩; rw [E4.out.1] at h7'; rw [E4.out.2]; have h7 := Lib.hid h7'; have g7 := Lib.hid (g7'.step g6.out.1 g6.out.2); clear h7' g7')
    | (go_at_call 10; have _z := h5; refine (O.use _ H S5 sv 0 ⟨8, 0, [⟨8, 2⟩], false⟩ h5.out).mono ?_; rintro e w6 ⟨S6, rfl, h6', g6'⟩; rw [E3.out.1] at h6'; rw [E3.out.2]; have h6 := Lib.hid h6'; have g6 := Lib.hid (g6'.step g5.out.1 g5.out.2); clear h6' g6')
    | (go_at_call 10; have _z := h4; refine (O.use _ H S4 sv 0 ⟨8, 0, [⟨8, 3⟩], false⟩ h4.out).mono ?_; rintro e w5 ⟨S5, rfl, h5', g5'⟩; rw [E2.out.1] at h5'; rw [E2.out.2]; have h5 := Lib.hid h5'; have g5 := Lib.hid (g5'.step g4.out.1 g4.out.2); clear h5' g5')
    | (go_at_call 9; have _z := h3; refine (O.go _ H S3 sv 0 ⟨0, 3, [], false⟩ 8 true (by decide) (by decide) h3.out).mono ?_; rintro e w4 ⟨S4, rfl, h4', g4'⟩; rw [E1.out.1] at h4'; have h4 := Lib.hid h4'; have g4 := Lib.hid (g4'.step g3.out.1 g3.out.2); clear h4' g4')
    | (go_at_call 6; refine HN.out.mono ?_; rintro e w3 ⟨H, S3, rfl, h3', s3', b3'⟩; have h3 := Lib.hid h3'; have g3 := Lib.hid (And.intro b3' s3'); clear h3' s3' b3')
    | fail "no arm")
  go_ret
  exact ⟨rfl, g9.out.1.trans (hb12.out.mono g9.out.1.size)⟩
end Go.Proofs.Ytiioodpofdlkhaa
