/- What is asked of the program's ring; knows. -/
import Derived.Test.YtigmflobiiifeaaRingR
namespace Go.Proofs.Ytigmflobiiifeaa
open Go.ChangeShapes Go.WideShapes Go.ChangeAt Go.RowKit
set_option linter.unusedVariables false

def roomV (room : Int) : Int := min (max room 0) 4096
/-- The contracts of a ring of α's: its own blocks are S; n is its room; l is what is in. -/
structure RingOk (α : Type) (emb : α → Value) (z : α) (fN fP fO fL fR : Nat) where
  Rg : World → Nat → (Nat → Prop) → Int → List α → Prop
  keep : ∀ {w w' : World} {H : Nat} {S : Nat → Prop} {n : Int} {l : List α}, Rg w H S n l → (∀ k, S k → w'.heap[k]? = w.heap[k]?) → w.heap.size ≤ w'.heap.size → Rg w' H S n l
  lt : ∀ {w : World} {H : Nat} {S : Nat → Prop} {n : Int} {l : List α}, Rg w H S n l → ∀ k, S k → k < w.heap.size
  bd : ∀ {w : World} {H : Nat} {S : Nat → Prop} {n : Int} {l : List α}, Rg w H S n l → 0 ≤ n ∧ n ≤ 4096 ∧ (l.length : Int) ≤ n
  new : ∀ (room : Int) (w : World), Calls Try.prog fN #[.int .i64 room] w fun e w' => ∃ (H : Nat) (S : Nat → Prop), e = .returned (.pointer (some ⟨H, 0, none⟩)) ∧ Rg w' H S (roomV room) [] ∧ (∀ k, S k → w.heap.size ≤ k) ∧ Below w.heap.size w w'
  push : ∀ (w : World) (H : Nat) (S : Nat → Prop) (n : Int) (l : List α) (x : α), Rg w H S n l → Calls Try.prog fP #[.pointer (some ⟨H, 0, none⟩), emb x] w fun e w' => ∃ S', e = .returned (.bool (freeV n l)) ∧ Rg w' H S' n (pushV n l x) ∧ GrowS S S' w w'
  pop : ∀ (w : World) (H : Nat) (S : Nat → Prop) (n : Int) (l : List α), Rg w H S n l → Calls Try.prog fO #[.pointer (some ⟨H, 0, none⟩)] w fun e w' => ∃ S', e = .returned (.tuple #[emb (popV z l), .bool (anyV l)]) ∧ Rg w' H S' n l.tail ∧ GrowS S S' w w'
  len : ∀ (w : World) (H : Nat) (S : Nat → Prop) (n : Int) (l : List α), Rg w H S n l → Calls Try.prog fL #[.pointer (some ⟨H, 0, none⟩)] w fun e w' => e = .returned (.int .i64 (l.length : Nat)) ∧ Below w.heap.size w w'
  room : ∀ (w : World) (H : Nat) (S : Nat → Prop) (n : Int) (l : List α), Rg w H S n l → Calls Try.prog fR #[.pointer (some ⟨H, 0, none⟩)] w fun e w' => e = .returned (.int .i64 n) ∧ Below w.heap.size w w'
theorem RingOk.later {α : Type} {emb : α → Value} {z : α} {fN fP fO fL fR : Nat} (O : RingOk α emb z fN fP fO fL fR) {w w' : World} {H : Nat} {S : Nat → Prop} {n : Int} {l : List α} (h : O.Rg w H S n l) (hb : Below w.heap.size w w') : O.Rg w' H S n l := O.keep h (fun k hk => hb.block k (O.lt h k hk)) hb.size
/-- Of ints. -/
abbrev RingIntB := RingOk Int (fun x => .int .i64 x) 0 7 9 11 18 19
structure RingInt extends RingIntB where
  at' : ∀ (w : World) (H : Nat) (S : Nat → Prop) (n : Int) (l : List Int) (i : Int), Rg w H S n l → Calls Try.prog 16 #[.pointer (some ⟨H, 0, none⟩), .int .i64 i] w fun e w' => e = .returned (.tuple #[.int .i64 (atL l i), .bool (inL l i)]) ∧ Below w.heap.size w w'
  set : ∀ (w : World) (H : Nat) (S : Nat → Prop) (n : Int) (l : List Int) (i x : Int), Rg w H S n l → Calls Try.prog 13 #[.pointer (some ⟨H, 0, none⟩), .int .i64 i, .int .i64 x] w fun e w' => ∃ S', e = .returned (.bool (inL l i)) ∧ Rg w' H S' n (setL l i x) ∧ GrowS S S' w w'
  clear : ∀ (w : World) (H : Nat) (S : Nat → Prop) (n : Int) (l : List Int), Rg w H S n l → Calls Try.prog 15 #[.pointer (some ⟨H, 0, none⟩)] w fun e w' => ∃ S', e = .returned (.tuple #[]) ∧ Rg w' H S' n [] ∧ GrowS S S' w w'
  all : ∀ (w : World) (H : Nat) (S : Nat → Prop) (n : Int) (l : List Int), Rg w H S n l → Calls Try.prog 21 #[.pointer (some ⟨H, 0, none⟩)] w fun e w' => ∃ ao cap, e = .returned (.slice ao l.length cap) ∧ Lies w' 0 w'.heap.size (.slice ao l.length cap) l.length 1 (l.flatMap intCells) ∧ Below w.heap.size w w'
/-- Of texts. -/
abbrev RingStr := RingOk ByteArray (fun x => .string x) ⟨#[]⟩ 22 23 24 25 26
set_option maxRecDepth 100000 in
set_option maxHeartbeats 4000000 in
theorem knows14_of (O : RingIntB) (w : World) : Calls Try.prog 6 #[] w fun e w' => e = .returned (.bool true) ∧ Below w.heap.size w w' := by
  have HN := Lib.hid (O.new 2 w)
  rw [show roomV 2 = 2 by decide] at HN
  have P1 := Lib.hid (show pushV 2 ([] : List Int) 1 = [1] ∧ freeV 2 ([] : List Int) = true by decide)
  have P2 := Lib.hid (show pushV 2 ([1] : List Int) 2 = [1, 2] ∧ freeV 2 ([1] : List Int) = true by decide)
  have P3 := Lib.hid (show pushV 2 ([1, 2] : List Int) 3 = [1, 2] ∧ freeV 2 ([1, 2] : List Int) = false by decide)
  have P4 := Lib.hid (show popV 0 ([1, 2] : List Int) = 1 ∧ anyV ([1, 2] : List Int) = true ∧ ([1, 2] : List Int).tail = [2] by decide)
  have P5 := Lib.hid (show pushV 2 ([2] : List Int) 3 = [2, 3] ∧ freeV 2 ([2] : List Int) = true by decide)
  go_enter Try.func6, Try.ntmps6
  go_wp2_with (first
    | (go_at_call 19; have _z := hl9; refine (O.room _ _ _ _ _ (O.later h8.out hl9.out)).mono ?_; rintro e w10 ⟨rfl, hb10'⟩; have hb10 := Lib.hid hb10'; clear hb10')
    | (go_at_call 18; have _z := h8; refine (O.len _ _ _ _ _ h8.out).mono ?_; rintro e w9 ⟨rfl, hb9'⟩; have hl9 := Lib.hid hb9'; rw [show (([2, 3] : List Int).length : Int) = 2 by rfl]; clear hb9')
    | (go_at_call 9; have _z := h7; refine (O.push _ _ _ _ _ 3 h7.out).mono ?_; rintro e w8 ⟨S8, rfl, h8', g8'⟩; rw [P5.out.1] at h8'; rw [P5.out.2]; have h8 := Lib.hid h8'; have g8 := Lib.hid (g8'.step g7.out.1 g7.out.2); clear h8' g8')
    | (go_at_call 11; have _z := h6; refine (O.pop _ _ _ _ _ h6.out).mono ?_; rintro e w7 ⟨S7, rfl, h7', g7'⟩; rw [P4.out.2.2] at h7'; rw [P4.out.1, P4.out.2.1]; have h7 := Lib.hid h7'; have g7 := Lib.hid (g7'.step g6.out.1 g6.out.2); clear h7' g7')
    | (go_at_call 9; have _z := h5; refine (O.push _ _ _ _ _ 3 h5.out).mono ?_; rintro e w6 ⟨S6, rfl, h6', g6'⟩; rw [P3.out.1] at h6'; rw [P3.out.2]; have h6 := Lib.hid h6'; have g6 := Lib.hid (g6'.step g5.out.1 g5.out.2); clear h6' g6')
    | (go_at_call 9; have _z := h4; refine (O.push _ _ _ _ _ 2 h4.out).mono ?_; rintro e w5 ⟨S5, rfl, h5', g5'⟩; rw [P2.out.1] at h5'; rw [P2.out.2]; have h5 := Lib.hid h5'; have g5 := Lib.hid (g5'.step g4.out.1 g4.out.2); clear h5' g5')
    | (go_at_call 9; have _z := h3; refine (O.push _ _ _ _ _ 1 h3.out).mono ?_; rintro e w4 ⟨S4, rfl, h4', g4'⟩; rw [P1.out.1] at h4'; rw [P1.out.2]; have h4 := Lib.hid h4'; have g4 := Lib.hid (g4'.step b3.out s3.out); clear h4' g4')
    | (go_at_call 7; refine HN.out.mono ?_; rintro e w3 ⟨H, S, rfl, h3', s3', b3'⟩; have h3 := Lib.hid h3'; have s3 := Lib.hid s3'; have b3 := Lib.hid b3'; clear h3' s3' b3')
    | fail "no arm")
  go_ret
  have z8 : Below w.heap.size w w8 := g8.out.1
  exact ⟨rfl, (z8.trans (hl9.out.mono z8.size)).trans (hb10.out.mono (Nat.le_trans z8.size hl9.out.size))⟩
end Go.Proofs.Ytigmflobiiifeaa
