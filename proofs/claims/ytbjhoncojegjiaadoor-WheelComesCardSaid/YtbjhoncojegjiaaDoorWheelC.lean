/- What is asked of the program's wheel; knows. -/
import Derived.Test.YtbjhoncojegjiaaDoorWheelN
namespace Go.Proofs.YtbjhoncojegjiaaDoor
open Go.ChangeShapes Go.WideShapes Go.ChangeAt Go.RowKit
set_option linter.unusedVariables false

/-- What is not one's own stays; what is one's own was, or is new. -/
structure GrowS (S S' : Nat → Prop) (w w' : World) : Prop where
  os : w'.os = w.os
  tape : w'.tape = w.tape
  output : w'.output = w.output
  size : w.heap.size ≤ w'.heap.size
  block : ∀ k, k < w.heap.size → ¬ S k → w'.heap[k]? = w.heap[k]?
  own : ∀ k, S' k → S k ∨ w.heap.size ≤ k
theorem GrowS.below {S S' : Nat → Prop} {w w' : World} {B : Nat} (h : GrowS S S' w w') (hS : ∀ k, S k → B ≤ k) (hB : B ≤ w.heap.size) : Below B w w' ∧ ∀ k, S' k → B ≤ k :=
  ⟨⟨h.os, h.tape, h.output, h.size, fun k hk => h.block k (by omega) (fun hs => by have := hS k hs; omega)⟩, fun k hk => (h.own k hk).elim (hS k) (fun h1 => Nat.le_trans hB h1)⟩
theorem GrowS.not {S S' : Nat → Prop} {w w' : World} {A : Nat} (h : GrowS S S' w w') (hA : A < w.heap.size) (hS : ¬ S A) : ¬ S' A := fun hs => by
  rcases h.own A hs with h1 | h1
  · exact hS h1
  · omega
theorem GrowS.trans {S S' S'' : Nat → Prop} {a b c : World} (h : GrowS S S' a b) (k : GrowS S' S'' b c) : GrowS S S'' a c :=
  ⟨k.os.trans h.os, k.tape.trans h.tape, k.output.trans h.output, Nat.le_trans h.size k.size, fun j hj hS => (k.block j (Nat.lt_of_lt_of_le hj h.size) (fun h1 => (h.own j h1).elim hS (fun h2 => by omega))).trans (h.block j hj hS), fun j hj => (k.own j hj).elim (h.own j) (fun h2 => .inr (Nat.le_trans h.size h2))⟩
theorem GrowS.of_below {S : Nat → Prop} {w w' : World} (h : Below w.heap.size w w') : GrowS S S w w' := ⟨h.os, h.tape, h.output, h.size, fun k hk _ => h.block k hk, fun k hk => .inl hk⟩
/-- A slice of no block has no room. -/
def NilCap {A : Type} (ao : Option A) (cap : Nat) : Prop := ao = none → cap = 0
/-- The contracts: a wheel's own blocks are S; it is at now; x tells to which tick each is set. -/
structure WheelOk where
  Wh : World → Nat → (Nat → Prop) → Int → (Nat → Int) → Prop
  /-- What start-up has laid. -/
  T : World → Prop
  tlater : ∀ {w w' : World}, T w → Below w.heap.size w w' → T w'
  tbut : ∀ {w : World} {a b : Nat}, T w → w.heap.size ≤ a → w.heap.size ≤ b → ∀ Y Y', But2 a b Y Y' → T Y → T Y'
  tt : ∀ {w : World} {H : Nat} {S : Nat → Prop} {now : Int} {x : Nat → Int}, Wh w H S now x → T w
  keep : ∀ {w w' : World} {H : Nat} {S : Nat → Prop} {now : Int} {x : Nat → Int}, Wh w H S now x → (∀ k, S k → w'.heap[k]? = w.heap[k]?) → w.heap.size ≤ w'.heap.size → T w' → Wh w' H S now x
  lt : ∀ {w : World} {H : Nat} {S : Nat → Prop} {now : Int} {x : Nat → Int}, Wh w H S now x → ∀ k, S k → k < w.heap.size
  congr : ∀ {w : World} {H : Nat} {S : Nat → Prop} {now : Int} {x y : Nat → Int}, Wh w H S now x → (∀ i, i < 256 → x i = y i) → Wh w H S now y
  new : ∀ (start : Int) (w : World), T w → Calls Tryd.prog 8 #[.int .i64 start] w fun e w' => ∃ (H : Nat) (S : Nat → Prop), e = .returned (.pointer (some ⟨H, 0, none⟩)) ∧ Wh w' H S (min (max start 0) 4611686018427387904) (fun _ => -1) ∧ (∀ k, S k → w.heap.size ≤ k) ∧ Below w.heap.size w w'
  set : ∀ (w : World) (H : Nat) (S : Nat → Prop) (now : Int) (x : Nat → Int) (id tick : Int), Wh w H S now x → Calls Tryd.prog 11 #[.pointer (some ⟨H, 0, none⟩), .int .i64 id, .int .i64 tick] w fun e w' => ∃ S', e = .returned (.int .i64 (setC now id tick)) ∧ Wh w' H S' now (setX now x id tick) ∧ GrowS S S' w w'
  cancel : ∀ (w : World) (H : Nat) (S : Nat → Prop) (now : Int) (x : Nat → Int) (id : Int), Wh w H S now x → Calls Tryd.prog 13 #[.pointer (some ⟨H, 0, none⟩), .int .i64 id] w fun e w' => ∃ S', e = .returned (.bool (whB x id)) ∧ Wh w' H S' now (canX x id) ∧ GrowS S S' w w'
  when : ∀ (w : World) (H : Nat) (S : Nat → Prop) (now : Int) (x : Nat → Int) (id : Int), Wh w H S now x → Calls Tryd.prog 18 #[.pointer (some ⟨H, 0, none⟩), .int .i64 id] w fun e w' => e = .returned (.tuple #[.int .i64 (whA x id), .bool (whB x id)]) ∧ Below w.heap.size w w'
  go : ∀ (w : World) (H : Nat) (S : Nat → Prop) (now : Int) (x : Nat → Int), Wh w H S now x → now < 4611686018427387904 → Calls Tryd.prog 16 #[.pointer (some ⟨H, 0, none⟩)] w fun e w' => ∃ S' ao cap, e = .returned (.slice ao (goL x (now + 1) 256).length cap) ∧ Lies w' w.heap.size w'.heap.size (.slice ao (goL x (now + 1) 256).length cap) (goL x (now + 1) 256).length 1 ((goL x (now + 1) 256).flatMap intCells) ∧ Wh w' H S' (now + 1) (goX x (now + 1) 256) ∧ GrowS S S' w w'
  goEnd : ∀ (w : World) (H : Nat) (S : Nat → Prop) (x : Nat → Int), Wh w H S 4611686018427387904 x → Calls Tryd.prog 16 #[.pointer (some ⟨H, 0, none⟩)] w fun e w' => ∃ S' ao cap, e = .returned (.slice ao 0 cap) ∧ NilCap ao cap ∧ Wh w' H S' 4611686018427387904 x ∧ GrowS S S' w w'
  nowV : ∀ (w : World) (H : Nat) (S : Nat → Prop) (now : Int) (x : Nat → Int), Wh w H S now x → Calls Tryd.prog 20 #[.pointer (some ⟨H, 0, none⟩)] w fun e w' => e = .returned (.int .i64 now) ∧ Below w.heap.size w w'
  len : ∀ (w : World) (H : Nat) (S : Nat → Prop) (now : Int) (x : Nat → Int), Wh w H S now x → Calls Tryd.prog 21 #[.pointer (some ⟨H, 0, none⟩)] w fun e w' => e = .returned (.int .i64 (cntV x 256 : Nat)) ∧ Below w.heap.size w w'
theorem WheelOk.later (O : WheelOk) {w w' : World} {H : Nat} {S : Nat → Prop} {now : Int} {x : Nat → Int} (h : O.Wh w H S now x) (hb : Below w.heap.size w w') : O.Wh w' H S now x := O.keep h (fun k hk => hb.block k (O.lt h k hk)) hb.size (O.tlater (O.tt h) hb)
theorem goL_none {x : Nat → Int} {t : Int} : ∀ n, (∀ j, j < n → x j ≠ t) → goL x t n = []
  | 0, _ => rfl
  | n + 1, h => by rw [goL_no (h n (Nat.lt_succ_self n))]; exact goL_none n fun j hj => h j (by omega)
theorem goX_none {x : Nat → Int} {t : Int} {n : Nat} (h : ∀ j, j < n → x j ≠ t) : goX x t n = x := by
  funext j
  unfold goX
  rw [if_neg (fun hj => h j hj.1 hj.2)]
theorem goL_one {x : Nat → Int} {t : Int} {i : Nat} (hi : x i = t) (hu : ∀ j, j ≠ i → x j ≠ t) : ∀ n, i < n → goL x t n = [(i : Int)]
  | 0, h => by omega
  | n + 1, h => by
    by_cases e : n = i
    · subst e
      rw [goL_yes hi, goL_none n fun j hj => hu j (by omega)]
      rfl
    · rw [goL_no (hu n e)]
      exact goL_one hi hu n (by omega)
theorem cntV_zero {x : Nat → Int} : ∀ n, (∀ j, j < n → x j < 0) → cntV x n = 0
  | 0, _ => rfl
  | n + 1, h => by
    have h1 := cntV_zero n fun j hj => h j (by omega)
    have h2 := h n (Nat.lt_succ_self n)
    rw [cntV, h1, if_neg (by omega)]
set_option maxRecDepth 100000 in
theorem num13_any (x : Int) (w : World) : Calls Tryd.prog 10 #[.int .i64 x] w fun e w' => e = .returned (.int .i64 x) ∧ w' = w := by
  go_enter Tryd.func10, Tryd.ntmps10
  go_wp2
  go_ret
  exact ⟨rfl, rfl⟩
def xK : Nat → Int := updR (fun _ => -1) 3 20
theorem xK_ne {t : Int} (h : t ≠ -1) (h2 : t ≠ 20) : ∀ j, j < 256 → xK j ≠ t := fun j _ => by
  unfold xK
  by_cases e : j = 3
  · subst e; rw [updR_at]; omega
  · rw [updR_ne _ _ e]; omega
theorem goL_K : goL xK 20 256 = [3] := goL_one (i := 3) (by unfold xK; rw [updR_at]) (fun j hj => by unfold xK; rw [updR_ne _ _ hj]; omega) 256 (by omega)
theorem goX_K : ∀ j, j < 256 → goX xK 20 256 j < 0 := fun j hj => by
  unfold goX xK
  by_cases e : j = 3
  · subst e; rw [updR_at, if_pos ⟨hj, rfl⟩]; omega
  · rw [updR_ne _ _ e, if_neg (fun h => by have := h.2; omega)]; omega
set_option maxRecDepth 100000 in
set_option maxHeartbeats 4000000 in
theorem knows13_of (O : WheelOk) (w : World) (hT : O.T w) : Calls Tryd.prog 7 #[] w fun e w' => e = .returned (.bool true) ∧ Below w.heap.size w w' := by
  have HN := Lib.hid (O.new 0 w hT)
  clear hT
  rw [show min (max (0 : Int) 0) 4611686018427387904 = 0 by decide] at HN
  go_enter Tryd.func7, Tryd.ntmps7
  go_wp2_with (first
    | (go_at_call 11; refine (O.set _ _ _ _ _ 3 20 h3.out).mono ?_; rintro e w4 ⟨S4, rfl, h4', g4'⟩; rw [show setC 0 3 20 = 0 by decide]; have h4 := Lib.hid (show O.Wh w4 H S4 0 xK from h4'); have g4 := Lib.hid (g4'.below s3.out b3.out.size); clear h4' g4')
    | (go_at_call 8; refine HN.out.mono ?_; rintro e w3 ⟨H, S, rfl, h3', s3', b3'⟩; have h3 := Lib.hid h3'; have s3 := Lib.hid s3'; have b3 := Lib.hid b3'; clear h3' s3' b3')
    | fail "no arm")
  have HB4 : Hid (Below w.heap.size w w4) := Lib.hid (b3.out.trans g4.out.1)
  go_loopw [3, 4] (fun s3 s4 wr => ∃ (k : Nat) (S : Nat → Prop), k ≤ 19 ∧ s3 = .int .i64 0 ∧ s4 = .int .i64 k ∧ Hid (O.Wh wr H S k xK) ∧ Hid (∀ j, S j → w.heap.size ≤ j) ∧ Hid (Below w.heap.size w wr)) (fun _ s _ => 19 - (intOf s).toNat)
  case atStart => exact ⟨0, S4, by omega, rfl, rfl, h4, Lib.hid g4.out.2, HB4⟩
  case round =>
    clear h4 g4 HB4 h3 s3 b3
    obtain ⟨k, S, hk, rfl, rfl, HW, HS, HB⟩ := hrel
    by_cases hlt : k < 19
    · have l0 : decide ((k : Int) < 19) = true := decide_eq_true (by omega)
      have hL : goL xK ((k : Int) + 1) 256 = [] := goL_none 256 (xK_ne (by omega) (by omega))
      have hX : goX xK ((k : Int) + 1) 256 = xK := goX_none (xK_ne (by omega) (by omega))
      have HG0 := O.go _ _ _ _ _ HW.out (by omega)
      rw [hL, hX] at HG0
      have HG := Lib.hid HG0
      clear hL hX HG0
      go_wp2_with (go_at_call 16; refine HG.out.mono ?_; rintro e w5 ⟨S5, ao, cap, rfl, _, h5', g5'⟩; simp only [List.length_nil]; have h5 := Lib.hid h5'; have g5 := Lib.hid (g5'.below HS.out HB.out.size); clear h5' g5')
      go_roundw
      case rel => exact ⟨k + 1, S5, by omega, rfl, by go_num, h5, Lib.hid g5.out.2, Lib.hid (HB.out.trans g5.out.1)⟩
      case measure => simp [intOf]; omega
    · have l0 : decide ((k : Int) < 19) = false := decide_eq_false (by omega)
      obtain rfl : k = 19 := by omega
      have HG0 := O.go _ _ _ _ _ HW.out (by decide)
      rw [show ((19 : Nat) : Int) + 1 = 20 by rfl, goL_K] at HG0
      have HG := Lib.hid HG0
      clear HG0
      go_wp2_with (first
        | (go_at_call 21; have _z := h6; refine (O.len _ _ _ _ _ h6.out).mono ?_; rintro e w7 ⟨rfl, hb7'⟩; rw [cntV_zero 256 goX_K]; have hb7 := Lib.hid hb7'; clear hb7')
        | (go_at_call 20; have _z := h5; refine (O.nowV _ _ _ _ _ h5.out).mono ?_; rintro e w6 ⟨rfl, hb6'⟩; have h6 := Lib.hid (O.later h5.out hb6'); have hb6 := Lib.hid hb6'; clear hb6')
        | (go_at_call 16; refine HG.out.mono ?_; rintro e w5 ⟨S5, ao, cap, rfl, l5, h5', g5'⟩; simp only [List.length_cons, List.length_nil]; have h5 := Lib.hid h5'; have g5 := Lib.hid (g5'.below HS.out HB.out.size); obtain ⟨a', c', e', _, _, hc⟩ := l5; cases e'; rcases hc with h0 | ⟨b, off, rfl, _, _, hc⟩; simp at h0; have q0 : w5.cell? ⟨b, off, none⟩ = some (.int .i64 3) := hc 0 _ rfl; clear h5' g5' hc)
        | (go_at_call 10; refine (num13_any _ _).mono ?_; rintro e w7 ⟨rfl, hw7⟩; rw [hw7]; clear hw7)
        | fail "no arm")
      go_ret
      exact ⟨rfl, ((HB.out.trans g5.out.1).trans (hb6.out.mono (Nat.le_trans HB.out.size g5.out.1.size))).trans (hb7.out.mono (Nat.le_trans (Nat.le_trans HB.out.size g5.out.1.size) hb6.out.size))⟩
end Go.Proofs.YtbjhoncojegjiaaDoor
