/- WheelFar, out of the contracts. -/
import Derived.Test.YtbjhoncojegjiaaDoorWheelC
namespace Go.Proofs.YtbjhoncojegjiaaDoor
open Go.ChangeShapes Go.WideShapes Go.ChangeAt Go.RowKit
set_option linter.unusedVariables false

theorem rem900 (n : Int) : ∃ k : Nat, k < 900 ∧ (wrap64 (n.tmod 900 + 900)).tmod 900 = k := by
  have a := Int.tmod_lt_of_pos n (show (0 : Int) < 900 by omega)
  have b := Int.lt_tmod_of_pos n (show (0 : Int) < 900 by omega)
  have hp : 0 ≤ n.tmod 900 + 900 := by omega
  rw [IntWalk.wrap64_in (n.tmod 900 + 900) ⟨by omega, by omega⟩]
  refine ⟨((n.tmod 900 + 900).tmod 900).toNat, ?_, ?_⟩
  · have := Int.tmod_lt_of_pos (n.tmod 900 + 900) (show (0 : Int) < 900 by omega)
    have := Int.tmod_nonneg 900 hp
    omega
  · have := Int.tmod_nonneg 900 hp
    omega
def x7 (t : Int) : Nat → Int := updR (fun _ => -1) 7 t
theorem x7_ne {t s : Int} (h : s ≠ -1) (h2 : s ≠ t) : ∀ j, j < 256 → x7 t j ≠ s := fun j _ => by
  unfold x7
  by_cases e : j = 7
  · subst e; rw [updR_at]; omega
  · rw [updR_ne _ _ e]; omega
theorem goL_7 {t : Int} (h : 0 ≤ t) : goL (x7 t) t 256 = [7] := goL_one (i := 7) (by unfold x7; rw [updR_at]) (fun j hj => by unfold x7; rw [updR_ne _ _ hj]; omega) 256 (by omega)
set_option maxRecDepth 100000 in
set_option maxHeartbeats 4000000 in
theorem WheelFar_of (O : WheelOk) (tick before : Int) (w : World) (hT : O.T w) : Calls Tryd.prog 5 #[.int .i64 tick, .int .i64 before] w fun e w' => e = .returned (.bool true) ∧ Below w.heap.size w w' := by
  have HK := Lib.hid (knows13_of O w hT)
  have HTT : Hid (∀ Y, Below w.heap.size w Y → O.T Y) := Lib.hid (fun Y hY => O.tlater hT hY)
  clear hT
  by_cases h1 : tick < 1000
  · have t1 : decide (tick < 1000) = true := decide_eq_true h1
    go_enter Tryd.func5, Tryd.ntmps5
    go_wp2_with (go_at_call 7; refine HK.out.mono ?_; rintro e w3 ⟨rfl, hb3⟩)
    go_ret
    exact ⟨rfl, hb3⟩
  · have t1 : decide (tick < 1000) = false := decide_eq_false h1
    by_cases h2 : (4611686018427387904 : Int) < tick
    · have t2 : decide ((4611686018427387904 : Int) < tick) = true := decide_eq_true h2
      go_enter Tryd.func5, Tryd.ntmps5
      go_wp2_with (go_at_call 7; refine HK.out.mono ?_; rintro e w3 ⟨rfl, hb3⟩)
      go_ret
      exact ⟨rfl, hb3⟩
    · have t2 : decide ((4611686018427387904 : Int) < tick) = false := decide_eq_false h2
      obtain ⟨bf, hbf, hmod⟩ := rem900 before
      obtain ⟨n0, hn0⟩ : ∃ n0 : Int, n0 = tick - ((bf : Int) + 1) := ⟨_, rfl⟩
      have hs : tick - (1 + (bf : Int)) = n0 := by omega
      have g1 : 0 ≤ n0 := by omega
      have g2 : n0 < 4611686018427387904 := by omega
      have HMM : Hid (min (max n0 0) 4611686018427387904 = n0) := Lib.hid (by omega)
      have HC : Hid (setC n0 7 tick = 0 ∧ setX n0 (fun _ => -1) 7 tick = x7 tick) := Lib.hid (by
        have e : inT 7 = true := by decide
        exact ⟨by simp [setC, e]; omega, by rw [setX, if_pos ⟨e, by omega, by omega⟩]; rfl⟩)
      have HT : Hid (n0 = tick - ((bf : Int) + 1)) := Lib.hid hn0
      clear hn0
      go_enter Tryd.func5, Tryd.ntmps5
      go_wp2_with (first
        | (go_at_call 11; refine (O.set _ _ _ _ _ 7 tick h3.out).mono ?_; rintro e w4 ⟨S4, rfl, h4', g4'⟩; rw [HC.out.1]; rw [HC.out.2] at h4'; have h4 := Lib.hid h4'; have g4 := Lib.hid (g4'.below (B := w.heap.size) (fun k hk => Nat.le_trans b1.out.size (s3.out k hk)) (Nat.le_trans b1.out.size b3.out.size)); clear h4' g4')
        | (go_at_call 8; refine (O.new n0 _ (HTT.out _ b1.out)).mono ?_; rintro e w3 ⟨H, S, rfl, h3', s3', b3'⟩; rw [HMM.out] at h3'; have h3 := Lib.hid h3'; have s3 := Lib.hid s3'; have b3 := Lib.hid b3'; clear h3' s3' b3')
        | (go_at_call 7; refine HK.out.mono ?_; rintro e w1 ⟨rfl, hb1'⟩; have b1 := Lib.hid hb1'; clear hb1')
        | fail "no arm")
      have HB4 : Hid (Below w.heap.size w w4) := Lib.hid ((b1.out.trans (b3.out.mono b1.out.size)).trans g4.out.1)
      go_loopw [7] (fun s wr => ∃ (k : Nat) (S : Nat → Prop), k ≤ bf ∧ s = .int .i64 ((k : Int) + 1) ∧ Hid (O.Wh wr H S (n0 + k) (x7 tick)) ∧ Hid (∀ j, S j → w.heap.size ≤ j) ∧ Hid (Below w.heap.size w wr)) (fun s _ => bf + 1 - (intOf s).toNat)
      case atStart => exact ⟨0, S4, by omega, rfl, Lib.hid (by simpa using h4.out), Lib.hid g4.out.2, HB4⟩
      case round =>
        clear h4 g4 HB4 h3 s3 b3 b1
        obtain ⟨k, S, hk, rfl, HW, HS, HB⟩ := hrel
        by_cases hlt : k < bf
        · have l0 : decide ((k : Int) + 1 < 1 + (bf : Int)) = true := decide_eq_true (by omega)
          have hL : goL (x7 tick) (n0 + k + 1) 256 = [] := goL_none 256 (x7_ne (by omega) (by have := HT.out; omega))
          have hX : goX (x7 tick) (n0 + k + 1) 256 = x7 tick := goX_none (x7_ne (by omega) (by have := HT.out; omega))
          have HG0 := O.go _ _ _ _ _ HW.out (by have := HT.out; omega)
          rw [hL, hX] at HG0
          have HG := Lib.hid HG0
          clear hL hX HG0
          go_wp2_with (go_at_call 16; refine HG.out.mono ?_; rintro e w5 ⟨S5, ao, cap, rfl, _, h5', g5'⟩; simp only [List.length_nil]; have h5 := Lib.hid h5'; have g5 := Lib.hid (g5'.below HS.out HB.out.size); clear h5' g5')
          go_roundw
          case rel => exact ⟨k + 1, S5, by omega, by go_num, Lib.hid (by have := h5.out; rwa [show n0 + k + 1 = n0 + ((k + 1 : Nat) : Int) by omega] at this), Lib.hid g5.out.2, Lib.hid (HB.out.trans g5.out.1)⟩
          case measure => simp [intOf]; omega
        · have l0 : decide ((k : Int) + 1 < 1 + (bf : Int)) = false := decide_eq_false (by omega)
          have hkb : k = bf := by omega
          have HG0 := O.go _ _ _ _ _ HW.out (by have := HT.out; omega)
          rw [show n0 + k + 1 = tick by have := HT.out; omega, goL_7 (by omega)] at HG0
          have HG := Lib.hid HG0
          have HS2 : Hid (setC 4611686018427387904 1 4611686018427387904 = 2) := Lib.hid (by decide)
          clear HG0 hkb
          go_wp2_with (first
            | (go_at_call 11; have _z := h8; refine (O.set _ _ _ _ _ 1 4611686018427387904 h8.out).mono ?_; rintro e w9 ⟨S9, rfl, _, g9'⟩; rw [HS2.out]; have g9 := Lib.hid (g9'.below s8.out b8.out.size).1; clear g9')
            | (go_at_call 20; have _z := h7; refine (O.nowV _ _ _ _ _ h7.out).mono ?_; rintro e w8 ⟨rfl, hb8'⟩; have h8 := Lib.hid (O.later h7.out hb8'); have s8 := s7; have b8 := Lib.hid (b7.out.trans (hb8'.mono b7.out.size)); clear hb8')
            | (go_at_call 16; have _z := h6; refine (O.goEnd _ _ _ _ h6.out).mono ?_; rintro e w7 ⟨S7, a7, c7, rfl, _, h7', g7'⟩; have h7 := Lib.hid h7'; have s7 := Lib.hid (g7'.below s6.out b6.out.size).2; have b7 := Lib.hid (b6.out.trans (g7'.below s6.out b6.out.size).1); clear h7' g7')
            | (go_at_call 16; refine HG.out.mono ?_; rintro e w5 ⟨S5, ao, cap, rfl, l5, h5', g5'⟩; simp only [List.length_cons, List.length_nil]; have h5 := Lib.hid h5'; have g5 := Lib.hid (g5'.below HS.out HB.out.size); have L5 := Lib.hid l5; clear h5' g5' l5)
            | (go_at_call 8; refine (O.new 4611686018427387904 _ (HTT.out _ (HB.out.trans g5.out.1))).mono ?_; rintro e w6 ⟨H6, S6, rfl, h6', s6', b6'⟩; rw [show min (max (4611686018427387904 : Int) 0) 4611686018427387904 = 4611686018427387904 by decide] at h6'; have h6 := Lib.hid h6'; have s6 := Lib.hid s6'; have b6 := Lib.hid b6'; obtain ⟨a', c', e', _, _, hc⟩ := L5.out.keep (SameIn.of_below b6' (Nat.le_refl _)); cases e'; rcases hc with h0 | ⟨b, off, rfl, _, _, hc⟩; simp at h0; have q0 : w6.cell? ⟨b, off, none⟩ = some (.int .i64 7) := hc 0 _ rfl; clear h6' s6' b6' hc)
            | (go_at_call 10; refine (num13_any _ _).mono ?_; rintro e w7 ⟨rfl, hw7⟩; rw [hw7]; clear hw7)
            | fail "no arm")
          go_ret
          have f1 := HB.out.trans g5.out.1
          exact ⟨rfl, (f1.trans (b8.out.mono f1.size)).trans (g9.out.mono f1.size)⟩
end Go.Proofs.YtbjhoncojegjiaaDoor
