/- Each place at which a demand rises, told to the closure that marks. -/
import Derived.Test.YtlmgphomklpplaaDemandW
namespace Go.Proofs.Ytlmgphomklpplaa
open Go.ChangeShapes Go.WideShapes Go.ChangeAt Go.RowKit
set_option linter.unusedVariables false

/-- The marks set by the first k places of a row, each coming again after e ticks. -/
def metRow (met : Nat → Bool) (row : Nat → Bool) (e k : Nat) : Nat → Bool := fun t => met t || (List.range k).any fun i => row i && hitB i e t
def metRows (met : Nat → Bool) (again : Nat → Nat → Bool) (k : Nat) : Nat → Bool := fun t => met t || (List.range k).any fun p => (List.range (p + 2)).any fun i => again p i && hitB i p t
theorem metRow_zero (met row : Nat → Bool) (e : Nat) : metRow met row e 0 = met := by funext t; simp [metRow]
theorem metRow_yes (met : Nat → Bool) {row : Nat → Bool} {k : Nat} (e : Nat) (h : row k = true) : (fun t => metRow met row e k t || hitB k e t) = metRow met row e (k + 1) := by
  funext t; unfold metRow; rw [List.range_succ, List.any_append]; simp [h, Bool.or_assoc]
theorem metRow_no (met : Nat → Bool) {row : Nat → Bool} {k : Nat} (e : Nat) (h : row k = false) : metRow met row e k = metRow met row e (k + 1) := by
  funext t; unfold metRow; rw [List.range_succ, List.any_append]; simp [h]
theorem metRows_zero (met : Nat → Bool) (again : Nat → Nat → Bool) : metRows met again 0 = met := by funext t; simp [metRows]
theorem metRows_next (met : Nat → Bool) (again : Nat → Nat → Bool) (p : Nat) : metRow (metRows met again p) (again p) p (p + 2) = metRows met again (p + 1) := by
  funext t; unfold metRow metRows; rw [List.range_succ (n := p), List.any_append]; simp [Bool.or_assoc]
theorem metRows_none (met : Nat → Bool) {again : Nat → Nat → Bool} {p : Nat} (h : ∀ i, again p i = false) : metRows met again p = metRows met again (p + 1) := by
  rw [← metRows_next]
  funext t; unfold metRow; simp [h]
theorem metE_is (met once : Nat → Bool) (again : Nat → Nat → Bool) : metRows (metRow met once 65536 1001) again 1001 = fun t => met t || metE once again t := by
  funext t; unfold metRows metRow metE; rw [Bool.or_assoc]
set_option maxRecDepth 100000 in
set_option maxHeartbeats 4000000 in
theorem each_any {w : World} {lo G O A M B n : Nat} {met once : Nat → Bool} {again : Nat → Nat → Bool} {rows : Nat → Option Nat} (h : Rises w lo G O A once again rows) (h0 : ∀ i, again 0 i = false)
    (hM : w.heap[M]? = some (.cells #[.slice (some ⟨B, 0, none⟩) n n] 59 (0, 0))) (hB : CellsAt w B 4 (bools met n)) (hMB : M ≠ B) (hBl : B < lo) (hn : n ≤ 65537) :
    Calls Try.prog 28 #[.pointer (some ⟨G, 0, none⟩), .func (.func 29) #[] #[.pointer (some ⟨M, 0, none⟩)]] w fun e w' => e = .returned (.tuple #[]) ∧ CellsAt w' B 4 (bools (fun t => met t || metE once again t) n) ∧ But B w w' := by
  have HH := Lib.hid h; have HM := Lib.hid hM; have H0 := Lib.hid h0
  have HB := Lib.hid (show CellsAt w B 4 (bools (metRow met once 65536 0) n) from by rw [metRow_zero]; exact hB)
  have y0 : w.cell? ⟨G, 0, none⟩ = some (.slice (some ⟨O, 0, none⟩) 1001 1001) := cell_in h.box rfl
  have HE := Lib.hid (metE_is met once again)
  clear h hM hB h0
  go_enter Try.func28, Try.ntmps28
  go_wp2_with fail
  clear y0
  go_loopw [15] (fun i wr => ∃ k : Nat, k ≤ 1001 ∧ i = .int .i64 k ∧ Hid (CellsAt wr B 4 (bools (metRow met once 65536 k) n)) ∧ But B w wr) (fun i _ => 1001 - (intOf i).toNat)
  case atStart => exact ⟨0, by omega, rfl, HB, But.refl _ _⟩
  case round =>
    clear HB
    obtain ⟨k, hk, rfl, HB, hb⟩ := hrel
    by_cases hlt : k < 1001
    · have tk : decide ((k : Int) < 1001) = true := by simp; omega
      have y1 := ((HH.out.but hBl hb).o.cell (bools_at (f := once) hlt)).1
      have l0 : (0 : Int) ≤ (k : Int) := by omega
      have l1 : (k : Int) < 1001 := by omega
      cases ho : once k with
      | true =>
        have HN := Lib.hid (metRow_yes met 65536 ho)
        have CM := Lib.hid (mark_any (hb.at HM.out hMB) HB.out hMB hn k 65536 (by omega) (by omega) (by omega))
        rw [ho] at y1
        clear ho
        go_wp2_with (first
          | (go_at_call 29; refine CM.out.mono ?_; rintro e w1 ⟨rfl, hc1, hb1⟩))
        go_roundw
        case rel => exact ⟨k + 1, by omega, by go_num, Lib.hid (by rw [← HN.out]; exact hc1), hb.trans hb1⟩
        case measure => simp [intOf]; omega
      | false =>
        have HN := Lib.hid (metRow_no met 65536 ho)
        rw [ho] at y1
        clear ho
        go_wp2_with fail
        go_roundw
        case rel => exact ⟨k + 1, by omega, by go_num, Lib.hid (by rw [← HN.out]; exact HB.out), hb⟩
        case measure => simp [intOf]; omega
    · have tk : decide ((k : Int) < 1001) = false := by simp; omega
      have hk1 : k = 1001 := by omega
      have HB2 := Lib.hid (show CellsAt wr B 4 (bools (metRows (metRow met once 65536 1001) again 0) n) from by rw [metRows_zero, ← hk1]; exact HB.out)
      have y1 : wr.cell? ⟨G, 1, none⟩ = some (.slice (some ⟨A, 0, none⟩) 1001 1001) := cell_in (HH.out.but hBl hb).box rfl
      clear HB hk1
      obtain ⟨m, hm⟩ : ∃ m, m = metRow met once 65536 1001 := ⟨_, rfl⟩
      rw [← hm] at HB2 HE
      clear hm
      go_wp2_with fail
      clear y1
      go_loopw [30] (fun i wr => ∃ p : Nat, p ≤ 1001 ∧ i = .int .i64 p ∧ Hid (CellsAt wr B 4 (bools (metRows m again p) n)) ∧ But B w wr) (fun i _ => 1001 - (intOf i).toNat)
      case atStart => exact ⟨0, by omega, rfl, HB2, hb⟩
      case round =>
        clear HB2 hb hk hlt tk
        obtain ⟨p, hp, rfl, HB, hb⟩ := hrel
        obtain ⟨wo, hwo⟩ : ∃ wo, wo = wr := ⟨_, rfl⟩
        subst hwo
        by_cases hlt : p < 1001
        · have tk : decide ((p : Int) < 1001) = true := by simp; omega
          have y1 := ((HH.out.but hBl hb).a.cell (rowsL_at (rows := rows) hlt)).1
          unfold rowV at y1
          have l0 : (0 : Int) ≤ (p : Int) := by omega
          have l1 : (p : Int) < 1001 := by omega
          cases hr : rows p with
          | none =>
            rw [hr] at y1
            have HN := Lib.hid (metRows_none m (HH.out.n p hlt hr))
            clear hr
            go_wp2_with fail
            go_loopw [37] (fun i wx => i = .int .i64 0 ∧ Hid (CellsAt wx B 4 (bools (metRows m again p) n)) ∧ But B w wx) (fun _ _ => 0)
            case atStart => exact ⟨rfl, HB, hb⟩
            case round =>
              clear HB hb
              obtain ⟨rfl, HB, hb⟩ := hrel
              go_wp2_with fail
              go_roundw
              case rel => exact ⟨p + 1, by omega, by go_num, Lib.hid (by rw [← HN.out]; exact HB.out), hb⟩
              case measure => simp [intOf]; omega
          | some BB =>
            rw [hr] at y1
            have HROW := Lib.hid hr
            have HN := Lib.hid (metRows_next m again p)
            have HB3 := Lib.hid (show CellsAt wo B 4 (bools (metRow (metRows m again p) (again p) p 0) n) from by rw [metRow_zero]; exact HB.out)
            clear hr HB
            generalize metRows m again p = m2 at HN HB3
            go_wp2_with fail
            clear y1
            go_loopw [37] (fun i wx => ∃ q : Nat, q ≤ p + 2 ∧ i = .int .i64 q ∧ Hid (CellsAt wx B 4 (bools (metRow m2 (again p) p q) n)) ∧ But B w wx) (fun i _ => p + 2 - (intOf i).toNat)
            case atStart => exact ⟨0, by omega, rfl, HB3, hb⟩
            case round =>
              clear HB3 hb
              obtain ⟨q, hq, rfl, HB, hb⟩ := hrel
              by_cases hlq : q < p + 2
              · have tq : decide ((q : Int) < (p : Int) + 2) = true := by simp; omega
                have tq2 : decide ((q : Int) < ((p + 2 : Nat) : Int)) = true := by simp; omega
                have tq3 : decide (q < p + 2) = true := by simp; omega
                obtain ⟨_, _, _, _, h5⟩ := (HH.out.but hBl hb).r p BB hlt HROW.out
                have y2 := (h5.cell (bools_at (f := again p) hlq)).1
                clear h5
                have q0 : (0 : Int) ≤ (q : Int) := by omega
                have q1 : (q : Int) < ((p + 2 : Nat) : Int) := by omega
                have q2 : (q : Int) < (p : Int) + 2 := by omega
                cases ha : again p q with
                | true =>
                  have hp1 : 1 ≤ p := by
                    rcases Nat.eq_zero_or_pos p with e | e
                    · subst e; rw [H0.out] at ha; cases ha
                    · exact e
                  have HN2 := Lib.hid (metRow_yes m2 p ha)
                  have CM := Lib.hid (mark_any (hb.at HM.out hMB) HB.out hMB hn q p (by omega) hp1 (by omega))
                  rw [ha] at y2
                  clear ha
                  go_wp2_with (first
                    | (go_at_call 29; refine CM.out.mono ?_; rintro e w1 ⟨rfl, hc1, hb1⟩))
                  go_roundw
                  case rel => exact ⟨q + 1, by omega, by go_num, Lib.hid (by rw [← HN2.out]; exact hc1), hb.trans hb1⟩
                  case measure => simp [intOf]; omega
                | false =>
                  have HN2 := Lib.hid (metRow_no m2 p ha)
                  rw [ha] at y2
                  clear ha
                  go_wp2_with fail
                  go_roundw
                  case rel => exact ⟨q + 1, by omega, by go_num, Lib.hid (by rw [← HN2.out]; exact HB.out), hb⟩
                  case measure => simp [intOf]; omega
              · have tq : decide ((q : Int) < (p : Int) + 2) = false := by simp; omega
                have tq2 : decide ((q : Int) < ((p + 2 : Nat) : Int)) = false := by simp; omega
                have tq3 : decide (q < p + 2) = false := by simp; omega
                have hqq : q = p + 2 := by omega
                have HB2 := Lib.hid (show CellsAt wr B 4 (bools (metRow m2 (again p) p (p + 2)) n) from by rw [← hqq]; exact HB.out)
                clear HB hqq
                go_wp2_with fail
                go_roundw
                case rel => exact ⟨p + 1, by omega, by go_num, Lib.hid (by rw [← HN.out]; exact HB2.out), hb⟩
                case measure => simp [intOf]; omega
        · have tk : decide ((p : Int) < 1001) = false := by simp; omega
          have hp1 : p = 1001 := by omega
          have HB2 := Lib.hid (show CellsAt wo B 4 (bools (fun t => met t || metE once again t) n) from by rw [← HE.out, ← hp1]; exact HB.out)
          clear HB hp1
          go_wp2_with fail
          go_end0
          exact ⟨rfl, HB2.out, hb⟩
end Go.Proofs.Ytlmgphomklpplaa
