/- The document's numbers as bytes: power, Fits, Number. -/
import Derived.Test.YtiombjkjoehjpaaImageG
namespace Go.Proofs.Ytiombjkjoehjpaa
open Go.ChangeShapes Go.WideShapes Go.ChangeAt Go.RowKit
set_option linter.unusedVariables false

theorem bts_uno (l : List Int) : ∀ u ∈ bts l, u.oneCell' = true := by
  intro u hu
  obtain ⟨x, _, rfl⟩ := List.mem_map.1 hu
  rfl
theorem pow_pos' (s : Nat) : (0 : Int) < 256 ^ s := Int.pow_pos (by omega)
set_option maxRecDepth 100000 in
theorem power_any (s : Nat) (w : World) (h : s ≤ 7) : Calls Try.prog 71 #[.int .i64 (s : Int)] w fun e w' => e = .returned (.int .i64 (256 ^ s)) ∧ w = w' := by
  go_enter Try.func71, Try.ntmps71
  go_wp2_with fail
  go_loopw [3, 4] (fun n i wr => ∃ k : Nat, k ≤ s ∧ i = .int .i64 k ∧ n = .int .i64 (256 ^ k) ∧ w = wr) (fun _ i _ => s - (intOf i).toNat)
  case atStart => exact ⟨0, by omega, rfl, rfl, rfl⟩
  case round =>
    obtain ⟨k, hk, rfl, rfl, rfl⟩ := hrel
    by_cases hlt : k < s
    · have t1 : decide ((k : Int) < (s : Int)) = true := by simpa using hlt
      have t2 : decide ((k : Int) < 7) = true := by simp; omega
      have hp := pow7 (s := k) (by omega)
      have hp0 := pow_pos' k
      have hk6 : (256 : Int) ^ k ≤ 281474976710656 := by
        rcases (by omega : k = 0 ∨ k = 1 ∨ k = 2 ∨ k = 3 ∨ k = 4 ∨ k = 5 ∨ k = 6) with rfl | rfl | rfl | rfl | rfl | rfl | rfl <;> decide
      have HS : Hid ((256 : Int) ^ (k + 1) = 256 ^ k * 256) := Lib.hid (Int.pow_succ _ _)
      generalize (256 : Int) ^ k = P at *
      have w1 : IntKind.i64.wrap (P * 256) = P * 256 := IntWalk.i64_in _ (by omega)
      go_wp2_with fail
      go_roundw
      case rel => exact ⟨k + 1, by omega, by go_num, by rw [HS.out], by first | rfl | trivial⟩
      case measure => simp [intOf]; omega
    · have t1 : decide ((k : Int) < (s : Int)) = false := by simp; omega
      have hks : k = s := by omega
      subst hks
      go_wp2_with fail
      go_ret
      exact ⟨rfl, by first | rfl | trivial⟩
set_option maxRecDepth 100000 in
theorem rFits_any (s : Nat) (n : Int) (w : World) (h1 : 1 ≤ s) (h7 : s ≤ 7) : Calls Try.prog 46 #[.int .i64 (s : Int), .int .i64 n] w fun e w' => e = .returned (.bool (fitsB s n)) ∧ w = w' := by
  have t1 : decide ((s : Int) ≥ 1) = true := by simp; omega
  have t2 : decide ((s : Int) ≤ 7) = true := by simp; omega
  by_cases hn : 0 ≤ n
  · have t3 : decide (n ≥ 0) = true := decide_eq_true hn
    have HB : Hid (decide (n < 256 ^ s) = fitsB s n) := Lib.hid (by simp [fitsB, hn])
    go_enter Try.func46, Try.ntmps46
    go_wp2_with (first | (go_at_call 71; refine (power_any s _ h7).mono ?_; rintro e w' ⟨rfl, rfl⟩))
    go_ret
    exact ⟨by rw [← HB.out]; rfl, rfl⟩
  · have t3 : decide (n ≥ 0) = false := by simp; omega
    have HB : Hid (fitsB s n = false) := Lib.hid (by simp [fitsB]; omega)
    go_enter Try.func46, Try.ntmps46
    go_wp2_with fail
    go_ret
    exact ⟨by rw [HB.out]; rfl, rfl⟩
set_option maxRecDepth 100000 in
set_option maxHeartbeats 2000000 in
theorem rNumber_any (s : Nat) (n : Int) (w : World) (h1 : 1 ≤ s) (h7 : s ≤ 7) (n0 : 0 ≤ n) (n1 : n < 256 ^ s) : Calls Try.prog 47 #[.int .i64 (s : Int), .int .i64 n] w fun e w' => ∃ a c, e = .returned (.slice a s c) ∧ w'.ownsRow w.heap.size 5 1 (.slice a s c) s (bts (putN s n)) ∧ Below w.heap.size w w' := by
  obtain ⟨i0, hi0, hz0, hz1, hz2⟩ := info_parts Try.infoU8
  have HI := Lib.hid hi0
  have hn9 := pow7 h7
  have nb : n < 72057594037927936 := by omega
  clear hi0 n1 hn9
  have m1 : IntKind.i64.wrap ((s : Int) - 1) = (s : Int) - 1 := IntWalk.i64_in _ (by omega)
  go_enter Try.func47, Try.ntmps47
  go_wp2_with fail
  go_loopw [5, 6] (fun v i wr => ∃ (k j : Nat) (D : List Int) (a : Option Addr) (c : Nat), k + j = s ∧ i = .int .i64 ((k : Int) - 1) ∧ v = .slice a j c ∧ Hid (D.length = j) ∧ Hid (putN s n = D ++ putN k n) ∧ Hid (wr.ownsRow w.heap.size 5 1 (.slice a j c) j (bts D)) ∧ Hid (Below w.heap.size w wr)) (fun _ i _ => (intOf i + 1).toNat)
  case atStart => exact ⟨s, 0, [], none, 0, by omega, by first | rfl | go_num, rfl, Lib.hid rfl, Lib.hid rfl, Lib.hid ⟨rfl, .inl ⟨rfl, rfl⟩⟩, Lib.hid (Below.refl _ _)⟩
  case round =>
    obtain ⟨k, j, D, a, c, hk, rfl, rfl, HD, HP, HO, HB⟩ := hrel
    have hsz := HB.out.size
    cases k with
    | zero =>
      have t1 : decide (((0 : Nat) : Int) - 1 ≥ 0) = false := by decide
      go_wp2_with fail
      go_ret
      have hj : j = s := by omega
      subst hj
      have h2 := HO.out
      rw [show D = putN j n by have := HP.out; simpa [putN] using this.symm] at h2
      exact ⟨a, c, rfl, h2, HB.out⟩
    | succ k =>
      have e1 : (((k + 1 : Nat) : Int) - 1) = (k : Int) := by omega
      rw [e1]
      have t1 : decide ((k : Int) ≥ 0) = true := by simp
      have hp0 := pow_pos' k
      have hp7 := pow7 (s := k) (by omega)
      have HC := Lib.hid (putN_cons k n)
      have CP := Lib.hid (fun (W : World) => power_any k W (by omega))
      have hq0 : 0 ≤ n / 256 ^ k := Int.ediv_nonneg n0 (Int.le_of_lt hp0)
      have hq1 : n / 256 ^ k ≤ n := Int.ediv_le_self _ n0
      generalize hP : (256 : Int) ^ k = P at *
      have z1 : P ≠ 0 := by omega
      have z2 : ¬ P = 0 := z1
      have z3 : (P == 0) = false := by simp; omega
      have z4 : decide (P = 0) = false := by simp; omega
      have q1 : IntKind.i64.wrap (n.tdiv P) = n / P := by rw [Int.tdiv_eq_ediv_of_nonneg n0]; exact IntWalk.i64_in _ (by omega)
      have q2 : (n / P).tmod 256 = n / P % 256 := Int.tmod_eq_emod_of_nonneg hq0
      have q3 : IntKind.i64.wrap (n / P % 256) = n / P % 256 := IntWalk.i64_in _ (by omega)
      have q4 : IntKind.u8.wrap (n / P % 256) = n / P % 256 := IntWalk.u8_in _ (by omega)
      clear hP
      go_wp2_with (first
        | (go_at_call 71; refine (CP.out _).mono ?_; rintro e w' ⟨rfl, rfl⟩)
        | (refine wpList_append_lie (by rfl) (.tmp 13) (.tmp 20) 29 (by rfl) w.heap.size 5 i0 _ 1 1 Try.underlying29 HI.out hz0 hz1 hz2 rfl (by omega) (.slice a j c) j _ (by rfl) (owns_later HO.out (below1 _ _)) (.slice (some ⟨wr.heap.size, 0, none⟩) 1 1) wr.heap.size (wr.heap.size + 1) 1 (bts [n / P % 256]) (by rfl) (one_lies (heap_new_at rfl) rfl) (bts_uno _) (j + 1) (by omega) (by simp [maxLen]; omega) (by omega) (by simp; omega) ?_
           intro ao cap' w3 hown hgrow
           have HOW3 := Lib.hid hown
           have HBG : Hid (Below w.heap.size wr w3) := Lib.hid (((below1 wr _).mono hsz).grown hgrow (by simp; omega) (fun g hg => ((owns_block HO.out) g hg).1))
           clear hown hgrow))
      go_roundw
      case rel => exact ⟨k, j + 1, D ++ [n / P % 256], ao, cap', by omega, by go_num, rfl, Lib.hid (by rw [List.length_append, HD.out]; rfl), Lib.hid (by rw [HP.out, HC.out, List.append_assoc]; rfl), Lib.hid (by have := HOW3.out; unfold bts at this ⊢; rw [List.map_append]; exact this), Lib.hid (HB.out.trans HBG.out)⟩
      case measure => simp [intOf]
end Go.Proofs.Ytiombjkjoehjpaa
