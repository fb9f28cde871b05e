/- LedgerSums, out of the contracts. -/
import Derived.Test.YtikjahdnffklhaaLedgC
import Derived.Test.YtikjahdnffklhaaNum
namespace Go.Proofs.Ytikjahdnffklhaa
open Go.ChangeShapes Go.WideShapes Go.ChangeAt Go.RowKit
set_option linter.unusedVariables false

/-- What a sum comes to, and whether all fitted. -/
def sumStep (s : Int × Bool) (x : Int) : Int × Bool := (addTold s.1 x, s.2 && addFits s.1 x)
def sumRun (l : List Int) : Int × Bool := l.foldl sumStep (0, true)
def sumB (l : List Int) : Bool := (sumRun l).2
def sumT (l : List Int) : Int := if sumB l = true then (sumRun l).1 else 0
theorem sumRun_take {l : List Int} {k : Nat} (h : k < l.length) : sumRun (l.take (k + 1)) = sumStep (sumRun (l.take k)) l[k] := by
  unfold sumRun
  rw [List.take_add_one, List.getElem?_eq_getElem h, List.foldl_append]
  rfl
/-- The contract of Sum. -/
structure SumOk where
  sum : ∀ (w : World) (a : Option Addr) (n c : Nat) (l : List Int), l.length = n → n ≤ 100 → Lies w 0 w.heap.size (.slice a n c) n 1 (l.flatMap intCells) → (∀ x ∈ l, I64 x) → Calls Try.prog 19 #[.slice a n c] w fun e w' => e = .returned (.tuple #[.int .i64 (sumT l), .bool (sumB l)]) ∧ Below w.heap.size w w'
set_option maxRecDepth 100000 in
set_option maxHeartbeats 8000000 in
theorem LedgerSums_of (O : LedgerOk) (P : SumOk) (a0 : Option Addr) (n0 c0 : Nat) (w : World) (l0 : List Int) (hn0 : l0.length = n0) (hl0 : Lies w 0 w.heap.size (.slice a0 n0 c0) n0 1 (l0.flatMap intCells)) (hi0 : ∀ x ∈ l0, I64 x) :
    Calls Try.prog 5 #[.slice a0 n0 c0] w fun e w' => e = .returned (.bool true) ∧ Below w.heap.size w w' := by
  have HK := Lib.hid (knows15_of O w)
  by_cases hbig : 100 < n0
  · have t0 : decide ((100 : Int) < (n0 : Int)) = true := decide_eq_true (by omega)
    clear hbig hn0 hl0 hi0
    go_enter Try.func5, Try.ntmps5
    go_wp2_with (go_at_call 7; refine HK.out.mono ?_; rintro e w3 ⟨rfl, hb3⟩)
    go_ret
    exact ⟨rfl, hb3⟩
  have s0 : n0 ≤ 100 := by omega
  have t0 : decide ((100 : Int) < (n0 : Int)) = false := decide_eq_false (by omega)
  have HN0 := Lib.hid hn0
  have HI0 := Lib.hid hi0
  have HLI : Hid (∀ Y, Below w.heap.size w Y → Lies Y 0 Y.heap.size (.slice a0 n0 c0) n0 1 (l0.flatMap intCells)) := Lib.hid (fun Y hY => (hl0.keep (SameIn.of_below hY (Nat.le_refl _))).wider (Nat.le_refl _) hY.size)
  have KA : Hid (∀ Y, Below w.heap.size w Y → ∀ i, i < n0 → ∃ b off x, a0 = some ⟨b, off, none⟩ ∧ Y.cell? ⟨b, off + i, none⟩ = some (.int .i64 x) ∧ l0[i]? = some x) := Lib.hid (fun Y hY i hi => by
    obtain ⟨a', c', e, _, _, hc⟩ := hl0.keep (SameIn.of_below hY (Nat.le_refl _))
    cases e
    rcases hc with h0 | ⟨b, off, rfl, _, _, hc⟩
    · omega
    · have f := flat_at intCells 1 (fun _ => rfl) l0 i 0 _ (List.getElem?_eq_getElem (by omega)) (by omega)
      rw [show i * 1 + 0 = i by omega] at f
      exact ⟨b, off, _, rfl, hc i _ f, List.getElem?_eq_getElem (by omega)⟩)
  clear hbig hn0 hl0 hi0
  go_enter Try.func5, Try.ntmps5
  go_wp2_with fail
  go_loopw [3, 4, 5] (fun s3 s4 s5 wr => ∃ (k : Nat) (acc : Int) (b : Bool), k ≤ n0 ∧ s3 = .int .i64 acc ∧ s4 = .bool b ∧ s5 = .int .i64 k ∧ Hid (sumRun (l0.take k) = (acc, b)) ∧ Hid (Below w.heap.size w wr)) (fun _ _ s _ => n0 - (intOf s).toNat)
  case atStart => exact ⟨0, 0, true, Nat.zero_le _, rfl, rfl, rfl, Lib.hid rfl, Lib.hid (Below.refl _ _)⟩
  case round =>
    obtain ⟨k, acc, b, hk, rfl, rfl, rfl, HR, HB⟩ := hrel
    by_cases hlt : k < n0
    · have d0 : decide ((k : Int) < (n0 : Int)) = true := decide_eq_true (by omega)
      have d1 : (0 : Int) ≤ (k : Int) := by omega
      have d2 : (k : Int) < (n0 : Int) := by omega
      obtain ⟨bl, off, x, rfl, q0, hx0⟩ := KA.out wr HB.out k hlt
      have hx : x = l0[k]'(by have := HN0.out; omega) := by
        rw [List.getElem?_eq_getElem (by have := HN0.out; omega)] at hx0
        exact (Option.some.inj hx0).symm
      obtain ⟨v, hv⟩ : ∃ v, v = addTold acc x := ⟨_, rfl⟩
      obtain ⟨f, hf⟩ : ∃ f, f = addFits acc x := ⟨_, rfl⟩
      have HNX : Hid (sumRun (l0.take (k + 1)) = (v, b && f)) := Lib.hid (by
        rw [sumRun_take (by have := HN0.out; omega), HR.out, ← hx, hv, hf]
        rfl)
      have HV := Lib.hid (And.intro hv hf)
      clear hx hx0 hv hf HR
      cases b with
      | true =>
        go_wp2_with (first
          | (go_at_call 18; refine (refAdd_any _ _ _).mono ?_; rintro e w' ⟨rfl, rfl⟩; rw [← HV.out.1, ← HV.out.2])
          | fail "no arm")
        go_roundw
        case rel => exact ⟨k + 1, v, f, by omega, rfl, rfl, by go_num, Lib.hid (by rw [HNX.out]; rfl), HB⟩
        case measure => simp [intOf]; omega
      | false =>
        go_wp2_with (first
          | (go_at_call 18; refine (refAdd_any _ _ _).mono ?_; rintro e w' ⟨rfl, rfl⟩; rw [← HV.out.1, ← HV.out.2])
          | fail "no arm")
        go_roundw
        case rel => exact ⟨k + 1, v, false, by omega, rfl, rfl, by go_num, Lib.hid (by rw [HNX.out]; rfl), HB⟩
        case measure => simp [intOf]; omega
    · have d0 : decide ((k : Int) < (n0 : Int)) = false := decide_eq_false (by omega)
      have hall : sumRun l0 = (acc, b) := by rw [← HR.out, List.take_of_length_le (by have := HN0.out; omega)]
      cases b with
      | true =>
        have HB0 : Hid (sumB l0 = true) := Lib.hid (by unfold sumB; rw [hall])
        have HT0 : Hid (sumT l0 = acc) := Lib.hid (by unfold sumT sumB; rw [hall]; rfl)
        clear hall
        go_wp2_with (first
          | (go_at_call 7; have _z := hb2; refine (knows15_of O _).mono ?_; rintro e w3 ⟨rfl, b3⟩; have hb3 := Lib.hid (hb2.out.trans (b3.mono hb2.out.size)); clear b3)
          | (go_at_call 19; refine (P.sum _ a0 n0 c0 l0 HN0.out (by omega) (HLI.out _ HB.out) HI0.out).mono ?_; rintro e w2 ⟨rfl, b2⟩; rw [HB0.out, HT0.out]; have hb2 := Lib.hid (HB.out.trans (b2.mono HB.out.size)); clear b2)
          | fail "no arm")
        go_ret
        exact ⟨rfl, hb3.out⟩
      | false =>
        have HB0 : Hid (sumB l0 = false) := Lib.hid (by unfold sumB; rw [hall])
        have HT0 : Hid (sumT l0 = 0) := Lib.hid (by unfold sumT sumB; rw [hall]; rfl)
        clear hall
        go_wp2_with (first
          | (go_at_call 7; have _z := hb2; refine (knows15_of O _).mono ?_; rintro e w3 ⟨rfl, b3⟩; have hb3 := Lib.hid (hb2.out.trans (b3.mono hb2.out.size)); clear b3)
          | (go_at_call 19; refine (P.sum _ a0 n0 c0 l0 HN0.out (by omega) (HLI.out _ HB.out) HI0.out).mono ?_; rintro e w2 ⟨rfl, b2⟩; rw [HB0.out, HT0.out]; have hb2 := Lib.hid (HB.out.trans (b2.mono HB.out.size)); clear b2)
          | fail "no arm")
        go_ret
        exact ⟨rfl, hb3.out⟩
end Go.Proofs.Ytikjahdnffklhaa
