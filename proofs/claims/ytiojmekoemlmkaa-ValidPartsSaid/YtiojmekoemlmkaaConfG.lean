/- The walks of the layer of systems: what is right of a partition. -/
import Derived.Test.YtiojmekoemlmkaaConfC
import Derived.Test.YtiojmekoemlmkaaConfD
namespace Go.Proofs.Ytiojmekoemlmkaa
open Go.ChangeShapes Go.WideShapes Go.ChangeAt Go.RowKit
set_option linter.unusedVariables false

theorem all_next {α : Type} (f : α → Bool) (xs : List α) (k : Nat) (x : α) (h : xs[k]? = some x) (ha : (xs.take k).all f = true) (hx : f x = true) : (xs.take (k + 1)).all f = true := by
  rw [List.take_add_one, h]; simp [ha, hx]
theorem all_not {α : Type} (f : α → Bool) (xs : List α) (k : Nat) (x : α) (h : xs[k]? = some x) (hx : f x = false) : xs.all f = false := by
  have hm : x ∈ xs := List.mem_of_getElem? h
  cases e : xs.all f with
  | false => rfl
  | true => rw [List.all_eq_true.1 e x hm] at hx; cases hx
theorem all_end {α : Type} (f : α → Bool) (xs : List α) (k : Nat) (h : xs.length ≤ k) (ha : (xs.take k).all f = true) : xs.all f = true := by
  rwa [List.take_of_length_le h] at ha

set_option maxRecDepth 100000 in
set_option maxHeartbeats 2000000 in
theorem allTk_any (ta : Option Addr) (tn tc : Nat) (w : World) (lo hi : Nat) (ts : List Tk) (htn : ts.length = tn) (hts : Lies w lo hi (.slice ta tn tc) tn 6 (ts.flatMap Tk.cells)) (hhi : hi ≤ w.heap.size) (ht2 : tn ≤ 1000) :
    Calls Try.prog 63 #[.slice ta tn tc] w fun e w' => e = .returned (.bool (ts.all okTk)) ∧ Below w.heap.size w w' := by
  have HT := Lib.hid hts
  have HTN := Lib.hid htn
  clear hts htn
  go_enter Try.func63, Try.ntmps63
  go_wp2
  go_loopw [7] (fun i wr => ∃ k : Nat, k ≤ tn ∧ i = .int .i64 k ∧ Hid ((ts.take k).all okTk = true) ∧ Below w.heap.size w wr) (fun i _ => tn - (intOf i).toNat)
  case atStart => exact ⟨0, by omega, rfl, Lib.hid rfl, Below.refl _ _⟩
  case round =>
    obtain ⟨k, hk, rfl, HA, hb⟩ := hrel
    by_cases hlt : k < tn
    · have tk : decide ((k : Int) < (tn : Int)) = true := by simpa using hlt
      obtain ⟨x, hx⟩ : ∃ x, ts[k]? = some x := ⟨_, List.getElem?_eq_getElem (by rw [HTN.out]; exact hlt)⟩
      have hlies := HT.out.keep (SameIn.of_below hb hhi)
      obtain ⟨a2, c2, e2, _, _, hc⟩ := hlies
      cases e2
      rcases hc with h0 | ⟨b, off, rfl, hb1, hb2, hc⟩
      · omega
      obtain ⟨s0, s1, s2, s3, s4, s5⟩ := Lies.tk hc hx
      have HX := Lib.hid hx
      have hbw : b < wr.heap.size := by have := hb.size; omega
      have l0 : (0 : Int) ≤ (k : Int) := by omega
      have l1 : (k : Int) < (tn : Int) := by omega
      clear hc hx
      obtain ⟨x0, x1, x2, x3, x4, x5⟩ := x
      simp only at s0 s1 s2 s3 s4 s5
      cases hok : okTk ⟨x0, x1, x2, x3, x4, x5⟩ with
      | true =>
        have HN := Lib.hid (all_next okTk ts k _ HX.out HA.out hok)
        go_wp2_with fail
        refine Calls.mono (taskRight_any x0 x1 x2 x3 x4 x5 _) ?_
        rintro e w' ⟨rfl, hb3⟩
        go_wp2_with fail
        go_roundw
        case rel => exact ⟨k + 1, by omega, by go_num, HN, (hb.alloc hb.size _).trans (hb3.mono (by simp; have := hb.size; omega))⟩
        case measure => simp [intOf]; omega
      | false =>
        have HN := Lib.hid (all_not okTk ts k _ HX.out hok)
        go_wp2_with fail
        refine Calls.mono (taskRight_any x0 x1 x2 x3 x4 x5 _) ?_
        rintro e w' ⟨rfl, hb3⟩
        go_wp2_with fail
        go_ret
        exact ⟨ret_b HN.out.symm, (hb.alloc hb.size _).trans (hb3.mono (by simp; have := hb.size; omega))⟩
    · have tk : decide ((k : Int) < (tn : Int)) = false := by simp; omega
      have HN := Lib.hid (all_end okTk ts k (by rw [HTN.out]; omega) HA.out)
      go_wp2
      go_ret
      exact ⟨ret_b HN.out.symm, hb⟩
set_option maxRecDepth 100000 in
set_option maxHeartbeats 2000000 in
theorem allSv_any (ta : Option Addr) (tn tc : Nat) (w : World) (lo hi : Nat) (ts : List Sv) (htn : ts.length = tn) (hts : Lies w lo hi (.slice ta tn tc) tn 3 (ts.flatMap Sv.cells)) (hhi : hi ≤ w.heap.size) (ht2 : tn ≤ 1000) :
    Calls Try.prog 64 #[.slice ta tn tc] w fun e w' => e = .returned (.bool (ts.all okSv)) ∧ Below w.heap.size w w' := by
  have HT := Lib.hid hts
  have HTN := Lib.hid htn
  clear hts htn
  go_enter Try.func64, Try.ntmps64
  go_wp2
  go_loopw [7] (fun i wr => ∃ k : Nat, k ≤ tn ∧ i = .int .i64 k ∧ Hid ((ts.take k).all okSv = true) ∧ Below w.heap.size w wr) (fun i _ => tn - (intOf i).toNat)
  case atStart => exact ⟨0, by omega, rfl, Lib.hid rfl, Below.refl _ _⟩
  case round =>
    obtain ⟨k, hk, rfl, HA, hb⟩ := hrel
    by_cases hlt : k < tn
    · have tk : decide ((k : Int) < (tn : Int)) = true := by simpa using hlt
      obtain ⟨x, hx⟩ : ∃ x, ts[k]? = some x := ⟨_, List.getElem?_eq_getElem (by rw [HTN.out]; exact hlt)⟩
      have hlies := HT.out.keep (SameIn.of_below hb hhi)
      obtain ⟨a2, c2, e2, _, _, hc⟩ := hlies
      cases e2
      rcases hc with h0 | ⟨b, off, rfl, hb1, hb2, hc⟩
      · omega
      obtain ⟨s0, s1, s2⟩ := Lies.sv hc hx
      have HX := Lib.hid hx
      have hbw : b < wr.heap.size := by have := hb.size; omega
      have l0 : (0 : Int) ≤ (k : Int) := by omega
      have l1 : (k : Int) < (tn : Int) := by omega
      clear hc hx
      obtain ⟨x0, x1, x2⟩ := x
      simp only at s0 s1 s2
      cases hok : okSv ⟨x0, x1, x2⟩ with
      | true =>
        have HN := Lib.hid (all_next okSv ts k _ HX.out HA.out hok)
        go_wp2_with fail
        refine Calls.mono (serverRight_any x0 x1 x2 _) ?_
        rintro e w' ⟨rfl, hb3⟩
        go_wp2_with fail
        go_roundw
        case rel => exact ⟨k + 1, by omega, by go_num, HN, (hb.alloc hb.size _).trans (hb3.mono (by simp; have := hb.size; omega))⟩
        case measure => simp [intOf]; omega
      | false =>
        have HN := Lib.hid (all_not okSv ts k _ HX.out hok)
        go_wp2_with fail
        refine Calls.mono (serverRight_any x0 x1 x2 _) ?_
        rintro e w' ⟨rfl, hb3⟩
        go_wp2_with fail
        go_ret
        exact ⟨ret_b HN.out.symm, (hb.alloc hb.size _).trans (hb3.mono (by simp; have := hb.size; omega))⟩
    · have tk : decide ((k : Int) < (tn : Int)) = false := by simp; omega
      have HN := Lib.hid (all_end okSv ts k (by rw [HTN.out]; omega) HA.out)
      go_wp2
      go_ret
      exact ⟨ret_b HN.out.symm, hb⟩
end Go.Proofs.Ytiojmekoemlmkaa
