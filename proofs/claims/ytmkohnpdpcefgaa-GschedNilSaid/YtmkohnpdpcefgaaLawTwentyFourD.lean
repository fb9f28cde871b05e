/- Of no system nobody gets a tick. -/
import Derived.Test.YtmkohnpdpcefgaaGschL
namespace Go.Proofs.Ytmkohnpdpcefgaa
open Go.ChangeShapes Go.WideShapes Go.ChangeAt Go.RowKit
set_option linter.unusedVariables false

set_option maxRecDepth 100000 in
set_option maxHeartbeats 4000000 in
theorem GschedNil_walk (tick p : Int) (w : World) (ht : I64 tick) (hp : I64 p) :
    Calls Try.prog 5 #[.int .i64 tick, .int .i64 p] w fun e w' => e = .returned (.bool true) ∧ Below w.heap.size w w' := by
  have hM : Try.prog.eqGuardType Try.prog.depth 54 = false := by kernel_rfl
  have e3 : ∀ W : World, _ := fun W => eqInCho 4 (-1) (-1) 4 (-1) (-1) W
  simp only [eqCho_self] at e3
  go_enter Try.func5, Try.ntmps5
  go_wp2_with fail
  go_loopw [6, 5] (fun i v wr => ∃ k : Nat, k ≤ 2 ∧ i = .int .i64 k ∧ Hid (NoSc wr v) ∧ Hid (Below w.heap.size w wr)) (fun i _ _ => 2 - (intOf i).toNat)
  case atStart => exact ⟨0, by omega, rfl, Lib.hid (.inl rfl), Lib.hid (Below.refl _ _)⟩
  case round =>
    obtain ⟨k, hk, rfl, HN, HB⟩ := hrel
    by_cases hlt : k < 2
    · have t0 : decide ((k : Int) < 2) = true := decide_eq_true (by omega)
      go_wp2_with (first
        | (go_at_call 11; refine (ndonees_any (HN3.out) p).mono ?_; rintro e w4 ⟨rfl, hb4⟩; have HB4 := Lib.hid (HB3.out.trans (hb4.mono HB3.out.size)))
        | (go_at_call 14; refine (nat24_any (HN2.out.later (below1 _ _)) tick _ _ _).mono ?_; rintro e w3 ⟨rfl, hb3'⟩; have hb3 := (below1 w2 _).trans (hb3'.mono (below1 w2 _).size); rw [cho_mk]; have HB3 := Lib.hid (HB2.out.trans (hb3.mono HB2.out.size)); have HN3 := Lib.hid (HN2.out.later hb3); clear hb3 hb3')
        | (go_at_call 12; refine (nnext_any HN.out p tick).mono ?_; rintro e w2 ⟨rfl, hb2⟩; have HB2 := Lib.hid (HB.out.trans (hb2.mono HB.out.size)); have HN2 := Lib.hid (HN.out.later hb2); clear hb2))
      go_roundw
      case rel => exact ⟨k + 1, by omega, by go_num, Lib.hid (.inr ⟨_, rfl, heap_alloc_new _ _⟩), Lib.hid (b_alloc HB4.out (Nat.le_refl _) _)⟩
      case measure => simp [intOf]; omega
    · have t0 : decide ((k : Int) < 2) = false := decide_eq_false (by omega)
      have CZ := Lib.hid (fun W : World => gnew_no (w := W) (hi := 0) (c := sysA) (pvs := []) (wa := none) (pa := none) (ca := none) (wc := 0) (pc := 0) (cc := 0) fewA.far ⟨lies_nil _ _ _, lies_nil _ _ _, .nil, lies_nil _ _ _⟩ (Nat.zero_le _) (by intro x hx; cases hx) (by rw [checkA]; decide))
      go_wp2_with (first
        | (go_at_call 8; refine (CZ.out _).mono ?_; rintro e w3 ⟨rfl, hb3⟩; have HB3 := Lib.hid (HB2.out.trans (hb3.mono HB2.out.size)))
        | (go_at_call 7; refine (knows24_any _).mono ?_; rintro e w2 ⟨rfl, hb2⟩; have HB2 := Lib.hid (HB.out.trans (hb2.mono HB.out.size))))
      go_ret
      exact ⟨rfl, HB3.out⟩
end Go.Proofs.Ytmkohnpdpcefgaa
