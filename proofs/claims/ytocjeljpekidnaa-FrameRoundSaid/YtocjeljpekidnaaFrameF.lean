/- Walks of a table: the tick that comes next. -/
import Derived.Test.YtocjeljpekidnaaFrameE
namespace Go.Proofs.Ytocjeljpekidnaa
open Go.ChangeShapes Go.WideShapes Go.ChangeAt Go.RowKit
set_option linter.unusedVariables false
section
variable {w : World} {lo hi g F : Nat} {m : Int} {la : Option Addr} {ln lc : Nat} {l : List Wn}
set_option maxRecDepth 100000 in
set_option maxHeartbeats 1000000 in
theorem tNext_any (h : Tab w lo hi g F m la ln lc l) (hhi : hi ≤ w.heap.size) (p t : Int) (t0 : -9223372036854775808 ≤ t) (t1 : t ≤ 9223372036854775807) :
    Calls Try.prog 10 #[.pointer (some ⟨g, 0, none⟩), .int .i64 p, .int .i64 t] w fun e w' => e = .returned (.tuple #[.int .i64 (nextT F m l p t).1, .bool (nextT F m l p t).2]) ∧ Below w.heap.size w w' := by
  have H := Lib.hid h
  have hF1 : (1 : Int) ≤ (F : Int) := by have := h.f1; omega
  have f2 := h.f2
  have hgw : g < w.heap.size := by have := h.high; omega
  obtain ⟨T, hT, hT1, hT2⟩ : ∃ T : Int, T = min t 4611686018427387904 ∧ -9223372036854775808 ≤ T ∧ T ≤ 4611686018427387904 := ⟨_, rfl, by omega, by omega⟩
  have z0 : 0 ≤ T % (F : Int) := mod_pos' hF1
  have z1 : T % (F : Int) < F := mod_lt' hF1
  have CP := Lib.hid (fun (W : World) (hb : Below w.heap.size w W) => tPlace_any (h.keep hb hhi) T hT1 (by omega))
  have CS := Lib.hid (fun (W : World) (x : Int) (x0 : 0 ≤ x) (x1 : x ≤ 256) (hb : Below w.heap.size w W) => wFirst_any m la ln lc p x W lo hi l F h.len (h.lies.keep (SameIn.of_below hb hhi)) (Nat.le_trans hhi hb.size) h.few h.m0 h.m8 h.ok (by omega) x0 x1)
  have KS := Lib.hid (h.says hhi)
  have c0 := h.c0; have c1 := h.c1; have c2 := h.c2
  cases e1 : firstV m p (T % F) l with
  | mk x1 b1 =>
    cases b1 with
    | true =>
      obtain ⟨g1, g2, g3⟩ := next_here h.f1 h.m0 h.ok e1
      have HN : Hid (nextT F m l p t = (T + (x1 - T % F), true)) := Lib.hid (by
        rw [hT] at g3
        rw [nextT_some g3, ← hT]
        rw [← hT] at g3
        rw [show (((x1 - T % F).toNat : Nat) : Int) = x1 - T % F by omega])
      have E1 := Lib.hid e1
      clear g3 e1 h
      generalize T % (F : Int) = Z at CP E1 z0 z1 HN g1
      rcases (show (t ≤ 4611686018427387904 ∧ T = t) ∨ (4611686018427387904 < t ∧ T = 4611686018427387904) by omega) with ⟨n1, n3⟩ | ⟨n1, n3⟩
      all_goals
        (subst n3
         clear hT
         go_enter Try.func10, Try.ntmps10
         go_wp2_with (first
           | (go_at_call 19; refine (tMade_any H.out).mono ?_; rintro e w' ⟨rfl, rfl⟩)
           | (go_at_call 21; refine (CP.out _ (Below.refl _ _)).mono ?_; rintro e w' ⟨rfl, rfl⟩)
           | (go_at_call 23; refine (CS.out _ _ (by omega) (by omega) (by first | assumption | exact Below.refl _ _)).mono ?_; rintro e w2 ⟨rfl, hb2⟩; rw [E1.out]; have hbn : Below w.heap.size w w2 := (by first | exact bel_then (by assumption) (Nat.le_refl _) hb2 | exact hb2); have y := KS.out _ hbn; obtain ⟨_, y0, y1, y2⟩ := y))
         go_ret2
         exact ⟨ret_ib (by rw [HN.out]) (by rw [HN.out]), by assumption⟩)
    | false =>
      cases e2 : firstV m p 0 l with
      | mk x2 b2 =>
        cases b2 with
        | true =>
          obtain ⟨g1, g2, g2', g3⟩ := next_later (t := T) h.f1 h.m0 h.ok (by rw [e1]) e2
          have HN : Hid (nextT F m l p t = (T + (x2 + F - T % F), true)) := Lib.hid (by
            rw [hT] at g3
            rw [nextT_some g3, ← hT]
            rw [← hT] at g3
            rw [show (((x2 + F - T % F).toNat : Nat) : Int) = x2 + F - T % F by omega])
          have E1 := Lib.hid e1
          have E2 := Lib.hid e2
          clear g3 e1 e2 h
          generalize T % (F : Int) = Z at CP E1 z0 z1 HN g2 g2'
          rcases (show (t ≤ 4611686018427387904 ∧ T = t) ∨ (4611686018427387904 < t ∧ T = 4611686018427387904) by omega) with ⟨n1, n3⟩ | ⟨n1, n3⟩
          all_goals
            (subst n3
             clear hT
             go_enter Try.func10, Try.ntmps10
             go_wp2_with (first
               | (go_at_call 19; refine (tMade_any H.out).mono ?_; rintro e w' ⟨rfl, rfl⟩)
               | (go_at_call 21; refine (CP.out _ (Below.refl _ _)).mono ?_; rintro e w' ⟨rfl, rfl⟩)
               | (go_at_call 23; refine (CS.out _ _ (by omega) (by omega) (by first | assumption | exact Below.refl _ _)).mono ?_; rintro e w2 ⟨rfl, hb2⟩; (first | rw [E1.out] | rw [E2.out]); have hbn : Below w.heap.size w w2 := (by first | exact bel_then (by assumption) (Nat.le_refl _) hb2 | exact hb2); have y := KS.out _ hbn; obtain ⟨_, y0, y1, y2⟩ := y))
             go_ret2
             exact ⟨ret_ib (by rw [HN.out]) (by rw [HN.out]), by assumption⟩)
        | false =>
          have g3 := next_never (t := T) h.f1 h.m0 h.ok (by rw [e2])
          have z2 : x2 = 0 := by have := firstV_none (m := m) (p := p) (b := 0) (l := l) (by rw [e2]); rw [e2] at this; exact this
          have HN : Hid (nextT F m l p t = (0, false)) := Lib.hid (by rw [hT] at g3; exact nextT_none g3)
          have E1 := Lib.hid e1
          have E2 := Lib.hid e2
          clear g3 e1 e2 h
          generalize T % (F : Int) = Z at CP E1 z0 z1
          rcases (show (t ≤ 4611686018427387904 ∧ T = t) ∨ (4611686018427387904 < t ∧ T = 4611686018427387904) by omega) with ⟨n1, n3⟩ | ⟨n1, n3⟩
          all_goals
            (subst n3
             clear hT
             go_enter Try.func10, Try.ntmps10
             go_wp2_with (first
               | (go_at_call 19; refine (tMade_any H.out).mono ?_; rintro e w' ⟨rfl, rfl⟩)
               | (go_at_call 21; refine (CP.out _ (Below.refl _ _)).mono ?_; rintro e w' ⟨rfl, rfl⟩)
               | (go_at_call 23; refine (CS.out _ _ (by omega) (by omega) (by first | assumption | exact Below.refl _ _)).mono ?_; rintro e w2 ⟨rfl, hb2⟩; (first | rw [E1.out] | rw [E2.out]); have hbn : Below w.heap.size w w2 := (by first | exact bel_then (by assumption) (Nat.le_refl _) hb2 | exact hb2); have y := KS.out _ hbn; obtain ⟨_, y0, y1, y2⟩ := y))
             go_ret2
             exact ⟨ret_ib (by rw [HN.out]) (by rw [HN.out]), by assumption⟩)
end
end Go.Proofs.Ytocjeljpekidnaa
