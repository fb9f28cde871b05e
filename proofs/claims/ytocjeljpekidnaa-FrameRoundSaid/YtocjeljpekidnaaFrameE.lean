/- Walks of a table: the ticks of a while that are open; the tick that comes next. -/
import Derived.Test.YtocjeljpekidnaaFrameD
namespace Go.Proofs.Ytocjeljpekidnaa
open Go.ChangeShapes Go.WideShapes Go.ChangeAt Go.RowKit
set_option linter.unusedVariables false
section
variable {w : World} {lo hi g F : Nat} {m : Int} {la : Option Addr} {ln lc : Nat} {l : List Wn}
set_option maxRecDepth 100000 in
set_option maxHeartbeats 400000 in
theorem tCount_any (h : Tab w lo hi g F m la ln lc l) (hhi : hi ≤ w.heap.size) (p t n : Int) (t0 : -9223372036854775808 ≤ t) (t1 : t ≤ 9223372036854775807) :
    Calls Try.prog 14 #[.pointer (some ⟨g, 0, none⟩), .int .i64 p, .int .i64 t, .int .i64 n] w fun e w' => e = .returned (.int .i64 (countT F m l p t n)) ∧ Below w.heap.size w w' := by
  have H := Lib.hid h
  by_cases hn : n < 1
  · have HZ := Lib.hid (countT_none (F := F) (m := m) (l := l) (p := p) (t := t) hn)
    clear h
    go_enter Try.func14, Try.ntmps14
    go_wp2_with (first | (go_at_call 19; refine (tMade_any H.out).mono ?_; rintro e w' ⟨rfl, rfl⟩))
    go_ret
    exact ⟨ret_i HZ.out.symm, Below.refl _ _⟩
  · have hF1 : (1 : Int) ≤ (F : Int) := by have := h.f1; omega
    have z0 : 0 ≤ t % (F : Int) := mod_pos' hF1
    have z1 : t % (F : Int) < F := mod_lt' hF1
    have f2 := h.f2
    obtain ⟨k, hk, hk1, hk2⟩ : ∃ k : Int, k = min (max n 0) 4611686018427387904 ∧ 0 ≤ k ∧ k ≤ 4611686018427387904 := ⟨_, rfl, by omega, by omega⟩
    have sc := sinceV_count h.f1 h.m0 h.ok (p := p) t k.toNat
    rw [show ((k.toNat : Nat) : Int) = k by omega] at sc
    have sb := sinceV_bd (p := p) (e := t % F) h.f1 h.m0 h.ok z0
    have sb2 := sinceV_bd (p := p) (e := t % F + k) h.f1 h.m0 h.ok (by omega)
    have sm : 0 ≤ sinceV F m p l (t % F + k) - sinceV F m p l (t % F) := by rw [sc]; omega
    have HC : Hid (countT F m l p t n = sinceV F m p l (t % F + k) - sinceV F m p l (t % F)) := Lib.hid (by rw [sc]; unfold countT; rw [← hk])
    have CP := Lib.hid (fun (W : World) (hb : Below w.heap.size w W) => tPlace_any (h.keep hb hhi) t t0 t1)
    have CS := Lib.hid (fun (W : World) (x : Int) (x0 : 0 ≤ x) (x1 : x ≤ 4611686018427388904) (hb : Below w.heap.size w W) => tSince_any (h.keep hb hhi) (Nat.le_trans hhi hb.size) p x x0 x1)
    clear sc
    generalize sinceV F m p l = S at CS HC sb sb2 sm
    generalize t % (F : Int) = Z at CP HC z0 z1 sb sb2 sm
    obtain ⟨sb0, sb1⟩ := sb
    obtain ⟨sb3, sb4⟩ := sb2
    clear h
    rcases (show (1 ≤ n ∧ n ≤ 4611686018427387904 ∧ k = n) ∨ (1 ≤ n ∧ 4611686018427387904 < n ∧ k = 4611686018427387904) by omega) with ⟨n1, n2, n3⟩ | ⟨n1, n2, n3⟩
    all_goals
      (subst n3
       clear hk hn
       go_enter Try.func14, Try.ntmps14
       go_wp2_with (first
         | (go_at_call 19; refine (tMade_any H.out).mono ?_; rintro e w' ⟨rfl, rfl⟩)
         | (go_at_call 21; refine (CP.out _ (Below.refl _ _)).mono ?_; rintro e w' ⟨rfl, rfl⟩)
         | (go_at_call 26; refine (CS.out _ _ (by omega) (by omega) (by first | assumption | exact Below.refl _ _)).mono ?_; rintro e w2 ⟨rfl, hb2⟩; have hbn : Below w.heap.size w w2 := (by first | exact bel_then (by assumption) (Nat.le_refl _) hb2 | exact hb2)))
       go_ret
       exact ⟨ret_i HC.out.symm, by assumption⟩)
end
end Go.Proofs.Ytocjeljpekidnaa
