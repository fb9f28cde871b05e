/- The program's ledger: may, Charge, Of, Got, New. -/
import Derived.Test.YtikjahdnffklhaaLedgQ
import Derived.Test.YtikjahdnffklhaaLawFifteenD
namespace Go.Proofs.Ytikjahdnffklhaa
open Go.ChangeShapes Go.WideShapes Go.ChangeAt Go.RowKit
set_option linter.unusedVariables false
set_option maxRecDepth 100000 in
set_option maxHeartbeats 4000000 in
theorem may_any {v : Nat → Int} (w : World) (H : Nat) (n k p q : Int) (h : LCells w H true v) (hn : v 1 = n) : Calls Try.prog 20 #[.pointer (some ⟨H, 0, none⟩), .int .i64 k, .int .i64 p, .int .i64 q] w fun e w' => e = .returned (.bool (okC n k p q)) ∧ w' = w := by
  have A1 := Lib.hid (has_any w H n p h hn)
  have A2 := Lib.hid (has_any w H n q h hn)
  have b0 := h.made
  clear h hn
  by_cases c0 : k = 0
  · subst c0
    by_cases c : 0 ≤ p ∧ p < n
    · have e1 := Lib.hid (hasP_t c)
      rw [show okC n 0 p q = true from okC_t ⟨by omega, .inr ⟨c, .inl (by omega)⟩⟩]
      clear c
      go_enter Try.func20, Try.ntmps20
      go_wp2_with (first
        | (go_at_call 21; refine A1.out.mono ?_; rintro e w2 ⟨rfl, hw2⟩; rw [hw2, e1.out]; clear hw2; have k1 := True.intro)
        | fail "no arm")
      go_ret
      exact ⟨rfl, rfl⟩
    · have e1 := Lib.hid (hasP_f c)
      rw [show okC n 0 p q = false from okC_f (by omega)]
      clear c
      go_enter Try.func20, Try.ntmps20
      go_wp2_with (first
        | (go_at_call 21; refine A1.out.mono ?_; rintro e w2 ⟨rfl, hw2⟩; rw [hw2, e1.out]; clear hw2; have k1 := True.intro)
        | fail "no arm")
      go_ret
      exact ⟨rfl, rfl⟩
  by_cases c2 : k = 2
  · subst c2
    by_cases c : 0 ≤ p ∧ p < n
    · have e1 := Lib.hid (hasP_t c)
      rw [show okC n 2 p q = true from okC_t ⟨by omega, .inr ⟨c, .inl (by omega)⟩⟩]
      clear c
      go_enter Try.func20, Try.ntmps20
      go_wp2_with (first
        | (go_at_call 21; refine A1.out.mono ?_; rintro e w2 ⟨rfl, hw2⟩; rw [hw2, e1.out]; clear hw2; have k1 := True.intro)
        | fail "no arm")
      go_ret
      exact ⟨rfl, rfl⟩
    · have e1 := Lib.hid (hasP_f c)
      rw [show okC n 2 p q = false from okC_f (by omega)]
      clear c
      go_enter Try.func20, Try.ntmps20
      go_wp2_with (first
        | (go_at_call 21; refine A1.out.mono ?_; rintro e w2 ⟨rfl, hw2⟩; rw [hw2, e1.out]; clear hw2; have k1 := True.intro)
        | fail "no arm")
      go_ret
      exact ⟨rfl, rfl⟩
  by_cases c3 : k = 3
  · subst c3
    by_cases c : 0 ≤ p ∧ p < n
    · have e1 := Lib.hid (hasP_t c)
      rw [show okC n 3 p q = true from okC_t ⟨by omega, .inr ⟨c, .inl (by omega)⟩⟩]
      clear c
      go_enter Try.func20, Try.ntmps20
      go_wp2_with (first
        | (go_at_call 21; refine A1.out.mono ?_; rintro e w2 ⟨rfl, hw2⟩; rw [hw2, e1.out]; clear hw2; have k1 := True.intro)
        | fail "no arm")
      go_ret
      exact ⟨rfl, rfl⟩
    · have e1 := Lib.hid (hasP_f c)
      rw [show okC n 3 p q = false from okC_f (by omega)]
      clear c
      go_enter Try.func20, Try.ntmps20
      go_wp2_with (first
        | (go_at_call 21; refine A1.out.mono ?_; rintro e w2 ⟨rfl, hw2⟩; rw [hw2, e1.out]; clear hw2; have k1 := True.intro)
        | fail "no arm")
      go_ret
      exact ⟨rfl, rfl⟩
  by_cases c1 : k = 1
  · subst c1
    by_cases c : 0 ≤ p ∧ p < n
    · have e1 := Lib.hid (hasP_t c)
      by_cases d : 0 ≤ q ∧ q < n
      · have e2 := Lib.hid (hasP_t d)
        by_cases e : p = q
        · rw [show okC n 1 p q = false from okC_f (by omega)]
          have z : (p == q) = true := by simpa using e
          clear c d
          subst e
          go_enter Try.func20, Try.ntmps20
          go_wp2_with (first
            | (go_at_call 21; have _z := k1; refine A2.out.mono ?_; rintro e w2 ⟨rfl, hw2⟩; rw [hw2, e2.out]; clear hw2)
            | (go_at_call 21; refine A1.out.mono ?_; rintro e w2 ⟨rfl, hw2⟩; rw [hw2, e1.out]; clear hw2; have k1 := True.intro)
            | fail "no arm")
          go_ret
          exact ⟨rfl, rfl⟩
        · rw [show okC n 1 p q = true from okC_t ⟨by omega, .inr ⟨c, .inr ⟨d.1, d.2, fun x => e x.symm⟩⟩⟩]
          have z : (p != q) = true := by simpa using e
          clear c d
          go_enter Try.func20, Try.ntmps20
          go_wp2_with (first
            | (go_at_call 21; have _z := k1; refine A2.out.mono ?_; rintro e w2 ⟨rfl, hw2⟩; rw [hw2, e2.out]; clear hw2)
            | (go_at_call 21; refine A1.out.mono ?_; rintro e w2 ⟨rfl, hw2⟩; rw [hw2, e1.out]; clear hw2; have k1 := True.intro)
            | fail "no arm")
          go_ret
          exact ⟨rfl, rfl⟩
      · have e2 := Lib.hid (hasP_f d)
        rw [show okC n 1 p q = false from okC_f (by omega)]
        clear c d
        go_enter Try.func20, Try.ntmps20
        go_wp2_with (first
          | (go_at_call 21; have _z := k1; refine A2.out.mono ?_; rintro e w2 ⟨rfl, hw2⟩; rw [hw2, e2.out]; clear hw2)
          | (go_at_call 21; refine A1.out.mono ?_; rintro e w2 ⟨rfl, hw2⟩; rw [hw2, e1.out]; clear hw2; have k1 := True.intro)
          | fail "no arm")
        go_ret
        exact ⟨rfl, rfl⟩
    · have e1 := Lib.hid (hasP_f c)
      rw [show okC n 1 p q = false from okC_f (by omega)]
      clear c
      go_enter Try.func20, Try.ntmps20
      go_wp2_with (first
        | (go_at_call 21; refine A1.out.mono ?_; rintro e w2 ⟨rfl, hw2⟩; rw [hw2, e1.out]; clear hw2; have k1 := True.intro)
        | fail "no arm")
      go_ret
      exact ⟨rfl, rfl⟩
  by_cases c4 : k = 4
  · subst c4
    rw [show okC n 4 p q = true from okC_t ⟨by omega, .inl rfl⟩]
    go_enter Try.func20, Try.ntmps20
    go_wp2_with fail
    go_ret
    exact ⟨rfl, rfl⟩
  rw [show okC n k p q = false from okC_f (by omega)]
  have t0 : (k == 0) = false := by simpa using c0
  have t1 : (k == 1) = false := by simpa using c1
  have t2 : (k == 2) = false := by simpa using c2
  have t3 : (k == 3) = false := by simpa using c3
  have t4 : (k == 4) = false := by simpa using c4
  clear c0 c1 c2 c3 c4
  go_enter Try.func20, Try.ntmps20
  go_wp2_with fail
  go_ret
  exact ⟨rfl, rfl⟩
set_option maxRecDepth 100000 in
set_option maxHeartbeats 4000000 in
theorem may_nil (w : World) (k p q : Int) : Calls Try.prog 20 #[.pointer none, .int .i64 k, .int .i64 p, .int .i64 q] w fun e w' => e = .returned (.bool false) ∧ w' = w := by
  have A1 := Lib.hid (has_nil w p)
  by_cases c0 : k = 0
  · subst c0
    go_enter Try.func20, Try.ntmps20
    go_wp2_with (first
      | (go_at_call 21; refine A1.out.mono ?_; rintro e w2 ⟨rfl, hw2⟩; rw [hw2]; clear hw2)
      | fail "no arm")
    go_ret
    exact ⟨rfl, rfl⟩
  by_cases c1 : k = 1
  · subst c1
    go_enter Try.func20, Try.ntmps20
    go_wp2_with (first
      | (go_at_call 21; refine A1.out.mono ?_; rintro e w2 ⟨rfl, hw2⟩; rw [hw2]; clear hw2)
      | fail "no arm")
    go_ret
    exact ⟨rfl, rfl⟩
  by_cases c2 : k = 2
  · subst c2
    go_enter Try.func20, Try.ntmps20
    go_wp2_with (first
      | (go_at_call 21; refine A1.out.mono ?_; rintro e w2 ⟨rfl, hw2⟩; rw [hw2]; clear hw2)
      | fail "no arm")
    go_ret
    exact ⟨rfl, rfl⟩
  by_cases c3 : k = 3
  · subst c3
    go_enter Try.func20, Try.ntmps20
    go_wp2_with (first
      | (go_at_call 21; refine A1.out.mono ?_; rintro e w2 ⟨rfl, hw2⟩; rw [hw2]; clear hw2)
      | fail "no arm")
    go_ret
    exact ⟨rfl, rfl⟩
  by_cases c4 : k = 4
  · subst c4
    go_enter Try.func20, Try.ntmps20
    go_wp2_with (first
      | (go_at_call 21; refine A1.out.mono ?_; rintro e w2 ⟨rfl, hw2⟩; rw [hw2]; clear hw2)
      | fail "no arm")
    go_ret
    exact ⟨rfl, rfl⟩
  have t0 : (k == 0) = false := by simpa using c0
  have t1 : (k == 1) = false := by simpa using c1
  have t2 : (k == 2) = false := by simpa using c2
  have t3 : (k == 3) = false := by simpa using c3
  have t4 : (k == 4) = false := by simpa using c4
  clear c0 c1 c2 c3 c4
  go_enter Try.func20, Try.ntmps20
  go_wp2_with fail
  go_ret
  exact ⟨rfl, rfl⟩
set_option maxRecDepth 100000 in
set_option maxHeartbeats 4000000 in
theorem may_zero (w : World) (H : Nat) {v : Nat → Int} (h : LCells w H false v) (hn : v 1 = 0) (k p q : Int) : Calls Try.prog 20 #[.pointer (some ⟨H, 0, none⟩), .int .i64 k, .int .i64 p, .int .i64 q] w fun e w' => e = .returned (.bool false) ∧ w' = w := by
  have A1 := Lib.hid (show Calls Try.prog 21 #[.pointer (some ⟨H, 0, none⟩), .int .i64 p] w fun e w' => e = .returned (.bool false) ∧ w' = w from by have := has_any w H 0 p h hn; rwa [hasP_f (by omega)] at this)
  have b0 := h.made
  clear h hn
  by_cases c0 : k = 0
  · subst c0
    go_enter Try.func20, Try.ntmps20
    go_wp2_with (first
      | (go_at_call 21; refine A1.out.mono ?_; rintro e w2 ⟨rfl, hw2⟩; rw [hw2]; clear hw2)
      | fail "no arm")
    go_ret
    exact ⟨rfl, rfl⟩
  by_cases c1 : k = 1
  · subst c1
    go_enter Try.func20, Try.ntmps20
    go_wp2_with (first
      | (go_at_call 21; refine A1.out.mono ?_; rintro e w2 ⟨rfl, hw2⟩; rw [hw2]; clear hw2)
      | fail "no arm")
    go_ret
    exact ⟨rfl, rfl⟩
  by_cases c2 : k = 2
  · subst c2
    go_enter Try.func20, Try.ntmps20
    go_wp2_with (first
      | (go_at_call 21; refine A1.out.mono ?_; rintro e w2 ⟨rfl, hw2⟩; rw [hw2]; clear hw2)
      | fail "no arm")
    go_ret
    exact ⟨rfl, rfl⟩
  by_cases c3 : k = 3
  · subst c3
    go_enter Try.func20, Try.ntmps20
    go_wp2_with (first
      | (go_at_call 21; refine A1.out.mono ?_; rintro e w2 ⟨rfl, hw2⟩; rw [hw2]; clear hw2)
      | fail "no arm")
    go_ret
    exact ⟨rfl, rfl⟩
  by_cases c4 : k = 4
  · subst c4
    go_enter Try.func20, Try.ntmps20
    go_wp2_with (first
      | (go_at_call 21; refine A1.out.mono ?_; rintro e w2 ⟨rfl, hw2⟩; rw [hw2]; clear hw2)
      | fail "no arm")
    go_ret
    exact ⟨rfl, rfl⟩
  have t0 : (k == 0) = false := by simpa using c0
  have t1 : (k == 1) = false := by simpa using c1
  have t2 : (k == 2) = false := by simpa using c2
  have t3 : (k == 3) = false := by simpa using c3
  have t4 : (k == 4) = false := by simpa using c4
  clear c0 c1 c2 c3 c4
  go_enter Try.func20, Try.ntmps20
  go_wp2_with fail
  go_ret
  exact ⟨rfl, rfl⟩
/-- A ledger in memory, of n partitions: L is what was charged. -/
structure LedgAt (w : World) (H : Nat) (S : Nat → Prop) (n : Int) (L : List Wn) : Prop where
  c : LCells w H true (ledV n L)
  n0 : 0 ≤ n
  n6 : n ≤ 6
  ok : ∀ x ∈ L, EntOk n x
  s : S = fun k => k = H
theorem LedgAt.same {w w' : World} {H : Nat} {S : Nat → Prop} {n : Int} {L : List Wn} (h : LedgAt w H S n L) (hs : w'.heap[H]? = w.heap[H]?) : LedgAt w' H S n L := { h with c := h.c.same hs }
theorem grow_led {w w' : World} {H : Nat} (h : But H w w') : GrowS (fun k => k = H) (fun k => k = H) w w' := ⟨h.os, h.tape, h.output, h.size, fun k hk hn => h.block k hk hn, fun k hk => .inl hk⟩
theorem cells_drew {w : World} {H : Nat} {m : Bool} {v : Nat → Int} (h : LCells w H m v) : LCells w.drew H m v := h
set_option maxRecDepth 100000 in
set_option maxHeartbeats 4000000 in
theorem charge_no (w : World) (p : Option Addr) (k x q : Int) (HM : Hid (Calls Try.prog 20 #[.pointer p, .int .i64 k, .int .i64 x, .int .i64 q] w fun e w' => e = .returned (.bool false) ∧ w' = w)) : Calls Try.prog 11 #[.pointer p, .int .i64 k, .int .i64 x, .int .i64 q] w fun e w' => e = .returned (.int .i64 1) ∧ w' = w := by
  go_enter Try.func11, Try.ntmps11
  go_wp2_with (first
    | (go_at_call 20; refine HM.out.mono ?_; rintro e w2 ⟨rfl, hw2⟩; rw [hw2]; clear hw2)
    | fail "no arm")
  go_ret
  exact ⟨rfl, rfl⟩
set_option maxRecDepth 100000 in
set_option maxHeartbeats 4000000 in
theorem charge_own (w : World) (H : Nat) (n : Int) (L : List Wn) (x : Nat) (q : Int) (h : LCells w H true (ledV n L)) (h6 : n ≤ 6) (hl : L.length ≤ 1000) (hx : (x : Int) < n) (HM : Hid (Calls Try.prog 20 #[.pointer (some ⟨H, 0, none⟩), .int .i64 0, .int .i64 x, .int .i64 q] w fun e w' => e = .returned (.bool true) ∧ w' = w)) :
    Calls Try.prog 11 #[.pointer (some ⟨H, 0, none⟩), .int .i64 0, .int .i64 x, .int .i64 q] w fun e w' => e = .returned (.int .i64 0) ∧ LCells w' H true (ledV n (L ++ [⟨0, x, -1⟩])) ∧ But H w w' := by
  obtain ⟨t, ht⟩ : ∃ t, t = L.length := ⟨_, rfl⟩
  obtain ⟨b56, f56⟩ := h.at_ (i := 56) (by omega) (by omega)
  rw [ledV_total, ← ht] at b56
  rw [← ht] at hl
  obtain ⟨W1, hW1⟩ : ∃ W1, W1 = w.setCell ⟨H, 56, none⟩ (.int .i64 ((t : Int) + 1)) := ⟨_, rfl⟩
  have h1 : LCells W1 H true (updL (ledV n L) 56 ((t : Int) + 1)) := by rw [hW1]; exact h.set (by omega) (by omega) _
  have hb1 : But H w W1 := by rw [hW1]; exact (But.refl H w).set _ _
  obtain ⟨u, hu⟩ : ∃ u, u = ledV n L (2 + x) := ⟨_, rfl⟩
  obtain ⟨u0, u1⟩ := ledV_le n L (i := 2 + x) (by omega)
  rw [← hu] at u0 u1
  rw [← ht] at u1
  obtain ⟨c0, c1⟩ := h1.at_ (i := 2 + x) (by omega) (by omega)
  rw [updL_ne _ _ (by omega), ← hu] at c0
  have m0 : (0 : Int) ≤ (x : Int) := by omega
  have m1 : (x : Int) < 6 := by omega
  have e1 : IntKind.i64.wrap ((t : Int) + 1) = (t : Int) + 1 := IntWalk.i64_in _ (by omega)
  have e2 : IntKind.i64.wrap (u + 1) = u + 1 := IntWalk.i64_in _ (by omega)
  have e3 : wrap64 ((t : Int) + 1) = (t : Int) + 1 := IntWalk.wrap64_in _ (by omega)
  have e4 : wrap64 (u + 1) = u + 1 := IntWalk.wrap64_in _ (by omega)
  have t0 : ((t : Int) == 4611686018427387904) = false := by simp; omega
  have HFIN := Lib.hid (show LCells (W1.drew.setCell ⟨H, 2 + x, none⟩ (.int .i64 (u + 1))) H true (ledV n (L ++ [⟨0, x, -1⟩])) ∧ But H w (W1.drew.setCell ⟨H, 2 + x, none⟩ (.int .i64 (u + 1))) from by
    refine ⟨((cells_drew h1).set (i := 2 + x) (by omega) (by omega) (u + 1)).congr (fun i q1 q2 => ?_), hb1.drew.set _ _⟩
    have := ledV_own1 (n := n) (L := L) (p := x) (by omega) q1 q2
    rw [← hu, ← ht] at this
    exact this)
  have HW1 := Lib.hid hW1
  clear h h1 hb1 hu ht hW1 hl h6 hx
  go_enter Try.func11, Try.ntmps11
  go_upto_region 6 with (first
    | (go_at_call 20; refine HM.out.mono ?_; rintro e w2 ⟨rfl, hw2⟩; rw [hw2]; clear hw2)
    | fail "no arm")
  rw [← HW1.out]
  clear b56 f56
  go_wp2_with fail
  go_region
  go_wp2_with fail
  go_ret
  exact ⟨rfl, HFIN.out⟩
set_option maxRecDepth 100000 in
set_option maxHeartbeats 4000000 in
theorem charge_given (w : World) (H : Nat) (n : Int) (L : List Wn) (x y : Nat) (h : LCells w H true (ledV n L)) (h6 : n ≤ 6) (hl : L.length ≤ 1000) (hx : (x : Int) < n) (hy : (y : Int) < n) (HM : Hid (Calls Try.prog 20 #[.pointer (some ⟨H, 0, none⟩), .int .i64 1, .int .i64 x, .int .i64 y] w fun e w' => e = .returned (.bool true) ∧ w' = w)) :
    Calls Try.prog 11 #[.pointer (some ⟨H, 0, none⟩), .int .i64 1, .int .i64 x, .int .i64 y] w fun e w' => e = .returned (.int .i64 0) ∧ LCells w' H true (ledV n (L ++ [⟨1, x, y⟩])) ∧ But H w w' := by
  obtain ⟨t, ht⟩ : ∃ t, t = L.length := ⟨_, rfl⟩
  obtain ⟨b56, f56⟩ := h.at_ (i := 56) (by omega) (by omega)
  rw [ledV_total, ← ht] at b56
  rw [← ht] at hl
  obtain ⟨W1, hW1⟩ : ∃ W1, W1 = w.setCell ⟨H, 56, none⟩ (.int .i64 ((t : Int) + 1)) := ⟨_, rfl⟩
  have h1 : LCells W1 H true (updL (ledV n L) 56 ((t : Int) + 1)) := by rw [hW1]; exact h.set (by omega) (by omega) _
  have hb1 : But H w W1 := by rw [hW1]; exact (But.refl H w).set _ _
  obtain ⟨u, hu⟩ : ∃ u, u = ledV n L (20 + x * 6 + y) := ⟨_, rfl⟩
  obtain ⟨u0, u1⟩ := ledV_le n L (i := 20 + x * 6 + y) (by omega)
  rw [← hu] at u0 u1
  rw [← ht] at u1
  obtain ⟨c0, c1⟩ := h1.at_ (i := 20 + x * 6 + y) (by omega) (by omega)
  rw [updL_ne _ _ (by omega), ← hu] at c0
  have m0 : (0 : Int) ≤ (x : Int) := by omega
  have m1 : (x : Int) < 6 := by omega
  have m2 : (0 : Int) ≤ (y : Int) := by omega
  have m3 : (y : Int) < 6 := by omega
  have e1 : IntKind.i64.wrap ((t : Int) + 1) = (t : Int) + 1 := IntWalk.i64_in _ (by omega)
  have e2 : IntKind.i64.wrap (u + 1) = u + 1 := IntWalk.i64_in _ (by omega)
  have e3 : wrap64 ((t : Int) + 1) = (t : Int) + 1 := IntWalk.wrap64_in _ (by omega)
  have e4 : wrap64 (u + 1) = u + 1 := IntWalk.wrap64_in _ (by omega)
  have t0 : ((t : Int) == 4611686018427387904) = false := by simp; omega
  have HFIN := Lib.hid (show LCells (W1.drew.setCell ⟨H, 20 + x * 6 + y, none⟩ (.int .i64 (u + 1))) H true (ledV n (L ++ [⟨1, x, y⟩])) ∧ But H w (W1.drew.setCell ⟨H, 20 + x * 6 + y, none⟩ (.int .i64 (u + 1))) from by
    refine ⟨((cells_drew h1).set (i := 20 + x * 6 + y) (by omega) (by omega) (u + 1)).congr (fun i q1 q2 => ?_), hb1.drew.set _ _⟩
    have := ledV_gave1 (n := n) (L := L) (p := x) (q := y) (by omega) (by omega) q1 q2
    rw [← hu, ← ht] at this
    exact this)
  have HW1 := Lib.hid hW1
  clear h h1 hb1 hu ht hW1 hl h6 hx hy
  go_enter Try.func11, Try.ntmps11
  go_upto_region 6 with (first
    | (go_at_call 20; refine HM.out.mono ?_; rintro e w2 ⟨rfl, hw2⟩; rw [hw2]; clear hw2)
    | fail "no arm")
  rw [← HW1.out]
  clear b56 f56
  go_wp2_with fail
  go_region
  go_wp2_with fail
  go_ret
  exact ⟨rfl, HFIN.out⟩
set_option maxRecDepth 100000 in
set_option maxHeartbeats 4000000 in
theorem charge_lost (w : World) (H : Nat) (n : Int) (L : List Wn) (x : Nat) (q : Int) (h : LCells w H true (ledV n L)) (h6 : n ≤ 6) (hl : L.length ≤ 1000) (hx : (x : Int) < n) (HM : Hid (Calls Try.prog 20 #[.pointer (some ⟨H, 0, none⟩), .int .i64 2, .int .i64 x, .int .i64 q] w fun e w' => e = .returned (.bool true) ∧ w' = w)) :
    Calls Try.prog 11 #[.pointer (some ⟨H, 0, none⟩), .int .i64 2, .int .i64 x, .int .i64 q] w fun e w' => e = .returned (.int .i64 0) ∧ LCells w' H true (ledV n (L ++ [⟨2, x, -1⟩])) ∧ But H w w' := by
  obtain ⟨t, ht⟩ : ∃ t, t = L.length := ⟨_, rfl⟩
  obtain ⟨b56, f56⟩ := h.at_ (i := 56) (by omega) (by omega)
  rw [ledV_total, ← ht] at b56
  rw [← ht] at hl
  obtain ⟨W1, hW1⟩ : ∃ W1, W1 = w.setCell ⟨H, 56, none⟩ (.int .i64 ((t : Int) + 1)) := ⟨_, rfl⟩
  have h1 : LCells W1 H true (updL (ledV n L) 56 ((t : Int) + 1)) := by rw [hW1]; exact h.set (by omega) (by omega) _
  have hb1 : But H w W1 := by rw [hW1]; exact (But.refl H w).set _ _
  obtain ⟨u, hu⟩ : ∃ u, u = ledV n L (8 + x) := ⟨_, rfl⟩
  obtain ⟨u0, u1⟩ := ledV_le n L (i := 8 + x) (by omega)
  rw [← hu] at u0 u1
  rw [← ht] at u1
  obtain ⟨c0, c1⟩ := h1.at_ (i := 8 + x) (by omega) (by omega)
  rw [updL_ne _ _ (by omega), ← hu] at c0
  have m0 : (0 : Int) ≤ (x : Int) := by omega
  have m1 : (x : Int) < 6 := by omega
  have e1 : IntKind.i64.wrap ((t : Int) + 1) = (t : Int) + 1 := IntWalk.i64_in _ (by omega)
  have e2 : IntKind.i64.wrap (u + 1) = u + 1 := IntWalk.i64_in _ (by omega)
  have e3 : wrap64 ((t : Int) + 1) = (t : Int) + 1 := IntWalk.wrap64_in _ (by omega)
  have e4 : wrap64 (u + 1) = u + 1 := IntWalk.wrap64_in _ (by omega)
  have t0 : ((t : Int) == 4611686018427387904) = false := by simp; omega
  have HFIN := Lib.hid (show LCells (W1.drew.setCell ⟨H, 8 + x, none⟩ (.int .i64 (u + 1))) H true (ledV n (L ++ [⟨2, x, -1⟩])) ∧ But H w (W1.drew.setCell ⟨H, 8 + x, none⟩ (.int .i64 (u + 1))) from by
    refine ⟨((cells_drew h1).set (i := 8 + x) (by omega) (by omega) (u + 1)).congr (fun i q1 q2 => ?_), hb1.drew.set _ _⟩
    have := ledV_lost1 (n := n) (L := L) (p := x) (by omega) q1 q2
    rw [← hu, ← ht] at this
    exact this)
  have HW1 := Lib.hid hW1
  clear h h1 hb1 hu ht hW1 hl h6 hx
  go_enter Try.func11, Try.ntmps11
  go_upto_region 6 with (first
    | (go_at_call 20; refine HM.out.mono ?_; rintro e w2 ⟨rfl, hw2⟩; rw [hw2]; clear hw2)
    | fail "no arm")
  rw [← HW1.out]
  clear b56 f56
  go_wp2_with fail
  go_region
  go_wp2_with fail
  go_ret
  exact ⟨rfl, HFIN.out⟩
set_option maxRecDepth 100000 in
set_option maxHeartbeats 4000000 in
theorem charge_margin (w : World) (H : Nat) (n : Int) (L : List Wn) (x : Nat) (q : Int) (h : LCells w H true (ledV n L)) (h6 : n ≤ 6) (hl : L.length ≤ 1000) (hx : (x : Int) < n) (HM : Hid (Calls Try.prog 20 #[.pointer (some ⟨H, 0, none⟩), .int .i64 3, .int .i64 x, .int .i64 q] w fun e w' => e = .returned (.bool true) ∧ w' = w)) :
    Calls Try.prog 11 #[.pointer (some ⟨H, 0, none⟩), .int .i64 3, .int .i64 x, .int .i64 q] w fun e w' => e = .returned (.int .i64 0) ∧ LCells w' H true (ledV n (L ++ [⟨3, x, -1⟩])) ∧ But H w w' := by
  obtain ⟨t, ht⟩ : ∃ t, t = L.length := ⟨_, rfl⟩
  obtain ⟨b56, f56⟩ := h.at_ (i := 56) (by omega) (by omega)
  rw [ledV_total, ← ht] at b56
  rw [← ht] at hl
  obtain ⟨W1, hW1⟩ : ∃ W1, W1 = w.setCell ⟨H, 56, none⟩ (.int .i64 ((t : Int) + 1)) := ⟨_, rfl⟩
  have h1 : LCells W1 H true (updL (ledV n L) 56 ((t : Int) + 1)) := by rw [hW1]; exact h.set (by omega) (by omega) _
  have hb1 : But H w W1 := by rw [hW1]; exact (But.refl H w).set _ _
  obtain ⟨u, hu⟩ : ∃ u, u = ledV n L (14 + x) := ⟨_, rfl⟩
  obtain ⟨u0, u1⟩ := ledV_le n L (i := 14 + x) (by omega)
  rw [← hu] at u0 u1
  rw [← ht] at u1
  obtain ⟨c0, c1⟩ := h1.at_ (i := 14 + x) (by omega) (by omega)
  rw [updL_ne _ _ (by omega), ← hu] at c0
  have m0 : (0 : Int) ≤ (x : Int) := by omega
  have m1 : (x : Int) < 6 := by omega
  have e1 : IntKind.i64.wrap ((t : Int) + 1) = (t : Int) + 1 := IntWalk.i64_in _ (by omega)
  have e2 : IntKind.i64.wrap (u + 1) = u + 1 := IntWalk.i64_in _ (by omega)
  have e3 : wrap64 ((t : Int) + 1) = (t : Int) + 1 := IntWalk.wrap64_in _ (by omega)
  have e4 : wrap64 (u + 1) = u + 1 := IntWalk.wrap64_in _ (by omega)
  have t0 : ((t : Int) == 4611686018427387904) = false := by simp; omega
  have HFIN := Lib.hid (show LCells (W1.drew.setCell ⟨H, 14 + x, none⟩ (.int .i64 (u + 1))) H true (ledV n (L ++ [⟨3, x, -1⟩])) ∧ But H w (W1.drew.setCell ⟨H, 14 + x, none⟩ (.int .i64 (u + 1))) from by
    refine ⟨((cells_drew h1).set (i := 14 + x) (by omega) (by omega) (u + 1)).congr (fun i q1 q2 => ?_), hb1.drew.set _ _⟩
    have := ledV_margin1 (n := n) (L := L) (p := x) (by omega) q1 q2
    rw [← hu, ← ht] at this
    exact this)
  have HW1 := Lib.hid hW1
  clear h h1 hb1 hu ht hW1 hl h6 hx
  go_enter Try.func11, Try.ntmps11
  go_upto_region 6 with (first
    | (go_at_call 20; refine HM.out.mono ?_; rintro e w2 ⟨rfl, hw2⟩; rw [hw2]; clear hw2)
    | fail "no arm")
  rw [← HW1.out]
  clear b56 f56
  go_wp2_with fail
  go_region
  go_wp2_with fail
  go_ret
  exact ⟨rfl, HFIN.out⟩
set_option maxRecDepth 100000 in
set_option maxHeartbeats 4000000 in
theorem charge_gap (w : World) (H : Nat) (n : Int) (L : List Wn) (p q : Int) (h : LCells w H true (ledV n L)) (hl : L.length ≤ 1000) (HM : Hid (Calls Try.prog 20 #[.pointer (some ⟨H, 0, none⟩), .int .i64 4, .int .i64 p, .int .i64 q] w fun e w' => e = .returned (.bool true) ∧ w' = w)) :
    Calls Try.prog 11 #[.pointer (some ⟨H, 0, none⟩), .int .i64 4, .int .i64 p, .int .i64 q] w fun e w' => e = .returned (.int .i64 0) ∧ LCells w' H true (ledV n (L ++ [⟨4, -1, -1⟩])) ∧ But H w w' := by
  obtain ⟨t, ht⟩ : ∃ t, t = L.length := ⟨_, rfl⟩
  obtain ⟨b56, f56⟩ := h.at_ (i := 56) (by omega) (by omega)
  rw [ledV_total, ← ht] at b56
  rw [← ht] at hl
  have e1 : IntKind.i64.wrap ((t : Int) + 1) = (t : Int) + 1 := IntWalk.i64_in _ (by omega)
  have e3 : wrap64 ((t : Int) + 1) = (t : Int) + 1 := IntWalk.wrap64_in _ (by omega)
  have t0 : ((t : Int) == 4611686018427387904) = false := by simp; omega
  have HFIN := Lib.hid (show LCells (w.setCell ⟨H, 56, none⟩ (.int .i64 ((t : Int) + 1))) H true (ledV n (L ++ [⟨4, -1, -1⟩])) ∧ But H w (w.setCell ⟨H, 56, none⟩ (.int .i64 ((t : Int) + 1))) from by
    refine ⟨(h.set (i := 56) (by omega) (by omega) _).congr (fun i q1 q2 => ?_), (But.refl H w).set _ _⟩
    have := ledV_gap (n := n) (L := L) i q1 q2
    rw [← ht] at this
    exact this)
  clear h ht hl
  go_enter Try.func11, Try.ntmps11
  go_wp2_with (first
    | (go_at_call 20; refine HM.out.mono ?_; rintro e w2 ⟨rfl, hw2⟩; rw [hw2]; clear hw2)
    | fail "no arm")
  go_ret
  exact ⟨rfl, HFIN.out⟩
theorem charge_any (w : World) (H : Nat) (S : Nat → Prop) (n : Int) (L : List Wn) (k p q : Int) (h : LedgAt w H S n L) (hl : L.length ≤ 1000) : Calls Try.prog 11 #[.pointer (some ⟨H, 0, none⟩), .int .i64 k, .int .i64 p, .int .i64 q] w fun e w' => ∃ S', e = .returned (.int .i64 (errV n k p q)) ∧ LedgAt w' H S' n (chV n L k p q) ∧ GrowS S S' w w' := by
  have hS := h.s
  subst hS
  have HM := may_any w H n k p q h.c (ledV_n n L)
  cases ho : okC n k p q with
  | false =>
    rw [ho] at HM
    rw [(ch_no (L := L) ho).1, (ch_no (L := L) ho).2]
    refine (charge_no w _ k p q (Lib.hid HM)).mono ?_
    rintro e w' ⟨rfl, rfl⟩
    exact ⟨_, rfl, h, GrowS.of_below (Below.refl _ _)⟩
  | true =>
    rw [ho] at HM
    have hent := ch_ok (n := n) (L := L) (k := k) (p := p) (q := q) h.ok
    rw [(ch_yes (L := L) ho).1] at hent ⊢
    rw [(ch_yes (L := L) ho).2]
    have h1 := (okC_iff n k p q).1 ho
    have fin : ∀ {e : Ending} {w' : World} {x : Wn}, entC k p q = x → (e = .returned (.int .i64 0) ∧ LCells w' H true (ledV n (L ++ [x])) ∧ But H w w') → ∃ S', e = .returned (.int .i64 0) ∧ LedgAt w' H S' n (L ++ [entC k p q]) ∧ GrowS (fun k => k = H) S' w w' := by
      rintro e w' x hx ⟨h2, h3, h4⟩
      exact ⟨_, h2, ⟨by rw [hx]; exact h3, h.n0, h.n6, hent, rfl⟩, grow_led h4⟩
    rcases h1.2 with rfl | ⟨hp, hk⟩
    · exact (charge_gap w H n L p q h.c hl (Lib.hid HM)).mono (fun e w' r => fin rfl r)
    · obtain ⟨x, rfl⟩ := Int.eq_ofNat_of_zero_le hp.1
      have n6 := h.n6
      rcases (show k = 0 ∨ k = 1 ∨ k = 2 ∨ k = 3 ∨ k = 4 by omega) with rfl | rfl | rfl | rfl | rfl
      · exact (charge_own w H n L x q h.c n6 hl hp.2 (Lib.hid HM)).mono (fun e w' r => fin rfl r)
      · obtain ⟨y, rfl⟩ := Int.eq_ofNat_of_zero_le (show 0 ≤ q by omega)
        exact (charge_given w H n L x y h.c n6 hl hp.2 (by omega) (Lib.hid HM)).mono (fun e w' r => fin rfl r)
      · exact (charge_lost w H n L x q h.c n6 hl hp.2 (Lib.hid HM)).mono (fun e w' r => fin rfl r)
      · exact (charge_margin w H n L x q h.c n6 hl hp.2 (Lib.hid HM)).mono (fun e w' r => fin rfl r)
      · exact (charge_gap w H n L _ q h.c hl (Lib.hid HM)).mono (fun e w' r => fin rfl r)
end Go.Proofs.Ytikjahdnffklhaa
