/- The program's wheel keeps its contracts. -/
import Derived.Test.YtbjhoncojegjiaaDoorWheelW
namespace Go.Proofs.YtbjhoncojegjiaaDoor
open Go.ChangeShapes Go.WideShapes Go.ChangeAt Go.RowKit
set_option linter.unusedVariables false

set_option maxRecDepth 100000 in
set_option maxHeartbeats 2000000 in
theorem newP_any (start : Int) (w : World) (hT : TbOk w) : Calls Tryd.prog 8 #[.int .i64 start] w fun e w' => ∃ (H : Nat) (S : Nat → Prop), e = .returned (.pointer (some ⟨H, 0, none⟩)) ∧ WhP w' H S (min (max start 0) 4611686018427387904) (fun _ => -1) ∧ (∀ k, S k → w.heap.size ≤ k) ∧ Below w.heap.size w w' := by
  obtain ⟨n, hn⟩ : ∃ n : Nat, n = (min (max start 0) 4611686018427387904).toNat := ⟨_, rfl⟩
  have hn1 : min (max start 0) 4611686018427387904 = (n : Int) := by omega
  have hn2 : n ≤ 4611686018427387904 := by omega
  have hg := hT.lt
  have HEND : Hid (WhP (w.alloc (.cells (whArr true n) 52)) w.heap.size (WOwn w.heap.size fun _ => .slice none 0 0) (n : Int) (fun _ => -1)) := Lib.hid (by
    have hc := whArr_cells (w := w.alloc (.cells (whArr true n) 52)) (H := w.heap.size) (m := true) (now := n) (heap_alloc_new _ _)
    refine ⟨n, fun _ => 0, fun _ => .slice none 0 0, fun _ => [], rfl, hn2, rfl, ⟨?_, ⟨fun k hk => World.ownsRow_nil _ _ _ _, fun k hk => (by intro e; cases e), fun j k _ _ _ g e => (by cases e)⟩⟩, WLog.new n, fun i _ => .inl ⟨rfl, rfl⟩, hT.later (below1 _ _), by omega, fun k _ => (by intro e; cases e)⟩
    rw [cntV_zero 256 (fun j _ => by omega)]
    exact hc)
  have HOW : Hid (∀ k, WOwn w.heap.size (fun _ => Value.slice none 0 0) k → w.heap.size ≤ k) := Lib.hid (fun k hk => by
    rcases hk with rfl | ⟨_, _, e⟩
    · exact Nat.le_refl _
    · cases e)
  have hb := built_new (min (max start 0) 4611686018427387904)
  rw [hn1] at hb
  obtain ⟨A, hA⟩ : ∃ A, A = whArr true (n : Int) := ⟨_, rfl⟩
  rw [← hA] at HEND hb
  rw [hn1]
  have HBB := Lib.hid hb
  have HN := Lib.hid hn1
  clear hA hT hg hn hb hn1
  go_enter Tryd.func8, Tryd.ntmps8
  go_wp2_with (first
    | refine wpList_build2 (by rfl) 52 _ (by rfl) [(0, .bool true), (1, .int .i64 n)] (by rw [← HN.out]; simp [Act.eval]) A HBB.out ?_
    | fail "no arm")
  go_ret
  exact ⟨_, _, rfl, HEND.out, HOW.out, below1 _ _⟩
set_option maxRecDepth 100000 in
set_option maxHeartbeats 4000000 in
/-- One is set. -/
theorem setP_any (w : World) (H : Nat) (S : Nat → Prop) (now : Int) (x : Nat → Int) (id tick : Int) (h : WhP w H S now x) :
    Calls Tryd.prog 11 #[.pointer (some ⟨H, 0, none⟩), .int .i64 id, .int .i64 tick] w fun e w' => ∃ S', e = .returned (.int .i64 (setC now id tick)) ∧ WhP w' H S' now (setX now x id tick) ∧ GrowS S S' w w' := by
  have HH := Lib.hid h
  obtain ⟨n, y, sl, L, rfl, hn2, rfl, hm, _⟩ := h
  have HNU := Lib.hid (isNumber_any w _ hm.c.madeIs id)
  obtain ⟨c0, _⟩ := hm.c.now_
  clear hm
  cases hin : inT id with
  | false =>
    rw [hin] at HNU
    have HC : Hid (setC n id tick = 1 ∧ setX n x id tick = x) := Lib.hid ⟨by simp [setC, hin], by simp [setX, hin]⟩
    clear hin hn2
    go_enter Tryd.func11, Tryd.ntmps11
    go_wp2_with (go_at_call 23; refine HNU.out.mono ?_; rintro e w3 ⟨rfl, hw3⟩; rw [hw3]; clear hw3)
    go_ret
    rw [HC.out.1, HC.out.2]
    exact ⟨_, rfl, HH.out, GrowS.of_below (Below.refl _ _)⟩
  | true =>
    rw [hin] at HNU
    by_cases h1 : tick ≤ (n : Int)
    · have t1 : decide (tick ≤ (n : Int)) = true := decide_eq_true h1
      have HC : Hid (setC n id tick = 2 ∧ setX n x id tick = x) := Lib.hid ⟨by simp [setC, hin]; omega, by simp [setX, hin]; omega⟩
      clear hin hn2
      go_enter Tryd.func11, Tryd.ntmps11
      go_wp2_with (go_at_call 23; refine HNU.out.mono ?_; rintro e w3 ⟨rfl, hw3⟩; rw [hw3]; clear hw3)
      go_ret
      rw [HC.out.1, HC.out.2]
      exact ⟨_, rfl, HH.out, GrowS.of_below (Below.refl _ _)⟩
    · have t1 : decide (tick ≤ (n : Int)) = false := decide_eq_false h1
      by_cases h2 : (4611686018427387904 : Int) < tick
      · have t2 : decide ((4611686018427387904 : Int) < tick) = true := decide_eq_true h2
        have HC : Hid (setC n id tick = 2 ∧ setX n x id tick = x) := Lib.hid ⟨by simp [setC, hin]; omega, by simp [setX, hin]; omega⟩
        clear hin hn2
        go_enter Tryd.func11, Tryd.ntmps11
        go_wp2_with (go_at_call 23; refine HNU.out.mono ?_; rintro e w3 ⟨rfl, hw3⟩; rw [hw3]; clear hw3)
        go_ret
        rw [HC.out.1, HC.out.2]
        exact ⟨_, rfl, HH.out, GrowS.of_below (Below.refl _ _)⟩
      · have t2 : decide ((4611686018427387904 : Int) < tick) = false := decide_eq_false h2
        obtain ⟨i, rfl, hi⟩ := inT_nat hin
        obtain ⟨t, rfl⟩ : ∃ t : Nat, tick = t := ⟨tick.toNat, by omega⟩
        have ht1 : n < t := by omega
        have ht2 : t ≤ 4611686018427387904 := by omega
        have hk : slotK n t < 256 := slotK_lt (by omega) (by omega)
        have HC : Hid (setC n i t = 0 ∧ setX n x i t = updR x i t) := Lib.hid ⟨by rw [setC, if_pos hin, if_pos ⟨by omega, by omega⟩], by rw [setX, if_pos ⟨hin, by omega, by omega⟩, Int.toNat_natCast]⟩
        have HCA := Lib.hid (cancelW_any w H _ _ x i HH.out)
        have HSL : Hid (∀ X, Calls Tryd.prog 24 #[.pointer (some ⟨H, 259, none⟩), .int .i64 n, .int .i64 t] X fun e w' => e = .returned (.pointer (some ⟨H, 259 + slotK n t, none⟩)) ∧ Below X.heap.size X w') := Lib.hid (fun X => (slot_any X H n t (by omega) (by omega) (by omega)).mono (by rintro e w' ⟨rfl, q, rfl⟩; exact ⟨rfl, below_drewN X q⟩))
        have i0 : (0 : Int) ≤ (i : Int) := by omega
        have i1 : (i : Int) < 256 := by omega
        have i2 : i < 256 := hi
        have HIN := Lib.hid hin
        clear hin hn2
        go_enter Tryd.func11, Tryd.ntmps11
        go_upto_region 6 with (first
          | (go_at_call 13; refine HCA.out.mono ?_; rintro e w4 ⟨S4, rfl, h4', g4'⟩; have h4 := Lib.hid h4'; have g4 := Lib.hid g4'; clear h4' g4')
          | (go_at_call 23; refine HNU.out.mono ?_; rintro e w3 ⟨rfl, hw3⟩; rw [hw3]; clear hw3)
          | fail "no arm")
        clear c0
        obtain ⟨n', y', sl', L', hnn, hn2, hS4, hm, hl, hx, hT, h8, h9⟩ := h4.out
        obtain rfl : n = n' := by omega
        have HX4 : canX x (i : Int) i = -1 := by
          unfold canX whV
          rw [if_pos HIN.out, Int.toNat_natCast]
          by_cases h5 : 0 ≤ x i
          · rw [if_pos h5, updR_at]
          · rw [if_neg h5]
            obtain ⟨_, y0, _, _, _, _, _, _, _, hx0, _⟩ := HH.out
            rcases hx0 i hi with ⟨_, h6⟩ | ⟨h6, h7⟩
            · exact h6
            · omega
        have hXX : ∀ j, updR (canX x (i : Int)) i (t : Int) j = updR x i t j := fun j => by
          by_cases e : j = i
          · subst e; rw [updR_at, updR_at]
          · rw [updR_ne _ _ e, updR_ne _ _ e]
            unfold canX
            split
            · rw [Int.toNat_natCast, updR_ne _ _ e]
            · rfl
        have hyi : y' i = 0 := by rcases hx i hi with ⟨h5, _⟩ | ⟨h5, h6⟩ <;> omega
        have hl2 := hl.set hi hyi ht1 ht2 hk
        have hll := hl.len hk
        obtain ⟨W1, hW1⟩ : ∃ W1, W1 = w4.setCell ⟨H, 3 + i, none⟩ (.int .i64 (t : Int)) := ⟨_, rfl⟩
        obtain ⟨cn, hcn⟩ : ∃ cn : Nat, cn = cntV (canX x (i : Int)) 256 := ⟨_, rfl⟩
        have hcon := cntV_on (x := canX x (i : Int)) (i := i) (t := t) (by omega) (by omega) 256 hi
        have hcle := cntV_le (updR (canX x (i : Int)) i (t : Int)) 256
        rw [← hcn] at hm
        have hm1 : WMem W1 H n (cn : Int) (updR y' i t) sl' L' := by rw [hW1]; exact hm.set_tick hi t
        have hg1 : GrowS (WOwn H sl') (WOwn H sl') w4 W1 := by rw [hW1]; exact grow_set hm _ _
        have HPU : Hid (∀ X, Below W1.heap.size W1 X → Calls Tryd.prog 25 #[.pointer (some ⟨H, 259 + slotK n t, none⟩), .int .i64 i] X fun e w' => ∃ v, e = .returned (.tuple #[]) ∧ WMem w' H n (cn : Int) (updR y' i t) (updR sl' (slotK n t) v) (updR L' (slotK n t) (L' (slotK n t) ++ [i])) ∧ GrowS (WOwn H sl') (WOwn H (updR sl' (slotK n t) v)) w4 w') := Lib.hid (fun X hX => (put_any (hm1.later hX) (slotK n t) hk i (by omega)).mono (by
          rintro e w' ⟨v, rfl, h3, h4⟩
          exact ⟨v, rfl, h3, (hg1.trans (GrowS.of_below hX)).trans h4⟩))
        have KS : Hid (∀ X, Below W1.heap.size W1 X → X.cell? ⟨H, 1, none⟩ = some (.int .i64 n)) := Lib.hid (fun X hX => (hm1.later hX).c.now_.1)
        have HEND : Hid (∀ (W4 : World) (v : Value), WMem W4 H n ((cn : Int) + 1) (updR y' i t) (updR sl' (slotK n t) v) (updR L' (slotK n t) (L' (slotK n t) ++ [i])) → GrowS (WOwn H sl') (WOwn H (updR sl' (slotK n t) v)) w4 W4 → ∃ S', WhP W4 H S' (n : Int) (updR x i t) ∧ GrowS (WOwn H sl) S' w W4) := Lib.hid (fun W4 v h3 h5 => by
          refine ⟨_, ⟨n, _, _, _, rfl, hn2, rfl, ?_, hl2, fun j hj => ?_, tb_grow hT h8 h9 h5, h8, tb_own hT h8 h9 h5⟩, g4.out.trans (by rw [hS4]; exact h5)⟩
          · rw [← cntV_congr (x := updR (canX x (i : Int)) i (t : Int)) 256 (fun j _ => hXX j), show ((cntV (updR (canX x (i : Int)) i (t : Int)) 256 : Nat) : Int) = (cn : Int) + 1 by omega]; exact h3
          · rw [← hXX j]
            by_cases e : j = i
            · subst e; rw [updR_at, updR_at]; exact .inr ⟨by omega, rfl⟩
            · rw [updR_ne _ _ e, updR_ne _ _ e]; exact hx j hj)
        obtain ⟨c0, c1⟩ := hm.c.tick hi
        rw [hyi] at c0
        have cn2 : cn < 256 := by omega
        have HW1 := Lib.hid hW1
        clear hnn hn2 hS4 hm hl hx hT h8 h9 HX4 hXX hyi hl2 hll hcn hcon hcle hm1 hg1 hW1 ht1 ht2 hk h1 h2
        go_upto_region 7 with fail
        rw [← HW1.out]
        clear c0 c1
        go_region_held3 (fun X => X.cell? ⟨H, 1, none⟩ = some (.int .i64 n))
          (first | exact KS.out _ (Below.refl _ _).drew | exact KS.out _ hb6 | exact hq7 | fail "no")
          (first
            | (go_at_call 25; have _z := hb6; refine (HPU.out _ hb6).mono ?_; rintro e w7 ⟨v7, rfl, hm7, hg7⟩; have hq7 := hm7.c.now_.1; obtain ⟨q6, q7⟩ := hm7.c.len_; have HM7 := Lib.hid hm7; have HG7 := Lib.hid hg7; clear hm7 hg7)
            | (go_at_call 24; refine (HSL.out _).mono ?_; rintro e w6 ⟨rfl, hb6'⟩; have hb6 : Below W1.heap.size W1 w6 := (Below.refl _ _).drew.trans hb6')
            | fail "no arm")
        go_wp2_with fail
        go_ret
        obtain ⟨S', r1, r2⟩ := HEND.out _ v7 (HM7.out.set_len ((cn : Int) + 1)) (HG7.out.trans (grow_set HM7.out _ _))
        rw [HC.out.1, HC.out.2]
        exact ⟨S', rfl, r1, r2⟩
end Go.Proofs.YtbjhoncojegjiaaDoor
