/- The program's ring: Push and Pop. -/
import Derived.Test.YtoebbbghllkdgaaRingS
namespace Go.Proofs.Ytoebbbghllkdgaa
open Go.ChangeShapes Go.WideShapes Go.ChangeAt Go.RowKit
set_option linter.unusedVariables false
set_option maxRecDepth 100000 in
set_option maxHeartbeats 4000000 in
theorem push_no_i (w : World) (p : Option Addr) (c : Int) (x : Int) (HL : Hid (Calls Try.prog 47 #[.pointer p] w fun e w' => e = .returned (.int .i64 c) ∧ w' = w)) (HR : Hid (Calls Try.prog 48 #[.pointer p] w fun e w' => e = .returned (.int .i64 c) ∧ w' = w)) : Calls Try.prog 45 #[.pointer p, .int .i64 x] w fun e w' => e = .returned (.bool false) ∧ w' = w := by
  go_enter Try.func45, Try.ntmps45
  go_wp2_with (first
    | (go_at_call 47; refine HL.out.mono ?_; rintro e w3 ⟨rfl, hw3⟩; rw [hw3]; clear hw3)
    | (go_at_call 48; refine HR.out.mono ?_; rintro e w3 ⟨rfl, hw3⟩; rw [hw3]; clear hw3)
    | fail "no arm")
  go_ret
  exact ⟨rfl, rfl⟩
set_option maxRecDepth 100000 in
set_option maxHeartbeats 4000000 in
theorem push_in_i (w : World) (H : Nat) (S : Nat → Prop) (n : Int) (fi c m cap : Nat) (ao : Option Addr) (v : Nat → Int) (h : RgAt (fun x => Value.int .i64 x) 80 3 w H S n fi c m cap ao v) (hlt : c < m) (x : Int) (hx : (c : Int) < n) : Calls Try.prog 45 #[.pointer (some ⟨H, 0, none⟩), .int .i64 x] w fun e w' => e = .returned (.bool true) ∧ RgAt (fun x => Value.int .i64 x) 80 3 w' H S n fi (c + 1) m cap ao (updF v ((fi + c) % m) x) ∧ GrowS S S w w' := by
  have hs := h.sm; have hmn := h.mn
  have HL := Lib.hid (len_box_i w H _ _ _ _ h.box)
  have HR := Lib.hid (room_box_i w H _ _ _ _ h.box)
  have HQ := Lib.hid h
  have t0 : ((c : Int) == n) = false := by simp; omega
  have b2 : w.cell? ⟨H, 2, none⟩ = some (.int .i64 c) := cell_in h.box rfl
  have b3 : w.cell? ⟨H, 3, none⟩ = some (.slice ao m cap) := cell_in h.box rfl
  have f2 : w.frozen? ⟨H, 2, none⟩ = false := free_in h.box _
  have t1 : ((c : Int) == (m : Int)) = false := by simp; omega
  have t2 : (c == m) = false := by simp; omega
  have t3 : ¬ ((c : Int) = (m : Int)) := by omega
  have t4 : ¬ (c = m) := by omega
  have e1 : IntKind.i64.wrap ((c : Int) + 1) = ((c + 1 : Nat) : Int) := (IntWalk.i64_in _ (by omega)).trans (by omega)
  have e2 : wrap64 (c : Int) = (c : Int) := IntWalk.wrap64_in _ (by omega)
  have HS : Hid (∀ d, Calls Try.prog 50 #[.pointer (some ⟨H, 0, none⟩), .int .i64 c, .int .i64 x] ((w.drewN d).setCell ⟨H, 2, none⟩ (.int .i64 ((c : Int) + 1))) fun e w' => e = .returned (.bool true) ∧ RgAt (fun x => Value.int .i64 x) 80 3 w' H S n fi (c + 1) m cap ao (updF v ((fi + c) % m) x) ∧ GrowS S S w w') := Lib.hid (fun d => by
    rw [show ((c : Int) + 1) = ((c + 1 : Nat) : Int) by omega]
    obtain ⟨r1, g1⟩ := (h.later (below_drewR d (Below.refl _ _))).len (c' := c + 1) (by omega)
    refine (set_yes_i _ H S n fi (c + 1) m cap ao v r1 c (by omega) x).mono ?_
    rintro e w' ⟨rfl, r2, g2⟩
    exact ⟨rfl, r2, (GrowS.of_below (below_drewR d (Below.refl _ _))).trans (g1.trans g2)⟩)
  clear h hx hlt
  go_enter Try.func45, Try.ntmps45
  go_wp2_with (first
    | (go_at_call 47; refine HL.out.mono ?_; rintro e w3 ⟨rfl, hw3⟩; rw [hw3]; clear hw3)
    | (go_at_call 48; refine HR.out.mono ?_; rintro e w3 ⟨rfl, hw3⟩; rw [hw3]; clear hw3)
    | fail "no arm")
  go_quiet (fail)
  go_wp2_with (first
    | (go_at_call 50; refine (HS.out _).mono ?_; rintro e w5 ⟨rfl, h5', g5'⟩; have h5 := Lib.hid h5'; have g5 := Lib.hid g5'; clear h5' g5')
    | fail "no arm")
  go_ret
  exact ⟨rfl, h5.out, g5.out⟩
set_option maxRecDepth 100000 in
set_option maxHeartbeats 4000000 in
theorem push_grow_i (w : World) (H : Nat) (S : Nat → Prop) (n : Int) (fi c m cap : Nat) (ao : Option Addr) (v : Nat → Int) (h : RgAt (fun x => Value.int .i64 x) 80 3 w H S n fi c m cap ao v) (hcm : c = m) (x : Int) (hx : (c : Int) < n) : Calls Try.prog 45 #[.pointer (some ⟨H, 0, none⟩), .int .i64 x] w fun e w' => ∃ (S' : Nat → Prop) (M : Nat) (ao' : Option Addr) (v' : Nat → Int), e = .returned (.bool true) ∧ RgAt (fun x => Value.int .i64 x) 80 3 w' H S' n 0 (c + 1) M M ao' v' ∧ ringL v' 0 M (c + 1) = ringL v fi m c ++ [x] ∧ GrowS S S' w w' := by
  subst hcm
  have hs := h.sm; have hmn := h.mn
  have HL := Lib.hid (len_box_i w H _ _ _ _ h.box)
  have HR := Lib.hid (room_box_i w H _ _ _ _ h.box)
  have HQ := Lib.hid h
  have t0 : ((c : Int) == n) = false := by simp; omega
  have b2 : w.cell? ⟨H, 2, none⟩ = some (.int .i64 c) := cell_in h.box rfl
  have b3 : w.cell? ⟨H, 3, none⟩ = some (.slice ao c cap) := cell_in h.box rfl
  have e1 : IntKind.i64.wrap ((c : Int) + 1) = ((c + 1 : Nat) : Int) := (IntWalk.i64_in _ (by omega)).trans (by omega)
  have e2 : IntKind.i64.wrap (((c + 1 : Nat) : Int) - 1) = (c : Int) := (IntWalk.i64_in _ (by omega)).trans (by omega)
  have HG : Hid (∀ d, Calls Try.prog 49 #[.pointer (some ⟨H, 0, none⟩)] (w.drewN d) fun e w' => ∃ (S' : Nat → Prop) (M : Nat) (ao' : Option Addr) (v' : Nat → Int), e = .returned (.tuple #[]) ∧ RgAt (fun x => Value.int .i64 x) 80 3 w' H S' n 0 c M M ao' v' ∧ c < M ∧ ringL v' 0 M c = ringL v fi c c ∧ GrowS S S' w w') := Lib.hid (fun d => by
    refine (grow_i _ H S n fi c cap ao v (h.later (below_drewR d (Below.refl _ _))) hx).mono ?_
    rintro e w' ⟨S', M, ao', v', rfl, r1, r2, r3, g⟩
    exact ⟨S', M, ao', v', rfl, r1, r2, r3, (GrowS.of_below (below_drewR d (Below.refl _ _))).trans g⟩)
  have hx' := Lib.hid hx
  clear h hx
  go_enter Try.func45, Try.ntmps45
  go_wp2_with (first
    | (go_at_call 47; refine HL.out.mono ?_; rintro e w3 ⟨rfl, hw3⟩; rw [hw3]; clear hw3)
    | (go_at_call 48; refine HR.out.mono ?_; rintro e w3 ⟨rfl, hw3⟩; rw [hw3]; clear hw3)
    | fail "no arm")
  go_quiet (fail)
  go_wp2_with (first
    | (go_at_call 50; have _z := h5; refine (HS5.out).mono ?_; rintro e w6 ⟨rfl, h6', g6'⟩; have h6 := Lib.hid h6'; have g6 := Lib.hid g6'; clear h6' g6')
    | (go_at_call 49
       refine (HG.out _).mono ?_
       rintro e w5 ⟨S5, M, ao5, v5, rfl, h5', hM', hl5', g5'⟩
       have h5 := Lib.hid h5'
       have hM := Lib.hid hM'
       have hl5 := Lib.hid hl5'
       have g5 := Lib.hid g5'
       have p2 : w5.cell? ⟨H, 2, none⟩ = some (.int .i64 c) := cell_in h5'.box rfl
       have q2 : w5.frozen? ⟨H, 2, none⟩ = false := free_in h5'.box _
       have HS5 : Hid (Calls Try.prog 50 #[.pointer (some ⟨H, 0, none⟩), .int .i64 c, .int .i64 x] (w5.setCell ⟨H, 2, none⟩ (.int .i64 ((c + 1 : Nat) : Int))) fun e w' => e = .returned (.bool true) ∧ RgAt (fun x => Value.int .i64 x) 80 3 w' H S5 n 0 (c + 1) M M ao5 (updF v5 ((0 + c) % M) x) ∧ GrowS S5 S5 w5 w') := Lib.hid (by
         obtain ⟨r1, g1⟩ := h5'.len (c' := c + 1) (by omega)
         refine (set_yes_i _ H S5 n 0 (c + 1) M M ao5 v5 r1 c (by omega) x).mono ?_
         rintro e w' ⟨rfl, r2, g2⟩
         exact ⟨rfl, r2, g1.trans g2⟩)
       clear h5' hM' hl5' g5')
    | fail "no arm")
  go_ret
  exact ⟨S5, M, ao5, _, rfl, h6.out, by rw [← hl5.out]; exact ringL_push x (by have := hM.out; omega) hM.out, g5.out.trans g6.out⟩
set_option maxRecDepth 100000 in
set_option maxHeartbeats 4000000 in
theorem pop_no_i (w : World) (p : Option Addr) (HA : Hid (Calls Try.prog 51 #[.pointer p, .int .i64 0] w fun e w' => e = .returned (.tuple #[.int .i64 0, .bool false]) ∧ w' = w)) : Calls Try.prog 46 #[.pointer p] w fun e w' => e = .returned (.tuple #[.int .i64 0, .bool false]) ∧ w' = w := by
  go_enter Try.func46, Try.ntmps46
  go_wp2_with (go_at_call 51; refine HA.out.mono ?_; rintro e w3 ⟨rfl, hw3⟩; rw [hw3]; clear hw3)
  go_ret2
  exact ⟨rfl, rfl⟩
set_option maxRecDepth 100000 in
set_option maxHeartbeats 4000000 in
theorem pop_yes_i (w : World) (H : Nat) (S : Nat → Prop) (n : Int) (fi c m cap : Nat) (ao : Option Addr) (v : Nat → Int) (h : RgAt (fun x => Value.int .i64 x) 80 3 w H S n fi (c + 1) m cap ao v) : Calls Try.prog 46 #[.pointer (some ⟨H, 0, none⟩)] w fun e w' => e = .returned (.tuple #[.int .i64 (v fi), .bool true]) ∧ RgAt (fun x => Value.int .i64 x) 80 3 w' H S n ((fi + 1) % m) c m cap ao (updF v fi 0) ∧ GrowS S S w w' := by
  have hc := h.cm; have hs := h.sm; have hmn := h.mn
  have hf : fi < m := by rcases h.fm with h | h <;> omega
  have e0 : (fi + 0) % m = fi := Nat.mod_eq_of_lt hf
  obtain ⟨x, hxe⟩ : ∃ x, x = v fi := ⟨_, rfl⟩
  have HA : Hid (Calls Try.prog 51 #[.pointer (some ⟨H, 0, none⟩), .int .i64 0] w fun e w' => e = .returned (.tuple #[.int .i64 x, .bool true]) ∧ RgAt (fun x => Value.int .i64 x) 80 3 w' H S n fi (c + 1) m cap ao v ∧ GrowS S S w w') := Lib.hid (by
    refine (at_yes_i w H S n fi (c + 1) m cap ao v h 0 (by omega)).mono ?_
    rintro e w' ⟨rfl, d, rfl⟩
    rw [e0, ← hxe]
    exact ⟨rfl, h.later (below_drewR d (Below.refl _ _)), GrowS.of_below (below_drewR d (Below.refl _ _))⟩)
  have HS : Hid (∀ W : World, RgAt (fun x => Value.int .i64 x) 80 3 W H S n fi (c + 1) m cap ao v → Calls Try.prog 50 #[.pointer (some ⟨H, 0, none⟩), .int .i64 0, .int .i64 0] W fun e w' => e = .returned (.bool true) ∧ RgAt (fun x => Value.int .i64 x) 80 3 w' H S n fi (c + 1) m cap ao (updF v fi 0) ∧ GrowS S S W w') := Lib.hid (fun W hW => by
    have := set_yes_i W H S n fi (c + 1) m cap ao v hW 0 (by omega) 0
    rw [e0] at this
    exact this)
  have HP : Hid (∀ W : World, RgAt (fun x => Value.int .i64 x) 80 3 W H S n fi (c + 1) m cap ao (updF v fi 0) → Calls Try.prog 52 #[.pointer (some ⟨H, 0, none⟩), .int .i64 1] W fun e w' => e = .returned (.int .i64 (((fi + 1) % m : Nat) : Int)) ∧ RgAt (fun x => Value.int .i64 x) 80 3 w' H S n fi (c + 1) m cap ao (updF v fi 0) ∧ GrowS S S W w') := Lib.hid (fun W hW => by
    refine (place_i W H _ _ fi m cap 1 ao hW.box hf (by omega) (by omega)).mono ?_
    rintro e w' ⟨rfl, d, rfl⟩
    exact ⟨rfl, hW.later (below_drewR d (Below.refl _ _)), GrowS.of_below (below_drewR d (Below.refl _ _))⟩)
  obtain ⟨q, hq⟩ : ∃ q, q = (fi + 1) % m := ⟨_, rfl⟩
  have hqm : q < m := by rw [hq]; exact Nat.mod_lt _ (by omega)
  rw [← hq, ← hxe]
  rw [← hq] at HP
  have e1 : IntKind.i64.wrap (((c + 1 : Nat) : Int) - 1) = (c : Int) := (IntWalk.i64_in _ (by omega)).trans (by omega)
  clear h hxe hq e0
  go_enter Try.func46, Try.ntmps46
  go_wp2_with (first
    | (go_at_call 52; have _z := h4; refine (HP.out _ h4.out).mono ?_; rintro e w5 ⟨rfl, h5', g5'⟩; have h5 := Lib.hid h5'; have g5 := Lib.hid (g4.out.trans g5')
       have p1 : w5.cell? ⟨H, 1, none⟩ = some (.int .i64 fi) := cell_in h5'.box rfl
       have p2 : w5.cell? ⟨H, 2, none⟩ = some (.int .i64 ((c + 1 : Nat) : Int)) := cell_in h5'.box rfl
       have p3 : w5.frozen? ⟨H, 1, none⟩ = false := free_in h5'.box _
       have p4 : w5.frozen? ⟨H, 2, none⟩ = false := free_in h5'.box _
       clear h5' g5')
    | (go_at_call 50; have _z := h3; refine (HS.out _ h3.out).mono ?_; rintro e w4 ⟨rfl, h4', g4'⟩; have h4 := Lib.hid h4'; have g4 := Lib.hid (g3.out.trans g4'); clear h4' g4')
    | (go_at_call 51; refine HA.out.mono ?_; rintro e w3 ⟨rfl, h3', g3'⟩; have h3 := Lib.hid h3'; have g3 := Lib.hid g3'; clear h3' g3')
    | fail "no arm")
  go_ret2
  obtain ⟨r1, k1⟩ := h5.out.first (f' := q) (.inl hqm)
  obtain ⟨r2, k2⟩ := r1.len (c' := c) (by omega)
  exact ⟨rfl, r2, g5.out.trans (k1.trans k2)⟩
end Go.Proofs.Ytoebbbghllkdgaa
