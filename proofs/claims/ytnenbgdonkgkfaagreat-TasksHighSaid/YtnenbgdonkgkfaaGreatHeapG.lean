/- What a heap answers. -/
import Derived.Test.YtnenbgdonkgkfaaGreatHeapE
namespace Go.Proofs.YtnenbgdonkgkfaaGreat
open Go.ChangeShapes Go.WideShapes Go.ChangeAt Go.RowKit
set_option linter.unusedVariables false

def Dv (D : Nat → Option Int) (id : Int) : Option Int := if 0 ≤ id then D id.toNat else none
def InR (room : Nat) (id : Int) : Bool := decide (0 ≤ id) && decide (id < room)
theorem Dv.none_of {room n : Nat} {f : Nat → En} {x : Nat → Int} {D : Nat → Option Int} (h : Good room n f x D) {id : Int} (hi : InR room id = false) : Dv D id = none := by
  unfold Dv
  split
  · rename_i h0
    refine h.out _ ?_
    simp only [InR, h0, decide_true, Bool.true_and, decide_eq_false_iff_not] at hi
    omega
  · rfl
theorem Dv.nat (D : Nat → Option Int) (i : Nat) : Dv D (i : Int) = D i := by unfold Dv; rw [if_pos (by omega)]; simp
/-- A heap that holds what D tells. -/
def HpD (w : World) (lo hi H W X room n : Nat) (D : Nat → Option Int) : Prop := ∃ f x, HpAt w lo hi H W X room n f x ∧ Good room n f x D ∧ HOrd n f
theorem HpD.keep {w w' : World} {lo hi H W X room n : Nat} {D : Nat → Option Int} (h : HpD w lo hi H W X room n D) (hs : SameIn w w' lo hi) (hz : w.heap.size ≤ w'.heap.size) : HpD w' lo hi H W X room n D := by
  obtain ⟨f, x, h1, h2⟩ := h
  exact ⟨f, x, h1.keep hs hz, h2⟩
theorem HpD.later {w w' : World} {lo hi H W X room n : Nat} {D : Nat → Option Int} (h : HpD w lo hi H W X room n D) (hb : Below w.heap.size w w') : HpD w' lo hi H W X room n D := by
  obtain ⟨f, x, h1, h2⟩ := h
  exact ⟨f, x, h1.later hb, h2⟩
theorem HpD.lo {w : World} {lo hi H W X room n : Nat} {D : Nat → Option Int} (h : HpD w lo hi H W X room n D) : lo ≤ w.heap.size ∧ hi ≤ w.heap.size := by
  obtain ⟨f, x, h1, _⟩ := h
  have := h1.rng
  have := h1.hiS
  omega
theorem HpD.rep {w : World} {lo hi H W X room n : Nat} {D : Nat → Option Int} {R : List En} (h : HpD w lo hi H W X room n D) (k : Rep R D) : n = R.length := by
  obtain ⟨f, x, _, h2, _⟩ := h
  exact row_len h2 k
set_option maxRecDepth 100000 in
set_option maxHeartbeats 2000000 in
theorem isNumber_any (w : World) (lo hi H W X room n : Nat) (f : Nat → En) (x : Nat → Int) (h : HpAt w lo hi H W X room n f x) (id : Int) :
    Calls Tryz.prog 62 #[.pointer (some ⟨H, 0, none⟩), .int .i64 id] w fun e w' => e = .returned (.bool (InR room id)) ∧ w' = w := by
  obtain ⟨b0, b1, b2, b3⟩ := h.cells
  have HR : Hid (∀ a b, a = decide (0 ≤ id) → b = decide (id < room) → InR room id = (a && b)) := Lib.hid (fun a b h1 h2 => by rw [h1, h2]; rfl)
  clear h
  by_cases h0 : 0 ≤ id
  · have t0 : decide (0 ≤ id) = true := decide_eq_true h0
    have HT := Lib.hid t0.symm
    by_cases h1 : id < (room : Int)
    · have t1 : decide (id < (room : Int)) = true := decide_eq_true h1
      have HU := Lib.hid t1.symm
      go_enter Tryz.func62, Tryz.ntmps62
      go_wp2
      go_ret
      rw [HR.out _ _ HT.out HU.out]
      exact ⟨rfl, rfl⟩
    · have t1 : decide (id < (room : Int)) = false := decide_eq_false h1
      have HU := Lib.hid t1.symm
      go_enter Tryz.func62, Tryz.ntmps62
      go_wp2
      go_ret
      rw [HR.out _ _ HT.out HU.out]
      exact ⟨rfl, rfl⟩
  · have t0 : decide (0 ≤ id) = false := decide_eq_false h0
    have HT := Lib.hid t0.symm
    go_enter Tryz.func62, Tryz.ntmps62
    go_wp2
    go_ret
    rw [HR.out _ _ HT.out rfl]
    exact ⟨by simp, rfl⟩
set_option maxRecDepth 100000 in
set_option maxHeartbeats 2000000 in
theorem place_no (w : World) (lo hi H W X room n : Nat) (f : Nat → En) (x : Nat → Int) (D : Nat → Option Int) (h : HpAt w lo hi H W X room n f x) (hG : Good room n f x D) (id : Int) (hD : Dv D id = none) :
    Calls Tryz.prog 63 #[.pointer (some ⟨H, 0, none⟩), .int .i64 id] w fun e w' => e = .returned (.tuple #[.int .i64 0, .bool false]) ∧ w' = w := by
  obtain ⟨b0, b1, b2, b3⟩ := h.cells
  have HI := Lib.hid (isNumber_any w lo hi H W X room n f x h id)
  cases hin : InR room id with
  | false =>
    rw [hin] at HI
    clear h hG
    go_enter Tryz.func63, Tryz.ntmps63
    go_wp2_with (go_at_call 62; refine HI.out.mono ?_; rintro e w3 ⟨rfl, rfl⟩)
    ((try simp only [Exit.inBlock, Exit.then]); refine bodyPost_ret (results_tmp2 rfl _ _ _) rfl ?_)
    exact ⟨rfl, rfl⟩
  | true =>
    rw [hin] at HI
    obtain ⟨i, rfl⟩ : ∃ i : Nat, id = i := ⟨id.toNat, by simp only [InR, Bool.and_eq_true, decide_eq_true_eq] at hin; omega⟩
    have hir : i < room := by simp only [InR, Bool.and_eq_true, decide_eq_true_eq] at hin; omega
    rw [Dv.nat] at hD
    have k0 := (h.whr.at_ hir).1
    rw [hG.nowhere hir hD] at k0
    have i0 : (0 : Int) ≤ (i : Int) := by omega
    have i1 : (i : Int) < (room : Int) := by omega
    have i2 : decide ((i : Int) < (room : Int)) = true := decide_eq_true i1
    clear h hG
    go_enter Tryz.func63, Tryz.ntmps63
    go_wp2_with (go_at_call 62; refine HI.out.mono ?_; rintro e w3 ⟨rfl, rfl⟩)
    ((try simp only [Exit.inBlock, Exit.then]); refine bodyPost_ret (results_tmp2 rfl _ _ _) rfl ?_)
    exact ⟨rfl, rfl⟩
set_option maxRecDepth 100000 in
set_option maxHeartbeats 2000000 in
theorem place_yes (w : World) (lo hi H W X room n : Nat) (f : Nat → En) (x : Nat → Int) (D : Nat → Option Int) (h : HpAt w lo hi H W X room n f x) (hG : Good room n f x D) (i k : Nat) (hk : k < n) (hf : (f k).1 = i) :
    Calls Tryz.prog 63 #[.pointer (some ⟨H, 0, none⟩), .int .i64 i] w fun e w' => e = .returned (.tuple #[.int .i64 k, .bool true]) ∧ w' = w := by
  obtain ⟨b0, b1, b2, b3⟩ := h.cells
  have HI := Lib.hid (isNumber_any w lo hi H W X room n f x h i)
  obtain ⟨g1, g2, g3⟩ := hG.ids k hk
  rw [hf] at g1 g2
  have hin : InR room (i : Int) = true := by simp only [InR, Bool.and_eq_true, decide_eq_true_eq]; omega
  rw [hin] at HI
  have k0 := (h.whr.at_ g1).1
  rw [g2] at k0
  have i0 : (0 : Int) ≤ (i : Int) := by omega
  have i1 : (i : Int) < (room : Int) := by omega
  have i2 : decide ((i : Int) < (room : Int)) = true := decide_eq_true i1
  have t0 : decide ((k : Int) = -1) = false := decide_eq_false (by omega)
  have t1 : ¬ ((k : Int) = -1) := by omega
  clear h hG g1 g2 g3
  go_enter Tryz.func63, Tryz.ntmps63
  go_wp2_with (go_at_call 62; refine HI.out.mono ?_; rintro e w3 ⟨rfl, rfl⟩)
  ((try simp only [Exit.inBlock, Exit.then]); refine bodyPost_ret (results_tmp2 rfl _ _ _) rfl ?_)
  exact ⟨rfl, rfl⟩
set_option maxRecDepth 100000 in
set_option maxHeartbeats 2000000 in
theorem hput_no (w : World) (lo hi H W X room n : Nat) (D : Nat → Option Int) (h : HpD w lo hi H W X room n D) (id due : Int) (hn : InR room id = false) :
    Calls Tryz.prog 45 #[.pointer (some ⟨H, 0, none⟩), .int .i64 id, .int .i64 due] w fun e w' => e = .returned (.int .i64 1) ∧ w' = w := by
  obtain ⟨f, x, h1, h2, h3⟩ := h
  have HI := Lib.hid (isNumber_any w lo hi H W X room n f x h1 id)
  rw [hn] at HI
  clear h1 h2 h3
  go_enter Tryz.func45, Tryz.ntmps45
  go_wp2_with (go_at_call 62; refine HI.out.mono ?_; rintro e w3 ⟨rfl, rfl⟩)
  go_ret
  exact ⟨rfl, rfl⟩
set_option maxRecDepth 100000 in
set_option maxHeartbeats 2000000 in
theorem hput_there (w : World) (lo hi H W X room n : Nat) (D : Nat → Option Int) (h : HpD w lo hi H W X room n D) (i : Nat) (due d : Int) (hd : D i = some d) :
    Calls Tryz.prog 45 #[.pointer (some ⟨H, 0, none⟩), .int .i64 i, .int .i64 due] w fun e w' => e = .returned (.int .i64 4) ∧ w' = w := by
  obtain ⟨f, x, h1, h2, h3⟩ := h
  obtain ⟨k, hk, _, hf, hir⟩ := h2.place hd
  have HI := Lib.hid (isNumber_any w lo hi H W X room n f x h1 i)
  have HP := Lib.hid (place_yes w lo hi H W X room n f x D h1 h2 i k hk (by rw [hf]))
  rw [show InR room (i : Int) = true by simp only [InR, Bool.and_eq_true, decide_eq_true_eq]; omega] at HI
  clear h1 h2 h3
  go_enter Tryz.func45, Tryz.ntmps45
  go_wp2_with (first | (go_at_call 62; refine HI.out.mono ?_; rintro e w3 ⟨rfl, rfl⟩) | (go_at_call 63; refine HP.out.mono ?_; rintro e w3 ⟨rfl, rfl⟩) | fail "no arm")
  go_ret
  exact ⟨rfl, rfl⟩
set_option maxRecDepth 100000 in
set_option maxHeartbeats 2000000 in
theorem hput_in (w : World) (lo hi H W X room n : Nat) (D : Nat → Option Int) (h : HpD w lo hi H W X room n D) (i : Nat) (due : Int) (hir : i < room) (hd : D i = none) :
    Calls Tryz.prog 45 #[.pointer (some ⟨H, 0, none⟩), .int .i64 i, .int .i64 due] w fun e w' => e = .returned (.int .i64 0) ∧ HpD w' lo hi H W X room (n + 1) (upd D i (some due)) ∧ Mv lo hi w w' := by
  obtain ⟨f, x, h1, h2, h3⟩ := h
  have HI := Lib.hid (isNumber_any w lo hi H W X room n f x h1 i)
  have HP := Lib.hid (place_no w lo hi H W X room n f x D h1 h2 i (by rw [Dv.nat]; exact hd))
  rw [show InR room (i : Int) = true by simp only [InR, Bool.and_eq_true, decide_eq_true_eq]; omega] at HI
  have HE := Lib.hid (enter_any w lo hi H W X room n f x D h1 h2 h3 i due hir hd)
  clear h1 h2 h3
  go_enter Tryz.func45, Tryz.ntmps45
  go_wp2_with (first | (go_at_call 62; refine HI.out.mono ?_; rintro e w3 ⟨rfl, rfl⟩) | (go_at_call 63; refine HP.out.mono ?_; rintro e w3 ⟨rfl, rfl⟩) | (go_at_call 64; refine HE.out.mono ?_; rintro e w5 ⟨f5, x5, rfl, hh5', hg5', ho5', hm5'⟩; have hh5 := Lib.hid hh5'; have hg5 := Lib.hid hg5'; have ho5 := Lib.hid ho5'; have hm5 := Lib.hid hm5'; clear hh5' hg5' ho5' hm5') | fail "no arm")
  go_ret
  exact ⟨rfl, ⟨f5, x5, hh5.out, hg5.out, ho5.out⟩, hm5.out⟩
set_option maxRecDepth 100000 in
set_option maxHeartbeats 2000000 in
theorem hchange_no (w : World) (lo hi H W X room n : Nat) (D : Nat → Option Int) (h : HpD w lo hi H W X room n D) (id due : Int) (hn : InR room id = false) :
    Calls Tryz.prog 53 #[.pointer (some ⟨H, 0, none⟩), .int .i64 id, .int .i64 due] w fun e w' => e = .returned (.int .i64 1) ∧ w' = w := by
  obtain ⟨f, x, h1, h2, h3⟩ := h
  have HI := Lib.hid (isNumber_any w lo hi H W X room n f x h1 id)
  rw [hn] at HI
  clear h1 h2 h3
  go_enter Tryz.func53, Tryz.ntmps53
  go_wp2_with (go_at_call 62; refine HI.out.mono ?_; rintro e w3 ⟨rfl, rfl⟩)
  go_ret
  exact ⟨rfl, rfl⟩
set_option maxRecDepth 100000 in
set_option maxHeartbeats 2000000 in
theorem hchange_none (w : World) (lo hi H W X room n : Nat) (D : Nat → Option Int) (h : HpD w lo hi H W X room n D) (i : Nat) (due : Int) (hir : i < room) (hd : D i = none) :
    Calls Tryz.prog 53 #[.pointer (some ⟨H, 0, none⟩), .int .i64 i, .int .i64 due] w fun e w' => e = .returned (.int .i64 3) ∧ w' = w := by
  obtain ⟨f, x, h1, h2, h3⟩ := h
  have HI := Lib.hid (isNumber_any w lo hi H W X room n f x h1 i)
  have HP := Lib.hid (place_no w lo hi H W X room n f x D h1 h2 i (by rw [Dv.nat]; exact hd))
  rw [show InR room (i : Int) = true by simp only [InR, Bool.and_eq_true, decide_eq_true_eq]; omega] at HI
  clear h1 h2 h3
  go_enter Tryz.func53, Tryz.ntmps53
  go_wp2_with (first | (go_at_call 62; refine HI.out.mono ?_; rintro e w3 ⟨rfl, rfl⟩) | (go_at_call 63; refine HP.out.mono ?_; rintro e w3 ⟨rfl, rfl⟩) | fail "no arm")
  go_ret
  exact ⟨rfl, rfl⟩
set_option maxRecDepth 100000 in
set_option maxHeartbeats 2000000 in
theorem hchange_in (w : World) (lo hi H W X room n : Nat) (D : Nat → Option Int) (h : HpD w lo hi H W X room n D) (i : Nat) (due d : Int) (hd : D i = some d) :
    Calls Tryz.prog 53 #[.pointer (some ⟨H, 0, none⟩), .int .i64 i, .int .i64 due] w fun e w' => e = .returned (.int .i64 0) ∧ HpD w' lo hi H W X room n (upd D i (some due)) ∧ Mv lo hi w w' := by
  obtain ⟨f, x, h1, h2, h3⟩ := h
  obtain ⟨k, hk, _, hf, hir⟩ := h2.place hd
  have hnr := h2.le
  have hr := h1.rng
  obtain ⟨b0, b1, b2, b3⟩ := h1.cells
  obtain ⟨c0, c1, c2, c3⟩ := h1.who.at_ (show k < room by omega)
  have HI := Lib.hid (isNumber_any w lo hi H W X room n f x h1 i)
  have HP := Lib.hid (place_yes w lo hi H W X room n f x D h1 h2 i k hk (by rw [hf]))
  rw [show InR room (i : Int) = true by simp only [InR, Bool.and_eq_true, decide_eq_true_eq]; omega] at HI
  obtain ⟨Y, hY⟩ : ∃ Y, Y = w.setCell ⟨W, k * 2 + 1, none⟩ (.int .i64 due) := ⟨_, rfl⟩
  have hHY : HpAt Y lo hi H W X room n (upd f k ((f k).1, due)) x := by rw [hY]; exact h1.due (show k < room by omega) due
  have HMY : Hid (Mv lo hi w Y) := Lib.hid (by rw [hY]; exact (Mv.refl w).set hr.2.1 hr.2.2.2.2.1 _ _)
  have hg := h2.change hk due
  rw [hf] at hg hHY
  have HE := Lib.hid (settle_any Y lo hi H W X room n _ x _ hHY hg hk (h3.but (fun j hj hjk => ⟨hj, upd_ne _ _ hjk⟩) (fun j _ _ => by omega)))
  have HY := Lib.hid hY
  have k0 : (0 : Int) ≤ (k : Int) := by omega
  have k1 : (k : Int) < (n : Int) := by omega
  have k2 : decide ((k : Int) < (n : Int)) = true := decide_eq_true k1
  clear h1 h2 h3 hY hHY hg hr hd
  go_enter Tryz.func53, Tryz.ntmps53
  go_wp2_with (first | (go_at_call 62; refine HI.out.mono ?_; rintro e w3 ⟨rfl, rfl⟩) | (go_at_call 63; refine HP.out.mono ?_; rintro e w3 ⟨rfl, rfl⟩) | (go_at_call 72; rw [← HY.out]; refine HE.out.mono ?_; rintro e w5 ⟨f5, x5, rfl, hh5', hg5', ho5', hm5'⟩; have hh5 := Lib.hid hh5'; have hg5 := Lib.hid hg5'; have ho5 := Lib.hid ho5'; have hm5 := Lib.hid hm5'; clear hh5' hg5' ho5' hm5') | fail "no arm")
  go_ret
  exact ⟨rfl, ⟨f5, x5, hh5.out, hg5.out, ho5.out⟩, HMY.out.trans hm5.out⟩
set_option maxRecDepth 100000 in
set_option maxHeartbeats 2000000 in
theorem hremove_no (w : World) (lo hi H W X room n : Nat) (D : Nat → Option Int) (h : HpD w lo hi H W X room n D) (id : Int) (hd : Dv D id = none) :
    Calls Tryz.prog 75 #[.pointer (some ⟨H, 0, none⟩), .int .i64 id] w fun e w' => e = .returned (.bool false) ∧ w' = w := by
  obtain ⟨f, x, h1, h2, h3⟩ := h
  have HP := Lib.hid (place_no w lo hi H W X room n f x D h1 h2 id hd)
  clear h1 h2 h3
  go_enter Tryz.func75, Tryz.ntmps75
  go_wp2_with (go_at_call 63; refine HP.out.mono ?_; rintro e w3 ⟨rfl, rfl⟩)
  go_ret
  exact ⟨rfl, rfl⟩
set_option maxRecDepth 100000 in
set_option maxHeartbeats 2000000 in
theorem hremove_in (w : World) (lo hi H W X room n : Nat) (D : Nat → Option Int) (h : HpD w lo hi H W X room n D) (i : Nat) (d : Int) (hd : D i = some d) :
    Calls Tryz.prog 75 #[.pointer (some ⟨H, 0, none⟩), .int .i64 i] w fun e w' => ∃ m, e = .returned (.bool true) ∧ n = m + 1 ∧ HpD w' lo hi H W X room m (upd D i none) ∧ Mv lo hi w w' := by
  obtain ⟨f, x, h1, h2, h3⟩ := h
  obtain ⟨k, hk, _, hf, hir⟩ := h2.place hd
  have HP := Lib.hid (place_yes w lo hi H W X room n f x D h1 h2 i k hk (by rw [hf]))
  obtain ⟨m, hm⟩ : ∃ m, n = m + 1 := ⟨n - 1, by omega⟩
  have HE := Lib.hid (leave_any w lo hi H W X room n m f x D h1 h2 h3 hk hm)
  rw [hf] at HE
  have HM := Lib.hid hm
  clear h1 h2 h3 hm hd
  go_enter Tryz.func75, Tryz.ntmps75
  go_wp2_with (first | (go_at_call 63; refine HP.out.mono ?_; rintro e w3 ⟨rfl, rfl⟩) | (go_at_call 86; refine HE.out.mono ?_; rintro e w5 ⟨f5, x5, rfl, hh5', hg5', ho5', hm5'⟩; have hh5 := Lib.hid hh5'; have hg5 := Lib.hid hg5'; have ho5 := Lib.hid ho5'; have hm5 := Lib.hid hm5'; clear hh5' hg5' ho5' hm5') | fail "no arm")
  go_ret
  exact ⟨m, rfl, HM.out, ⟨f5, x5, hh5.out, hg5.out, ho5.out⟩, hm5.out⟩
set_option maxRecDepth 100000 in
set_option maxHeartbeats 2000000 in
theorem hdue_any (w : World) (lo hi H W X room n : Nat) (D : Nat → Option Int) (h : HpD w lo hi H W X room n D) (id : Int) :
    Calls Tryz.prog 57 #[.pointer (some ⟨H, 0, none⟩), .int .i64 id] w fun e w' => e = .returned (.tuple #[.int .i64 ((Dv D id).getD 0), .bool (Dv D id).isSome]) ∧ w' = w := by
  obtain ⟨f, x, h1, h2, h3⟩ := h
  cases hd : Dv D id with
  | none =>
    have HP := Lib.hid (place_no w lo hi H W X room n f x D h1 h2 id hd)
    clear h1 h2 h3
    go_enter Tryz.func57, Tryz.ntmps57
    go_wp2_with (go_at_call 63; refine HP.out.mono ?_; rintro e w3 ⟨rfl, rfl⟩)
    ((try simp only [Exit.inBlock, Exit.then]); refine bodyPost_ret (results_tmp2 rfl _ _ _) rfl ?_)
    exact ⟨rfl, rfl⟩
  | some d =>
    obtain ⟨i, rfl⟩ : ∃ i : Nat, id = i := ⟨id.toNat, by unfold Dv at hd; split at hd; omega; cases hd⟩
    rw [Dv.nat] at hd
    obtain ⟨k, hk, _, hf, hir⟩ := h2.place hd
    have hnr := h2.le
    obtain ⟨b0, b1, b2, b3⟩ := h1.cells
    have c1 := (h1.who.at_ (show k < room by omega)).2.1
    rw [hf] at c1
    have HP := Lib.hid (place_yes w lo hi H W X room n f x D h1 h2 i k hk (by rw [hf]))
    have k0 : (0 : Int) ≤ (k : Int) := by omega
    have k1 : (k : Int) < (n : Int) := by omega
    have k2 : decide ((k : Int) < (n : Int)) = true := decide_eq_true k1
    clear h1 h2 h3 hd
    go_enter Tryz.func57, Tryz.ntmps57
    go_wp2_with (go_at_call 63; refine HP.out.mono ?_; rintro e w3 ⟨rfl, rfl⟩)
    ((try simp only [Exit.inBlock, Exit.then]); refine bodyPost_ret (results_tmp2 rfl _ _ _) rfl ?_)
    exact ⟨rfl, rfl⟩
set_option maxRecDepth 100000 in
set_option maxHeartbeats 2000000 in
theorem hlen_any (w : World) (lo hi H W X room n : Nat) (f : Nat → En) (x : Nat → Int) (h : HpAt w lo hi H W X room n f x) :
    Calls Tryz.prog 40 #[.pointer (some ⟨H, 0, none⟩)] w fun e w' => e = .returned (.int .i64 (n : Nat)) ∧ w' = w := by
  obtain ⟨b0, b1, b2, b3⟩ := h.cells
  clear h
  go_enter Tryz.func40, Tryz.ntmps40
  go_wp2
  go_ret
  exact ⟨rfl, rfl⟩
def fstV (R : List En) : Value := match R with | [] => .tuple #[.int .i64 0, .int .i64 0, .bool false] | e :: _ => .tuple #[.int .i64 (e.1 : Nat), .int .i64 e.2, .bool true]
set_option maxRecDepth 100000 in
set_option maxHeartbeats 2000000 in
theorem hfirst_any (w : World) (lo hi H W X room n : Nat) (f : Nat → En) (x : Nat → Int) (D : Nat → Option Int) (R : List En) (h : HpAt w lo hi H W X room n f x) (hG : Good room n f x D) (hO : HOrd n f) (hR : Rep R D) :
    Calls Tryz.prog 36 #[.pointer (some ⟨H, 0, none⟩)] w fun e w' => e = .returned (fstV R) ∧ Below w.heap.size w w' := by
  have HL := Lib.hid (hlen_any w lo hi H W X room n f x h)
  have hl := row_len hG hR
  rcases R with _ | ⟨e0, R⟩
  · obtain rfl : n = 0 := hl
    clear h hG hO hR
    go_enter Tryz.func36, Tryz.ntmps36
    go_wp2_with (go_at_call 40; refine HL.out.mono ?_; rintro e w3 ⟨rfl, rfl⟩)
    ((try simp only [Exit.inBlock, Exit.then]); refine bodyPost_ret (results_tmp3 rfl _ _ _) rfl ?_)
    exact ⟨rfl, Below.refl _ _⟩
  · have hf := first_is hG hO hR (by simp)
    simp only [List.length_cons] at hl
    have hnr := hG.le
    obtain ⟨b0, b1, b2, b3⟩ := h.cells
    obtain ⟨c0, c1, _, _⟩ := h.who.at_ (show 0 < room by omega)
    rw [hf] at c0 c1
    simp only [Nat.zero_mul, Nat.zero_add, List.getElem_cons_zero] at c0 c1
    obtain ⟨i0, d0⟩ := e0
    dsimp only at c0 c1
    have HW := Lib.hid (h.who.lt)
    have u0 : W < w.heap.size := h.who.lt
    have n0 : (0 : Int) < (n : Int) := by omega
    have n1 : decide ((0 : Int) < (n : Int)) = true := decide_eq_true n0
    have n2 : decide ((n : Int) = 0) = false := decide_eq_false (by omega)
    have n3 : ¬ ((n : Int) = 0) := by omega
    have n4 : ¬ (n = 0) := by omega
    clear h hG hO hR hf hl
    go_enter Tryz.func36, Tryz.ntmps36
    go_wp2_with (go_at_call 40; refine HL.out.mono ?_; rintro e w3 ⟨rfl, rfl⟩)
    go_region
    go_wp2
    ((try simp only [Exit.inBlock, Exit.then]); refine bodyPost_ret (results_tmp3 rfl _ _ _) rfl ?_)
    refine ⟨rfl, ?_⟩
    repeat first | exact Below.refl _ _ | refine Below.drew ?_ | refine Below.setCell ?_ (Nat.le_refl _) _ | exact below1 _ _ | refine b_alloc ?_ (Nat.le_refl _) _
end Go.Proofs.YtnenbgdonkgkfaaGreat
