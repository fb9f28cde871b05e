/- The document's heap: put and change, whatever is given. Both heaps, one call of each. -/
import Derived.Test.YtnajljoggcbhoaaHeapUnil
import Derived.Test.YtnajljoggcbhoaaHeapUeq
import Derived.Test.YtnajljoggcbhoaaHeapUne
namespace Go.Proofs.Ytnajljoggcbhoaa
open Go.ChangeShapes Go.WideShapes Go.ChangeAt Go.RowKit
set_option linter.unusedVariables false

theorem stop_ex (R : List En) (e : En) : ∃ k, k ≤ R.length ∧ AhTo R e k ∧ ∀ hj : k < R.length, ¬ ltH R[k] e := by
  have key : ∀ m, m ≤ R.length → AhTo R e m ∨ ∃ k, k ≤ R.length ∧ AhTo R e k ∧ ∀ hj : k < R.length, ¬ ltH R[k] e := by
    intro m
    induction m with
    | zero => exact fun _ => .inl (fun j _ h => absurd h (Nat.not_lt_zero _))
    | succ m ih =>
      intro hm
      rcases ih (by omega) with h | h
      · by_cases hl : ltH (R[m]'(by omega)) e
        · refine .inl (fun j hj hjm => ?_)
          by_cases ej : j = m
          · subst ej; exact hl
          · exact h j hj (by omega)
        · exact .inr ⟨m, by omega, h, fun _ => hl⟩
      · exact .inr h
  rcases key R.length (Nat.le_refl _) with h | h
  · exact ⟨R.length, Nat.le_refl _, h, fun hj => absurd hj (Nat.lt_irrefl _)⟩
  · exact h
theorem stop_eq {R : List En} {e : En} {k k' : Nat} (hk : k ≤ R.length) (hk' : k' ≤ R.length) (h1 : AhTo R e k) (h2 : ∀ hj : k < R.length, ¬ ltH R[k] e) (h3 : AhTo R e k') (h4 : ∀ hj : k' < R.length, ¬ ltH R[k'] e) : k = k' := by
  rcases Nat.lt_trichotomy k k' with h | h | h
  · exact absurd (h3 k (by omega) h) (h2 (by omega))
  · exact h
  · exact absurd (h1 k' (by omega) h) (h4 (by omega))
theorem stop_le {R : List En} {e : En} {k : Nat} (h1 : AhTo R e k) (h2 : ∀ hj : k < R.length, ¬ ltH R[k] e) (K : Nat) (hK : K ≤ R.length) (h3 : AhTo R e K) (h4 : ∀ hj : K < R.length, ¬ ltH R[K] e) (hk : k ≤ R.length) : k = K := stop_eq hk hK h1 h2 h3 h4
theorem rput_in (w : World) (rb room : Nat) (R : List En) (D : Nat → Option Int) (h : RHp w rb room R) (hR : Rep R D) (hsm : R.length ≤ 1024) (id : Nat) (due : Int) (hir : id < room) (hd : D id = none) :
    Calls Try.prog 11 #[.pointer (some ⟨rb, 0, none⟩), .int .i64 id, .int .i64 due] w fun e w' => ∃ R', e = .returned (.int .i64 0) ∧ RHp w' rb room R' ∧ Rep R' (upd D id (some due)) ∧ R'.length = R.length + 1 ∧ But rb w w' := by
  obtain ⟨ao, cap, h1, h2⟩ := h.is
  rcases h2 with h2 | ⟨b, off, rfl, h2⟩
  · exact rput_nil w rb room R D ao cap h h1 (.inl h2) hR hsm id due hir hd h2
  · have h3 : RowR w (rb + 1) R (some ⟨b, off, none⟩) cap := .inr ⟨b, off, rfl, h2⟩
    obtain ⟨K, k1, k2, k3⟩ := stop_ex R (id, due)
    by_cases hc : cap = K
    · exact rput_eq w rb room R D _ cap h h1 h3 hR hsm id due hir hd ⟨b, off, rfl⟩ (fun k hk1 hk2 hk3 => by rw [hc]; exact (stop_eq hk1 k1 hk2 hk3 k2 k3).symm)
    · exact rput_ne w rb room R D _ cap h h1 h3 hR hsm id due hir hd ⟨b, off, rfl⟩ (fun k hk1 hk2 hk3 he => hc (by rw [he]; exact stop_eq hk1 k1 hk2 hk3 k2 k3))
set_option maxRecDepth 100000 in
set_option maxHeartbeats 2000000 in
theorem rchange_no (w : World) (rb room : Nat) (R : List En) (h : RHp w rb room R) (id due : Int) (hn : InR room id = false) :
    Calls Try.prog 13 #[.pointer (some ⟨rb, 0, none⟩), .int .i64 id, .int .i64 due] w fun e w' => e = .returned (.int .i64 1) ∧ w' = w := by
  have HI := Lib.hid (ris_any w rb room R h id)
  rw [hn] at HI
  clear h
  go_enter Try.func13, Try.ntmps13
  go_wp2_with (go_at_call 29; refine HI.out.mono ?_; rintro e w3 ⟨rfl, hw3⟩; rw [hw3]; clear hw3)
  go_ret
  exact ⟨rfl, rfl⟩
set_option maxRecDepth 100000 in
set_option maxHeartbeats 2000000 in
theorem rchange_none (w : World) (rb room : Nat) (R : List En) (D : Nat → Option Int) (h : RHp w rb room R) (hR : Rep R D) (hsm : R.length ≤ 1024) (i : Nat) (due : Int) (hir : i < room) (hd : D i = none) :
    Calls Try.prog 13 #[.pointer (some ⟨rb, 0, none⟩), .int .i64 i, .int .i64 due] w fun e w' => e = .returned (.int .i64 3) ∧ w' = w := by
  have HI := Lib.hid (ris_any w rb room R h i)
  rw [show InR room (i : Int) = true by simp only [InR, Bool.and_eq_true, decide_eq_true_eq]; omega] at HI
  have HM := Lib.hid (rremove_no w rb room R D h hR i hsm (by rw [Dv.nat]; exact hd))
  clear h
  go_enter Try.func13, Try.ntmps13
  go_wp2_with (first
    | (go_at_call 29; refine HI.out.mono ?_; rintro e w3 ⟨rfl, hw3⟩; rw [hw3]; clear hw3)
    | (go_at_call 15; refine HM.out.mono ?_; rintro e w3 ⟨rfl, hw3⟩; rw [hw3]; clear hw3)
    | fail "no arm")
  go_ret
  exact ⟨rfl, rfl⟩
theorem upd_upd {α : Type} (f : Nat → α) (i : Nat) (a b : α) : upd (upd f i a) i b = upd f i b := by
  funext j
  by_cases h : j = i
  · subst h; rw [upd_at, upd_at]
  · rw [upd_ne _ _ h, upd_ne _ _ h, upd_ne _ _ h]
set_option maxRecDepth 100000 in
set_option maxHeartbeats 2000000 in
theorem rchange_in (w : World) (rb room : Nat) (R : List En) (D : Nat → Option Int) (h : RHp w rb room R) (hR : Rep R D) (hsm : R.length ≤ 1024) (i : Nat) (due d : Int) (hir : i < room) (hd : D i = some d) :
    Calls Try.prog 13 #[.pointer (some ⟨rb, 0, none⟩), .int .i64 i, .int .i64 due] w fun e w' => ∃ R', e = .returned (.int .i64 0) ∧ RHp w' rb room R' ∧ Rep R' (upd D i (some due)) ∧ But rb w w' := by
  have HI := Lib.hid (ris_any w rb room R h i)
  rw [show InR room (i : Int) = true by simp only [InR, Bool.and_eq_true, decide_eq_true_eq]; omega] at HI
  have HM := Lib.hid (rremove_in w rb room R D h hR i d hsm hd)
  clear h
  go_enter Try.func13, Try.ntmps13
  go_wp2_with (first
    | (go_at_call 29; refine HI.out.mono ?_; rintro e w3 ⟨rfl, hw3⟩; rw [hw3]; clear hw3)
    | (go_at_call 15; refine HM.out.mono ?_; rintro e w3 ⟨R1, rfl, h1', r1', l1', b1'⟩; have h1 := Lib.hid h1'; have r1 := Lib.hid r1'; have l1 := Lib.hid l1'; have b1 := Lib.hid b1'; clear h1' r1' l1' b1')
    | (go_at_call 11; refine (rput_in _ rb room R1 _ h1.out r1.out (by have := l1.out; omega) i due hir (upd_at _ _ _)).mono ?_; rintro e w4 ⟨R2, rfl, h2', r2', l2', b2'⟩; rw [upd_upd] at r2'; have h2 := Lib.hid h2'; have r2 := Lib.hid r2'; have b2 := Lib.hid b2'; clear h2' r2' l2' b2')
    | fail "no arm")
  go_ret
  exact ⟨R2, rfl, h2.out, r2.out, b1.out.trans b2.out⟩
/-! ### What a call answers, and what is in then. -/
def putC (room : Nat) (D : Nat → Option Int) (id : Int) : Int := if InR room id then (if (Dv D id).isSome then 4 else 0) else 1
def putD (room : Nat) (D : Nat → Option Int) (id due : Int) : Nat → Option Int := if InR room id && (Dv D id).isNone then upd D id.toNat (some due) else D
def chC (room : Nat) (D : Nat → Option Int) (id : Int) : Int := if InR room id then (if (Dv D id).isSome then 0 else 3) else 1
def chD (room : Nat) (D : Nat → Option Int) (id due : Int) : Nat → Option Int := if InR room id && (Dv D id).isSome then upd D id.toNat (some due) else D
def remD (D : Nat → Option Int) (id : Int) : Nat → Option Int := if (Dv D id).isSome then upd D id.toNat none else D
def popD (R : List En) (D : Nat → Option Int) : Nat → Option Int := match R with | [] => D | e :: _ => upd D e.1 none
theorem inR_nat {room : Nat} {id : Int} (h : InR room id = true) : ∃ i : Nat, id = i ∧ i < room := by
  simp only [InR, Bool.and_eq_true, decide_eq_true_eq] at h
  exact ⟨id.toNat, by omega, by omega⟩
theorem dv_nat {D : Nat → Option Int} {id d : Int} (h : Dv D id = some d) : ∃ i : Nat, id = i ∧ D i = some d := by
  unfold Dv at h
  split at h
  · exact ⟨id.toNat, by omega, h⟩
  · cases h
section
variable (w : World) (lo hi H W X room n rb : Nat) (D : Nat → Option Int) (R : List En)
theorem hput_all (h : HpD w lo hi H W X room n D) (id due : Int) :
    Calls Try.prog 10 #[.pointer (some ⟨H, 0, none⟩), .int .i64 id, .int .i64 due] w fun e w' => ∃ n', e = .returned (.int .i64 (putC room D id)) ∧ HpD w' lo hi H W X room n' (putD room D id due) ∧ Mv lo hi w w' := by
  cases hin : InR room id with
  | false =>
    refine (hput_no w lo hi H W X room n D h id due hin).mono ?_
    rintro e w' ⟨rfl, hw⟩
    rw [hw]
    exact ⟨n, by simp [putC, hin], by simp only [putD, hin, Bool.false_and]; exact h, Mv.refl _⟩
  | true =>
    obtain ⟨i, rfl, hir⟩ := inR_nat hin
    cases hd : D i with
    | some d =>
      refine (hput_there w lo hi H W X room n D h i due d hd).mono ?_
      rintro e w' ⟨rfl, hw⟩
      rw [hw]
      exact ⟨n, by simp [putC, hin, Dv.nat, hd], by simp only [putD, hin, Dv.nat, hd, Option.isNone, Bool.and_false]; exact h, Mv.refl _⟩
    | none =>
      refine (hput_in w lo hi H W X room n D h i due hir hd).mono ?_
      rintro e w' ⟨rfl, h1, h2⟩
      exact ⟨n + 1, by simp [putC, hin, Dv.nat, hd], by simp only [putD, hin, Dv.nat, hd, Option.isNone, Bool.and_true, if_true, Int.toNat_natCast]; exact h1, h2⟩
theorem rput_all (h : RHp w rb room R) (hR : Rep R D) (hsm : R.length ≤ 1024) (id due : Int) :
    Calls Try.prog 11 #[.pointer (some ⟨rb, 0, none⟩), .int .i64 id, .int .i64 due] w fun e w' => ∃ R', e = .returned (.int .i64 (putC room D id)) ∧ RHp w' rb room R' ∧ Rep R' (putD room D id due) ∧ But rb w w' := by
  cases hin : InR room id with
  | false =>
    refine (rput_no w rb room R h id due hin).mono ?_
    rintro e w' ⟨rfl, hw⟩
    rw [hw]
    exact ⟨R, by simp [putC, hin], h, by simp only [putD, hin, Bool.false_and]; exact hR, But.refl _ _⟩
  | true =>
    obtain ⟨i, rfl, hir⟩ := inR_nat hin
    cases hd : D i with
    | some d =>
      refine (rput_there w rb room R D h hR hsm i due d hir hd).mono ?_
      rintro e w' ⟨rfl, hw⟩
      rw [hw]
      exact ⟨R, by simp [putC, hin, Dv.nat, hd], h, by simp only [putD, hin, Dv.nat, hd, Option.isNone, Bool.and_false]; exact hR, But.refl _ _⟩
    | none =>
      refine (rput_in w rb room R D h hR hsm i due hir hd).mono ?_
      rintro e w' ⟨R', rfl, h1, h2, _, h3⟩
      exact ⟨R', by simp [putC, hin, Dv.nat, hd], h1, by simp only [putD, hin, Dv.nat, hd, Option.isNone, Bool.and_true, if_true, Int.toNat_natCast]; exact h2, h3⟩
theorem hchange_all (h : HpD w lo hi H W X room n D) (id due : Int) :
    Calls Try.prog 12 #[.pointer (some ⟨H, 0, none⟩), .int .i64 id, .int .i64 due] w fun e w' => ∃ n', e = .returned (.int .i64 (chC room D id)) ∧ HpD w' lo hi H W X room n' (chD room D id due) ∧ Mv lo hi w w' := by
  cases hin : InR room id with
  | false =>
    refine (hchange_no w lo hi H W X room n D h id due hin).mono ?_
    rintro e w' ⟨rfl, hw⟩
    rw [hw]
    exact ⟨n, by simp [chC, hin], by simp only [chD, hin, Bool.false_and]; exact h, Mv.refl _⟩
  | true =>
    obtain ⟨i, rfl, hir⟩ := inR_nat hin
    cases hd : D i with
    | none =>
      refine (hchange_none w lo hi H W X room n D h i due hir hd).mono ?_
      rintro e w' ⟨rfl, hw⟩
      rw [hw]
      exact ⟨n, by simp [chC, hin, Dv.nat, hd], by simp only [chD, hin, Dv.nat, hd, Option.isSome, Bool.and_false]; exact h, Mv.refl _⟩
    | some d =>
      refine (hchange_in w lo hi H W X room n D h i due d hd).mono ?_
      rintro e w' ⟨rfl, h1, h2⟩
      exact ⟨n, by simp [chC, hin, Dv.nat, hd], by simp only [chD, hin, Dv.nat, hd, Option.isSome, Bool.and_true, if_true, Int.toNat_natCast]; exact h1, h2⟩
theorem rchange_all (h : RHp w rb room R) (hR : Rep R D) (hsm : R.length ≤ 1024) (id due : Int) :
    Calls Try.prog 13 #[.pointer (some ⟨rb, 0, none⟩), .int .i64 id, .int .i64 due] w fun e w' => ∃ R', e = .returned (.int .i64 (chC room D id)) ∧ RHp w' rb room R' ∧ Rep R' (chD room D id due) ∧ But rb w w' := by
  cases hin : InR room id with
  | false =>
    refine (rchange_no w rb room R h id due hin).mono ?_
    rintro e w' ⟨rfl, hw⟩
    rw [hw]
    exact ⟨R, by simp [chC, hin], h, by simp only [chD, hin, Bool.false_and]; exact hR, But.refl _ _⟩
  | true =>
    obtain ⟨i, rfl, hir⟩ := inR_nat hin
    cases hd : D i with
    | none =>
      refine (rchange_none w rb room R D h hR hsm i due hir hd).mono ?_
      rintro e w' ⟨rfl, hw⟩
      rw [hw]
      exact ⟨R, by simp [chC, hin, Dv.nat, hd], h, by simp only [chD, hin, Dv.nat, hd, Option.isSome, Bool.and_false]; exact hR, But.refl _ _⟩
    | some d =>
      refine (rchange_in w rb room R D h hR hsm i due d hir hd).mono ?_
      rintro e w' ⟨R', rfl, h1, h2, h3⟩
      exact ⟨R', by simp [chC, hin, Dv.nat, hd], h1, by simp only [chD, hin, Dv.nat, hd, Option.isSome, Bool.and_true, if_true, Int.toNat_natCast]; exact h2, h3⟩
theorem hremove_all (h : HpD w lo hi H W X room n D) (id : Int) :
    Calls Try.prog 14 #[.pointer (some ⟨H, 0, none⟩), .int .i64 id] w fun e w' => ∃ n', e = .returned (.bool (Dv D id).isSome) ∧ HpD w' lo hi H W X room n' (remD D id) ∧ Mv lo hi w w' := by
  cases hd : Dv D id with
  | none =>
    refine (hremove_no w lo hi H W X room n D h id hd).mono ?_
    rintro e w' ⟨rfl, hw⟩
    rw [hw]
    exact ⟨n, rfl, by simp only [remD, hd, Option.isSome]; exact h, Mv.refl _⟩
  | some d =>
    obtain ⟨i, rfl, hd2⟩ := dv_nat hd
    refine (hremove_in w lo hi H W X room n D h i d hd2).mono ?_
    rintro e w' ⟨m, rfl, _, h1, h2⟩
    exact ⟨m, rfl, by simp only [remD, hd, Option.isSome, if_true, Int.toNat_natCast]; exact h1, h2⟩
theorem rremove_all (h : RHp w rb room R) (hR : Rep R D) (hsm : R.length ≤ 1024) (id : Int) :
    Calls Try.prog 15 #[.pointer (some ⟨rb, 0, none⟩), .int .i64 id] w fun e w' => ∃ R', e = .returned (.bool (Dv D id).isSome) ∧ RHp w' rb room R' ∧ Rep R' (remD D id) ∧ But rb w w' := by
  cases hd : Dv D id with
  | none =>
    refine (rremove_no w rb room R D h hR id hsm hd).mono ?_
    rintro e w' ⟨rfl, hw⟩
    rw [hw]
    exact ⟨R, rfl, h, by simp only [remD, hd, Option.isSome]; exact hR, But.refl _ _⟩
  | some d =>
    obtain ⟨i, rfl, hd2⟩ := dv_nat hd
    refine (rremove_in w rb room R D h hR i d hsm hd2).mono ?_
    rintro e w' ⟨R', rfl, h1, h2, _, h3⟩
    exact ⟨R', rfl, h1, by simp only [remD, hd, Option.isSome, if_true, Int.toNat_natCast]; exact h2, h3⟩
theorem hpop_all (h : HpD w lo hi H W X room n D) (hR : Rep R D) :
    Calls Try.prog 16 #[.pointer (some ⟨H, 0, none⟩)] w fun e w' => ∃ n', e = .returned (fstV R) ∧ HpD w' lo hi H W X room n' (popD R D) ∧ Mv lo hi w w' := by
  rcases R with _ | ⟨e0, R⟩
  · refine (hpop_nil w lo hi H W X room n D h hR).mono ?_
    rintro e w' ⟨rfl, hb⟩
    exact ⟨n, rfl, h.later hb, Mv.of_below hb h.lo.1⟩
  · refine (hpop_any w lo hi H W X room n D e0 R h hR).mono ?_
    rintro e w' ⟨m, rfl, _, h1, h2⟩
    exact ⟨m, rfl, h1, h2⟩
theorem rpop_all (h : RHp w rb room R) (hR : Rep R D) (hsm : R.length ≤ 1024) :
    Calls Try.prog 17 #[.pointer (some ⟨rb, 0, none⟩)] w fun e w' => e = .returned (fstV R) ∧ RHp w' rb room R.tail ∧ Rep R.tail (popD R D) ∧ But rb w w' := by
  refine (rpop_any w rb room R h hsm).mono ?_
  rintro e w' ⟨rfl, h1, h2⟩
  refine ⟨rfl, h1, ?_, h2⟩
  rcases R with _ | ⟨e0, R⟩
  · exact hR
  · have := hR.remove (k := 0) (by simp)
    simpa [popD] using this
end
end Go.Proofs.Ytnajljoggcbhoaa
