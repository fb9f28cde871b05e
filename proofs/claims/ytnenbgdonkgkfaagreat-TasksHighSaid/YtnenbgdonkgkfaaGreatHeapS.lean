/- One that is out of order goes to where it belongs. -/
import Derived.Test.YtnenbgdonkgkfaaGreatHeapO
namespace Go.Proofs.YtnenbgdonkgkfaaGreat
open Go.ChangeShapes Go.WideShapes Go.ChangeAt Go.RowKit
set_option linter.unusedVariables false

theorem up_end' {n : Nat} {f : Nat → En} {a : Nat} (HI : UpI n f a) (HS : upV f a = a) : DnI n f a := up_end HI HS
theorem dn_end' {n : Nat} {f : Nat → En} {a : Nat} (HI : DnI n f a) (HS : downV n f a = a) : HOrd n f := dn_end HI HS
theorem up_at {B : Nat} {w : World} {lo hi H W X room n : Nat} {f : Nat → En} {x : Nat → Int} {D : Nat → Option Int} {a : Nat} (HH : HpAt w lo hi H W X room n f x) (HB : w.heap[B]? = some (.cells #[.pointer (some ⟨H, 0, none⟩)] 122 (0, 0))) (hn : n ≤ room) (ha : a < n) :
    Calls Tryz.prog 81 #[.int .i64 a, .pointer (some ⟨B, 0, none⟩)] w fun e w' => e = .returned (.int .i64 (upV f a : Nat)) ∧ Below w.heap.size w w' := up_any B w lo hi H W X room n f x HH (cell_in HB rfl) hn ha
theorem down_at {B : Nat} {w : World} {lo hi H W X room n : Nat} {f : Nat → En} {x : Nat → Int} {D : Nat → Option Int} {a : Nat} (HH : HpAt w lo hi H W X room n f x) (HB : w.heap[B]? = some (.cells #[.pointer (some ⟨H, 0, none⟩)] 122 (0, 0))) (hn : n ≤ room) (ha : a < n) :
    Calls Tryz.prog 83 #[.int .i64 a, .pointer (some ⟨B, 0, none⟩)] w fun e w' => e = .returned (.int .i64 (downV n f a : Nat)) ∧ Below w.heap.size w w' := down_any B w lo hi H W X room n f x HH HB hn ha
set_option maxRecDepth 100000 in
set_option maxHeartbeats 4000000 in
theorem moveUp_any (B : Nat) (w : World) (lo hi H W X room n : Nat) (f : Nat → En) (x : Nat → Int) (D : Nat → Option Int) (h : HpAt w lo hi H W X room n f x) (hB : w.heap[B]? = some (.cells #[.pointer (some ⟨H, 0, none⟩)] 122 (0, 0))) (hBr : hi ≤ B) {a : Nat} (hG : Good room n f x D) (ha : a < n) (hI : UpI n f a) :
    Calls Tryz.prog 84 #[.pointer (some ⟨H, 0, none⟩), .int .i64 a, .func (.func 81) #[] #[.pointer (some ⟨B, 0, none⟩)]] w fun e w' => ∃ (f' : Nat → En) (x' : Nat → Int) (a' : Nat), e = .returned (.int .i64 a') ∧ a' < n ∧ HpAt w' lo hi H W X room n f' x' ∧ Good room n f' x' D ∧ DnI n f' a' ∧ Mv lo hi w w' := by
  have hlo : lo ≤ w.heap.size := by have := h.rng; have := h.hiS; omega
  have HB := Lib.hid hB
  have HH := Lib.hid h
  have HG := Lib.hid hG
  have HI := Lib.hid hI
  clear hB h hG hI
  go_enter Tryz.func84, Tryz.ntmps84
  go_wp2_with (go_at_call 81; refine (up_at (D := D) HH.out HB.out HG.out.le ha).mono ?_; rintro e w3 ⟨rfl, hb3⟩)
  go_loopw [1, 7] (fun s1 s7 wr => ∃ (f' : Nat → En) (x' : Nat → Int) (a' : Nat), s1 = .int .i64 a' ∧ s7 = .int .i64 (upV f' a' : Nat) ∧ a' < n ∧ Hid (HpAt wr lo hi H W X room n f' x') ∧ Hid (Good room n f' x' D) ∧ Hid (UpI n f' a') ∧ Mv lo hi w wr) (fun i _ _ => (intOf i).toNat)
  case atStart => exact ⟨f, x, a, rfl, rfl, ha, Lib.hid (HH.out.later hb3), HG, HI, Mv.of_below hb3 hlo⟩
  case round =>
    obtain ⟨f1, x1, a1, rfl, rfl, ha1, HH1, HG1, HI1, hm⟩ := hrel
    by_cases hs : upV f1 a1 = a1
    · have HS := Lib.hid hs
      have tk : decide ((((upV f1 a1 : Nat) : Int)) = (a1 : Int)) = true := decide_eq_true (by omega)
      have HE := Lib.hid (up_end' (HI := HI1.out) (HS := hs))
      clear hs
      rw [HS.out] at *
      go_wp2_with fail
      go_ret
      exact ⟨f1, x1, a1, rfl, ha1, HH1.out, HG1.out, HE.out, hm⟩
    · obtain ⟨b1, hb1⟩ : ∃ b, b = upV f1 a1 := ⟨_, rfl⟩
      rw [← hb1] at hs ⊢
      have hlt : b1 < n := by rw [hb1]; have := (up_lt (f := f1) (a := a1) (by omega)).1; omega
      have HB1 := Lib.hid hb1
      have HI2 : Hid (UpI n (sw f1 a1 b1) b1) := Lib.hid (by rw [hb1]; exact up_step ha1 HI1.out (by omega))
      have hmeas : b1 < a1 := by rw [hb1]; exact (up_lt (f := f1) (a := a1) (by omega)).1
      have tk : decide ((b1 : Int) = (a1 : Int)) = false := decide_eq_false (by omega)
      have tk' : ¬ ((b1 : Int) = (a1 : Int)) := by omega
      have HNB : Hid ((f1 a1).1 < room ∧ (f1 b1).1 < room) := Lib.hid ⟨(HG1.out.ids a1 ha1).1, (HG1.out.ids b1 hlt).1⟩
      have HNR : Hid (n ≤ room) := Lib.hid HG1.out.le
      have HB2 : Hid (wr.heap[B]? = some (.cells #[.pointer (some ⟨H, 0, none⟩)] 122 (0, 0))) := Lib.hid (hm.block HB.out hBr)
      clear hs hb1
      go_wp2_with (first
        | (go_at_call 81; have _z := hm4; refine (up_at (D := D) hh4.out (hm4.block HB2.out hBr) HNR.out hlt).mono ?_; rintro e w5 ⟨rfl, hb5⟩)
        | (go_at_call 91; refine (swap_any _ lo hi H W X room n f1 x1 HH1.out HNR.out ha1 hlt HNB.out.1 HNB.out.2).mono ?_; rintro e w4 ⟨rfl, hh4', hm4⟩; have hh4 := Lib.hid hh4'; clear hh4')
        | fail "no arm")
      all_goals go_roundw
      case rel => exact ⟨_, _, b1, rfl, rfl, hlt, Lib.hid (hh4.out.later hb5), Lib.hid (HG1.out.swap ha1 hlt), HI2, (hm.trans hm4).trans (Mv.of_below hb5 (by have := hm4.below.size; have := hm.below.size; omega))⟩
      case measure => simp [intOf]; omega
set_option maxRecDepth 100000 in
set_option maxHeartbeats 4000000 in
theorem moveDown_any (B : Nat) (w : World) (lo hi H W X room n : Nat) (f : Nat → En) (x : Nat → Int) (D : Nat → Option Int) (h : HpAt w lo hi H W X room n f x) (hB : w.heap[B]? = some (.cells #[.pointer (some ⟨H, 0, none⟩)] 122 (0, 0))) (hBr : hi ≤ B) {a : Nat} (hG : Good room n f x D) (ha : a < n) (hI : DnI n f a) :
    Calls Tryz.prog 84 #[.pointer (some ⟨H, 0, none⟩), .int .i64 a, .func (.func 83) #[] #[.pointer (some ⟨B, 0, none⟩)]] w fun e w' => ∃ (f' : Nat → En) (x' : Nat → Int) (a' : Nat), e = .returned (.int .i64 a') ∧ a' < n ∧ HpAt w' lo hi H W X room n f' x' ∧ Good room n f' x' D ∧ HOrd n f' ∧ Mv lo hi w w' := by
  have hlo : lo ≤ w.heap.size := by have := h.rng; have := h.hiS; omega
  have HB := Lib.hid hB
  have HH := Lib.hid h
  have HG := Lib.hid hG
  have HI := Lib.hid hI
  clear hB h hG hI
  go_enter Tryz.func84, Tryz.ntmps84
  go_wp2_with (go_at_call 83; refine (down_at (D := D) HH.out HB.out HG.out.le ha).mono ?_; rintro e w3 ⟨rfl, hb3⟩)
  go_loopw [1, 7] (fun s1 s7 wr => ∃ (f' : Nat → En) (x' : Nat → Int) (a' : Nat), s1 = .int .i64 a' ∧ s7 = .int .i64 (downV n f' a' : Nat) ∧ a' < n ∧ Hid (HpAt wr lo hi H W X room n f' x') ∧ Hid (Good room n f' x' D) ∧ Hid (DnI n f' a') ∧ Mv lo hi w wr) (fun i _ _ => n - (intOf i).toNat)
  case atStart => exact ⟨f, x, a, rfl, rfl, ha, Lib.hid (HH.out.later hb3), HG, HI, Mv.of_below hb3 hlo⟩
  case round =>
    obtain ⟨f1, x1, a1, rfl, rfl, ha1, HH1, HG1, HI1, hm⟩ := hrel
    by_cases hs : downV n f1 a1 = a1
    · have HS := Lib.hid hs
      have tk : decide ((((downV n f1 a1 : Nat) : Int)) = (a1 : Int)) = true := decide_eq_true (by omega)
      have HE := Lib.hid (dn_end' (HI := HI1.out) (HS := hs))
      clear hs
      rw [HS.out] at *
      go_wp2_with fail
      go_ret
      exact ⟨f1, x1, a1, rfl, ha1, HH1.out, HG1.out, HE.out, hm⟩
    · obtain ⟨b1, hb1⟩ : ∃ b, b = downV n f1 a1 := ⟨_, rfl⟩
      rw [← hb1] at hs ⊢
      have hlt : b1 < n := by rw [hb1]; exact (dn_is (n := n) (f := f1) (a := a1) (by omega)).2.1
      have HB1 := Lib.hid hb1
      have HI2 : Hid (DnI n (sw f1 a1 b1) b1) := Lib.hid (by rw [hb1]; exact dn_step HI1.out (by omega))
      have hmeas : a1 < b1 := by rw [hb1]; exact (dn_is (n := n) (f := f1) (a := a1) (by omega)).1
      have tk : decide ((b1 : Int) = (a1 : Int)) = false := decide_eq_false (by omega)
      have tk' : ¬ ((b1 : Int) = (a1 : Int)) := by omega
      have HNB : Hid ((f1 a1).1 < room ∧ (f1 b1).1 < room) := Lib.hid ⟨(HG1.out.ids a1 ha1).1, (HG1.out.ids b1 hlt).1⟩
      have HNR : Hid (n ≤ room) := Lib.hid HG1.out.le
      have HB2 : Hid (wr.heap[B]? = some (.cells #[.pointer (some ⟨H, 0, none⟩)] 122 (0, 0))) := Lib.hid (hm.block HB.out hBr)
      clear hs hb1
      go_wp2_with (first
        | (go_at_call 83; have _z := hm4; refine (down_at (D := D) hh4.out (hm4.block HB2.out hBr) HNR.out hlt).mono ?_; rintro e w5 ⟨rfl, hb5⟩)
        | (go_at_call 91; refine (swap_any _ lo hi H W X room n f1 x1 HH1.out HNR.out ha1 hlt HNB.out.1 HNB.out.2).mono ?_; rintro e w4 ⟨rfl, hh4', hm4⟩; have hh4 := Lib.hid hh4'; clear hh4')
        | fail "no arm")
      all_goals go_roundw
      case rel => exact ⟨_, _, b1, rfl, rfl, hlt, Lib.hid (hh4.out.later hb5), Lib.hid (HG1.out.swap ha1 hlt), HI2, (hm.trans hm4).trans (Mv.of_below hb5 (by have := hm4.below.size; have := hm.below.size; omega))⟩
      case measure => simp [intOf]; omega
set_option maxRecDepth 100000 in
set_option maxHeartbeats 4000000 in
theorem settle_any (w : World) (lo hi H W X room n : Nat) (f : Nat → En) (x : Nat → Int) (D : Nat → Option Int) (h : HpAt w lo hi H W X room n f x) {a : Nat} (hG : Good room n f x D) (ha : a < n) (hI : UpI n f a) :
    Calls Tryz.prog 72 #[.pointer (some ⟨H, 0, none⟩), .int .i64 a] w fun e w' => ∃ (f' : Nat → En) (x' : Nat → Int), e = .returned (.tuple #[]) ∧ HpAt w' lo hi H W X room n f' x' ∧ Good room n f' x' D ∧ HOrd n f' ∧ Mv lo hi w w' := by
  have hlo : lo ≤ w.heap.size := by have := h.rng; have := h.hiS; omega
  have hhi := h.hiS
  obtain ⟨V, hV⟩ : ∃ V, V = w.alloc (.cells #[.pointer (some ⟨H, 0, none⟩)] 122) := ⟨_, rfl⟩
  have HHV : Hid (HpAt V lo hi H W X room n f x) := Lib.hid (by rw [hV]; exact h.later (below1 _ _))
  have HMV : Hid (Mv lo hi w V) := Lib.hid (by rw [hV]; exact Mv.of_below (below1 _ _) hlo)
  have HBV : Hid (V.heap[w.heap.size]? = some (.cells #[.pointer (some ⟨H, 0, none⟩)] 122 (0, 0))) := Lib.hid (by rw [hV]; exact heap_alloc_new _ _)
  have KS : Hid (∀ Y, Mv lo hi V Y → Y.cell? ⟨w.heap.size, 0, none⟩ = some (.pointer (some ⟨H, 0, none⟩))) := Lib.hid (fun Y hY => cell_in (hY.block HBV.out hhi) rfl)
  have k0 := KS.out V (Mv.refl V)
  have HG := Lib.hid hG
  have HI := Lib.hid hI
  have HV := Lib.hid hV
  clear hG hI h hV
  go_enter Tryz.func72, Tryz.ntmps72
  go_wp2_with fail
  rw [← HV.out]
  go_region_held3 (fun Y => Y.cell? ⟨w.heap.size, 0, none⟩ = some (.pointer (some ⟨H, 0, none⟩)))
    (first | exact KS.out _ (Mv.refl V).drew | exact KS.out _ hm5 | exact KS.out _ hm4 | fail "no")
    (first
    | (go_at_call 84; have _z := hm4; refine (moveDown_any w.heap.size _ lo hi H W X room n f4 x4 D hh4.out (hm4.block HBV.out hhi) hhi hg4.out ha4 hd4.out).mono ?_; rintro e w5 ⟨f5, x5, a5, rfl, ha5, hh5', hg5', ho5', hm5'⟩; have hm5 : Mv lo hi V w5 := hm4.trans hm5'; have hh5 := Lib.hid hh5'; have hg5 := Lib.hid hg5'; have ho5 := Lib.hid ho5'; clear hh5' hg5' ho5' hm5')
    | (go_at_call 84; refine (moveUp_any w.heap.size _ lo hi H W X room n f x D HHV.out.drew (((Mv.refl (lo := lo) (hi := hi) V).drew).block HBV.out hhi) hhi HG.out ha HI.out).mono ?_; rintro e w4 ⟨f4, x4, a4, rfl, ha4, hh4', hg4', hd4', hm4'⟩; have hm4 : Mv lo hi V w4 := ((Mv.refl V).drew).trans hm4'; have hh4 := Lib.hid hh4'; have hg4 := Lib.hid hg4'; have hd4 := Lib.hid hd4'; clear hh4' hg4' hd4' hm4')
    | fail "no arm")
  go_end0
  exact ⟨f5, x5, rfl, hh5.out, hg5.out, ho5.out, HMV.out.trans hm5⟩
end Go.Proofs.YtnenbgdonkgkfaaGreat
