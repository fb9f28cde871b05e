/- The program's wheel: set, cancelled, made. -/
import Derived.Test.YtbjhoncojegjiaaDoorWheelV
namespace Go.Proofs.YtbjhoncojegjiaaDoor
open Go.ChangeShapes Go.WideShapes Go.ChangeAt Go.RowKit
set_option linter.unusedVariables false

/-- A wheel, as its contracts have it. -/
def WhP (w : World) (H : Nat) (S : Nat → Prop) (now : Int) (x : Nat → Int) : Prop :=
  ∃ (n : Nat) (y : Nat → Int) (sl : Nat → Value) (L : Nat → List Nat), now = n ∧ n ≤ 4611686018427387904 ∧ S = WOwn H sl ∧ WMem w H n (cntV x 256 : Nat) y sl L ∧ WLog n y L ∧ (∀ i, i < 256 → (y i = 0 ∧ x i = -1) ∨ (0 < y i ∧ x i = y i)) ∧ TbOk w ∧ H ≠ 1 ∧ ∀ k, k < 256 → (sl k).ownBlock ≠ some 1
theorem yV_wh {x y : Nat → Int} (h : ∀ i, i < 256 → (y i = 0 ∧ x i = -1) ∨ (0 < y i ∧ x i = y i)) (id : Int) : whA x id = yV y id ∧ whB x id = !(yV y id == 0) := by
  unfold whA whB whV yV
  cases hin : inT id with
  | false => simp
  | true =>
    obtain ⟨i, rfl, hi⟩ := inT_nat hin
    simp only [if_true, Int.toNat_natCast]
    rcases h i hi with ⟨h1, h2⟩ | ⟨h1, h2⟩
    · rw [h1, h2]; simp
    · rw [h2, if_pos (by omega)]
      refine ⟨rfl, ?_⟩
      have : (y i == 0) = false := by simpa using (by omega : y i ≠ 0)
      rw [this]; simp; omega
theorem cntV_congr {x x' : Nat → Int} : ∀ K, (∀ i, i < K → x i = x' i) → cntV x K = cntV x' K
  | 0, _ => rfl
  | K + 1, h => by rw [cntV, cntV, cntV_congr K (fun i hi => h i (by omega)), h K (by omega)]
theorem cntV_on {x : Nat → Int} {i : Nat} {t : Int} (h : x i < 0) (ht : 0 ≤ t) : ∀ K, i < K → cntV (updR x i t) K = cntV x K + 1
  | 0, hi => by omega
  | K + 1, hi => by
    by_cases e : K = i
    · subst e
      rw [cntV, cntV, updR_at, if_pos ht, if_neg (by omega), cntV_congr (x := updR x K t) (x' := x) K (fun j hj => updR_ne _ _ (by omega))]
    · rw [cntV, cntV, updR_ne _ _ e, cntV_on h ht K (by omega)]; omega
theorem cntV_off {x : Nat → Int} {i : Nat} (h : 0 ≤ x i) : ∀ K, i < K → cntV (updR x i (-1)) K + 1 = cntV x K
  | 0, hi => by omega
  | K + 1, hi => by
    by_cases e : K = i
    · subst e
      rw [cntV, cntV, updR_at, if_neg (by omega), if_pos h, cntV_congr (x := updR x K (-1)) (x' := x) K (fun j hj => updR_ne _ _ (by omega))]
    · have := cntV_off h K (by omega)
      rw [cntV, cntV, updR_ne _ _ e]; omega
theorem cntV_go {x : Nat → Int} {t : Int} (ht : 0 ≤ t) : ∀ K, K ≤ 256 → cntV (goX x t 256) K + (goL x t K).length = cntV x K
  | 0, _ => rfl
  | K + 1, hK => by
    have ih := cntV_go ht K (by omega) (x := x)
    by_cases e : x K = t
    · have h1 : goX x t 256 K = -1 := by unfold goX; rw [if_pos ⟨by omega, e⟩]
      rw [cntV, cntV, goL_yes e, h1, if_neg (by omega), e, if_pos ht, List.length_append]
      simp; omega
    · have h1 : goX x t 256 K = x K := by unfold goX; rw [if_neg (fun h => e h.2)]
      rw [cntV, cntV, goL_no e, h1]; omega
theorem WhP.later {w w' : World} {H : Nat} {S : Nat → Prop} {now : Int} {x : Nat → Int} (h : WhP w H S now x) (hs : ∀ k, S k → w'.heap[k]? = w.heap[k]?) (hT : TbOk w') : WhP w' H S now x := by
  obtain ⟨n, y, sl, L, h1, h2, rfl, h4, h5, h6, h7, h8, h9⟩ := h
  exact ⟨n, y, sl, L, h1, h2, rfl, h4.same hs, h5, h6, hT, h8, h9⟩
theorem tb_grow {w w' : World} {H : Nat} {sl : Nat → Value} {S' : Nat → Prop} (hT : TbOk w) (h8 : H ≠ 1) (h9 : ∀ k, k < 256 → (sl k).ownBlock ≠ some 1) (g : GrowS (WOwn H sl) S' w w') : TbOk w' := hT.same (g.block _ hT.lt (fun hw => by
  rcases hw with e | ⟨k, hk, e⟩
  · exact h8 e.symm
  · exact h9 k hk e))
theorem tb_own {w w' : World} {H : Nat} {sl sl' : Nat → Value} (hT : TbOk w) (h8 : H ≠ 1) (h9 : ∀ k, k < 256 → (sl k).ownBlock ≠ some 1) (g : GrowS (WOwn H sl) (WOwn H sl') w w') : ∀ k, k < 256 → (sl' k).ownBlock ≠ some 1 := fun k hk e => by
  have := g.not (A := 1) hT.lt (fun hw => by
    rcases hw with e | ⟨k, hk, e⟩
    · exact h8 e.symm
    · exact h9 k hk e)
  exact this (.inr ⟨k, hk, e⟩)
set_option maxRecDepth 100000 in
set_option maxHeartbeats 2000000 in
/-- One is set no more. -/
theorem cancelW_any (w : World) (H : Nat) (S : Nat → Prop) (now : Int) (x : Nat → Int) (id : Int) (h : WhP w H S now x) :
    Calls Tryd.prog 13 #[.pointer (some ⟨H, 0, none⟩), .int .i64 id] w fun e w' => ∃ S', e = .returned (.bool (whB x id)) ∧ WhP w' H S' now (canX x id) ∧ GrowS S S' w w' := by
  obtain ⟨n, y, sl, L, rfl, h2, rfl, hm, hl, hx, hT, h8, h9⟩ := h
  obtain ⟨hA, hB⟩ := yV_wh hx id
  have HWH := Lib.hid (whenW_any hm.c id)
  by_cases h0 : yV y id = 0
  · have hb : (yV y id == 0) = true := by simpa using h0
    rw [h0] at HWH
    have hcx : canX x id = x := by
      unfold canX
      rw [if_neg (fun h => by
        have : whB x id = true := decide_eq_true h
        rw [hB, hb] at this
        cases this)]
    rw [hB, hb, hcx]
    have HR : Hid (WhP w H (WOwn H sl) (n : Int) x) := Lib.hid ⟨n, y, sl, L, rfl, h2, rfl, hm, hl, hx, hT, h8, h9⟩
    clear h2 hm hl hx hT h8 h9 hA hB hb h0 hcx
    go_enter Tryd.func13, Tryd.ntmps13
    go_wp2_with (go_at_call 18; refine HWH.out.mono ?_; rintro e w3 ⟨rfl, hw3⟩; rw [hw3]; clear hw3)
    go_ret
    exact ⟨_, rfl, HR.out, GrowS.of_below (Below.refl _ _)⟩
  · have hb : (yV y id == 0) = false := by simpa using h0
    have hin : inT id = true := by
      cases hi : inT id with
      | true => rfl
      | false => exact absurd (by simp [yV, hi]) h0
    obtain ⟨i, rfl, hi⟩ := inT_nat hin
    have hyi : yV y (i : Int) = y i := by simp [yV, hin]
    rw [hyi] at HWH hb h0
    rw [hB, hyi, hb]
    obtain ⟨t, ht, ht1, ht2⟩ : ∃ t : Nat, y i = t ∧ n < t ∧ t ≤ 4611686018427387904 := (hl.rng i hi).resolve_left h0
    have hk : slotK n t < 256 := slotK_lt (by omega) (by omega)
    obtain ⟨l1, l2, hL, hno, hl2⟩ := hl.cancel hi ht ht1 hk
    have hll := hl.len hk
    have hxi : x i = t := by rcases hx i hi with ⟨h3, _⟩ | ⟨_, h3⟩ <;> omega
    have hcx : canX x (i : Int) = updR x i (-1) := by
      unfold canX
      have : whV x (i : Int) = x i := by simp [whV, hin]
      rw [this, if_pos (by omega)]; simp
    rw [hcx]
    obtain ⟨W1, hW1⟩ : ∃ W1, W1 = w.setCell ⟨H, 3 + i, none⟩ (.int .i64 0) := ⟨_, rfl⟩
    have hm1 : WMem W1 H n (cntV x 256 : Nat) (updR y i 0) sl L := by rw [hW1]; exact hm.set_tick hi 0
    have hg1 : GrowS (WOwn H sl) (WOwn H sl) w W1 := by rw [hW1]; exact grow_set hm _ _
    have HSL : Hid (∀ X, Calls Tryd.prog 24 #[.pointer (some ⟨H, 259, none⟩), .int .i64 n, .int .i64 t] X fun e w' => e = .returned (.pointer (some ⟨H, 259 + slotK n t, none⟩)) ∧ Below X.heap.size X w') := Lib.hid (fun X => (slot_any X H n t (by omega) (by omega) (by omega)).mono (by rintro e w' ⟨rfl, q, rfl⟩; exact ⟨rfl, below_drewN X q⟩))
    have HRM : Hid (∀ X, Below W1.heap.size W1 X → Calls Tryd.prog 26 #[.pointer (some ⟨H, 259 + slotK n t, none⟩), .int .i64 i] X fun e w' => ∃ v, e = .returned (.tuple #[]) ∧ WMem w' H n (cntV x 256 : Nat) (updR y i 0) (updR sl (slotK n t) v) (updR L (slotK n t) (l1 ++ l2)) ∧ GrowS (WOwn H sl) (WOwn H (updR sl (slotK n t) v)) w w') := Lib.hid (fun X hX => (remove_any (hm1.later hX) (slotK n t) hk l1 l2 i hL hno (by omega)).mono (by
      rintro e w' ⟨v, rfl, h3, h4⟩
      exact ⟨v, rfl, h3, (hg1.trans (GrowS.of_below hX)).trans h4⟩))
    have KS : Hid (∀ X, Below W1.heap.size W1 X → X.cell? ⟨H, 1, none⟩ = some (.int .i64 n)) := Lib.hid (fun X hX => (hm1.later hX).c.now_.1)
    obtain ⟨cn, hcn⟩ : ∃ cn : Nat, cn = cntV x 256 := ⟨_, rfl⟩
    have hoff := cntV_off (x := x) (i := i) (by omega) 256 hi
    have hcle := cntV_le x 256
    have HEND : Hid (∀ (W4 : World) (v : Value), WMem W4 H n ((cn : Int) - 1) (updR y i 0) (updR sl (slotK n t) v) (updR L (slotK n t) (l1 ++ l2)) → GrowS (WOwn H sl) (WOwn H (updR sl (slotK n t) v)) w W4 → ∃ S', WhP W4 H S' (n : Int) (updR x i (-1)) ∧ GrowS (WOwn H sl) S' w W4) := Lib.hid (fun W4 v h3 h4 => by
      refine ⟨_, ⟨n, _, _, _, rfl, h2, rfl, ?_, hl2, fun j hj => ?_, tb_grow hT h8 h9 h4, h8, tb_own hT h8 h9 h4⟩, h4⟩
      · rw [show ((cntV (updR x i (-1)) 256 : Nat) : Int) = (cn : Int) - 1 by omega]; exact h3
      · by_cases e : j = i
        · subst e; rw [updR_at, updR_at]; exact .inl ⟨rfl, rfl⟩
        · rw [updR_ne _ _ e, updR_ne _ _ e]; exact hx j hj)
    obtain ⟨c0, c1⟩ := hm.c.tick hi
    have i0 : (0 : Int) ≤ (i : Int) := by omega
    have i1 : (i : Int) < 256 := by omega
    have i2 : i < 256 := hi
    have cn1 : 1 ≤ cn := by omega
    have cn2 : cn ≤ 256 := by omega
    rw [← hcn] at HRM
    have HW1 := Lib.hid hW1
    have hz : (!((y i == 0) : Bool)) = true := by rw [hb]; rfl
    rw [hz] at HWH
    rw [ht] at HWH c0
    clear h2 hm hl hx hT h8 h9 hA hB hb h0 hcx hin hyi ht ht1 ht2 hk hL hno hl2 hll hxi hW1 hm1 hg1 hoff hcle hcn hz
    go_enter Tryd.func13, Tryd.ntmps13
    go_upto_region 4 with (go_at_call 18; refine HWH.out.mono ?_; rintro e w3 ⟨rfl, hw3⟩; rw [hw3]; clear hw3)
    rw [← HW1.out]
    clear c0 c1
    go_region_held3 (fun X => X.cell? ⟨H, 1, none⟩ = some (.int .i64 n))
      (first | exact KS.out _ (Below.refl _ _).drew | exact KS.out _ hb4 | exact hq5 | fail "no")
      (first
        | (go_at_call 26; have _z := hb4; refine (HRM.out _ hb4).mono ?_; rintro e w5 ⟨v5, rfl, hm5, hg5⟩; have hq5 := hm5.c.now_.1; obtain ⟨q6, q7⟩ := hm5.c.len_; have HM5 := Lib.hid hm5; have HG5 := Lib.hid hg5; clear hm5 hg5)
        | (go_at_call 24; refine (HSL.out _).mono ?_; rintro e w4 ⟨rfl, hb4'⟩; have hb4 : Below W1.heap.size W1 w4 := (Below.refl _ _).drew.trans hb4')
        | fail "no arm")
    go_wp2_with fail
    go_ret
    obtain ⟨S', r1, r2⟩ := HEND.out _ v5 (HM5.out.set_len ((cn : Int) - 1)) (HG5.out.trans (grow_set HM5.out _ _))
    exact ⟨S', rfl, r1, r2⟩
end Go.Proofs.YtbjhoncojegjiaaDoor
