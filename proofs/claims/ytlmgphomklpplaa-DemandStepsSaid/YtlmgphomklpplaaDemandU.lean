/- What a task and a server add to where demand rises. -/
import Derived.Test.YtlmgphomklpplaaDemandT
namespace Go.Proofs.Ytlmgphomklpplaa
open Go.ChangeShapes Go.WideShapes Go.ChangeAt Go.RowKit
set_option linter.unusedVariables false

/-- The places from a to b of period P, too; those below c so far. -/
def addA (again : Nat → Nat → Bool) (P : Nat) (a b : Int) : Nat → Nat → Bool := fun q i => again q i || (decide (q = P) && (decide (a ≤ (i : Int)) && decide ((i : Int) ≤ b)))
def addTo (again : Nat → Nat → Bool) (P : Nat) (a c : Int) : Nat → Nat → Bool := fun q i => again q i || (decide (q = P) && (decide (a ≤ (i : Int)) && decide ((i : Int) < c)))
theorem addTo_start (again : Nat → Nat → Bool) (P : Nat) (a : Int) : addTo again P a a = again := by
  funext q i
  unfold addTo
  by_cases h : a ≤ (i : Int)
  · simp [show ¬ (i : Int) < a by omega]
  · simp [h]
theorem addTo_end (again : Nat → Nat → Bool) (P : Nat) {a b c : Int} (h1 : c ≤ b + 1 ∨ c = a) (h2 : b < c) : addTo again P a c = addA again P a b := by
  funext q i
  unfold addTo addA
  congr 1
  congr 1
  rw [Bool.eq_iff_iff]
  simp
  omega
theorem addTo_next (again : Nat → Nat → Bool) (P : Nat) {a : Int} {j : Nat} (h : a ≤ (j : Int)) : (fun q i => if q = P ∧ i = j then true else addTo again P a j q i) = addTo again P a ((j : Int) + 1) := by
  funext q i
  unfold addTo
  by_cases hq : q = P
  · by_cases hi : i = j
    · subst hi; simp [hq, h]; omega
    · have : decide ((i : Int) < (j : Int)) = decide ((i : Int) < (j : Int) + 1) := by rw [Bool.eq_iff_iff]; simp; omega
      simp only [hq, hi, and_false, if_false, this]
  · simp [hq]
set_option maxRecDepth 100000 in
set_option maxHeartbeats 4000000 in
theorem add_rises {w : World} {lo G O A : Nat} {once : Nat → Bool} {again : Nat → Nat → Bool} {rows : Nat → Option Nat} (h : Rises w lo G O A once again rows) (hlo : lo ≤ w.heap.size) (P : Nat) (a b : Int) (hP : 1 ≤ P) (hP2 : P ≤ 1000) (ha : 0 ≤ a) (ha2 : a ≤ P + 2) (hb : b ≤ P + 1) :
    Calls Try.prog 34 #[.pointer (some ⟨G, 0, none⟩), .int .i64 P, .int .i64 a, .int .i64 b] w fun e w' => e = .returned (.tuple #[]) ∧ (∃ rows', Rises w' lo G O A once (addA again P a b) rows') ∧ Below lo w w' := by
  obtain ⟨i0, hi0, hz0, hz1, hz2⟩ := info_parts Try.infoBool
  obtain ⟨w2, hrun, hown, hgrow⟩ := run_make_full (P := Try.prog) (w := w.drew) w.drew.heap.size 59 4 i0 _ 1 Try.underlying59 hi0 hz0 hz1 .i64 .i64 (P + 2) (by rw [hz2]; omega) (by simp [maxLen]; omega) (Nat.le_refl _)
  have HH := Lib.hid h
  have y0 : w.cell? ⟨G, 1, none⟩ = some (.slice (some ⟨A, 0, none⟩) 1001 1001) := cell_in h.box rfl
  have y1 := (h.a.cell (rowsL_at (p := P) (by omega))).1
  have hs : w.drew.heap.size = w.heap.size := rfl
  have l3 : (0 : Int) ≤ (P : Int) := by omega
  have l4 : (P : Int) < 1001 := by omega
  have s1 : IntKind.i64.wrap ((P : Int) + 2) = ((P + 2 : Nat) : Int) := by rw [IntWalk.i64_in _ (by omega)]; omega
  cases hr : rows P with
  | none =>
    have hbl : Below w.heap.size w w2 := (Below.refl w.heap.size w).drew.trans ⟨hgrow.os, hgrow.tape, hgrow.output, hgrow.size, fun k hk => hgrow.block k (by rw [hs]; exact hk) (by simp)⟩
    have hB : CellsAt w2 w.heap.size 4 (bools (fun _ => false) (P + 2)) := by
      have := CellsAt.of_own hown (by rw [Array.length_toList, size_madeCells])
      rwa [made_cells _ rfl, Nat.mul_one, bools_none] at this
    obtain ⟨BB, hBB⟩ : ∃ BB, BB = w.heap.size := ⟨_, rfl⟩
    obtain ⟨rs, hrows, hrP⟩ : ∃ rs, Rises (w2.setCell ⟨A, P, none⟩ (.slice (some ⟨BB, 0, none⟩) (P + 2) (P + 2))) lo G O A once again rs ∧ rs P = some BB := ⟨_, h.newRow (show P < 1001 by omega) hr hlo hbl hBB (by rw [hBB]; exact hB), by simp⟩
    have HR := Lib.hid hrows
    have HBL := Lib.hid ((hbl.mono hlo).setCell (p := ⟨A, P, none⟩) h.loA (.slice (some ⟨BB, 0, none⟩) (P + 2) (P + 2)))
    have HROW := Lib.hid hrP
    have HG2 : Hid (w2.cell? ⟨G, 1, none⟩ = some (.slice (some ⟨A, 0, none⟩) 1001 1001)) := Lib.hid (cell_in (h.later hbl).box rfl)
    have HG3 : Hid ((w2.setCell ⟨A, P, none⟩ (.slice (some ⟨BB, 0, none⟩) (P + 2) (P + 2))).cell? ⟨G, 1, none⟩ = some (.slice (some ⟨A, 0, none⟩) 1001 1001)) := Lib.hid (cell_in hrows.box rfl)
    have y2 := ((h.later hbl).a.cell (rowsL_at (p := P) (by omega))).1
    have y3 := ((h.later hbl).a.cell (rowsL_at (p := P) (by omega))).2
    rw [hs, ← hBB, show ((P + 2 : Nat) : Int) = (P : Int) + 2 by omega] at hrun
    unfold rowV at y1 y2
    rw [hr] at y1 y2
    clear h hrows hrP hB hown hgrow hbl hi0 hz0 hz1 hz2 hs hBB hr
    have eq1 : ∀ W : World, (binOp .eql 59 (.slice none 0 0) (.slice none 0 0)).run Try.prog W = .ok (.bool true) W := fun W => by rfl
    go_enter Try.func34, Try.ntmps34
    go_wp2_with fail
    refine wp_region_held_drew (S := fun W => W.cell? ⟨G, 1, none⟩ = some (.slice (some ⟨A, 0, none⟩) 1001 1001)) (by kernel_rfl) ?_ (fun hHeld => ?_)
    · exact y0
    refine wpAnyH_takeE (i := 0) (d := some 17) (v := ?_) rfl rfl (by kernel_rfl) (by kernel_rfl) (by kernel_rfl) (fun _ _ _ h => h) (Or.inl ⟨by rfl, ?_⟩) (by assumption) ?_
    rotate_left
    · intro w hSw
      (try dsimp only at hSw)
      go_simp
      try (with_reducible rfl)
    simp only [Act.put, List.setIfInBounds_toArray, List.set_cons_zero, List.set_cons_succ]
    refine wpAnyH_takeE (i := 1) (d := some 18) (v := ?_) rfl rfl (by kernel_rfl) (by kernel_rfl) (by kernel_rfl) (fun _ _ _ h => h) (Or.inl ⟨by rfl, ?_⟩) (by assumption) ?_
    rotate_left
    · intro w hSw
      (try dsimp only at hSw)
      go_simp
      try (with_reducible rfl)
    simp only [Act.put, List.setIfInBounds_toArray, List.set_cons_zero, List.set_cons_succ]
    refine wpAnyH_takeE (i := 2) (d := some 19) (v := ?_) rfl rfl (by kernel_rfl) (by kernel_rfl) (by kernel_rfl) (fun _ _ _ h => h) (Or.inl ⟨by rfl, ?_⟩) (by assumption) ?_
    rotate_left
    · intro w hSw
      (try dsimp only at hSw)
      go_simp
      try (with_reducible rfl)
    simp only [Act.put, List.setIfInBounds_toArray, List.set_cons_zero, List.set_cons_succ]
    refine wpAnyH_takeE (i := 3) (d := some 20) (v := ?_) rfl rfl (by kernel_rfl) (by kernel_rfl) (by kernel_rfl) (fun _ _ _ h => h) (Or.inl ⟨by rfl, ?_⟩) (by assumption) ?_
    rotate_left
    · intro w hSw
      (try dsimp only at hSw)
      go_simp
      try (with_reducible rfl)
    simp only [Act.put, List.setIfInBounds_toArray, List.set_cons_zero, List.set_cons_succ]
    refine wpAnyH_takeE (i := 4) (d := some 21) (v := ?_) rfl rfl (by kernel_rfl) (by kernel_rfl) (by kernel_rfl) (fun _ _ _ h => h) (Or.inl ⟨by rfl, ?_⟩) (by assumption) ?_
    rotate_left
    · intro w hSw
      (try dsimp only at hSw)
      go_simp
      try (with_reducible rfl)
    simp only [Act.put, List.setIfInBounds_toArray, List.set_cons_zero, List.set_cons_succ]
    refine wpAnyH_takeE (i := 5) (d := some 22) (v := ?_) rfl rfl (by kernel_rfl) (by kernel_rfl) (by kernel_rfl) (fun _ _ _ h => h) (Or.inl ⟨by rfl, ?_⟩) (by assumption) ?_
    rotate_left
    · intro w hSw
      (try dsimp only at hSw)
      go_simp
      try (with_reducible rfl)
    simp only [Act.put, List.setIfInBounds_toArray, List.set_cons_zero, List.set_cons_succ]
    refine wpAnyH_takeE (i := 6) (d := some 23) (v := ?_) rfl rfl (by kernel_rfl) (by kernel_rfl) (by kernel_rfl) (fun _ _ _ h => h) (Or.inl ⟨by rfl, ?_⟩) (by assumption) ?_
    rotate_left
    · intro w hSw
      (try dsimp only at hSw)
      go_simp
      try (with_reducible rfl)
    simp only [Act.put, List.setIfInBounds_toArray, List.set_cons_zero, List.set_cons_succ]
    refine wpAnyH_ready (rs := [7]) (by kernel_rfl) (by simp) ?_
    refine AllReadyH.cons rfl (fun K hK => ?_) AllReadyH.nil
    go_simp
    refine hK.out _ _ ?_ (fun hHeld => ?_)
    · exact HG2.out
    clear hK K
    try simp only [Act.put, List.setIfInBounds_toArray, List.set_cons_zero, List.set_cons_succ]
    refine wpAnyH_takeE (i := 8) (d := some 25) (v := ?_) rfl rfl (by kernel_rfl) (by kernel_rfl) (by kernel_rfl) (fun _ _ _ h => h) (Or.inl ⟨by rfl, ?_⟩) (by assumption) ?_
    rotate_left
    · intro w hSw
      (try dsimp only at hSw)
      go_simp
      try (with_reducible rfl)
    simp only [Act.put, List.setIfInBounds_toArray, List.set_cons_zero, List.set_cons_succ]
    refine wpAnyH_ready (rs := [9]) (by kernel_rfl) (by simp) ?_
    refine AllReadyH.cons rfl (fun K hK => ?_) AllReadyH.nil
    go_simp
    refine hK.out _ _ ?_ (fun hHeld => ?_)
    · exact HG3.out
    clear hK K
    try simp only [Act.put, List.setIfInBounds_toArray, List.set_cons_zero, List.set_cons_succ]
    refine wpAnyH_done (by kernel_rfl) ?_ _
    clear y0 y1 y2 y3 hrun s1 eq1
    go_wp2_with fail
    go_loopw [8] (fun s wr => ∃ c : Int, s = .int .i64 c ∧ a ≤ c ∧ c ≤ P + 2 ∧ (c ≤ b + 1 ∨ c = a) ∧ Hid (Rises wr lo G O A once (addTo again P a c) rs) ∧ Below lo w wr) (fun s _ => (P + 3 - intOf s).toNat)
    case atStart => exact ⟨a, rfl, by omega, by omega, .inr rfl, by rw [addTo_start]; exact HR, HBL.out⟩
    case round =>
      clear HR HBL
      obtain ⟨c, rfl, hc0, hc1, hc2, HR, hb⟩ := hrel
      have y0 : wr.cell? ⟨G, 1, none⟩ = some (.slice (some ⟨A, 0, none⟩) 1001 1001) := cell_in HR.out.box rfl
      have y1 : wr.cell? ⟨A, P, none⟩ = some (.slice (some ⟨BB, 0, none⟩) (P + 2) (P + 2)) := by
        have := (HR.out.a.cell (rowsL_at (p := P) (by omega))).1
        rw [this]
        unfold rowV
        rw [HROW.out]
      by_cases hlt : c ≤ b
      · have tk : decide (c ≤ b) = true := by simpa using hlt
        obtain ⟨j, rfl⟩ := Int.eq_ofNat_of_zero_le (show 0 ≤ c by omega)
        obtain ⟨_, _, _, _, h5⟩ := HR.out.r P BB (by omega) HROW.out
        obtain ⟨y2, y3⟩ := h5.cell (bools_at (f := addTo again P a j P) (show j < P + 2 by omega))
        have HFIN := Lib.hid (show Rises (wr.setCell ⟨BB, j, none⟩ (.bool true)) lo G O A once (addTo again P a ((j : Int) + 1)) rs ∧ Below lo w (wr.setCell ⟨BB, j, none⟩ (.bool true)) from by
          have h1 := HR.out.mark (j := j) (show P < 1001 by omega) HROW.out
          rw [addTo_next again P hc0] at h1
          exact ⟨h1, hb.setCell (p := ⟨BB, j, none⟩) (HR.out.r P BB (by omega) HROW.out).1 _⟩)
        clear h5
        have l0 : (0 : Int) ≤ (j : Int) := by omega
        have l1 : (j : Int) < ((P + 2 : Nat) : Int) := by omega
        have l2 : (j : Int) < (P : Int) + 2 := by omega
        have l3 : (0 : Int) ≤ (P : Int) := by omega
        have l4 : (P : Int) < 1001 := by omega
        go_wp2_with fail
        go_roundw
        case rel => exact ⟨(j : Int) + 1, rfl, by omega, by omega, by omega, Lib.hid HFIN.out.1, HFIN.out.2⟩
        case measure => simp [intOf]; omega
      · have tk : decide (c ≤ b) = false := by simp; omega
        have HF := Lib.hid (show Rises wr lo G O A once (addA again P a b) rs from by
          have h1 := HR.out
          rwa [addTo_end again P hc2 (by omega)] at h1)
        go_wp2_with fail
        go_end0
        exact ⟨rfl, ⟨_, HF.out⟩, hb⟩
  | some BB =>
    have HR := HH
    have HBL := Lib.hid (Below.refl lo w)
    have HROW := Lib.hid hr
    unfold rowV at y1
    rw [hr] at y1
    clear h hrun hown hgrow hi0 hz0 hz1 hz2 hs hr
    have eq1 : ∀ W : World, (binOp .eql 59 (.slice (some ⟨BB, 0, none⟩) (P + 2) (P + 2)) (.slice none 0 0)).run Try.prog W = .ok (.bool false) W := fun W => by rfl
    go_enter Try.func34, Try.ntmps34
    go_wp2_with fail
    clear y0 y1 s1 eq1
    go_loopw [8] (fun s wr => ∃ c : Int, s = .int .i64 c ∧ a ≤ c ∧ c ≤ P + 2 ∧ (c ≤ b + 1 ∨ c = a) ∧ Hid (Rises wr lo G O A once (addTo again P a c) rows) ∧ Below lo w wr) (fun s _ => (P + 3 - intOf s).toNat)
    case atStart => exact ⟨a, rfl, by omega, by omega, .inr rfl, by rw [addTo_start]; exact HR, HBL.out⟩
    case round =>
      clear HR HBL
      obtain ⟨c, rfl, hc0, hc1, hc2, HR, hb⟩ := hrel
      have y0 : wr.cell? ⟨G, 1, none⟩ = some (.slice (some ⟨A, 0, none⟩) 1001 1001) := cell_in HR.out.box rfl
      have y1 : wr.cell? ⟨A, P, none⟩ = some (.slice (some ⟨BB, 0, none⟩) (P + 2) (P + 2)) := by
        have := (HR.out.a.cell (rowsL_at (p := P) (by omega))).1
        rw [this]
        unfold rowV
        rw [HROW.out]
      by_cases hlt : c ≤ b
      · have tk : decide (c ≤ b) = true := by simpa using hlt
        obtain ⟨j, rfl⟩ := Int.eq_ofNat_of_zero_le (show 0 ≤ c by omega)
        obtain ⟨_, _, _, _, h5⟩ := HR.out.r P BB (by omega) HROW.out
        obtain ⟨y2, y3⟩ := h5.cell (bools_at (f := addTo again P a j P) (show j < P + 2 by omega))
        have HFIN := Lib.hid (show Rises (wr.setCell ⟨BB, j, none⟩ (.bool true)) lo G O A once (addTo again P a ((j : Int) + 1)) rows ∧ Below lo w (wr.setCell ⟨BB, j, none⟩ (.bool true)) from by
          have h1 := HR.out.mark (j := j) (show P < 1001 by omega) HROW.out
          rw [addTo_next again P hc0] at h1
          exact ⟨h1, hb.setCell (p := ⟨BB, j, none⟩) (HR.out.r P BB (by omega) HROW.out).1 _⟩)
        clear h5
        have l0 : (0 : Int) ≤ (j : Int) := by omega
        have l1 : (j : Int) < ((P + 2 : Nat) : Int) := by omega
        have l2 : (j : Int) < (P : Int) + 2 := by omega
        have l3 : (0 : Int) ≤ (P : Int) := by omega
        have l4 : (P : Int) < 1001 := by omega
        go_wp2_with fail
        go_roundw
        case rel => exact ⟨(j : Int) + 1, rfl, by omega, by omega, by omega, Lib.hid HFIN.out.1, HFIN.out.2⟩
        case measure => simp [intOf]; omega
      · have tk : decide (c ≤ b) = false := by simp; omega
        have HF := Lib.hid (show Rises wr lo G O A once (addA again P a b) rows from by
          have h1 := HR.out
          rwa [addTo_end again P hc2 (by omega)] at h1)
        go_wp2_with fail
        go_end0
        exact ⟨rfl, ⟨_, HF.out⟩, hb⟩
end Go.Proofs.Ytlmgphomklpplaa
