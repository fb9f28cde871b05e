/- What a task and a server add; where a partition's demand rises, in memory. -/
import Derived.Test.YtlmgphomklpplaaDemandU
import Derived.Deep.CutRange
namespace Go.Proofs.Ytlmgphomklpplaa
open Go.ChangeShapes Go.WideShapes Go.ChangeAt Go.RowKit
set_option linter.unusedVariables false

theorem add_task (again : Nat → Nat → Bool) {k : Tk} {high : Bool} (hc : countsB k high = true) {P : Nat} (hP : k.t = P) : addA again P (fromT k high) (toT k high) = fun q i => again q i || mTk high k q i := by
  funext q i
  unfold addA mTk
  rw [hc, hP]
  congr 1
  rw [Bool.eq_iff_iff]
  simp
  omega
theorem add_server (again : Nat → Nat → Bool) {s : Sv} (hc : okSv s = true) {P : Nat} (hP : s.t = P) : addA again P (firstS s) (firstS s) = fun q i => again q i || mSv false s q i := by
  funext q i
  unfold addA mSv
  rw [hc, hP]
  congr 1
  rw [Bool.eq_iff_iff]
  simp
  omega
set_option maxRecDepth 100000 in
set_option maxHeartbeats 2000000 in
theorem addTask_any {w : World} {lo G O A : Nat} {once : Nat → Bool} {again : Nat → Nat → Bool} {rows : Nat → Option Nat} (h : Rises w lo G O A once again rows) (hlo : lo ≤ w.heap.size) (b : Bool) (t d v lo' top : Int) (high : Bool) (hc : countsB ⟨b, t, d, v, lo', top⟩ high = true) :
    Calls Try.prog 32 #[.pointer (some ⟨G, 0, none⟩), .agg #[.bool b, .int .i64 t, .int .i64 d, .int .i64 v, .int .i64 lo', .int .i64 top], .bool high] w fun e w' => e = .returned (.tuple #[]) ∧ (∃ rows', Rises w' lo G O A once (fun q i => again q i || mTk high ⟨b, t, d, v, lo', top⟩ q i) rows') ∧ Below lo w w' := by
  have hok : okTk ⟨b, t, d, v, lo', top⟩ = true := by unfold countsB at hc; simp at hc; exact hc.1
  obtain ⟨a1, a2, a3, a4, a5, a6, a7, a8⟩ := okTk_t hok
  simp only at a1 a2 a3 a4 a5 a6 a7
  obtain ⟨P, rfl⟩ := Int.eq_ofNat_of_zero_le (show 0 ≤ t by omega)
  have hA := add_task again hc rfl
  rw [← hA]
  have hP : 1 ≤ P := by omega
  have hP2 : P ≤ 1000 := by omega
  have HR0 := Lib.hid (h.later (below1 w (.cells #[.bool b, .int .i64 P, .int .i64 d, .int .i64 v, .int .i64 lo', .int .i64 top] 27)))
  have HLO : Hid (lo ≤ (w.alloc (.cells #[.bool b, .int .i64 P, .int .i64 d, .int .i64 v, .int .i64 lo', .int .i64 top] 27)).heap.size) := Lib.hid (by simp; omega)
  have B1 := Lib.hid ((below1 w (.cells #[.bool b, .int .i64 P, .int .i64 d, .int .i64 v, .int .i64 lo', .int .i64 top] 27)).mono hlo)
  clear h hA hok a8
  cases high with
  | false =>
    have HF : Hid (fromT ⟨b, P, d, v, lo', top⟩ false = v ∧ toT ⟨b, P, d, v, lo', top⟩ false = v) := Lib.hid ⟨rfl, rfl⟩
    clear hc
    go_enter Try.func32, Try.ntmps32
    go_wp2_with (first | (go_at_call 34; refine (add_rises HR0.out HLO.out P _ _ hP hP2 (by omega) (by omega) (by omega)).mono ?_; rintro e w1 ⟨rfl, ⟨rows2, hr1⟩, hb1⟩))
    refine bodyPost_ret (results_none rfl _ _ _) rfl ?_
    rw [HF.out.1, HF.out.2]
    exact ⟨rfl, ⟨_, hr1⟩, B1.out.trans hb1⟩
  | true =>
    by_cases htop : top = lo'
    · have HF : Hid (fromT ⟨b, P, d, v, lo', top⟩ true = d - v + 1 ∧ toT ⟨b, P, d, v, lo', top⟩ true = d - v + lo') := Lib.hid ⟨by unfold fromT; simp [htop], rfl⟩
      have t1 : (top == lo') = true := by simpa using htop
      clear hc htop
      go_enter Try.func32, Try.ntmps32
      go_wp2_with (first | (go_at_call 34; refine (add_rises HR0.out HLO.out P _ _ hP hP2 (by omega) (by omega) (by omega)).mono ?_; rintro e w1 ⟨rfl, ⟨rows2, hr1⟩, hb1⟩))
      go_end0
      rw [HF.out.1, HF.out.2]
      exact ⟨rfl, ⟨_, hr1⟩, B1.out.trans hb1⟩
    · have HF : Hid (fromT ⟨b, P, d, v, lo', top⟩ true = d - v ∧ toT ⟨b, P, d, v, lo', top⟩ true = d - v + lo') := Lib.hid ⟨by unfold fromT; simp [htop], rfl⟩
      have t1 : (top == lo') = false := by simpa using htop
      clear hc
      go_enter Try.func32, Try.ntmps32
      go_wp2_with (first | (go_at_call 34; refine (add_rises HR0.out HLO.out P _ _ hP hP2 (by omega) (by omega) (by omega)).mono ?_; rintro e w1 ⟨rfl, ⟨rows2, hr1⟩, hb1⟩))
      go_end0
      rw [HF.out.1, HF.out.2]
      exact ⟨rfl, ⟨_, hr1⟩, B1.out.trans hb1⟩
set_option maxRecDepth 100000 in
set_option maxHeartbeats 2000000 in
theorem addServer_any {w : World} {lo G O A : Nat} {once : Nat → Bool} {again : Nat → Nat → Bool} {rows : Nat → Option Nat} (h : Rises w lo G O A once again rows) (hlo : lo ≤ w.heap.size) (re : Bool) (c t : Int) (hc : okSv ⟨re, c, t⟩ = true) :
    Calls Try.prog 33 #[.pointer (some ⟨G, 0, none⟩), .agg #[.bool re, .int .i64 c, .int .i64 t]] w fun e w' => e = .returned (.tuple #[]) ∧ (∃ rows', Rises w' lo G O A (fun i => once i || oSv false ⟨re, c, t⟩ i) (fun q i => again q i || mSv false ⟨re, c, t⟩ q i) rows') ∧ Below lo w w' := by
  obtain ⟨a1, a2, a3⟩ := okSv_t hc
  simp only at a1 a2 a3
  obtain ⟨P, rfl⟩ := Int.eq_ofNat_of_zero_le (show 0 ≤ t by omega)
  have hA := add_server again hc rfl
  rw [← hA]
  have hP : 1 ≤ P := by omega
  have hP2 : P ≤ 1000 := by omega
  have h0 := h.later (below1 w (.cells #[.bool re, .int .i64 c, .int .i64 P] 30))
  have B1 := Lib.hid ((below1 w (.cells #[.bool re, .int .i64 c, .int .i64 P] 30)).mono hlo)
  cases re with
  | false =>
    have HF : Hid (firstS ⟨false, c, P⟩ = P) := Lib.hid rfl
    have HO : Hid ((fun i => once i || oSv false ⟨false, c, P⟩ i) = once) := Lib.hid (by funext i; unfold oSv; simp)
    have HR0 := Lib.hid h0
    have HLO : Hid (lo ≤ (w.alloc (.cells #[.bool false, .int .i64 c, .int .i64 P] 30)).heap.size) := Lib.hid (by simp; omega)
    clear h hA h0 hc
    go_enter Try.func33, Try.ntmps33
    go_wp2_with (first | (go_at_call 34; refine (add_rises HR0.out HLO.out P _ _ hP hP2 (by omega) (by omega) (by omega)).mono ?_; rintro e w1 ⟨rfl, ⟨rows2, hr1⟩, hb1⟩))
    refine bodyPost_ret (results_none rfl _ _ _) rfl ?_
    rw [HF.out, HO.out]
    exact ⟨rfl, ⟨_, hr1⟩, B1.out.trans hb1⟩
  | true =>
    have HF : Hid (firstS ⟨true, c, P⟩ = (P : Int) + 1) := Lib.hid rfl
    have HO : Hid ((fun i => once i || oSv false ⟨true, c, P⟩ i) = fun i => if i = P then true else once i) := Lib.hid (by
      funext i
      unfold oSv
      rw [hc]
      by_cases e : i = P
      · simp [e]
      · simp [e]; omega)
    have h1 := Rises.markOnce (w := (w.alloc (.cells #[.bool true, .int .i64 c, .int .i64 P] 30)).drew) (h0.later ((Below.refl _ _).drew)) P
    have y0 : (w.alloc (.cells #[.bool true, .int .i64 c, .int .i64 P] 30)).cell? ⟨G, 0, none⟩ = some (.slice (some ⟨O, 0, none⟩) 1001 1001) := cell_in h0.box rfl
    have k := box_says w #[.bool true, .int .i64 c, .int .i64 P] 30 _ (Below.refl _ _)
    have y1 := k 2 _ rfl
    have y2 := (h0.o.cell (bools_at (f := once) (show P < 1001 by omega))).1
    have y3 := (h0.o.cell (bools_at (f := once) (show P < 1001 by omega))).2
    have hOw : O ≠ w.heap.size := by have := h.o.lt; omega
    have kk := box_says (w := w) #[.bool true, .int .i64 c, .int .i64 P] 30
    have hLO := h.loO
    have hb0 : Below lo w (((w.alloc (.cells #[.bool true, .int .i64 c, .int .i64 P] 30)).drew).setCell ⟨O, P, none⟩ (.bool true)) := (((below1 w _).mono hlo).drew).setCell (p := ⟨O, P, none⟩) hLO _
    have y4 : (((w.alloc (.cells #[.bool true, .int .i64 c, .int .i64 P] 30)).drew).setCell ⟨O, P, none⟩ (.bool true)).cell? ⟨w.heap.size, 2, none⟩ = some (.int .i64 P) := by
      rw [World.cell?_setCell_far _ _ _ _ hOw]; exact y1
    have HG3 : Hid ((((w.alloc (.cells #[.bool true, .int .i64 c, .int .i64 P] 30)).drew).setCell ⟨O, P, none⟩ (.bool true)).cell? ⟨G, 0, none⟩ = some (.slice (some ⟨O, 0, none⟩) 1001 1001) ∧ (((w.alloc (.cells #[.bool true, .int .i64 c, .int .i64 P] 30)).drew).setCell ⟨O, P, none⟩ (.bool true)).cell? ⟨w.heap.size, 2, none⟩ = some (.int .i64 P)) := Lib.hid ⟨cell_in h1.box rfl, y4⟩
    have HR0 := Lib.hid h1
    have HLO : Hid (lo ≤ (((w.alloc (.cells #[.bool true, .int .i64 c, .int .i64 P] 30)).drew).setCell ⟨O, P, none⟩ (.bool true)).heap.size) := Lib.hid (Nat.le_trans hlo hb0.size)
    have HB0 := Lib.hid hb0
    have l0 : (0 : Int) ≤ (P : Int) := by omega
    have l1 : (P : Int) < 1001 := by omega
    clear h hA h0 hc h1 k hOw kk hb0
    go_enter Try.func33, Try.ntmps33
    go_wp2_with fail
    refine wp_region_held_drew (S := fun W => W.cell? ⟨G, 0, none⟩ = some (.slice (some ⟨O, 0, none⟩) 1001 1001) ∧ W.cell? ⟨w.heap.size, 2, none⟩ = some (.int .i64 P)) (by kernel_rfl) ?_ (fun hHeld => ?_)
    · exact ⟨y0, y1⟩
    refine wpAnyH_takeE (i := 0) (d := some 15) (v := ?_) rfl rfl (by kernel_rfl) (by kernel_rfl) (by kernel_rfl) (fun _ _ _ h => h) (Or.inl ⟨by rfl, ?_⟩) (by assumption) ?_
    rotate_left
    · intro w hSw
      (try dsimp only at hSw)
      go_simp
      try (with_reducible rfl)
    simp only [Act.put, List.setIfInBounds_toArray, List.set_cons_zero, List.set_cons_succ]
    refine wpAnyH_takeE (i := 1) (d := some 16) (v := ?_) rfl rfl (by kernel_rfl) (by kernel_rfl) (by kernel_rfl) (fun _ _ _ h => h) (Or.inl ⟨by rfl, ?_⟩) (by assumption) ?_
    rotate_left
    · intro w hSw
      (try dsimp only at hSw)
      go_simp
      try (with_reducible rfl)
    simp only [Act.put, List.setIfInBounds_toArray, List.set_cons_zero, List.set_cons_succ]
    refine wpAnyH_takeE (i := 2) (d := some 17) (v := ?_) rfl rfl (by kernel_rfl) (by kernel_rfl) (by kernel_rfl) (fun _ _ _ h => h) (Or.inl ⟨by rfl, ?_⟩) (by assumption) ?_
    rotate_left
    · intro w hSw
      (try dsimp only at hSw)
      go_simp
      try (with_reducible rfl)
    simp only [Act.put, List.setIfInBounds_toArray, List.set_cons_zero, List.set_cons_succ]
    refine wpAnyH_takeE (i := 3) (d := some 18) (v := ?_) rfl rfl (by kernel_rfl) (by kernel_rfl) (by kernel_rfl) (fun _ _ _ h => h) (Or.inl ⟨by rfl, ?_⟩) (by assumption) ?_
    rotate_left
    · intro w hSw
      (try dsimp only at hSw)
      go_simp
      try (with_reducible rfl)
    simp only [Act.put, List.setIfInBounds_toArray, List.set_cons_zero, List.set_cons_succ]
    refine wpAnyH_takeE (i := 4) (d := some 19) (v := ?_) rfl rfl (by kernel_rfl) (by kernel_rfl) (by kernel_rfl) (fun _ _ _ h => h) (Or.inl ⟨by rfl, ?_⟩) (by assumption) ?_
    rotate_left
    · intro w hSw
      (try dsimp only at hSw)
      go_simp
      try (with_reducible rfl)
    simp only [Act.put, List.setIfInBounds_toArray, List.set_cons_zero, List.set_cons_succ]
    refine wpAnyH_takeE (i := 5) (d := some 20) (v := ?_) rfl rfl (by kernel_rfl) (by kernel_rfl) (by kernel_rfl) (fun _ _ _ h => h) (Or.inl ⟨by rfl, ?_⟩) (by assumption) ?_
    rotate_left
    · intro w hSw
      (try dsimp only at hSw)
      go_simp
      try (with_reducible rfl)
    simp only [Act.put, List.setIfInBounds_toArray, List.set_cons_zero, List.set_cons_succ]
    refine wpAnyH_takeE (i := 6) (d := some 21) (v := ?_) rfl rfl (by kernel_rfl) (by kernel_rfl) (by kernel_rfl) (fun _ _ _ h => h) (Or.inl ⟨by rfl, ?_⟩) (by assumption) ?_
    rotate_left
    · intro w hSw
      (try dsimp only at hSw)
      go_simp
      try (with_reducible rfl)
    simp only [Act.put, List.setIfInBounds_toArray, List.set_cons_zero, List.set_cons_succ]
    refine wpAnyH_ready (rs := [7]) (by kernel_rfl) (by simp) ?_
    refine AllReadyH.cons rfl (fun K hK => ?_) AllReadyH.nil
    go_simp
    refine hK.out _ _ ?_ (fun hHeld => ?_)
    · exact HG3.out
    clear hK K
    try simp only [Act.put, List.setIfInBounds_toArray, List.set_cons_zero, List.set_cons_succ]
    refine wpAnyH_done (by kernel_rfl) ?_ _
    go_wp2_with (first | (go_at_call 34; refine (add_rises HR0.out HLO.out P _ _ hP hP2 (by omega) (by omega) (by omega)).mono ?_; rintro e w1 ⟨rfl, ⟨rows2, hr1⟩, hb1⟩))
    go_end0
    rw [HF.out, HO.out]
    exact ⟨rfl, ⟨_, hr1⟩, HB0.out.trans hb1⟩
end Go.Proofs.Ytlmgphomklpplaa
