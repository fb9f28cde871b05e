/- The document's heap: put, remove, change, pop. -/
import Derived.Test.YtnajljoggcbhoaaHeapR
import Derived.Deep.RegionLaw
namespace Go.Proofs.Ytnajljoggcbhoaa
open Go.ChangeShapes Go.WideShapes Go.ChangeAt Go.RowKit
set_option linter.unusedVariables false

theorem Try.infoOne : (Try.prog.info? 63).map (fun i => (i.zero, i.size, i.bytes)) = some (some (.agg #[.int .i64 0, .int .i64 0]), 2, 16) := by kernel_rfl
theorem RowR.some_of {w : World} {lo : Nat} {R : List En} {b off cap : Nat} (h : RowR w lo R (some ⟨b, off, none⟩) cap) : lo ≤ b ∧ b < w.heap.size ∧ R.length ≤ cap ∧ ∀ i (hi : i < R.length), w.cell? ⟨b, off + i * 2, none⟩ = some (.int .i64 ((R[i]).1 : Nat)) ∧ w.cell? ⟨b, off + i * 2 + 1, none⟩ = some (.int .i64 (R[i]).2) := by
  rcases h with ⟨h, _⟩ | ⟨b', off', h1, h2⟩
  · cases h
  · cases h1; exact h2
theorem RowR.drop {w : World} {lo : Nat} {R : List En} {b off cap : Nat} (h : RowR w lo R (some ⟨b, off, none⟩) cap) (k : Nat) (hk : k ≤ R.length) : RowR w lo (R.drop k) (some ⟨b, off + k * 2, none⟩) (cap - k) := by
  obtain ⟨h1, h2, h3, h4⟩ := h.some_of
  refine .inr ⟨b, off + k * 2, rfl, h1, h2, by simp; omega, fun i hi => ?_⟩
  simp only [List.length_drop] at hi
  rw [List.getElem_drop, show off + k * 2 + i * 2 = off + (k + i) * 2 by omega]
  exact h4 (k + i) (by omega)
theorem RowR.none_left {w : World} {lo : Nat} {R R' : List En} {b off cap : Nat} (cap' : Nat) (h : RowR w lo R (some ⟨b, off, none⟩) cap) (hR : R' = []) : RowR w lo R' (some ⟨b, off, none⟩) cap' := by
  obtain ⟨h1, h2, h3, h4⟩ := h.some_of
  subst hR
  exact .inr ⟨b, off, rfl, h1, h2, by simp, fun i hi => by simp at hi⟩
theorem RHp.set {w : World} {rb room : Nat} {ao ao' : Option Addr} {n cap cap' : Nat} {R : List En} (h1 : w.heap[rb]? = some (.cells #[.int .i64 (room : Nat), .slice ao n cap] 42 (0, 0))) (h2 : RowR w (rb + 1) R ao' cap') : RHp (w.setCell ⟨rb, 1, none⟩ (.slice ao' R.length cap')) rb room R ∧ But rb w (w.setCell ⟨rb, 1, none⟩ (.slice ao' R.length cap')) :=
  ⟨⟨ao', cap', by rw [set_at h1]; rfl, h2.keep (fun b hb _ => set_other _ _ _ (by omega)) (by simp)⟩, (But.refl _ _).set _ _⟩
theorem enC_flat_one (R : List En) : ∀ u ∈ R.flatMap enC, u.oneCell' = true := flat_one enC (fun x u hu => enC_one x u hu) R
theorem RowR.lies {w Y : World} {lo : Nat} {R : List En} {b off cap : Nat} (h : RowR w lo R (some ⟨b, off, none⟩) cap) (hb : Below w.heap.size w Y) (m c : Nat) (hm : m ≤ R.length) : Lies Y lo w.heap.size (.slice (some ⟨b, off, none⟩) m c) m 2 ((R.take m).flatMap enC) := by
  obtain ⟨h1, h2, h3, h4⟩ := h.some_of
  have hl : ((R.take m).flatMap enC).length = m * 2 := by rw [flat_len enC 2 enC_len]; simp; omega
  refine ⟨_, _, rfl, hl, (fun e => by cases e), .inr ⟨b, off, rfl, h1, h2, fun k u hu => ?_⟩⟩
  have hk : k < m * 2 := by
    rcases Nat.lt_or_ge k (m * 2) with h | h
    · exact h
    · rw [List.getElem?_eq_none (by omega)] at hu; cases hu
  have e : ∀ j, Y.cell? ⟨b, j, none⟩ = w.cell? ⟨b, j, none⟩ := fun j => World.cell?_of_block (w := w) (hb.block b h2)
  have hi : k / 2 < m := by omega
  have hR : k / 2 < R.length := by omega
  obtain ⟨c0, c1⟩ := h4 (k / 2) hR
  have hx : (R.take m)[k / 2]? = some R[k / 2] := by rw [List.getElem?_take_of_lt hi, List.getElem?_eq_getElem hR]
  rw [e]
  rcases Nat.mod_two_eq_zero_or_one k with h0 | h0
  · have f := flat_at enC 2 enC_len (R.take m) (k / 2) 0 _ hx (by omega)
    rw [show k / 2 * 2 + 0 = k by omega, hu] at f
    rw [show off + k = off + k / 2 * 2 by omega, c0, f]; rfl
  · have f := flat_at enC 2 enC_len (R.take m) (k / 2) 1 _ hx (by omega)
    rw [show k / 2 * 2 + 1 = k by omega, hu] at f
    rw [show off + k = off + k / 2 * 2 + 1 by omega, c1, f]; rfl
theorem RowR.of_owns {w : World} {base lo n : Nat} {R : List En} {ao : Option Addr} {cap : Nat} (h : w.ownsRow base 63 2 (.slice ao n cap) n (R.flatMap enC)) (hn : n = R.length) (hlo : lo ≤ base) : RowR w lo R ao cap := by
  rcases h.2 with ⟨h1, h2⟩ | ⟨g, cap', cur, hv, hb, hg, h1, h2, h3, h4⟩
  · cases h1
    exact .inl ⟨rfl, List.eq_nil_of_length_eq_zero (by omega), rfl⟩
  · cases hv
    refine .inr ⟨g, 0, rfl, by omega, lt_of_block hg, by omega, fun i hi => ?_⟩
    have hx : R[i]? = some R[i] := List.getElem?_eq_getElem hi
    have a0 := flat_at enC 2 enC_len R i 0 _ hx (by omega)
    have a1 := flat_at enC 2 enC_len R i 1 _ hx (by omega)
    rw [← h4, List.getElem?_take_of_lt (by omega)] at a0 a1
    rw [Nat.zero_add]
    exact ⟨cell_in hg (by simpa [enC] using a0), cell_in hg (by simpa [enC] using a1)⟩
theorem own_none {w : World} (Y : World) (h : Y.heap[w.heap.size]? = some (.cells #[] 63 (0, 0))) : Y.ownsRow w.heap.size 63 2 (.slice (some ⟨w.heap.size, 0, none⟩) 0 0) 0 [] :=
  ⟨rfl, .inr ⟨_, 0, #[], rfl, Nat.le_refl _, h, Nat.le_refl _, Nat.zero_le _, rfl, rfl⟩⟩
set_option maxRecDepth 100000 in
set_option maxHeartbeats 2000000 in
theorem rpop_any (w : World) (rb room : Nat) (R : List En) (h : RHp w rb room R) (hsm : R.length ≤ 1024) :
    Calls Try.prog 17 #[.pointer (some ⟨rb, 0, none⟩)] w fun e w' => e = .returned (fstV R) ∧ RHp w' rb room R.tail ∧ But rb w w' := by
  have HF := Lib.hid (rfirst_any w rb room R h hsm)
  have HH := Lib.hid h
  rcases R with _ | ⟨⟨i0, d0⟩, R⟩
  · clear h
    go_enter Try.func17, Try.ntmps17
    go_wp2_with (go_at_call 19; refine HF.out.mono ?_; rintro e w3 ⟨rfl, hb3⟩; simp only [fstV])
    ((try simp only [Exit.inBlock, Exit.then]); refine bodyPost_ret (results_tmp3 rfl _ _ _) rfl ?_)
    exact ⟨rfl, HH.out.later hb3, But.of_below hb3⟩
  · have HS : Hid (∀ Y, Below w.heap.size w Y → ∃ b off cap, Y.heap[rb]? = some (.cells #[.int .i64 (room : Nat), .slice (some ⟨b, off, none⟩) (R.length + 1) cap] 42 (0, 0)) ∧ RowR Y (rb + 1) ((i0, d0) :: R) (some ⟨b, off, none⟩) cap) := Lib.hid (fun Y hY => by
      obtain ⟨ao, cap, h1, h2⟩ := (h.later hY).is
      rcases h2 with ⟨_, h0, _⟩ | ⟨b, off, rfl, h2⟩
      · cases h0
      · exact ⟨b, off, cap, h1, .inr ⟨b, off, rfl, h2⟩⟩)
    clear h
    have n1 : (1 : Int) ≤ ((R.length + 1 : Nat) : Int) := by omega
    go_enter Try.func17, Try.ntmps17
    go_wp2_with (go_at_call 19; refine HF.out.mono ?_; rintro e w3 ⟨rfl, hb3'⟩; simp only [fstV]; have hb3 := Lib.hid hb3'; obtain ⟨b, off, cap, h1, h2⟩ := HS.out _ hb3'; have q1 : w3.cell? ⟨rb, 1, none⟩ = some (.slice (some ⟨b, off, none⟩) (R.length + 1) cap) := cell_in h1 rfl; have q2 := free_in h1 1; have H1 := Lib.hid h1; have H2 := Lib.hid h2; have l1 := h2.fits; simp only [List.length_cons] at l1; clear h1 h2 hb3')
    · have hR : R = [] := List.eq_nil_of_length_eq_zero (by omega)
      go_wp2
      ((try simp only [Exit.inBlock, Exit.then]); refine bodyPost_ret (results_tmp3 rfl _ _ _) rfl ?_)
      have H3 := RHp.set H1.out (H2.out.none_left (R' := R) 0 hR)
      exact ⟨rfl, H3.1, (But.of_below hb3.out).trans H3.2⟩
    · go_wp2
      ((try simp only [Exit.inBlock, Exit.then]); refine bodyPost_ret (results_tmp3 rfl _ _ _) rfl ?_)
      have H3 := RHp.set (R := R) H1.out (H2.out.drop 1 (by simp))
      exact ⟨rfl, H3.1, (But.of_below hb3.out).trans H3.2⟩
set_option maxRecDepth 100000 in
set_option maxHeartbeats 2000000 in
theorem rremove_no (w : World) (rb room : Nat) (R : List En) (D : Nat → Option Int) (h : RHp w rb room R) (hR : Rep R D) (id : Int) (hsm : R.length ≤ 1024) (hd : Dv D id = none) :
    Calls Try.prog 15 #[.pointer (some ⟨rb, 0, none⟩), .int .i64 id] w fun e w' => e = .returned (.bool false) ∧ w' = w := by
  have HF := Lib.hid (find_any w rb room R h id hsm)
  clear h
  go_enter Try.func15, Try.ntmps15
  go_wp2_with (go_at_call 30; refine HF.out.mono ?_; rintro e w3 ⟨k, hk, rfl, hw3⟩; rw [hw3]; clear hw3; obtain rfl := find_no hR hk hd)
  go_ret
  exact ⟨rfl, rfl⟩
set_option maxRecDepth 100000 in
set_option maxHeartbeats 4000000 in
theorem rremove_in (w : World) (rb room : Nat) (R : List En) (D : Nat → Option Int) (h : RHp w rb room R) (hR : Rep R D) (i : Nat) (d : Int) (hsm : R.length ≤ 1024) (hd : D i = some d) :
    Calls Try.prog 15 #[.pointer (some ⟨rb, 0, none⟩), .int .i64 i] w fun e w' => ∃ R', e = .returned (.bool true) ∧ RHp w' rb room R' ∧ Rep R' (upd D i none) ∧ R'.length + 1 = R.length ∧ But rb w w' := by
  have HF := Lib.hid (find_any w rb room R h i hsm)
  obtain ⟨ao, cap, h1, h2⟩ := h.is
  rcases h2 with ⟨_, h0, _⟩ | ⟨b, off, rfl, h2⟩
  · subst h0; have := (hR.2 i d).2 hd; cases this
  have H2 : Hid (RowR w (rb + 1) R (some ⟨b, off, none⟩) cap) := Lib.hid (.inr ⟨b, off, rfl, h2⟩)
  have q1 : w.cell? ⟨rb, 1, none⟩ = some (.slice (some ⟨b, off, none⟩) R.length cap) := cell_in h1 rfl
  have q2 : w.frozen? ⟨rb, 1, none⟩ = false := free_in h1 1
  have q3 : rb < w.heap.size := lt_of_block h1
  have H1 := Lib.hid h1
  have l1 := H2.out.fits
  obtain ⟨n, hn⟩ : ∃ n, n = R.length := ⟨_, rfl⟩
  rw [← hn] at q1 l1 hsm
  have HN := Lib.hid hn
  clear h h1 h2 hn
  go_enter Try.func15, Try.ntmps15
  go_wp2_with (go_at_call 30; refine HF.out.mono ?_; rintro e w3 ⟨k', hk, rfl, hw3⟩; rw [hw3]; clear hw3; obtain ⟨k, rfl, hj, hje⟩ := find_yes hR hk hd; have j0 : (0 : Int) ≤ (k : Int) := (by omega); have j1 : (k : Int) < (n : Int) := (by have := HN.out; omega); have j2 : decide ((k : Int) < 0) = false := decide_eq_false (by omega); have HJ := Lib.hid hje; clear hje hk)
  have j3 : k ≤ n := by omega
  have j4 : k + 1 ≤ n := by omega
  have j5 : (k : Int) + 1 ≤ (n : Int) := by omega
  have j6 : (k : Int) ≤ (n : Int) := by omega
  have j7 : k ≤ cap := by omega
  obtain ⟨i0, hi, hz0, hz1, hz2⟩ := info_parts Try.infoOne
  have HI := Lib.hid hi
  have KQ : Hid (∀ Y, Below w.heap.size w Y → Y.cell? ⟨rb, 1, none⟩ = some (.slice (some ⟨b, off, none⟩) n cap) ∧ Y.frozen? ⟨rb, 1, none⟩ = false) := Lib.hid (fun Y hY => by
    have := (hY.block rb q3).trans H1.out
    rw [← HN.out] at this
    exact ⟨cell_in this rfl, free_in this 1⟩)
  have HA : Hid (Below w.heap.size w (w.alloc (.cells #[] 63)).drew) := Lib.hid (below1 _ _).drew
  have HO : Hid ((w.alloc (.cells #[] 63)).drew.ownsRow w.heap.size 63 2 (.slice (some ⟨w.heap.size, 0, none⟩) 0 0) 0 []) := Lib.hid (own_none _ (heap_alloc_new _ _))
  have HL1 : Hid (∀ Y, Below w.heap.size w Y → Lies Y (rb + 1) w.heap.size (.slice (some ⟨b, off, none⟩) k cap) k 2 ((R.take k).flatMap enC)) := Lib.hid (fun Y hY => H2.out.lies hY k cap (by rw [← HN.out]; omega))
  have s1 : IntKind.i64.wrap ((k : Int) + 1) = ((k + 1 : Nat) : Int) := by rw [IntWalk.i64_in _ (by omega)]; omega
  have j8 : (k : Int) ≤ (cap : Int) := by omega
  have j9 : ((k + 1 : Nat) : Int) ≤ (n : Int) := by omega
  have j10 : (0 : Int) ≤ ((k + 1 : Nat) : Int) := by omega
  have j11 : (n : Int) ≤ (cap : Int) := by omega
  clear hi
  have j12 : (0 : Int) ≤ (k : Int) + 1 := by omega
  have HKR : Hid (k < R.length) := Lib.hid hj

  by_cases hc : cap = k + 1
  · have hc' := hc.symm
    have j13 : cap ≤ n := by omega
    have HCK : Hid (k + 1 = R.length) := Lib.hid (by rw [← HN.out]; omega)
    have HFIN : Hid (∀ (w6 : World) (ao2 : Option Addr) (cap2 : Nat), Below w.heap.size w w6 → w6.ownsRow w.heap.size 63 2 (.slice ao2 k cap2) k ([] ++ (R.take k).flatMap enC ++ []) → RHp (w6.setCell ⟨rb, 1, none⟩ (.slice ao2 k cap2)) rb room (R.take k ++ R.drop (k + 1)) ∧ But rb w (w6.setCell ⟨rb, 1, none⟩ (.slice ao2 k cap2))) := Lib.hid (fun w6 ao2 cap2 hb6 ho6 => by
      have hl : (R.take k ++ R.drop (k + 1)).length = k := by simp; rw [← HN.out]; omega
      have hx : ([] ++ (R.take k).flatMap enC ++ []) = (R.take k ++ R.drop (k + 1)).flatMap enC := by have := HCK.out; rw [List.drop_eq_nil_of_le (by omega)]; simp
      rw [hx] at ho6
      have hrow := RowR.of_owns ho6 hl.symm (lo := rb + 1) (by omega)
      have h3 := RHp.set (R := R.take k ++ R.drop (k + 1)) ((hb6.block rb q3).trans H1.out) hrow
      rw [hl] at h3
      exact ⟨h3.1, (But.of_below hb6).trans h3.2⟩)
    clear hc
    go_region_law (first
      | (refine step_append_lie (by rfl) (.tmp 19) (.tmp 26) 40 (by rfl) w.heap.size 63 i0 _ 2 16 Try.underlying40 HI.out hz0 hz1 hz2 rfl (by omega) (.slice ao1 k cap1) k _ (by rfl) HO5.out (.slice (some ⟨b, off, none⟩) 0 0) (rb + 1) w.heap.size 0 ([] : List Value) (by rfl) ⟨_, _, rfl, rfl, (fun e => by cases e), .inl rfl⟩ (by first | exact enC_flat_one _ | (intro u hu; cases hu)) k (by omega) (by unfold maxLen; omega) (by omega) HB5.out.size ?_; intro ao2 cap2 w6 hown6 hgrow6; have hb6 : Below w.heap.size w w6 := HB5.out.grown hgrow6 HB5.out.size (fun k hk => (owns_block HO5.out k hk).1); obtain ⟨y0, y1⟩ := KQ.out _ hb6; have HB6 := Lib.hid hb6; have HO6 := Lib.hid hown6; clear hb6 hown6 hgrow6)
      | (refine step_append_lie (by rfl) (.tmp 12) (.tmp 18) 40 (by rfl) w.heap.size 63 i0 _ 2 16 Try.underlying40 HI.out hz0 hz1 hz2 rfl (by omega) (.slice (some ⟨w.heap.size, 0, none⟩) 0 0) 0 [] (by rfl) HO.out (.slice (some ⟨b, off, none⟩) k cap) (rb + 1) w.heap.size k ((R.take k).flatMap enC) (by rfl) (HL1.out _ HA.out) (enC_flat_one _) k (by omega) (by unfold maxLen; omega) (by omega) (by simp) ?_; intro ao1 cap1 w5 hown5 hgrow5; have hb5 : Below w.heap.size w w5 := HA.out.grown hgrow5 HA.out.size (fun k hk => by cases hk; exact Nat.le_refl _); obtain ⟨z0, z1⟩ := KQ.out _ hb5; have HB5 := Lib.hid hb5; have HO5 := Lib.hid hown5; clear hb5 hown5 hgrow5)
      | fail "no arm")
    all_goals
      (go_wp2_with fail
       go_ret
       obtain ⟨f1, f2⟩ := HFIN.out _ _ _ HB6.out HO6.out
       exact ⟨_, rfl, f1, by have h9 := hR.remove hj; rw [HJ.out] at h9; exact h9, by simp; omega, f2⟩)
  · have HL2 : Hid (∀ Y, Below w.heap.size w Y → Lies Y (rb + 1) w.heap.size (.slice (some ⟨b, off + (k + 1) * 2, none⟩) (n - (k + 1)) (cap - (k + 1))) (n - (k + 1)) 2 ((R.drop (k + 1)).flatMap enC)) := Lib.hid (fun Y hY => by
      have h9 := (H2.out.drop (k + 1) (by have := HKR.out; omega)).lies hY (n - (k + 1)) (cap - (k + 1)) (by simp; rw [← HN.out]; omega)
      rwa [List.take_of_length_le (by simp; rw [← HN.out]; omega)] at h9)
    have HFIN : Hid (∀ (w6 : World) (ao2 : Option Addr) (cap2 : Nat), Below w.heap.size w w6 → w6.ownsRow w.heap.size 63 2 (.slice ao2 (n - 1) cap2) (n - 1) ([] ++ (R.take k).flatMap enC ++ (R.drop (k + 1)).flatMap enC) → RHp (w6.setCell ⟨rb, 1, none⟩ (.slice ao2 (n - 1) cap2)) rb room (R.take k ++ R.drop (k + 1)) ∧ But rb w (w6.setCell ⟨rb, 1, none⟩ (.slice ao2 (n - 1) cap2))) := Lib.hid (fun w6 ao2 cap2 hb6 ho6 => by
      have hl : (R.take k ++ R.drop (k + 1)).length = n - 1 := by simp; rw [← HN.out]; omega
      have hx : ([] ++ (R.take k).flatMap enC ++ (R.drop (k + 1)).flatMap enC) = (R.take k ++ R.drop (k + 1)).flatMap enC := by simp
      rw [hx] at ho6
      have hrow := RowR.of_owns ho6 hl.symm (lo := rb + 1) (by omega)
      have h3 := RHp.set (R := R.take k ++ R.drop (k + 1)) ((hb6.block rb q3).trans H1.out) hrow
      rw [hl] at h3
      exact ⟨h3.1, (But.of_below hb6).trans h3.2⟩)
    go_region_law (first
      | (refine step_append_lie (by rfl) (.tmp 19) (.tmp 26) 40 (by rfl) w.heap.size 63 i0 _ 2 16 Try.underlying40 HI.out hz0 hz1 hz2 rfl (by omega) (.slice ao1 k cap1) k _ (by rfl) HO5.out (.slice (some ⟨b, off + (k + 1) * 2, none⟩) (n - (k + 1)) (cap - (k + 1))) (rb + 1) w.heap.size (n - (k + 1)) ((R.drop (k + 1)).flatMap enC) (by rfl) (HL2.out _ HB5.out) (by first | exact enC_flat_one _ | (intro u hu; cases hu)) (n - 1) (by omega) (by unfold maxLen; omega) (by omega) HB5.out.size ?_; intro ao2 cap2 w6 hown6 hgrow6; have hb6 : Below w.heap.size w w6 := HB5.out.grown hgrow6 HB5.out.size (fun k hk => (owns_block HO5.out k hk).1); obtain ⟨y0, y1⟩ := KQ.out _ hb6; have HB6 := Lib.hid hb6; have HO6 := Lib.hid hown6; clear hb6 hown6 hgrow6)
      | (refine step_append_lie (by rfl) (.tmp 12) (.tmp 18) 40 (by rfl) w.heap.size 63 i0 _ 2 16 Try.underlying40 HI.out hz0 hz1 hz2 rfl (by omega) (.slice (some ⟨w.heap.size, 0, none⟩) 0 0) 0 [] (by rfl) HO.out (.slice (some ⟨b, off, none⟩) k cap) (rb + 1) w.heap.size k ((R.take k).flatMap enC) (by rfl) (HL1.out _ HA.out) (enC_flat_one _) k (by omega) (by unfold maxLen; omega) (by omega) (by simp) ?_; intro ao1 cap1 w5 hown5 hgrow5; have hb5 : Below w.heap.size w w5 := HA.out.grown hgrow5 HA.out.size (fun k hk => by cases hk; exact Nat.le_refl _); obtain ⟨z0, z1⟩ := KQ.out _ hb5; have HB5 := Lib.hid hb5; have HO5 := Lib.hid hown5; clear hb5 hown5 hgrow5)
      | fail "no arm")
    all_goals
      (go_wp2_with fail
       go_ret
       obtain ⟨f1, f2⟩ := HFIN.out _ _ _ HB6.out HO6.out
       exact ⟨_, rfl, f1, by have h9 := hR.remove hj; rw [HJ.out] at h9; exact h9, by simp; omega, f2⟩)
end Go.Proofs.Ytnajljoggcbhoaa
