/- The document's heap: put (ne). -/
import Derived.Test.YtnajljoggcbhoaaHeapU
import Derived.Deep.CutRange
namespace Go.Proofs.Ytnajljoggcbhoaa
open Go.ChangeShapes Go.WideShapes Go.ChangeAt Go.RowKit
set_option linter.unusedVariables false

set_option maxRecDepth 100000 in
set_option maxHeartbeats 8000000 in
theorem rput_ne (w : World) (rb room : Nat) (R : List En) (D : Nat → Option Int) (ao : Option Addr) (cap : Nat) (h : RHp w rb room R) (h1 : w.heap[rb]? = some (.cells #[.int .i64 (room : Nat), .slice ao R.length cap] 42 (0, 0))) (h2 : RowR w (rb + 1) R ao cap) (hR : Rep R D) (hsm : R.length ≤ 1024) (id : Nat) (due : Int) (hir : id < room) (hd : D id = none) (hao : ∃ b off, ao = some ⟨b, off, none⟩) (hcs : ∀ k, k ≤ R.length → AhTo R (id, due) k → (∀ hj : k < R.length, ¬ ltH R[k] (id, due)) → cap ≠ k) :
    Calls Try.prog 11 #[.pointer (some ⟨rb, 0, none⟩), .int .i64 id, .int .i64 due] w fun e w' => ∃ R', e = .returned (.int .i64 0) ∧ RHp w' rb room R' ∧ Rep R' (upd D id (some due)) ∧ R'.length = R.length + 1 ∧ But rb w w' := by
  have HI := Lib.hid (ris_any w rb room R h id)
  have HF := Lib.hid (find_any w rb room R h id hsm)
  rw [show InR room (id : Int) = true by simp only [InR, Bool.and_eq_true, decide_eq_true_eq]; omega] at HI
  have q1 : w.cell? ⟨rb, 1, none⟩ = some (.slice ao R.length cap) := cell_in h1 rfl
  have q2 : w.frozen? ⟨rb, 1, none⟩ = false := free_in h1 1
  have q3 : rb < w.heap.size := lt_of_block h1
  have H1 := Lib.hid h1
  have H2 := Lib.hid h2
  have l1 := h2.fits
  obtain ⟨n, hn⟩ : ∃ n, n = R.length := ⟨_, rfl⟩
  rw [← hn] at q1 l1 hsm
  have HN := Lib.hid hn
  have HD : Hid (Dv D (id : Int) = none) := Lib.hid (by rw [Dv.nat]; exact hd)
  have HCS := Lib.hid hcs
  have HAO := Lib.hid hao
  clear h h1 h2 hn hcs hao
  obtain ⟨i0, hi, hz0, hz1, hz2⟩ := info_parts Try.infoOne
  have HI2 := Lib.hid hi
  have KQ : Hid (∀ Y, Below w.heap.size w Y → Y.cell? ⟨rb, 1, none⟩ = some (.slice ao n cap) ∧ Y.frozen? ⟨rb, 1, none⟩ = false) := Lib.hid (fun Y hY => by
    have := (hY.block rb q3).trans H1.out
    rw [← HN.out] at this
    exact ⟨cell_in this rfl, free_in this 1⟩)
  clear hi
  go_enter Try.func11, Try.ntmps11
  go_wp2_with (first
    | (go_at_call 29; refine HI.out.mono ?_; rintro e w3 ⟨rfl, hw3⟩; rw [hw3]; clear hw3)
    | (go_at_call 30; refine HF.out.mono ?_; rintro e w3 ⟨k', hk, rfl, hw3⟩; rw [hw3]; clear hw3; obtain rfl := find_no hR hk HD.out; clear hk)
    | fail "no arm")
  go_loopw [7] (fun s wr => ∃ k : Nat, k ≤ n ∧ s = .int .i64 k ∧ Hid (AhTo R (id, due) k) ∧ w = wr) (fun s _ => n - (intOf s).toNat)
  case atStart => exact ⟨0, Nat.zero_le _, rfl, Lib.hid (fun j _ h => by omega), rfl⟩
  case round =>
    obtain ⟨k, hk, rfl, HK, hwr⟩ := hrel
    subst hwr
    obtain ⟨t, ht⟩ : ∃ t, t = decide (∃ hj : k < R.length, ltH R[k] (id, due)) := ⟨_, rfl⟩
    have HT : Hid (t = decide (∃ hj : k < R.length, ltH R[k] (id, due))) := Lib.hid ht
    clear ht
    go_upto_region 6 with fail
    go_cut [58] from 16 to 58 (fun s wx => s = .bool t ∧ w = wx)
    case first =>
      by_cases hlt : k < n
      · have l0 : decide ((k : Int) < (n : Int)) = true := decide_eq_true (by omega)
        have l2 : (0 : Int) ≤ (k : Int) := by omega
        have l3 : (k : Int) < (n : Int) := by omega
        have hkR : k < R.length := by rw [← HN.out]; exact hlt
        rcases H2.out with ⟨_, h0, _⟩ | ⟨b, off, rfl, _, _, _, hc⟩
        · rw [h0] at hkR; exact absurd hkR (Nat.not_lt_zero _)
        obtain ⟨c0, c1⟩ := hc k hkR
        have ht2 : t = decide (ltH R[k] (id, due)) := by rw [HT.out]; simp [hkR]
        obtain ⟨e0, he0⟩ : ∃ e0, e0 = R[k] := ⟨_, rfl⟩
        rw [← he0] at c0 c1 ht2
        obtain ⟨x0, y0⟩ := e0
        dsimp only at c0 c1
        have HT2 := Lib.hid ht2
        clear hc he0 ht2
        by_cases h1 : y0 < due
        · have t1 : decide (y0 < due) = true := decide_eq_true h1
          obtain rfl : t = true := by rw [HT2.out]; exact decide_eq_true (Or.inl h1)
          go_wp2_with fail
          go_meet
          case rel => exact ⟨rfl, rfl⟩
        · have t1 : decide (y0 < due) = false := decide_eq_false h1
          by_cases h2 : y0 = due
          · have t2 : (y0 == due) = true := by simpa using h2
            have t3 : decide (y0 = due) = true := decide_eq_true h2
            have HE := Lib.hid h2
            clear h2
            by_cases h3 : (x0 : Int) < (id : Int)
            · have t4 : decide ((x0 : Int) < (id : Int)) = true := decide_eq_true h3
              obtain rfl : t = true := by rw [HT2.out]; exact decide_eq_true (Or.inr ⟨HE.out, by show x0 < id; omega⟩)
              go_wp2_with fail
              go_meet
              case rel => exact ⟨rfl, rfl⟩
            · have t4 : decide ((x0 : Int) < (id : Int)) = false := decide_eq_false h3
              obtain rfl : t = false := by rw [HT2.out]; exact decide_eq_false (fun hx => by unfold ltH at hx; dsimp only at hx; have := HE.out; omega)
              go_wp2_with fail
              go_meet
              case rel => exact ⟨rfl, rfl⟩
          · have t2 : (y0 == due) = false := by simpa using h2
            have t3 : decide (y0 = due) = false := decide_eq_false h2
            obtain rfl : t = false := by rw [HT2.out]; exact decide_eq_false (fun hx => by unfold ltH at hx; dsimp only at hx; omega)
            go_wp2_with fail
            go_meet
            case rel => exact ⟨rfl, rfl⟩
      · have l0 : decide ((k : Int) < (n : Int)) = false := decide_eq_false (by omega)
        obtain rfl : t = false := by rw [HT.out]; exact decide_eq_false (fun ⟨hx, _⟩ => by rw [← HN.out] at hx; omega)
        go_wp2_with fail
        go_meet
        case rel => exact ⟨rfl, rfl⟩
    case rest =>
      obtain ⟨rfl, hwx⟩ := hcut
      subst hwx
      cases t with
      | true =>
        obtain ⟨hkR, hlt⟩ := of_decide_eq_true HT.out.symm
        have hkn : k + 1 ≤ n := by rw [HN.out]; exact hkR
        have HX : Hid (AhTo R (id, due) (k + 1)) := Lib.hid (fun j hj hjk => by
          by_cases e : j = k
          · subst e; exact hlt
          · exact HK.out j hj (by omega))
        clear hlt
        go_wp2_with fail
        go_roundw
        case rel => exact ⟨k + 1, hkn, by go_num, HX, by trivial⟩
        case measure => simp [intOf]; omega
      | false =>
        have hnot : ∀ hj : k < R.length, ¬ ltH R[k] (id, due) := fun hj hlt => (of_decide_eq_false HT.out.symm) ⟨hj, hlt⟩
        have HREP : Hid (Rep (R.take k ++ (id, due) :: R.drop k) (upd D id (some due))) := Lib.hid (hR.put (e := (id, due)) hd (by rw [← HN.out]; exact hk) (fun j hj hjk => HK.out j hj hjk) hnot)
        have HLEN : Hid ((R.take k ++ (id, due) :: R.drop k).length = R.length + 1) := Lib.hid (by simp; rw [← HN.out]; omega)
        have HNOT := Lib.hid hnot
        clear hnot
        have j0 : (0 : Int) ≤ (k : Int) := by omega
        have j1 : (k : Int) ≤ (n : Int) := by omega
        have j2 : (k : Int) ≤ (cap : Int) := by omega
        have j3 : (n : Int) ≤ (cap : Int) := by omega
        obtain ⟨b, off, hab⟩ := HAO.out
        subst hab
        have HR2 : Hid (RowR w (rb + 1) R (some ⟨b, off, none⟩) cap) := H2
        have HL1 : Hid (∀ Y, Below w.heap.size w Y → Lies Y (rb + 1) w.heap.size (.slice (some ⟨b, off, none⟩) k cap) k 2 ((R.take k).flatMap enC)) := Lib.hid (fun Y hY => HR2.out.lies hY k cap (by rw [← HN.out]; exact hk))
        have hc := HCS.out k (by rw [← HN.out]; exact hk) HK.out HNOT.out
        have HL2 : Hid (∀ Y, Below w.heap.size w Y → Lies Y (rb + 1) w.heap.size (.slice (some ⟨b, off + k * 2, none⟩) (n - k) (cap - k)) (n - k) 2 ((R.drop k).flatMap enC)) := Lib.hid (fun Y hY => by
          have h9 := (HR2.out.drop k (by rw [← HN.out]; exact hk)).lies hY (n - k) (cap - k) (by simp; rw [← HN.out]; omega)
          rwa [List.take_of_length_le (by simp; rw [← HN.out]; omega)] at h9)
        have HFIN : Hid (∀ (w7 : World) (ao3 : Option Addr) (cap3 : Nat), Below w.heap.size w w7 → w7.ownsRow w.heap.size 63 2 (.slice ao3 (n + 1) cap3) (n + 1) (([] ++ (R.take k).flatMap enC) ++ [.int .i64 (id : Int), .int .i64 due] ++ (R.drop k).flatMap enC) → RHp (w7.setCell ⟨rb, 1, none⟩ (.slice ao3 (n + 1) cap3)) rb room (R.take k ++ (id, due) :: R.drop k) ∧ But rb w (w7.setCell ⟨rb, 1, none⟩ (.slice ao3 (n + 1) cap3))) := Lib.hid (fun w7 ao3 cap3 hb7 ho7 => by
          have hl : (R.take k ++ (id, due) :: R.drop k).length = (n + 1) := by rw [HLEN.out, ← HN.out]
          have hx : (([] ++ (R.take k).flatMap enC) ++ [.int .i64 (id : Int), .int .i64 due] ++ (R.drop k).flatMap enC) = (R.take k ++ (id, due) :: R.drop k).flatMap enC := by simp [enC]
          rw [hx] at ho7
          have hrow := RowR.of_owns ho7 hl.symm (lo := rb + 1) (by omega)
          have h3 := RHp.set (R := R.take k ++ (id, due) :: R.drop k) ((hb7.block rb q3).trans H1.out) hrow
          rw [hl] at h3
          exact ⟨h3.1, (But.of_below hb7).trans h3.2⟩)
        go_wp2_with fail
        go_region_law (first
              | (have _z := HO6; show ite (Region.wanted ⟨some 81, _, _, _, _, _⟩ _ = true) _ _; refine step_append_lie (by rfl) (.tmp 74) (.tmp 80) 40 (by rfl) w.heap.size 63 i0 _ 2 16 Try.underlying40 HI2.out hz0 hz1 hz2 rfl (by omega) (.slice ao2 (k + 1) cap2) (k + 1) _ (by rfl) HO6.out (.slice (some ⟨b, off + k * 2, none⟩) (n - k) (cap - k)) (rb + 1) w.heap.size (n - k) ((R.drop k).flatMap enC) (by rfl) (HL2.out _ HB6.out) (by first | exact enC_flat_one _ | (intro u hu; cases hu)) (n + 1) (by omega) (by unfold maxLen; omega) (by omega) HB6.out.size ?_; intro ao3 cap3 w7 hown7 hgrow7; have hb7 : Below w.heap.size w w7 := HB6.out.grown hgrow7 HB6.out.size (fun k hk => (owns_block HO6.out k hk).1); obtain ⟨x0, x1⟩ := KQ.out _ hb7; have HB7 := Lib.hid hb7; have HO7 := Lib.hid hown7; clear hb7 hown7 hgrow7)
              | (have _z := HO5; show ite (Region.wanted ⟨some 74, _, _, _, _, _⟩ _ = true) _ _; refine step_append_lie (by rfl) (.tmp 69) (.tmp 73) 40 (by rfl) w.heap.size 63 i0 _ 2 16 Try.underlying40 HI2.out hz0 hz1 hz2 rfl (by omega) (.slice ao1 k cap1) k _ (by rfl) (by first | exact HO5.out | exact owns_later HO5.out (below1 _ _)) _ (rb + 1) _ 1 [.int .i64 (id : Int), .int .i64 due] (by rfl) (one_at _ _ _ _ (by first | (show (World.alloc _ _).heap[_]? = _; rw [heap_at, if_pos (by simp)]; done) | exact (HG5.out _ (by simp <;> omega) (by simp [Value.ownBlock])).trans (by first | (show (World.alloc _ _).heap[_]? = _; rw [heap_at, if_pos (by simp)]; done) | (show (World.alloc _ _).heap[_]? = _; rw [heap_at, if_neg (by simp)]; show (World.alloc _ _).heap[_]? = _; rw [heap_at, if_pos (by simp)]; done))) (by omega)) (by intro u hu; simp at hu; rcases hu with h | h <;> subst h <;> rfl) (k + 1) (by omega) (by unfold maxLen; omega) (by omega) (by first | exact HB5.out.size | (simp; omega)) ?_; intro ao2 cap2 w6 hown6 hgrow6; have hb6 : Below w.heap.size w w6 := Below.grown (by first | exact HB5.out | exact b_alloc HB5.out (Nat.le_refl _) _) hgrow6 (by first | exact HB5.out.size | (simp; omega)) (fun k hk => (owns_block HO5.out k hk).1); obtain ⟨y0, y1⟩ := KQ.out _ hb6; have HB6 := Lib.hid hb6; have HO6 := Lib.hid hown6; clear hb6 hown6 hgrow6)
              | (show ite (Region.wanted ⟨some 69, _, _, _, _, _⟩ _ = true) _ _; refine step_append_lie (by rfl) (.tmp 62) (.tmp 68) 40 (by rfl) w.heap.size 63 i0 _ 2 16 Try.underlying40 HI2.out hz0 hz1 hz2 rfl (by omega) _ 0 [] (by rfl) (own_at _ _ (by first | (show (World.alloc _ _).heap[_]? = _; rw [heap_at, if_pos (by simp)]; done) | (show (World.alloc _ _).heap[_]? = _; rw [heap_at, if_neg (by simp)]; show (World.alloc _ _).heap[_]? = _; rw [heap_at, if_pos (by simp)]; done)) (by first | exact Nat.le_refl _ | exact Nat.le_succ _)) (.slice (some ⟨b, off, none⟩) k cap) (rb + 1) w.heap.size k ((R.take k).flatMap enC) (by rfl) (HL1.out _ (by repeat first | exact Below.refl _ _ | refine b_alloc ?_ (Nat.le_refl _) _ | refine Below.drew ?_)) (enC_flat_one _) k (by omega) (by unfold maxLen; omega) (by omega) (by simp <;> omega) ?_; intro ao1 cap1 w5 hown5 hgrow5; have hb5 : Below w.heap.size w w5 := Below.grown (by repeat first | exact Below.refl _ _ | refine b_alloc ?_ (Nat.le_refl _) _ | refine Below.drew ?_) hgrow5 (by simp <;> omega) (fun k hk => by cases hk; first | exact Nat.le_refl _ | exact Nat.le_succ _); have HG5 := Lib.hid hgrow5.block; obtain ⟨z0, z1⟩ := KQ.out _ hb5; have HB5 := Lib.hid hb5; have HO5 := Lib.hid hown5; have hs5 : w.heap.size ≤ w5.heap.size := hb5.size; have hr5 : rb < w5.heap.size := Nat.lt_of_lt_of_le q3 hs5; clear hb5 hown5 hgrow5)
              | fail "no arm")
        all_goals
          (go_wp2_with fail
           go_ret
           obtain ⟨f1, f2⟩ := HFIN.out _ _ _ HB7.out HO7.out
           exact ⟨_, rfl, f1, HREP.out, HLEN.out, f2⟩)
end Go.Proofs.Ytnajljoggcbhoaa
