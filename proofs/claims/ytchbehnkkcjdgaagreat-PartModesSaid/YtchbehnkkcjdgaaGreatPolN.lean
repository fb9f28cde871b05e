/- The document's police, made. -/
import Derived.Test.YtchbehnkkcjdgaaGreatPolR
import Derived.Test.YtchbehnkkcjdgaaGreatPolM
import Derived.Test.YtchbehnkkcjdgaaGreatRights
import Derived.Lib.SliceRun
import Derived.BigRegion
import Derived.Deep.RegionLaw
namespace Go.Proofs.YtchbehnkkcjdgaaGreat
open Go.ChangeShapes Go.WideShapes Go.ChangeAt Go.RowKit
set_option linter.unusedVariables false

set_option maxRecDepth 100000 in
set_option maxHeartbeats 8000000 in
set_option maxRecDepth 100000 in
set_option maxHeartbeats 8000000 in
theorem prnew_any (w : World) (a : Option Addr) (n c : Nat) (ts : List Tk) (hn : ts.length = n) (hl : Lies w 0 w.heap.size (.slice a n c) n 6 (ts.flatMap Tk.cells)) :
    Calls Tryz.prog 41 #[.slice a n c] w fun e w' => (okN ts = true → ∃ rb R, e = .returned (.pointer (some ⟨rb, 0, none⟩)) ∧ PRg rb ts (List.replicate n (-1)) false w' R ∧ ∀ k, R k → w.heap.size ≤ k) ∧ (okN ts = false → e = .returned (.pointer none)) ∧ Below w.heap.size w w' := by
  by_cases hbig : 6 < n
  · have t0 : decide ((6 : Int) < (n : Int)) = true := decide_eq_true (by omega)
    have HO : Hid (okN ts = false) := Lib.hid (by unfold okN; rw [decide_eq_false (by omega)]; rfl)
    clear hl hn
    go_enter Tryz.func41, Tryz.ntmps41
    go_wp2_with fail
    go_ret
    exact ⟨fun h => (by rw [HO.out] at h; cases h), fun _ => rfl, Below.refl _ _⟩
  have s0 : n ≤ 6 := by omega
  have t0 : decide ((6 : Int) < (n : Int)) = false := decide_eq_false (by omega)
  have KA := Lib.hid (tks_read hn hl)
  have HNN := Lib.hid hn
  clear hl hn hbig
  go_enter Tryz.func41, Tryz.ntmps41
  go_wp2_with fail
  have HS0 : Hid (PRg w.heap.size [] [] false (w.alloc (.cells #[.slice none 0 0, .slice none 0 0, .bool false] 142)) (fun k => k = w.heap.size)) := Lib.hid ⟨none, none, 0, 0, ⟨heap_alloc_new _ _, RowR.start _ _ _ _ _, RowR.start _ _ _ _ _, rfl, fun k hk => by rw [hk]; simp⟩⟩
  have HB0 : Hid (Below w.heap.size w (w.alloc (.cells #[.slice none 0 0, .slice none 0 0, .bool false] 142))) := Lib.hid (below1 _ _)
  obtain ⟨rb, hrb⟩ : ∃ rb, rb = w.heap.size := ⟨_, rfl⟩
  have HRB := Lib.hid hrb
  rw [← hrb] at HS0
  rw [← hrb]
  clear hrb
  go_loopw [4] (fun s wr => ∃ (k : Nat) (R : Nat → Prop), k ≤ n ∧ s = .int .i64 k ∧ Hid (PRg rb (ts.take k) (List.replicate k (-1)) false wr R) ∧ Hid (∀ j, R j → w.heap.size ≤ j) ∧ Hid ((ts.take k).all okTk = true) ∧ Hid (Below w.heap.size w wr)) (fun s _ => n - (intOf s).toNat)
  case atStart => exact ⟨0, _, Nat.zero_le _, rfl, HS0, Lib.hid (fun j hj => by rw [hj, HRB.out]; exact Nat.le_refl _), Lib.hid rfl, HB0⟩
  case round =>
    clear HS0 HB0
    obtain ⟨k, R, hk, rfl, HP, HR, HA, HB⟩ := hrel
    by_cases hlt : k < n
    · have d0 : decide ((k : Int) < (n : Int)) = true := decide_eq_true (by omega)
      have d1 : (0 : Int) ≤ (k : Int) := by omega
      have d2 : (k : Int) < (n : Int) := by omega
      have hkL : k < ts.length := by have := HNN.out; omega
      obtain ⟨b, off, ea, kc0, hb⟩ := KA.out wr HB.out k hlt
      have KC : Hid (∀ Y, Below w.heap.size w Y → Y.cell? ⟨b, off + k * 6, none⟩ = some (.bool (tkAt ts k).hi) ∧ Y.cell? ⟨b, off + k * 6 + 1, none⟩ = some (.int .i64 (tkAt ts k).t) ∧ Y.cell? ⟨b, off + k * 6 + 2, none⟩ = some (.int .i64 (tkAt ts k).d) ∧ Y.cell? ⟨b, off + k * 6 + 3, none⟩ = some (.int .i64 (tkAt ts k).v) ∧ Y.cell? ⟨b, off + k * 6 + 4, none⟩ = some (.int .i64 (tkAt ts k).lo) ∧ Y.cell? ⟨b, off + k * 6 + 5, none⟩ = some (.int .i64 (tkAt ts k).top)) := Lib.hid (fun Y hY => by
        obtain ⟨b', off', e', c', _⟩ := KA.out Y hY k hlt
        cases ea.symm.trans e'
        exact c')
      subst ea
      obtain ⟨k0, k1, k2, k3, k4, k5⟩ := kc0
      have HTK := Lib.hid (take_snoc hkL)
      obtain ⟨x, hx⟩ : ∃ x, x = tkAt ts k := ⟨_, rfl⟩
      rw [← hx] at k0 k1 k2 k3 k4 k5 KC HTK
      have HX := Lib.hid hx
      clear hb hx
      obtain ⟨x0, x1, x2, x3, x4, x5⟩ := x
      dsimp only at k0 k1 k2 k3 k4 k5 KC
      cases hok : okTk ⟨x0, x1, x2, x3, x4, x5⟩ with
      | false =>
        have HOK := Lib.hid hok
        have HNO : Hid (okN ts = false) := Lib.hid (by
          unfold okN
          rw [Bool.and_eq_false_iff]
          right
          rw [List.all_eq_false]
          exact ⟨ts[k], List.getElem_mem hkL, by rw [← tkAt_eq hkL, ← HX.out, hok]; simp⟩)
        clear hok hkL
        go_wp2_with (go_at_call 94; refine (refTask_any _ _ _ _ _ _ _).mono ?_; rintro e w5 ⟨rfl, hb5'⟩; rw [HOK.out]; have hb5 := Lib.hid hb5'; clear hb5')
        go_ret
        exact ⟨fun h => (by rw [HNO.out] at h; cases h), fun _ => rfl, HB.out.trans (hb5.out.mono HB.out.size)⟩
      | true =>
        have HOK := Lib.hid hok
        obtain ⟨ao, bo, c1, c2, hp⟩ := HP.out
        obtain ⟨m, hm⟩ : ∃ m, m = (ts.take k).length := ⟨_, rfl⟩
        have hmk : m = k := by rw [hm, List.length_take]; omega
        obtain ⟨m2, hm2⟩ : ∃ m2, m2 = (List.replicate k (-1 : Int)).length := ⟨_, rfl⟩
        have hmk2 : m2 = k := by rw [hm2, List.length_replicate]
        obtain ⟨xs, hxs⟩ : ∃ xs, xs = (ts.take k).flatMap Tk.cells := ⟨_, rfl⟩
        obtain ⟨ys, hys⟩ : ∃ ys, ys = (List.replicate k (-1 : Int)).flatMap intCells := ⟨_, rfl⟩
        have HMS := Lib.hid (And.intro hm (And.intro hm2 (And.intro hxs hys)))
        have KP : Hid (∀ W : World, Below wr.heap.size wr W → PAt W rb R (ts.take k) (List.replicate k (-1)) false ao bo c1 c2) := Lib.hid (fun W hW => hp.later hW)
        have KQ : Hid (∀ W : World, Below wr.heap.size wr W → W.cell? ⟨rb, 0, none⟩ = some (.slice ao m c1) ∧ W.ownsRow 0 101 6 (.slice ao m c1) m xs) := Lib.hid (fun W hW => by
          have h2 := KP.out W hW
          rw [hm, hxs]
          exact ⟨cell_in h2.box rfl, h2.rt.1⟩)
        have KG : Hid (∀ W W2 : World, Below wr.heap.size wr W → W.grownBy W2 (Value.slice ao m c1).ownBlock → (∃ u, W2.cell? ⟨rb, 0, none⟩ = some u) ∧ W2.frozen? ⟨rb, 0, none⟩ = false) := Lib.hid (fun W W2 hW hg => by
          have h2 := KP.out W hW
          have hbx := (hg.block rb (h2.lt rb h2.own) (fun e => (h2.rt.2 rb (by rw [← hm]; exact e.symm)).2 rfl)).trans h2.box
          exact ⟨⟨_, cell_in hbx rfl⟩, free_in hbx _⟩)
        obtain ⟨i0, hi, hz0, hz1, hz2⟩ := info_parts Tryz.infoTk16
        have HI := Lib.hid hi
        obtain ⟨i1, hi1, hy0, hy1, hy2⟩ := info_parts Tryz.infoInt16
        have HI1 := Lib.hid hi1
        have HBR := Lib.hid (Below.refl wr.heap.size wr)
        have hm6 : m ≤ 6 := by omega
        have hm26 : m2 ≤ 6 := by omega
        have HK := Lib.hid (And.intro hmk hmk2)
        clear hp hm hm2 hxs hys hi hi1 hmk hmk2 hok hkL
        go_wp2_with (go_at_call 94; refine (refTask_any _ _ _ _ _ _ _).mono ?_; rintro e w5 ⟨rfl, hb5'⟩; rw [HOK.out]; obtain ⟨j0, j1, j2, j3, j4, j5⟩ := KC.out w5 (HB.out.trans (hb5'.mono HB.out.size)); obtain ⟨q0, q1⟩ := KQ.out w5 hb5'; clear q1; have hb5 := Lib.hid hb5'; clear hb5')
        have HV : Hid (∀ W : World, W.heap = (w5.alloc (.cells #[.bool x0, .int .i64 x1, .int .i64 x2, .int .i64 x3, .int .i64 x4, .int .i64 x5] 101)).heap → Below wr.heap.size wr (w5.alloc (.cells #[.bool x0, .int .i64 x1, .int .i64 x2, .int .i64 x3, .int .i64 x4, .int .i64 x5] 101)) → W.ownsRow 0 101 6 (.slice ao m c1) m xs ∧ Lies W w5.heap.size (w5.heap.size + 1) (.slice (some ⟨w5.heap.size, 0, none⟩) 1 1) 1 6 [.bool x0, .int .i64 x1, .int .i64 x2, .int .i64 x3, .int .i64 x4, .int .i64 x5]) := Lib.hid (fun W hW hb => by
          refine ⟨owns_hold (KQ.out _ hb).2 ⟨by rw [hW]; exact Nat.le_refl _, fun g _ => by rw [hW]⟩, one_lies (cs := #[.bool x0, .int .i64 x1, .int .i64 x2, .int .i64 x3, .int .i64 x4, .int .i64 x5]) (t := 101) (by rw [hW]; exact heap_alloc_new _ _) rfl⟩)
        have HVB : Hid (Below wr.heap.size wr (w5.alloc (.cells #[.bool x0, .int .i64 x1, .int .i64 x2, .int .i64 x3, .int .i64 x4, .int .i64 x5] 101))) := Lib.hid (hb5.out.alloc hb5.out.size _)
        obtain ⟨p0, p1⟩ := KQ.out _ HVB.out
        clear p1
        go_wp2_with fail
        go_region_law (first
          | (refine step_append_lie2 (by rfl) _ _ 22 (by rfl) 0 101 i0 _ 6 48 Tryz.underlying22 HI.out hz0 hz1 hz2 rfl (by omega) (.slice ao m c1) m xs (by rfl) (HV.out _ (by rfl) HVB.out).1 (.slice (some ⟨w5.heap.size, 0, none⟩) 1 1) w5.heap.size (w5.heap.size + 1) 1 [.bool x0, .int .i64 x1, .int .i64 x2, .int .i64 x3, .int .i64 x4, .int .i64 x5] (by rfl) (HV.out _ (by rfl) HVB.out).2 (tk_one ⟨x0, x1, x2, x3, x4, x5⟩) (m + 1) rfl (by simp only [maxLen]; omega) (by omega) (Nat.zero_le _) ?_
             intro ao2 cap2 w6 hown6 hgrow6 hob6
             obtain ⟨⟨u6, y0⟩, y1⟩ := KG.out _ w6 (by repeat first | exact HVB.out | refine Below.drew ?_ | refine b_alloc ?_ (Nat.le_refl _) _ | exact hb5.out) hgrow6))
        all_goals
          (obtain ⟨R7, hp7', g7'⟩ := PAt.appT (x := ⟨x0, x1, x2, x3, x4, x5⟩) (KP.out wr HBR.out) HMS.out.1 (by rw [← HMS.out.2.2.1]; exact hown6) ⟨_, (by repeat first | exact HVB.out | refine Below.drew ?_ | refine b_alloc ?_ (Nat.le_refl _) _ | exact hb5.out), hgrow6, hob6⟩
           obtain ⟨w7, hw7⟩ : ∃ w7, w7 = w6.setCell ⟨rb, 0, none⟩ (.slice ao2 (m + 1) cap2) := ⟨_, rfl⟩
           rw [← hw7] at hp7' g7' ⊢
           rw [← HTK.out] at hp7'
           have hp7 := Lib.hid hp7'
           have g7 := Lib.hid g7'
           clear hw7 hown6 hgrow6 hob6 y0 y1 q0 p0 j0 j1 j2 j3 j4 j5
           have HB7 : Hid (Below w.heap.size w w7 ∧ ∀ j, R7 j → w.heap.size ≤ j) := Lib.hid (g7.out.step HB.out HR.out)
           have HV7B : Hid (Below w7.heap.size w7 (w7.alloc (.cells #[.int .i64 (-1)] 3))) := Lib.hid (below1 _ _)
           have q7 : w7.cell? ⟨rb, 1, none⟩ = some (.slice bo m2 c2) := by
             rw [HMS.out.2.1]
             exact cell_in hp7.out.box rfl
           have HV7 : Hid ((w7.alloc (.cells #[.int .i64 (-1)] 3)).ownsRow 0 3 1 (.slice bo m2 c2) m2 ys ∧ Lies (w7.alloc (.cells #[.int .i64 (-1)] 3)) w7.heap.size (w7.heap.size + 1) (.slice (some ⟨w7.heap.size, 0, none⟩) 1 1) 1 1 [.int .i64 (-1)]) := Lib.hid (by
             have h2 := hp7.out.later HV7B.out
             refine ⟨?_, one_lies (cs := #[.int .i64 (-1)]) (t := 3) (heap_alloc_new _ _) rfl⟩
             rw [HMS.out.2.1, HMS.out.2.2.2]
             exact h2.rl.1)
           have KG7 : Hid (∀ W2 : World, (w7.alloc (.cells #[.int .i64 (-1)] 3)).grownBy W2 (Value.slice bo m2 c2).ownBlock → (∃ u, W2.cell? ⟨rb, 1, none⟩ = some u) ∧ W2.frozen? ⟨rb, 1, none⟩ = false) := Lib.hid (fun W2 hg => by
             have h2 := hp7.out.later HV7B.out
             have hbx := (hg.block rb (h2.lt rb h2.own) (fun e => (h2.rl.2 rb (by rw [← HMS.out.2.1]; exact e.symm)).2 rfl)).trans h2.box
             exact ⟨⟨_, cell_in hbx rfl⟩, free_in hbx _⟩)
           go_wp2_with (first
             | (refine wpList_append_lie2 (by rfl) (.tmp 39) (.tmp 40) 24 (by rfl) 0 3 i1 _ 1 8 Tryz.underlying24 HI1.out hy0 hy1 hy2 rfl (by omega) (.slice bo m2 c2) m2 ys (by rfl) HV7.out.1 (.slice (some ⟨w7.heap.size, 0, none⟩) 1 1) w7.heap.size (w7.heap.size + 1) 1 [.int .i64 (-1)] (by rfl) HV7.out.2 (in_one (-1)) (m2 + 1) rfl (by simp only [maxLen]; omega) (by omega) (Nat.zero_le _) ?_
                intro ao8 cap8 w8 hown8' hgrow8' hob8'
                obtain ⟨⟨u8, y0⟩, y1⟩ := KG7.out w8 hgrow8'
                have hown8 := Lib.hid hown8'
                have hgrow8 := Lib.hid hgrow8'
                have hob8 := Lib.hid hob8'
                clear hown8' hgrow8' hob8')
             | fail "no arm")
           obtain ⟨R9, hp9, g9⟩ := PAt.appL (x := -1) hp7.out HMS.out.2.1 (by rw [← HMS.out.2.2.2]; exact hown8.out) ⟨_, HV7B.out, hgrow8.out, hob8.out⟩
           have HP9 : Hid (PRg rb (ts.take (k + 1)) (List.replicate (k + 1) (-1)) false (w8.setCell ⟨rb, 1, none⟩ (.slice ao8 (m2 + 1) cap8)) R9) := Lib.hid ⟨_, _, _, _, by
             rw [show List.replicate (k + 1) (-1 : Int) = List.replicate k (-1 : Int) ++ [-1] from List.replicate_succ']
             exact hp9⟩
           have G9 := Lib.hid (g9.step HB7.out.1 HB7.out.2)
           clear hp9 g9
           go_roundw
           case rel =>
             refine ⟨k + 1, R9, by omega, by go_num, HP9, Lib.hid G9.out.2, Lib.hid ?_, Lib.hid G9.out.1⟩
             · rw [HTK.out, List.all_append, HA.out]
               simp [HOK.out]
           case measure => simp [intOf]; omega)
    · have d0 : decide ((k : Int) < (n : Int)) = false := decide_eq_false (by omega)
      have HKN : Hid (k = n) := Lib.hid (by omega)
      go_wp2_with fail
      go_ret
      have hkn := HKN.out
      have hnn := HNN.out
      subst hkn
      have hts : ts.take k = ts := List.take_of_length_le (by omega)
      have hp := HP.out
      have ha := HA.out
      rw [hts] at hp ha
      have hok : okN ts = true := by unfold okN; rw [ha, decide_eq_true (by omega)]; rfl
      exact ⟨fun _ => ⟨rb, R, rfl, hp, HR.out⟩, fun h => (by rw [hok] at h; cases h), HB.out⟩
end Go.Proofs.YtchbehnkkcjdgaaGreat
