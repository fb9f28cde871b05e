/- The document's log: Add. -/
import Derived.Test.YtebjgfdkmociaaaDoorJrnP
namespace Go.Proofs.YtebjgfdkmociaaaDoor
open Go.ChangeShapes Go.WideShapes Go.ChangeAt Go.RowKit
set_option linter.unusedVariables false

/-- What becomes of a log that is handed k of the entries. -/
theorem fit_step {R n k m : Nat} (h : n + fitJ R n k < R) : fitJ R n (k + 1) = fitJ R n k + 1 := by unfold fitJ at *; omega
theorem fit_full {R n k : Nat} (h : ¬ (n + fitJ R n k < R)) : fitJ R n (k + 1) = fitJ R n k := by unfold fitJ at *; omega
theorem fit_le (R n k : Nat) : fitJ R n k ≤ k := Nat.min_le_left _ _
theorem fit_eq {R n k : Nat} (h : n + fitJ R n k < R) : fitJ R n k = k := by unfold fitJ at *; omega
theorem fit_mono (R n : Nat) {k j : Nat} (h : k ≤ j) : fitJ R n k ≤ fitJ R n j := by unfold fitJ; omega
theorem below_drewK {B : Nat} {a w : World} (d : Nat) (h : Below B a w) : Below B a (w.drewN d) := ⟨h.os, h.tape, h.output, h.size, h.block⟩
theorem b_allocJ {B : Nat} {a w : World} (h : Below B a w) (hs : a.heap.size ≤ w.heap.size) (o : Obj) (hB : B ≤ a.heap.size := by omega) : Below B a (w.alloc o) := h.alloc (Nat.le_trans hB hs) o
set_option maxRecDepth 100000 in
set_option maxHeartbeats 8000000 in
theorem rAdd_any {w : World} {H R : Nat} {S : Nat → Prop} {l : List Ent} {x : Int} (h : DgAt H R l x w S) (a : Option Addr) (n c : Nat) (es : List Ent) (hn : es.length = n) (hl : Lies w 0 w.heap.size (.slice a n c) n 4 (es.flatMap Ent.cells)) (hal : 0 < n → ∀ b, S b → ∀ g off, a = some ⟨g, off, none⟩ → g ≠ b) (hR : R ≤ 65536) (hlR : l.length ≤ R) (hs : n ≤ 100000) (hx : 0 ≤ x ∧ x ≤ 4611686018427387904) :
    Calls Tryd.prog 10 #[.pointer (some ⟨H, 0, none⟩), .slice a n c] w fun e w' => ∃ S', e = .returned (.int .i64 (fitJ R l.length n : Nat)) ∧ DgAt H R (l ++ es.take (fitJ R l.length n)) (x + (n - (fitJ R l.length n : Nat))) w' S' ∧ GrowS S S' w w' := by
  have KA := Lib.hid (ents_read hn hl)
  have HN := Lib.hid hn
  have HAL := Lib.hid hal
  have HS0 := Lib.hid h
  obtain ⟨m, hm⟩ : ∃ m, m = l.length := ⟨_, rfl⟩
  rw [← hm] at hlR ⊢
  have HMM := Lib.hid hm
  have HX := Lib.hid hx
  obtain ⟨i0, hi0, hz0, hz1, hz2⟩ := info_parts Tryd.infoJR
  have HI := Lib.hid hi0
  clear h hl hn hal hm hx hi0
  go_enter Tryd.func10, Tryd.ntmps10
  go_wp2_with fail
  go_loopw [5, 6] (fun s5 s6 wr => ∃ (k : Nat) (S1 : Nat → Prop), k ≤ n ∧ s5 = .int .i64 (fitJ R m k : Nat) ∧ s6 = .int .i64 k ∧ Hid (DgAt H R (l ++ es.take (fitJ R m k)) (x + (k - (fitJ R m k : Nat))) wr S1 ∧ GrowS S S1 w wr)) (fun _ s _ => n - (intOf s).toNat)
  case atStart =>
    refine ⟨0, S, Nat.zero_le _, by simp [fitJ], rfl, Lib.hid ⟨?_, GrowS.of_below (Below.refl _ _)⟩⟩
    have h1 := HS0.out
    simpa [fitJ] using h1
  case round =>
    obtain ⟨k, S1, hk, rfl, rfl, HG⟩ := hrel
    by_cases hlt : k < n
    · have d0 : decide ((k : Int) < (n : Int)) = true := decide_eq_true (by omega)
      have d1 : (0 : Int) ≤ (k : Int) := by omega
      have d2 : (k : Int) < (n : Int) := by omega
      obtain ⟨ao, cap, hp⟩ := HG.out.1
      have HP := Lib.hid hp
      obtain ⟨f, hf⟩ : ∃ f, f = fitJ R m k := ⟨_, rfl⟩
      have hfk : f ≤ k ∧ m + f ≤ R := by rw [hf]; unfold fitJ; omega
      obtain ⟨u, hu⟩ : ∃ u, u = (l ++ es.take f).length := ⟨_, rfl⟩
      have huv : u = m + f := by rw [hu, List.length_append, List.length_take, HN.out, ← HMM.out]; omega
      obtain ⟨y, hy⟩ : ∃ y, y = x + ((k : Int) - (f : Int)) := ⟨_, rfl⟩
      have hyb : 0 ≤ y ∧ y ≤ 4611686018427487904 := by have := HX.out; omega
      rw [← hf, ← hy] at HP
      rw [← hf]
      have b0 : wr.cell? ⟨H, 0, none⟩ = some (.int .i64 R) := cell_in HP.out.box rfl
      have b1 : wr.cell? ⟨H, 1, none⟩ = some (.slice ao u cap) := by rw [hu]; exact cell_in HP.out.box rfl
      have b2 : wr.cell? ⟨H, 2, none⟩ = some (.int .i64 y) := cell_in HP.out.box rfl
      have f2 : wr.frozen? ⟨H, 2, none⟩ = false := free_in HP.out.box _
      have HF := Lib.hid hf
      have HU := Lib.hid hu
      have HY := Lib.hid hy
      have HFK := Lib.hid hfk
      have HUV := Lib.hid huv
      have hu7 : u ≤ 65536 := by omega
      have hf7 : f ≤ 100000 := by omega
      clear hp hf hu hy huv hfk
      by_cases hroom : u < R
      · have t0 : decide ((u : Int) < (R : Int)) = true := decide_eq_true (by omega)
        have HFN : Hid (fitJ R m (k + 1) = f + 1 ∧ f = k) := Lib.hid (by
          have h1 : m + fitJ R m k < R := by rw [← HF.out]; have := HUV.out; omega
          exact ⟨by rw [fit_step (m := 0) h1, ← HF.out], by rw [HF.out]; exact fit_eq h1⟩)
        obtain ⟨g, off, rfl, x0, _, hg⟩ := KA.out w (fun _ _ _ => rfl) k hlt
        have hgk : ∀ Y : World, Below wr.heap.size wr Y → Y.heap[g]? = w.heap[g]? := fun Y hY => by
          have hns : ¬ S g := fun hs => HAL.out (by omega) g hs g off rfl rfl
          rw [hY.block g (Nat.lt_of_lt_of_le hg HG.out.2.size)]
          exact HG.out.2.block g hg hns
        obtain ⟨e0, he0⟩ : ∃ e0, e0 = enAt es k := ⟨_, rfl⟩
        rw [← he0] at x0
        have HE0 := Lib.hid he0
        obtain ⟨p0, p1, p2, p3⟩ := e0
        dsimp only at x0
        have c0 : wr.cell? ⟨g, off + k * 4, none⟩ = some (.int .i64 p0) := (World.cell?_of_block (w := w) (hgk wr (Below.refl _ _))).trans x0.1
        have c1 : wr.cell? ⟨g, off + k * 4 + 1, none⟩ = some (.int .i64 p1) := (World.cell?_of_block (w := w) (hgk wr (Below.refl _ _))).trans x0.2.1
        have c2 : wr.cell? ⟨g, off + k * 4 + 2, none⟩ = some (.int .i64 p2) := (World.cell?_of_block (w := w) (hgk wr (Below.refl _ _))).trans x0.2.2.1
        have c3 : wr.cell? ⟨g, off + k * 4 + 3, none⟩ = some (.int .i64 p3) := (World.cell?_of_block (w := w) (hgk wr (Below.refl _ _))).trans x0.2.2.2
        obtain ⟨xs, hxs⟩ : ∃ xs, xs = (l ++ es.take f).flatMap Ent.cells := ⟨_, rfl⟩
        have HXS := Lib.hid hxs
        have KW : Hid (∀ W : World, Below wr.heap.size wr W → W.cell? ⟨H, 1, none⟩ = some (.slice ao u cap) ∧ W.ownsRow 0 50 4 (.slice ao u cap) u xs) := Lib.hid (fun W hW => by
          have h2 := HP.out.later hW
          rw [HU.out, HXS.out]
          exact ⟨cell_in h2.box rfl, h2.row.1⟩)
        have KG : Hid (∀ W W2 : World, Below wr.heap.size wr W → W.grownBy W2 (Value.slice ao u cap).ownBlock → (∃ u, W2.cell? ⟨H, 1, none⟩ = some u) ∧ W2.frozen? ⟨H, 1, none⟩ = false) := Lib.hid (fun W W2 hW hg => by
          have h2 := HP.out.later hW
          have hbx := (hg.block H (h2.lt H h2.own) (fun e => (h2.row.2 H (by rw [← HU.out]; exact e.symm)).2 rfl)).trans h2.box
          exact ⟨⟨_, cell_in hbx rfl⟩, free_in hbx _⟩)
        have KC : Hid (∀ W : World, Below wr.heap.size wr W → W.cell? ⟨g, off + k * 4, none⟩ = some (.int .i64 p0) ∧ W.cell? ⟨g, off + k * 4 + 1, none⟩ = some (.int .i64 p1) ∧ W.cell? ⟨g, off + k * 4 + 2, none⟩ = some (.int .i64 p2) ∧ W.cell? ⟨g, off + k * 4 + 3, none⟩ = some (.int .i64 p3)) := Lib.hid (fun W hW => ⟨(World.cell?_of_block (w := w) (hgk W hW)).trans x0.1, (World.cell?_of_block (w := w) (hgk W hW)).trans x0.2.1, (World.cell?_of_block (w := w) (hgk W hW)).trans x0.2.2.1, (World.cell?_of_block (w := w) (hgk W hW)).trans x0.2.2.2⟩)
        clear hxs x0 hgk hg he0
        go_upto_region 5 with fail
        go_quiet (fail)
        obtain ⟨w5, hw5⟩ : ∃ w5, w5 = wr.drewN nq := ⟨_, rfl⟩
        have HB5 : Hid (Below wr.heap.size wr w5) := Lib.hid (by rw [hw5]; exact below_drewK nq (Below.refl _ _))
        rw [← hw5]
        clear hw5 b0 b1 b2 f2 c0 c1 c2 c3
        obtain ⟨c0, c1, c2, c3⟩ := KC.out w5 HB5.out
        have b1 := (KW.out w5 HB5.out).1
        have HVB : Hid (Below wr.heap.size wr (w5.alloc (.cells #[.int .i64 p0, .int .i64 p1, .int .i64 p2, .int .i64 p3] 50))) := Lib.hid (HB5.out.alloc HB5.out.size _)
        have HV : Hid (∀ W : World, W.heap = (w5.alloc (.cells #[.int .i64 p0, .int .i64 p1, .int .i64 p2, .int .i64 p3] 50)).heap → W.ownsRow 0 50 4 (.slice ao u cap) u xs ∧ Lies W w5.heap.size (w5.heap.size + 1) (.slice (some ⟨w5.heap.size, 0, none⟩) 1 1) 1 4 [.int .i64 p0, .int .i64 p1, .int .i64 p2, .int .i64 p3]) := Lib.hid (fun W hW => by
          refine ⟨owns_hold (KW.out _ HVB.out).2 ⟨by rw [hW]; exact Nat.le_refl _, fun g _ => by rw [hW]⟩, one_lies (cs := #[.int .i64 p0, .int .i64 p1, .int .i64 p2, .int .i64 p3]) (t := 50) (by rw [hW]; exact heap_alloc_new _ _) rfl⟩)
        have p9 := (KW.out _ HVB.out).1
        go_upto_region 6 with fail
        go_region_law (first
          | (refine step_append_lie2 (by rfl) (.tmp 27) (.tmp 32) 29 (by rfl) 0 50 i0 _ 4 32 Tryd.underlying29 HI.out hz0 hz1 hz2 rfl (by omega) (.slice ao u cap) u xs (by rfl) (HV.out _ (by rfl)).1 (.slice (some ⟨w5.heap.size, 0, none⟩) 1 1) w5.heap.size (w5.heap.size + 1) 1 [.int .i64 p0, .int .i64 p1, .int .i64 p2, .int .i64 p3] (by rfl) (HV.out _ (by rfl)).2 (ent_one ⟨p0, p1, p2, p3⟩) (u + 1) rfl (by simp only [maxLen]; omega) (by omega) (Nat.zero_le _) ?_
             intro ao2 cap2 w6 hown6 hgrow6 hob6
             obtain ⟨⟨u6, y0⟩, y1⟩ := KG.out _ w6 (by repeat first | exact HVB.out | refine Below.drew ?_ | refine b_allocJ ?_ (Nat.le_refl _) _ | exact HB5.out) hgrow6))
        all_goals
          (obtain ⟨S7, hp7', g7'⟩ := DgP.app (ys := [⟨p0, p1, p2, p3⟩]) (HP.out) HU.out (show u + 1 = _ by rw [List.length_append, ← HU.out]; rfl) (by rw [← HXS.out]; simpa [Ent.cells] using hown6) ⟨_, (by repeat first | exact HVB.out | refine Below.drew ?_ | refine b_allocJ ?_ (Nat.le_refl _) _ | exact HB5.out), hgrow6, hob6⟩
           obtain ⟨w7, hw7⟩ : ∃ w7, w7 = w6.setCell ⟨H, 1, none⟩ (.slice ao2 (u + 1) cap2) := ⟨_, rfl⟩
           rw [← hw7] at hp7' g7' ⊢
           have hp7 := Lib.hid hp7'
           have g7 := Lib.hid g7'
           clear hw7 hown6 hgrow6 hob6 y0 y1 b1 c0 c1 c2 c3 p9 hp7' g7'
           go_wp2_with fail
           go_roundw
           case rel =>
             refine ⟨k + 1, S7, by omega, by rw [HFN.out.1]; go_num, by go_num, Lib.hid ⟨?_, HG.out.2.trans g7.out⟩⟩
             rw [HFN.out.1]
             refine ⟨ao2, cap2, ?_⟩
             have h8 := hp7.out
             rw [show x + (((k + 1 : Nat) : Int) - ((f + 1 : Nat) : Int)) = y by rw [HY.out]; omega]
             rw [HFN.out.2, take_en (by rw [HN.out]; exact hlt), ← List.append_assoc, ← HFN.out.2, show enAt es f = ⟨p0, p1, p2, p3⟩ by rw [HFN.out.2, ← HE0.out]]
             exact h8
           case measure => simp [intOf]; omega)
      · have t0 : decide ((u : Int) < (R : Int)) = false := decide_eq_false (by omega)
        have HFN : Hid (fitJ R m (k + 1) = f) := Lib.hid (by rw [fit_full (by rw [← HF.out]; have := HUV.out; omega), ← HF.out])
        go_upto_region 5 with fail
        go_quiet (fail)
        go_wp2_with fail
        go_roundw
        case rel =>
          obtain ⟨h8, g8⟩ := (HP.out.later (below_drewK nq (Below.refl _ _))).setX (y + 1)
          refine ⟨k + 1, S1, by omega, by rw [HFN.out], by go_num, Lib.hid ⟨?_, HG.out.2.trans ((GrowS.of_below (below_drewK nq (Below.refl _ _))).trans g8)⟩⟩
          rw [HFN.out]
          refine ⟨ao, cap, ?_⟩
          rw [show x + (((k + 1 : Nat) : Int) - (f : Int)) = y + 1 by rw [HY.out]; omega]
          exact h8
        case measure => simp [intOf]; omega
    · have d0 : decide ((k : Int) < (n : Int)) = false := decide_eq_false (by omega)
      have hkn : k = n := by omega
      subst hkn
      go_wp2_with fail
      go_ret
      exact ⟨_, rfl, HG.out.1, HG.out.2⟩
end Go.Proofs.YtebjgfdkmociaaaDoor
