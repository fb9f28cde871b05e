/- The program's log: Add. -/
import Derived.Test.YtebjgfdkmociaaaDoorJrnP
namespace Go.Proofs.YtebjgfdkmociaaaDoor
open Go.ChangeShapes Go.WideShapes Go.ChangeAt Go.RowKit
set_option linter.unusedVariables false

theorem below_drewJ {B : Nat} {a w : World} (d : Nat) (h : Below B a w) : Below B a (w.drewN d) := ⟨h.os, h.tape, h.output, h.size, h.block⟩
set_option maxRecDepth 100000 in
set_option maxHeartbeats 8000000 in
theorem jAdd_any {w : World} {H R : Nat} {S : Nat → Prop} {l : List Ent} {x : Int} (h : LgAt H R l x w S) (a : Option Addr) (n c : Nat) (es : List Ent) (hn : es.length = n) (hl : Lies w 0 w.heap.size (.slice a n c) n 4 (es.flatMap Ent.cells)) (hR : R ≤ 65536) (hlR : l.length ≤ R) (hs : n ≤ 100000) (hnc : n ≤ c) (hx : 0 ≤ x ∧ x ≤ 4611686018427387904) :
    Calls Tryd.prog 8 #[.pointer (some ⟨H, 0, none⟩), .slice a n c] w fun e w' => ∃ S', e = .returned (.int .i64 (fitJ R l.length n : Nat)) ∧ LgAt H R (l ++ es.take (fitJ R l.length n)) (x + (n - (fitJ R l.length n : Nat))) w' S' ∧ GrowS S S' w w' := by
  have HM := Lib.hid (jmade_any h)
  obtain ⟨ao, cap, h⟩ := h
  have HL := Lib.hid h
  obtain ⟨m, hm⟩ : ∃ m, m = l.length := ⟨_, rfl⟩
  have b1 : w.cell? ⟨H, 1, none⟩ = some (.int .i64 R) := cell_in h.box rfl
  have b2 : w.cell? ⟨H, 2, none⟩ = some (.slice ao m cap) := by rw [hm]; exact cell_in h.box rfl
  have b3 : w.cell? ⟨H, 3, none⟩ = some (.int .i64 x) := cell_in h.box rfl
  rw [← hm] at hlR ⊢
  have HLI := Lib.hid hl
  have HN := Lib.hid hn
  have HMM := Lib.hid hm
  clear h hl hn hm
  obtain ⟨f, hf⟩ : ∃ f, f = fitJ R m n := ⟨_, rfl⟩
  rw [← hf]
  have hfn : f ≤ n ∧ m + f ≤ R := by rw [hf]; unfold fitJ; omega
  have KW : Hid (∀ W : World, Below w.heap.size w W → LgP W H S R l x ao cap) := Lib.hid (fun W hW => HL.out.later hW)
  obtain ⟨xs, hxs⟩ : ∃ xs, xs = l.flatMap Ent.cells := ⟨_, rfl⟩
  obtain ⟨ys, hys⟩ : ∃ ys, ys = (es.take f).flatMap Ent.cells := ⟨_, rfl⟩
  have HXY := Lib.hid (And.intro hxs hys)
  have HYO : Hid (∀ u ∈ ys, u.oneCell' = true) := Lib.hid (by rw [hys]; exact ents_one _)
  have KQ : Hid (∀ W : World, Below w.heap.size w W → W.ownsRow 0 47 4 (.slice ao m cap) m xs ∧ Lies W 0 w.heap.size (.slice a f c) f 4 ys) := Lib.hid (fun W hW => by
    refine ⟨?_, ?_⟩
    · rw [HMM.out, hxs]; exact (KW.out W hW).row.1
    · have h1 := (HLI.out.keep (SameIn.of_below hW (Nat.le_refl _))).front (m := f) hfn.1
      rw [takeE_flat, ← hys] at h1
      exact h1)
  have KG : Hid (∀ W W2 : World, Below w.heap.size w W → W.grownBy W2 (Value.slice ao m cap).ownBlock → (∃ u, W2.cell? ⟨H, 2, none⟩ = some u) ∧ W2.frozen? ⟨H, 2, none⟩ = false) := Lib.hid (fun W W2 hW hg => by
    have h2 := KW.out W hW
    have hbx := (hg.block H (h2.lt H h2.own) (fun e => (h2.row.2 H (by rw [← HMM.out]; exact e.symm)).2 rfl)).trans h2.box
    exact ⟨⟨_, cell_in hbx rfl⟩, free_in hbx _⟩)
  obtain ⟨i0, hi0, hz0, hz1, hz2⟩ := info_parts Tryd.infoJE
  have HI := Lib.hid hi0
  have l0 : (0 : Int) ≤ (f : Int) := by omega
  have l1 : (f : Int) ≤ (c : Int) := by omega
  have l2 : (f : Int) ≤ (n : Int) := by omega
  have hfs : f ≤ 100000 := by omega
  have hms : m ≤ 65536 := by omega
  have HF := Lib.hid hfn
  have HFF := Lib.hid hf
  have HLEN : Hid (m + f = (l ++ es.take f).length) := Lib.hid (by rw [List.length_append, List.length_take, HN.out, ← HMM.out]; have := HF.out; omega)
  have HX := Lib.hid hx
  clear hxs hys hi0 hfn
  rcases Nat.lt_or_ge (R - m) n with hlt | hge
  · have t0 : decide ((R : Int) - (m : Int) < (n : Int)) = true := decide_eq_true (by omega)
    have hfe : (if (R : Int) - (m : Int) < (n : Int) then (R : Int) - (m : Int) else (n : Int)) = (f : Int) := by rw [if_pos (by omega), hf]; unfold fitJ; omega
    have HFE := Lib.hid hfe
    clear hf hlt hfe
    go_enter Tryd.func8, Tryd.ntmps8
    go_upto_region 3 with (go_at_call 21; refine HM.out.mono ?_; rintro e w1 ⟨rfl, hw1⟩; rw [hw1]; clear hw1)
    go_quiet (fail)
    rw [HFE.out]
    go_upto_region 4 with fail
    go_region_law (first
      | (refine step_append_lie2 (by rfl) (.tmp 26) (.tmp 29) 31 (by rfl) 0 47 i0 _ 4 32 Tryd.underlying31 HI.out hz0 hz1 hz2 rfl (by omega) (.slice ao m cap) m xs (by rfl) (KQ.out _ (by repeat first | exact Below.refl _ _ | refine Below.drew ?_ | refine below_drewJ _ ?_)).1 (.slice a f c) 0 w.heap.size f ys (by rfl) (KQ.out _ (by repeat first | exact Below.refl _ _ | refine Below.drew ?_ | refine below_drewJ _ ?_)).2 HYO.out (m + f) rfl (by simp only [maxLen]; omega) (by omega) (Nat.zero_le _) ?_
         intro ao2 cap2 w6 hown6 hgrow6 hob6
         obtain ⟨⟨u6, y0⟩, y1⟩ := KG.out _ w6 (by repeat first | exact Below.refl _ _ | refine Below.drew ?_ | refine below_drewJ _ ?_) hgrow6))
    all_goals
      (obtain ⟨S7, hp7', g7'⟩ := LgP.app (ys := es.take f) (KW.out w (Below.refl _ _)) HMM.out HLEN.out (by rw [← HXY.out.1, ← HXY.out.2]; exact hown6) ⟨_, (by repeat first | exact Below.refl _ _ | refine Below.drew ?_ | refine below_drewJ _ ?_), hgrow6, hob6⟩
       obtain ⟨w7, hw7⟩ : ∃ w7, w7 = w6.setCell ⟨H, 2, none⟩ (.slice ao2 (m + f) cap2) := ⟨_, rfl⟩
       rw [← hw7] at hp7' g7' ⊢
       have hp7 := Lib.hid hp7'
       have g7 := Lib.hid g7'
       have q7 : w7.cell? ⟨H, 3, none⟩ = some (.int .i64 x) := cell_in hp7'.box rfl
       have q8 : w7.frozen? ⟨H, 3, none⟩ = false := free_in hp7'.box _
       clear hw7 hown6 hgrow6 hob6 y0 y1 b1 b2 b3 hp7' g7'
       go_wp2_with fail
       go_ret
       obtain ⟨h8, g8⟩ := hp7.out.setX (x + ((n : Int) - (f : Int)))
       exact ⟨_, rfl, ⟨_, _, h8⟩, g7.out.trans g8⟩)
  · have t0 : decide ((R : Int) - (m : Int) < (n : Int)) = false := decide_eq_false (by omega)
    have hfe : (if (R : Int) - (m : Int) < (n : Int) then (R : Int) - (m : Int) else (n : Int)) = (f : Int) := by rw [if_neg (by omega), hf]; unfold fitJ; omega
    have HFE := Lib.hid hfe
    clear hf hge hfe
    go_enter Tryd.func8, Tryd.ntmps8
    go_upto_region 3 with (go_at_call 21; refine HM.out.mono ?_; rintro e w1 ⟨rfl, hw1⟩; rw [hw1]; clear hw1)
    go_quiet (fail)
    rw [HFE.out]
    go_upto_region 4 with fail
    go_region_law (first
      | (refine step_append_lie2 (by rfl) (.tmp 26) (.tmp 29) 31 (by rfl) 0 47 i0 _ 4 32 Tryd.underlying31 HI.out hz0 hz1 hz2 rfl (by omega) (.slice ao m cap) m xs (by rfl) (KQ.out _ (by repeat first | exact Below.refl _ _ | refine Below.drew ?_ | refine below_drewJ _ ?_)).1 (.slice a f c) 0 w.heap.size f ys (by rfl) (KQ.out _ (by repeat first | exact Below.refl _ _ | refine Below.drew ?_ | refine below_drewJ _ ?_)).2 HYO.out (m + f) rfl (by simp only [maxLen]; omega) (by omega) (Nat.zero_le _) ?_
         intro ao2 cap2 w6 hown6 hgrow6 hob6
         obtain ⟨⟨u6, y0⟩, y1⟩ := KG.out _ w6 (by repeat first | exact Below.refl _ _ | refine Below.drew ?_ | refine below_drewJ _ ?_) hgrow6))
    all_goals
      (obtain ⟨S7, hp7', g7'⟩ := LgP.app (ys := es.take f) (KW.out w (Below.refl _ _)) HMM.out HLEN.out (by rw [← HXY.out.1, ← HXY.out.2]; exact hown6) ⟨_, (by repeat first | exact Below.refl _ _ | refine Below.drew ?_ | refine below_drewJ _ ?_), hgrow6, hob6⟩
       obtain ⟨w7, hw7⟩ : ∃ w7, w7 = w6.setCell ⟨H, 2, none⟩ (.slice ao2 (m + f) cap2) := ⟨_, rfl⟩
       rw [← hw7] at hp7' g7' ⊢
       have hp7 := Lib.hid hp7'
       have g7 := Lib.hid g7'
       have q7 : w7.cell? ⟨H, 3, none⟩ = some (.int .i64 x) := cell_in hp7'.box rfl
       have q8 : w7.frozen? ⟨H, 3, none⟩ = false := free_in hp7'.box _
       clear hw7 hown6 hgrow6 hob6 y0 y1 b1 b2 b3 hp7' g7'
       go_wp2_with fail
       go_ret
       obtain ⟨h8, g8⟩ := hp7.out.setX (x + ((n : Int) - (f : Int)))
       exact ⟨_, rfl, ⟨_, _, h8⟩, g7.out.trans g8⟩)
end Go.Proofs.YtebjgfdkmociaaaDoor
