/- The document's channels: Clear, New. -/
import Derived.Test.YtoebbbghllkdgaaPortU
import Derived.Test.YtoebbbghllkdgaaPortV
namespace Go.Proofs.Ytoebbbghllkdgaa
open Go.ChangeShapes Go.WideShapes Go.ChangeAt Go.RowKit
set_option linter.unusedVariables false

set_option maxRecDepth 100000 in
set_option maxHeartbeats 8000000 in
theorem rclear_any (w : World) (rb : Nat) (cs : List Ch) (st : Nat → Ps) (R : Nat → Prop) (p : Int) (h : DpAt rb cs st w R) (hlen : cs.length ≤ 1000) :
    Calls Try.prog 16 #[.pointer (some ⟨rb, 0, none⟩), .int .i64 p] w fun e w' => ∃ R', e = .returned (.tuple #[]) ∧ DpAt rb cs (clS cs st p cs.length) w' R' ∧ GrowS R R' w w' := by
  obtain ⟨n, hn⟩ : ∃ n, n = cs.length := ⟨_, rfl⟩
  rw [← hn]
  have H0 := Lib.hid h
  have HN := Lib.hid hn
  have hn2 : n ≤ 1000 := by omega
  clear h hn hlen
  go_enter Try.func16, Try.ntmps16
  go_wp2_with fail
  go_loopw [4] (fun s wr => ∃ (k : Nat) (R' : Nat → Prop), k ≤ n ∧ s = .int .i64 k ∧ Hid (DpAt rb cs (clS cs st p k) wr R' ∧ GrowS R R' w wr)) (fun s _ => n - (intOf s).toNat)
  case atStart => exact ⟨0, R, Nat.zero_le _, rfl, Lib.hid ⟨by rw [clS_zero]; exact H0.out, GrowS.of_below (Below.refl _ _)⟩⟩
  case round =>
    obtain ⟨k, R', hk, rfl, HW⟩ := hrel
    by_cases hlt : k < n
    · have d0 : decide ((k : Int) < (n : Int)) = true := decide_eq_true (by omega)
      have d1 : (0 : Int) ≤ (k : Int) := by omega
      have d2 : (k : Int) < (n : Int) := by omega
      have hx : cs[k]? = some (cs.getD k chZ) := by rw [List.getD_eq_getElem?_getD, List.getElem?_eq_getElem (by have := HN.out; omega)]; rfl
      obtain ⟨x, hxx⟩ : ∃ x, x = cs.getD k chZ := ⟨_, rfl⟩
      rw [← hxx] at hx
      obtain ⟨G, cap, cur, la, lc, q1, q2, q3, q4, q5, q6, q7⟩ := HW.out.1.at_ hx
      have b0 : wr.cell? ⟨rb, 0, none⟩ = some (.slice (some ⟨G, 0, none⟩) n cap) := by rw [HN.out]; exact cell_in q1 rfl
      obtain ⟨_, _, c2, _, c4, c5, _, u4, u5, _⟩ := pc_cells q2 q3
      rw [clS_at] at q3 q4 q5 c4 c5
      obtain ⟨m, hm⟩ : ∃ m, m = (st k).l.length := ⟨_, rfl⟩
      obtain ⟨lost, hl⟩ : ∃ m, m = (st k).lost := ⟨_, rfl⟩
      obtain ⟨f, hf⟩ : ∃ f, f = x.to := ⟨_, rfl⟩
      rw [← hm] at c4
      rw [← hl] at c5
      rw [← hf] at c2
      have hrbG : ¬ rb = G := fun e => q7 e.symm
      have b1 : (wr.setCell ⟨G, k * 7 + 4, none⟩ (.slice none 0 0)).cell? ⟨rb, 0, none⟩ = some (.slice (some ⟨G, 0, none⟩) n cap) := (World.cell?_of_block (((But.refl G wr).set _ _).block rb (lt_of_block q1) hrbG)).trans b0
      have HFIN : Hid (f = p → DpAt rb cs (clS cs st p (k + 1)) ((wr.setCell ⟨G, k * 7 + 4, none⟩ (.slice none 0 0)).setCell ⟨G, k * 7 + 5, none⟩ (.int .i64 0)) (newR R' wr ((wr.setCell ⟨G, k * 7 + 4, none⟩ (.slice none 0 0)).setCell ⟨G, k * 7 + 5, none⟩ (.int .i64 0))) ∧ GrowS R' (newR R' wr ((wr.setCell ⟨G, k * 7 + 4, none⟩ (.slice none 0 0)).setCell ⟨G, k * 7 + 5, none⟩ (.int .i64 0))) wr ((wr.setCell ⟨G, k * 7 + 4, none⟩ (.slice none 0 0)).setCell ⟨G, k * 7 + 5, none⟩ (.int .i64 0))) := Lib.hid (fun e => by
        have hB : But G wr ((wr.setCell ⟨G, k * 7 + 4, none⟩ (.slice none 0 0)).setCell ⟨G, k * 7 + 5, none⟩ (.int .i64 0)) := ((But.refl G wr).set _ _).set _ _
        rw [← clS_yes hx (hf.symm.trans e)]
        obtain ⟨s, hs⟩ : ∃ s, s = st k := ⟨_, rfl⟩
        rw [← hs] at q3 q5 ⊢
        obtain ⟨l, lost', at_⟩ := s
        exact dp_set (st := clS cs st p k) (s' := ⟨[], 0, at_⟩) HW.out.1 hx q1 q2 (Below.refl _ _) hB (by rw [set_at (set_at q2)]) (fun m hm => by
            rw [Array.getElem?_setIfInBounds, if_neg (fun e => hm 5 (by omega) e.symm), Array.getElem?_setIfInBounds, if_neg (fun e => hm 4 (by omega) e.symm)])
          ⟨⟨none, 0, pc_set5 (pc_set4 (l' := []) (m := 0) q3 rfl), .inl ⟨rfl, rfl, rfl⟩⟩, q5.1, q5.2.1, by simp⟩)
      have HX := Lib.hid (And.intro hx hf)
      clear q1 q2 q3 q4 q5 q6 hx hxx hm hl hf
      by_cases e1 : f = p
      · subst e1
        go_wp2_with fail
        go_roundw
        case rel =>
          obtain ⟨r1, r2⟩ := HFIN.out rfl
          exact ⟨k + 1, _, by omega, by go_num, Lib.hid ⟨r1, HW.out.2.trans r2⟩⟩
        case measure => simp [intOf]; omega
      · have f4 : (f == p) = false := by simpa using e1
        have HE1 := Lib.hid e1
        clear e1
        go_wp2_with fail
        go_roundw
        case rel =>
          have g := HW.out
          rw [clS_no HX.out.1 (by rw [← HX.out.2]; exact HE1.out)] at g
          exact ⟨k + 1, R', by omega, by go_num, Lib.hid g⟩
        case measure => simp [intOf]; omega
    · have d0 : decide ((k : Int) < (n : Int)) = false := decide_eq_false (by omega)
      obtain ⟨ao, cap, q1⟩ := HW.out.1.box
      have b0 : wr.cell? ⟨rb, 0, none⟩ = some (.slice ao n cap) := by rw [HN.out]; exact cell_in q1 rfl
      have hkn : k = n := by omega
      subst hkn
      clear q1
      go_wp2_with fail
      go_end0
      exact ⟨R', rfl, HW.out.1, HW.out.2⟩
/-- So many are made. -/
def newL (l : List Ch) : List Value := l.flatMap (fun x => pcL x Ps.new none 0)
theorem Try.infoPt21 : (Try.prog.info? 54).map (fun i => (i.zero, i.size, i.bytes)) = some (some (.agg #[.bool false, .int .i64 0, .int .i64 0, .int .i64 0, .slice none 0 0, .int .i64 0, .int .i64 0]), 7, 72) := by kernel_rfl
structure NrAt (H : Nat) (l : List Ch) (ao : Option Addr) (cap : Nat) (w : World) (S : Nat → Prop) : Prop where
  box : w.heap[H]? = some (.cells #[.slice ao l.length cap] 52 (0, 0))
  row : RowR w H S 54 7 ao l.length cap (newL l)
  own : S H
  lt : ∀ k, S k → k < w.heap.size
theorem NrAt.out {H : Nat} {l : List Ch} {ao : Option Addr} {cap : Nat} {w : World} {S : Nat → Prop} (h : NrAt H l ao cap w S) : DpAt H l (fun _ => Ps.new) w S := by
  refine ⟨⟨ao, cap, h.box, ?_⟩, h.own, h.lt⟩
  rcases h.row.1.2 with ⟨h1, h2⟩ | ⟨G, cap', cur, hv, hb, hg, h3, h4, h5, h6⟩
  · exact .inl (List.eq_nil_of_length_eq_zero h2)
  · cases hv
    refine .inr ⟨G, cur, rfl, (h.row.2 G rfl).1, (h.row.2 G rfl).2, hg, fun i x hx => ⟨⟨none, 0, fun j u hu => ?_, .inl ⟨rfl, rfl, rfl⟩⟩, by show (0 : Int) ≤ 0; omega, by show (0 : Int) ≤ _; omega, by show (0 : Nat) ≤ _; omega⟩⟩
    have hj : j < 7 := by rcases pc_lt hu with h | h | h | h | h | h | h <;> omega
    have hi : i < l.length := by
      rcases Nat.lt_or_ge i l.length with h | h
      · exact h
      · rw [List.getElem?_eq_none h] at hx; cases hx
    have f := flat_at (fun x => pcL x Ps.new none 0) 7 (fun _ => rfl) l i j x hx hj
    have hln := h.row.1.1
    rw [← show newL l = l.flatMap (fun x => pcL x Ps.new none 0) from rfl, ← h6, List.getElem?_take_of_lt (by omega)] at f
    rw [← hu, ← f, Array.getElem?_toList]
set_option maxRecDepth 100000 in
set_option maxHeartbeats 8000000 in
theorem rnew_any (a : Option Addr) (n c : Nat) (w : World) (cs : List Ch) (hn : cs.length = n) (hsm : n ≤ 1000) (hl : Lies w 0 w.heap.size (.slice a n c) n 4 (cs.flatMap Ch.cells)) :
    Calls Try.prog 9 #[.slice a n c] w fun e w' => ∃ H S, e = .returned (.pointer (some ⟨H, 0, none⟩)) ∧ (DpAt H cs (fun _ => Ps.new) w' S ∧ (∀ k, S k → w.heap.size ≤ k) ∧ Below w.heap.size w w') := by
  have KA := Lib.hid (chs_read hn hl)
  have HN := Lib.hid hn
  obtain ⟨i0, hi0, hz0, hz1, hz2⟩ := info_parts Try.infoPt21
  have HI := Lib.hid hi0
  obtain ⟨V0, hV0⟩ : ∃ V, V = w.alloc (.cells #[.slice none 0 0] 52) := ⟨_, rfl⟩
  obtain ⟨H, hH⟩ : ∃ H, H = w.heap.size := ⟨_, rfl⟩
  have HV0 := Lib.hid hV0
  have HH := Lib.hid hH
  have HS : Hid (NrAt H [] none 0 V0 (fun k => k = H) ∧ Below w.heap.size w V0) := Lib.hid (by
    have h1 : V0.heap[H]? = some (.cells #[.slice none 0 0] 52 (0, 0)) := by rw [hV0, hH]; exact heap_alloc_new _ _
    exact ⟨⟨h1, RowR.start _ _ _ _ _, rfl, fun k hk => by rw [hk]; exact lt_of_block h1⟩, by rw [hV0]; exact below1 _ _⟩)
  clear hl hn hi0 hV0 hH
  go_enter Try.func9, Try.ntmps9
  go_upto_region 2 with fail
  rw [← HV0.out, ← HH.out]
  go_wp2_with fail
  go_loopw [4] (fun s wr => ∃ (k : Nat) (ao : Option Addr) (cap : Nat) (S : Nat → Prop), k ≤ n ∧ s = .int .i64 k ∧ Hid (NrAt H (cs.take k) ao cap wr S ∧ (∀ j, S j → w.heap.size ≤ j) ∧ Below w.heap.size w wr)) (fun s _ => n - (intOf s).toNat)
  case atStart => exact ⟨0, none, 0, _, Nat.zero_le _, rfl, Lib.hid ⟨HS.out.1, fun k hk => by rw [hk, HH.out]; exact Nat.le_refl _, HS.out.2⟩⟩
  case round =>
    clear HS
    obtain ⟨k, ao, cap, S, hk, rfl, HW⟩ := hrel
    by_cases hlt : k < n
    · have t0 : decide ((k : Int) < (n : Int)) = true := decide_eq_true (by omega)
      have t1 : (0 : Int) ≤ (k : Int) := by omega
      have t2 : (k : Int) < (n : Int) := by omega
      have HKL : Hid ((cs.take k).length = k) := Lib.hid (by rw [List.length_take]; have := HN.out; omega)
      have hcb : ∃ b off, a = some ⟨b, off, none⟩ := by
        obtain ⟨b, off, e, _⟩ := KA.out wr HW.out.2.2 k hlt
        exact ⟨b, off, e⟩
      obtain ⟨b, off, rfl⟩ := hcb
      obtain ⟨x, hx⟩ : ∃ x, x = cs.getD k chZ := ⟨_, rfl⟩
      have HX := Lib.hid hx
      obtain ⟨xs, hxs⟩ : ∃ xs, xs = newL (cs.take k) := ⟨_, rfl⟩
      have HXS := Lib.hid hxs
      have HTL : Hid (newL (cs.take (k + 1)) = newL (cs.take k) ++ pcL x Ps.new none 0) := Lib.hid (by rw [take_snocD chZ (by have := HN.out; omega), ← hx]; unfold newL; rw [List.flatMap_append]; simp)
      obtain ⟨xq, xf, xt, xz⟩ := x
      have KQ : Hid (∀ W : World, Below wr.heap.size wr W → W.cell? ⟨H, 0, none⟩ = some (.slice ao k cap) ∧ W.ownsRow 0 54 7 (.slice ao k cap) k xs ∧ W.cell? ⟨b, off + k * 4, none⟩ = some (.bool xq) ∧ W.cell? ⟨b, off + k * 4 + 1, none⟩ = some (.int .i64 xf) ∧ W.cell? ⟨b, off + k * 4 + 2, none⟩ = some (.int .i64 xt) ∧ W.cell? ⟨b, off + k * 4 + 3, none⟩ = some (.int .i64 xz)) := Lib.hid (fun W hW => by
        obtain ⟨b', off', e, ⟨g0, g1, g2, g3⟩, _⟩ := KA.out W (HW.out.2.2.trans (hW.mono HW.out.2.2.size)) k hlt
        cases e
        rw [← hx] at g0 g1 g2 g3
        have hb := (hW.block H (lt_of_block HW.out.1.box)).trans HW.out.1.box
        rw [HKL.out] at hb
        have hr := HW.out.1.row.1
        rw [HKL.out, ← hxs] at hr
        exact ⟨cell_in hb rfl, owns_later hr hW, g0, g1, g2, g3⟩)
      have KG : Hid (∀ W W2 : World, Below wr.heap.size wr W → W.grownBy W2 (Value.slice ao k cap).ownBlock → W2.cell? ⟨H, 0, none⟩ = some (.slice ao k cap) ∧ W2.frozen? ⟨H, 0, none⟩ = false) := Lib.hid (fun W W2 hW hg => by
        have hl0 := lt_of_block HW.out.1.box
        have hne : ∀ b, (Value.slice ao k cap).ownBlock = some b → b ≠ H := fun b hb => (HW.out.1.row.2 b (by rw [HKL.out]; exact hb)).2
        have hbx := (hg.block H (Nat.lt_of_lt_of_le hl0 hW.size) (fun e => hne H e.symm rfl)).trans ((hW.block H hl0).trans HW.out.1.box)
        rw [HKL.out] at hbx
        exact ⟨cell_in hbx rfl, free_in hbx _⟩)
      obtain ⟨VB, hVB⟩ : ∃ VB, VB = wr.alloc (.cells #[.bool xq, .int .i64 xf, .int .i64 xt, .int .i64 xz, .slice none 0 0, .int .i64 0, .int .i64 0] 54) := ⟨_, rfl⟩
      have HVB : Hid (Below wr.heap.size wr (wr.alloc (.cells #[.bool xq, .int .i64 xf, .int .i64 xt, .int .i64 xz, .slice none 0 0, .int .i64 0, .int .i64 0] 54))) := Lib.hid (below1 _ _)
      obtain ⟨m0, _, m1, m2, m3, m4⟩ := KQ.out wr (Below.refl _ _)
      obtain ⟨y0, _, y1, y2, y3, y4⟩ := KQ.out _ HVB.out
      clear hx hxs hVB VB
      go_upto_region 5 with fail
      go_region_law (first
        | (refine step_append_lie2 (by rfl) (.tmp 17) (.tmp 23) 50 (by rfl) 0 54 i0 _ 7 72 Try.underlying50 HI.out hz0 hz1 hz2 rfl (by omega) (.slice ao k cap) k xs (by rfl) (KQ.out _ (by repeat first | exact HVB.out | refine Below.drew ?_)).2.1 (.slice (some ⟨wr.heap.size, 0, none⟩) 1 1) wr.heap.size (wr.heap.size + 1) 1 [.bool xq, .int .i64 xf, .int .i64 xt, .int .i64 xz, .slice none 0 0, .int .i64 0, .int .i64 0] (by rfl) (one_lies (cs := #[.bool xq, .int .i64 xf, .int .i64 xt, .int .i64 xz, .slice none 0 0, .int .i64 0, .int .i64 0]) (heap_alloc_new wr _) rfl) (by intro u hu; simp at hu; rcases hu with h | h | h | h | h | h <;> subst h <;> rfl) (k + 1) rfl (by simp only [maxLen]; omega) (by omega) (Nat.zero_le _) ?_
           intro ao6 cap6 w6 hown6 hgrow6 hob6
           obtain ⟨z0, z1⟩ := KG.out _ w6 (by repeat first | exact HVB.out | refine Below.drew ?_) hgrow6
           obtain ⟨Vx, hVx, hgx, hobx⟩ : ∃ Vx : World, Below wr.heap.size wr Vx ∧ Vx.grownBy w6 (Value.slice ao k cap).ownBlock ∧ ((Value.slice ao6 (k + 1) cap6).ownBlock = (Value.slice ao k cap).ownBlock ∨ (Value.slice ao6 (k + 1) cap6).ownBlock = some Vx.heap.size) := ⟨_, (by repeat first | exact HVB.out | refine Below.drew ?_), hgrow6, hob6⟩
           have h6 := Lib.hid (And.intro hown6 (And.intro hVx (And.intro hgx hobx)))
           clear hown6 hgrow6 hob6 hVx hgx hobx)
        | fail "no arm")
      all_goals go_wp2_with fail
      all_goals go_roundw
      all_goals first
        | (case rel =>
            have hb1 := HW.out.1.box
            rw [HKL.out] at hb1
            have hr1 := HW.out.1.row
            rw [HKL.out, ← HXS.out] at hr1
            obtain ⟨r1, r2, r3, r4, r5, r6⟩ := app_box (slot := 0) hb1 HW.out.1.own HW.out.1.lt hr1 h6.out.1 ⟨Vx, h6.out.2.1, h6.out.2.2.1, h6.out.2.2.2⟩
            have hst := r6.step HW.out.2.2 HW.out.2.1
            have hln : (cs.take (k + 1)).length = k + 1 := by rw [List.length_take]; have := HN.out; omega
            refine ⟨k + 1, ao6, cap6, _, by omega, by go_num, Lib.hid ⟨?_, hst.2, by first | exact hst.1 | exact hst.1.drew⟩⟩
            refine ⟨?_, ?_, .inl HW.out.1.own, r4⟩
            · rw [hln]; exact r1
            · rw [hln, HTL.out, ← HXS.out]; exact r2)
        | (case measure => simp [intOf]; omega)
    · have t0 : decide ((k : Int) < (n : Int)) = false := decide_eq_false (by omega)
      have hks : k = n := by omega
      subst hks
      have HF : Hid (DpAt H cs (fun _ => Ps.new) wr S ∧ (∀ j, S j → w.heap.size ≤ j) ∧ Below w.heap.size w wr) := Lib.hid ⟨by
        have := HW.out.1.out
        rw [List.take_of_length_le (by rw [HN.out]; exact Nat.le_refl _)] at this
        exact this, HW.out.2.1, HW.out.2.2⟩
      clear HW
      go_wp2_with fail
      go_ret
      exact ⟨H, S, rfl, HF.out⟩
end Go.Proofs.Ytoebbbghllkdgaa
