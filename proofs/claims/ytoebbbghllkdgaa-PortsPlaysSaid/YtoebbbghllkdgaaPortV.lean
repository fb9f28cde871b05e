/- The program's channels: New. -/
import Derived.Test.YtoebbbghllkdgaaPortN
namespace Go.Proofs.Ytoebbbghllkdgaa
open Go.ChangeShapes Go.WideShapes Go.ChangeAt Go.RowKit
set_option linter.unusedVariables false

theorem chs_read {w : World} {a : Option Addr} {n c : Nat} {l : List Ch} (hn : l.length = n) (hl : Lies w 0 w.heap.size (.slice a n c) n 4 (l.flatMap Ch.cells)) : ∀ Y, Below w.heap.size w Y → ∀ i (hi : i < n), ∃ b off, a = some ⟨b, off, none⟩ ∧ (Y.cell? ⟨b, off + i * 4, none⟩ = some (.bool (l.getD i chZ).queue) ∧ Y.cell? ⟨b, off + i * 4 + 1, none⟩ = some (.int .i64 (l.getD i chZ).from_) ∧ Y.cell? ⟨b, off + i * 4 + 2, none⟩ = some (.int .i64 (l.getD i chZ).to) ∧ Y.cell? ⟨b, off + i * 4 + 3, none⟩ = some (.int .i64 (l.getD i chZ).size)) ∧ b < w.heap.size := by
  intro Y hY i hi
  obtain ⟨a', c', e, _, _, hc⟩ := hl.keep (SameIn.of_below hY (Nat.le_refl _))
  cases e
  rcases hc with h0 | ⟨b, off, rfl, _, hb, hc⟩
  · omega
  · have hx : l[i]? = some (l.getD i chZ) := by rw [List.getD_eq_getElem?_getD, List.getElem?_eq_getElem (by omega)]; rfl
    exact ⟨b, off, rfl, Lies.ch hc hx, hb⟩
theorem Try.infoPort : (Try.prog.info? 57).map (fun i => (i.zero, i.size, i.bytes)) = some (some .nilIface, 1, 16) := by kernel_rfl
theorem take_snocD {α : Type} {l : List α} {k : Nat} (z : α) (h : k < l.length) : l.take (k + 1) = l.take k ++ [l.getD k z] := by
  rw [List.take_add_one, List.getElem?_eq_getElem h, List.getD_eq_getElem?_getD, List.getElem?_eq_getElem h]
  rfl
set_option maxRecDepth 100000 in
set_option maxHeartbeats 8000000 in
theorem pnew_any (a : Option Addr) (n c : Nat) (w : World) (cs : List Ch) (hn : cs.length = n) (hsm : n ≤ 1000) (hl : Lies w 0 w.heap.size (.slice a n c) n 4 (cs.flatMap Ch.cells)) :
    Calls Try.prog 19 #[.slice a n c] w fun e w' => ∃ H S, e = .returned (.pointer (some ⟨H, 0, none⟩)) ∧ PrO H cs (fun _ => Ps.new) w' S ∧ (∀ k, S k → w.heap.size ≤ k) ∧ Below w.heap.size w w' := by
  have KA := Lib.hid (chs_read hn hl)
  have HN := Lib.hid hn
  have HD : Hid (∀ (x : Ch) (W : World), Calls Try.prog 21 #[.agg #[.bool x.queue, .int .i64 x.from_, .int .i64 x.to, .int .i64 x.size]] W fun e w' => ∃ T B A, e = .returned (.iface T (.pointer (some ⟨B, 0, none⟩))) ∧ poV B x = .iface T (.pointer (some ⟨B, 0, none⟩)) ∧ PoAt B x Ps.new w' A ∧ (∀ k, A k → W.heap.size ≤ k) ∧ Below W.heap.size W w') := Lib.hid (fun x W => (newport_any x W).mono (by
    rintro e w' ⟨B, A, rfl, q1, q2, q3⟩
    obtain ⟨T, hT, _⟩ := meth_from B x
    exact ⟨T, B, A, by rw [hT], hT, q1, q2, q3⟩))
  obtain ⟨i0, hi0, hz0, hz1, hz2⟩ := info_parts Try.infoPort
  have HI := Lib.hid hi0
  obtain ⟨V0, hV0⟩ : ∃ V, V = w.alloc (.cells #[.slice none 0 0] 60) := ⟨_, rfl⟩
  obtain ⟨H, hH⟩ : ∃ H, H = w.heap.size := ⟨_, rfl⟩
  have HV0 := Lib.hid hV0
  have HH := Lib.hid hH
  have HS : Hid (PrX H [] none 0 (fun _ => Ps.new) V0 (fun k => k = H ∨ False) ∧ Below w.heap.size w V0) := Lib.hid (by
    have h1 : V0.heap[H]? = some (.cells #[.slice none 0 0] 60 (0, 0)) := by rw [hV0, hH]; exact heap_alloc_new _ _
    exact ⟨star_two ⟨h1, RowR.start _ _ _ _ _, rfl, fun k hk => by rw [hk]; exact lt_of_block h1⟩ (Fam.nil _ _) (fun _ _ h => h), by rw [hV0]; exact below1 _ _⟩)
  clear hl hn hi0 hV0 hH
  go_enter Try.func19, Try.ntmps19
  go_upto_region 2 with fail
  rw [← HV0.out, ← HH.out]
  go_wp2_with fail
  go_loopw [10] (fun s wr => ∃ (k : Nat) (ps : List (Nat × Ch)) (ao : Option Addr) (cap : Nat) (S : Nat → Prop), k ≤ n ∧ s = .int .i64 k ∧ Hid (ps.map (·.2) = cs.take k ∧ ps.length = k ∧ PrX H ps ao cap (fun _ => Ps.new) wr S ∧ (∀ j, S j → w.heap.size ≤ j) ∧ Below w.heap.size w wr)) (fun s _ => n - (intOf s).toNat)
  case atStart =>
    exact ⟨0, [], none, 0, _, Nat.zero_le _, rfl, Lib.hid ⟨rfl, rfl, HS.out.1, fun k hk => by rcases hk with h | h; · rw [h, HH.out]; exact Nat.le_refl _
                                                                                              · exact h.elim, HS.out.2⟩⟩
  case round =>
    clear HS
    obtain ⟨k, ps, ao, cap, S, hk, rfl, HW⟩ := hrel
    by_cases hlt : k < n
    · have t0 : decide ((k : Int) < (n : Int)) = true := decide_eq_true (by omega)
      have t1 : (0 : Int) ≤ (k : Int) := by omega
      have t2 : (k : Int) < (n : Int) := by omega
      obtain ⟨b, off, ea, ⟨k0, k1, k2, k3⟩, hb⟩ := KA.out wr HW.out.2.2.2.2 k hlt
      subst ea
      obtain ⟨x, hx⟩ : ∃ x, x = cs.getD k chZ := ⟨_, rfl⟩
      rw [← hx] at k0 k1 k2 k3
      have HX := Lib.hid hx
      have HDX := Lib.hid (HD.out x)
      obtain ⟨xq, xf, xt, xs⟩ := x
      clear hb hx
      obtain ⟨V, hV⟩ : ∃ V, V = wr.alloc (.cells #[.bool xq, .int .i64 xf, .int .i64 xt, .int .i64 xs] 45) := ⟨_, rfl⟩
      obtain ⟨E, hE⟩ : ∃ E, E = wr.heap.size := ⟨_, rfl⟩
      have hbl : V.heap[E]? = some (.cells #[.bool xq, .int .i64 xf, .int .i64 xt, .int .i64 xs] 45 (0, 0)) := by rw [hV, hE]; exact heap_alloc_new _ _
      have hVB : Below wr.heap.size wr V := by rw [hV]; exact below1 _ _
      have HQ : Hid (wr.heap[H]? = some (.cells #[.slice ao k cap] 60 (0, 0)) ∧ wr.ownsRow 0 57 1 (.slice ao k cap) k (ps.flatMap bcV) ∧ (∀ b, (Value.slice ao k cap).ownBlock = some b → b < wr.heap.size ∧ b ≠ H)) := Lib.hid (by
        obtain ⟨_, hkl, ⟨R, F, ⟨g1, g2, g3, g4⟩, _⟩, _⟩ := HW.out
        rw [hkl] at g1 g2
        exact ⟨g1, g2.1, fun b hb => ⟨g4 b (g2.2 b hb).1, (g2.2 b hb).2⟩⟩)
      have hbox : V.heap[H]? = some (.cells #[.slice ao k cap] 60 (0, 0)) := (hVB.block H (lt_of_block HQ.out.1)).trans HQ.out.1
      have KX : Hid (∀ W : World, Below V.heap.size V W → (W.cell? ⟨H, 0, none⟩ = some (.slice ao k cap) ∧ W.cell? ⟨E, 0, none⟩ = some (.bool xq) ∧ W.cell? ⟨E, 1, none⟩ = some (.int .i64 xf) ∧ W.cell? ⟨E, 2, none⟩ = some (.int .i64 xt) ∧ W.cell? ⟨E, 3, none⟩ = some (.int .i64 xs))) := Lib.hid (fun W h => by
        have a1 := h.block H (lt_of_block hbox)
        have a2 := h.block E (lt_of_block hbl)
        exact ⟨cell_in (a1.trans hbox) rfl, cell_in (a2.trans hbl) rfl, cell_in (a2.trans hbl) rfl, cell_in (a2.trans hbl) rfl, cell_in (a2.trans hbl) rfl⟩)
      obtain ⟨c2, e0, e1, e2, e3⟩ := KX.out V (Below.refl _ _)
      have f2 : V.frozen? ⟨H, 0, none⟩ = false := free_in hbox 0
      have HV := Lib.hid hV
      have HE := Lib.hid hE
      have HEL := Lib.hid (lt_of_block hbl)
      have HVB := Lib.hid hVB
      have HZ : Hid (H < wr.heap.size ∧ wr.heap.size ≤ V.heap.size ∧ E < V.heap.size ∧ wr.heap.size ≤ E) := Lib.hid ⟨lt_of_block HQ.out.1, hVB.size, lt_of_block hbl, by rw [hE]; exact Nat.le_refl _⟩
      clear hV hE hbl hVB hbox
      go_upto_region 5 with fail
      rw [← HV.out]
      rw [← HE.out]
      go_region_law
        (first
          | (go_simp; go_at_call 21; go_loud (refine (HDX.out _).mono ?_; rintro e w9 ⟨T, B, A, rfl, q0, q1, q2, q3⟩; have h9 := Lib.hid (And.intro q0 q1); have g9 : Hid (Below V.heap.size V w9 ∧ ∀ j, A j → V.heap.size ≤ j) := Lib.hid (And.intro ((Below.refl _ _).drew.trans q3) q2); have k9 : Hid (∀ W : World, Below w9.heap.size w9 W → W.cell? ⟨H, 0, none⟩ = some (.slice ao k cap) ∧ W.cell? ⟨E, 0, none⟩ = some (.bool xq) ∧ W.cell? ⟨E, 1, none⟩ = some (.int .i64 xf) ∧ W.cell? ⟨E, 2, none⟩ = some (.int .i64 xt) ∧ W.cell? ⟨E, 3, none⟩ = some (.int .i64 xs)) := Lib.hid (fun W h => (KX.out W (((Below.refl _ _).drew.trans q3).trans (h.mono q3.size)))); obtain ⟨m0, m1, m2, m3, m4⟩ := k9.out w9 (Below.refl _ _); obtain ⟨n0, n1, n2, n3, n4⟩ := k9.out _ (below1 w9 (.cells #[.iface T (.pointer (some ⟨B, 0, none⟩))] 57)); clear q0 q1 q2 q3))
          | (go_loud (refine step_append_lie2 (by rfl) (.tmp 18) (.tmp 21) 58 (by rfl) 0 57 i0 _ 1 16 Try.underlying58 HI.out hz0 hz1 hz2 rfl (by omega) (.slice ao k cap) k (ps.flatMap bcV) (by rfl) (owns_later HQ.out.2.1 (HVB.out.trans ((g9.out.1.mono HVB.out.size).trans ((below1 w9 (.cells #[.iface T (.pointer (some ⟨B, 0, none⟩))] 57)).mono (Nat.le_trans HVB.out.size g9.out.1.size))))) (.slice (some ⟨w9.heap.size, 0, none⟩) 1 1) w9.heap.size (w9.heap.size + 1) 1 [.iface T (.pointer (some ⟨B, 0, none⟩))] (by rfl) (one_lies (cs := #[.iface T (.pointer (some ⟨B, 0, none⟩))]) (heap_alloc_new w9 _) rfl) (by intro u hu; simp at hu; subst hu; rfl) (k + 1) rfl (by simp only [maxLen]; omega) (by omega) (Nat.zero_le _) ?_
                      intro ao6 cap6 w10 hown' hgrow' hob'
                      have hown := Lib.hid hown'
                      have hgrow := Lib.hid hgrow'
                      have hob := Lib.hid hob'
                      have hb10 : w10.heap[H]? = some (.cells #[.slice ao k cap] 60 (0, 0)) := (by
                        have z1 := HZ.out
                        have z2 := g9.out.1.size
                        refine (hgrow'.block H (by simp; omega) (fun e => (HQ.out.2.2 _ e.symm).2 rfl)).trans (((below1 w9 (.cells #[.iface T (.pointer (some ⟨B, 0, none⟩))] 57)).block _ (by omega)).trans ((g9.out.1.block _ (by omega)).trans ((HVB.out.block _ (by omega)).trans HQ.out.1)))
                      )
                      have c10 : w10.cell? ⟨H, 0, none⟩ = some (.slice ao k cap) := cell_in hb10 rfl
                      have f10 : w10.frozen? ⟨H, 0, none⟩ = false := free_in hb10 0
                      have hE10 := (by
                        have z1 := HZ.out
                        have z2 := g9.out.1.size
                        exact hgrow'.block E (by simp; omega) (fun e => by have := (HQ.out.2.2 _ e.symm).1; omega))
                      have l0 : w10.cell? ⟨E, 0, none⟩ = some (.bool xq) := (World.cell?_of_block (a := ⟨E, 0, none⟩) hE10).trans n1
                      have l1 : w10.cell? ⟨E, 1, none⟩ = some (.int .i64 xf) := (World.cell?_of_block (a := ⟨E, 1, none⟩) hE10).trans n2
                      have l2 : w10.cell? ⟨E, 2, none⟩ = some (.int .i64 xt) := (World.cell?_of_block (a := ⟨E, 2, none⟩) hE10).trans n3
                      have l3 : w10.cell? ⟨E, 3, none⟩ = some (.int .i64 xs) := (World.cell?_of_block (a := ⟨E, 3, none⟩) hE10).trans n4
                      clear hown' hgrow' hob' hb10 hE10))
          | fail "no arm")
      all_goals go_wp2_with fail
      all_goals go_roundw
      all_goals first
        | (case rel =>
            obtain ⟨S', r1, r2⟩ : ∃ S', PrX H (ps ++ [(B, ⟨xq, xf, xt, xs⟩)]) ao6 cap6 (fun _ => Ps.new) (w10.setCell ⟨H, 0, none⟩ (.slice ao6 (k + 1) cap6)) S' ∧ GrowS S S' wr (w10.setCell ⟨H, 0, none⟩ (.slice ao6 (k + 1) cap6)) := by
              have hkl := HW.out.2.1
              have ho := hown.out
              rw [← h9.out.1, ← hkl] at ho
              have hg := hgrow.out
              have hb' := hob.out
              rw [← hkl] at hg hb' ⊢
              exact PrX.step HW.out.2.2.1 (HVB.out.trans (g9.out.1.mono HVB.out.size)) h9.out.2 (fun j hj => Nat.le_trans HVB.out.size (g9.out.2 j hj)) (below1 w9 (.cells #[.iface T (.pointer (some ⟨B, 0, none⟩))] 57)) ho hg hb'
            have st := r2.step HW.out.2.2.2.2 HW.out.2.2.2.1
            refine ⟨k + 1, ps ++ [(B, ⟨xq, xf, xt, xs⟩)], ao6, cap6, S', by omega, by go_num, Lib.hid ⟨?_, by rw [List.length_append, HW.out.2.1]; rfl, ?_, st.2, ?_⟩⟩
            · rw [List.map_append, HW.out.1, take_snocD chZ (by have := HN.out; omega), ← HX.out]; rfl
            · first | exact r1 | exact (prx_own _ _ _ _ _).later r1 (Below.refl _ _).drew
            · first | exact st.1 | exact st.1.drew)
        | (case measure => simp [intOf]; omega)
    · have t0 : decide ((k : Int) < (n : Int)) = false := decide_eq_false (by omega)
      have hks : k = n := by omega
      subst hks
      have HF : Hid (PrO H cs (fun _ => Ps.new) wr S ∧ (∀ j, S j → w.heap.size ≤ j) ∧ Below w.heap.size w wr) := Lib.hid ⟨by
        have := HW.out.2.2.1.out
        rw [HW.out.1, List.take_of_length_le (by rw [HN.out]; exact Nat.le_refl _)] at this
        exact this, HW.out.2.2.2.1, HW.out.2.2.2.2⟩
      clear HW
      go_wp2_with fail
      go_ret
      exact ⟨H, S, rfl, HF.out.1, HF.out.2.1, HF.out.2.2⟩
end Go.Proofs.Ytoebbbghllkdgaa
