/- Who gets a tick: the walk of newSystem. -/
import Derived.Test.YtmkohnpdpcefgaaGschP
import Derived.BigRegion
import Derived.Deep.RegionLaw
import Derived.Deep.CutRange
import Derived.Deep.CutBlock
namespace Go.Proofs.Ytmkohnpdpcefgaa
open Go.ChangeShapes Go.WideShapes Go.ChangeAt Go.RowKit
set_option linter.unusedVariables false

theorem Try.infoRowG : (Try.prog.info? 40).map (fun i => (i.zero, i.size, i.bytes)) = some (some (.slice none 0 0), 1, 24) := by kernel_rfl
set_option maxRecDepth 100000 in
set_option maxHeartbeats 8000000 in
theorem gsys_any (t : Nat) (pa : Option Addr) (pn pc : Nat) (w : World) (lo hi : Nat) (ps : List Pt) (pvs : List Pv) (hpn : ps.length = pn) (hps : Lies w lo hi (.slice pa pn pc) pn 6 (pvs.flatMap Pv.cells)) (hal : AllLie w lo hi pvs ps) (hhi : hi ≤ w.heap.size) (hn : pn ≤ 1000) (hf : ∀ p ∈ ps, p.ds.length ≤ 1000) :
    Calls Try.prog 19 #[.pointer (some ⟨t, 0, none⟩), .slice pa pn pc] w fun e w' => ∃ g, e = .returned (.pointer (some ⟨g, 0, none⟩)) ∧ SyAt w' w.heap.size g t (ps.map (·.ds)) ∧ Below w.heap.size w w' := by
  obtain ⟨i0, hi0, hz0, hz1, hz2⟩ := info_parts Try.infoRowG
  have HI := Lib.hid hi0
  have HP := Lib.hid hps; have HAL := Lib.hid hal; have HN := Lib.hid hpn; have HF := Lib.hid hf
  have HL := Lib.hid hal.length
  have HH := Lib.hid hhi
  clear hi0 hps hal hpn hf hhi
  go_enter Try.func19, Try.ntmps19
  go_wp2_with fail
  obtain ⟨H, hH⟩ : ∃ H, H = w.heap.size := ⟨_, rfl⟩
  go_loopw [13] (fun s wr => ∃ (k : Nat) (vs : List Value) (ao : Option Addr) (cap : Nat), k ≤ pn ∧ s = .int .i64 k ∧ Hid (NsAt w wr w.heap.size t vs ((ps.take k).map (·.ds)) ao k cap)) (fun s _ => pn - (intOf s).toNat)
  case atStart => exact ⟨0, [], none, 0, Nat.zero_le _, rfl, Lib.hid ⟨heap_alloc_new _ _, World.ownsRow_nil _ _ _ _, DnL.nil _ _ _, rfl, Nat.le_refl _, below1 _ _⟩⟩
  case round =>
    obtain ⟨k, vs, ao, cap, hk, rfl, HW⟩ := hrel
    by_cases hlt : k < pn
    · have t0 : decide ((k : Int) < (pn : Int)) = true := decide_eq_true (by omega)
      have t1 : (0 : Int) ≤ (k : Int) := by omega
      have t2 : (k : Int) < (pn : Int) := by omega
      obtain ⟨x, hx⟩ : ∃ x, ps[k]? = some x := ⟨_, List.getElem?_eq_getElem (by rw [HN.out]; exact hlt)⟩
      obtain ⟨pv, hpv⟩ : ∃ x, pvs[k]? = some x := ⟨_, List.getElem?_eq_getElem (by rw [HL.out, HN.out]; exact hlt)⟩
      have hb := HW.out.b
      have hpl := (HAL.out.keep (SameIn.of_below hb HH.out)).at hpv hx
      obtain ⟨ta, sa, da, tc, sc, dc, e1, e2, e3⟩ := hpl.slices
      have hlies := HP.out.keep (SameIn.of_below hb HH.out)
      obtain ⟨a2, c2, ee, _, _, hc⟩ := hlies
      cases ee
      rcases hc with h0 | ⟨b, off, rfl, hb1, hb2, hc⟩
      · omega
      obtain ⟨s0, s1, s2, s3, s4, s5⟩ := Lies.pv hc hpv
      obtain ⟨q1, q2, q3, q4, q5, q6⟩ := hpl
      obtain ⟨v0, v1, v2, v3, v4, v5⟩ := pv
      simp only at e1 e2 e3 s0 s1 s2 s3 s4 s5 q1 q2 q3 q4 q5 q6
      subst e1; subst e2; subst e3; subst q4; subst q5; subst q6
      have hbw := HW.out.b.size
      have HD := Lib.hid q3
      have HX := Lib.hid hx
      obtain ⟨dn, hdn⟩ : ∃ dn, dn = x.ds.length := ⟨_, rfl⟩
      rw [← hdn] at s2
      have hd1 : dn ≤ 1000 := by rw [hdn]; exact HF.out x (List.mem_of_getElem? hx)
      obtain ⟨tn, htn⟩ : ∃ tn, tn = x.ts.length := ⟨_, rfl⟩
      obtain ⟨sn, hsn⟩ : ∃ sn, sn = x.ss.length := ⟨_, rfl⟩
      obtain ⟨y0, hy0⟩ : ∃ y, y = x.a0 := ⟨_, rfl⟩
      obtain ⟨y1, hy1⟩ : ∃ y, y = x.a1 := ⟨_, rfl⟩
      obtain ⟨y2, hy2⟩ : ∃ y, y = x.a2 := ⟨_, rfl⟩
      rw [← htn] at s0; rw [← hsn] at s1; rw [← hy0] at s3; rw [← hy1] at s4; rw [← hy2] at s5
      have HDN := Lib.hid hdn
      clear q1 q2 q3 hc hpv hx hb hdn htn hsn hy0 hy1 hy2
      obtain ⟨V, hV⟩ : ∃ V, V = wr.alloc (.cells #[.slice ta tn tc, .slice sa sn sc, .slice da dn dc, .int .u8 y0, .int .u8 y1, .int .u8 y2] 70) := ⟨_, rfl⟩
      obtain ⟨E, hE⟩ : ∃ E, E = wr.heap.size := ⟨_, rfl⟩
      have hbl : V.heap[E]? = some (.cells #[.slice ta tn tc, .slice sa sn sc, .slice da dn dc, .int .u8 y0, .int .u8 y1, .int .u8 y2] 70 (0, 0)) := by rw [hV, hE]; exact heap_alloc_new _ _
      have hVB : Below wr.heap.size wr V := by rw [hV]; exact below1 _ _
      have hbox : V.heap[w.heap.size]? = some (.cells #[.pointer (some ⟨t, 0, none⟩), .slice ao k cap] 86 (0, 0)) := (hVB.block w.heap.size (lt_of_block HW.out.box)).trans HW.out.box
      have KX : Hid (∀ W : World, Below V.heap.size V W → (W.cell? ⟨w.heap.size, 1, none⟩ = some (.slice ao k cap) ∧ W.cell? ⟨E, 2, none⟩ = some (.slice da dn dc)) ∧ W.heap[w.heap.size]? = V.heap[w.heap.size]?) := Lib.hid (fun W h => by
        have a1 := h.block w.heap.size (lt_of_block hbox)
        have a2 := h.block E (lt_of_block hbl)
        exact ⟨⟨cell_in (a1.trans hbox) rfl, cell_in (a2.trans hbl) rfl⟩, a1⟩)
      obtain ⟨⟨c2, e0⟩, _⟩ := KX.out V (Below.refl _ _)
      have f2 : V.frozen? ⟨w.heap.size, 1, none⟩ = false := free_in hbox 1
      have HV := Lib.hid hV
      have HE := Lib.hid hE
      have HEL := Lib.hid (lt_of_block hbl)
      have HVB := Lib.hid hVB
      have HDL : Hid (∀ W : World, Below V.heap.size V W → Calls Try.prog 25 #[.slice da dn dc] W fun e w' => ∃ ao cap', e = .returned (.slice ao dn cap') ∧ w'.ownsRow W.heap.size 3 1 (.slice ao dn cap') dn (x.ds.flatMap intCells) ∧ Below W.heap.size W w') := Lib.hid (fun W h => gapart_any da dn dc W 0 w.heap.size x.ds HDN.out.symm (by
        have h1 := (HD.out.wider (Nat.zero_le _) HH.out).keep (SameIn.of_below (hVB.trans (h.mono hVB.size)) hbw)
        rw [HDN.out]; exact h1) hd1)
      clear hV hE hbl hVB hbox
      go_upto_region 5 with fail
      rw [← HV.out]
      rw [← HE.out]
      have HZ : Hid (w.heap.size + 1 ≤ wr.heap.size ∧ wr.heap.size ≤ V.heap.size ∧ E < V.heap.size) := Lib.hid ⟨lt_of_block HW.out.box, HVB.out.size, HEL.out⟩
      go_region_law
        (first
          | (go_simp; go_at_call 25; go_loud (refine (HDL.out _ (Below.refl _ _).drew).mono ?_; rintro e w9 ⟨ra, rc, rfl, q1, q3⟩; have h9 := Lib.hid q1; have g9 : Hid (Below V.heap.size V w9) := Lib.hid ((Below.refl _ _).drew.trans q3); have k9 : Hid (∀ W : World, Below w9.heap.size w9 W → W.cell? ⟨w.heap.size, 1, none⟩ = some (.slice ao k cap) ∧ W.cell? ⟨E, 2, none⟩ = some (.slice da dn dc)) := Lib.hid (fun W h => (KX.out W (((Below.refl _ _).drew.trans q3).trans (h.mono q3.size))).1); obtain ⟨m0, m1⟩ := k9.out w9 (Below.refl _ _); obtain ⟨n0, n1⟩ := k9.out _ (below1 w9 (.cells #[.slice ra dn rc] 40)); clear q1 q3))
          | (go_loud (refine step_append_lie2 (by rfl) (.tmp 21) (.tmp 25) 84 (by rfl) (w.heap.size + 1) 40 i0 _ 1 24 Try.underlying84 HI.out hz0 hz1 hz2 rfl (by omega) (.slice ao k cap) k vs (by rfl) (owns_later HW.out.row (HVB.out.trans ((g9.out.mono HVB.out.size).trans ((below1 w9 (.cells #[.slice ra dn rc] 40)).mono (Nat.le_trans HVB.out.size g9.out.size))))) (.slice (some ⟨w9.heap.size, 0, none⟩) 1 1) w9.heap.size (w9.heap.size + 1) 1 [.slice ra dn rc] (by rfl) (one_lies (cs := #[.slice ra dn rc]) (heap_alloc_new w9 _) rfl) (by intro u hu; simp at hu; subst hu; rfl) (k + 1) rfl (by simp only [maxLen]; omega) (by omega) (by have := HZ.out; have := g9.out.size; simp; omega) ?_
                      intro ao6 cap6 w10 hown' hgrow' hob'
                      have hown := Lib.hid hown'
                      have hgrow := Lib.hid hgrow'
                      have hob := Lib.hid hob'
                      have hb10 : w10.heap[w.heap.size]? = some (.cells #[.pointer (some ⟨t, 0, none⟩), .slice ao k cap] 86 (0, 0)) := (by
                        have z1 := HZ.out
                        have z2 := g9.out.size
                        refine (hgrow'.block w.heap.size (by simp; omega) (fun e => by have := (owns_own HW.out.row _ e.symm).1; omega)).trans (((below1 w9 (.cells #[.slice ra dn rc] 40)).block _ (by omega)).trans ((g9.out.block _ (by omega)).trans ((HVB.out.block _ (by omega)).trans HW.out.box)))
                      )
                      have c10 : w10.cell? ⟨w.heap.size, 1, none⟩ = some (.slice ao k cap) := cell_in hb10 rfl
                      have f10 : w10.frozen? ⟨w.heap.size, 1, none⟩ = false := free_in hb10 1
                      have k10 : Hid (w10.cell? ⟨w.heap.size, 1, none⟩ = some (.slice ao k cap) ∧ w10.cell? ⟨E, 2, none⟩ = some (.slice da dn dc)) := Lib.hid (by
                        have z1 := HZ.out
                        have z2 := g9.out.size
                        have hE := HE.out
                        have hh := hgrow'.block E (by simp; omega) (fun e => by have := (owns_own HW.out.row _ e.symm).2; omega)
                        have hk := k9.out _ (below1 w9 (.cells #[.slice ra dn rc] 40))
                        exact ⟨c10, (World.cell?_of_block (a := ⟨E, 2, none⟩) hh).trans hk.2⟩)
                      clear hown' hgrow' hob' hb10))
          | fail "no arm")
      all_goals go_wp2_with fail
      all_goals go_roundw
      all_goals first
        | (case measure => simp [intOf]; omega)
        | (case rel =>
            refine ⟨k + 1, vs ++ [.slice ra dn rc], ao6, cap6, by omega, by go_num, Lib.hid ?_⟩
            have h5 : (ps.take (k + 1)).map (·.ds) = (ps.take k).map (·.ds) ++ [x.ds] := by rw [List.take_add_one, HX.out]; simp
            rw [h5]
            have h6 : Lies w9 V.heap.size w9.heap.size (.slice ra dn rc) x.ds.length 1 (x.ds.flatMap intCells) := by rw [← HDN.out]; exact Lies.of_owns h9.out
            exact HW.out.step (HVB.out.trans (g9.out.mono HVB.out.size)) (lo := V.heap.size) HVB.out.size h6 (below1 w9 (.cells #[.slice ra dn rc] 40)) hown.out hgrow.out hob.out)
    · have t0 : decide ((k : Int) < (pn : Int)) = false := decide_eq_false (by omega)
      have HG : Hid (SyAt wr w.heap.size w.heap.size t (ps.map (·.ds)) ∧ Below w.heap.size w wr) := Lib.hid (by
        have h1 := HW.out.done
        rw [List.take_of_length_le (by rw [HN.out]; omega)] at h1
        exact ⟨h1, HW.out.b⟩)
      clear HW
      go_wp2_with fail
      go_ret
      exact ⟨w.heap.size, rfl, HG.out.1, HG.out.2⟩
end Go.Proofs.Ytmkohnpdpcefgaa
