/- A statement of the layer of who may learn of whom: with a channel more, no less leads into a partition. -/
import Derived.Test.YtkikapodobeaaaaLawSevenC
namespace Go.Proofs.Ytkikapodobeaaaa
open Go.ChangeShapes Go.WideShapes Go.ChangeAt Go.RowKit
set_option linter.unusedVariables false
attribute [local go_sem ↓] Go.wp_at_zero Go.wp_at_succ

/-- A system with a channel more. -/
def moreC (c : Cf) (h : Ch) : Cf := { c with cs := c.cs ++ [h] }
theorem moreC_is {c : Cf} {h : Ch} {a b : Int} (he : isE c a b = true) : isE (moreC c h) a b = true := by
  unfold isE at he ⊢
  simp only [moreC] at he ⊢
  rw [Bool.and_eq_true, Bool.and_eq_true, Bool.or_eq_true] at he ⊢
  refine ⟨he.1, he.2.1, he.2.2.imp (fun h1 => ?_) id⟩
  rw [List.any_append, h1]; rfl
theorem more_cut {c : Cf} {h : Ch} {l : List Int} {s t : List Bool} (hs : CutOf c l s) (ht : CutOf (moreC c h) l t) {i : Nat} (hi : s[i]? = some true) : t[i]? = some true :=
  (ht.2 i).2 (Leads.mono (c := c) (d := moreC c h) rfl (fun a b he => moreC_is he) ((hs.2 i).1 hi))
def xBox (c : Cf) (i1 i2 i3 : Option Addr) (j1 j2 j3 : Nat) : Array Value := #[.int .i64 c.frame, .int .i64 c.margin, .slice i1 c.ws.length j1, .slice i2 c.ps.length j2, .slice i3 c.cs.length j3]
theorem grows_made {w3 w4 w5 : World} {c : Cf} {h : Ch} {vs vs' : List Pv} {i1 i2 i3 a1 a2 a3 ao : Option Addr} {j1 j2 j3 b1 b2 b3 cap' : Nat} {cs' : Array Value} (hs3 : SysL w3 w3.heap.size c vs i1 i2 i3 j1 j2 j3)
    (o1 : w4.ownsRow (w3.heap.size + 1 + 2) 77 3 (.slice a1 c.ws.length b1) c.ws.length (c.ws.flatMap Wn.cells)) (o2 : w4.ownsRow (w3.heap.size + 1 + 2) 69 6 (.slice a2 c.ps.length b2) c.ps.length (vs'.flatMap Pv.cells)) (o3 : AllOwn w4 (w3.heap.size + 1 + 2) 96 99 3 vs' c.ps)
    (o4 : w4.ownsRow (w3.heap.size + 1 + 2) 58 4 (.slice a3 c.cs.length b3) c.cs.length (c.cs.flatMap Ch.cells)) (hb4 : Below (w3.alloc (.cells (xBox c i1 i2 i3 j1 j2 j3) 35)).heap.size (w3.alloc (.cells (xBox c i1 i2 i3 j1 j2 j3) 35)) w4)
    (hown5 : w5.ownsRow (w3.heap.size + 1 + 2) 58 4 (.slice ao (c.cs.length + 1) cap') (c.cs.length + 1) (c.cs.flatMap Ch.cells ++ h.cells))
    (hg : ((w4.alloc (.cells (xBox c a1 a2 a3 b1 b2 b3) 35)).alloc (.cells cs' 58)).grownBy w5 (Value.slice a3 c.cs.length b3).ownBlock) :
    w5.heap[w4.heap.size]? = some (.cells (xBox c a1 a2 a3 b1 b2 b3) 35 (0, 0)) ∧ w5.heap[w3.heap.size]? = some (.cells (xBox c i1 i2 i3 j1 j2 j3) 35 (0, 0)) ∧ w3.heap.size < w4.heap.size ∧
    ∀ W, W = w5.setCell ⟨w4.heap.size, 4, none⟩ (.slice ao (c.cs.length + 1) cap') →
      SysL W w3.heap.size c vs i1 i2 i3 j1 j2 j3 ∧ w3.heap.size ≤ W.heap.size ∧ SysL W W.heap.size (moreC c h) vs' a1 a2 ao b1 b2 cap' ∧ Below w3.heap.size w3 W ∧
      W.heap[w3.heap.size]? = some (.cells (xBox c i1 i2 i3 j1 j2 j3) 35 (0, 0)) ∧ W.heap[w4.heap.size]? = some (.cells #[.int .i64 c.frame, .int .i64 c.margin, .slice a1 c.ws.length b1, .slice a2 c.ps.length b2, .slice ao (c.cs.length + 1) cap'] 35 (0, 0)) := by
  have hz4 := hb4.size
  rw [World.size_alloc] at hz4
  obtain ⟨U, hU⟩ : ∃ U, U = (w4.alloc (.cells (xBox c a1 a2 a3 b1 b2 b3) 35)).alloc (.cells cs' 58) := ⟨_, rfl⟩
  rw [← hU] at hg
  have hbU : Below w4.heap.size w4 U := by rw [hU]; exact (below1 _ _).alloc (by simp) _
  have hUy : U.heap[w4.heap.size]? = some (.cells (xBox c a1 a2 a3 b1 b2 b3) 35 (0, 0)) := by rw [hU, heap_at, if_neg (by simp), heap_at, if_pos rfl]
  have hUx : U.heap[w3.heap.size]? = some (.cells (xBox c i1 i2 i3 j1 j2 j3) 35 (0, 0)) := (hbU.block _ (by omega)).trans ((hb4.block _ (by simp)).trans (heap_alloc_new _ _))
  have oU := owns_later o4 hbU
  have h5y := grown_keep hg oU hUy (by decide)
  have h5x := grown_keep hg oU hUx (by decide)
  refine ⟨h5y, h5x, by omega, ?_⟩
  rintro W rfl
  have hbs : But w4.heap.size w5 (w5.setCell ⟨w4.heap.size, 4, none⟩ (.slice ao (c.cs.length + 1) cap')) := (But.refl _ _).set 4 _
  have hb3U : Below w3.heap.size w3 U := (below1 w3 (.cells (xBox c i1 i2 i3 j1 j2 j3) 35)).trans ((hb4.mono (by simp)).trans (hbU.mono (by omega)))
  have hb35 : Below w3.heap.size w3 w5 := hb3U.grown hg hb3U.size (fun q hq => by have := (owns_own oU q hq).1; omega)
  have hb3W : Below w3.heap.size w3 (w5.setCell ⟨w4.heap.size, 4, none⟩ (.slice ao (c.cs.length + 1) cap')) := hb35.trans (hbs.below (by omega) hb35.size)
  have hk : KeepsBut 58 35 w4 (w5.setCell ⟨w4.heap.size, 4, none⟩ (.slice ao (c.cs.length + 1) cap')) :=
    ((KeepsBut.of_below hbU).trans (KeepsBut.of_grown hg oU)).trans (KeepsBut.set (a := ⟨w4.heap.size, 4, none⟩) h5y _)
  have hcs := setCell_owns hown5 (a := ⟨w4.heap.size, 4, none⟩) h5y (by decide) (.slice ao (c.cs.length + 1) cap')
  refine ⟨hs3.keep (SameIn.of_below hb3W (Nat.le_refl _)), hb3W.size, ⟨?_, ?_, ?_, ?_⟩, hb3W, hbs.at h5x (by omega), ?_⟩
  · exact (Lies.of_owns (hk.owns o1 (by decide) (by decide))).wider (Nat.zero_le _) (Nat.le_refl _)
  · exact (Lies.of_owns (hk.owns o2 (by decide) (by decide))).wider (Nat.zero_le _) (Nat.le_refl _)
  · exact ((o3.keep hk ⟨by decide, by decide⟩ ⟨by decide, by decide⟩ ⟨by decide, by decide⟩).lies).wider (Nat.zero_le _) (Nat.le_refl _)
  · have := (Lies.of_owns hcs).wider (lo' := 0) (Nat.zero_le _) (Nat.le_refl _)
    simp only [moreC, List.length_append, List.length_cons, List.length_nil, List.flatMap_append, List.flatMap_cons, List.flatMap_nil, List.append_nil]
    exact this
  · have := set_at (j := 4) (u := .slice ao (c.cs.length + 1) cap') h5y
    exact this
theorem more_cut_sys {w : World} {hi : Nat} {c : Cf} {h : Ch} {pvs : List Pv} {wa pa ca : Option Addr} {wc pc cc : Nat} (f : Few (moreC c h)) (hs : SysL w hi (moreC c h) pvs wa pa ca wc pc cc) (hh : hi ≤ w.heap.size) (p : Int) :
    Calls Try.prog 18 #[.agg #[.int .i64 c.frame, .int .i64 c.margin, .slice wa c.ws.length wc, .slice pa c.ps.length pc, .slice ca (c.cs.length + 1) cc], .slice (some ⟨w.heap.size, 0, none⟩) 1 1] (w.alloc (.cells #[.int .i64 p] 3)) fun e w' => ∃ (G : Nat) (s : List Bool), e = .returned (.slice (some ⟨G, 0, none⟩) c.ps.length c.ps.length) ∧ BoolAt w' G s ∧ CutOf (moreC c h) [p] s ∧ Below w.heap.size w w' := by
  have e : (moreC c h).cs.length = c.cs.length + 1 := by simp [moreC]
  have hk := cut_sys f (hs.keep (SameIn.of_below (below1 w (.cells #[.int .i64 p] 3)) hh)) (by simp; omega) (some ⟨w.heap.size, 0, none⟩) 1 1 w.heap.size (w.heap.size + 1) [p] rfl (one_lies (cs := #[.int .i64 p]) (heap_alloc_new _ _) rfl) (by simp) (by omega)
  rw [e] at hk
  refine hk.mono ?_
  rintro e w' ⟨G, s, rfl, _, h1, h2, h3⟩
  exact ⟨G, s, rfl, h1, h2, bel3 (below1 _ _) h3⟩
theorem one_cut_sys {w : World} {hi g : Nat} {c : Cf} {pvs : List Pv} {wa pa ca : Option Addr} {wc pc cc : Nat} (f : Few c) (hs : SysL w hi c pvs wa pa ca wc pc cc) (hh : hi ≤ w.heap.size) (hg : g = w.heap.size) (p : Int) :
    Calls Try.prog 18 #[.agg #[.int .i64 c.frame, .int .i64 c.margin, .slice wa c.ws.length wc, .slice pa c.ps.length pc, .slice ca c.cs.length cc], .slice (some ⟨g, 0, none⟩) 1 1] (w.alloc (.cells #[.int .i64 p] 3)) fun e w' => ∃ (G : Nat) (s : List Bool), e = .returned (.slice (some ⟨G, 0, none⟩) c.ps.length c.ps.length) ∧ BoolAt w' G s ∧ CutOf c [p] s ∧ Below w.heap.size w w' := by
  subst hg
  refine (cut_sys f (hs.keep (SameIn.of_below (below1 w (.cells #[.int .i64 p] 3)) hh)) (by simp; omega) (some ⟨w.heap.size, 0, none⟩) 1 1 w.heap.size (w.heap.size + 1) [p] rfl (one_lies (cs := #[.int .i64 p]) (heap_alloc_new _ _) rfl) (by simp) (by omega)).mono ?_
  rintro e w' ⟨G, s, rfl, _, h1, h2, h3⟩
  exact ⟨G, s, rfl, h1, h2, bel3 (below1 _ _) h3⟩
set_option maxRecDepth 100000 in
set_option maxHeartbeats 8000000 in
theorem FlowGrows_body (wa pa ca : Option Addr) (wc pc cc : Nat) (hq : Bool) (hf ht hz p : Int) (w : World) (c : Cf) (pvs : List Pv) (h : SysL w w.heap.size c pvs wa pa ca wc pc cc) :
    Calls Try.prog 6 #[.agg #[.int .i64 c.frame, .int .i64 c.margin, .slice wa c.ws.length wc, .slice pa c.ps.length pc, .slice ca c.cs.length cc], .agg #[.bool hq, .int .i64 hf, .int .i64 ht, .int .i64 hz], .int .i64 p] w fun e w' => e = .returned (.bool true) ∧ Below w.heap.size w w' := by
  obtain ⟨i0, hi0, hz0, hz1, hz2⟩ := info_parts Try.infoCh_conf
  have HI := Lib.hid hi0
  clear hi0
  obtain ⟨V, hV⟩ : ∃ V, V = (w.alloc (.cells #[.int .i64 c.frame, .int .i64 c.margin, .slice wa c.ws.length wc, .slice pa c.ps.length pc, .slice ca c.cs.length cc] 26)).alloc (.cells #[.bool hq, .int .i64 hf, .int .i64 ht, .int .i64 hz] 56) := ⟨_, rfl⟩
  have hB1 : Below w.heap.size w V := by rw [hV]; exact (below1 _ _).alloc (by simp) _
  have hblk : V.heap[w.heap.size]? = some (.cells #[.int .i64 c.frame, .int .i64 c.margin, .slice wa c.ws.length wc, .slice pa c.ps.length pc, .slice ca c.cs.length cc] 26 (0, 0)) := by rw [hV, heap_at, if_neg (by simp), heap_at, if_pos rfl]
  have hblh : V.heap[w.heap.size + 1]? = some (.cells #[.bool hq, .int .i64 hf, .int .i64 ht, .int .i64 hz] 56 (0, 0)) := by rw [hV, heap_at, if_pos (by simp)]
  have ks := box_cells hblk
  have kh : ∀ W : World, Below V.heap.size V W → W.cell? ⟨w.heap.size + 1, 0, none⟩ = some (.bool hq) ∧ W.cell? ⟨w.heap.size + 1, 1, none⟩ = some (.int .i64 hf) ∧ W.cell? ⟨w.heap.size + 1, 2, none⟩ = some (.int .i64 ht) ∧ W.cell? ⟨w.heap.size + 1, 3, none⟩ = some (.int .i64 hz) := by
    intro W g
    have q := fun (i : Nat) (u : Value) hu => (g.cell (p := ⟨w.heap.size + 1, i, none⟩) (lt_of_block hblh)).trans (cell_in (j := i) (u := u) hblh hu)
    exact ⟨q 0 _ rfl, q 1 _ rfl, q 2 _ rfl, q 3 _ rfl⟩
  have hvs : w.heap.size + 1 < V.heap.size := lt_of_block hblh
  have kk : ∀ W : World, Below V.heap.size V W → SysL W w.heap.size c pvs wa pa ca wc pc cc ∧ w.heap.size ≤ W.heap.size := fun W g =>
    ⟨h.keep (SameIn.of_below (hB1.trans (g.mono hB1.size)) (Nat.le_refl _)), Nat.le_trans hB1.size g.size⟩
  have SV := (kk V (Below.refl _ _)).1
  have CL := Lib.hid (light_any c.frame c.margin wa pa ca c.ws.length wc c.ps.length pc c.cs.length cc V 0 w.heap.size c pvs rfl rfl rfl SV.l2 SV.l3 hB1.size)
  have KS := Lib.hid ks; have KH := Lib.hid kh; have KK := Lib.hid kk; have HB1 := Lib.hid hB1; have HV := Lib.hid hV
  clear ks kh hB1 SV hV hblk hblh h kk
  cases hlt : lightB c with
  | false =>
    have HLT := Lib.hid hlt; clear hlt
    go_enter Try.func6, Try.ntmps6
    go_wp2_with (first
      | (go_at_call 7; rw [← HV.out]; refine CL.out.mono ?_; rintro e w1 ⟨rfl, hb1⟩; rw [HLT.out])
      | (go_at_call 8; refine (knows7_any _).mono ?_; rintro e w2 ⟨rfl, hb2⟩))
    go_ret
    exact ⟨rfl, HB1.out.trans ((bel3 hb1 hb2).mono HB1.out.size)⟩
  | true =>
    have hfw := light_bounds hlt
    have HF := Lib.hid hfw
    have hpn := hfw.2.1
    have hcn : c.cs.length ≤ 30 := (lightB_true hlt).2.2.1
    have HFM : Hid (Few (moreC c ⟨hq, hf, ht, hz⟩)) := Lib.hid ⟨hfw.1, hfw.2.1, by simp [moreC]; omega, hfw.2.2.2⟩
    have HLT := Lib.hid hlt; clear hlt hfw
    go_enter Try.func6, Try.ntmps6
    go_wp2_with (first
      | (refine wpList_append_lie2 (by rfl) (.tmp 25) (.tmp 27) 33 (by rfl) (w3.heap.size + 1 + 2) 58 i0 _ 4 32 Try.underlying33 HI.out hz0 hz1 hz2 rfl (by omega) (.slice a3 c.cs.length b3) c.cs.length (c.cs.flatMap Ch.cells) (by rfl) (owns_later O4.out ((below1 _ _).alloc (by simp) _)) (.slice (some ⟨w4.heap.size + 1, 0, none⟩) 1 1) (w4.heap.size + 1) (w4.heap.size + 2) 1 [.bool hq, .int .i64 hf, .int .i64 ht, .int .i64 hz] (by rfl) (one_lies (cs := #[.bool hq, .int .i64 hf, .int .i64 ht, .int .i64 hz]) (t := 58) (by rw [heap_at, if_pos (by simp)]) rfl) (ch_one ⟨hq, hf, ht, hz⟩) (c.cs.length + 1) rfl (by simp only [maxLen]; omega) (by omega) (by have := HB4.out.size; simp at this ⊢; omega) ?_; intro ao cap' w5 hown5 hgrow5 hob5; obtain ⟨m1, m2, m3, m4⟩ := grows_made (h := ⟨hq, hf, ht, hz⟩) HS3.out O1.out O2.out O3.out O4.out HB4.out hown5 hgrow5; obtain ⟨W6, hW6⟩ : ∃ W6, W6 = w5.setCell ⟨w4.heap.size, 4, none⟩ (.slice ao (c.cs.length + 1) cap') := ⟨_, rfl⟩; have HM := Lib.hid (m4 W6 hW6); have HW6 := Lib.hid hW6; have HZ6 : Hid (W6.heap.size = w5.heap.size) := Lib.hid (by rw [hW6]; simp); clear hW6; have r0 : w5.cell? ⟨w4.heap.size, 4, none⟩ = some (.slice a3 c.cs.length b3) := cell_in m1 rfl; have r1 : w5.frozen? ⟨w4.heap.size, 4, none⟩ = false := free_in m1 4; have r2 : w5.cell? ⟨w3.heap.size, 0, none⟩ = some (.int .i64 c.frame) := cell_in m2 rfl; have r3 : w5.cell? ⟨w3.heap.size, 1, none⟩ = some (.int .i64 c.margin) := cell_in m2 rfl; have r4 : w5.cell? ⟨w3.heap.size, 2, none⟩ = some (.slice i1 c.ws.length j1) := cell_in m2 rfl; have r5 : w5.cell? ⟨w3.heap.size, 3, none⟩ = some (.slice i2 c.ps.length j2) := cell_in m2 rfl; have r6 : w5.cell? ⟨w3.heap.size, 4, none⟩ = some (.slice i3 c.cs.length j3) := cell_in m2 rfl; have r7 : w3.heap.size ≠ w4.heap.size := (by omega); have r8 : w4.heap.size ≠ w3.heap.size := (by omega); clear m1 m2 m4)
      | (go_at_call 18; have _z := hb7; refine (more_cut_sys HFM.out (HM.out.2.2.1.keep (SameIn.of_below hb7 (Nat.le_refl _))) hb7.size p).mono ?_; rintro e w8 ⟨G8, s8, rfl, hS8, hc8, hb8⟩)
      | (go_at_call 18; rw [← HW6.out]; refine (one_cut_sys HF.out HM.out.1 HM.out.2.1 HZ6.out.symm p).mono ?_; rintro e w7 ⟨G7, s7, rfl, hS7, hc7, hb7⟩; obtain ⟨v0, v1, v2, v3, v4⟩ := box_cells HM.out.2.2.2.2.2 w7 hb7)
      | (go_at_call 7; rw [← HV.out]; refine CL.out.mono ?_; rintro e w1 ⟨rfl, hb1⟩; rw [HLT.out])
      | (go_at_call 8; refine (knows7_any _).mono ?_; rintro e w2 ⟨rfl, hb2⟩; obtain ⟨z0, z1, z2, z3, z4⟩ := KS.out _ (bel3 hb1 hb2))
      | (go_at_call 10; refine (config_sys HF.out (KK.out _ (bel3 hb1 hb2)).1 (KK.out _ (bel3 hb1 hb2)).2).mono ?_; rintro e w3 ⟨vs, i1, i2, i3, j1, j2, j3, rfl, hs3, hb3⟩; have HS3 := Lib.hid hs3; have HB3 := Lib.hid (bel3 hb1 (bel3 hb2 hb3)); have hs3' := hs3.keep (SameIn.of_below (below1 w3 (.cells (xBox c i1 i2 i3 j1 j2 j3) 35)) (Nat.le_refl _)); clear hs3 hb1 hb2 hb3)
      | (go_at_call 21; refine (clone_any c.frame c.margin i1 i2 i3 _ j1 _ j2 _ j3 (w3.alloc (.cells (xBox c i1 i2 i3 j1 j2 j3) 35)) 0 w3.heap.size c vs rfl rfl rfl hs3'.l1 hs3'.l2 hs3'.l3 hs3'.l4 (by simp) HF.out.1 HF.out.2.1 HF.out.2.2.1 HF.out.2.2.2).mono ?_; rintro e w4 ⟨a1, b1, a2, b2, a3, b3, vs', rfl, o1, o2, o3, o4, hb4⟩; rw [World.size_alloc] at o1 o2 o3 o4; have O1 := Lib.hid o1; have O2 := Lib.hid o2; have O3 := Lib.hid o3; have O4 := Lib.hid o4; have HB4 := Lib.hid hb4; obtain ⟨q0, q1, q2, q3⟩ := KH.out w4 (bel3 HB3.out (bel3 (below1 _ _) hb4)); have hw4 : w.heap.size + 1 < w4.heap.size := (by have := (bel3 HB3.out (bel3 (below1 w3 (.cells (xBox c i1 i2 i3 j1 j2 j3) 35)) hb4)).size; omega); clear o1 o2 o3 o4 hs3' hb4)
      | go_in)
    have H7 := Lib.hid (hS7.later hb8); have H8 := Lib.hid hS8
    have HC7 := Lib.hid hc7; have HC8 := Lib.hid hc8
    have HBV : Hid (Below V.heap.size V w8) := Lib.hid (bel3 HB3.out ((bel3 (HM.out.2.2.2.1.trans (hb7.mono HM.out.2.2.2.1.size) |> fun q => q) (Below.refl _ _)).trans (hb8.mono (by have := HM.out.2.2.2.1.size; have := hb7.size; omega))))
    have hl7 := hc7.1
    have hl8 : s8.length = c.ps.length := hc8.1
    clear hS7 hS8 hc7 hc8 hb7 hb8 v0 v1 v2 v3 v4 r0 r1 r2 r3 r4 r5 r6 q0 q1 q2 q3 z0 z1 z2 z3 z4
    go_loopw [11] (fun i wr => w8 = wr ∧ ∃ k : Nat, k ≤ c.ps.length ∧ i = .int .i64 k) (fun i _ => c.ps.length - (intOf i).toNat)
    case atStart => exact ⟨rfl, 0, by omega, rfl⟩
    case round =>
      obtain ⟨rfl, k, hk, rfl⟩ := hrel
      by_cases hlt : k < c.ps.length
      · have tk : decide ((k : Int) < (c.ps.length : Int)) = true := by simpa using hlt
        have l0 : (0 : Int) ≤ (k : Int) := by omega
        have l1 : (k : Int) < (c.ps.length : Int) := by omega
        obtain ⟨x, hx⟩ : ∃ x, s7[k]? = some x := ⟨_, List.getElem?_eq_getElem (by omega)⟩
        have e0 := (H7.out.cell hx).1
        cases x with
        | false =>
          clear hx
          go_wp2
          go_roundw
          case rel => exact ⟨trivial, k + 1, by omega, by go_num⟩
          case measure => simp [intOf]; omega
        | true =>
          have e1 := (H8.out.cell (more_cut HC7.out HC8.out hx)).1
          clear hx
          go_wp2
          go_roundw
          case rel => exact ⟨trivial, k + 1, by omega, by go_num⟩
          case measure => simp [intOf]; omega
      · have tk : decide ((k : Int) < (c.ps.length : Int)) = false := by simp; omega
        go_wp2
        go_ret
        exact ⟨rfl, HB1.out.trans (HBV.out.mono HB1.out.size)⟩
end Go.Proofs.Ytkikapodobeaaaa
