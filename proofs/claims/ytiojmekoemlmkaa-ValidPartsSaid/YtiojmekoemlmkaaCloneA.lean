/- The walks of what is made apart: lists, a partition. -/
import Derived.Test.YtiojmekoemlmkaaConfJ
import Derived.Deep.RegionLaw
namespace Go.Proofs.Ytiojmekoemlmkaa
open Go.ChangeShapes Go.WideShapes Go.ChangeAt Go.RowKit
set_option linter.unusedVariables false
attribute [local go_sem ↓] Go.wp_at_zero Go.wp_at_succ

theorem apTk_any (a : Option Addr) (n cap : Nat) (w : World) (lo hi : Nat) (cs : List Value) (hl : Lies w lo hi (.slice a n cap) n 6 cs) (h1 : ∀ u ∈ cs, u.oneCell' = true) (hn : n ≤ 1000) :
    Calls Try.prog 59 #[.slice a n cap] w fun e w' => ∃ a' cap', e = .returned (.slice a' n cap') ∧ w'.ownsRow w.heap.size 100 6 (.slice a' n cap') n cs ∧ Below w.heap.size w w' := by
  obtain ⟨i0, hi0, hz0, hz1, hz2⟩ := info_parts Try.infoTk_conf
  have HI := Lib.hid hi0; have HL := Lib.hid hl; have H1 := Lib.hid h1
  clear hi0 hl h1
  go_enter Try.func59, Try.ntmps59
  go_wp2_with (first | (refine wpList_append_lie (by rfl) (.const (.slice none 0 0)) (.tmp 3) 50 (by rfl) w.heap.size 100 i0 _ 6 48 Try.underlying50 HI.out hz0 hz1 hz2 rfl (by omega) (.slice none 0 0) 0 [] (by rfl) (World.ownsRow_nil _ _ _ _) (.slice a n cap) lo hi n cs (by rfl) HL.out H1.out n (by omega) (by simp [maxLen]; omega) (by omega) (Nat.le_refl _) ?_; intro ao cap' w1 hown hgrow))
  go_ret
  exact ⟨ao, cap', rfl, hown, (Below.refl _ _).grown hgrow (Nat.le_refl _) (fun k hk => by simp [Value.ownBlock] at hk)⟩
theorem apSv_any (a : Option Addr) (n cap : Nat) (w : World) (lo hi : Nat) (cs : List Value) (hl : Lies w lo hi (.slice a n cap) n 3 cs) (h1 : ∀ u ∈ cs, u.oneCell' = true) (hn : n ≤ 1000) :
    Calls Try.prog 60 #[.slice a n cap] w fun e w' => ∃ a' cap', e = .returned (.slice a' n cap') ∧ w'.ownsRow w.heap.size 103 3 (.slice a' n cap') n cs ∧ Below w.heap.size w w' := by
  obtain ⟨i0, hi0, hz0, hz1, hz2⟩ := info_parts Try.infoSv_conf
  have HI := Lib.hid hi0; have HL := Lib.hid hl; have H1 := Lib.hid h1
  clear hi0 hl h1
  go_enter Try.func60, Try.ntmps60
  go_wp2_with (first | (refine wpList_append_lie (by rfl) (.const (.slice none 0 0)) (.tmp 3) 51 (by rfl) w.heap.size 103 i0 _ 3 24 Try.underlying51 HI.out hz0 hz1 hz2 rfl (by omega) (.slice none 0 0) 0 [] (by rfl) (World.ownsRow_nil _ _ _ _) (.slice a n cap) lo hi n cs (by rfl) HL.out H1.out n (by omega) (by simp [maxLen]; omega) (by omega) (Nat.le_refl _) ?_; intro ao cap' w1 hown hgrow))
  go_ret
  exact ⟨ao, cap', rfl, hown, (Below.refl _ _).grown hgrow (Nat.le_refl _) (fun k hk => by simp [Value.ownBlock] at hk)⟩
theorem apIn_any (a : Option Addr) (n cap : Nat) (w : World) (lo hi : Nat) (cs : List Value) (hl : Lies w lo hi (.slice a n cap) n 1 cs) (h1 : ∀ u ∈ cs, u.oneCell' = true) (hn : n ≤ 1000) :
    Calls Try.prog 61 #[.slice a n cap] w fun e w' => ∃ a' cap', e = .returned (.slice a' n cap') ∧ w'.ownsRow w.heap.size 3 1 (.slice a' n cap') n cs ∧ Below w.heap.size w w' := by
  obtain ⟨i0, hi0, hz0, hz1, hz2⟩ := info_parts Try.infoInt
  have HI := Lib.hid hi0; have HL := Lib.hid hl; have H1 := Lib.hid h1
  clear hi0 hl h1
  go_enter Try.func61, Try.ntmps61
  go_wp2_with (first | (refine wpList_append_lie (by rfl) (.const (.slice none 0 0)) (.tmp 3) 52 (by rfl) w.heap.size 3 i0 _ 1 8 Try.underlying52 HI.out hz0 hz1 hz2 rfl (by omega) (.slice none 0 0) 0 [] (by rfl) (World.ownsRow_nil _ _ _ _) (.slice a n cap) lo hi n cs (by rfl) HL.out H1.out n (by omega) (by simp [maxLen]; omega) (by omega) (Nat.le_refl _) ?_; intro ao cap' w1 hown hgrow))
  go_ret
  exact ⟨ao, cap', rfl, hown, (Below.refl _ _).grown hgrow (Nat.le_refl _) (fun k hk => by simp [Value.ownBlock] at hk)⟩
theorem apWn_any (a : Option Addr) (n cap : Nat) (w : World) (lo hi : Nat) (cs : List Value) (hl : Lies w lo hi (.slice a n cap) n 3 cs) (h1 : ∀ u ∈ cs, u.oneCell' = true) (hn : n ≤ 1000) :
    Calls Try.prog 40 #[.slice a n cap] w fun e w' => ∃ a' cap', e = .returned (.slice a' n cap') ∧ w'.ownsRow w.heap.size 62 3 (.slice a' n cap') n cs ∧ Below w.heap.size w w' := by
  obtain ⟨i0, hi0, hz0, hz1, hz2⟩ := info_parts Try.infoWn_conf
  have HI := Lib.hid hi0; have HL := Lib.hid hl; have H1 := Lib.hid h1
  clear hi0 hl h1
  go_enter Try.func40, Try.ntmps40
  go_wp2_with (first | (refine wpList_append_lie (by rfl) (.const (.slice none 0 0)) (.tmp 3) 32 (by rfl) w.heap.size 62 i0 _ 3 24 Try.underlying32 HI.out hz0 hz1 hz2 rfl (by omega) (.slice none 0 0) 0 [] (by rfl) (World.ownsRow_nil _ _ _ _) (.slice a n cap) lo hi n cs (by rfl) HL.out H1.out n (by omega) (by simp [maxLen]; omega) (by omega) (Nat.le_refl _) ?_; intro ao cap' w1 hown hgrow))
  go_ret
  exact ⟨ao, cap', rfl, hown, (Below.refl _ _).grown hgrow (Nat.le_refl _) (fun k hk => by simp [Value.ownBlock] at hk)⟩
theorem apCh_any (a : Option Addr) (n cap : Nat) (w : World) (lo hi : Nat) (cs : List Value) (hl : Lies w lo hi (.slice a n cap) n 4 cs) (h1 : ∀ u ∈ cs, u.oneCell' = true) (hn : n ≤ 1000) :
    Calls Try.prog 43 #[.slice a n cap] w fun e w' => ∃ a' cap', e = .returned (.slice a' n cap') ∧ w'.ownsRow w.heap.size 72 4 (.slice a' n cap') n cs ∧ Below w.heap.size w w' := by
  obtain ⟨i0, hi0, hz0, hz1, hz2⟩ := info_parts Try.infoCh_conf
  have HI := Lib.hid hi0; have HL := Lib.hid hl; have H1 := Lib.hid h1
  clear hi0 hl h1
  go_enter Try.func43, Try.ntmps43
  go_wp2_with (first | (refine wpList_append_lie (by rfl) (.const (.slice none 0 0)) (.tmp 3) 34 (by rfl) w.heap.size 72 i0 _ 4 32 Try.underlying34 HI.out hz0 hz1 hz2 rfl (by omega) (.slice none 0 0) 0 [] (by rfl) (World.ownsRow_nil _ _ _ _) (.slice a n cap) lo hi n cs (by rfl) HL.out H1.out n (by omega) (by simp [maxLen]; omega) (by omega) (Nat.le_refl _) ?_; intro ao cap' w1 hown hgrow))
  go_ret
  exact ⟨ao, cap', rfl, hown, (Below.refl _ _).grown hgrow (Nat.le_refl _) (fun k hk => by simp [Value.ownBlock] at hk)⟩
theorem apPt_any (a : Option Addr) (n cap : Nat) (w : World) (lo hi : Nat) (cs : List Value) (hl : Lies w lo hi (.slice a n cap) n 6 cs) (h1 : ∀ u ∈ cs, u.oneCell' = true) (hn : n ≤ 1000) :
    Calls Try.prog 41 #[.slice a n cap] w fun e w' => ∃ a' cap', e = .returned (.slice a' n cap') ∧ w'.ownsRow w.heap.size 55 6 (.slice a' n cap') n cs ∧ Below w.heap.size w w' := by
  obtain ⟨i0, hi0, hz0, hz1, hz2⟩ := info_parts Try.infoPt_conf
  have HI := Lib.hid hi0; have HL := Lib.hid hl; have H1 := Lib.hid h1
  clear hi0 hl h1
  go_enter Try.func41, Try.ntmps41
  go_wp2_with (first | (refine wpList_append_lie (by rfl) (.const (.slice none 0 0)) (.tmp 3) 33 (by rfl) w.heap.size 55 i0 _ 6 80 Try.underlying33 HI.out hz0 hz1 hz2 rfl (by omega) (.slice none 0 0) 0 [] (by rfl) (World.ownsRow_nil _ _ _ _) (.slice a n cap) lo hi n cs (by rfl) HL.out H1.out n (by omega) (by simp [maxLen]; omega) (by omega) (Nat.le_refl _) ?_; intro ao cap' w1 hown hgrow))
  go_ret
  exact ⟨ao, cap', rfl, hown, (Below.refl _ _).grown hgrow (Nat.le_refl _) (fun k hk => by simp [Value.ownBlock] at hk)⟩

set_option maxRecDepth 100000 in
set_option maxHeartbeats 4000000 in
theorem clonePart_any (ta sa da : Option Addr) (tn tc sn sc dn dc : Nat) (x0 x1 x2 : Int) (w : World) (lo hi : Nat) (p : Pt) (hp : PtLies w lo hi ⟨.slice ta tn tc, .slice sa sn sc, .slice da dn dc, x0, x1, x2⟩ p) (hhi : hi ≤ w.heap.size) (b1 : p.ts.length ≤ 1000) (b2 : p.ss.length ≤ 1000) (b3 : p.ds.length ≤ 1000) :
    Calls Try.prog 42 #[.agg #[.slice ta tn tc, .slice sa sn sc, .slice da dn dc, .int .u8 x0, .int .u8 x1, .int .u8 x2]] w fun e w' => ∃ ta' tc' sa' sc' da' dc', e = .returned (.agg #[.slice ta' tn tc', .slice sa' sn sc', .slice da' dn dc', .int .u8 x0, .int .u8 x1, .int .u8 x2]) ∧
      PtOwns w' (w.heap.size + 2) 100 103 3 ⟨.slice ta' tn tc', .slice sa' sn sc', .slice da' dn dc', x0, x1, x2⟩ p ∧ Below w.heap.size w w' := by
  obtain ⟨p1, p2, p3, p4⟩ := hp
  have ln1 : p.ts.length = tn := by obtain ⟨_, _, e, _⟩ := p1; cases e; rfl
  have ln2 : p.ss.length = sn := by obtain ⟨_, _, e, _⟩ := p2; cases e; rfl
  have ln3 : p.ds.length = dn := by obtain ⟨_, _, e, _⟩ := p3; cases e; rfl
  rw [ln1] at p1 b1; rw [ln2] at p2 b2; rw [ln3] at p3 b3
  obtain ⟨V, hV⟩ : ∃ V, V = (w.alloc (.cells #[.slice ta tn tc, .slice sa sn sc, .slice da dn dc, .int .u8 x0, .int .u8 x1, .int .u8 x2] 55)).alloc (.cells noPart 55) := ⟨_, rfl⟩
  have B0 : Below w.heap.size w V := by rw [hV]; exact b_alloc (below1 _ _) (Nat.le_refl _) _
  have s1 : V.heap[w.heap.size]? = some (.cells #[.slice ta tn tc, .slice sa sn sc, .slice da dn dc, .int .u8 x0, .int .u8 x1, .int .u8 x2] 55 (0, 0)) := by rw [hV]; simp only [heap_at, World.size_alloc]; simp
  have s2 : V.heap[w.heap.size + 1]? = some (.cells noPart 55 (0, 0)) := by rw [hV]; simp only [heap_at, World.size_alloc]; simp
  have z2 : w.heap.size + 2 ≤ V.heap.size := by rw [hV]; simp
  have cc1 : ∀ W : World, Below w.heap.size w W → Calls Try.prog 59 #[.slice ta tn tc] W fun e w' => ∃ a' cap', e = .returned (.slice a' tn cap') ∧ w'.ownsRow W.heap.size 100 6 (.slice a' tn cap') tn (p.ts.flatMap Tk.cells) ∧ Below W.heap.size W w' := fun W h => apTk_any _ _ _ W lo hi _ (p1.keep (SameIn.of_below h hhi)) (flat_one _ tk_one _) b1
  have cc2 : ∀ W : World, Below w.heap.size w W → Calls Try.prog 60 #[.slice sa sn sc] W fun e w' => ∃ a' cap', e = .returned (.slice a' sn cap') ∧ w'.ownsRow W.heap.size 103 3 (.slice a' sn cap') sn (p.ss.flatMap Sv.cells) ∧ Below W.heap.size W w' := fun W h => apSv_any _ _ _ W lo hi _ (p2.keep (SameIn.of_below h hhi)) (flat_one _ sv_one _) b2
  have cc3 : ∀ W : World, Below w.heap.size w W → Calls Try.prog 61 #[.slice da dn dc] W fun e w' => ∃ a' cap', e = .returned (.slice a' dn cap') ∧ w'.ownsRow W.heap.size 3 1 (.slice a' dn cap') dn (p.ds.flatMap intCells) ∧ Below W.heap.size W w' := fun W h => apIn_any _ _ _ W lo hi _ (p3.keep (SameIn.of_below h hhi)) (flat_one _ in_one _) b3
  have C1 := Lib.hid cc1; have C2 := Lib.hid cc2; have C3 := Lib.hid cc3; have HV := Lib.hid hV; have HB0 := Lib.hid B0; have S1 := Lib.hid s1; have S2 := Lib.hid s2; have P4 := Lib.hid p4
  have LN1 := Lib.hid ln1; have LN2 := Lib.hid ln2; have LN3 := Lib.hid ln3
  clear p1 p2 p3 cc1 cc2 cc3 hV B0 s1 s2 p4 ln1 ln2 ln3
  go_enter Try.func42, Try.ntmps42
  go_wp2_with fail
  rw [show (w.alloc (.cells #[.slice ta tn tc, .slice sa sn sc, .slice da dn dc, .int .u8 x0, .int .u8 x1, .int .u8 x2] 55)).alloc (.cells #[.slice none 0 0, .slice none 0 0, .slice none 0 0, .int .u8 0, .int .u8 0, .int .u8 0] 55) = V from HV.out.symm]
  refine (C1.out _ HB0.out).mono ?_
  rintro e w1 ⟨ta', tc', rfl, o1, hb1⟩
  have up1 : ∀ {X : Nat} {ob : Obj}, V.heap[X]? = some ob → w1.heap[X]? = some ob := fun hX => (hb1.block _ (lt_of_block hX)).trans hX
  have x1 := up1 S1.out
  have x2 := up1 S2.out
  have HX1 := Lib.hid x1; have HX2 := Lib.hid x2; have HB1 : Hid (Below w.heap.size w w1) := Lib.hid (HB0.out.trans (hb1.mono HB0.out.size)); have O1 := Lib.hid (owns_base o1 z2)
  have c0 := cell_in (j := 0) x1 rfl
  have c1 := cell_in (j := 1) x1 rfl
  have f0 := free_in x1 0
  clear up1 x1 x2 o1 hb1
  go_wp2_with fail
  have HB1s : Hid (Below w.heap.size w (w1.setCell ⟨w.heap.size, 0, none⟩ (.slice ta' tn tc'))) := Lib.hid (HB1.out.setCell (by simp) _)
  refine (C2.out _ HB1s.out).mono ?_
  rintro e w2 ⟨sa', sc', rfl, o2, hb2⟩
  have k2 := KeepsBut.of_below (E := 55) (T := 55) hb2
  have up2 : ∀ {X : Nat} {ob : Obj}, (w1.setCell ⟨w.heap.size, 0, none⟩ (.slice ta' tn tc')).heap[X]? = some ob → w2.heap[X]? = some ob := fun hX => (hb2.block _ (lt_of_block hX)).trans hX
  have x1 := up2 (set_at (j := 0) (u := .slice ta' tn tc') HX1.out)
  have x2 := up2 ((Below.heap_setCell w1 ⟨w.heap.size, 0, none⟩ (.slice ta' tn tc') (w.heap.size + 1) (by simp)).trans HX2.out)
  have HY1 := Lib.hid x1; have HY2 := Lib.hid x2; have HB2 : Hid (Below w.heap.size w w2) := Lib.hid (HB1s.out.trans (hb2.mono HB1s.out.size))
  have hz1 := HB0.out.size
  have O2 := Lib.hid (owns_base o2 (show w.heap.size + 2 ≤ _ from by have := lt_of_block HX2.out; simp only [World.size_setCell]; omega))
  have O1b := Lib.hid (k2.owns (setCell_owns O1.out HX1.out (by decide) (.slice ta' tn tc')) (by decide) (by decide))
  have c2 := cell_in (j := 2) x1 rfl
  have c1b := cell_in (j := 1) x1 rfl
  have f1 := free_in x1 1
  clear up2 x1 x2 o2 hb2 k2 c0 c1 f0
  go_wp2_with fail
  have HB2s : Hid (Below w.heap.size w (w2.setCell ⟨w.heap.size, 1, none⟩ (.slice sa' sn sc'))) := Lib.hid (HB2.out.setCell (by simp) _)
  refine (C3.out _ HB2s.out).mono ?_
  rintro e w3 ⟨da', dc', rfl, o3, hb3⟩
  have k3 := KeepsBut.of_below (E := 55) (T := 55) hb3
  have up3 : ∀ {X : Nat} {ob : Obj}, (w2.setCell ⟨w.heap.size, 1, none⟩ (.slice sa' sn sc')).heap[X]? = some ob → w3.heap[X]? = some ob := fun hX => (hb3.block _ (lt_of_block hX)).trans hX
  have x1 := up3 (set_at (j := 1) (u := .slice sa' sn sc') HY1.out)
  have x2 := up3 ((Below.heap_setCell w2 ⟨w.heap.size, 1, none⟩ (.slice sa' sn sc') (w.heap.size + 1) (by simp)).trans HY2.out)
  have HB3 : Hid (Below w.heap.size w w3) := Lib.hid (HB2s.out.trans (hb3.mono HB2s.out.size))
  have O3 := Lib.hid (owns_base o3 (show w.heap.size + 2 ≤ _ from by have := lt_of_block HY2.out; simp only [World.size_setCell]; omega))
  have O2c := Lib.hid (k3.owns (setCell_owns O2.out HY1.out (by decide) (.slice sa' sn sc')) (by decide) (by decide))
  have O1c := Lib.hid (k3.owns (setCell_owns O1b.out HY1.out (by decide) (.slice sa' sn sc')) (by decide) (by decide))
  have HZ1 := Lib.hid x1; have HZ2 := Lib.hid x2
  have d0 := cell_in (j := 0) x1 rfl
  have d1 := cell_in (j := 1) x1 rfl
  have d2 := cell_in (j := 2) x1 rfl
  have d3 := cell_in (j := 3) x1 rfl
  have d4 := cell_in (j := 4) x1 rfl
  have d5 := cell_in (j := 5) x1 rfl
  have f2 := free_in x1 2
  have r0 := cell_in (j := 0) x2 rfl
  have r1 := cell_in (j := 1) x2 rfl
  have r2 := cell_in (j := 2) x2 rfl
  have r3 := cell_in (j := 3) x2 rfl
  have r4 := cell_in (j := 4) x2 rfl
  have r5 := cell_in (j := 5) x2 rfl
  have q0 := free_in x2 0
  have q1 := free_in x2 1
  have q2 := free_in x2 2
  have q3 := free_in x2 3
  have q4 := free_in x2 4
  have q5 := free_in x2 5
  clear up3 x1 x2 o3 hb3 k3 c2 c1b f1
  go_wp2_with fail
  have hres := (Below.heap_setCell w3 ⟨w.heap.size, 2, none⟩ (.slice da' dn dc') (w.heap.size + 1) (by simp)).trans HZ2.out
  have hX := set6 hres rfl (.slice ta' tn tc') (.slice sa' sn sc') (.slice da' dn dc') (.int .u8 x0) (.int .u8 x1) (.int .u8 x2)
  refine bodyPost_ret (results_cell_row (P := Try.prog) rfl _ _ (w.heap.size + 1) _ _ (0, 0) _ rfl hX Try.underlying55 rfl Try.sizePart_conf) rfl ?_
  refine ⟨ta', tc', sa', sc', da', dc', rfl, ⟨?_, ?_, ?_, P4.out.1, P4.out.2.1, P4.out.2.2⟩, below6 (HB3.out.setCell (by simp) _) (by omega) _ _ _ _ _ _⟩
  · show World.ownsRow _ _ _ 6 (.slice ta' tn tc') p.ts.length _
    rw [LN1.out]
    exact owns6 hres (setCell_owns O1c.out HZ1.out (by decide) _) (by decide) _ _ _ _ _ _
  · show World.ownsRow _ _ _ 3 (.slice sa' sn sc') p.ss.length _
    rw [LN2.out]
    exact owns6 hres (setCell_owns O2c.out HZ1.out (by decide) _) (by decide) _ _ _ _ _ _
  · show World.ownsRow _ _ _ 1 (.slice da' dn dc') p.ds.length _
    rw [LN3.out]
    exact owns6 hres (setCell_owns O3.out HZ1.out (by decide) _) (by decide) _ _ _ _ _ _
end Go.Proofs.Ytiojmekoemlmkaa
