/- Joined of CloneA, CloneB: The walks of what is made apart: lists, a partition. -/
import Derived.Test.YtkikapodobeaaaaBase
import Derived.Deep.RegionLaw
import Derived.Deep.RegionHeld3
namespace Go.Proofs.Ytkikapodobeaaaa
open Go.ChangeShapes Go.WideShapes Go.ChangeAt Go.RowKit
set_option linter.unusedVariables false
attribute [local go_sem ↓] Go.wp_at_zero Go.wp_at_succ

theorem apTk_any (a : Option Addr) (n cap : Nat) (w : World) (lo hi : Nat) (cs : List Value) (hl : Lies w lo hi (.slice a n cap) n 6 cs) (h1 : ∀ u ∈ cs, u.oneCell' = true) (hn : n ≤ 1000) :
    Calls Try.prog 42 #[.slice a n cap] w fun e w' => ∃ a' cap', e = .returned (.slice a' n cap') ∧ w'.ownsRow w.heap.size 96 6 (.slice a' n cap') n cs ∧ Below w.heap.size w w' := by
  obtain ⟨i0, hi0, hz0, hz1, hz2⟩ := info_parts Try.infoTk_conf
  have HI := Lib.hid hi0; have HL := Lib.hid hl; have H1 := Lib.hid h1
  clear hi0 hl h1
  go_enter Try.func42, Try.ntmps42
  go_wp2_with (first | (refine wpList_append_lie (by rfl) (.const (.slice none 0 0)) (.tmp 3) 66 (by rfl) w.heap.size 96 i0 _ 6 48 Try.underlying66 HI.out hz0 hz1 hz2 rfl (by omega) (.slice none 0 0) 0 [] (by rfl) (World.ownsRow_nil _ _ _ _) (.slice a n cap) lo hi n cs (by rfl) HL.out H1.out n (by omega) (by simp [maxLen]; omega) (by omega) (Nat.le_refl _) ?_; intro ao cap' w1 hown hgrow))
  go_ret
  exact ⟨ao, cap', rfl, hown, (Below.refl _ _).grown hgrow (Nat.le_refl _) (fun k hk => by simp [Value.ownBlock] at hk)⟩
theorem apSv_any (a : Option Addr) (n cap : Nat) (w : World) (lo hi : Nat) (cs : List Value) (hl : Lies w lo hi (.slice a n cap) n 3 cs) (h1 : ∀ u ∈ cs, u.oneCell' = true) (hn : n ≤ 1000) :
    Calls Try.prog 43 #[.slice a n cap] w fun e w' => ∃ a' cap', e = .returned (.slice a' n cap') ∧ w'.ownsRow w.heap.size 99 3 (.slice a' n cap') n cs ∧ Below w.heap.size w w' := by
  obtain ⟨i0, hi0, hz0, hz1, hz2⟩ := info_parts Try.infoSv_conf
  have HI := Lib.hid hi0; have HL := Lib.hid hl; have H1 := Lib.hid h1
  clear hi0 hl h1
  go_enter Try.func43, Try.ntmps43
  go_wp2_with (first | (refine wpList_append_lie (by rfl) (.const (.slice none 0 0)) (.tmp 3) 67 (by rfl) w.heap.size 99 i0 _ 3 24 Try.underlying67 HI.out hz0 hz1 hz2 rfl (by omega) (.slice none 0 0) 0 [] (by rfl) (World.ownsRow_nil _ _ _ _) (.slice a n cap) lo hi n cs (by rfl) HL.out H1.out n (by omega) (by simp [maxLen]; omega) (by omega) (Nat.le_refl _) ?_; intro ao cap' w1 hown hgrow))
  go_ret
  exact ⟨ao, cap', rfl, hown, (Below.refl _ _).grown hgrow (Nat.le_refl _) (fun k hk => by simp [Value.ownBlock] at hk)⟩
theorem apIn_any (a : Option Addr) (n cap : Nat) (w : World) (lo hi : Nat) (cs : List Value) (hl : Lies w lo hi (.slice a n cap) n 1 cs) (h1 : ∀ u ∈ cs, u.oneCell' = true) (hn : n ≤ 1000) :
    Calls Try.prog 44 #[.slice a n cap] w fun e w' => ∃ a' cap', e = .returned (.slice a' n cap') ∧ w'.ownsRow w.heap.size 3 1 (.slice a' n cap') n cs ∧ Below w.heap.size w w' := by
  obtain ⟨i0, hi0, hz0, hz1, hz2⟩ := info_parts Try.infoInt
  have HI := Lib.hid hi0; have HL := Lib.hid hl; have H1 := Lib.hid h1
  clear hi0 hl h1
  go_enter Try.func44, Try.ntmps44
  go_wp2_with (first | (refine wpList_append_lie (by rfl) (.const (.slice none 0 0)) (.tmp 3) 42 (by rfl) w.heap.size 3 i0 _ 1 8 Try.underlying42 HI.out hz0 hz1 hz2 rfl (by omega) (.slice none 0 0) 0 [] (by rfl) (World.ownsRow_nil _ _ _ _) (.slice a n cap) lo hi n cs (by rfl) HL.out H1.out n (by omega) (by simp [maxLen]; omega) (by omega) (Nat.le_refl _) ?_; intro ao cap' w1 hown hgrow))
  go_ret
  exact ⟨ao, cap', rfl, hown, (Below.refl _ _).grown hgrow (Nat.le_refl _) (fun k hk => by simp [Value.ownBlock] at hk)⟩
theorem apWn_any (a : Option Addr) (n cap : Nat) (w : World) (lo hi : Nat) (cs : List Value) (hl : Lies w lo hi (.slice a n cap) n 3 cs) (h1 : ∀ u ∈ cs, u.oneCell' = true) (hn : n ≤ 1000) :
    Calls Try.prog 29 #[.slice a n cap] w fun e w' => ∃ a' cap', e = .returned (.slice a' n cap') ∧ w'.ownsRow w.heap.size 77 3 (.slice a' n cap') n cs ∧ Below w.heap.size w w' := by
  obtain ⟨i0, hi0, hz0, hz1, hz2⟩ := info_parts Try.infoWn_conf
  have HI := Lib.hid hi0; have HL := Lib.hid hl; have H1 := Lib.hid h1
  clear hi0 hl h1
  go_enter Try.func29, Try.ntmps29
  go_wp2_with (first | (refine wpList_append_lie (by rfl) (.const (.slice none 0 0)) (.tmp 3) 31 (by rfl) w.heap.size 77 i0 _ 3 24 Try.underlying31 HI.out hz0 hz1 hz2 rfl (by omega) (.slice none 0 0) 0 [] (by rfl) (World.ownsRow_nil _ _ _ _) (.slice a n cap) lo hi n cs (by rfl) HL.out H1.out n (by omega) (by simp [maxLen]; omega) (by omega) (Nat.le_refl _) ?_; intro ao cap' w1 hown hgrow))
  go_ret
  exact ⟨ao, cap', rfl, hown, (Below.refl _ _).grown hgrow (Nat.le_refl _) (fun k hk => by simp [Value.ownBlock] at hk)⟩
theorem apCh_any (a : Option Addr) (n cap : Nat) (w : World) (lo hi : Nat) (cs : List Value) (hl : Lies w lo hi (.slice a n cap) n 4 cs) (h1 : ∀ u ∈ cs, u.oneCell' = true) (hn : n ≤ 1000) :
    Calls Try.prog 32 #[.slice a n cap] w fun e w' => ∃ a' cap', e = .returned (.slice a' n cap') ∧ w'.ownsRow w.heap.size 58 4 (.slice a' n cap') n cs ∧ Below w.heap.size w w' := by
  obtain ⟨i0, hi0, hz0, hz1, hz2⟩ := info_parts Try.infoCh_conf
  have HI := Lib.hid hi0; have HL := Lib.hid hl; have H1 := Lib.hid h1
  clear hi0 hl h1
  go_enter Try.func32, Try.ntmps32
  go_wp2_with (first | (refine wpList_append_lie (by rfl) (.const (.slice none 0 0)) (.tmp 3) 33 (by rfl) w.heap.size 58 i0 _ 4 32 Try.underlying33 HI.out hz0 hz1 hz2 rfl (by omega) (.slice none 0 0) 0 [] (by rfl) (World.ownsRow_nil _ _ _ _) (.slice a n cap) lo hi n cs (by rfl) HL.out H1.out n (by omega) (by simp [maxLen]; omega) (by omega) (Nat.le_refl _) ?_; intro ao cap' w1 hown hgrow))
  go_ret
  exact ⟨ao, cap', rfl, hown, (Below.refl _ _).grown hgrow (Nat.le_refl _) (fun k hk => by simp [Value.ownBlock] at hk)⟩
theorem apPt_any (a : Option Addr) (n cap : Nat) (w : World) (lo hi : Nat) (cs : List Value) (hl : Lies w lo hi (.slice a n cap) n 6 cs) (h1 : ∀ u ∈ cs, u.oneCell' = true) (hn : n ≤ 1000) :
    Calls Try.prog 30 #[.slice a n cap] w fun e w' => ∃ a' cap', e = .returned (.slice a' n cap') ∧ w'.ownsRow w.heap.size 69 6 (.slice a' n cap') n cs ∧ Below w.heap.size w w' := by
  obtain ⟨i0, hi0, hz0, hz1, hz2⟩ := info_parts Try.infoPt_conf
  have HI := Lib.hid hi0; have HL := Lib.hid hl; have H1 := Lib.hid h1
  clear hi0 hl h1
  go_enter Try.func30, Try.ntmps30
  go_wp2_with (first | (refine wpList_append_lie (by rfl) (.const (.slice none 0 0)) (.tmp 3) 32 (by rfl) w.heap.size 69 i0 _ 6 80 Try.underlying32 HI.out hz0 hz1 hz2 rfl (by omega) (.slice none 0 0) 0 [] (by rfl) (World.ownsRow_nil _ _ _ _) (.slice a n cap) lo hi n cs (by rfl) HL.out H1.out n (by omega) (by simp [maxLen]; omega) (by omega) (Nat.le_refl _) ?_; intro ao cap' w1 hown hgrow))
  go_ret
  exact ⟨ao, cap', rfl, hown, (Below.refl _ _).grown hgrow (Nat.le_refl _) (fun k hk => by simp [Value.ownBlock] at hk)⟩

set_option maxRecDepth 100000 in
set_option maxHeartbeats 4000000 in
theorem clonePart_any (ta sa da : Option Addr) (tn tc sn sc dn dc : Nat) (x0 x1 x2 : Int) (w : World) (lo hi : Nat) (p : Pt) (hp : PtLies w lo hi ⟨.slice ta tn tc, .slice sa sn sc, .slice da dn dc, x0, x1, x2⟩ p) (hhi : hi ≤ w.heap.size) (b1 : p.ts.length ≤ 1000) (b2 : p.ss.length ≤ 1000) (b3 : p.ds.length ≤ 1000) :
    Calls Try.prog 31 #[.agg #[.slice ta tn tc, .slice sa sn sc, .slice da dn dc, .int .u8 x0, .int .u8 x1, .int .u8 x2]] w fun e w' => ∃ ta' tc' sa' sc' da' dc', e = .returned (.agg #[.slice ta' tn tc', .slice sa' sn sc', .slice da' dn dc', .int .u8 x0, .int .u8 x1, .int .u8 x2]) ∧
      PtOwns w' (w.heap.size + 2) 96 99 3 ⟨.slice ta' tn tc', .slice sa' sn sc', .slice da' dn dc', x0, x1, x2⟩ p ∧ Below w.heap.size w w' := by
  obtain ⟨p1, p2, p3, p4⟩ := hp
  have ln1 : p.ts.length = tn := by obtain ⟨_, _, e, _⟩ := p1; cases e; rfl
  have ln2 : p.ss.length = sn := by obtain ⟨_, _, e, _⟩ := p2; cases e; rfl
  have ln3 : p.ds.length = dn := by obtain ⟨_, _, e, _⟩ := p3; cases e; rfl
  rw [ln1] at p1 b1; rw [ln2] at p2 b2; rw [ln3] at p3 b3
  obtain ⟨V, hV⟩ : ∃ V, V = (w.alloc (.cells #[.slice ta tn tc, .slice sa sn sc, .slice da dn dc, .int .u8 x0, .int .u8 x1, .int .u8 x2] 69)).alloc (.cells noPart 69) := ⟨_, rfl⟩
  have B0 : Below w.heap.size w V := by rw [hV]; exact b_alloc (below1 _ _) (Nat.le_refl _) _
  have s1 : V.heap[w.heap.size]? = some (.cells #[.slice ta tn tc, .slice sa sn sc, .slice da dn dc, .int .u8 x0, .int .u8 x1, .int .u8 x2] 69 (0, 0)) := by rw [hV]; simp only [heap_at, World.size_alloc]; simp
  have s2 : V.heap[w.heap.size + 1]? = some (.cells noPart 69 (0, 0)) := by rw [hV]; simp only [heap_at, World.size_alloc]; simp
  have z2 : w.heap.size + 2 ≤ V.heap.size := by rw [hV]; simp
  have cc1 : ∀ W : World, Below w.heap.size w W → Calls Try.prog 42 #[.slice ta tn tc] W fun e w' => ∃ a' cap', e = .returned (.slice a' tn cap') ∧ w'.ownsRow W.heap.size 96 6 (.slice a' tn cap') tn (p.ts.flatMap Tk.cells) ∧ Below W.heap.size W w' := fun W h => apTk_any _ _ _ W lo hi _ (p1.keep (SameIn.of_below h hhi)) (flat_one _ tk_one _) b1
  have cc2 : ∀ W : World, Below w.heap.size w W → Calls Try.prog 43 #[.slice sa sn sc] W fun e w' => ∃ a' cap', e = .returned (.slice a' sn cap') ∧ w'.ownsRow W.heap.size 99 3 (.slice a' sn cap') sn (p.ss.flatMap Sv.cells) ∧ Below W.heap.size W w' := fun W h => apSv_any _ _ _ W lo hi _ (p2.keep (SameIn.of_below h hhi)) (flat_one _ sv_one _) b2
  have cc3 : ∀ W : World, Below w.heap.size w W → Calls Try.prog 44 #[.slice da dn dc] W fun e w' => ∃ a' cap', e = .returned (.slice a' dn cap') ∧ w'.ownsRow W.heap.size 3 1 (.slice a' dn cap') dn (p.ds.flatMap intCells) ∧ Below W.heap.size W w' := fun W h => apIn_any _ _ _ W lo hi _ (p3.keep (SameIn.of_below h hhi)) (flat_one _ in_one _) b3
  have C1 := Lib.hid cc1; have C2 := Lib.hid cc2; have C3 := Lib.hid cc3; have HV := Lib.hid hV; have HB0 := Lib.hid B0; have S1 := Lib.hid s1; have S2 := Lib.hid s2; have P4 := Lib.hid p4
  have LN1 := Lib.hid ln1; have LN2 := Lib.hid ln2; have LN3 := Lib.hid ln3
  clear p1 p2 p3 cc1 cc2 cc3 hV B0 s1 s2 p4 ln1 ln2 ln3
  go_enter Try.func31, Try.ntmps31
  go_wp2_with fail
  rw [show (w.alloc (.cells #[.slice ta tn tc, .slice sa sn sc, .slice da dn dc, .int .u8 x0, .int .u8 x1, .int .u8 x2] 69)).alloc (.cells #[.slice none 0 0, .slice none 0 0, .slice none 0 0, .int .u8 0, .int .u8 0, .int .u8 0] 69) = V from HV.out.symm]
  refine (C1.out _ HB0.out).mono ?_
  rintro e w1 ⟨ta', tc', rfl, o1, hb1⟩
  have up1 : ∀ {X : Nat} {ob : Obj}, V.heap[X]? = some ob → w1.heap[X]? = some ob := fun hX => (hb1.block _ (lt_of_block hX)).trans hX
  have x1 := up1 S1.out
  have x2 := up1 S2.out
  have HX1 := Lib.hid x1; have HX2 := Lib.hid x2; have HB1 : Hid (Below w.heap.size w w1) := Lib.hid (HB0.out.trans (hb1.mono HB0.out.size)); have O1 := Lib.hid (owns_base o1 z2)
  have c0 := cell_in (j := 0) x1 rfl
  have c1 := cell_in (j := 1) x1 rfl
  have f0 := free_in x1 0
  clear up1 x1 x2 o1 hb1
  go_wp2_with fail
  have HB1s : Hid (Below w.heap.size w (w1.setCell ⟨w.heap.size, 0, none⟩ (.slice ta' tn tc'))) := Lib.hid (HB1.out.setCell (by simp) _)
  refine (C2.out _ HB1s.out).mono ?_
  rintro e w2 ⟨sa', sc', rfl, o2, hb2⟩
  have k2 := KeepsBut.of_below (E := 69) (T := 69) hb2
  have up2 : ∀ {X : Nat} {ob : Obj}, (w1.setCell ⟨w.heap.size, 0, none⟩ (.slice ta' tn tc')).heap[X]? = some ob → w2.heap[X]? = some ob := fun hX => (hb2.block _ (lt_of_block hX)).trans hX
  have x1 := up2 (set_at (j := 0) (u := .slice ta' tn tc') HX1.out)
  have x2 := up2 ((Below.heap_setCell w1 ⟨w.heap.size, 0, none⟩ (.slice ta' tn tc') (w.heap.size + 1) (by simp)).trans HX2.out)
  have HY1 := Lib.hid x1; have HY2 := Lib.hid x2; have HB2 : Hid (Below w.heap.size w w2) := Lib.hid (HB1s.out.trans (hb2.mono HB1s.out.size))
  have hz1 := HB0.out.size
  have O2 := Lib.hid (owns_base o2 (show w.heap.size + 2 ≤ _ from by have := lt_of_block HX2.out; simp only [World.size_setCell]; omega))
  have O1b := Lib.hid (k2.owns (setCell_owns O1.out HX1.out (by decide) (.slice ta' tn tc')) (by decide) (by decide))
  have c2 := cell_in (j := 2) x1 rfl
  have c1b := cell_in (j := 1) x1 rfl
  have f1 := free_in x1 1
  clear up2 x1 x2 o2 hb2 k2 c0 c1 f0
  go_wp2_with fail
  have HB2s : Hid (Below w.heap.size w (w2.setCell ⟨w.heap.size, 1, none⟩ (.slice sa' sn sc'))) := Lib.hid (HB2.out.setCell (by simp) _)
  refine (C3.out _ HB2s.out).mono ?_
  rintro e w3 ⟨da', dc', rfl, o3, hb3⟩
  have k3 := KeepsBut.of_below (E := 69) (T := 69) hb3
  have up3 : ∀ {X : Nat} {ob : Obj}, (w2.setCell ⟨w.heap.size, 1, none⟩ (.slice sa' sn sc')).heap[X]? = some ob → w3.heap[X]? = some ob := fun hX => (hb3.block _ (lt_of_block hX)).trans hX
  have x1 := up3 (set_at (j := 1) (u := .slice sa' sn sc') HY1.out)
  have x2 := up3 ((Below.heap_setCell w2 ⟨w.heap.size, 1, none⟩ (.slice sa' sn sc') (w.heap.size + 1) (by simp)).trans HY2.out)
  have HB3 : Hid (Below w.heap.size w w3) := Lib.hid (HB2s.out.trans (hb3.mono HB2s.out.size))
  have O3 := Lib.hid (owns_base o3 (show w.heap.size + 2 ≤ _ from by have := lt_of_block HY2.out; simp only [World.size_setCell]; omega))
  have O2c := Lib.hid (k3.owns (setCell_owns O2.out HY1.out (by decide) (.slice sa' sn sc')) (by decide) (by decide))
  have O1c := Lib.hid (k3.owns (setCell_owns O1b.out HY1.out (by decide) (.slice sa' sn sc')) (by decide) (by decide))
  have HZ1 := Lib.hid x1; have HZ2 := Lib.hid x2
  have d0 := cell_in (j := 0) x1 rfl
  have d1 := cell_in (j := 1) x1 rfl
  have d2 := cell_in (j := 2) x1 rfl
  have d3 := cell_in (j := 3) x1 rfl
  have d4 := cell_in (j := 4) x1 rfl
  have d5 := cell_in (j := 5) x1 rfl
  have f2 := free_in x1 2
  have r0 := cell_in (j := 0) x2 rfl
  have r1 := cell_in (j := 1) x2 rfl
  have r2 := cell_in (j := 2) x2 rfl
  have r3 := cell_in (j := 3) x2 rfl
  have r4 := cell_in (j := 4) x2 rfl
  have r5 := cell_in (j := 5) x2 rfl
  have q0 := free_in x2 0
  have q1 := free_in x2 1
  have q2 := free_in x2 2
  have q3 := free_in x2 3
  have q4 := free_in x2 4
  have q5 := free_in x2 5
  clear up3 x1 x2 o3 hb3 k3 c2 c1b f1
  go_wp2_with fail
  have hres := (Below.heap_setCell w3 ⟨w.heap.size, 2, none⟩ (.slice da' dn dc') (w.heap.size + 1) (by simp)).trans HZ2.out
  have hX := set6 hres rfl (.slice ta' tn tc') (.slice sa' sn sc') (.slice da' dn dc') (.int .u8 x0) (.int .u8 x1) (.int .u8 x2)
  refine bodyPost_ret (results_cell_row (P := Try.prog) rfl _ _ (w.heap.size + 1) _ _ (0, 0) _ rfl hX Try.underlying69 rfl Try.sizePart_conf) rfl ?_
  refine ⟨ta', tc', sa', sc', da', dc', rfl, ⟨?_, ?_, ?_, P4.out.1, P4.out.2.1, P4.out.2.2⟩, below6 (HB3.out.setCell (by simp) _) (by omega) _ _ _ _ _ _⟩
  · show World.ownsRow _ _ _ 6 (.slice ta' tn tc') p.ts.length _
    rw [LN1.out]
    exact owns6 hres (setCell_owns O1c.out HZ1.out (by decide) _) (by decide) _ _ _ _ _ _
  · show World.ownsRow _ _ _ 3 (.slice sa' sn sc') p.ss.length _
    rw [LN2.out]
    exact owns6 hres (setCell_owns O2c.out HZ1.out (by decide) _) (by decide) _ _ _ _ _ _
  · show World.ownsRow _ _ _ 1 (.slice da' dn dc') p.ds.length _
    rw [LN3.out]
    exact owns6 hres (setCell_owns O3.out HZ1.out (by decide) _) (by decide) _ _ _ _ _ _
end Go.Proofs.Ytkikapodobeaaaa
namespace Go.Proofs.Ytkikapodobeaaaa
open Go.ChangeShapes Go.WideShapes Go.ChangeAt Go.RowKit
set_option linter.unusedVariables false
attribute [local go_sem ↓] Go.wp_at_zero Go.wp_at_succ

theorem flat_set6 (v : Pv) : ∀ (xs : List Pv) (i : Nat), i < xs.length →
    ((((((xs.flatMap Pv.cells).set (i * 6) v.ts).set (i * 6 + 1) v.ss).set (i * 6 + 2) v.ds).set (i * 6 + 3) (.int .u8 v.a0)).set (i * 6 + 4) (.int .u8 v.a1)).set (i * 6 + 5) (.int .u8 v.a2) = (xs.set i v).flatMap Pv.cells
  | [], i, h => by simp at h
  | x :: xs, 0, _ => by simp [Pv.cells]
  | x :: xs, i + 1, h => by
    have ih := flat_set6 v xs i (by simpa using h)
    have e : ∀ (j : Nat), (i + 1) * 6 + j = (i * 6 + j) + 6 := fun j => by omega
    have e0 : (i + 1) * 6 = i * 6 + 6 := by omega
    rw [e 1, e 2, e 3, e 4, e 5, e0, List.set_cons_succ, List.flatMap_cons, List.flatMap_cons, ← ih]
    rfl
theorem set_mid (vs pvs : List Pv) (k : Nat) (v : Pv) (hv : vs.length = k) (hk : k < pvs.length) : (vs ++ pvs.drop k).set k v = (vs ++ [v]) ++ pvs.drop (k + 1) := by
  rw [List.set_append_right _ _ (by omega), hv, Nat.sub_self, List.drop_eq_getElem_cons hk, List.set_cons_zero, List.append_assoc]
  rfl
theorem at_mid (vs pvs : List Pv) (k : Nat) (hv : vs.length = k) : (vs ++ pvs.drop k)[k]? = pvs[k]? := by
  rw [List.getElem?_append_right (by omega), hv, Nat.sub_self, List.getElem?_drop, Nat.add_zero]
/-- A partition stored into its place in a row. -/
theorem row_store {w : World} {base e g n cap k : Nat} {xs : List Pv} (h : w.ownsRow base e 6 (.slice (some ⟨g, 0, none⟩) n cap) n (xs.flatMap Pv.cells)) (hk : k < xs.length) (v : Pv) :
    (((((((w.setCell ⟨g, k * 6, none⟩ v.ts).setCell ⟨g, k * 6 + 1, none⟩ v.ss).setCell ⟨g, k * 6 + 2, none⟩ v.ds).setCell ⟨g, k * 6 + 3, none⟩ (.int .u8 v.a0)).setCell ⟨g, k * 6 + 4, none⟩ (.int .u8 v.a1)).setCell ⟨g, k * 6 + 5, none⟩ (.int .u8 v.a2))).ownsRow base e 6 (.slice (some ⟨g, 0, none⟩) n cap) n ((xs.set k v).flatMap Pv.cells) := by
  have h0 := (h.stored (k * 6) v.ts).1
  have h1 := (h0.stored (k * 6 + 1) v.ss).1
  have h2 := (h1.stored (k * 6 + 2) v.ds).1
  have h3 := (h2.stored (k * 6 + 3) (.int .u8 v.a0)).1
  have h4 := (h3.stored (k * 6 + 4) (.int .u8 v.a1)).1
  have h5 := (h4.stored (k * 6 + 5) (.int .u8 v.a2)).1
  rw [flat_set6 v xs k hk] at h5
  exact h5
theorem row_block {w : World} {base e g n cap : Nat} {xs : List Value} (h : w.ownsRow base e 6 (.slice (some ⟨g, 0, none⟩) n cap) n xs) : ∃ cur, w.heap[g]? = some (.cells cur e (0, 0)) := by
  obtain ⟨_, cs, h2⟩ := owns_block h g rfl
  exact ⟨cs, h2⟩
theorem row_keeps {w : World} {base e g n cap : Nat} {xs : List Value} (h : w.ownsRow base e 6 (.slice (some ⟨g, 0, none⟩) n cap) n xs) (k : Nat) (v : Pv) : KeepsBut e e w (((((((w.setCell ⟨g, k * 6, none⟩ v.ts).setCell ⟨g, k * 6 + 1, none⟩ v.ss).setCell ⟨g, k * 6 + 2, none⟩ v.ds).setCell ⟨g, k * 6 + 3, none⟩ (.int .u8 v.a0)).setCell ⟨g, k * 6 + 4, none⟩ (.int .u8 v.a1)).setCell ⟨g, k * 6 + 5, none⟩ (.int .u8 v.a2))) := by
  obtain ⟨cur, hg⟩ := row_block h
  have h0 := set_at (j := k * 6) (u := v.ts) hg
  have h1 := set_at (j := k * 6 + 1) (u := v.ss) h0
  have h2 := set_at (j := k * 6 + 2) (u := v.ds) h1
  have h3 := set_at (j := k * 6 + 3) (u := .int .u8 v.a0) h2
  have h4 := set_at (j := k * 6 + 4) (u := .int .u8 v.a1) h3
  have k0 : KeepsBut e e w _ := KeepsBut.set (a := ⟨g, k * 6, none⟩) hg v.ts
  have k1 : KeepsBut e e _ _ := KeepsBut.set (a := ⟨g, k * 6 + 1, none⟩) h0 v.ss
  have k2 : KeepsBut e e _ _ := KeepsBut.set (a := ⟨g, k * 6 + 2, none⟩) h1 v.ds
  have k3 : KeepsBut e e _ _ := KeepsBut.set (a := ⟨g, k * 6 + 3, none⟩) h2 (.int .u8 v.a0)
  have k4 : KeepsBut e e _ _ := KeepsBut.set (a := ⟨g, k * 6 + 4, none⟩) h3 (.int .u8 v.a1)
  have k5 : KeepsBut e e _ _ := KeepsBut.set (a := ⟨g, k * 6 + 5, none⟩) h4 (.int .u8 v.a2)
  exact ((((k0.trans k1).trans k2).trans k3).trans k4).trans k5
theorem row_below {B : Nat} {w0 w : World} {g : Nat} (h : Below B w0 w) (hg : B ≤ g) (k : Nat) (v : Pv) : Below B w0 (((((((w.setCell ⟨g, k * 6, none⟩ v.ts).setCell ⟨g, k * 6 + 1, none⟩ v.ss).setCell ⟨g, k * 6 + 2, none⟩ v.ds).setCell ⟨g, k * 6 + 3, none⟩ (.int .u8 v.a0)).setCell ⟨g, k * 6 + 4, none⟩ (.int .u8 v.a1)).setCell ⟨g, k * 6 + 5, none⟩ (.int .u8 v.a2))) :=
  (((((h.setCell (p := ⟨g, k * 6, none⟩) hg _).setCell (p := ⟨g, k * 6 + 1, none⟩) hg _).setCell (p := ⟨g, k * 6 + 2, none⟩) hg _).setCell (p := ⟨g, k * 6 + 3, none⟩) hg _).setCell (p := ⟨g, k * 6 + 4, none⟩) hg _).setCell (p := ⟨g, k * 6 + 5, none⟩) hg _
theorem pvs_one {w : World} {lo hi : Nat} {vs : List Pv} {ps : List Pt} (h : AllLie w lo hi vs ps) : ∀ u ∈ vs.flatMap Pv.cells, u.oneCell' = true := by
  induction h with
  | nil => intro u hu; simp at hu
  | @cons v p vs ps hp _ ih =>
    intro u hu
    rw [List.flatMap_cons] at hu
    rcases List.mem_append.1 hu with hu | hu
    · obtain ⟨ta, sa, da, tc, sc, dc, e1, e2, e3⟩ := PtLies.slices hp
      obtain ⟨a, b, c, d, e, f⟩ := v
      simp only at e1 e2 e3
      subst e1; subst e2; subst e3
      exact pv_one _ _ _ _ _ _ _ _ _ _ _ _ u hu
    · exact ih u hu
/-- The world in the midst of a system's being made apart. -/
structure KSt (w : World) (fr mg : Int) (wa' pa' ca : Option Addr) (wn wc' pn pc' cn cc : Nat) (cw : List Value) (pvs : List Pv) (ps : List Pt) (k : Nat) (vs : List Pv) (wr : World) : Prop where
  box : wr.heap[w.heap.size]? = some (.cells #[.int .i64 fr, .int .i64 mg, .slice wa' wn wc', .slice pa' pn pc', .slice ca cn cc] 35 (0, 0))
  res : wr.heap[w.heap.size + 1]? = some (.cells noConf 35 (0, 0))
  own1 : wr.ownsRow (w.heap.size + 2) 77 3 (.slice wa' wn wc') wn cw
  row : wr.ownsRow (w.heap.size + 2) 69 6 (.slice pa' pn pc') pn ((vs ++ pvs.drop k).flatMap Pv.cells)
  all : AllOwn wr (w.heap.size + 2) 96 99 3 vs (ps.take k)
  below : Below w.heap.size w wr
theorem KSt.later {w : World} {fr mg : Int} {wa' pa' ca : Option Addr} {wn wc' pn pc' cn cc : Nat} {cw : List Value} {pvs : List Pv} {ps : List Pt} {k : Nat} {vs : List Pv} {wr w1 : World} (h : KSt w fr mg wa' pa' ca wn wc' pn pc' cn cc cw pvs ps k vs wr) (hb : Below wr.heap.size wr w1) : KSt w fr mg wa' pa' ca wn wc' pn pc' cn cc cw pvs ps k vs w1 := by
  have up : ∀ {X : Nat} {ob : Obj}, wr.heap[X]? = some ob → w1.heap[X]? = some ob := fun hX => (hb.block _ (lt_of_block hX)).trans hX
  exact ⟨up h.box, up h.res, owns_later h.own1 hb, owns_later h.row hb, h.all.keep (KeepsBut.of_below (E := 999999) (T := 999999) hb) (by decide) (by decide) (by decide), h.below.trans (hb.mono h.below.size)⟩

set_option maxRecDepth 100000 in
set_option maxHeartbeats 8000000 in
theorem clone_any (fr mg : Int) (wa pa ca : Option Addr) (wn wc pn pc cn cc : Nat) (w : World) (lo hi : Nat) (c : Cf) (pvs : List Pv) (hwn : c.ws.length = wn) (hpn : c.ps.length = pn) (hcn : c.cs.length = cn)
    (hws : Lies w lo hi (.slice wa wn wc) wn 3 (c.ws.flatMap Wn.cells)) (hps : Lies w lo hi (.slice pa pn pc) pn 6 (pvs.flatMap Pv.cells)) (hal : AllLie w lo hi pvs c.ps) (hcs : Lies w lo hi (.slice ca cn cc) cn 4 (c.cs.flatMap Ch.cells)) (hhi : hi ≤ w.heap.size)
    (b1 : wn ≤ 1000) (b2 : pn ≤ 1000) (b3 : cn ≤ 1000) (b4 : ∀ p ∈ c.ps, p.ts.length ≤ 1000 ∧ p.ss.length ≤ 1000 ∧ p.ds.length ≤ 1000) :
    Calls Try.prog 21 #[.agg #[.int .i64 fr, .int .i64 mg, .slice wa wn wc, .slice pa pn pc, .slice ca cn cc]] w fun e w' => ∃ wa' wc' pa' pc' ca' cc' vs', e = .returned (.agg #[.int .i64 fr, .int .i64 mg, .slice wa' wn wc', .slice pa' pn pc', .slice ca' cn cc']) ∧
      w'.ownsRow (w.heap.size + 2) 77 3 (.slice wa' wn wc') wn (c.ws.flatMap Wn.cells) ∧ w'.ownsRow (w.heap.size + 2) 69 6 (.slice pa' pn pc') pn (vs'.flatMap Pv.cells) ∧ AllOwn w' (w.heap.size + 2) 96 99 3 vs' c.ps ∧
      w'.ownsRow (w.heap.size + 2) 58 4 (.slice ca' cn cc') cn (c.cs.flatMap Ch.cells) ∧ Below w.heap.size w w' := by
  obtain ⟨V, hV⟩ : ∃ V, V = (w.alloc (.cells #[.int .i64 fr, .int .i64 mg, .slice wa wn wc, .slice pa pn pc, .slice ca cn cc] 35)).alloc (.cells noConf 35) := ⟨_, rfl⟩
  have B0 : Below w.heap.size w V := by rw [hV]; exact b_alloc (below1 _ _) (Nat.le_refl _) _
  have s1 : V.heap[w.heap.size]? = some (.cells #[.int .i64 fr, .int .i64 mg, .slice wa wn wc, .slice pa pn pc, .slice ca cn cc] 35 (0, 0)) := by rw [hV]; simp only [heap_at, World.size_alloc]; simp
  have s2 : V.heap[w.heap.size + 1]? = some (.cells noConf 35 (0, 0)) := by rw [hV]; simp only [heap_at, World.size_alloc]; simp
  have z2 : w.heap.size + 2 ≤ V.heap.size := by rw [hV]; simp
  have cc1 : ∀ W : World, Below w.heap.size w W → Calls Try.prog 29 #[.slice wa wn wc] W fun e w' => ∃ a' cap', e = .returned (.slice a' wn cap') ∧ w'.ownsRow W.heap.size 77 3 (.slice a' wn cap') wn (c.ws.flatMap Wn.cells) ∧ Below W.heap.size W w' := fun W h => apWn_any _ _ _ W lo hi _ (hws.keep (SameIn.of_below h hhi)) (flat_one _ wn_one _) b1
  have cc2 : ∀ W : World, Below w.heap.size w W → Calls Try.prog 30 #[.slice pa pn pc] W fun e w' => ∃ a' cap', e = .returned (.slice a' pn cap') ∧ w'.ownsRow W.heap.size 69 6 (.slice a' pn cap') pn (pvs.flatMap Pv.cells) ∧ Below W.heap.size W w' := fun W h => apPt_any _ _ _ W lo hi _ (hps.keep (SameIn.of_below h hhi)) (pvs_one hal) b2
  have cc3 : ∀ W : World, Below w.heap.size w W → Calls Try.prog 32 #[.slice ca cn cc] W fun e w' => ∃ a' cap', e = .returned (.slice a' cn cap') ∧ w'.ownsRow W.heap.size 58 4 (.slice a' cn cap') cn (c.cs.flatMap Ch.cells) ∧ Below W.heap.size W w' := fun W h => apCh_any _ _ _ W lo hi _ (hcs.keep (SameIn.of_below h hhi)) (flat_one _ ch_one _) b3
  have C1 := Lib.hid cc1; have C2 := Lib.hid cc2; have C3 := Lib.hid cc3; have HV := Lib.hid hV; have HB0 := Lib.hid B0; have S1 := Lib.hid s1; have S2 := Lib.hid s2
  have HAL := Lib.hid hal; have HPN := Lib.hid hpn; have HLP := Lib.hid hal.length; have HB4 := Lib.hid b4
  clear hws hps hal hcs cc1 cc2 cc3 hV B0 s1 s2 hwn hpn hcn b4
  go_enter Try.func21, Try.ntmps21
  go_wp2_with fail
  rw [show (w.alloc (.cells #[.int .i64 fr, .int .i64 mg, .slice wa wn wc, .slice pa pn pc, .slice ca cn cc] 35)).alloc (.cells #[.int .i64 0, .int .i64 0, .slice none 0 0, .slice none 0 0, .slice none 0 0] 35) = V from HV.out.symm]
  refine (C1.out _ HB0.out).mono ?_
  rintro e w1 ⟨wa', wc', rfl, o1, hb1⟩
  have up1 : ∀ {X : Nat} {ob : Obj}, V.heap[X]? = some ob → w1.heap[X]? = some ob := fun hX => (hb1.block _ (lt_of_block hX)).trans hX
  have x1 := up1 S1.out
  have x2 := up1 S2.out
  have HX1 := Lib.hid x1; have HX2 := Lib.hid x2; have HB1 : Hid (Below w.heap.size w w1) := Lib.hid (HB0.out.trans (hb1.mono HB0.out.size)); have O1 := Lib.hid (owns_base o1 z2)
  have c3 := cell_in (j := 3) x1 rfl
  have c2 := cell_in (j := 2) x1 rfl
  have f2 := free_in x1 2
  clear up1 x1 x2 o1 hb1
  go_wp2_with fail
  have HB1s : Hid (Below w.heap.size w (w1.setCell ⟨w.heap.size, 2, none⟩ (.slice wa' wn wc'))) := Lib.hid (HB1.out.setCell (by simp) _)
  refine (C2.out _ HB1s.out).mono ?_
  rintro e w2 ⟨pa', pc', rfl, o2, hb2⟩
  have k2 := KeepsBut.of_below (E := 35) (T := 35) hb2
  have up2 : ∀ {X : Nat} {ob : Obj}, (w1.setCell ⟨w.heap.size, 2, none⟩ (.slice wa' wn wc')).heap[X]? = some ob → w2.heap[X]? = some ob := fun hX => (hb2.block _ (lt_of_block hX)).trans hX
  have x1 := up2 (set_at (j := 2) (u := .slice wa' wn wc') HX1.out)
  have x2 := up2 ((Below.heap_setCell w1 ⟨w.heap.size, 2, none⟩ (.slice wa' wn wc') (w.heap.size + 1) (by simp)).trans HX2.out)
  have HY1 := Lib.hid x1; have HY2 := Lib.hid x2; have HB2 : Hid (Below w.heap.size w w2) := Lib.hid (HB1s.out.trans (hb2.mono HB1s.out.size))
  have O2 := Lib.hid (owns_base o2 (show w.heap.size + 2 ≤ _ from by have := lt_of_block HX2.out; simp only [World.size_setCell]; omega))
  have O1b := Lib.hid (k2.owns (setCell_owns O1.out HX1.out (by decide) (.slice wa' wn wc')) (by decide) (by decide))
  have c3 := cell_in (j := 3) x1 rfl
  have f3 := free_in x1 3
  clear up2 x1 x2 o2 hb2 k2 f2
  go_wp2_with fail
  have HK0 : Hid (KSt w fr mg wa' pa' ca wn wc' pn pc' cn cc (c.ws.flatMap Wn.cells) pvs c.ps 0 [] (w2.setCell ⟨w.heap.size, 3, none⟩ (.slice pa' pn pc'))) := Lib.hid
    ⟨set_at (j := 3) (u := .slice pa' pn pc') HY1.out, (Below.heap_setCell w2 ⟨w.heap.size, 3, none⟩ (.slice pa' pn pc') (w.heap.size + 1) (by simp)).trans HY2.out,
      setCell_owns O1b.out HY1.out (by decide) _, setCell_owns O2.out HY1.out (by decide) _, .nil, HB2.out.setCell (by simp) _⟩
  clear O1 O2 O1b HX1 HX2 HY1 HY2 c3 f3
  go_loopw [16] (fun i wr => ∃ (k : Nat) (vs : List Pv), k ≤ pn ∧ i = .int .i64 k ∧ Hid (KSt w fr mg wa' pa' ca wn wc' pn pc' cn cc (c.ws.flatMap Wn.cells) pvs c.ps k vs wr)) (fun i _ => pn - (intOf i).toNat)
  case atStart => exact ⟨0, [], by omega, rfl, HK0⟩
  case round =>
    clear HK0
    obtain ⟨k, vs, hk, rfl, HP⟩ := hrel
    by_cases hlt : k < pn
    · have tk : decide ((k : Int) < (pn : Int)) = true := by simpa using hlt
      obtain ⟨g, cap, ge, hg1, hg2⟩ := HP.out.row.form (by omega)
      cases ge
      obtain ⟨x, hx⟩ : ∃ x, c.ps[k]? = some x := ⟨_, List.getElem?_eq_getElem (by rw [HPN.out]; exact hlt)⟩
      obtain ⟨v, hv⟩ : ∃ x, pvs[k]? = some x := ⟨_, List.getElem?_eq_getElem (by rw [HLP.out, HPN.out]; exact hlt)⟩
      have hvl : vs.length = k := by have := HP.out.all.length; rw [List.length_take, HPN.out] at this; omega
      have hpl : PtLies w lo hi v x := HAL.out.at hv hx
      obtain ⟨ta, sa, da, tc, sc, dc, e1, e2, e3⟩ := PtLies.slices hpl
      have hrow : ∀ j u, ((vs ++ pvs.drop k).flatMap Pv.cells)[j]? = some u → wr.cell? ⟨g, 0 + j, none⟩ = some u := fun j u hu => by
        rw [Nat.zero_add, HP.out.row.cellAt j (by have := (List.getElem?_eq_some_iff.1 hu).1; rw [HP.out.row.1] at this; exact this)]; exact hu
      obtain ⟨r0, r1, r2, r3, r4, r5⟩ := Lies.pv hrow ((at_mid vs pvs k hvl).trans hv)
      rw [Nat.zero_add] at r0 r1 r2 r3 r4 r5
      have HX := Lib.hid hx
      have l0 : (0 : Int) ≤ (k : Int) := by omega
      have l1 : (k : Int) < (pn : Int) := by omega
      obtain ⟨m1, m2, m3⟩ := HB4.out x (List.mem_of_getElem? hx)
      obtain ⟨v0, v1, v2, v3, v4, v5⟩ := v
      simp only at e1 e2 e3 r0 r1 r2 r3 r4 r5
      subst e1; subst e2; subst e3
      have B3 : wr.cell? ⟨w.heap.size, 3, none⟩ = some (.slice (some ⟨g, 0, none⟩) pn pc') := cell_in HP.out.box rfl
      have hbw := lt_of_block HP.out.box
      have HVL := Lib.hid hvl
      have cp : ∀ W : World, Below w.heap.size w W → Calls Try.prog 31 #[.agg #[.slice ta x.ts.length tc, .slice sa x.ss.length sc, .slice da x.ds.length dc, .int .u8 v3, .int .u8 v4, .int .u8 v5]] W fun e w' => ∃ ta' tc' sa' sc' da' dc', e = .returned (.agg #[.slice ta' x.ts.length tc', .slice sa' x.ss.length sc', .slice da' x.ds.length dc', .int .u8 v3, .int .u8 v4, .int .u8 v5]) ∧
          PtOwns w' (W.heap.size + 2) 96 99 3 ⟨.slice ta' x.ts.length tc', .slice sa' x.ss.length sc', .slice da' x.ds.length dc', v3, v4, v5⟩ x ∧ Below W.heap.size W w' := fun W h =>
        clonePart_any ta sa da _ tc _ sc _ dc v3 v4 v5 W lo hi x (hpl.keep (SameIn.of_below h hhi)) (Nat.le_trans hhi h.size) m1 m2 m3
      have CP := Lib.hid cp
      have ne1 : g ≠ w.heap.size := by omega
      have ne2 : w.heap.size ≠ g := by omega
      have ne3 : g ≠ wr.heap.size := by omega
      have ne4 : wr.heap.size ≠ g := by omega
      clear hrow hx hv hpl cp hvl
      go_wp2_with fail
      go_region_held3 (fun W => W.cell? ⟨w.heap.size, 3, none⟩ = some (.slice (some ⟨g, 0, none⟩) pn pc') ∧ W.cell? ⟨wr.heap.size, 0, none⟩ = some (.slice ta x.ts.length tc) ∧ W.cell? ⟨wr.heap.size, 1, none⟩ = some (.slice sa x.ss.length sc) ∧ W.cell? ⟨wr.heap.size, 2, none⟩ = some (.slice da x.ds.length dc) ∧ W.cell? ⟨wr.heap.size, 3, none⟩ = some (.int .u8 v3) ∧ W.cell? ⟨wr.heap.size, 4, none⟩ = some (.int .u8 v4) ∧ W.cell? ⟨wr.heap.size, 5, none⟩ = some (.int .u8 v5))
        (first | (go_keep; done) | (refine ⟨?_, ?_, ?_, ?_, ?_, ?_, ?_⟩ <;> first | assumption | (go_keep; done)))
        (first | (go_at_call 31
                  refine (CP.out _ ((HP.out.below.alloc HP.out.below.size _).drew)).mono ?_
                  rintro e w4 ⟨ta', tc', sa', sc', da', dc', rfl, hpw, hb4⟩
                  have hk4 := ((HP.out.later (below1 wr _)).later ((Below.refl _ _).drew)).later hb4
                  have y0 : w4.cell? ⟨w.heap.size, 3, none⟩ = some (.slice (some ⟨g, 0, none⟩) pn pc') := cell_in hk4.box rfl
                  have y1 : w4.cell? ⟨wr.heap.size, 0, none⟩ = some (.slice ta x.ts.length tc) := (hb4.cell (p := ⟨wr.heap.size, 0, none⟩) (by simp [World.drew])).trans (cell_in (heap_alloc_new wr _) rfl)
                  have y2 : w4.cell? ⟨wr.heap.size, 1, none⟩ = some (.slice sa x.ss.length sc) := (hb4.cell (p := ⟨wr.heap.size, 1, none⟩) (by simp [World.drew])).trans (cell_in (heap_alloc_new wr _) rfl)
                  have y3 : w4.cell? ⟨wr.heap.size, 2, none⟩ = some (.slice da x.ds.length dc) := (hb4.cell (p := ⟨wr.heap.size, 2, none⟩) (by simp [World.drew])).trans (cell_in (heap_alloc_new wr _) rfl)
                  have y4 : w4.cell? ⟨wr.heap.size, 3, none⟩ = some (.int .u8 v3) := (hb4.cell (p := ⟨wr.heap.size, 3, none⟩) (by simp [World.drew])).trans (cell_in (heap_alloc_new wr _) rfl)
                  have y5 : w4.cell? ⟨wr.heap.size, 4, none⟩ = some (.int .u8 v4) := (hb4.cell (p := ⟨wr.heap.size, 4, none⟩) (by simp [World.drew])).trans (cell_in (heap_alloc_new wr _) rfl)
                  have y6 : w4.cell? ⟨wr.heap.size, 5, none⟩ = some (.int .u8 v5) := (hb4.cell (p := ⟨wr.heap.size, 5, none⟩) (by simp [World.drew])).trans (cell_in (heap_alloc_new wr _) rfl)
                  have o0 : w4.cell? ⟨g, k * 6, none⟩ = _ := (hb4.cell (p := ⟨g, k * 6, none⟩) (by simp [World.drew]; omega)).trans ((World.cell?_alloc_lt _ _ _ hg2).trans r0)
                  have o1 : w4.cell? ⟨g, k * 6 + 1, none⟩ = _ := (hb4.cell (p := ⟨g, k * 6 + 1, none⟩) (by simp [World.drew]; omega)).trans ((World.cell?_alloc_lt _ _ _ hg2).trans r1)
                  have o2 : w4.cell? ⟨g, k * 6 + 2, none⟩ = _ := (hb4.cell (p := ⟨g, k * 6 + 2, none⟩) (by simp [World.drew]; omega)).trans ((World.cell?_alloc_lt _ _ _ hg2).trans r2)
                  have o3 : w4.cell? ⟨g, k * 6 + 3, none⟩ = _ := (hb4.cell (p := ⟨g, k * 6 + 3, none⟩) (by simp [World.drew]; omega)).trans ((World.cell?_alloc_lt _ _ _ hg2).trans r3)
                  have o4 : w4.cell? ⟨g, k * 6 + 4, none⟩ = _ := (hb4.cell (p := ⟨g, k * 6 + 4, none⟩) (by simp [World.drew]; omega)).trans ((World.cell?_alloc_lt _ _ _ hg2).trans r4)
                  have o5 : w4.cell? ⟨g, k * 6 + 5, none⟩ = _ := (hb4.cell (p := ⟨g, k * 6 + 5, none⟩) (by simp [World.drew]; omega)).trans ((World.cell?_alloc_lt _ _ _ hg2).trans r5)
                  have f0 := hk4.row.frozenAt (k * 6)
                  have f1 := hk4.row.frozenAt (k * 6 + 1)
                  have f2 := hk4.row.frozenAt (k * 6 + 2)
                  have f3 := hk4.row.frozenAt (k * 6 + 3)
                  have f4 := hk4.row.frozenAt (k * 6 + 4)
                  have f5 := hk4.row.frozenAt (k * 6 + 5)
                  have HK4 := Lib.hid hk4
                  have HPW := Lib.hid hpw
                  have hsz4 := hb4.size
                  clear hk4 hpw))
      go_wp2_with fail
      go_roundw
      case rel =>
        have hks : k < (vs ++ pvs.drop k).length := by
          have := HP.out.row.1; rw [flat_len Pv.cells 6 (fun _ => rfl)] at this; omega
        have hkp : k < pvs.length := by rw [HLP.out, HPN.out]; exact hlt
        have kp := row_keeps HK4.out.row k ⟨.slice ta' x.ts.length tc', .slice sa' x.ss.length sc', .slice da' x.ds.length dc', v3, v4, v5⟩
        have rw4 := row_store HK4.out.row hks ⟨.slice ta' x.ts.length tc', .slice sa' x.ss.length sc', .slice da' x.ds.length dc', v3, v4, v5⟩
        rw [set_mid vs pvs k _ HVL.out hkp] at rw4
        have hpo : PtOwns w4 (w.heap.size + 2) 96 99 3 ⟨.slice ta' x.ts.length tc', .slice sa' x.ss.length sc', .slice da' x.ds.length dc', v3, v4, v5⟩ x := by
          have hs := HP.out.below.size
          obtain ⟨i1, i2, i3, i4, i5, i6⟩ := HPW.out
          exact ⟨owns_base i1 (by simp [World.drew]; omega), owns_base i2 (by simp [World.drew]; omega), owns_base i3 (by simp [World.drew]; omega), i4, i5, i6⟩
        have ht : c.ps.take (k + 1) = c.ps.take k ++ [x] := by rw [List.take_add_one, HX.out]; rfl
        have hall := (HK4.out.all.snoc hpo).keep kp (by decide) (by decide) (by decide)
        rw [← ht] at hall
        exact ⟨k + 1, vs ++ [⟨.slice ta' x.ts.length tc', .slice sa' x.ss.length sc', .slice da' x.ds.length dc', v3, v4, v5⟩], by omega, by go_num, Lib.hid ⟨kp _ _ _ _ HK4.out.box (by decide) (by decide), kp _ _ _ _ HK4.out.res (by decide) (by decide), kp.owns HK4.out.own1 (by decide) (by decide), rw4, hall, row_below HK4.out.below (by omega) k ⟨.slice ta' x.ts.length tc', .slice sa' x.ss.length sc', .slice da' x.ds.length dc', v3, v4, v5⟩⟩⟩
      case measure => simp [intOf]; omega
    · have tk : decide ((k : Int) < (pn : Int)) = false := by simp; omega
      have hkk : pn = k := by omega
      subst hkk
      have c4 : wr.cell? ⟨w.heap.size, 4, none⟩ = some (.slice ca cn cc) := cell_in HP.out.box rfl
      have f4 := free_in HP.out.box 4
      go_wp2_with fail
      refine (C3.out _ HP.out.below).mono ?_
      rintro e w6 ⟨ca', cc', rfl, o6, hb6⟩
      have hk6 := HP.out.later hb6
      have O6 := Lib.hid (owns_base o6 (show w.heap.size + 2 ≤ _ from by have := lt_of_block HP.out.res; omega))
      have HK6 := Lib.hid hk6
      have d0 := cell_in (j := 0) hk6.box rfl
      have d1 := cell_in (j := 1) hk6.box rfl
      have d2 := cell_in (j := 2) hk6.box rfl
      have d3 := cell_in (j := 3) hk6.box rfl
      have d4 := cell_in (j := 4) hk6.box rfl
      have f5 := free_in hk6.box 4
      have r0 := cell_in (j := 0) hk6.res rfl
      have r1 := cell_in (j := 1) hk6.res rfl
      have r2 := cell_in (j := 2) hk6.res rfl
      have r3 := cell_in (j := 3) hk6.res rfl
      have r4 := cell_in (j := 4) hk6.res rfl
      have q0 := free_in hk6.res 0
      have q1 := free_in hk6.res 1
      have q2 := free_in hk6.res 2
      have q3 := free_in hk6.res 3
      have q4 := free_in hk6.res 4
      clear hk6 o6 hb6 c4 f4
      go_wp2_with fail
      have hbx := set_at (j := 4) (u := .slice ca' cn cc') HK6.out.box
      have hres := (Below.heap_setCell w6 ⟨w.heap.size, 4, none⟩ (.slice ca' cn cc') (w.heap.size + 1) (by simp)).trans HK6.out.res
      have kb : KeepsBut 35 35 w6 (w6.setCell ⟨w.heap.size, 4, none⟩ (.slice ca' cn cc')) := KeepsBut.set (a := ⟨w.heap.size, 4, none⟩) HK6.out.box _
      have hX := set5 hres rfl (.int .i64 fr) (.int .i64 mg) (.slice wa' wn wc') (.slice pa' pn pc') (.slice ca' cn cc')
      have hK := kb.trans (keeps5 hres (.int .i64 fr) (.int .i64 mg) (.slice wa' wn wc') (.slice pa' pn pc') (.slice ca' cn cc'))
      have hrow := HK6.out.row
      rw [List.drop_of_length_le (by rw [HLP.out, HPN.out]; exact Nat.le_refl _), List.append_nil] at hrow
      have hall := HK6.out.all
      rw [List.take_of_length_le (by rw [HPN.out]; exact Nat.le_refl _)] at hall
      refine bodyPost_ret (results_cell_row (P := Try.prog) rfl _ _ (w.heap.size + 1) _ _ (0, 0) _ rfl hX Try.underlying35 rfl Try.sizeConf_conf) rfl ?_
      exact ⟨wa', wc', pa', pc', ca', cc', vs, rfl, hK.owns HK6.out.own1 (by decide) (by decide), hK.owns hrow (by decide) (by decide), hall.keep hK (by decide) (by decide) (by decide), hK.owns O6.out (by decide) (by decide), below5 (HK6.out.below.setCell (by simp) _) (by omega) _ _ _ _ _⟩
end Go.Proofs.Ytkikapodobeaaaa
