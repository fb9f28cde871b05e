/- The document's budget: Use. -/
import Derived.Test.YtoofkeeoolgpdaaChunkS
import Derived.Test.YtoofkeeoolgpdaaChunkF
import Derived.Deep.CutRange
import Derived.Deep.CutBlock
import Derived.Test.YtoofkeeoolgpdaaHand
namespace Go.Proofs.Ytoofkeeoolgpdaa
open Go.ChangeShapes Go.WideShapes Go.ChangeAt Go.RowKit
set_option linter.unusedVariables false
set_option linter.unusedSimpArgs false

/-- A live row is cut at its head. -/
theorem CrB.cutL {w : World} {H : Nat} {s : Sv} {f : Int} {st : Bool} {la ea a' : Option Addr} {lc ec n : Nat} {x : Wn} {l : List Wn} {en : List Bk} (h : CrB w H s f st la lc (x :: l) ea ec en) (hn : n = (x :: l).length) (he : (if lc = 1 then la else Option.map (fun x => (⟨x.block, x.off + 3, none⟩ : Addr)) la) = a') :
    CrB (w.setCell ⟨H, 4, none⟩ (.slice a' (n - 1) (lc - 1))) H s f st a' (lc - 1) l ea ec en ∧ GrowS (Rl H la ea) (Rl H a' ea) w (w.setCell ⟨H, 4, none⟩ (.slice a' (n - 1) (lc - 1))) := by
  have hl := h.l
  rw [← hn] at hl
  obtain ⟨a2, e2, h2, h3⟩ := hl.cut (by rw [hn]; simp)
  rw [he] at e2
  subst e2
  rw [own_ob, own_ob] at h3
  have hB : But H w (w.setCell ⟨H, 4, none⟩ (.slice a' (n - 1) (lc - 1))) := (But.refl H w).set 4 _
  have hnl : n - 1 = l.length := by rw [hn]; simp
  rw [show List.drop 3 (List.flatMap Wn.cells (x :: l)) = l.flatMap Wn.cells from rfl] at h2
  refine ⟨⟨by rw [set_at h.box, hnl]; rfl, ?_, h.e.hold (fun g hg => ?_), by rw [h3]; exact h.d⟩, ⟨hB.os, hB.tape, hB.output, hB.size, fun k hk hn => hB.block k hk (fun e => hn (.inl e)), ?_⟩⟩
  · have h2' : ORow w 63 3 (.slice a' l.length (lc - 1)) l.length (l.flatMap Wn.cells) := by rw [← hnl]; exact h2
    refine h2'.hold (fun g hg => ?_)
    rw [own_ob, h3] at hg
    exact hB.block g (h.ll g hg).1 (h.ll g hg).2
  · rw [own_ob] at hg
    exact hB.block g (h.le g hg).1 (h.le g hg).2
  · rintro k (hk | hk | hk)
    · exact .inl (.inl hk)
    · rw [h3] at hk; exact .inl (.inr (.inl hk))
    · exact .inl (.inr (.inr hk))
theorem ownsRow_form6 {w : World} {base size n m c : Nat} {e : TypeId} {a : Option Addr} {xs : List Value} (h : w.ownsRow base e size (.slice a m c) n xs) (hn : 0 < n) : ∃ g cap, Value.slice a m c = .slice (some ⟨g, 0, none⟩) n cap := by
  rcases h.2 with ⟨_, h0⟩ | ⟨g, cap, cur, hv, _⟩
  · omega
  · exact ⟨g, cap, hv⟩
set_option maxRecDepth 100000 in
set_option maxHeartbeats 8000000 in
theorem ruse_any (w : World) (H : Nat) (S : Nat → Prop) (s : Sv) (b : Bd) (h : RgAt H s b w S) (hs : okSv s = true) (hok : BdOk s.c s.t 1099511627776 b) (hbn : ∀ x ∈ b.live, (0 ≤ x.at_ ∧ x.at_ ≤ 1099511627776) ∧ (1 ≤ x.len ∧ x.len ≤ 1000) ∧ (0 ≤ x.part ∧ x.part ≤ 1000)) :
    Calls Try.prog 13 #[.pointer (some ⟨H, 0, none⟩)] w fun e w' => ∃ S', e = .returned (.bool (useOk b)) ∧ RgAt H s (useB s.t b) w' S' ∧ GrowS S S' w w' := by
  obtain ⟨la, ea, lc, ec, hk, rfl⟩ := h
  have hsb : 1 ≤ s.c ∧ s.c ≤ s.t ∧ s.t ≤ 1000 := by simpa [okSv] using hs
  have hbd := hok.bounds
  obtain ⟨f, lv, bk, st⟩ := b
  dsimp only at hk hbd hbn
  obtain ⟨i0, hi, hz0, hz1, hz2⟩ := info_parts Try.infoRb
  have HI := Lib.hid hi
  obtain ⟨i1, hi1, hy0, hy1, hy2⟩ := info_parts Try.infoRc
  have HJ := Lib.hid hi1
  cases lv with
  | nil =>
    have b4 := hk.c4
    have HK := Lib.hid hk
    clear hk hbd hok hbn hs
    go_enter Try.func13, Try.ntmps13
    go_wp2_with fail
    go_ret
    have hfin : RgAt H s (useB s.t ⟨f, [], bk, st⟩) w (Rl H la ea) := ⟨la, ea, lc, ec, HK.out, rfl⟩
    first | exact ⟨_, rfl, hfin, GrowS.of_below (Below.refl _ _)⟩ | exact ⟨rfl, _, hfin, GrowS.of_below (Below.refl _ _)⟩
  | cons x l =>
    obtain ⟨m1, m2, m3⟩ := hbn x (List.mem_cons_self ..)
    obtain ⟨x0, x1, x2⟩ := x
    dsimp only at m1 m2 m3
    obtain ⟨n, hn⟩ : ∃ n, n = ((⟨x0, x1, x2⟩ : Wn) :: l).length := ⟨_, rfl⟩
    obtain ⟨xs, hxs⟩ : ∃ xs, xs = ((⟨x0, x1, x2⟩ : Wn) :: l).flatMap Wn.cells := ⟨_, rfl⟩
    have hn0 : 0 < n := by rw [hn]; simp
    have n0 : ((n : Int) == 0) = false := by simp; omega
    have l1 : (0 : Int) < (n : Int) := by omega
    have l2 : (1 : Int) ≤ (n : Int) := by omega
    have b4 := hk.c4
    rw [← hn] at b4
    have hnn : n ≤ 1000 := by rw [hn]; omega
    have hbb : bk.length ≤ 1000 := by omega
    have hl0 := hk.l
    rw [← hn, ← hxs] at hl0
    have hl1 : Lies w 0 w.heap.size (.slice la n lc) n 3 xs := hl0.lies (fun g hg => ⟨Nat.zero_le _, hl0.lt g hg⟩)
    have HX3 : Hid (∀ u ∈ xs, u.oneCell' = true) := Lib.hid (by rw [hxs]; exact flat_one Wn.cells wn_one _)
    have HEMP : Hid ((w.alloc (.cells #[] 63)).ownsRow w.heap.size 63 3 (.slice (some ⟨w.heap.size, 0, none⟩) 0 0) 0 []) := Lib.hid ⟨by simp, .inr ⟨w.heap.size, 0, #[], rfl, Nat.le_refl _, heap_alloc_new _ _, Nat.le_refl _, by simp [maxLen], by simp, by simp⟩⟩
    have HLI : Hid (Lies (w.alloc (.cells #[] 63)) 0 w.heap.size (.slice la n lc) n 3 xs) := Lib.hid (hl1.keep (SameIn.of_below (below1 _ _) (Nat.le_refl _)))
    have hb4V : (w.alloc (.cells #[] 63)).cell? ⟨H, 4, none⟩ = some (.slice la n lc) := Lib.cell?_alloc_some _ b4
    have HK := Lib.hid hk
    have HN := Lib.hid hn
    have HXS := Lib.hid hxs
    have HBB := Lib.hid hbb
    clear hk hbd hok hbn hs hl0 hl1 hn hxs hi hi1
    go_enter Try.func13, Try.ntmps13
    go_upto_region 4 with (first
      | (refine wpList_append_lie2 (by rfl) (.tmp 10) (.tmp 14) 34 (by rfl) w.heap.size 63 i1 _ 3 24 Try.underlying34 HJ.out hy0 hy1 hy2 rfl (by omega) (.slice (some ⟨w.heap.size, 0, none⟩) 0 0) 0 [] (by rfl) HEMP.out (.slice la n lc) 0 w.heap.size n xs (by rfl) HLI.out HX3.out n (by omega) (by simp only [maxLen]; omega) (by omega) (by simp) ?_
         intro aoL capL wL hown6' hgrow6' hob6'
         have hown6 : wL.ownsRow w.heap.size 63 3 (.slice aoL n capL) n xs := hown6'
         have hb6 : Below w.heap.size w wL := (below1 w _).grown hgrow6' (by simp) (fun q hq => by cases hq; exact Nat.le_refl _)
         obtain ⟨G, capG, hG⟩ := ownsRow_form6 hown6 hn0
         cases hG
         have hO6 := Lib.hid (ORow.of_owns hown6)
         have hGb : w.heap.size ≤ G := (World.ownsRow.lt hown6 G rfl).1
         have HB6 := Lib.hid hb6
         have HK6 := Lib.hid (HK.out.later hb6)
         clear hown6' hgrow6' hob6' hown6 hb6)
      | fail "no arm")
    have hO6' := hO6.out
    rw [HXS.out] at hO6'
    obtain ⟨v0, v1, v2, vf⟩ : wL.cell? ⟨G, 0, none⟩ = some (.int .i64 x0) ∧ wL.cell? ⟨G, 1, none⟩ = some (.int .i64 x1) ∧ wL.cell? ⟨G, 2, none⟩ = some (.int .i64 x2) ∧ ∀ j, wL.frozen? ⟨G, j, none⟩ = false := by
      obtain ⟨g', off', e, hc, hf, _⟩ := hO6'.at_ hn0
      cases e
      exact ⟨by simpa using hc 0 _ (by simp [Wn.cells]), by simpa using hc 1 _ (by simp [Wn.cells]), by simpa using hc 2 _ (by simp [Wn.cells]), hf⟩
    have vf1 := vf 1
    have vf2 := vf 2
    have hHG : H ≠ G := fun e => by have := lt_of_block HK.out.box; omega
    have hGH : G ≠ H := fun e => hHG e.symm
    have e1 : IntKind.i64.wrap (x1 - 1) = x1 - 1 := IntWalk.i64_in _ (by omega)
    have e2 : IntKind.i64.wrap (x2 + 1) = x2 + 1 := IntWalk.i64_in _ (by omega)
    have e3 : IntKind.i64.wrap (x0 + s.t) = x0 + s.t := IntWalk.i64_in _ (by omega)
    have w4 := HK6.out.c4
    have wf4 := HK6.out.fz 4
    clear vf hO6'
    go_upto_region 7 with fail
    -- the row and the box behind these stores
    have hrow : ORow ((wL.setCell ⟨G, 1, none⟩ (.int .i64 (x1 - 1))).setCell ⟨G, 2, none⟩ (.int .i64 (x2 + 1))) 63 3 (.slice (some ⟨G, 0, none⟩) n capL) n (((⟨x0, x1 - 1, x2 + 1⟩ : Wn) :: l).flatMap Wn.cells) := by
      have h3 := (hO6.out.set (j := 1) (by omega) (.int .i64 (x1 - 1))).set (j := 2) (by omega) (.int .i64 (x2 + 1))
      rw [HXS.out] at h3
      simpa [Wn.cells] using h3
    have hBG : But G wL ((wL.setCell ⟨G, 1, none⟩ (.int .i64 (x1 - 1))).setCell ⟨G, 2, none⟩ (.int .i64 (x2 + 1))) := ((But.refl G wL).set 1 _).set 2 _
    have hkk : CrB ((wL.setCell ⟨G, 1, none⟩ (.int .i64 (x1 - 1))).setCell ⟨G, 2, none⟩ (.int .i64 (x2 + 1))) H s f st la lc (⟨x0, x1, x2⟩ :: l) ea ec bk := HK6.out.hold (fun k hk => hBG.block k (HK6.out.lt k hk) (fun e => by have := HK.out.lt k hk; omega))
    obtain ⟨u1, u2⟩ := hkk.lived (w0 := w) (ao := some ⟨G, 0, none⟩) (cap := capL) (lv' := (⟨x0, x1 - 1, x2 + 1⟩ : Wn) :: l) (GrowS.of_below (HB6.out.trans (hBG.below hGb HB6.out.size))) HK.out.lt (by rw [show ((⟨x0, x1 - 1, x2 + 1⟩ : Wn) :: l).length = n by rw [HN.out]; rfl]; exact hrow) (fun g hg => by cases hg; exact hGb)
    rw [show ((⟨x0, x1 - 1, x2 + 1⟩ : Wn) :: l).length = n by rw [HN.out]; rfl] at u1 u2
    obtain ⟨U, hU⟩ : ∃ U, U = ((wL.setCell ⟨G, 1, none⟩ (.int .i64 (x1 - 1))).setCell ⟨G, 2, none⟩ (.int .i64 (x2 + 1))).setCell ⟨H, 4, none⟩ (.slice (some ⟨G, 0, none⟩) n capL) := ⟨_, rfl⟩
    rw [← hU] at u1 u2
    have HU := Lib.hid hU
    have HKU := Lib.hid u1
    have HGU := Lib.hid u2
    clear hU u1 u2 hrow hBG hkk v0 v1 v2 vf1 vf2 w4 wf4
    rw [← HU.out]
    obtain ⟨c31, c32, c33, c34⟩ : U.cell? ⟨G, 0, none⟩ = some (.int .i64 x0) ∧ U.cell? ⟨H, 2, none⟩ = some (.int .i64 s.t) ∧ U.cell? ⟨G, 2, none⟩ = some (.int .i64 (x2 + 1)) ∧ U.cell? ⟨G, 1, none⟩ = some (.int .i64 (x1 - 1)) := by
      have hl := HKU.out.l
      obtain ⟨g', off', e, hc, hf, _⟩ := hl.at_ (by simp)
      cases e
      exact ⟨by simpa using hc 0 _ (by simp [Wn.cells]), HKU.out.c2, by simpa using hc 2 _ (by simp [Wn.cells]), by simpa using hc 1 _ (by simp [Wn.cells])⟩
    by_cases hz : x1 - 1 = 0
    · have t0 : ((x1 - 1) == 0) = true := by simpa using hz
      have HE : Hid (useB s.t ⟨f, (⟨x0, x1, x2⟩ : Wn) :: l, bk, st⟩ = ⟨f, l, bk ++ [⟨x0 + s.t, x2 + 1⟩], st⟩) := Lib.hid (by unfold useB; dsimp only; rw [if_pos hz])
      have hGU := HKU.out.ll G rfl
      have KSV : ∀ (W : World) (v : Value), Below U.heap.size U W → (W.setCell ⟨H, 5, none⟩ v).cell? ⟨G, 0, none⟩ = some (.int .i64 x0) ∧ (W.setCell ⟨H, 5, none⟩ v).cell? ⟨H, 2, none⟩ = some (.int .i64 s.t) ∧ (W.setCell ⟨H, 5, none⟩ v).cell? ⟨G, 2, none⟩ = some (.int .i64 (x2 + 1)) := fun W v hW => by
        have hB : But H W (W.setCell ⟨H, 5, none⟩ v) := (But.refl H W).set 5 _
        have hGW : G < W.heap.size := Nat.lt_of_lt_of_le hGU.1 hW.size
        exact ⟨(World.cell?_of_block (hB.block G hGW hGH)).trans (cell_later c31 hW), cell_in (set_at (HKU.out.later hW).box) (by rfl), (World.cell?_of_block (hB.block G hGW hGH)).trans (cell_later c33 hW)⟩
      go_upto_region 8 with fail
      obtain ⟨ba, bc, hba, hbc⟩ : ∃ ba bc, ba = ea ∧ bc = ec := ⟨_, _, rfl, rfl⟩
      rw [← hba, ← hbc] at HKU
      rw [← hba] at HGU
      have HBA := Lib.hid hba
      clear hba hbc
      have hbl : bk.length ≤ 1000 := HBB.out
      obtain ⟨nb, hnb⟩ : ∃ nb, nb = (bk).length := ⟨_, rfl⟩
      obtain ⟨ys, hys⟩ : ∃ ys, ys = (bk).flatMap Bk.cells := ⟨_, rfl⟩
      have cb5 := HKU.out.c5
      rw [← hnb] at cb5
      have hr0 := HKU.out.e
      rw [← hnb, ← hys] at hr0
      have hr1 : Lies U 0 U.heap.size (.slice ba nb bc) nb 2 ys := hr0.lies (fun g hg => ⟨Nat.zero_le _, hr0.lt g hg⟩)
      have HX1 : Hid (∀ u ∈ ys, u.oneCell' = true) := Lib.hid (by rw [hys]; exact flat_one Bk.cells bk_one _)
      have HL : Hid (∀ W, Below U.heap.size U W → Lies W 0 U.heap.size (.slice ba nb bc) nb 2 ys) := Lib.hid (fun W hW => hr1.keep (SameIn.of_below hW (Nat.le_refl _)))
      have HE0 : Hid (∀ W, Below U.heap.size U W → (W.alloc (.cells #[] 62)).ownsRow U.heap.size 62 2 (.slice (some ⟨W.heap.size, 0, none⟩) 0 0) 0 [] ∧ ∀ o, ((W.alloc (.cells #[] 62)).alloc o).ownsRow U.heap.size 62 2 (.slice (some ⟨W.heap.size, 0, none⟩) 0 0) 0 []) := Lib.hid (fun W hW => by
        have h1 : (W.alloc (.cells #[] 62)).ownsRow U.heap.size 62 2 (.slice (some ⟨W.heap.size, 0, none⟩) 0 0) 0 [] := ⟨by simp, .inr ⟨W.heap.size, 0, #[], rfl, hW.size, heap_alloc_new _ _, Nat.le_refl _, by simp [maxLen], by simp, by simp⟩⟩
        exact ⟨h1, fun o => owns_later h1 (below1 _ _)⟩)
      have KB : Hid (∀ W, Below U.heap.size U W → W.cell? ⟨G, 0, none⟩ = some (.int .i64 x0) ∧ W.cell? ⟨H, 2, none⟩ = some (.int .i64 s.t) ∧ W.cell? ⟨G, 2, none⟩ = some (.int .i64 (x2 + 1))) := Lib.hid (fun W hW => ⟨cell_later c31 hW, cell_later c32 hW, cell_later c33 hW⟩)
      have KST : Hid (∀ W v, Below U.heap.size U W → (W.setCell ⟨H, 5, none⟩ v).cell? ⟨G, 0, none⟩ = some (.int .i64 x0) ∧ (W.setCell ⟨H, 5, none⟩ v).cell? ⟨H, 2, none⟩ = some (.int .i64 s.t) ∧ (W.setCell ⟨H, 5, none⟩ v).cell? ⟨G, 2, none⟩ = some (.int .i64 (x2 + 1))) := Lib.hid (fun W v hW => KSV W v hW)
      have KC : Hid (∀ W, Below U.heap.size U W → W.cell? ⟨H, 5, none⟩ = some (.slice ba nb bc) ∧ W.frozen? ⟨H, 5, none⟩ = false) := Lib.hid (fun W hW => ⟨by rw [hnb]; exact (HKU.out.later hW).c5, (HKU.out.later hW).fz 5⟩)
      have hca : ∀ o, (U.alloc o).cell? ⟨H, 5, none⟩ = some (.slice ba nb bc) := fun o => (KC.out _ (below1 _ _)).1
      have hcb : ∀ o o', ((U.alloc o).alloc o').cell? ⟨H, 5, none⟩ = some (.slice ba nb bc) := fun o o' => (KC.out _ (b_alloc (below1 _ _) (Nat.le_refl _) _)).1
      have c3 : U.cell? ⟨G, 0, none⟩ = some (.int .i64 x0) ∧ U.cell? ⟨H, 2, none⟩ = some (.int .i64 s.t) ∧ U.cell? ⟨G, 2, none⟩ = some (.int .i64 (x2 + 1)) := ⟨c31, c32, c33⟩
      have HNB := Lib.hid hnb
      have HYS := Lib.hid hys
      clear hr0 hr1 hnb hys KSV
      have hnb4 : nb ≤ 1000 := by rw [HNB.out]; exact hbl
      refine wp_region_noPanic ?_
      refine wp_region_held_drew (S := fun W => W.cell? ⟨G, 0, none⟩ = some (.int .i64 x0) ∧ W.cell? ⟨H, 2, none⟩ = some (.int .i64 s.t) ∧ W.cell? ⟨G, 2, none⟩ = some (.int .i64 (x2 + 1))) (by kernel_rfl) ?_ (fun hHeld => ?_)
      · (first | exact c3 | exact KST.out _ _ hb7.out | exact KB.out _ hb7.out | exact KB.out _ hb6.out | exact KB.out _ (b_alloc hb6.out (Nat.le_refl _) _) | exact KB.out _ (by repeat first | exact Below.refl _ _ | refine Below.drew ?_ | refine b_alloc ?_ (Nat.le_refl _) _))
      refine wpAnyH_takeE (i := 0) (d := some 39) (v := ?_) rfl rfl (by kernel_rfl) (by kernel_rfl) (by kernel_rfl) (fun _ _ _ h => h) (Or.inl ⟨by rfl, ?_⟩) (by assumption) ?_
      rotate_left
      · intro w hSw
        (try dsimp only at hSw)
        go_simp
        try (with_reducible rfl)
      simp only [Act.put, List.setIfInBounds_toArray, List.set_cons_zero, List.set_cons_succ]
      refine wpAnyH_takeE (i := 2) (d := some 41) (v := ?_) rfl rfl (by kernel_rfl) (by kernel_rfl) (by kernel_rfl) (fun _ _ _ h => h) (Or.inl ⟨by rfl, ?_⟩) (by assumption) ?_
      rotate_left
      · intro w hSw
        (try dsimp only at hSw)
        go_simp
        try (with_reducible rfl)
      simp only [Act.put, List.setIfInBounds_toArray, List.set_cons_zero, List.set_cons_succ]
      refine wpAnyH_takeE (i := 3) (d := some 42) (v := ?_) rfl rfl (by kernel_rfl) (by kernel_rfl) (by kernel_rfl) (fun _ _ _ h => h) (Or.inl ⟨by rfl, ?_⟩) (by assumption) ?_
      rotate_left
      · intro w hSw
        (try dsimp only at hSw)
        go_simp
        try (with_reducible rfl)
      simp only [Act.put, List.setIfInBounds_toArray, List.set_cons_zero, List.set_cons_succ]
      refine wpAnyH_takeE (i := 4) (d := some 43) (v := ?_) rfl rfl (by kernel_rfl) (by kernel_rfl) (by kernel_rfl) (fun _ _ _ h => h) (Or.inl ⟨by rfl, ?_⟩) (by assumption) ?_
      rotate_left
      · intro w hSw
        (try dsimp only at hSw)
        go_simp
        try (with_reducible rfl)
      simp only [Act.put, List.setIfInBounds_toArray, List.set_cons_zero, List.set_cons_succ]
      refine wpAnyH_takeE (i := 7) (d := some 46) (v := ?_) rfl rfl (by kernel_rfl) (by kernel_rfl) (by kernel_rfl) (fun _ _ _ h => h) (Or.inl ⟨by rfl, ?_⟩) (by assumption) ?_
      rotate_left
      · intro w hSw
        (try dsimp only at hSw)
        go_simp
        try (with_reducible rfl)
      simp only [Act.put, List.setIfInBounds_toArray, List.set_cons_zero, List.set_cons_succ]
      refine wpAnyH_takeE (i := 8) (d := some 47) (v := ?_) rfl rfl (by kernel_rfl) (by kernel_rfl) (by kernel_rfl) (fun _ _ _ h => h) (Or.inl ⟨by rfl, ?_⟩) (by assumption) ?_
      rotate_left
      · intro w hSw
        (try dsimp only at hSw)
        go_simp
        try (with_reducible rfl)
      simp only [Act.put, List.setIfInBounds_toArray, List.set_cons_zero, List.set_cons_succ]
      refine wpAnyH_takeE (i := 9) (d := some 48) (v := ?_) rfl rfl (by kernel_rfl) (by kernel_rfl) (by kernel_rfl) (fun _ _ _ h => h) (Or.inl ⟨by rfl, ?_⟩) (by assumption) ?_
      rotate_left
      · intro w hSw
        (try dsimp only at hSw)
        go_simp
        try (with_reducible rfl)
      simp only [Act.put, List.setIfInBounds_toArray, List.set_cons_zero, List.set_cons_succ]
      refine wpAnyH_takeE (i := 10) (d := some 49) (v := ?_) rfl rfl (by kernel_rfl) (by kernel_rfl) (by kernel_rfl) (fun _ _ _ h => h) (Or.inl ⟨by rfl, ?_⟩) (by assumption) ?_
      rotate_left
      · intro w hSw
        (try dsimp only at hSw)
        go_simp
        try (with_reducible rfl)
      simp only [Act.put, List.setIfInBounds_toArray, List.set_cons_zero, List.set_cons_succ]
      refine wpAnyH_takeE (i := 11) (d := some 50) (v := ?_) rfl rfl (by kernel_rfl) (by kernel_rfl) (by kernel_rfl) (fun _ _ _ h => h) (Or.inl ⟨by rfl, ?_⟩) (by assumption) ?_
      rotate_left
      · intro w hSw
        (try dsimp only at hSw)
        go_simp
        try (with_reducible rfl)
      simp only [Act.put, List.setIfInBounds_toArray, List.set_cons_zero, List.set_cons_succ]
      refine wpAnyH_takeE (i := 12) (d := some 51) (v := ?_) rfl rfl (by kernel_rfl) (by kernel_rfl) (by kernel_rfl) (fun _ _ _ h => h) (Or.inl ⟨by rfl, ?_⟩) (by assumption) ?_
      rotate_left
      · intro w hSw
        (try dsimp only at hSw)
        go_simp
        try (with_reducible rfl)
      simp only [Act.put, List.setIfInBounds_toArray, List.set_cons_zero, List.set_cons_succ]
      refine wpAnyH_takeE (i := 13) (d := some 52) (v := ?_) rfl rfl (by kernel_rfl) (by kernel_rfl) (by kernel_rfl) (fun _ _ _ h => h) (Or.inl ⟨by rfl, ?_⟩) (by assumption) ?_
      rotate_left
      · intro w hSw
        (try dsimp only at hSw)
        go_simp
        try (with_reducible rfl)
      simp only [Act.put, List.setIfInBounds_toArray, List.set_cons_zero, List.set_cons_succ]
      refine wpAnyH_takeE (i := 14) (d := some 53) (v := ?_) rfl rfl (by kernel_rfl) (by kernel_rfl) (by kernel_rfl) (fun _ _ _ h => h) (Or.inl ⟨by rfl, ?_⟩) (by assumption) ?_
      rotate_left
      · intro w hSw
        (try dsimp only at hSw)
        go_simp
        try (with_reducible rfl)
      simp only [Act.put, List.setIfInBounds_toArray, List.set_cons_zero, List.set_cons_succ]
      refine wpAnyH_takeE (i := 15) (d := some 54) (v := ?_) rfl rfl (by kernel_rfl) (by kernel_rfl) (by kernel_rfl) (fun _ _ _ h => h) (Or.inl ⟨by rfl, ?_⟩) (by assumption) ?_
      rotate_left
      · intro w hSw
        (try dsimp only at hSw)
        go_simp
        try (with_reducible rfl)
      simp only [Act.put, List.setIfInBounds_toArray, List.set_cons_zero, List.set_cons_succ]
      refine wpAnyH_takeE (i := 16) (d := some 55) (v := ?_) rfl rfl (by kernel_rfl) (by kernel_rfl) (by kernel_rfl) (fun _ _ _ h => h) (Or.inl ⟨by rfl, ?_⟩) (by assumption) ?_
      rotate_left
      · intro w hSw
        (try dsimp only at hSw)
        go_simp
        try (with_reducible rfl)
      simp only [Act.put, List.setIfInBounds_toArray, List.set_cons_zero, List.set_cons_succ]
      refine wpAnyH_takeE (i := 17) (d := some 56) (v := ?_) rfl rfl (by kernel_rfl) (by kernel_rfl) (by kernel_rfl) (fun _ _ _ h => h) (Or.inl ⟨by rfl, ?_⟩) (by assumption) ?_
      rotate_left
      · intro w hSw
        (try dsimp only at hSw)
        go_simp
        try (with_reducible rfl)
      simp only [Act.put, List.setIfInBounds_toArray, List.set_cons_zero, List.set_cons_succ]
      refine wpAnyH_takeE (i := 18) (d := some 57) (v := ?_) rfl rfl (by kernel_rfl) (by kernel_rfl) (by kernel_rfl) (fun _ _ _ h => h) (Or.inl ⟨by rfl, ?_⟩) (by assumption) ?_
      rotate_left
      · intro w hSw
        (try dsimp only at hSw)
        go_simp
        try (with_reducible rfl)
      simp only [Act.put, List.setIfInBounds_toArray, List.set_cons_zero, List.set_cons_succ]
      refine wpAnyH_takeE (i := 19) (d := some 58) (v := ?_) rfl rfl (by kernel_rfl) (by kernel_rfl) (by kernel_rfl) (fun _ _ _ h => h) (Or.inl ⟨by rfl, ?_⟩) (by assumption) ?_
      rotate_left
      · intro w hSw
        (try dsimp only at hSw)
        go_simp
        try (with_reducible rfl)
      simp only [Act.put, List.setIfInBounds_toArray, List.set_cons_zero, List.set_cons_succ]
      refine wpAnyH_takeE (i := 20) (d := some 59) (v := ?_) rfl rfl (by kernel_rfl) (by kernel_rfl) (by kernel_rfl) (fun _ _ _ h => h) (Or.inl ⟨by rfl, ?_⟩) (by assumption) ?_
      rotate_left
      · intro w hSw
        (try dsimp only at hSw)
        go_simp
        try (with_reducible rfl)
      simp only [Act.put, List.setIfInBounds_toArray, List.set_cons_zero, List.set_cons_succ]
      refine wpAnyH_takeE (i := 21) (d := some 60) (v := ?_) rfl rfl (by kernel_rfl) (by kernel_rfl) (by kernel_rfl) (fun _ _ _ h => h) (Or.inl ⟨by rfl, ?_⟩) (by assumption) ?_
      rotate_left
      · intro w hSw
        (try dsimp only at hSw)
        go_simp
        try (with_reducible rfl)
      simp only [Act.put, List.setIfInBounds_toArray, List.set_cons_zero, List.set_cons_succ]
      refine wpAnyH_ready (rs := [1, 5, 22]) (by kernel_rfl) (by simp) ?_
      refine AllReadyH.cons rfl (fun K hK => ?_) (AllReadyH.cons rfl (fun K hK => ?_) (AllReadyH.cons rfl (fun K hK => ?_) AllReadyH.nil))
      · go_simp
        refine hK.out _ _ ?_ (fun hHeld => ?_)
        · (first | exact c3 | exact KST.out _ _ hb7.out | exact KB.out _ hb7.out | exact KB.out _ hb6.out | exact KB.out _ (b_alloc hb6.out (Nat.le_refl _) _) | exact KB.out _ (by repeat first | exact Below.refl _ _ | refine Below.drew ?_ | refine b_alloc ?_ (Nat.le_refl _) _))
        clear hK K
        try simp only [Act.put, List.setIfInBounds_toArray, List.set_cons_zero, List.set_cons_succ]
        refine wpAnyH_ready (rs := [5, 22]) (by kernel_rfl) (by simp) ?_
        refine AllReadyH.cons rfl (fun K hK => ?_) (AllReadyH.cons rfl (fun K hK => ?_) AllReadyH.nil)
        · go_simp
          refine hK.out _ _ ?_ (fun hHeld => ?_)
          · (first | exact c3 | exact KST.out _ _ hb7.out | exact KB.out _ hb7.out | exact KB.out _ hb6.out | exact KB.out _ (b_alloc hb6.out (Nat.le_refl _) _) | exact KB.out _ (by repeat first | exact Below.refl _ _ | refine Below.drew ?_ | refine b_alloc ?_ (Nat.le_refl _) _))
          clear hK K
          try simp only [Act.put, List.setIfInBounds_toArray, List.set_cons_zero, List.set_cons_succ]
          refine wpAnyH_ready (rs := [6, 22]) (by kernel_rfl) (by simp) ?_
          refine AllReadyH.cons rfl (fun K hK => ?_) (AllReadyH.cons rfl (fun K hK => ?_) AllReadyH.nil)
          · (first
              | (refine step_append_lie2 (by rfl) (.tmp 40) (.tmp 44) 35 (by rfl) U.heap.size 62 i0 _ 2 16 Try.underlying35 HI.out hz0 hz1 hz2 rfl (by omega) (.slice (some ⟨U.heap.size, 0, none⟩) 0 0) 0 [] (by rfl) ((HE0.out U (Below.refl _ _)).1) (.slice ba nb bc) (0) (U.heap.size) nb ys (by rfl) (HL.out _ (by repeat first | exact Below.refl _ _ | refine Below.drew ?_ | refine b_alloc ?_ (Nat.le_refl _) _)) HX1.out nb (by omega) (by simp only [maxLen]; omega) (by omega) (by first | omega | (simp [World.drew]; done) | (simp [World.drew]; omega)) ?_
                 intro ao6 cap6 w6 hown6' hgrow6' hob6'
                 have hown6 := Lib.hid (hown6' : w6.ownsRow U.heap.size 62 2 (.slice ao6 nb cap6) nb ys)
                 have hb6 : Hid (Below U.heap.size U w6) := Lib.hid (Below.grown (by repeat first | exact Below.refl _ _ | refine Below.drew ?_ | refine b_alloc ?_ (Nat.le_refl _) _) hgrow6' (by first | omega | (simp [World.drew]; done) | (simp [World.drew]; omega)) (fun q hq => by cases hq; exact Nat.le_refl _))
                 skip
                 clear hown6' hgrow6' hob6')
              | (refine step_append_lie2 (by rfl) (.tmp 40) (.tmp 44) 35 (by rfl) U.heap.size 62 i0 _ 2 16 Try.underlying35 HI.out hz0 hz1 hz2 rfl (by omega) (.slice (some ⟨U.heap.size, 0, none⟩) 0 0) 0 [] (by rfl) ((HE0.out U (Below.refl _ _)).2 _) (.slice ba nb bc) (0) (U.heap.size) nb ys (by rfl) (HL.out _ (by repeat first | exact Below.refl _ _ | refine Below.drew ?_ | refine b_alloc ?_ (Nat.le_refl _) _)) HX1.out nb (by omega) (by simp only [maxLen]; omega) (by omega) (by first | omega | (simp [World.drew]; done) | (simp [World.drew]; omega)) ?_
                 intro ao6 cap6 w6 hown6' hgrow6' hob6'
                 have hown6 := Lib.hid (hown6' : w6.ownsRow U.heap.size 62 2 (.slice ao6 nb cap6) nb ys)
                 have hb6 : Hid (Below U.heap.size U w6) := Lib.hid (Below.grown (by repeat first | exact Below.refl _ _ | refine Below.drew ?_ | refine b_alloc ?_ (Nat.le_refl _) _) hgrow6' (by first | omega | (simp [World.drew]; done) | (simp [World.drew]; omega)) (fun q hq => by cases hq; exact Nat.le_refl _))
                 have hr6 : Hid (Lies w6 (U.heap.size + 1) (U.heap.size + 2) (.slice (some ⟨U.heap.size + 1, 0, none⟩) 1 1) 1 2 [.int .i64 (x0 + s.t), .int .i64 (x2 + 1)]) := Lib.hid (one_lies (cs := #[.int .i64 (x0 + s.t), .int .i64 (x2 + 1)]) ((hgrow6'.block (U.heap.size + 1) (by first | omega | (simp [World.drew]; done) | (simp [World.drew]; omega)) (by simp [Value.ownBlock])).trans (by simpa [World.drew] using heap_alloc_new (U.alloc (.cells #[] 62)) (.cells #[.int .i64 (x0 + s.t), .int .i64 (x2 + 1)] 62))) rfl)
                 clear hown6' hgrow6' hob6')
              | (refine step_append_lie2 (by rfl) (.tmp 40) (.tmp 44) 35 (by rfl) U.heap.size 62 i0 _ 2 16 Try.underlying35 HI.out hz0 hz1 hz2 rfl (by omega) (.slice (some ⟨U.heap.size + 1, 0, none⟩) 0 0) 0 [] (by rfl) (by have h := (HE0.out (U.alloc (.cells #[.int .i64 (x0 + s.t), .int .i64 (x2 + 1)] 62)) (below1 _ _)).1; rw [show (U.alloc (.cells #[.int .i64 (x0 + s.t), .int .i64 (x2 + 1)] 62)).heap.size = U.heap.size + 1 by simp] at h; exact h) (.slice ba nb bc) (0) (U.heap.size) nb ys (by rfl) (HL.out _ (by repeat first | exact Below.refl _ _ | refine Below.drew ?_ | refine b_alloc ?_ (Nat.le_refl _) _)) HX1.out nb (by omega) (by simp only [maxLen]; omega) (by omega) (by first | omega | (simp [World.drew]; done) | (simp [World.drew]; omega)) ?_
                 intro ao6 cap6 w6 hown6' hgrow6' hob6'
                 have hown6 := Lib.hid (hown6' : w6.ownsRow U.heap.size 62 2 (.slice ao6 nb cap6) nb ys)
                 have hb6 : Hid (Below U.heap.size U w6) := Lib.hid (Below.grown (by repeat first | exact Below.refl _ _ | refine Below.drew ?_ | refine b_alloc ?_ (Nat.le_refl _) _) hgrow6' (by first | omega | (simp [World.drew]; done) | (simp [World.drew]; omega)) (fun q hq => by cases hq; exact Nat.le_succ _))
                 have hr6 : Hid (Lies w6 U.heap.size (U.heap.size + 1) (.slice (some ⟨U.heap.size, 0, none⟩) 1 1) 1 2 [.int .i64 (x0 + s.t), .int .i64 (x2 + 1)]) := Lib.hid (one_lies (cs := #[.int .i64 (x0 + s.t), .int .i64 (x2 + 1)]) ((hgrow6'.block U.heap.size (by first | omega | (simp [World.drew]; done) | (simp [World.drew]; omega)) (by simp [Value.ownBlock])).trans (((below1 (U.alloc (.cells #[.int .i64 (x0 + s.t), .int .i64 (x2 + 1)] 62)) (.cells #[] 62)).block U.heap.size (by simp)).trans (heap_alloc_new U (.cells #[.int .i64 (x0 + s.t), .int .i64 (x2 + 1)] 62)))) rfl)
                 clear hown6' hgrow6' hob6'))
            refine hK.out _ _ ?_ (fun hHeld => ?_)
            · (first | exact c3 | exact KST.out _ _ hb7.out | exact KB.out _ hb7.out | exact KB.out _ hb6.out | exact KB.out _ (b_alloc hb6.out (Nat.le_refl _) _) | exact KB.out _ (by repeat first | exact Below.refl _ _ | refine Below.drew ?_ | refine b_alloc ?_ (Nat.le_refl _) _))
            clear hK K
            try simp only [Act.put, List.setIfInBounds_toArray, List.set_cons_zero, List.set_cons_succ]
            refine wpAnyH_ready (rs := [22]) (by kernel_rfl) (by simp) ?_
            refine AllReadyH.cons rfl (fun K hK => ?_) AllReadyH.nil
            go_simp
            refine hK.out _ _ ?_ (fun hHeld => ?_)
            · (first | exact c3 | exact KST.out _ _ hb7.out | exact KB.out _ hb7.out | exact KB.out _ hb6.out | exact KB.out _ (b_alloc hb6.out (Nat.le_refl _) _) | exact KB.out _ (by repeat first | exact Below.refl _ _ | refine Below.drew ?_ | refine b_alloc ?_ (Nat.le_refl _) _))
            clear hK K
            try simp only [Act.put, List.setIfInBounds_toArray, List.set_cons_zero, List.set_cons_succ]
            refine wpAnyH_ready (rs := [23]) (by kernel_rfl) (by simp) ?_
            refine AllReadyH.cons rfl (fun K hK => ?_) AllReadyH.nil
            (first
              | (refine step_append_lie2 (by rfl) (.tmp 45) (.tmp 61) 35 (by rfl) U.heap.size 62 i0 _ 2 16 Try.underlying35 HI.out hz0 hz1 hz2 rfl (by omega) (.slice ao6 nb cap6) nb ys (by rfl) (owns_later hown6.out (below1 _ _)) (.slice (some ⟨w6.heap.size, 0, none⟩) 1 1) (w6.heap.size) (w6.heap.size + 1) 1 [.int .i64 (x0 + s.t), .int .i64 (x2 + 1)] (by rfl) (one_lies (cs := #[.int .i64 (x0 + s.t), .int .i64 (x2 + 1)]) (heap_alloc_new w6 _) rfl) (bk_one ⟨x0 + s.t, x2 + 1⟩) (nb + 1) rfl (by simp only [maxLen]; omega) (by omega) (by have h := hb6.out.size; first | omega | (simp [World.drew]; done) | (simp [World.drew]; omega)) ?_
                 intro ao7 cap7 w7 hown7' hgrow7' hob7'
                 have hown7 := Lib.hid hown7'
                 have hb7 : Hid (Below U.heap.size U w7) := Lib.hid (Below.grown ((b_alloc hb6.out (Nat.le_refl _) _).drew) hgrow7' (by have h := hb6.out.size; first | omega | (simp [World.drew]; done) | (simp [World.drew]; omega)) (fun q hq => (owns_block (hown6.out) q hq).1))
                 obtain ⟨hu7, hf7⟩ := KC.out _ hb7.out
                 clear hown7' hgrow7' hob7')
              | (refine step_append_lie2 (by rfl) (.tmp 45) (.tmp 61) 35 (by rfl) U.heap.size 62 i0 _ 2 16 Try.underlying35 HI.out hz0 hz1 hz2 rfl (by omega) (.slice ao6 nb cap6) nb ys (by rfl) (owns_later hown6.out (below1 _ _)) (.slice (some ⟨w6.heap.size, 0, none⟩) 1 1) (w6.heap.size) (w6.heap.size + 1) 1 [.int .i64 (x0 + s.t), .int .i64 (x2 + 1)] (by rfl) (one_lies (cs := #[.int .i64 (x0 + s.t), .int .i64 (x2 + 1)]) (heap_alloc_new w6 _) rfl) (bk_one ⟨x0 + s.t, x2 + 1⟩) (nb + 1) rfl (by simp only [maxLen]; omega) (by omega) (by have h := hb6.out.size; first | omega | (simp [World.drew]; done) | (simp [World.drew]; omega)) ?_
                 intro ao7 cap7 w7 hown7' hgrow7' hob7'
                 have hown7 := Lib.hid hown7'
                 have hb7 : Hid (Below U.heap.size U w7) := Lib.hid (Below.grown (b_alloc hb6.out (Nat.le_refl _) _) hgrow7' (by have h := hb6.out.size; first | omega | (simp [World.drew]; done) | (simp [World.drew]; omega)) (fun q hq => (owns_block (hown6.out) q hq).1))
                 obtain ⟨hu7, hf7⟩ := KC.out _ hb7.out
                 clear hown7' hgrow7' hob7')
              | (refine step_append_lie2 (by rfl) (.tmp 45) (.tmp 61) 35 (by rfl) U.heap.size 62 i0 _ 2 16 Try.underlying35 HI.out hz0 hz1 hz2 rfl (by omega) (.slice ao6 nb cap6) nb ys (by rfl) (hown6.out) (.slice (some ⟨U.heap.size + 1, 0, none⟩) 1 1) (U.heap.size + 1) (U.heap.size + 2) 1 [.int .i64 (x0 + s.t), .int .i64 (x2 + 1)] (by rfl) (hr6.out) (bk_one ⟨x0 + s.t, x2 + 1⟩) (nb + 1) rfl (by simp only [maxLen]; omega) (by omega) (by have h := hb6.out.size; first | omega | (simp [World.drew]; done) | (simp [World.drew]; omega)) ?_
                 intro ao7 cap7 w7 hown7' hgrow7' hob7'
                 have hown7 := Lib.hid hown7'
                 have hb7 : Hid (Below U.heap.size U w7) := Lib.hid (Below.grown (hb6.out) hgrow7' (by have h := hb6.out.size; first | omega | (simp [World.drew]; done) | (simp [World.drew]; omega)) (fun q hq => (owns_block (hown6.out) q hq).1))
                 obtain ⟨hu7, hf7⟩ := KC.out _ hb7.out
                 clear hown7' hgrow7' hob7')
              | (refine step_append_lie2 (by rfl) (.tmp 45) (.tmp 61) 35 (by rfl) U.heap.size 62 i0 _ 2 16 Try.underlying35 HI.out hz0 hz1 hz2 rfl (by omega) (.slice ao6 nb cap6) nb ys (by rfl) (hown6.out) (.slice (some ⟨U.heap.size + 1, 0, none⟩) 1 1) (U.heap.size + 1) (U.heap.size + 2) 1 [.int .i64 (x0 + s.t), .int .i64 (x2 + 1)] (by rfl) (hr6.out) (bk_one ⟨x0 + s.t, x2 + 1⟩) (nb + 1) rfl (by simp only [maxLen]; omega) (by omega) (by have h := hb6.out.size; first | omega | (simp [World.drew]; done) | (simp [World.drew]; omega)) ?_
                 intro ao7 cap7 w7 hown7' hgrow7' hob7'
                 have hown7 := Lib.hid hown7'
                 have hb7 : Hid (Below U.heap.size U w7) := Lib.hid (Below.grown (hb6.out.drew) hgrow7' (by have h := hb6.out.size; first | omega | (simp [World.drew]; done) | (simp [World.drew]; omega)) (fun q hq => (owns_block (hown6.out) q hq).1))
                 obtain ⟨hu7, hf7⟩ := KC.out _ hb7.out
                 clear hown7' hgrow7' hob7')
              | (refine step_append_lie2 (by rfl) (.tmp 45) (.tmp 61) 35 (by rfl) U.heap.size 62 i0 _ 2 16 Try.underlying35 HI.out hz0 hz1 hz2 rfl (by omega) (.slice ao6 nb cap6) nb ys (by rfl) (hown6.out) (.slice (some ⟨U.heap.size, 0, none⟩) 1 1) (U.heap.size) (U.heap.size + 1) 1 [.int .i64 (x0 + s.t), .int .i64 (x2 + 1)] (by rfl) (hr6.out) (bk_one ⟨x0 + s.t, x2 + 1⟩) (nb + 1) rfl (by simp only [maxLen]; omega) (by omega) (by have h := hb6.out.size; first | omega | (simp [World.drew]; done) | (simp [World.drew]; omega)) ?_
                 intro ao7 cap7 w7 hown7' hgrow7' hob7'
                 have hown7 := Lib.hid hown7'
                 have hb7 : Hid (Below U.heap.size U w7) := Lib.hid (Below.grown (hb6.out) hgrow7' (by have h := hb6.out.size; first | omega | (simp [World.drew]; done) | (simp [World.drew]; omega)) (fun q hq => (owns_block (hown6.out) q hq).1))
                 obtain ⟨hu7, hf7⟩ := KC.out _ hb7.out
                 clear hown7' hgrow7' hob7')
              | (refine step_append_lie2 (by rfl) (.tmp 45) (.tmp 61) 35 (by rfl) U.heap.size 62 i0 _ 2 16 Try.underlying35 HI.out hz0 hz1 hz2 rfl (by omega) (.slice ao6 nb cap6) nb ys (by rfl) (hown6.out) (.slice (some ⟨U.heap.size, 0, none⟩) 1 1) (U.heap.size) (U.heap.size + 1) 1 [.int .i64 (x0 + s.t), .int .i64 (x2 + 1)] (by rfl) (hr6.out) (bk_one ⟨x0 + s.t, x2 + 1⟩) (nb + 1) rfl (by simp only [maxLen]; omega) (by omega) (by have h := hb6.out.size; first | omega | (simp [World.drew]; done) | (simp [World.drew]; omega)) ?_
                 intro ao7 cap7 w7 hown7' hgrow7' hob7'
                 have hown7 := Lib.hid hown7'
                 have hb7 : Hid (Below U.heap.size U w7) := Lib.hid (Below.grown (hb6.out.drew) hgrow7' (by have h := hb6.out.size; first | omega | (simp [World.drew]; done) | (simp [World.drew]; omega)) (fun q hq => (owns_block (hown6.out) q hq).1))
                 obtain ⟨hu7, hf7⟩ := KC.out _ hb7.out
                 clear hown7' hgrow7' hob7'))
            refine hK.out _ _ ?_ (fun hHeld => ?_)
            · (first | exact c3 | exact KST.out _ _ hb7.out | exact KB.out _ hb7.out | exact KB.out _ hb6.out | exact KB.out _ (b_alloc hb6.out (Nat.le_refl _) _) | exact KB.out _ (by repeat first | exact Below.refl _ _ | refine Below.drew ?_ | refine b_alloc ?_ (Nat.le_refl _) _))
            clear hK K
            try simp only [Act.put, List.setIfInBounds_toArray, List.set_cons_zero, List.set_cons_succ]
            refine wpAnyH_takeE (i := 24) (d := some 63) (v := ?_) rfl rfl (by kernel_rfl) (by kernel_rfl) (by kernel_rfl) (fun _ _ _ h => h) (Or.inl ⟨by rfl, ?_⟩) (by assumption) ?_
            rotate_left
            · intro w hSw
              (try dsimp only at hSw)
              go_simp
              try (with_reducible rfl)
            simp only [Act.put, List.setIfInBounds_toArray, List.set_cons_zero, List.set_cons_succ]
            refine wpAnyH_takeE (i := 25) (d := some 64) (v := ?_) rfl rfl (by kernel_rfl) (by kernel_rfl) (by kernel_rfl) (fun _ _ _ h => h) (Or.inl ⟨by rfl, ?_⟩) (by assumption) ?_
            rotate_left
            · intro w hSw
              (try dsimp only at hSw)
              go_simp
              try (with_reducible rfl)
            simp only [Act.put, List.setIfInBounds_toArray, List.set_cons_zero, List.set_cons_succ]
            refine wpAnyH_ready (rs := [26]) (by kernel_rfl) (by simp) ?_
            refine AllReadyH.cons rfl (fun K hK => ?_) AllReadyH.nil
            go_simp
            refine hK.out _ _ ?_ (fun hHeld => ?_)
            · (first | exact c3 | exact KST.out _ _ hb7.out | exact KB.out _ hb7.out | exact KB.out _ hb6.out | exact KB.out _ (b_alloc hb6.out (Nat.le_refl _) _) | exact KB.out _ (by repeat first | exact Below.refl _ _ | refine Below.drew ?_ | refine b_alloc ?_ (Nat.le_refl _) _))
            clear hK K
            try simp only [Act.put, List.setIfInBounds_toArray, List.set_cons_zero, List.set_cons_succ]
            refine wpAnyH_done (by kernel_rfl) ?_ _
            refine NoPanic.normal ?_
            have hk7 := HKU.out.later hb7.out
            obtain ⟨t1, t2⟩ := hk7.backed (w0 := U) (ao := ao7) (cap := cap7) (en' := bk ++ [⟨x0 + s.t, x2 + 1⟩]) (GrowS.of_below hb7.out) HKU.out.lt (by
              have := ORow.of_owns hown7.out
              rw [HYS.out] at this
              simpa [HNB.out, Bk.cells] using this) (fun g hg => (World.ownsRow.lt hown7.out g (by rw [own_ob]; exact hg)).1)
            rw [show (bk ++ [(⟨x0 + s.t, x2 + 1⟩ : Bk)]).length = nb + 1 by rw [HNB.out]; simp] at t1 t2
            obtain ⟨Y, hY⟩ : ∃ Y, Y = w7.setCell ⟨H, 5, none⟩ (.slice ao7 (nb + 1) cap7) := ⟨_, rfl⟩
            rw [← hY] at t1 t2
            have z4 := t1.c4
            rw [show ((⟨x0, x1 - 1, x2 + 1⟩ : Wn) :: l).length = n by rw [HN.out]; rfl] at z4
            have zf := t1.fz 4
            have T1 := Lib.hid t1
            have T2 := Lib.hid t2
            have HY := Lib.hid hY
            clear t1 t2 hY hk7
            rw [← HY.out]
            obtain ⟨aS, haS⟩ : ∃ aS : Option Addr, (if capL = 1 then some (⟨G, 0, none⟩ : Addr) else some ⟨G, 3, none⟩) = aS := ⟨_, rfl⟩
            have HAS := Lib.hid haS
            clear haS
            go_upto_region 10 with fail
            rw [HAS.out]
            go_wp2_with fail
            go_ret
            obtain ⟨q1, q2⟩ := T1.out.cutL (n := n) (a' := aS) (by rw [HN.out]; rfl) (by simpa using HAS.out)
            rw [HE.out]
            have hgr := HGU.out.trans (T2.out.trans q2)
            rw [HBA.out] at hgr
            first | exact ⟨_, rfl, ⟨_, _, _, _, q1, rfl⟩, hgr⟩ | exact ⟨rfl, _, ⟨_, _, _, _, q1, rfl⟩, hgr⟩
          · go_simp
            refine hK.out _ _ ?_ (fun hHeld => ?_)
            · (first | exact c3 | exact KST.out _ _ hb7.out | exact KB.out _ hb7.out | exact KB.out _ hb6.out | exact KB.out _ (b_alloc hb6.out (Nat.le_refl _) _) | exact KB.out _ (by repeat first | exact Below.refl _ _ | refine Below.drew ?_ | refine b_alloc ?_ (Nat.le_refl _) _))
            clear hK K
            try simp only [Act.put, List.setIfInBounds_toArray, List.set_cons_zero, List.set_cons_succ]
            refine wpAnyH_ready (rs := [6]) (by kernel_rfl) (by simp) ?_
            refine AllReadyH.cons rfl (fun K hK => ?_) AllReadyH.nil
            (first
              | (refine step_append_lie2 (by rfl) (.tmp 40) (.tmp 44) 35 (by rfl) U.heap.size 62 i0 _ 2 16 Try.underlying35 HI.out hz0 hz1 hz2 rfl (by omega) (.slice (some ⟨U.heap.size, 0, none⟩) 0 0) 0 [] (by rfl) ((HE0.out U (Below.refl _ _)).1) (.slice ba nb bc) (0) (U.heap.size) nb ys (by rfl) (HL.out _ (by repeat first | exact Below.refl _ _ | refine Below.drew ?_ | refine b_alloc ?_ (Nat.le_refl _) _)) HX1.out nb (by omega) (by simp only [maxLen]; omega) (by omega) (by first | omega | (simp [World.drew]; done) | (simp [World.drew]; omega)) ?_
                 intro ao6 cap6 w6 hown6' hgrow6' hob6'
                 have hown6 := Lib.hid (hown6' : w6.ownsRow U.heap.size 62 2 (.slice ao6 nb cap6) nb ys)
                 have hb6 : Hid (Below U.heap.size U w6) := Lib.hid (Below.grown (by repeat first | exact Below.refl _ _ | refine Below.drew ?_ | refine b_alloc ?_ (Nat.le_refl _) _) hgrow6' (by first | omega | (simp [World.drew]; done) | (simp [World.drew]; omega)) (fun q hq => by cases hq; exact Nat.le_refl _))
                 skip
                 clear hown6' hgrow6' hob6')
              | (refine step_append_lie2 (by rfl) (.tmp 40) (.tmp 44) 35 (by rfl) U.heap.size 62 i0 _ 2 16 Try.underlying35 HI.out hz0 hz1 hz2 rfl (by omega) (.slice (some ⟨U.heap.size, 0, none⟩) 0 0) 0 [] (by rfl) ((HE0.out U (Below.refl _ _)).2 _) (.slice ba nb bc) (0) (U.heap.size) nb ys (by rfl) (HL.out _ (by repeat first | exact Below.refl _ _ | refine Below.drew ?_ | refine b_alloc ?_ (Nat.le_refl _) _)) HX1.out nb (by omega) (by simp only [maxLen]; omega) (by omega) (by first | omega | (simp [World.drew]; done) | (simp [World.drew]; omega)) ?_
                 intro ao6 cap6 w6 hown6' hgrow6' hob6'
                 have hown6 := Lib.hid (hown6' : w6.ownsRow U.heap.size 62 2 (.slice ao6 nb cap6) nb ys)
                 have hb6 : Hid (Below U.heap.size U w6) := Lib.hid (Below.grown (by repeat first | exact Below.refl _ _ | refine Below.drew ?_ | refine b_alloc ?_ (Nat.le_refl _) _) hgrow6' (by first | omega | (simp [World.drew]; done) | (simp [World.drew]; omega)) (fun q hq => by cases hq; exact Nat.le_refl _))
                 have hr6 : Hid (Lies w6 (U.heap.size + 1) (U.heap.size + 2) (.slice (some ⟨U.heap.size + 1, 0, none⟩) 1 1) 1 2 [.int .i64 (x0 + s.t), .int .i64 (x2 + 1)]) := Lib.hid (one_lies (cs := #[.int .i64 (x0 + s.t), .int .i64 (x2 + 1)]) ((hgrow6'.block (U.heap.size + 1) (by first | omega | (simp [World.drew]; done) | (simp [World.drew]; omega)) (by simp [Value.ownBlock])).trans (by simpa [World.drew] using heap_alloc_new (U.alloc (.cells #[] 62)) (.cells #[.int .i64 (x0 + s.t), .int .i64 (x2 + 1)] 62))) rfl)
                 clear hown6' hgrow6' hob6')
              | (refine step_append_lie2 (by rfl) (.tmp 40) (.tmp 44) 35 (by rfl) U.heap.size 62 i0 _ 2 16 Try.underlying35 HI.out hz0 hz1 hz2 rfl (by omega) (.slice (some ⟨U.heap.size + 1, 0, none⟩) 0 0) 0 [] (by rfl) (by have h := (HE0.out (U.alloc (.cells #[.int .i64 (x0 + s.t), .int .i64 (x2 + 1)] 62)) (below1 _ _)).1; rw [show (U.alloc (.cells #[.int .i64 (x0 + s.t), .int .i64 (x2 + 1)] 62)).heap.size = U.heap.size + 1 by simp] at h; exact h) (.slice ba nb bc) (0) (U.heap.size) nb ys (by rfl) (HL.out _ (by repeat first | exact Below.refl _ _ | refine Below.drew ?_ | refine b_alloc ?_ (Nat.le_refl _) _)) HX1.out nb (by omega) (by simp only [maxLen]; omega) (by omega) (by first | omega | (simp [World.drew]; done) | (simp [World.drew]; omega)) ?_
                 intro ao6 cap6 w6 hown6' hgrow6' hob6'
                 have hown6 := Lib.hid (hown6' : w6.ownsRow U.heap.size 62 2 (.slice ao6 nb cap6) nb ys)
                 have hb6 : Hid (Below U.heap.size U w6) := Lib.hid (Below.grown (by repeat first | exact Below.refl _ _ | refine Below.drew ?_ | refine b_alloc ?_ (Nat.le_refl _) _) hgrow6' (by first | omega | (simp [World.drew]; done) | (simp [World.drew]; omega)) (fun q hq => by cases hq; exact Nat.le_succ _))
                 have hr6 : Hid (Lies w6 U.heap.size (U.heap.size + 1) (.slice (some ⟨U.heap.size, 0, none⟩) 1 1) 1 2 [.int .i64 (x0 + s.t), .int .i64 (x2 + 1)]) := Lib.hid (one_lies (cs := #[.int .i64 (x0 + s.t), .int .i64 (x2 + 1)]) ((hgrow6'.block U.heap.size (by first | omega | (simp [World.drew]; done) | (simp [World.drew]; omega)) (by simp [Value.ownBlock])).trans (((below1 (U.alloc (.cells #[.int .i64 (x0 + s.t), .int .i64 (x2 + 1)] 62)) (.cells #[] 62)).block U.heap.size (by simp)).trans (heap_alloc_new U (.cells #[.int .i64 (x0 + s.t), .int .i64 (x2 + 1)] 62)))) rfl)
                 clear hown6' hgrow6' hob6'))
            refine hK.out _ _ ?_ (fun hHeld => ?_)
            · (first | exact c3 | exact KST.out _ _ hb7.out | exact KB.out _ hb7.out | exact KB.out _ hb6.out | exact KB.out _ (b_alloc hb6.out (Nat.le_refl _) _) | exact KB.out _ (by repeat first | exact Below.refl _ _ | refine Below.drew ?_ | refine b_alloc ?_ (Nat.le_refl _) _))
            clear hK K
            try simp only [Act.put, List.setIfInBounds_toArray, List.set_cons_zero, List.set_cons_succ]
            refine wpAnyH_ready (rs := [23]) (by kernel_rfl) (by simp) ?_
            refine AllReadyH.cons rfl (fun K hK => ?_) AllReadyH.nil
            (first
              | (refine step_append_lie2 (by rfl) (.tmp 45) (.tmp 61) 35 (by rfl) U.heap.size 62 i0 _ 2 16 Try.underlying35 HI.out hz0 hz1 hz2 rfl (by omega) (.slice ao6 nb cap6) nb ys (by rfl) (owns_later hown6.out (below1 _ _)) (.slice (some ⟨w6.heap.size, 0, none⟩) 1 1) (w6.heap.size) (w6.heap.size + 1) 1 [.int .i64 (x0 + s.t), .int .i64 (x2 + 1)] (by rfl) (one_lies (cs := #[.int .i64 (x0 + s.t), .int .i64 (x2 + 1)]) (heap_alloc_new w6 _) rfl) (bk_one ⟨x0 + s.t, x2 + 1⟩) (nb + 1) rfl (by simp only [maxLen]; omega) (by omega) (by have h := hb6.out.size; first | omega | (simp [World.drew]; done) | (simp [World.drew]; omega)) ?_
                 intro ao7 cap7 w7 hown7' hgrow7' hob7'
                 have hown7 := Lib.hid hown7'
                 have hb7 : Hid (Below U.heap.size U w7) := Lib.hid (Below.grown ((b_alloc hb6.out (Nat.le_refl _) _).drew) hgrow7' (by have h := hb6.out.size; first | omega | (simp [World.drew]; done) | (simp [World.drew]; omega)) (fun q hq => (owns_block (hown6.out) q hq).1))
                 obtain ⟨hu7, hf7⟩ := KC.out _ hb7.out
                 clear hown7' hgrow7' hob7')
              | (refine step_append_lie2 (by rfl) (.tmp 45) (.tmp 61) 35 (by rfl) U.heap.size 62 i0 _ 2 16 Try.underlying35 HI.out hz0 hz1 hz2 rfl (by omega) (.slice ao6 nb cap6) nb ys (by rfl) (owns_later hown6.out (below1 _ _)) (.slice (some ⟨w6.heap.size, 0, none⟩) 1 1) (w6.heap.size) (w6.heap.size + 1) 1 [.int .i64 (x0 + s.t), .int .i64 (x2 + 1)] (by rfl) (one_lies (cs := #[.int .i64 (x0 + s.t), .int .i64 (x2 + 1)]) (heap_alloc_new w6 _) rfl) (bk_one ⟨x0 + s.t, x2 + 1⟩) (nb + 1) rfl (by simp only [maxLen]; omega) (by omega) (by have h := hb6.out.size; first | omega | (simp [World.drew]; done) | (simp [World.drew]; omega)) ?_
                 intro ao7 cap7 w7 hown7' hgrow7' hob7'
                 have hown7 := Lib.hid hown7'
                 have hb7 : Hid (Below U.heap.size U w7) := Lib.hid (Below.grown (b_alloc hb6.out (Nat.le_refl _) _) hgrow7' (by have h := hb6.out.size; first | omega | (simp [World.drew]; done) | (simp [World.drew]; omega)) (fun q hq => (owns_block (hown6.out) q hq).1))
                 obtain ⟨hu7, hf7⟩ := KC.out _ hb7.out
                 clear hown7' hgrow7' hob7')
              | (refine step_append_lie2 (by rfl) (.tmp 45) (.tmp 61) 35 (by rfl) U.heap.size 62 i0 _ 2 16 Try.underlying35 HI.out hz0 hz1 hz2 rfl (by omega) (.slice ao6 nb cap6) nb ys (by rfl) (hown6.out) (.slice (some ⟨U.heap.size + 1, 0, none⟩) 1 1) (U.heap.size + 1) (U.heap.size + 2) 1 [.int .i64 (x0 + s.t), .int .i64 (x2 + 1)] (by rfl) (hr6.out) (bk_one ⟨x0 + s.t, x2 + 1⟩) (nb + 1) rfl (by simp only [maxLen]; omega) (by omega) (by have h := hb6.out.size; first | omega | (simp [World.drew]; done) | (simp [World.drew]; omega)) ?_
                 intro ao7 cap7 w7 hown7' hgrow7' hob7'
                 have hown7 := Lib.hid hown7'
                 have hb7 : Hid (Below U.heap.size U w7) := Lib.hid (Below.grown (hb6.out) hgrow7' (by have h := hb6.out.size; first | omega | (simp [World.drew]; done) | (simp [World.drew]; omega)) (fun q hq => (owns_block (hown6.out) q hq).1))
                 obtain ⟨hu7, hf7⟩ := KC.out _ hb7.out
                 clear hown7' hgrow7' hob7')
              | (refine step_append_lie2 (by rfl) (.tmp 45) (.tmp 61) 35 (by rfl) U.heap.size 62 i0 _ 2 16 Try.underlying35 HI.out hz0 hz1 hz2 rfl (by omega) (.slice ao6 nb cap6) nb ys (by rfl) (hown6.out) (.slice (some ⟨U.heap.size + 1, 0, none⟩) 1 1) (U.heap.size + 1) (U.heap.size + 2) 1 [.int .i64 (x0 + s.t), .int .i64 (x2 + 1)] (by rfl) (hr6.out) (bk_one ⟨x0 + s.t, x2 + 1⟩) (nb + 1) rfl (by simp only [maxLen]; omega) (by omega) (by have h := hb6.out.size; first | omega | (simp [World.drew]; done) | (simp [World.drew]; omega)) ?_
                 intro ao7 cap7 w7 hown7' hgrow7' hob7'
                 have hown7 := Lib.hid hown7'
                 have hb7 : Hid (Below U.heap.size U w7) := Lib.hid (Below.grown (hb6.out.drew) hgrow7' (by have h := hb6.out.size; first | omega | (simp [World.drew]; done) | (simp [World.drew]; omega)) (fun q hq => (owns_block (hown6.out) q hq).1))
                 obtain ⟨hu7, hf7⟩ := KC.out _ hb7.out
                 clear hown7' hgrow7' hob7')
              | (refine step_append_lie2 (by rfl) (.tmp 45) (.tmp 61) 35 (by rfl) U.heap.size 62 i0 _ 2 16 Try.underlying35 HI.out hz0 hz1 hz2 rfl (by omega) (.slice ao6 nb cap6) nb ys (by rfl) (hown6.out) (.slice (some ⟨U.heap.size, 0, none⟩) 1 1) (U.heap.size) (U.heap.size + 1) 1 [.int .i64 (x0 + s.t), .int .i64 (x2 + 1)] (by rfl) (hr6.out) (bk_one ⟨x0 + s.t, x2 + 1⟩) (nb + 1) rfl (by simp only [maxLen]; omega) (by omega) (by have h := hb6.out.size; first | omega | (simp [World.drew]; done) | (simp [World.drew]; omega)) ?_
                 intro ao7 cap7 w7 hown7' hgrow7' hob7'
                 have hown7 := Lib.hid hown7'
                 have hb7 : Hid (Below U.heap.size U w7) := Lib.hid (Below.grown (hb6.out) hgrow7' (by have h := hb6.out.size; first | omega | (simp [World.drew]; done) | (simp [World.drew]; omega)) (fun q hq => (owns_block (hown6.out) q hq).1))
                 obtain ⟨hu7, hf7⟩ := KC.out _ hb7.out
                 clear hown7' hgrow7' hob7')
              | (refine step_append_lie2 (by rfl) (.tmp 45) (.tmp 61) 35 (by rfl) U.heap.size 62 i0 _ 2 16 Try.underlying35 HI.out hz0 hz1 hz2 rfl (by omega) (.slice ao6 nb cap6) nb ys (by rfl) (hown6.out) (.slice (some ⟨U.heap.size, 0, none⟩) 1 1) (U.heap.size) (U.heap.size + 1) 1 [.int .i64 (x0 + s.t), .int .i64 (x2 + 1)] (by rfl) (hr6.out) (bk_one ⟨x0 + s.t, x2 + 1⟩) (nb + 1) rfl (by simp only [maxLen]; omega) (by omega) (by have h := hb6.out.size; first | omega | (simp [World.drew]; done) | (simp [World.drew]; omega)) ?_
                 intro ao7 cap7 w7 hown7' hgrow7' hob7'
                 have hown7 := Lib.hid hown7'
                 have hb7 : Hid (Below U.heap.size U w7) := Lib.hid (Below.grown (hb6.out.drew) hgrow7' (by have h := hb6.out.size; first | omega | (simp [World.drew]; done) | (simp [World.drew]; omega)) (fun q hq => (owns_block (hown6.out) q hq).1))
                 obtain ⟨hu7, hf7⟩ := KC.out _ hb7.out
                 clear hown7' hgrow7' hob7'))
            refine hK.out _ _ ?_ (fun hHeld => ?_)
            · (first | exact c3 | exact KST.out _ _ hb7.out | exact KB.out _ hb7.out | exact KB.out _ hb6.out | exact KB.out _ (b_alloc hb6.out (Nat.le_refl _) _) | exact KB.out _ (by repeat first | exact Below.refl _ _ | refine Below.drew ?_ | refine b_alloc ?_ (Nat.le_refl _) _))
            clear hK K
            try simp only [Act.put, List.setIfInBounds_toArray, List.set_cons_zero, List.set_cons_succ]
            refine wpAnyH_takeE (i := 24) (d := some 63) (v := ?_) rfl rfl (by kernel_rfl) (by kernel_rfl) (by kernel_rfl) (fun _ _ _ h => h) (Or.inl ⟨by rfl, ?_⟩) (by assumption) ?_
            rotate_left
            · intro w hSw
              (try dsimp only at hSw)
              go_simp
              try (with_reducible rfl)
            simp only [Act.put, List.setIfInBounds_toArray, List.set_cons_zero, List.set_cons_succ]
            refine wpAnyH_takeE (i := 25) (d := some 64) (v := ?_) rfl rfl (by kernel_rfl) (by kernel_rfl) (by kernel_rfl) (fun _ _ _ h => h) (Or.inl ⟨by rfl, ?_⟩) (by assumption) ?_
            rotate_left
            · intro w hSw
              (try dsimp only at hSw)
              go_simp
              try (with_reducible rfl)
            simp only [Act.put, List.setIfInBounds_toArray, List.set_cons_zero, List.set_cons_succ]
            refine wpAnyH_ready (rs := [26]) (by kernel_rfl) (by simp) ?_
            refine AllReadyH.cons rfl (fun K hK => ?_) AllReadyH.nil
            go_simp
            refine hK.out _ _ ?_ (fun hHeld => ?_)
            · (first | exact c3 | exact KST.out _ _ hb7.out | exact KB.out _ hb7.out | exact KB.out _ hb6.out | exact KB.out _ (b_alloc hb6.out (Nat.le_refl _) _) | exact KB.out _ (by repeat first | exact Below.refl _ _ | refine Below.drew ?_ | refine b_alloc ?_ (Nat.le_refl _) _))
            clear hK K
            try simp only [Act.put, List.setIfInBounds_toArray, List.set_cons_zero, List.set_cons_succ]
            refine wpAnyH_done (by kernel_rfl) ?_ _
            refine NoPanic.normal ?_
            have hk7 := HKU.out.later hb7.out
            obtain ⟨t1, t2⟩ := hk7.backed (w0 := U) (ao := ao7) (cap := cap7) (en' := bk ++ [⟨x0 + s.t, x2 + 1⟩]) (GrowS.of_below hb7.out) HKU.out.lt (by
              have := ORow.of_owns hown7.out
              rw [HYS.out] at this
              simpa [HNB.out, Bk.cells] using this) (fun g hg => (World.ownsRow.lt hown7.out g (by rw [own_ob]; exact hg)).1)
            rw [show (bk ++ [(⟨x0 + s.t, x2 + 1⟩ : Bk)]).length = nb + 1 by rw [HNB.out]; simp] at t1 t2
            obtain ⟨Y, hY⟩ : ∃ Y, Y = w7.setCell ⟨H, 5, none⟩ (.slice ao7 (nb + 1) cap7) := ⟨_, rfl⟩
            rw [← hY] at t1 t2
            have z4 := t1.c4
            rw [show ((⟨x0, x1 - 1, x2 + 1⟩ : Wn) :: l).length = n by rw [HN.out]; rfl] at z4
            have zf := t1.fz 4
            have T1 := Lib.hid t1
            have T2 := Lib.hid t2
            have HY := Lib.hid hY
            clear t1 t2 hY hk7
            rw [← HY.out]
            obtain ⟨aS, haS⟩ : ∃ aS : Option Addr, (if capL = 1 then some (⟨G, 0, none⟩ : Addr) else some ⟨G, 3, none⟩) = aS := ⟨_, rfl⟩
            have HAS := Lib.hid haS
            clear haS
            go_upto_region 10 with fail
            rw [HAS.out]
            go_wp2_with fail
            go_ret
            obtain ⟨q1, q2⟩ := T1.out.cutL (n := n) (a' := aS) (by rw [HN.out]; rfl) (by simpa using HAS.out)
            rw [HE.out]
            have hgr := HGU.out.trans (T2.out.trans q2)
            rw [HBA.out] at hgr
            first | exact ⟨_, rfl, ⟨_, _, _, _, q1, rfl⟩, hgr⟩ | exact ⟨rfl, _, ⟨_, _, _, _, q1, rfl⟩, hgr⟩
        · go_simp
          refine hK.out _ _ ?_ (fun hHeld => ?_)
          · (first | exact c3 | exact KST.out _ _ hb7.out | exact KB.out _ hb7.out | exact KB.out _ hb6.out | exact KB.out _ (b_alloc hb6.out (Nat.le_refl _) _) | exact KB.out _ (by repeat first | exact Below.refl _ _ | refine Below.drew ?_ | refine b_alloc ?_ (Nat.le_refl _) _))
          clear hK K
          try simp only [Act.put, List.setIfInBounds_toArray, List.set_cons_zero, List.set_cons_succ]
          refine wpAnyH_ready (rs := [5]) (by kernel_rfl) (by simp) ?_
          refine AllReadyH.cons rfl (fun K hK => ?_) AllReadyH.nil
          go_simp
          refine hK.out _ _ ?_ (fun hHeld => ?_)
          · (first | exact c3 | exact KST.out _ _ hb7.out | exact KB.out _ hb7.out | exact KB.out _ hb6.out | exact KB.out _ (b_alloc hb6.out (Nat.le_refl _) _) | exact KB.out _ (by repeat first | exact Below.refl _ _ | refine Below.drew ?_ | refine b_alloc ?_ (Nat.le_refl _) _))
          clear hK K
          try simp only [Act.put, List.setIfInBounds_toArray, List.set_cons_zero, List.set_cons_succ]
          refine wpAnyH_ready (rs := [6]) (by kernel_rfl) (by simp) ?_
          refine AllReadyH.cons rfl (fun K hK => ?_) AllReadyH.nil
          (first
            | (refine step_append_lie2 (by rfl) (.tmp 40) (.tmp 44) 35 (by rfl) U.heap.size 62 i0 _ 2 16 Try.underlying35 HI.out hz0 hz1 hz2 rfl (by omega) (.slice (some ⟨U.heap.size, 0, none⟩) 0 0) 0 [] (by rfl) ((HE0.out U (Below.refl _ _)).1) (.slice ba nb bc) (0) (U.heap.size) nb ys (by rfl) (HL.out _ (by repeat first | exact Below.refl _ _ | refine Below.drew ?_ | refine b_alloc ?_ (Nat.le_refl _) _)) HX1.out nb (by omega) (by simp only [maxLen]; omega) (by omega) (by first | omega | (simp [World.drew]; done) | (simp [World.drew]; omega)) ?_
               intro ao6 cap6 w6 hown6' hgrow6' hob6'
               have hown6 := Lib.hid (hown6' : w6.ownsRow U.heap.size 62 2 (.slice ao6 nb cap6) nb ys)
               have hb6 : Hid (Below U.heap.size U w6) := Lib.hid (Below.grown (by repeat first | exact Below.refl _ _ | refine Below.drew ?_ | refine b_alloc ?_ (Nat.le_refl _) _) hgrow6' (by first | omega | (simp [World.drew]; done) | (simp [World.drew]; omega)) (fun q hq => by cases hq; exact Nat.le_refl _))
               skip
               clear hown6' hgrow6' hob6')
            | (refine step_append_lie2 (by rfl) (.tmp 40) (.tmp 44) 35 (by rfl) U.heap.size 62 i0 _ 2 16 Try.underlying35 HI.out hz0 hz1 hz2 rfl (by omega) (.slice (some ⟨U.heap.size, 0, none⟩) 0 0) 0 [] (by rfl) ((HE0.out U (Below.refl _ _)).2 _) (.slice ba nb bc) (0) (U.heap.size) nb ys (by rfl) (HL.out _ (by repeat first | exact Below.refl _ _ | refine Below.drew ?_ | refine b_alloc ?_ (Nat.le_refl _) _)) HX1.out nb (by omega) (by simp only [maxLen]; omega) (by omega) (by first | omega | (simp [World.drew]; done) | (simp [World.drew]; omega)) ?_
               intro ao6 cap6 w6 hown6' hgrow6' hob6'
               have hown6 := Lib.hid (hown6' : w6.ownsRow U.heap.size 62 2 (.slice ao6 nb cap6) nb ys)
               have hb6 : Hid (Below U.heap.size U w6) := Lib.hid (Below.grown (by repeat first | exact Below.refl _ _ | refine Below.drew ?_ | refine b_alloc ?_ (Nat.le_refl _) _) hgrow6' (by first | omega | (simp [World.drew]; done) | (simp [World.drew]; omega)) (fun q hq => by cases hq; exact Nat.le_refl _))
               have hr6 : Hid (Lies w6 (U.heap.size + 1) (U.heap.size + 2) (.slice (some ⟨U.heap.size + 1, 0, none⟩) 1 1) 1 2 [.int .i64 (x0 + s.t), .int .i64 (x2 + 1)]) := Lib.hid (one_lies (cs := #[.int .i64 (x0 + s.t), .int .i64 (x2 + 1)]) ((hgrow6'.block (U.heap.size + 1) (by first | omega | (simp [World.drew]; done) | (simp [World.drew]; omega)) (by simp [Value.ownBlock])).trans (by simpa [World.drew] using heap_alloc_new (U.alloc (.cells #[] 62)) (.cells #[.int .i64 (x0 + s.t), .int .i64 (x2 + 1)] 62))) rfl)
               clear hown6' hgrow6' hob6')
            | (refine step_append_lie2 (by rfl) (.tmp 40) (.tmp 44) 35 (by rfl) U.heap.size 62 i0 _ 2 16 Try.underlying35 HI.out hz0 hz1 hz2 rfl (by omega) (.slice (some ⟨U.heap.size + 1, 0, none⟩) 0 0) 0 [] (by rfl) (by have h := (HE0.out (U.alloc (.cells #[.int .i64 (x0 + s.t), .int .i64 (x2 + 1)] 62)) (below1 _ _)).1; rw [show (U.alloc (.cells #[.int .i64 (x0 + s.t), .int .i64 (x2 + 1)] 62)).heap.size = U.heap.size + 1 by simp] at h; exact h) (.slice ba nb bc) (0) (U.heap.size) nb ys (by rfl) (HL.out _ (by repeat first | exact Below.refl _ _ | refine Below.drew ?_ | refine b_alloc ?_ (Nat.le_refl _) _)) HX1.out nb (by omega) (by simp only [maxLen]; omega) (by omega) (by first | omega | (simp [World.drew]; done) | (simp [World.drew]; omega)) ?_
               intro ao6 cap6 w6 hown6' hgrow6' hob6'
               have hown6 := Lib.hid (hown6' : w6.ownsRow U.heap.size 62 2 (.slice ao6 nb cap6) nb ys)
               have hb6 : Hid (Below U.heap.size U w6) := Lib.hid (Below.grown (by repeat first | exact Below.refl _ _ | refine Below.drew ?_ | refine b_alloc ?_ (Nat.le_refl _) _) hgrow6' (by first | omega | (simp [World.drew]; done) | (simp [World.drew]; omega)) (fun q hq => by cases hq; exact Nat.le_succ _))
               have hr6 : Hid (Lies w6 U.heap.size (U.heap.size + 1) (.slice (some ⟨U.heap.size, 0, none⟩) 1 1) 1 2 [.int .i64 (x0 + s.t), .int .i64 (x2 + 1)]) := Lib.hid (one_lies (cs := #[.int .i64 (x0 + s.t), .int .i64 (x2 + 1)]) ((hgrow6'.block U.heap.size (by first | omega | (simp [World.drew]; done) | (simp [World.drew]; omega)) (by simp [Value.ownBlock])).trans (((below1 (U.alloc (.cells #[.int .i64 (x0 + s.t), .int .i64 (x2 + 1)] 62)) (.cells #[] 62)).block U.heap.size (by simp)).trans (heap_alloc_new U (.cells #[.int .i64 (x0 + s.t), .int .i64 (x2 + 1)] 62)))) rfl)
               clear hown6' hgrow6' hob6'))
          refine hK.out _ _ ?_ (fun hHeld => ?_)
          · (first | exact c3 | exact KST.out _ _ hb7.out | exact KB.out _ hb7.out | exact KB.out _ hb6.out | exact KB.out _ (b_alloc hb6.out (Nat.le_refl _) _) | exact KB.out _ (by repeat first | exact Below.refl _ _ | refine Below.drew ?_ | refine b_alloc ?_ (Nat.le_refl _) _))
          clear hK K
          try simp only [Act.put, List.setIfInBounds_toArray, List.set_cons_zero, List.set_cons_succ]
          refine wpAnyH_ready (rs := [23]) (by kernel_rfl) (by simp) ?_
          refine AllReadyH.cons rfl (fun K hK => ?_) AllReadyH.nil
          (first
            | (refine step_append_lie2 (by rfl) (.tmp 45) (.tmp 61) 35 (by rfl) U.heap.size 62 i0 _ 2 16 Try.underlying35 HI.out hz0 hz1 hz2 rfl (by omega) (.slice ao6 nb cap6) nb ys (by rfl) (owns_later hown6.out (below1 _ _)) (.slice (some ⟨w6.heap.size, 0, none⟩) 1 1) (w6.heap.size) (w6.heap.size + 1) 1 [.int .i64 (x0 + s.t), .int .i64 (x2 + 1)] (by rfl) (one_lies (cs := #[.int .i64 (x0 + s.t), .int .i64 (x2 + 1)]) (heap_alloc_new w6 _) rfl) (bk_one ⟨x0 + s.t, x2 + 1⟩) (nb + 1) rfl (by simp only [maxLen]; omega) (by omega) (by have h := hb6.out.size; first | omega | (simp [World.drew]; done) | (simp [World.drew]; omega)) ?_
               intro ao7 cap7 w7 hown7' hgrow7' hob7'
               have hown7 := Lib.hid hown7'
               have hb7 : Hid (Below U.heap.size U w7) := Lib.hid (Below.grown ((b_alloc hb6.out (Nat.le_refl _) _).drew) hgrow7' (by have h := hb6.out.size; first | omega | (simp [World.drew]; done) | (simp [World.drew]; omega)) (fun q hq => (owns_block (hown6.out) q hq).1))
               obtain ⟨hu7, hf7⟩ := KC.out _ hb7.out
               clear hown7' hgrow7' hob7')
            | (refine step_append_lie2 (by rfl) (.tmp 45) (.tmp 61) 35 (by rfl) U.heap.size 62 i0 _ 2 16 Try.underlying35 HI.out hz0 hz1 hz2 rfl (by omega) (.slice ao6 nb cap6) nb ys (by rfl) (owns_later hown6.out (below1 _ _)) (.slice (some ⟨w6.heap.size, 0, none⟩) 1 1) (w6.heap.size) (w6.heap.size + 1) 1 [.int .i64 (x0 + s.t), .int .i64 (x2 + 1)] (by rfl) (one_lies (cs := #[.int .i64 (x0 + s.t), .int .i64 (x2 + 1)]) (heap_alloc_new w6 _) rfl) (bk_one ⟨x0 + s.t, x2 + 1⟩) (nb + 1) rfl (by simp only [maxLen]; omega) (by omega) (by have h := hb6.out.size; first | omega | (simp [World.drew]; done) | (simp [World.drew]; omega)) ?_
               intro ao7 cap7 w7 hown7' hgrow7' hob7'
               have hown7 := Lib.hid hown7'
               have hb7 : Hid (Below U.heap.size U w7) := Lib.hid (Below.grown (b_alloc hb6.out (Nat.le_refl _) _) hgrow7' (by have h := hb6.out.size; first | omega | (simp [World.drew]; done) | (simp [World.drew]; omega)) (fun q hq => (owns_block (hown6.out) q hq).1))
               obtain ⟨hu7, hf7⟩ := KC.out _ hb7.out
               clear hown7' hgrow7' hob7')
            | (refine step_append_lie2 (by rfl) (.tmp 45) (.tmp 61) 35 (by rfl) U.heap.size 62 i0 _ 2 16 Try.underlying35 HI.out hz0 hz1 hz2 rfl (by omega) (.slice ao6 nb cap6) nb ys (by rfl) (hown6.out) (.slice (some ⟨U.heap.size + 1, 0, none⟩) 1 1) (U.heap.size + 1) (U.heap.size + 2) 1 [.int .i64 (x0 + s.t), .int .i64 (x2 + 1)] (by rfl) (hr6.out) (bk_one ⟨x0 + s.t, x2 + 1⟩) (nb + 1) rfl (by simp only [maxLen]; omega) (by omega) (by have h := hb6.out.size; first | omega | (simp [World.drew]; done) | (simp [World.drew]; omega)) ?_
               intro ao7 cap7 w7 hown7' hgrow7' hob7'
               have hown7 := Lib.hid hown7'
               have hb7 : Hid (Below U.heap.size U w7) := Lib.hid (Below.grown (hb6.out) hgrow7' (by have h := hb6.out.size; first | omega | (simp [World.drew]; done) | (simp [World.drew]; omega)) (fun q hq => (owns_block (hown6.out) q hq).1))
               obtain ⟨hu7, hf7⟩ := KC.out _ hb7.out
               clear hown7' hgrow7' hob7')
            | (refine step_append_lie2 (by rfl) (.tmp 45) (.tmp 61) 35 (by rfl) U.heap.size 62 i0 _ 2 16 Try.underlying35 HI.out hz0 hz1 hz2 rfl (by omega) (.slice ao6 nb cap6) nb ys (by rfl) (hown6.out) (.slice (some ⟨U.heap.size + 1, 0, none⟩) 1 1) (U.heap.size + 1) (U.heap.size + 2) 1 [.int .i64 (x0 + s.t), .int .i64 (x2 + 1)] (by rfl) (hr6.out) (bk_one ⟨x0 + s.t, x2 + 1⟩) (nb + 1) rfl (by simp only [maxLen]; omega) (by omega) (by have h := hb6.out.size; first | omega | (simp [World.drew]; done) | (simp [World.drew]; omega)) ?_
               intro ao7 cap7 w7 hown7' hgrow7' hob7'
               have hown7 := Lib.hid hown7'
               have hb7 : Hid (Below U.heap.size U w7) := Lib.hid (Below.grown (hb6.out.drew) hgrow7' (by have h := hb6.out.size; first | omega | (simp [World.drew]; done) | (simp [World.drew]; omega)) (fun q hq => (owns_block (hown6.out) q hq).1))
               obtain ⟨hu7, hf7⟩ := KC.out _ hb7.out
               clear hown7' hgrow7' hob7')
            | (refine step_append_lie2 (by rfl) (.tmp 45) (.tmp 61) 35 (by rfl) U.heap.size 62 i0 _ 2 16 Try.underlying35 HI.out hz0 hz1 hz2 rfl (by omega) (.slice ao6 nb cap6) nb ys (by rfl) (hown6.out) (.slice (some ⟨U.heap.size, 0, none⟩) 1 1) (U.heap.size) (U.heap.size + 1) 1 [.int .i64 (x0 + s.t), .int .i64 (x2 + 1)] (by rfl) (hr6.out) (bk_one ⟨x0 + s.t, x2 + 1⟩) (nb + 1) rfl (by simp only [maxLen]; omega) (by omega) (by have h := hb6.out.size; first | omega | (simp [World.drew]; done) | (simp [World.drew]; omega)) ?_
               intro ao7 cap7 w7 hown7' hgrow7' hob7'
               have hown7 := Lib.hid hown7'
               have hb7 : Hid (Below U.heap.size U w7) := Lib.hid (Below.grown (hb6.out) hgrow7' (by have h := hb6.out.size; first | omega | (simp [World.drew]; done) | (simp [World.drew]; omega)) (fun q hq => (owns_block (hown6.out) q hq).1))
               obtain ⟨hu7, hf7⟩ := KC.out _ hb7.out
               clear hown7' hgrow7' hob7')
            | (refine step_append_lie2 (by rfl) (.tmp 45) (.tmp 61) 35 (by rfl) U.heap.size 62 i0 _ 2 16 Try.underlying35 HI.out hz0 hz1 hz2 rfl (by omega) (.slice ao6 nb cap6) nb ys (by rfl) (hown6.out) (.slice (some ⟨U.heap.size, 0, none⟩) 1 1) (U.heap.size) (U.heap.size + 1) 1 [.int .i64 (x0 + s.t), .int .i64 (x2 + 1)] (by rfl) (hr6.out) (bk_one ⟨x0 + s.t, x2 + 1⟩) (nb + 1) rfl (by simp only [maxLen]; omega) (by omega) (by have h := hb6.out.size; first | omega | (simp [World.drew]; done) | (simp [World.drew]; omega)) ?_
               intro ao7 cap7 w7 hown7' hgrow7' hob7'
               have hown7 := Lib.hid hown7'
               have hb7 : Hid (Below U.heap.size U w7) := Lib.hid (Below.grown (hb6.out.drew) hgrow7' (by have h := hb6.out.size; first | omega | (simp [World.drew]; done) | (simp [World.drew]; omega)) (fun q hq => (owns_block (hown6.out) q hq).1))
               obtain ⟨hu7, hf7⟩ := KC.out _ hb7.out
               clear hown7' hgrow7' hob7'))
          refine hK.out _ _ ?_ (fun hHeld => ?_)
          · (first | exact c3 | exact KST.out _ _ hb7.out | exact KB.out _ hb7.out | exact KB.out _ hb6.out | exact KB.out _ (b_alloc hb6.out (Nat.le_refl _) _) | exact KB.out _ (by repeat first | exact Below.refl _ _ | refine Below.drew ?_ | refine b_alloc ?_ (Nat.le_refl _) _))
          clear hK K
          try simp only [Act.put, List.setIfInBounds_toArray, List.set_cons_zero, List.set_cons_succ]
          refine wpAnyH_takeE (i := 24) (d := some 63) (v := ?_) rfl rfl (by kernel_rfl) (by kernel_rfl) (by kernel_rfl) (fun _ _ _ h => h) (Or.inl ⟨by rfl, ?_⟩) (by assumption) ?_
          rotate_left
          · intro w hSw
            (try dsimp only at hSw)
            go_simp
            try (with_reducible rfl)
          simp only [Act.put, List.setIfInBounds_toArray, List.set_cons_zero, List.set_cons_succ]
          refine wpAnyH_takeE (i := 25) (d := some 64) (v := ?_) rfl rfl (by kernel_rfl) (by kernel_rfl) (by kernel_rfl) (fun _ _ _ h => h) (Or.inl ⟨by rfl, ?_⟩) (by assumption) ?_
          rotate_left
          · intro w hSw
            (try dsimp only at hSw)
            go_simp
            try (with_reducible rfl)
          simp only [Act.put, List.setIfInBounds_toArray, List.set_cons_zero, List.set_cons_succ]
          refine wpAnyH_ready (rs := [26]) (by kernel_rfl) (by simp) ?_
          refine AllReadyH.cons rfl (fun K hK => ?_) AllReadyH.nil
          go_simp
          refine hK.out _ _ ?_ (fun hHeld => ?_)
          · (first | exact c3 | exact KST.out _ _ hb7.out | exact KB.out _ hb7.out | exact KB.out _ hb6.out | exact KB.out _ (b_alloc hb6.out (Nat.le_refl _) _) | exact KB.out _ (by repeat first | exact Below.refl _ _ | refine Below.drew ?_ | refine b_alloc ?_ (Nat.le_refl _) _))
          clear hK K
          try simp only [Act.put, List.setIfInBounds_toArray, List.set_cons_zero, List.set_cons_succ]
          refine wpAnyH_done (by kernel_rfl) ?_ _
          refine NoPanic.normal ?_
          have hk7 := HKU.out.later hb7.out
          obtain ⟨t1, t2⟩ := hk7.backed (w0 := U) (ao := ao7) (cap := cap7) (en' := bk ++ [⟨x0 + s.t, x2 + 1⟩]) (GrowS.of_below hb7.out) HKU.out.lt (by
            have := ORow.of_owns hown7.out
            rw [HYS.out] at this
            simpa [HNB.out, Bk.cells] using this) (fun g hg => (World.ownsRow.lt hown7.out g (by rw [own_ob]; exact hg)).1)
          rw [show (bk ++ [(⟨x0 + s.t, x2 + 1⟩ : Bk)]).length = nb + 1 by rw [HNB.out]; simp] at t1 t2
          obtain ⟨Y, hY⟩ : ∃ Y, Y = w7.setCell ⟨H, 5, none⟩ (.slice ao7 (nb + 1) cap7) := ⟨_, rfl⟩
          rw [← hY] at t1 t2
          have z4 := t1.c4
          rw [show ((⟨x0, x1 - 1, x2 + 1⟩ : Wn) :: l).length = n by rw [HN.out]; rfl] at z4
          have zf := t1.fz 4
          have T1 := Lib.hid t1
          have T2 := Lib.hid t2
          have HY := Lib.hid hY
          clear t1 t2 hY hk7
          rw [← HY.out]
          obtain ⟨aS, haS⟩ : ∃ aS : Option Addr, (if capL = 1 then some (⟨G, 0, none⟩ : Addr) else some ⟨G, 3, none⟩) = aS := ⟨_, rfl⟩
          have HAS := Lib.hid haS
          clear haS
          go_upto_region 10 with fail
          rw [HAS.out]
          go_wp2_with fail
          go_ret
          obtain ⟨q1, q2⟩ := T1.out.cutL (n := n) (a' := aS) (by rw [HN.out]; rfl) (by simpa using HAS.out)
          rw [HE.out]
          have hgr := HGU.out.trans (T2.out.trans q2)
          rw [HBA.out] at hgr
          first | exact ⟨_, rfl, ⟨_, _, _, _, q1, rfl⟩, hgr⟩ | exact ⟨rfl, _, ⟨_, _, _, _, q1, rfl⟩, hgr⟩
      · go_simp
        refine hK.out _ _ ?_ (fun hHeld => ?_)
        · (first | exact c3 | exact KST.out _ _ hb7.out | exact KB.out _ hb7.out | exact KB.out _ hb6.out | exact KB.out _ (b_alloc hb6.out (Nat.le_refl _) _) | exact KB.out _ (by repeat first | exact Below.refl _ _ | refine Below.drew ?_ | refine b_alloc ?_ (Nat.le_refl _) _))
        clear hK K
        try simp only [Act.put, List.setIfInBounds_toArray, List.set_cons_zero, List.set_cons_succ]
        refine wpAnyH_ready (rs := [1, 22]) (by kernel_rfl) (by simp) ?_
        refine AllReadyH.cons rfl (fun K hK => ?_) (AllReadyH.cons rfl (fun K hK => ?_) AllReadyH.nil)
        · go_simp
          refine hK.out _ _ ?_ (fun hHeld => ?_)
          · (first | exact c3 | exact KST.out _ _ hb7.out | exact KB.out _ hb7.out | exact KB.out _ hb6.out | exact KB.out _ (b_alloc hb6.out (Nat.le_refl _) _) | exact KB.out _ (by repeat first | exact Below.refl _ _ | refine Below.drew ?_ | refine b_alloc ?_ (Nat.le_refl _) _))
          clear hK K
          try simp only [Act.put, List.setIfInBounds_toArray, List.set_cons_zero, List.set_cons_succ]
          refine wpAnyH_ready (rs := [6, 22]) (by kernel_rfl) (by simp) ?_
          refine AllReadyH.cons rfl (fun K hK => ?_) (AllReadyH.cons rfl (fun K hK => ?_) AllReadyH.nil)
          · (first
              | (refine step_append_lie2 (by rfl) (.tmp 40) (.tmp 44) 35 (by rfl) U.heap.size 62 i0 _ 2 16 Try.underlying35 HI.out hz0 hz1 hz2 rfl (by omega) (.slice (some ⟨U.heap.size, 0, none⟩) 0 0) 0 [] (by rfl) ((HE0.out U (Below.refl _ _)).1) (.slice ba nb bc) (0) (U.heap.size) nb ys (by rfl) (HL.out _ (by repeat first | exact Below.refl _ _ | refine Below.drew ?_ | refine b_alloc ?_ (Nat.le_refl _) _)) HX1.out nb (by omega) (by simp only [maxLen]; omega) (by omega) (by first | omega | (simp [World.drew]; done) | (simp [World.drew]; omega)) ?_
                 intro ao6 cap6 w6 hown6' hgrow6' hob6'
                 have hown6 := Lib.hid (hown6' : w6.ownsRow U.heap.size 62 2 (.slice ao6 nb cap6) nb ys)
                 have hb6 : Hid (Below U.heap.size U w6) := Lib.hid (Below.grown (by repeat first | exact Below.refl _ _ | refine Below.drew ?_ | refine b_alloc ?_ (Nat.le_refl _) _) hgrow6' (by first | omega | (simp [World.drew]; done) | (simp [World.drew]; omega)) (fun q hq => by cases hq; exact Nat.le_refl _))
                 skip
                 clear hown6' hgrow6' hob6')
              | (refine step_append_lie2 (by rfl) (.tmp 40) (.tmp 44) 35 (by rfl) U.heap.size 62 i0 _ 2 16 Try.underlying35 HI.out hz0 hz1 hz2 rfl (by omega) (.slice (some ⟨U.heap.size, 0, none⟩) 0 0) 0 [] (by rfl) ((HE0.out U (Below.refl _ _)).2 _) (.slice ba nb bc) (0) (U.heap.size) nb ys (by rfl) (HL.out _ (by repeat first | exact Below.refl _ _ | refine Below.drew ?_ | refine b_alloc ?_ (Nat.le_refl _) _)) HX1.out nb (by omega) (by simp only [maxLen]; omega) (by omega) (by first | omega | (simp [World.drew]; done) | (simp [World.drew]; omega)) ?_
                 intro ao6 cap6 w6 hown6' hgrow6' hob6'
                 have hown6 := Lib.hid (hown6' : w6.ownsRow U.heap.size 62 2 (.slice ao6 nb cap6) nb ys)
                 have hb6 : Hid (Below U.heap.size U w6) := Lib.hid (Below.grown (by repeat first | exact Below.refl _ _ | refine Below.drew ?_ | refine b_alloc ?_ (Nat.le_refl _) _) hgrow6' (by first | omega | (simp [World.drew]; done) | (simp [World.drew]; omega)) (fun q hq => by cases hq; exact Nat.le_refl _))
                 have hr6 : Hid (Lies w6 (U.heap.size + 1) (U.heap.size + 2) (.slice (some ⟨U.heap.size + 1, 0, none⟩) 1 1) 1 2 [.int .i64 (x0 + s.t), .int .i64 (x2 + 1)]) := Lib.hid (one_lies (cs := #[.int .i64 (x0 + s.t), .int .i64 (x2 + 1)]) ((hgrow6'.block (U.heap.size + 1) (by first | omega | (simp [World.drew]; done) | (simp [World.drew]; omega)) (by simp [Value.ownBlock])).trans (by simpa [World.drew] using heap_alloc_new (U.alloc (.cells #[] 62)) (.cells #[.int .i64 (x0 + s.t), .int .i64 (x2 + 1)] 62))) rfl)
                 clear hown6' hgrow6' hob6')
              | (refine step_append_lie2 (by rfl) (.tmp 40) (.tmp 44) 35 (by rfl) U.heap.size 62 i0 _ 2 16 Try.underlying35 HI.out hz0 hz1 hz2 rfl (by omega) (.slice (some ⟨U.heap.size + 1, 0, none⟩) 0 0) 0 [] (by rfl) (by have h := (HE0.out (U.alloc (.cells #[.int .i64 (x0 + s.t), .int .i64 (x2 + 1)] 62)) (below1 _ _)).1; rw [show (U.alloc (.cells #[.int .i64 (x0 + s.t), .int .i64 (x2 + 1)] 62)).heap.size = U.heap.size + 1 by simp] at h; exact h) (.slice ba nb bc) (0) (U.heap.size) nb ys (by rfl) (HL.out _ (by repeat first | exact Below.refl _ _ | refine Below.drew ?_ | refine b_alloc ?_ (Nat.le_refl _) _)) HX1.out nb (by omega) (by simp only [maxLen]; omega) (by omega) (by first | omega | (simp [World.drew]; done) | (simp [World.drew]; omega)) ?_
                 intro ao6 cap6 w6 hown6' hgrow6' hob6'
                 have hown6 := Lib.hid (hown6' : w6.ownsRow U.heap.size 62 2 (.slice ao6 nb cap6) nb ys)
                 have hb6 : Hid (Below U.heap.size U w6) := Lib.hid (Below.grown (by repeat first | exact Below.refl _ _ | refine Below.drew ?_ | refine b_alloc ?_ (Nat.le_refl _) _) hgrow6' (by first | omega | (simp [World.drew]; done) | (simp [World.drew]; omega)) (fun q hq => by cases hq; exact Nat.le_succ _))
                 have hr6 : Hid (Lies w6 U.heap.size (U.heap.size + 1) (.slice (some ⟨U.heap.size, 0, none⟩) 1 1) 1 2 [.int .i64 (x0 + s.t), .int .i64 (x2 + 1)]) := Lib.hid (one_lies (cs := #[.int .i64 (x0 + s.t), .int .i64 (x2 + 1)]) ((hgrow6'.block U.heap.size (by first | omega | (simp [World.drew]; done) | (simp [World.drew]; omega)) (by simp [Value.ownBlock])).trans (((below1 (U.alloc (.cells #[.int .i64 (x0 + s.t), .int .i64 (x2 + 1)] 62)) (.cells #[] 62)).block U.heap.size (by simp)).trans (heap_alloc_new U (.cells #[.int .i64 (x0 + s.t), .int .i64 (x2 + 1)] 62)))) rfl)
                 clear hown6' hgrow6' hob6'))
            refine hK.out _ _ ?_ (fun hHeld => ?_)
            · (first | exact c3 | exact KST.out _ _ hb7.out | exact KB.out _ hb7.out | exact KB.out _ hb6.out | exact KB.out _ (b_alloc hb6.out (Nat.le_refl _) _) | exact KB.out _ (by repeat first | exact Below.refl _ _ | refine Below.drew ?_ | refine b_alloc ?_ (Nat.le_refl _) _))
            clear hK K
            try simp only [Act.put, List.setIfInBounds_toArray, List.set_cons_zero, List.set_cons_succ]
            refine wpAnyH_ready (rs := [22]) (by kernel_rfl) (by simp) ?_
            refine AllReadyH.cons rfl (fun K hK => ?_) AllReadyH.nil
            go_simp
            refine hK.out _ _ ?_ (fun hHeld => ?_)
            · (first | exact c3 | exact KST.out _ _ hb7.out | exact KB.out _ hb7.out | exact KB.out _ hb6.out | exact KB.out _ (b_alloc hb6.out (Nat.le_refl _) _) | exact KB.out _ (by repeat first | exact Below.refl _ _ | refine Below.drew ?_ | refine b_alloc ?_ (Nat.le_refl _) _))
            clear hK K
            try simp only [Act.put, List.setIfInBounds_toArray, List.set_cons_zero, List.set_cons_succ]
            refine wpAnyH_ready (rs := [23]) (by kernel_rfl) (by simp) ?_
            refine AllReadyH.cons rfl (fun K hK => ?_) AllReadyH.nil
            (first
              | (refine step_append_lie2 (by rfl) (.tmp 45) (.tmp 61) 35 (by rfl) U.heap.size 62 i0 _ 2 16 Try.underlying35 HI.out hz0 hz1 hz2 rfl (by omega) (.slice ao6 nb cap6) nb ys (by rfl) (owns_later hown6.out (below1 _ _)) (.slice (some ⟨w6.heap.size, 0, none⟩) 1 1) (w6.heap.size) (w6.heap.size + 1) 1 [.int .i64 (x0 + s.t), .int .i64 (x2 + 1)] (by rfl) (one_lies (cs := #[.int .i64 (x0 + s.t), .int .i64 (x2 + 1)]) (heap_alloc_new w6 _) rfl) (bk_one ⟨x0 + s.t, x2 + 1⟩) (nb + 1) rfl (by simp only [maxLen]; omega) (by omega) (by have h := hb6.out.size; first | omega | (simp [World.drew]; done) | (simp [World.drew]; omega)) ?_
                 intro ao7 cap7 w7 hown7' hgrow7' hob7'
                 have hown7 := Lib.hid hown7'
                 have hb7 : Hid (Below U.heap.size U w7) := Lib.hid (Below.grown ((b_alloc hb6.out (Nat.le_refl _) _).drew) hgrow7' (by have h := hb6.out.size; first | omega | (simp [World.drew]; done) | (simp [World.drew]; omega)) (fun q hq => (owns_block (hown6.out) q hq).1))
                 obtain ⟨hu7, hf7⟩ := KC.out _ hb7.out
                 clear hown7' hgrow7' hob7')
              | (refine step_append_lie2 (by rfl) (.tmp 45) (.tmp 61) 35 (by rfl) U.heap.size 62 i0 _ 2 16 Try.underlying35 HI.out hz0 hz1 hz2 rfl (by omega) (.slice ao6 nb cap6) nb ys (by rfl) (owns_later hown6.out (below1 _ _)) (.slice (some ⟨w6.heap.size, 0, none⟩) 1 1) (w6.heap.size) (w6.heap.size + 1) 1 [.int .i64 (x0 + s.t), .int .i64 (x2 + 1)] (by rfl) (one_lies (cs := #[.int .i64 (x0 + s.t), .int .i64 (x2 + 1)]) (heap_alloc_new w6 _) rfl) (bk_one ⟨x0 + s.t, x2 + 1⟩) (nb + 1) rfl (by simp only [maxLen]; omega) (by omega) (by have h := hb6.out.size; first | omega | (simp [World.drew]; done) | (simp [World.drew]; omega)) ?_
                 intro ao7 cap7 w7 hown7' hgrow7' hob7'
                 have hown7 := Lib.hid hown7'
                 have hb7 : Hid (Below U.heap.size U w7) := Lib.hid (Below.grown (b_alloc hb6.out (Nat.le_refl _) _) hgrow7' (by have h := hb6.out.size; first | omega | (simp [World.drew]; done) | (simp [World.drew]; omega)) (fun q hq => (owns_block (hown6.out) q hq).1))
                 obtain ⟨hu7, hf7⟩ := KC.out _ hb7.out
                 clear hown7' hgrow7' hob7')
              | (refine step_append_lie2 (by rfl) (.tmp 45) (.tmp 61) 35 (by rfl) U.heap.size 62 i0 _ 2 16 Try.underlying35 HI.out hz0 hz1 hz2 rfl (by omega) (.slice ao6 nb cap6) nb ys (by rfl) (hown6.out) (.slice (some ⟨U.heap.size + 1, 0, none⟩) 1 1) (U.heap.size + 1) (U.heap.size + 2) 1 [.int .i64 (x0 + s.t), .int .i64 (x2 + 1)] (by rfl) (hr6.out) (bk_one ⟨x0 + s.t, x2 + 1⟩) (nb + 1) rfl (by simp only [maxLen]; omega) (by omega) (by have h := hb6.out.size; first | omega | (simp [World.drew]; done) | (simp [World.drew]; omega)) ?_
                 intro ao7 cap7 w7 hown7' hgrow7' hob7'
                 have hown7 := Lib.hid hown7'
                 have hb7 : Hid (Below U.heap.size U w7) := Lib.hid (Below.grown (hb6.out) hgrow7' (by have h := hb6.out.size; first | omega | (simp [World.drew]; done) | (simp [World.drew]; omega)) (fun q hq => (owns_block (hown6.out) q hq).1))
                 obtain ⟨hu7, hf7⟩ := KC.out _ hb7.out
                 clear hown7' hgrow7' hob7')
              | (refine step_append_lie2 (by rfl) (.tmp 45) (.tmp 61) 35 (by rfl) U.heap.size 62 i0 _ 2 16 Try.underlying35 HI.out hz0 hz1 hz2 rfl (by omega) (.slice ao6 nb cap6) nb ys (by rfl) (hown6.out) (.slice (some ⟨U.heap.size + 1, 0, none⟩) 1 1) (U.heap.size + 1) (U.heap.size + 2) 1 [.int .i64 (x0 + s.t), .int .i64 (x2 + 1)] (by rfl) (hr6.out) (bk_one ⟨x0 + s.t, x2 + 1⟩) (nb + 1) rfl (by simp only [maxLen]; omega) (by omega) (by have h := hb6.out.size; first | omega | (simp [World.drew]; done) | (simp [World.drew]; omega)) ?_
                 intro ao7 cap7 w7 hown7' hgrow7' hob7'
                 have hown7 := Lib.hid hown7'
                 have hb7 : Hid (Below U.heap.size U w7) := Lib.hid (Below.grown (hb6.out.drew) hgrow7' (by have h := hb6.out.size; first | omega | (simp [World.drew]; done) | (simp [World.drew]; omega)) (fun q hq => (owns_block (hown6.out) q hq).1))
                 obtain ⟨hu7, hf7⟩ := KC.out _ hb7.out
                 clear hown7' hgrow7' hob7')
              | (refine step_append_lie2 (by rfl) (.tmp 45) (.tmp 61) 35 (by rfl) U.heap.size 62 i0 _ 2 16 Try.underlying35 HI.out hz0 hz1 hz2 rfl (by omega) (.slice ao6 nb cap6) nb ys (by rfl) (hown6.out) (.slice (some ⟨U.heap.size, 0, none⟩) 1 1) (U.heap.size) (U.heap.size + 1) 1 [.int .i64 (x0 + s.t), .int .i64 (x2 + 1)] (by rfl) (hr6.out) (bk_one ⟨x0 + s.t, x2 + 1⟩) (nb + 1) rfl (by simp only [maxLen]; omega) (by omega) (by have h := hb6.out.size; first | omega | (simp [World.drew]; done) | (simp [World.drew]; omega)) ?_
                 intro ao7 cap7 w7 hown7' hgrow7' hob7'
                 have hown7 := Lib.hid hown7'
                 have hb7 : Hid (Below U.heap.size U w7) := Lib.hid (Below.grown (hb6.out) hgrow7' (by have h := hb6.out.size; first | omega | (simp [World.drew]; done) | (simp [World.drew]; omega)) (fun q hq => (owns_block (hown6.out) q hq).1))
                 obtain ⟨hu7, hf7⟩ := KC.out _ hb7.out
                 clear hown7' hgrow7' hob7')
              | (refine step_append_lie2 (by rfl) (.tmp 45) (.tmp 61) 35 (by rfl) U.heap.size 62 i0 _ 2 16 Try.underlying35 HI.out hz0 hz1 hz2 rfl (by omega) (.slice ao6 nb cap6) nb ys (by rfl) (hown6.out) (.slice (some ⟨U.heap.size, 0, none⟩) 1 1) (U.heap.size) (U.heap.size + 1) 1 [.int .i64 (x0 + s.t), .int .i64 (x2 + 1)] (by rfl) (hr6.out) (bk_one ⟨x0 + s.t, x2 + 1⟩) (nb + 1) rfl (by simp only [maxLen]; omega) (by omega) (by have h := hb6.out.size; first | omega | (simp [World.drew]; done) | (simp [World.drew]; omega)) ?_
                 intro ao7 cap7 w7 hown7' hgrow7' hob7'
                 have hown7 := Lib.hid hown7'
                 have hb7 : Hid (Below U.heap.size U w7) := Lib.hid (Below.grown (hb6.out.drew) hgrow7' (by have h := hb6.out.size; first | omega | (simp [World.drew]; done) | (simp [World.drew]; omega)) (fun q hq => (owns_block (hown6.out) q hq).1))
                 obtain ⟨hu7, hf7⟩ := KC.out _ hb7.out
                 clear hown7' hgrow7' hob7'))
            refine hK.out _ _ ?_ (fun hHeld => ?_)
            · (first | exact c3 | exact KST.out _ _ hb7.out | exact KB.out _ hb7.out | exact KB.out _ hb6.out | exact KB.out _ (b_alloc hb6.out (Nat.le_refl _) _) | exact KB.out _ (by repeat first | exact Below.refl _ _ | refine Below.drew ?_ | refine b_alloc ?_ (Nat.le_refl _) _))
            clear hK K
            try simp only [Act.put, List.setIfInBounds_toArray, List.set_cons_zero, List.set_cons_succ]
            refine wpAnyH_takeE (i := 24) (d := some 63) (v := ?_) rfl rfl (by kernel_rfl) (by kernel_rfl) (by kernel_rfl) (fun _ _ _ h => h) (Or.inl ⟨by rfl, ?_⟩) (by assumption) ?_
            rotate_left
            · intro w hSw
              (try dsimp only at hSw)
              go_simp
              try (with_reducible rfl)
            simp only [Act.put, List.setIfInBounds_toArray, List.set_cons_zero, List.set_cons_succ]
            refine wpAnyH_takeE (i := 25) (d := some 64) (v := ?_) rfl rfl (by kernel_rfl) (by kernel_rfl) (by kernel_rfl) (fun _ _ _ h => h) (Or.inl ⟨by rfl, ?_⟩) (by assumption) ?_
            rotate_left
            · intro w hSw
              (try dsimp only at hSw)
              go_simp
              try (with_reducible rfl)
            simp only [Act.put, List.setIfInBounds_toArray, List.set_cons_zero, List.set_cons_succ]
            refine wpAnyH_ready (rs := [26]) (by kernel_rfl) (by simp) ?_
            refine AllReadyH.cons rfl (fun K hK => ?_) AllReadyH.nil
            go_simp
            refine hK.out _ _ ?_ (fun hHeld => ?_)
            · (first | exact c3 | exact KST.out _ _ hb7.out | exact KB.out _ hb7.out | exact KB.out _ hb6.out | exact KB.out _ (b_alloc hb6.out (Nat.le_refl _) _) | exact KB.out _ (by repeat first | exact Below.refl _ _ | refine Below.drew ?_ | refine b_alloc ?_ (Nat.le_refl _) _))
            clear hK K
            try simp only [Act.put, List.setIfInBounds_toArray, List.set_cons_zero, List.set_cons_succ]
            refine wpAnyH_done (by kernel_rfl) ?_ _
            refine NoPanic.normal ?_
            have hk7 := HKU.out.later hb7.out
            obtain ⟨t1, t2⟩ := hk7.backed (w0 := U) (ao := ao7) (cap := cap7) (en' := bk ++ [⟨x0 + s.t, x2 + 1⟩]) (GrowS.of_below hb7.out) HKU.out.lt (by
              have := ORow.of_owns hown7.out
              rw [HYS.out] at this
              simpa [HNB.out, Bk.cells] using this) (fun g hg => (World.ownsRow.lt hown7.out g (by rw [own_ob]; exact hg)).1)
            rw [show (bk ++ [(⟨x0 + s.t, x2 + 1⟩ : Bk)]).length = nb + 1 by rw [HNB.out]; simp] at t1 t2
            obtain ⟨Y, hY⟩ : ∃ Y, Y = w7.setCell ⟨H, 5, none⟩ (.slice ao7 (nb + 1) cap7) := ⟨_, rfl⟩
            rw [← hY] at t1 t2
            have z4 := t1.c4
            rw [show ((⟨x0, x1 - 1, x2 + 1⟩ : Wn) :: l).length = n by rw [HN.out]; rfl] at z4
            have zf := t1.fz 4
            have T1 := Lib.hid t1
            have T2 := Lib.hid t2
            have HY := Lib.hid hY
            clear t1 t2 hY hk7
            rw [← HY.out]
            obtain ⟨aS, haS⟩ : ∃ aS : Option Addr, (if capL = 1 then some (⟨G, 0, none⟩ : Addr) else some ⟨G, 3, none⟩) = aS := ⟨_, rfl⟩
            have HAS := Lib.hid haS
            clear haS
            go_upto_region 10 with fail
            rw [HAS.out]
            go_wp2_with fail
            go_ret
            obtain ⟨q1, q2⟩ := T1.out.cutL (n := n) (a' := aS) (by rw [HN.out]; rfl) (by simpa using HAS.out)
            rw [HE.out]
            have hgr := HGU.out.trans (T2.out.trans q2)
            rw [HBA.out] at hgr
            first | exact ⟨_, rfl, ⟨_, _, _, _, q1, rfl⟩, hgr⟩ | exact ⟨rfl, _, ⟨_, _, _, _, q1, rfl⟩, hgr⟩
          · go_simp
            refine hK.out _ _ ?_ (fun hHeld => ?_)
            · (first | exact c3 | exact KST.out _ _ hb7.out | exact KB.out _ hb7.out | exact KB.out _ hb6.out | exact KB.out _ (b_alloc hb6.out (Nat.le_refl _) _) | exact KB.out _ (by repeat first | exact Below.refl _ _ | refine Below.drew ?_ | refine b_alloc ?_ (Nat.le_refl _) _))
            clear hK K
            try simp only [Act.put, List.setIfInBounds_toArray, List.set_cons_zero, List.set_cons_succ]
            refine wpAnyH_ready (rs := [6]) (by kernel_rfl) (by simp) ?_
            refine AllReadyH.cons rfl (fun K hK => ?_) AllReadyH.nil
            (first
              | (refine step_append_lie2 (by rfl) (.tmp 40) (.tmp 44) 35 (by rfl) U.heap.size 62 i0 _ 2 16 Try.underlying35 HI.out hz0 hz1 hz2 rfl (by omega) (.slice (some ⟨U.heap.size, 0, none⟩) 0 0) 0 [] (by rfl) ((HE0.out U (Below.refl _ _)).1) (.slice ba nb bc) (0) (U.heap.size) nb ys (by rfl) (HL.out _ (by repeat first | exact Below.refl _ _ | refine Below.drew ?_ | refine b_alloc ?_ (Nat.le_refl _) _)) HX1.out nb (by omega) (by simp only [maxLen]; omega) (by omega) (by first | omega | (simp [World.drew]; done) | (simp [World.drew]; omega)) ?_
                 intro ao6 cap6 w6 hown6' hgrow6' hob6'
                 have hown6 := Lib.hid (hown6' : w6.ownsRow U.heap.size 62 2 (.slice ao6 nb cap6) nb ys)
                 have hb6 : Hid (Below U.heap.size U w6) := Lib.hid (Below.grown (by repeat first | exact Below.refl _ _ | refine Below.drew ?_ | refine b_alloc ?_ (Nat.le_refl _) _) hgrow6' (by first | omega | (simp [World.drew]; done) | (simp [World.drew]; omega)) (fun q hq => by cases hq; exact Nat.le_refl _))
                 skip
                 clear hown6' hgrow6' hob6')
              | (refine step_append_lie2 (by rfl) (.tmp 40) (.tmp 44) 35 (by rfl) U.heap.size 62 i0 _ 2 16 Try.underlying35 HI.out hz0 hz1 hz2 rfl (by omega) (.slice (some ⟨U.heap.size, 0, none⟩) 0 0) 0 [] (by rfl) ((HE0.out U (Below.refl _ _)).2 _) (.slice ba nb bc) (0) (U.heap.size) nb ys (by rfl) (HL.out _ (by repeat first | exact Below.refl _ _ | refine Below.drew ?_ | refine b_alloc ?_ (Nat.le_refl _) _)) HX1.out nb (by omega) (by simp only [maxLen]; omega) (by omega) (by first | omega | (simp [World.drew]; done) | (simp [World.drew]; omega)) ?_
                 intro ao6 cap6 w6 hown6' hgrow6' hob6'
                 have hown6 := Lib.hid (hown6' : w6.ownsRow U.heap.size 62 2 (.slice ao6 nb cap6) nb ys)
                 have hb6 : Hid (Below U.heap.size U w6) := Lib.hid (Below.grown (by repeat first | exact Below.refl _ _ | refine Below.drew ?_ | refine b_alloc ?_ (Nat.le_refl _) _) hgrow6' (by first | omega | (simp [World.drew]; done) | (simp [World.drew]; omega)) (fun q hq => by cases hq; exact Nat.le_refl _))
                 have hr6 : Hid (Lies w6 (U.heap.size + 1) (U.heap.size + 2) (.slice (some ⟨U.heap.size + 1, 0, none⟩) 1 1) 1 2 [.int .i64 (x0 + s.t), .int .i64 (x2 + 1)]) := Lib.hid (one_lies (cs := #[.int .i64 (x0 + s.t), .int .i64 (x2 + 1)]) ((hgrow6'.block (U.heap.size + 1) (by first | omega | (simp [World.drew]; done) | (simp [World.drew]; omega)) (by simp [Value.ownBlock])).trans (by simpa [World.drew] using heap_alloc_new (U.alloc (.cells #[] 62)) (.cells #[.int .i64 (x0 + s.t), .int .i64 (x2 + 1)] 62))) rfl)
                 clear hown6' hgrow6' hob6')
              | (refine step_append_lie2 (by rfl) (.tmp 40) (.tmp 44) 35 (by rfl) U.heap.size 62 i0 _ 2 16 Try.underlying35 HI.out hz0 hz1 hz2 rfl (by omega) (.slice (some ⟨U.heap.size + 1, 0, none⟩) 0 0) 0 [] (by rfl) (by have h := (HE0.out (U.alloc (.cells #[.int .i64 (x0 + s.t), .int .i64 (x2 + 1)] 62)) (below1 _ _)).1; rw [show (U.alloc (.cells #[.int .i64 (x0 + s.t), .int .i64 (x2 + 1)] 62)).heap.size = U.heap.size + 1 by simp] at h; exact h) (.slice ba nb bc) (0) (U.heap.size) nb ys (by rfl) (HL.out _ (by repeat first | exact Below.refl _ _ | refine Below.drew ?_ | refine b_alloc ?_ (Nat.le_refl _) _)) HX1.out nb (by omega) (by simp only [maxLen]; omega) (by omega) (by first | omega | (simp [World.drew]; done) | (simp [World.drew]; omega)) ?_
                 intro ao6 cap6 w6 hown6' hgrow6' hob6'
                 have hown6 := Lib.hid (hown6' : w6.ownsRow U.heap.size 62 2 (.slice ao6 nb cap6) nb ys)
                 have hb6 : Hid (Below U.heap.size U w6) := Lib.hid (Below.grown (by repeat first | exact Below.refl _ _ | refine Below.drew ?_ | refine b_alloc ?_ (Nat.le_refl _) _) hgrow6' (by first | omega | (simp [World.drew]; done) | (simp [World.drew]; omega)) (fun q hq => by cases hq; exact Nat.le_succ _))
                 have hr6 : Hid (Lies w6 U.heap.size (U.heap.size + 1) (.slice (some ⟨U.heap.size, 0, none⟩) 1 1) 1 2 [.int .i64 (x0 + s.t), .int .i64 (x2 + 1)]) := Lib.hid (one_lies (cs := #[.int .i64 (x0 + s.t), .int .i64 (x2 + 1)]) ((hgrow6'.block U.heap.size (by first | omega | (simp [World.drew]; done) | (simp [World.drew]; omega)) (by simp [Value.ownBlock])).trans (((below1 (U.alloc (.cells #[.int .i64 (x0 + s.t), .int .i64 (x2 + 1)] 62)) (.cells #[] 62)).block U.heap.size (by simp)).trans (heap_alloc_new U (.cells #[.int .i64 (x0 + s.t), .int .i64 (x2 + 1)] 62)))) rfl)
                 clear hown6' hgrow6' hob6'))
            refine hK.out _ _ ?_ (fun hHeld => ?_)
            · (first | exact c3 | exact KST.out _ _ hb7.out | exact KB.out _ hb7.out | exact KB.out _ hb6.out | exact KB.out _ (b_alloc hb6.out (Nat.le_refl _) _) | exact KB.out _ (by repeat first | exact Below.refl _ _ | refine Below.drew ?_ | refine b_alloc ?_ (Nat.le_refl _) _))
            clear hK K
            try simp only [Act.put, List.setIfInBounds_toArray, List.set_cons_zero, List.set_cons_succ]
            refine wpAnyH_ready (rs := [23]) (by kernel_rfl) (by simp) ?_
            refine AllReadyH.cons rfl (fun K hK => ?_) AllReadyH.nil
            (first
              | (refine step_append_lie2 (by rfl) (.tmp 45) (.tmp 61) 35 (by rfl) U.heap.size 62 i0 _ 2 16 Try.underlying35 HI.out hz0 hz1 hz2 rfl (by omega) (.slice ao6 nb cap6) nb ys (by rfl) (owns_later hown6.out (below1 _ _)) (.slice (some ⟨w6.heap.size, 0, none⟩) 1 1) (w6.heap.size) (w6.heap.size + 1) 1 [.int .i64 (x0 + s.t), .int .i64 (x2 + 1)] (by rfl) (one_lies (cs := #[.int .i64 (x0 + s.t), .int .i64 (x2 + 1)]) (heap_alloc_new w6 _) rfl) (bk_one ⟨x0 + s.t, x2 + 1⟩) (nb + 1) rfl (by simp only [maxLen]; omega) (by omega) (by have h := hb6.out.size; first | omega | (simp [World.drew]; done) | (simp [World.drew]; omega)) ?_
                 intro ao7 cap7 w7 hown7' hgrow7' hob7'
                 have hown7 := Lib.hid hown7'
                 have hb7 : Hid (Below U.heap.size U w7) := Lib.hid (Below.grown ((b_alloc hb6.out (Nat.le_refl _) _).drew) hgrow7' (by have h := hb6.out.size; first | omega | (simp [World.drew]; done) | (simp [World.drew]; omega)) (fun q hq => (owns_block (hown6.out) q hq).1))
                 obtain ⟨hu7, hf7⟩ := KC.out _ hb7.out
                 clear hown7' hgrow7' hob7')
              | (refine step_append_lie2 (by rfl) (.tmp 45) (.tmp 61) 35 (by rfl) U.heap.size 62 i0 _ 2 16 Try.underlying35 HI.out hz0 hz1 hz2 rfl (by omega) (.slice ao6 nb cap6) nb ys (by rfl) (owns_later hown6.out (below1 _ _)) (.slice (some ⟨w6.heap.size, 0, none⟩) 1 1) (w6.heap.size) (w6.heap.size + 1) 1 [.int .i64 (x0 + s.t), .int .i64 (x2 + 1)] (by rfl) (one_lies (cs := #[.int .i64 (x0 + s.t), .int .i64 (x2 + 1)]) (heap_alloc_new w6 _) rfl) (bk_one ⟨x0 + s.t, x2 + 1⟩) (nb + 1) rfl (by simp only [maxLen]; omega) (by omega) (by have h := hb6.out.size; first | omega | (simp [World.drew]; done) | (simp [World.drew]; omega)) ?_
                 intro ao7 cap7 w7 hown7' hgrow7' hob7'
                 have hown7 := Lib.hid hown7'
                 have hb7 : Hid (Below U.heap.size U w7) := Lib.hid (Below.grown (b_alloc hb6.out (Nat.le_refl _) _) hgrow7' (by have h := hb6.out.size; first | omega | (simp [World.drew]; done) | (simp [World.drew]; omega)) (fun q hq => (owns_block (hown6.out) q hq).1))
                 obtain ⟨hu7, hf7⟩ := KC.out _ hb7.out
                 clear hown7' hgrow7' hob7')
              | (refine step_append_lie2 (by rfl) (.tmp 45) (.tmp 61) 35 (by rfl) U.heap.size 62 i0 _ 2 16 Try.underlying35 HI.out hz0 hz1 hz2 rfl (by omega) (.slice ao6 nb cap6) nb ys (by rfl) (hown6.out) (.slice (some ⟨U.heap.size + 1, 0, none⟩) 1 1) (U.heap.size + 1) (U.heap.size + 2) 1 [.int .i64 (x0 + s.t), .int .i64 (x2 + 1)] (by rfl) (hr6.out) (bk_one ⟨x0 + s.t, x2 + 1⟩) (nb + 1) rfl (by simp only [maxLen]; omega) (by omega) (by have h := hb6.out.size; first | omega | (simp [World.drew]; done) | (simp [World.drew]; omega)) ?_
                 intro ao7 cap7 w7 hown7' hgrow7' hob7'
                 have hown7 := Lib.hid hown7'
                 have hb7 : Hid (Below U.heap.size U w7) := Lib.hid (Below.grown (hb6.out) hgrow7' (by have h := hb6.out.size; first | omega | (simp [World.drew]; done) | (simp [World.drew]; omega)) (fun q hq => (owns_block (hown6.out) q hq).1))
                 obtain ⟨hu7, hf7⟩ := KC.out _ hb7.out
                 clear hown7' hgrow7' hob7')
              | (refine step_append_lie2 (by rfl) (.tmp 45) (.tmp 61) 35 (by rfl) U.heap.size 62 i0 _ 2 16 Try.underlying35 HI.out hz0 hz1 hz2 rfl (by omega) (.slice ao6 nb cap6) nb ys (by rfl) (hown6.out) (.slice (some ⟨U.heap.size + 1, 0, none⟩) 1 1) (U.heap.size + 1) (U.heap.size + 2) 1 [.int .i64 (x0 + s.t), .int .i64 (x2 + 1)] (by rfl) (hr6.out) (bk_one ⟨x0 + s.t, x2 + 1⟩) (nb + 1) rfl (by simp only [maxLen]; omega) (by omega) (by have h := hb6.out.size; first | omega | (simp [World.drew]; done) | (simp [World.drew]; omega)) ?_
                 intro ao7 cap7 w7 hown7' hgrow7' hob7'
                 have hown7 := Lib.hid hown7'
                 have hb7 : Hid (Below U.heap.size U w7) := Lib.hid (Below.grown (hb6.out.drew) hgrow7' (by have h := hb6.out.size; first | omega | (simp [World.drew]; done) | (simp [World.drew]; omega)) (fun q hq => (owns_block (hown6.out) q hq).1))
                 obtain ⟨hu7, hf7⟩ := KC.out _ hb7.out
                 clear hown7' hgrow7' hob7')
              | (refine step_append_lie2 (by rfl) (.tmp 45) (.tmp 61) 35 (by rfl) U.heap.size 62 i0 _ 2 16 Try.underlying35 HI.out hz0 hz1 hz2 rfl (by omega) (.slice ao6 nb cap6) nb ys (by rfl) (hown6.out) (.slice (some ⟨U.heap.size, 0, none⟩) 1 1) (U.heap.size) (U.heap.size + 1) 1 [.int .i64 (x0 + s.t), .int .i64 (x2 + 1)] (by rfl) (hr6.out) (bk_one ⟨x0 + s.t, x2 + 1⟩) (nb + 1) rfl (by simp only [maxLen]; omega) (by omega) (by have h := hb6.out.size; first | omega | (simp [World.drew]; done) | (simp [World.drew]; omega)) ?_
                 intro ao7 cap7 w7 hown7' hgrow7' hob7'
                 have hown7 := Lib.hid hown7'
                 have hb7 : Hid (Below U.heap.size U w7) := Lib.hid (Below.grown (hb6.out) hgrow7' (by have h := hb6.out.size; first | omega | (simp [World.drew]; done) | (simp [World.drew]; omega)) (fun q hq => (owns_block (hown6.out) q hq).1))
                 obtain ⟨hu7, hf7⟩ := KC.out _ hb7.out
                 clear hown7' hgrow7' hob7')
              | (refine step_append_lie2 (by rfl) (.tmp 45) (.tmp 61) 35 (by rfl) U.heap.size 62 i0 _ 2 16 Try.underlying35 HI.out hz0 hz1 hz2 rfl (by omega) (.slice ao6 nb cap6) nb ys (by rfl) (hown6.out) (.slice (some ⟨U.heap.size, 0, none⟩) 1 1) (U.heap.size) (U.heap.size + 1) 1 [.int .i64 (x0 + s.t), .int .i64 (x2 + 1)] (by rfl) (hr6.out) (bk_one ⟨x0 + s.t, x2 + 1⟩) (nb + 1) rfl (by simp only [maxLen]; omega) (by omega) (by have h := hb6.out.size; first | omega | (simp [World.drew]; done) | (simp [World.drew]; omega)) ?_
                 intro ao7 cap7 w7 hown7' hgrow7' hob7'
                 have hown7 := Lib.hid hown7'
                 have hb7 : Hid (Below U.heap.size U w7) := Lib.hid (Below.grown (hb6.out.drew) hgrow7' (by have h := hb6.out.size; first | omega | (simp [World.drew]; done) | (simp [World.drew]; omega)) (fun q hq => (owns_block (hown6.out) q hq).1))
                 obtain ⟨hu7, hf7⟩ := KC.out _ hb7.out
                 clear hown7' hgrow7' hob7'))
            refine hK.out _ _ ?_ (fun hHeld => ?_)
            · (first | exact c3 | exact KST.out _ _ hb7.out | exact KB.out _ hb7.out | exact KB.out _ hb6.out | exact KB.out _ (b_alloc hb6.out (Nat.le_refl _) _) | exact KB.out _ (by repeat first | exact Below.refl _ _ | refine Below.drew ?_ | refine b_alloc ?_ (Nat.le_refl _) _))
            clear hK K
            try simp only [Act.put, List.setIfInBounds_toArray, List.set_cons_zero, List.set_cons_succ]
            refine wpAnyH_takeE (i := 24) (d := some 63) (v := ?_) rfl rfl (by kernel_rfl) (by kernel_rfl) (by kernel_rfl) (fun _ _ _ h => h) (Or.inl ⟨by rfl, ?_⟩) (by assumption) ?_
            rotate_left
            · intro w hSw
              (try dsimp only at hSw)
              go_simp
              try (with_reducible rfl)
            simp only [Act.put, List.setIfInBounds_toArray, List.set_cons_zero, List.set_cons_succ]
            refine wpAnyH_takeE (i := 25) (d := some 64) (v := ?_) rfl rfl (by kernel_rfl) (by kernel_rfl) (by kernel_rfl) (fun _ _ _ h => h) (Or.inl ⟨by rfl, ?_⟩) (by assumption) ?_
            rotate_left
            · intro w hSw
              (try dsimp only at hSw)
              go_simp
              try (with_reducible rfl)
            simp only [Act.put, List.setIfInBounds_toArray, List.set_cons_zero, List.set_cons_succ]
            refine wpAnyH_ready (rs := [26]) (by kernel_rfl) (by simp) ?_
            refine AllReadyH.cons rfl (fun K hK => ?_) AllReadyH.nil
            go_simp
            refine hK.out _ _ ?_ (fun hHeld => ?_)
            · (first | exact c3 | exact KST.out _ _ hb7.out | exact KB.out _ hb7.out | exact KB.out _ hb6.out | exact KB.out _ (b_alloc hb6.out (Nat.le_refl _) _) | exact KB.out _ (by repeat first | exact Below.refl _ _ | refine Below.drew ?_ | refine b_alloc ?_ (Nat.le_refl _) _))
            clear hK K
            try simp only [Act.put, List.setIfInBounds_toArray, List.set_cons_zero, List.set_cons_succ]
            refine wpAnyH_done (by kernel_rfl) ?_ _
            refine NoPanic.normal ?_
            have hk7 := HKU.out.later hb7.out
            obtain ⟨t1, t2⟩ := hk7.backed (w0 := U) (ao := ao7) (cap := cap7) (en' := bk ++ [⟨x0 + s.t, x2 + 1⟩]) (GrowS.of_below hb7.out) HKU.out.lt (by
              have := ORow.of_owns hown7.out
              rw [HYS.out] at this
              simpa [HNB.out, Bk.cells] using this) (fun g hg => (World.ownsRow.lt hown7.out g (by rw [own_ob]; exact hg)).1)
            rw [show (bk ++ [(⟨x0 + s.t, x2 + 1⟩ : Bk)]).length = nb + 1 by rw [HNB.out]; simp] at t1 t2
            obtain ⟨Y, hY⟩ : ∃ Y, Y = w7.setCell ⟨H, 5, none⟩ (.slice ao7 (nb + 1) cap7) := ⟨_, rfl⟩
            rw [← hY] at t1 t2
            have z4 := t1.c4
            rw [show ((⟨x0, x1 - 1, x2 + 1⟩ : Wn) :: l).length = n by rw [HN.out]; rfl] at z4
            have zf := t1.fz 4
            have T1 := Lib.hid t1
            have T2 := Lib.hid t2
            have HY := Lib.hid hY
            clear t1 t2 hY hk7
            rw [← HY.out]
            obtain ⟨aS, haS⟩ : ∃ aS : Option Addr, (if capL = 1 then some (⟨G, 0, none⟩ : Addr) else some ⟨G, 3, none⟩) = aS := ⟨_, rfl⟩
            have HAS := Lib.hid haS
            clear haS
            go_upto_region 10 with fail
            rw [HAS.out]
            go_wp2_with fail
            go_ret
            obtain ⟨q1, q2⟩ := T1.out.cutL (n := n) (a' := aS) (by rw [HN.out]; rfl) (by simpa using HAS.out)
            rw [HE.out]
            have hgr := HGU.out.trans (T2.out.trans q2)
            rw [HBA.out] at hgr
            first | exact ⟨_, rfl, ⟨_, _, _, _, q1, rfl⟩, hgr⟩ | exact ⟨rfl, _, ⟨_, _, _, _, q1, rfl⟩, hgr⟩
        · go_simp
          refine hK.out _ _ ?_ (fun hHeld => ?_)
          · (first | exact c3 | exact KST.out _ _ hb7.out | exact KB.out _ hb7.out | exact KB.out _ hb6.out | exact KB.out _ (b_alloc hb6.out (Nat.le_refl _) _) | exact KB.out _ (by repeat first | exact Below.refl _ _ | refine Below.drew ?_ | refine b_alloc ?_ (Nat.le_refl _) _))
          clear hK K
          try simp only [Act.put, List.setIfInBounds_toArray, List.set_cons_zero, List.set_cons_succ]
          refine wpAnyH_ready (rs := [1]) (by kernel_rfl) (by simp) ?_
          refine AllReadyH.cons rfl (fun K hK => ?_) AllReadyH.nil
          go_simp
          refine hK.out _ _ ?_ (fun hHeld => ?_)
          · (first | exact c3 | exact KST.out _ _ hb7.out | exact KB.out _ hb7.out | exact KB.out _ hb6.out | exact KB.out _ (b_alloc hb6.out (Nat.le_refl _) _) | exact KB.out _ (by repeat first | exact Below.refl _ _ | refine Below.drew ?_ | refine b_alloc ?_ (Nat.le_refl _) _))
          clear hK K
          try simp only [Act.put, List.setIfInBounds_toArray, List.set_cons_zero, List.set_cons_succ]
          refine wpAnyH_ready (rs := [6]) (by kernel_rfl) (by simp) ?_
          refine AllReadyH.cons rfl (fun K hK => ?_) AllReadyH.nil
          (first
            | (refine step_append_lie2 (by rfl) (.tmp 40) (.tmp 44) 35 (by rfl) U.heap.size 62 i0 _ 2 16 Try.underlying35 HI.out hz0 hz1 hz2 rfl (by omega) (.slice (some ⟨U.heap.size, 0, none⟩) 0 0) 0 [] (by rfl) ((HE0.out U (Below.refl _ _)).1) (.slice ba nb bc) (0) (U.heap.size) nb ys (by rfl) (HL.out _ (by repeat first | exact Below.refl _ _ | refine Below.drew ?_ | refine b_alloc ?_ (Nat.le_refl _) _)) HX1.out nb (by omega) (by simp only [maxLen]; omega) (by omega) (by first | omega | (simp [World.drew]; done) | (simp [World.drew]; omega)) ?_
               intro ao6 cap6 w6 hown6' hgrow6' hob6'
               have hown6 := Lib.hid (hown6' : w6.ownsRow U.heap.size 62 2 (.slice ao6 nb cap6) nb ys)
               have hb6 : Hid (Below U.heap.size U w6) := Lib.hid (Below.grown (by repeat first | exact Below.refl _ _ | refine Below.drew ?_ | refine b_alloc ?_ (Nat.le_refl _) _) hgrow6' (by first | omega | (simp [World.drew]; done) | (simp [World.drew]; omega)) (fun q hq => by cases hq; exact Nat.le_refl _))
               skip
               clear hown6' hgrow6' hob6')
            | (refine step_append_lie2 (by rfl) (.tmp 40) (.tmp 44) 35 (by rfl) U.heap.size 62 i0 _ 2 16 Try.underlying35 HI.out hz0 hz1 hz2 rfl (by omega) (.slice (some ⟨U.heap.size, 0, none⟩) 0 0) 0 [] (by rfl) ((HE0.out U (Below.refl _ _)).2 _) (.slice ba nb bc) (0) (U.heap.size) nb ys (by rfl) (HL.out _ (by repeat first | exact Below.refl _ _ | refine Below.drew ?_ | refine b_alloc ?_ (Nat.le_refl _) _)) HX1.out nb (by omega) (by simp only [maxLen]; omega) (by omega) (by first | omega | (simp [World.drew]; done) | (simp [World.drew]; omega)) ?_
               intro ao6 cap6 w6 hown6' hgrow6' hob6'
               have hown6 := Lib.hid (hown6' : w6.ownsRow U.heap.size 62 2 (.slice ao6 nb cap6) nb ys)
               have hb6 : Hid (Below U.heap.size U w6) := Lib.hid (Below.grown (by repeat first | exact Below.refl _ _ | refine Below.drew ?_ | refine b_alloc ?_ (Nat.le_refl _) _) hgrow6' (by first | omega | (simp [World.drew]; done) | (simp [World.drew]; omega)) (fun q hq => by cases hq; exact Nat.le_refl _))
               have hr6 : Hid (Lies w6 (U.heap.size + 1) (U.heap.size + 2) (.slice (some ⟨U.heap.size + 1, 0, none⟩) 1 1) 1 2 [.int .i64 (x0 + s.t), .int .i64 (x2 + 1)]) := Lib.hid (one_lies (cs := #[.int .i64 (x0 + s.t), .int .i64 (x2 + 1)]) ((hgrow6'.block (U.heap.size + 1) (by first | omega | (simp [World.drew]; done) | (simp [World.drew]; omega)) (by simp [Value.ownBlock])).trans (by simpa [World.drew] using heap_alloc_new (U.alloc (.cells #[] 62)) (.cells #[.int .i64 (x0 + s.t), .int .i64 (x2 + 1)] 62))) rfl)
               clear hown6' hgrow6' hob6')
            | (refine step_append_lie2 (by rfl) (.tmp 40) (.tmp 44) 35 (by rfl) U.heap.size 62 i0 _ 2 16 Try.underlying35 HI.out hz0 hz1 hz2 rfl (by omega) (.slice (some ⟨U.heap.size + 1, 0, none⟩) 0 0) 0 [] (by rfl) (by have h := (HE0.out (U.alloc (.cells #[.int .i64 (x0 + s.t), .int .i64 (x2 + 1)] 62)) (below1 _ _)).1; rw [show (U.alloc (.cells #[.int .i64 (x0 + s.t), .int .i64 (x2 + 1)] 62)).heap.size = U.heap.size + 1 by simp] at h; exact h) (.slice ba nb bc) (0) (U.heap.size) nb ys (by rfl) (HL.out _ (by repeat first | exact Below.refl _ _ | refine Below.drew ?_ | refine b_alloc ?_ (Nat.le_refl _) _)) HX1.out nb (by omega) (by simp only [maxLen]; omega) (by omega) (by first | omega | (simp [World.drew]; done) | (simp [World.drew]; omega)) ?_
               intro ao6 cap6 w6 hown6' hgrow6' hob6'
               have hown6 := Lib.hid (hown6' : w6.ownsRow U.heap.size 62 2 (.slice ao6 nb cap6) nb ys)
               have hb6 : Hid (Below U.heap.size U w6) := Lib.hid (Below.grown (by repeat first | exact Below.refl _ _ | refine Below.drew ?_ | refine b_alloc ?_ (Nat.le_refl _) _) hgrow6' (by first | omega | (simp [World.drew]; done) | (simp [World.drew]; omega)) (fun q hq => by cases hq; exact Nat.le_succ _))
               have hr6 : Hid (Lies w6 U.heap.size (U.heap.size + 1) (.slice (some ⟨U.heap.size, 0, none⟩) 1 1) 1 2 [.int .i64 (x0 + s.t), .int .i64 (x2 + 1)]) := Lib.hid (one_lies (cs := #[.int .i64 (x0 + s.t), .int .i64 (x2 + 1)]) ((hgrow6'.block U.heap.size (by first | omega | (simp [World.drew]; done) | (simp [World.drew]; omega)) (by simp [Value.ownBlock])).trans (((below1 (U.alloc (.cells #[.int .i64 (x0 + s.t), .int .i64 (x2 + 1)] 62)) (.cells #[] 62)).block U.heap.size (by simp)).trans (heap_alloc_new U (.cells #[.int .i64 (x0 + s.t), .int .i64 (x2 + 1)] 62)))) rfl)
               clear hown6' hgrow6' hob6'))
          refine hK.out _ _ ?_ (fun hHeld => ?_)
          · (first | exact c3 | exact KST.out _ _ hb7.out | exact KB.out _ hb7.out | exact KB.out _ hb6.out | exact KB.out _ (b_alloc hb6.out (Nat.le_refl _) _) | exact KB.out _ (by repeat first | exact Below.refl _ _ | refine Below.drew ?_ | refine b_alloc ?_ (Nat.le_refl _) _))
          clear hK K
          try simp only [Act.put, List.setIfInBounds_toArray, List.set_cons_zero, List.set_cons_succ]
          refine wpAnyH_ready (rs := [23]) (by kernel_rfl) (by simp) ?_
          refine AllReadyH.cons rfl (fun K hK => ?_) AllReadyH.nil
          (first
            | (refine step_append_lie2 (by rfl) (.tmp 45) (.tmp 61) 35 (by rfl) U.heap.size 62 i0 _ 2 16 Try.underlying35 HI.out hz0 hz1 hz2 rfl (by omega) (.slice ao6 nb cap6) nb ys (by rfl) (owns_later hown6.out (below1 _ _)) (.slice (some ⟨w6.heap.size, 0, none⟩) 1 1) (w6.heap.size) (w6.heap.size + 1) 1 [.int .i64 (x0 + s.t), .int .i64 (x2 + 1)] (by rfl) (one_lies (cs := #[.int .i64 (x0 + s.t), .int .i64 (x2 + 1)]) (heap_alloc_new w6 _) rfl) (bk_one ⟨x0 + s.t, x2 + 1⟩) (nb + 1) rfl (by simp only [maxLen]; omega) (by omega) (by have h := hb6.out.size; first | omega | (simp [World.drew]; done) | (simp [World.drew]; omega)) ?_
               intro ao7 cap7 w7 hown7' hgrow7' hob7'
               have hown7 := Lib.hid hown7'
               have hb7 : Hid (Below U.heap.size U w7) := Lib.hid (Below.grown ((b_alloc hb6.out (Nat.le_refl _) _).drew) hgrow7' (by have h := hb6.out.size; first | omega | (simp [World.drew]; done) | (simp [World.drew]; omega)) (fun q hq => (owns_block (hown6.out) q hq).1))
               obtain ⟨hu7, hf7⟩ := KC.out _ hb7.out
               clear hown7' hgrow7' hob7')
            | (refine step_append_lie2 (by rfl) (.tmp 45) (.tmp 61) 35 (by rfl) U.heap.size 62 i0 _ 2 16 Try.underlying35 HI.out hz0 hz1 hz2 rfl (by omega) (.slice ao6 nb cap6) nb ys (by rfl) (owns_later hown6.out (below1 _ _)) (.slice (some ⟨w6.heap.size, 0, none⟩) 1 1) (w6.heap.size) (w6.heap.size + 1) 1 [.int .i64 (x0 + s.t), .int .i64 (x2 + 1)] (by rfl) (one_lies (cs := #[.int .i64 (x0 + s.t), .int .i64 (x2 + 1)]) (heap_alloc_new w6 _) rfl) (bk_one ⟨x0 + s.t, x2 + 1⟩) (nb + 1) rfl (by simp only [maxLen]; omega) (by omega) (by have h := hb6.out.size; first | omega | (simp [World.drew]; done) | (simp [World.drew]; omega)) ?_
               intro ao7 cap7 w7 hown7' hgrow7' hob7'
               have hown7 := Lib.hid hown7'
               have hb7 : Hid (Below U.heap.size U w7) := Lib.hid (Below.grown (b_alloc hb6.out (Nat.le_refl _) _) hgrow7' (by have h := hb6.out.size; first | omega | (simp [World.drew]; done) | (simp [World.drew]; omega)) (fun q hq => (owns_block (hown6.out) q hq).1))
               obtain ⟨hu7, hf7⟩ := KC.out _ hb7.out
               clear hown7' hgrow7' hob7')
            | (refine step_append_lie2 (by rfl) (.tmp 45) (.tmp 61) 35 (by rfl) U.heap.size 62 i0 _ 2 16 Try.underlying35 HI.out hz0 hz1 hz2 rfl (by omega) (.slice ao6 nb cap6) nb ys (by rfl) (hown6.out) (.slice (some ⟨U.heap.size + 1, 0, none⟩) 1 1) (U.heap.size + 1) (U.heap.size + 2) 1 [.int .i64 (x0 + s.t), .int .i64 (x2 + 1)] (by rfl) (hr6.out) (bk_one ⟨x0 + s.t, x2 + 1⟩) (nb + 1) rfl (by simp only [maxLen]; omega) (by omega) (by have h := hb6.out.size; first | omega | (simp [World.drew]; done) | (simp [World.drew]; omega)) ?_
               intro ao7 cap7 w7 hown7' hgrow7' hob7'
               have hown7 := Lib.hid hown7'
               have hb7 : Hid (Below U.heap.size U w7) := Lib.hid (Below.grown (hb6.out) hgrow7' (by have h := hb6.out.size; first | omega | (simp [World.drew]; done) | (simp [World.drew]; omega)) (fun q hq => (owns_block (hown6.out) q hq).1))
               obtain ⟨hu7, hf7⟩ := KC.out _ hb7.out
               clear hown7' hgrow7' hob7')
            | (refine step_append_lie2 (by rfl) (.tmp 45) (.tmp 61) 35 (by rfl) U.heap.size 62 i0 _ 2 16 Try.underlying35 HI.out hz0 hz1 hz2 rfl (by omega) (.slice ao6 nb cap6) nb ys (by rfl) (hown6.out) (.slice (some ⟨U.heap.size + 1, 0, none⟩) 1 1) (U.heap.size + 1) (U.heap.size + 2) 1 [.int .i64 (x0 + s.t), .int .i64 (x2 + 1)] (by rfl) (hr6.out) (bk_one ⟨x0 + s.t, x2 + 1⟩) (nb + 1) rfl (by simp only [maxLen]; omega) (by omega) (by have h := hb6.out.size; first | omega | (simp [World.drew]; done) | (simp [World.drew]; omega)) ?_
               intro ao7 cap7 w7 hown7' hgrow7' hob7'
               have hown7 := Lib.hid hown7'
               have hb7 : Hid (Below U.heap.size U w7) := Lib.hid (Below.grown (hb6.out.drew) hgrow7' (by have h := hb6.out.size; first | omega | (simp [World.drew]; done) | (simp [World.drew]; omega)) (fun q hq => (owns_block (hown6.out) q hq).1))
               obtain ⟨hu7, hf7⟩ := KC.out _ hb7.out
               clear hown7' hgrow7' hob7')
            | (refine step_append_lie2 (by rfl) (.tmp 45) (.tmp 61) 35 (by rfl) U.heap.size 62 i0 _ 2 16 Try.underlying35 HI.out hz0 hz1 hz2 rfl (by omega) (.slice ao6 nb cap6) nb ys (by rfl) (hown6.out) (.slice (some ⟨U.heap.size, 0, none⟩) 1 1) (U.heap.size) (U.heap.size + 1) 1 [.int .i64 (x0 + s.t), .int .i64 (x2 + 1)] (by rfl) (hr6.out) (bk_one ⟨x0 + s.t, x2 + 1⟩) (nb + 1) rfl (by simp only [maxLen]; omega) (by omega) (by have h := hb6.out.size; first | omega | (simp [World.drew]; done) | (simp [World.drew]; omega)) ?_
               intro ao7 cap7 w7 hown7' hgrow7' hob7'
               have hown7 := Lib.hid hown7'
               have hb7 : Hid (Below U.heap.size U w7) := Lib.hid (Below.grown (hb6.out) hgrow7' (by have h := hb6.out.size; first | omega | (simp [World.drew]; done) | (simp [World.drew]; omega)) (fun q hq => (owns_block (hown6.out) q hq).1))
               obtain ⟨hu7, hf7⟩ := KC.out _ hb7.out
               clear hown7' hgrow7' hob7')
            | (refine step_append_lie2 (by rfl) (.tmp 45) (.tmp 61) 35 (by rfl) U.heap.size 62 i0 _ 2 16 Try.underlying35 HI.out hz0 hz1 hz2 rfl (by omega) (.slice ao6 nb cap6) nb ys (by rfl) (hown6.out) (.slice (some ⟨U.heap.size, 0, none⟩) 1 1) (U.heap.size) (U.heap.size + 1) 1 [.int .i64 (x0 + s.t), .int .i64 (x2 + 1)] (by rfl) (hr6.out) (bk_one ⟨x0 + s.t, x2 + 1⟩) (nb + 1) rfl (by simp only [maxLen]; omega) (by omega) (by have h := hb6.out.size; first | omega | (simp [World.drew]; done) | (simp [World.drew]; omega)) ?_
               intro ao7 cap7 w7 hown7' hgrow7' hob7'
               have hown7 := Lib.hid hown7'
               have hb7 : Hid (Below U.heap.size U w7) := Lib.hid (Below.grown (hb6.out.drew) hgrow7' (by have h := hb6.out.size; first | omega | (simp [World.drew]; done) | (simp [World.drew]; omega)) (fun q hq => (owns_block (hown6.out) q hq).1))
               obtain ⟨hu7, hf7⟩ := KC.out _ hb7.out
               clear hown7' hgrow7' hob7'))
          refine hK.out _ _ ?_ (fun hHeld => ?_)
          · (first | exact c3 | exact KST.out _ _ hb7.out | exact KB.out _ hb7.out | exact KB.out _ hb6.out | exact KB.out _ (b_alloc hb6.out (Nat.le_refl _) _) | exact KB.out _ (by repeat first | exact Below.refl _ _ | refine Below.drew ?_ | refine b_alloc ?_ (Nat.le_refl _) _))
          clear hK K
          try simp only [Act.put, List.setIfInBounds_toArray, List.set_cons_zero, List.set_cons_succ]
          refine wpAnyH_takeE (i := 24) (d := some 63) (v := ?_) rfl rfl (by kernel_rfl) (by kernel_rfl) (by kernel_rfl) (fun _ _ _ h => h) (Or.inl ⟨by rfl, ?_⟩) (by assumption) ?_
          rotate_left
          · intro w hSw
            (try dsimp only at hSw)
            go_simp
            try (with_reducible rfl)
          simp only [Act.put, List.setIfInBounds_toArray, List.set_cons_zero, List.set_cons_succ]
          refine wpAnyH_takeE (i := 25) (d := some 64) (v := ?_) rfl rfl (by kernel_rfl) (by kernel_rfl) (by kernel_rfl) (fun _ _ _ h => h) (Or.inl ⟨by rfl, ?_⟩) (by assumption) ?_
          rotate_left
          · intro w hSw
            (try dsimp only at hSw)
            go_simp
            try (with_reducible rfl)
          simp only [Act.put, List.setIfInBounds_toArray, List.set_cons_zero, List.set_cons_succ]
          refine wpAnyH_ready (rs := [26]) (by kernel_rfl) (by simp) ?_
          refine AllReadyH.cons rfl (fun K hK => ?_) AllReadyH.nil
          go_simp
          refine hK.out _ _ ?_ (fun hHeld => ?_)
          · (first | exact c3 | exact KST.out _ _ hb7.out | exact KB.out _ hb7.out | exact KB.out _ hb6.out | exact KB.out _ (b_alloc hb6.out (Nat.le_refl _) _) | exact KB.out _ (by repeat first | exact Below.refl _ _ | refine Below.drew ?_ | refine b_alloc ?_ (Nat.le_refl _) _))
          clear hK K
          try simp only [Act.put, List.setIfInBounds_toArray, List.set_cons_zero, List.set_cons_succ]
          refine wpAnyH_done (by kernel_rfl) ?_ _
          refine NoPanic.normal ?_
          have hk7 := HKU.out.later hb7.out
          obtain ⟨t1, t2⟩ := hk7.backed (w0 := U) (ao := ao7) (cap := cap7) (en' := bk ++ [⟨x0 + s.t, x2 + 1⟩]) (GrowS.of_below hb7.out) HKU.out.lt (by
            have := ORow.of_owns hown7.out
            rw [HYS.out] at this
            simpa [HNB.out, Bk.cells] using this) (fun g hg => (World.ownsRow.lt hown7.out g (by rw [own_ob]; exact hg)).1)
          rw [show (bk ++ [(⟨x0 + s.t, x2 + 1⟩ : Bk)]).length = nb + 1 by rw [HNB.out]; simp] at t1 t2
          obtain ⟨Y, hY⟩ : ∃ Y, Y = w7.setCell ⟨H, 5, none⟩ (.slice ao7 (nb + 1) cap7) := ⟨_, rfl⟩
          rw [← hY] at t1 t2
          have z4 := t1.c4
          rw [show ((⟨x0, x1 - 1, x2 + 1⟩ : Wn) :: l).length = n by rw [HN.out]; rfl] at z4
          have zf := t1.fz 4
          have T1 := Lib.hid t1
          have T2 := Lib.hid t2
          have HY := Lib.hid hY
          clear t1 t2 hY hk7
          rw [← HY.out]
          obtain ⟨aS, haS⟩ : ∃ aS : Option Addr, (if capL = 1 then some (⟨G, 0, none⟩ : Addr) else some ⟨G, 3, none⟩) = aS := ⟨_, rfl⟩
          have HAS := Lib.hid haS
          clear haS
          go_upto_region 10 with fail
          rw [HAS.out]
          go_wp2_with fail
          go_ret
          obtain ⟨q1, q2⟩ := T1.out.cutL (n := n) (a' := aS) (by rw [HN.out]; rfl) (by simpa using HAS.out)
          rw [HE.out]
          have hgr := HGU.out.trans (T2.out.trans q2)
          rw [HBA.out] at hgr
          first | exact ⟨_, rfl, ⟨_, _, _, _, q1, rfl⟩, hgr⟩ | exact ⟨rfl, _, ⟨_, _, _, _, q1, rfl⟩, hgr⟩
      · go_simp
        refine hK.out _ _ ?_ (fun hHeld => ?_)
        · (first | exact c3 | exact KST.out _ _ hb7.out | exact KB.out _ hb7.out | exact KB.out _ hb6.out | exact KB.out _ (b_alloc hb6.out (Nat.le_refl _) _) | exact KB.out _ (by repeat first | exact Below.refl _ _ | refine Below.drew ?_ | refine b_alloc ?_ (Nat.le_refl _) _))
        clear hK K
        try simp only [Act.put, List.setIfInBounds_toArray, List.set_cons_zero, List.set_cons_succ]
        refine wpAnyH_ready (rs := [1, 5]) (by kernel_rfl) (by simp) ?_
        refine AllReadyH.cons rfl (fun K hK => ?_) (AllReadyH.cons rfl (fun K hK => ?_) AllReadyH.nil)
        · go_simp
          refine hK.out _ _ ?_ (fun hHeld => ?_)
          · (first | exact c3 | exact KST.out _ _ hb7.out | exact KB.out _ hb7.out | exact KB.out _ hb6.out | exact KB.out _ (b_alloc hb6.out (Nat.le_refl _) _) | exact KB.out _ (by repeat first | exact Below.refl _ _ | refine Below.drew ?_ | refine b_alloc ?_ (Nat.le_refl _) _))
          clear hK K
          try simp only [Act.put, List.setIfInBounds_toArray, List.set_cons_zero, List.set_cons_succ]
          refine wpAnyH_ready (rs := [5]) (by kernel_rfl) (by simp) ?_
          refine AllReadyH.cons rfl (fun K hK => ?_) AllReadyH.nil
          go_simp
          refine hK.out _ _ ?_ (fun hHeld => ?_)
          · (first | exact c3 | exact KST.out _ _ hb7.out | exact KB.out _ hb7.out | exact KB.out _ hb6.out | exact KB.out _ (b_alloc hb6.out (Nat.le_refl _) _) | exact KB.out _ (by repeat first | exact Below.refl _ _ | refine Below.drew ?_ | refine b_alloc ?_ (Nat.le_refl _) _))
          clear hK K
          try simp only [Act.put, List.setIfInBounds_toArray, List.set_cons_zero, List.set_cons_succ]
          refine wpAnyH_ready (rs := [6]) (by kernel_rfl) (by simp) ?_
          refine AllReadyH.cons rfl (fun K hK => ?_) AllReadyH.nil
          (first
            | (refine step_append_lie2 (by rfl) (.tmp 40) (.tmp 44) 35 (by rfl) U.heap.size 62 i0 _ 2 16 Try.underlying35 HI.out hz0 hz1 hz2 rfl (by omega) (.slice (some ⟨U.heap.size, 0, none⟩) 0 0) 0 [] (by rfl) ((HE0.out U (Below.refl _ _)).1) (.slice ba nb bc) (0) (U.heap.size) nb ys (by rfl) (HL.out _ (by repeat first | exact Below.refl _ _ | refine Below.drew ?_ | refine b_alloc ?_ (Nat.le_refl _) _)) HX1.out nb (by omega) (by simp only [maxLen]; omega) (by omega) (by first | omega | (simp [World.drew]; done) | (simp [World.drew]; omega)) ?_
               intro ao6 cap6 w6 hown6' hgrow6' hob6'
               have hown6 := Lib.hid (hown6' : w6.ownsRow U.heap.size 62 2 (.slice ao6 nb cap6) nb ys)
               have hb6 : Hid (Below U.heap.size U w6) := Lib.hid (Below.grown (by repeat first | exact Below.refl _ _ | refine Below.drew ?_ | refine b_alloc ?_ (Nat.le_refl _) _) hgrow6' (by first | omega | (simp [World.drew]; done) | (simp [World.drew]; omega)) (fun q hq => by cases hq; exact Nat.le_refl _))
               skip
               clear hown6' hgrow6' hob6')
            | (refine step_append_lie2 (by rfl) (.tmp 40) (.tmp 44) 35 (by rfl) U.heap.size 62 i0 _ 2 16 Try.underlying35 HI.out hz0 hz1 hz2 rfl (by omega) (.slice (some ⟨U.heap.size, 0, none⟩) 0 0) 0 [] (by rfl) ((HE0.out U (Below.refl _ _)).2 _) (.slice ba nb bc) (0) (U.heap.size) nb ys (by rfl) (HL.out _ (by repeat first | exact Below.refl _ _ | refine Below.drew ?_ | refine b_alloc ?_ (Nat.le_refl _) _)) HX1.out nb (by omega) (by simp only [maxLen]; omega) (by omega) (by first | omega | (simp [World.drew]; done) | (simp [World.drew]; omega)) ?_
               intro ao6 cap6 w6 hown6' hgrow6' hob6'
               have hown6 := Lib.hid (hown6' : w6.ownsRow U.heap.size 62 2 (.slice ao6 nb cap6) nb ys)
               have hb6 : Hid (Below U.heap.size U w6) := Lib.hid (Below.grown (by repeat first | exact Below.refl _ _ | refine Below.drew ?_ | refine b_alloc ?_ (Nat.le_refl _) _) hgrow6' (by first | omega | (simp [World.drew]; done) | (simp [World.drew]; omega)) (fun q hq => by cases hq; exact Nat.le_refl _))
               have hr6 : Hid (Lies w6 (U.heap.size + 1) (U.heap.size + 2) (.slice (some ⟨U.heap.size + 1, 0, none⟩) 1 1) 1 2 [.int .i64 (x0 + s.t), .int .i64 (x2 + 1)]) := Lib.hid (one_lies (cs := #[.int .i64 (x0 + s.t), .int .i64 (x2 + 1)]) ((hgrow6'.block (U.heap.size + 1) (by first | omega | (simp [World.drew]; done) | (simp [World.drew]; omega)) (by simp [Value.ownBlock])).trans (by simpa [World.drew] using heap_alloc_new (U.alloc (.cells #[] 62)) (.cells #[.int .i64 (x0 + s.t), .int .i64 (x2 + 1)] 62))) rfl)
               clear hown6' hgrow6' hob6')
            | (refine step_append_lie2 (by rfl) (.tmp 40) (.tmp 44) 35 (by rfl) U.heap.size 62 i0 _ 2 16 Try.underlying35 HI.out hz0 hz1 hz2 rfl (by omega) (.slice (some ⟨U.heap.size + 1, 0, none⟩) 0 0) 0 [] (by rfl) (by have h := (HE0.out (U.alloc (.cells #[.int .i64 (x0 + s.t), .int .i64 (x2 + 1)] 62)) (below1 _ _)).1; rw [show (U.alloc (.cells #[.int .i64 (x0 + s.t), .int .i64 (x2 + 1)] 62)).heap.size = U.heap.size + 1 by simp] at h; exact h) (.slice ba nb bc) (0) (U.heap.size) nb ys (by rfl) (HL.out _ (by repeat first | exact Below.refl _ _ | refine Below.drew ?_ | refine b_alloc ?_ (Nat.le_refl _) _)) HX1.out nb (by omega) (by simp only [maxLen]; omega) (by omega) (by first | omega | (simp [World.drew]; done) | (simp [World.drew]; omega)) ?_
               intro ao6 cap6 w6 hown6' hgrow6' hob6'
               have hown6 := Lib.hid (hown6' : w6.ownsRow U.heap.size 62 2 (.slice ao6 nb cap6) nb ys)
               have hb6 : Hid (Below U.heap.size U w6) := Lib.hid (Below.grown (by repeat first | exact Below.refl _ _ | refine Below.drew ?_ | refine b_alloc ?_ (Nat.le_refl _) _) hgrow6' (by first | omega | (simp [World.drew]; done) | (simp [World.drew]; omega)) (fun q hq => by cases hq; exact Nat.le_succ _))
               have hr6 : Hid (Lies w6 U.heap.size (U.heap.size + 1) (.slice (some ⟨U.heap.size, 0, none⟩) 1 1) 1 2 [.int .i64 (x0 + s.t), .int .i64 (x2 + 1)]) := Lib.hid (one_lies (cs := #[.int .i64 (x0 + s.t), .int .i64 (x2 + 1)]) ((hgrow6'.block U.heap.size (by first | omega | (simp [World.drew]; done) | (simp [World.drew]; omega)) (by simp [Value.ownBlock])).trans (((below1 (U.alloc (.cells #[.int .i64 (x0 + s.t), .int .i64 (x2 + 1)] 62)) (.cells #[] 62)).block U.heap.size (by simp)).trans (heap_alloc_new U (.cells #[.int .i64 (x0 + s.t), .int .i64 (x2 + 1)] 62)))) rfl)
               clear hown6' hgrow6' hob6'))
          refine hK.out _ _ ?_ (fun hHeld => ?_)
          · (first | exact c3 | exact KST.out _ _ hb7.out | exact KB.out _ hb7.out | exact KB.out _ hb6.out | exact KB.out _ (b_alloc hb6.out (Nat.le_refl _) _) | exact KB.out _ (by repeat first | exact Below.refl _ _ | refine Below.drew ?_ | refine b_alloc ?_ (Nat.le_refl _) _))
          clear hK K
          try simp only [Act.put, List.setIfInBounds_toArray, List.set_cons_zero, List.set_cons_succ]
          refine wpAnyH_ready (rs := [23]) (by kernel_rfl) (by simp) ?_
          refine AllReadyH.cons rfl (fun K hK => ?_) AllReadyH.nil
          (first
            | (refine step_append_lie2 (by rfl) (.tmp 45) (.tmp 61) 35 (by rfl) U.heap.size 62 i0 _ 2 16 Try.underlying35 HI.out hz0 hz1 hz2 rfl (by omega) (.slice ao6 nb cap6) nb ys (by rfl) (owns_later hown6.out (below1 _ _)) (.slice (some ⟨w6.heap.size, 0, none⟩) 1 1) (w6.heap.size) (w6.heap.size + 1) 1 [.int .i64 (x0 + s.t), .int .i64 (x2 + 1)] (by rfl) (one_lies (cs := #[.int .i64 (x0 + s.t), .int .i64 (x2 + 1)]) (heap_alloc_new w6 _) rfl) (bk_one ⟨x0 + s.t, x2 + 1⟩) (nb + 1) rfl (by simp only [maxLen]; omega) (by omega) (by have h := hb6.out.size; first | omega | (simp [World.drew]; done) | (simp [World.drew]; omega)) ?_
               intro ao7 cap7 w7 hown7' hgrow7' hob7'
               have hown7 := Lib.hid hown7'
               have hb7 : Hid (Below U.heap.size U w7) := Lib.hid (Below.grown ((b_alloc hb6.out (Nat.le_refl _) _).drew) hgrow7' (by have h := hb6.out.size; first | omega | (simp [World.drew]; done) | (simp [World.drew]; omega)) (fun q hq => (owns_block (hown6.out) q hq).1))
               obtain ⟨hu7, hf7⟩ := KC.out _ hb7.out
               clear hown7' hgrow7' hob7')
            | (refine step_append_lie2 (by rfl) (.tmp 45) (.tmp 61) 35 (by rfl) U.heap.size 62 i0 _ 2 16 Try.underlying35 HI.out hz0 hz1 hz2 rfl (by omega) (.slice ao6 nb cap6) nb ys (by rfl) (owns_later hown6.out (below1 _ _)) (.slice (some ⟨w6.heap.size, 0, none⟩) 1 1) (w6.heap.size) (w6.heap.size + 1) 1 [.int .i64 (x0 + s.t), .int .i64 (x2 + 1)] (by rfl) (one_lies (cs := #[.int .i64 (x0 + s.t), .int .i64 (x2 + 1)]) (heap_alloc_new w6 _) rfl) (bk_one ⟨x0 + s.t, x2 + 1⟩) (nb + 1) rfl (by simp only [maxLen]; omega) (by omega) (by have h := hb6.out.size; first | omega | (simp [World.drew]; done) | (simp [World.drew]; omega)) ?_
               intro ao7 cap7 w7 hown7' hgrow7' hob7'
               have hown7 := Lib.hid hown7'
               have hb7 : Hid (Below U.heap.size U w7) := Lib.hid (Below.grown (b_alloc hb6.out (Nat.le_refl _) _) hgrow7' (by have h := hb6.out.size; first | omega | (simp [World.drew]; done) | (simp [World.drew]; omega)) (fun q hq => (owns_block (hown6.out) q hq).1))
               obtain ⟨hu7, hf7⟩ := KC.out _ hb7.out
               clear hown7' hgrow7' hob7')
            | (refine step_append_lie2 (by rfl) (.tmp 45) (.tmp 61) 35 (by rfl) U.heap.size 62 i0 _ 2 16 Try.underlying35 HI.out hz0 hz1 hz2 rfl (by omega) (.slice ao6 nb cap6) nb ys (by rfl) (hown6.out) (.slice (some ⟨U.heap.size + 1, 0, none⟩) 1 1) (U.heap.size + 1) (U.heap.size + 2) 1 [.int .i64 (x0 + s.t), .int .i64 (x2 + 1)] (by rfl) (hr6.out) (bk_one ⟨x0 + s.t, x2 + 1⟩) (nb + 1) rfl (by simp only [maxLen]; omega) (by omega) (by have h := hb6.out.size; first | omega | (simp [World.drew]; done) | (simp [World.drew]; omega)) ?_
               intro ao7 cap7 w7 hown7' hgrow7' hob7'
               have hown7 := Lib.hid hown7'
               have hb7 : Hid (Below U.heap.size U w7) := Lib.hid (Below.grown (hb6.out) hgrow7' (by have h := hb6.out.size; first | omega | (simp [World.drew]; done) | (simp [World.drew]; omega)) (fun q hq => (owns_block (hown6.out) q hq).1))
               obtain ⟨hu7, hf7⟩ := KC.out _ hb7.out
               clear hown7' hgrow7' hob7')
            | (refine step_append_lie2 (by rfl) (.tmp 45) (.tmp 61) 35 (by rfl) U.heap.size 62 i0 _ 2 16 Try.underlying35 HI.out hz0 hz1 hz2 rfl (by omega) (.slice ao6 nb cap6) nb ys (by rfl) (hown6.out) (.slice (some ⟨U.heap.size + 1, 0, none⟩) 1 1) (U.heap.size + 1) (U.heap.size + 2) 1 [.int .i64 (x0 + s.t), .int .i64 (x2 + 1)] (by rfl) (hr6.out) (bk_one ⟨x0 + s.t, x2 + 1⟩) (nb + 1) rfl (by simp only [maxLen]; omega) (by omega) (by have h := hb6.out.size; first | omega | (simp [World.drew]; done) | (simp [World.drew]; omega)) ?_
               intro ao7 cap7 w7 hown7' hgrow7' hob7'
               have hown7 := Lib.hid hown7'
               have hb7 : Hid (Below U.heap.size U w7) := Lib.hid (Below.grown (hb6.out.drew) hgrow7' (by have h := hb6.out.size; first | omega | (simp [World.drew]; done) | (simp [World.drew]; omega)) (fun q hq => (owns_block (hown6.out) q hq).1))
               obtain ⟨hu7, hf7⟩ := KC.out _ hb7.out
               clear hown7' hgrow7' hob7')
            | (refine step_append_lie2 (by rfl) (.tmp 45) (.tmp 61) 35 (by rfl) U.heap.size 62 i0 _ 2 16 Try.underlying35 HI.out hz0 hz1 hz2 rfl (by omega) (.slice ao6 nb cap6) nb ys (by rfl) (hown6.out) (.slice (some ⟨U.heap.size, 0, none⟩) 1 1) (U.heap.size) (U.heap.size + 1) 1 [.int .i64 (x0 + s.t), .int .i64 (x2 + 1)] (by rfl) (hr6.out) (bk_one ⟨x0 + s.t, x2 + 1⟩) (nb + 1) rfl (by simp only [maxLen]; omega) (by omega) (by have h := hb6.out.size; first | omega | (simp [World.drew]; done) | (simp [World.drew]; omega)) ?_
               intro ao7 cap7 w7 hown7' hgrow7' hob7'
               have hown7 := Lib.hid hown7'
               have hb7 : Hid (Below U.heap.size U w7) := Lib.hid (Below.grown (hb6.out) hgrow7' (by have h := hb6.out.size; first | omega | (simp [World.drew]; done) | (simp [World.drew]; omega)) (fun q hq => (owns_block (hown6.out) q hq).1))
               obtain ⟨hu7, hf7⟩ := KC.out _ hb7.out
               clear hown7' hgrow7' hob7')
            | (refine step_append_lie2 (by rfl) (.tmp 45) (.tmp 61) 35 (by rfl) U.heap.size 62 i0 _ 2 16 Try.underlying35 HI.out hz0 hz1 hz2 rfl (by omega) (.slice ao6 nb cap6) nb ys (by rfl) (hown6.out) (.slice (some ⟨U.heap.size, 0, none⟩) 1 1) (U.heap.size) (U.heap.size + 1) 1 [.int .i64 (x0 + s.t), .int .i64 (x2 + 1)] (by rfl) (hr6.out) (bk_one ⟨x0 + s.t, x2 + 1⟩) (nb + 1) rfl (by simp only [maxLen]; omega) (by omega) (by have h := hb6.out.size; first | omega | (simp [World.drew]; done) | (simp [World.drew]; omega)) ?_
               intro ao7 cap7 w7 hown7' hgrow7' hob7'
               have hown7 := Lib.hid hown7'
               have hb7 : Hid (Below U.heap.size U w7) := Lib.hid (Below.grown (hb6.out.drew) hgrow7' (by have h := hb6.out.size; first | omega | (simp [World.drew]; done) | (simp [World.drew]; omega)) (fun q hq => (owns_block (hown6.out) q hq).1))
               obtain ⟨hu7, hf7⟩ := KC.out _ hb7.out
               clear hown7' hgrow7' hob7'))
          refine hK.out _ _ ?_ (fun hHeld => ?_)
          · (first | exact c3 | exact KST.out _ _ hb7.out | exact KB.out _ hb7.out | exact KB.out _ hb6.out | exact KB.out _ (b_alloc hb6.out (Nat.le_refl _) _) | exact KB.out _ (by repeat first | exact Below.refl _ _ | refine Below.drew ?_ | refine b_alloc ?_ (Nat.le_refl _) _))
          clear hK K
          try simp only [Act.put, List.setIfInBounds_toArray, List.set_cons_zero, List.set_cons_succ]
          refine wpAnyH_takeE (i := 24) (d := some 63) (v := ?_) rfl rfl (by kernel_rfl) (by kernel_rfl) (by kernel_rfl) (fun _ _ _ h => h) (Or.inl ⟨by rfl, ?_⟩) (by assumption) ?_
          rotate_left
          · intro w hSw
            (try dsimp only at hSw)
            go_simp
            try (with_reducible rfl)
          simp only [Act.put, List.setIfInBounds_toArray, List.set_cons_zero, List.set_cons_succ]
          refine wpAnyH_takeE (i := 25) (d := some 64) (v := ?_) rfl rfl (by kernel_rfl) (by kernel_rfl) (by kernel_rfl) (fun _ _ _ h => h) (Or.inl ⟨by rfl, ?_⟩) (by assumption) ?_
          rotate_left
          · intro w hSw
            (try dsimp only at hSw)
            go_simp
            try (with_reducible rfl)
          simp only [Act.put, List.setIfInBounds_toArray, List.set_cons_zero, List.set_cons_succ]
          refine wpAnyH_ready (rs := [26]) (by kernel_rfl) (by simp) ?_
          refine AllReadyH.cons rfl (fun K hK => ?_) AllReadyH.nil
          go_simp
          refine hK.out _ _ ?_ (fun hHeld => ?_)
          · (first | exact c3 | exact KST.out _ _ hb7.out | exact KB.out _ hb7.out | exact KB.out _ hb6.out | exact KB.out _ (b_alloc hb6.out (Nat.le_refl _) _) | exact KB.out _ (by repeat first | exact Below.refl _ _ | refine Below.drew ?_ | refine b_alloc ?_ (Nat.le_refl _) _))
          clear hK K
          try simp only [Act.put, List.setIfInBounds_toArray, List.set_cons_zero, List.set_cons_succ]
          refine wpAnyH_done (by kernel_rfl) ?_ _
          refine NoPanic.normal ?_
          have hk7 := HKU.out.later hb7.out
          obtain ⟨t1, t2⟩ := hk7.backed (w0 := U) (ao := ao7) (cap := cap7) (en' := bk ++ [⟨x0 + s.t, x2 + 1⟩]) (GrowS.of_below hb7.out) HKU.out.lt (by
            have := ORow.of_owns hown7.out
            rw [HYS.out] at this
            simpa [HNB.out, Bk.cells] using this) (fun g hg => (World.ownsRow.lt hown7.out g (by rw [own_ob]; exact hg)).1)
          rw [show (bk ++ [(⟨x0 + s.t, x2 + 1⟩ : Bk)]).length = nb + 1 by rw [HNB.out]; simp] at t1 t2
          obtain ⟨Y, hY⟩ : ∃ Y, Y = w7.setCell ⟨H, 5, none⟩ (.slice ao7 (nb + 1) cap7) := ⟨_, rfl⟩
          rw [← hY] at t1 t2
          have z4 := t1.c4
          rw [show ((⟨x0, x1 - 1, x2 + 1⟩ : Wn) :: l).length = n by rw [HN.out]; rfl] at z4
          have zf := t1.fz 4
          have T1 := Lib.hid t1
          have T2 := Lib.hid t2
          have HY := Lib.hid hY
          clear t1 t2 hY hk7
          rw [← HY.out]
          obtain ⟨aS, haS⟩ : ∃ aS : Option Addr, (if capL = 1 then some (⟨G, 0, none⟩ : Addr) else some ⟨G, 3, none⟩) = aS := ⟨_, rfl⟩
          have HAS := Lib.hid haS
          clear haS
          go_upto_region 10 with fail
          rw [HAS.out]
          go_wp2_with fail
          go_ret
          obtain ⟨q1, q2⟩ := T1.out.cutL (n := n) (a' := aS) (by rw [HN.out]; rfl) (by simpa using HAS.out)
          rw [HE.out]
          have hgr := HGU.out.trans (T2.out.trans q2)
          rw [HBA.out] at hgr
          first | exact ⟨_, rfl, ⟨_, _, _, _, q1, rfl⟩, hgr⟩ | exact ⟨rfl, _, ⟨_, _, _, _, q1, rfl⟩, hgr⟩
        · go_simp
          refine hK.out _ _ ?_ (fun hHeld => ?_)
          · (first | exact c3 | exact KST.out _ _ hb7.out | exact KB.out _ hb7.out | exact KB.out _ hb6.out | exact KB.out _ (b_alloc hb6.out (Nat.le_refl _) _) | exact KB.out _ (by repeat first | exact Below.refl _ _ | refine Below.drew ?_ | refine b_alloc ?_ (Nat.le_refl _) _))
          clear hK K
          try simp only [Act.put, List.setIfInBounds_toArray, List.set_cons_zero, List.set_cons_succ]
          refine wpAnyH_ready (rs := [1]) (by kernel_rfl) (by simp) ?_
          refine AllReadyH.cons rfl (fun K hK => ?_) AllReadyH.nil
          go_simp
          refine hK.out _ _ ?_ (fun hHeld => ?_)
          · (first | exact c3 | exact KST.out _ _ hb7.out | exact KB.out _ hb7.out | exact KB.out _ hb6.out | exact KB.out _ (b_alloc hb6.out (Nat.le_refl _) _) | exact KB.out _ (by repeat first | exact Below.refl _ _ | refine Below.drew ?_ | refine b_alloc ?_ (Nat.le_refl _) _))
          clear hK K
          try simp only [Act.put, List.setIfInBounds_toArray, List.set_cons_zero, List.set_cons_succ]
          refine wpAnyH_ready (rs := [6]) (by kernel_rfl) (by simp) ?_
          refine AllReadyH.cons rfl (fun K hK => ?_) AllReadyH.nil
          (first
            | (refine step_append_lie2 (by rfl) (.tmp 40) (.tmp 44) 35 (by rfl) U.heap.size 62 i0 _ 2 16 Try.underlying35 HI.out hz0 hz1 hz2 rfl (by omega) (.slice (some ⟨U.heap.size, 0, none⟩) 0 0) 0 [] (by rfl) ((HE0.out U (Below.refl _ _)).1) (.slice ba nb bc) (0) (U.heap.size) nb ys (by rfl) (HL.out _ (by repeat first | exact Below.refl _ _ | refine Below.drew ?_ | refine b_alloc ?_ (Nat.le_refl _) _)) HX1.out nb (by omega) (by simp only [maxLen]; omega) (by omega) (by first | omega | (simp [World.drew]; done) | (simp [World.drew]; omega)) ?_
               intro ao6 cap6 w6 hown6' hgrow6' hob6'
               have hown6 := Lib.hid (hown6' : w6.ownsRow U.heap.size 62 2 (.slice ao6 nb cap6) nb ys)
               have hb6 : Hid (Below U.heap.size U w6) := Lib.hid (Below.grown (by repeat first | exact Below.refl _ _ | refine Below.drew ?_ | refine b_alloc ?_ (Nat.le_refl _) _) hgrow6' (by first | omega | (simp [World.drew]; done) | (simp [World.drew]; omega)) (fun q hq => by cases hq; exact Nat.le_refl _))
               skip
               clear hown6' hgrow6' hob6')
            | (refine step_append_lie2 (by rfl) (.tmp 40) (.tmp 44) 35 (by rfl) U.heap.size 62 i0 _ 2 16 Try.underlying35 HI.out hz0 hz1 hz2 rfl (by omega) (.slice (some ⟨U.heap.size, 0, none⟩) 0 0) 0 [] (by rfl) ((HE0.out U (Below.refl _ _)).2 _) (.slice ba nb bc) (0) (U.heap.size) nb ys (by rfl) (HL.out _ (by repeat first | exact Below.refl _ _ | refine Below.drew ?_ | refine b_alloc ?_ (Nat.le_refl _) _)) HX1.out nb (by omega) (by simp only [maxLen]; omega) (by omega) (by first | omega | (simp [World.drew]; done) | (simp [World.drew]; omega)) ?_
               intro ao6 cap6 w6 hown6' hgrow6' hob6'
               have hown6 := Lib.hid (hown6' : w6.ownsRow U.heap.size 62 2 (.slice ao6 nb cap6) nb ys)
               have hb6 : Hid (Below U.heap.size U w6) := Lib.hid (Below.grown (by repeat first | exact Below.refl _ _ | refine Below.drew ?_ | refine b_alloc ?_ (Nat.le_refl _) _) hgrow6' (by first | omega | (simp [World.drew]; done) | (simp [World.drew]; omega)) (fun q hq => by cases hq; exact Nat.le_refl _))
               have hr6 : Hid (Lies w6 (U.heap.size + 1) (U.heap.size + 2) (.slice (some ⟨U.heap.size + 1, 0, none⟩) 1 1) 1 2 [.int .i64 (x0 + s.t), .int .i64 (x2 + 1)]) := Lib.hid (one_lies (cs := #[.int .i64 (x0 + s.t), .int .i64 (x2 + 1)]) ((hgrow6'.block (U.heap.size + 1) (by first | omega | (simp [World.drew]; done) | (simp [World.drew]; omega)) (by simp [Value.ownBlock])).trans (by simpa [World.drew] using heap_alloc_new (U.alloc (.cells #[] 62)) (.cells #[.int .i64 (x0 + s.t), .int .i64 (x2 + 1)] 62))) rfl)
               clear hown6' hgrow6' hob6')
            | (refine step_append_lie2 (by rfl) (.tmp 40) (.tmp 44) 35 (by rfl) U.heap.size 62 i0 _ 2 16 Try.underlying35 HI.out hz0 hz1 hz2 rfl (by omega) (.slice (some ⟨U.heap.size + 1, 0, none⟩) 0 0) 0 [] (by rfl) (by have h := (HE0.out (U.alloc (.cells #[.int .i64 (x0 + s.t), .int .i64 (x2 + 1)] 62)) (below1 _ _)).1; rw [show (U.alloc (.cells #[.int .i64 (x0 + s.t), .int .i64 (x2 + 1)] 62)).heap.size = U.heap.size + 1 by simp] at h; exact h) (.slice ba nb bc) (0) (U.heap.size) nb ys (by rfl) (HL.out _ (by repeat first | exact Below.refl _ _ | refine Below.drew ?_ | refine b_alloc ?_ (Nat.le_refl _) _)) HX1.out nb (by omega) (by simp only [maxLen]; omega) (by omega) (by first | omega | (simp [World.drew]; done) | (simp [World.drew]; omega)) ?_
               intro ao6 cap6 w6 hown6' hgrow6' hob6'
               have hown6 := Lib.hid (hown6' : w6.ownsRow U.heap.size 62 2 (.slice ao6 nb cap6) nb ys)
               have hb6 : Hid (Below U.heap.size U w6) := Lib.hid (Below.grown (by repeat first | exact Below.refl _ _ | refine Below.drew ?_ | refine b_alloc ?_ (Nat.le_refl _) _) hgrow6' (by first | omega | (simp [World.drew]; done) | (simp [World.drew]; omega)) (fun q hq => by cases hq; exact Nat.le_succ _))
               have hr6 : Hid (Lies w6 U.heap.size (U.heap.size + 1) (.slice (some ⟨U.heap.size, 0, none⟩) 1 1) 1 2 [.int .i64 (x0 + s.t), .int .i64 (x2 + 1)]) := Lib.hid (one_lies (cs := #[.int .i64 (x0 + s.t), .int .i64 (x2 + 1)]) ((hgrow6'.block U.heap.size (by first | omega | (simp [World.drew]; done) | (simp [World.drew]; omega)) (by simp [Value.ownBlock])).trans (((below1 (U.alloc (.cells #[.int .i64 (x0 + s.t), .int .i64 (x2 + 1)] 62)) (.cells #[] 62)).block U.heap.size (by simp)).trans (heap_alloc_new U (.cells #[.int .i64 (x0 + s.t), .int .i64 (x2 + 1)] 62)))) rfl)
               clear hown6' hgrow6' hob6'))
          refine hK.out _ _ ?_ (fun hHeld => ?_)
          · (first | exact c3 | exact KST.out _ _ hb7.out | exact KB.out _ hb7.out | exact KB.out _ hb6.out | exact KB.out _ (b_alloc hb6.out (Nat.le_refl _) _) | exact KB.out _ (by repeat first | exact Below.refl _ _ | refine Below.drew ?_ | refine b_alloc ?_ (Nat.le_refl _) _))
          clear hK K
          try simp only [Act.put, List.setIfInBounds_toArray, List.set_cons_zero, List.set_cons_succ]
          refine wpAnyH_ready (rs := [23]) (by kernel_rfl) (by simp) ?_
          refine AllReadyH.cons rfl (fun K hK => ?_) AllReadyH.nil
          (first
            | (refine step_append_lie2 (by rfl) (.tmp 45) (.tmp 61) 35 (by rfl) U.heap.size 62 i0 _ 2 16 Try.underlying35 HI.out hz0 hz1 hz2 rfl (by omega) (.slice ao6 nb cap6) nb ys (by rfl) (owns_later hown6.out (below1 _ _)) (.slice (some ⟨w6.heap.size, 0, none⟩) 1 1) (w6.heap.size) (w6.heap.size + 1) 1 [.int .i64 (x0 + s.t), .int .i64 (x2 + 1)] (by rfl) (one_lies (cs := #[.int .i64 (x0 + s.t), .int .i64 (x2 + 1)]) (heap_alloc_new w6 _) rfl) (bk_one ⟨x0 + s.t, x2 + 1⟩) (nb + 1) rfl (by simp only [maxLen]; omega) (by omega) (by have h := hb6.out.size; first | omega | (simp [World.drew]; done) | (simp [World.drew]; omega)) ?_
               intro ao7 cap7 w7 hown7' hgrow7' hob7'
               have hown7 := Lib.hid hown7'
               have hb7 : Hid (Below U.heap.size U w7) := Lib.hid (Below.grown ((b_alloc hb6.out (Nat.le_refl _) _).drew) hgrow7' (by have h := hb6.out.size; first | omega | (simp [World.drew]; done) | (simp [World.drew]; omega)) (fun q hq => (owns_block (hown6.out) q hq).1))
               obtain ⟨hu7, hf7⟩ := KC.out _ hb7.out
               clear hown7' hgrow7' hob7')
            | (refine step_append_lie2 (by rfl) (.tmp 45) (.tmp 61) 35 (by rfl) U.heap.size 62 i0 _ 2 16 Try.underlying35 HI.out hz0 hz1 hz2 rfl (by omega) (.slice ao6 nb cap6) nb ys (by rfl) (owns_later hown6.out (below1 _ _)) (.slice (some ⟨w6.heap.size, 0, none⟩) 1 1) (w6.heap.size) (w6.heap.size + 1) 1 [.int .i64 (x0 + s.t), .int .i64 (x2 + 1)] (by rfl) (one_lies (cs := #[.int .i64 (x0 + s.t), .int .i64 (x2 + 1)]) (heap_alloc_new w6 _) rfl) (bk_one ⟨x0 + s.t, x2 + 1⟩) (nb + 1) rfl (by simp only [maxLen]; omega) (by omega) (by have h := hb6.out.size; first | omega | (simp [World.drew]; done) | (simp [World.drew]; omega)) ?_
               intro ao7 cap7 w7 hown7' hgrow7' hob7'
               have hown7 := Lib.hid hown7'
               have hb7 : Hid (Below U.heap.size U w7) := Lib.hid (Below.grown (b_alloc hb6.out (Nat.le_refl _) _) hgrow7' (by have h := hb6.out.size; first | omega | (simp [World.drew]; done) | (simp [World.drew]; omega)) (fun q hq => (owns_block (hown6.out) q hq).1))
               obtain ⟨hu7, hf7⟩ := KC.out _ hb7.out
               clear hown7' hgrow7' hob7')
            | (refine step_append_lie2 (by rfl) (.tmp 45) (.tmp 61) 35 (by rfl) U.heap.size 62 i0 _ 2 16 Try.underlying35 HI.out hz0 hz1 hz2 rfl (by omega) (.slice ao6 nb cap6) nb ys (by rfl) (hown6.out) (.slice (some ⟨U.heap.size + 1, 0, none⟩) 1 1) (U.heap.size + 1) (U.heap.size + 2) 1 [.int .i64 (x0 + s.t), .int .i64 (x2 + 1)] (by rfl) (hr6.out) (bk_one ⟨x0 + s.t, x2 + 1⟩) (nb + 1) rfl (by simp only [maxLen]; omega) (by omega) (by have h := hb6.out.size; first | omega | (simp [World.drew]; done) | (simp [World.drew]; omega)) ?_
               intro ao7 cap7 w7 hown7' hgrow7' hob7'
               have hown7 := Lib.hid hown7'
               have hb7 : Hid (Below U.heap.size U w7) := Lib.hid (Below.grown (hb6.out) hgrow7' (by have h := hb6.out.size; first | omega | (simp [World.drew]; done) | (simp [World.drew]; omega)) (fun q hq => (owns_block (hown6.out) q hq).1))
               obtain ⟨hu7, hf7⟩ := KC.out _ hb7.out
               clear hown7' hgrow7' hob7')
            | (refine step_append_lie2 (by rfl) (.tmp 45) (.tmp 61) 35 (by rfl) U.heap.size 62 i0 _ 2 16 Try.underlying35 HI.out hz0 hz1 hz2 rfl (by omega) (.slice ao6 nb cap6) nb ys (by rfl) (hown6.out) (.slice (some ⟨U.heap.size + 1, 0, none⟩) 1 1) (U.heap.size + 1) (U.heap.size + 2) 1 [.int .i64 (x0 + s.t), .int .i64 (x2 + 1)] (by rfl) (hr6.out) (bk_one ⟨x0 + s.t, x2 + 1⟩) (nb + 1) rfl (by simp only [maxLen]; omega) (by omega) (by have h := hb6.out.size; first | omega | (simp [World.drew]; done) | (simp [World.drew]; omega)) ?_
               intro ao7 cap7 w7 hown7' hgrow7' hob7'
               have hown7 := Lib.hid hown7'
               have hb7 : Hid (Below U.heap.size U w7) := Lib.hid (Below.grown (hb6.out.drew) hgrow7' (by have h := hb6.out.size; first | omega | (simp [World.drew]; done) | (simp [World.drew]; omega)) (fun q hq => (owns_block (hown6.out) q hq).1))
               obtain ⟨hu7, hf7⟩ := KC.out _ hb7.out
               clear hown7' hgrow7' hob7')
            | (refine step_append_lie2 (by rfl) (.tmp 45) (.tmp 61) 35 (by rfl) U.heap.size 62 i0 _ 2 16 Try.underlying35 HI.out hz0 hz1 hz2 rfl (by omega) (.slice ao6 nb cap6) nb ys (by rfl) (hown6.out) (.slice (some ⟨U.heap.size, 0, none⟩) 1 1) (U.heap.size) (U.heap.size + 1) 1 [.int .i64 (x0 + s.t), .int .i64 (x2 + 1)] (by rfl) (hr6.out) (bk_one ⟨x0 + s.t, x2 + 1⟩) (nb + 1) rfl (by simp only [maxLen]; omega) (by omega) (by have h := hb6.out.size; first | omega | (simp [World.drew]; done) | (simp [World.drew]; omega)) ?_
               intro ao7 cap7 w7 hown7' hgrow7' hob7'
               have hown7 := Lib.hid hown7'
               have hb7 : Hid (Below U.heap.size U w7) := Lib.hid (Below.grown (hb6.out) hgrow7' (by have h := hb6.out.size; first | omega | (simp [World.drew]; done) | (simp [World.drew]; omega)) (fun q hq => (owns_block (hown6.out) q hq).1))
               obtain ⟨hu7, hf7⟩ := KC.out _ hb7.out
               clear hown7' hgrow7' hob7')
            | (refine step_append_lie2 (by rfl) (.tmp 45) (.tmp 61) 35 (by rfl) U.heap.size 62 i0 _ 2 16 Try.underlying35 HI.out hz0 hz1 hz2 rfl (by omega) (.slice ao6 nb cap6) nb ys (by rfl) (hown6.out) (.slice (some ⟨U.heap.size, 0, none⟩) 1 1) (U.heap.size) (U.heap.size + 1) 1 [.int .i64 (x0 + s.t), .int .i64 (x2 + 1)] (by rfl) (hr6.out) (bk_one ⟨x0 + s.t, x2 + 1⟩) (nb + 1) rfl (by simp only [maxLen]; omega) (by omega) (by have h := hb6.out.size; first | omega | (simp [World.drew]; done) | (simp [World.drew]; omega)) ?_
               intro ao7 cap7 w7 hown7' hgrow7' hob7'
               have hown7 := Lib.hid hown7'
               have hb7 : Hid (Below U.heap.size U w7) := Lib.hid (Below.grown (hb6.out.drew) hgrow7' (by have h := hb6.out.size; first | omega | (simp [World.drew]; done) | (simp [World.drew]; omega)) (fun q hq => (owns_block (hown6.out) q hq).1))
               obtain ⟨hu7, hf7⟩ := KC.out _ hb7.out
               clear hown7' hgrow7' hob7'))
          refine hK.out _ _ ?_ (fun hHeld => ?_)
          · (first | exact c3 | exact KST.out _ _ hb7.out | exact KB.out _ hb7.out | exact KB.out _ hb6.out | exact KB.out _ (b_alloc hb6.out (Nat.le_refl _) _) | exact KB.out _ (by repeat first | exact Below.refl _ _ | refine Below.drew ?_ | refine b_alloc ?_ (Nat.le_refl _) _))
          clear hK K
          try simp only [Act.put, List.setIfInBounds_toArray, List.set_cons_zero, List.set_cons_succ]
          refine wpAnyH_takeE (i := 24) (d := some 63) (v := ?_) rfl rfl (by kernel_rfl) (by kernel_rfl) (by kernel_rfl) (fun _ _ _ h => h) (Or.inl ⟨by rfl, ?_⟩) (by assumption) ?_
          rotate_left
          · intro w hSw
            (try dsimp only at hSw)
            go_simp
            try (with_reducible rfl)
          simp only [Act.put, List.setIfInBounds_toArray, List.set_cons_zero, List.set_cons_succ]
          refine wpAnyH_takeE (i := 25) (d := some 64) (v := ?_) rfl rfl (by kernel_rfl) (by kernel_rfl) (by kernel_rfl) (fun _ _ _ h => h) (Or.inl ⟨by rfl, ?_⟩) (by assumption) ?_
          rotate_left
          · intro w hSw
            (try dsimp only at hSw)
            go_simp
            try (with_reducible rfl)
          simp only [Act.put, List.setIfInBounds_toArray, List.set_cons_zero, List.set_cons_succ]
          refine wpAnyH_ready (rs := [26]) (by kernel_rfl) (by simp) ?_
          refine AllReadyH.cons rfl (fun K hK => ?_) AllReadyH.nil
          go_simp
          refine hK.out _ _ ?_ (fun hHeld => ?_)
          · (first | exact c3 | exact KST.out _ _ hb7.out | exact KB.out _ hb7.out | exact KB.out _ hb6.out | exact KB.out _ (b_alloc hb6.out (Nat.le_refl _) _) | exact KB.out _ (by repeat first | exact Below.refl _ _ | refine Below.drew ?_ | refine b_alloc ?_ (Nat.le_refl _) _))
          clear hK K
          try simp only [Act.put, List.setIfInBounds_toArray, List.set_cons_zero, List.set_cons_succ]
          refine wpAnyH_done (by kernel_rfl) ?_ _
          refine NoPanic.normal ?_
          have hk7 := HKU.out.later hb7.out
          obtain ⟨t1, t2⟩ := hk7.backed (w0 := U) (ao := ao7) (cap := cap7) (en' := bk ++ [⟨x0 + s.t, x2 + 1⟩]) (GrowS.of_below hb7.out) HKU.out.lt (by
            have := ORow.of_owns hown7.out
            rw [HYS.out] at this
            simpa [HNB.out, Bk.cells] using this) (fun g hg => (World.ownsRow.lt hown7.out g (by rw [own_ob]; exact hg)).1)
          rw [show (bk ++ [(⟨x0 + s.t, x2 + 1⟩ : Bk)]).length = nb + 1 by rw [HNB.out]; simp] at t1 t2
          obtain ⟨Y, hY⟩ : ∃ Y, Y = w7.setCell ⟨H, 5, none⟩ (.slice ao7 (nb + 1) cap7) := ⟨_, rfl⟩
          rw [← hY] at t1 t2
          have z4 := t1.c4
          rw [show ((⟨x0, x1 - 1, x2 + 1⟩ : Wn) :: l).length = n by rw [HN.out]; rfl] at z4
          have zf := t1.fz 4
          have T1 := Lib.hid t1
          have T2 := Lib.hid t2
          have HY := Lib.hid hY
          clear t1 t2 hY hk7
          rw [← HY.out]
          obtain ⟨aS, haS⟩ : ∃ aS : Option Addr, (if capL = 1 then some (⟨G, 0, none⟩ : Addr) else some ⟨G, 3, none⟩) = aS := ⟨_, rfl⟩
          have HAS := Lib.hid haS
          clear haS
          go_upto_region 10 with fail
          rw [HAS.out]
          go_wp2_with fail
          go_ret
          obtain ⟨q1, q2⟩ := T1.out.cutL (n := n) (a' := aS) (by rw [HN.out]; rfl) (by simpa using HAS.out)
          rw [HE.out]
          have hgr := HGU.out.trans (T2.out.trans q2)
          rw [HBA.out] at hgr
          first | exact ⟨_, rfl, ⟨_, _, _, _, q1, rfl⟩, hgr⟩ | exact ⟨rfl, _, ⟨_, _, _, _, q1, rfl⟩, hgr⟩
    · have t0 : ((x1 - 1) == 0) = false := by simpa using hz
      have HE : Hid (useB s.t ⟨f, (⟨x0, x1, x2⟩ : Wn) :: l, bk, st⟩ = ⟨f, ⟨x0, x1 - 1, x2 + 1⟩ :: l, bk, st⟩) := Lib.hid (by unfold useB; dsimp only; rw [if_neg hz])
      go_wp2_with fail
      go_ret
      rw [HE.out]
      have hfin : RgAt H s ⟨f, ⟨x0, x1 - 1, x2 + 1⟩ :: l, bk, st⟩ U (Rl H (some ⟨G, 0, none⟩) ea) := ⟨_, _, _, _, HKU.out, rfl⟩
      first | exact ⟨_, rfl, hfin, HGU.out⟩ | exact ⟨rfl, _, hfin, HGU.out⟩
end Go.Proofs.Ytoofkeeoolgpdaa
