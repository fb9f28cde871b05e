/- The document's budget: Done. -/
import Derived.Test.YtoofkeeoolgpdaaChunkS
import Derived.Test.YtoofkeeoolgpdaaChunkF
import Derived.Deep.CutRange
import Derived.Deep.CutBlock
import Derived.Test.YtoofkeeoolgpdaaHand
namespace Go.Proofs.Ytoofkeeoolgpdaa
open Go.ChangeShapes Go.WideShapes Go.ChangeAt Go.RowKit
set_option linter.unusedVariables false
set_option linter.unusedSimpArgs false

theorem orow_atT {w : World} {T : TypeId} {g off n c : Nat} {l : List Wn} (h : ORow w T 3 (.slice (some ⟨g, off, none⟩) n c) n (l.flatMap Wn.cells)) {k : Nat} {x : Wn} (hx : l[k]? = some x) (hk : k < n) : w.cell? ⟨g, off + k * 3, none⟩ = some (.int .i64 x.at_) ∧ w.cell? ⟨g, off + k * 3 + 1, none⟩ = some (.int .i64 x.len) ∧ w.cell? ⟨g, off + k * 3 + 2, none⟩ = some (.int .i64 x.part) := by
  obtain ⟨g', off', e, hc, hf, _⟩ := h.at_ (by omega)
  cases e
  refine ⟨?_, ?_, ?_⟩
  · have := hc (k * 3 + 0) _ (flat_at Wn.cells 3 (fun _ => rfl) l k 0 x hx (by omega)); simpa [Nat.add_assoc] using this
  · have := hc (k * 3 + 1) _ (flat_at Wn.cells 3 (fun _ => rfl) l k 1 x hx (by omega)); simpa [Nat.add_assoc] using this
  · have := hc (k * 3 + 2) _ (flat_at Wn.cells 3 (fun _ => rfl) l k 2 x hx (by omega)); simpa [Nat.add_assoc] using this
theorem sumLeft_takeR {l : List Wn} (h : ∀ x ∈ l, 1 ≤ x.len) (k : Nat) : 0 ≤ sumLeft (l.take k) ∧ sumLeft (l.take k) ≤ sumLeft l := by
  have e := sumLeft_append (l.take k) (l.drop k)
  rw [List.take_append_drop] at e
  have h1 := sumLeft_len (l.drop k) (fun x hx => h x (List.mem_of_mem_drop hx))
  have h2 := sumLeft_len (l.take k) (fun x hx => h x (List.mem_of_mem_take hx))
  omega
theorem usedBacks_app (T : Int) (l m : List Wn) : usedBacks T (l ++ m) = usedBacks T l ++ usedBacks T m := by simp [usedBacks]
theorem usedBacks_le (T : Int) (l : List Wn) : (usedBacks T l).length ≤ l.length := by
  unfold usedBacks
  rw [List.length_map]
  exact List.length_filter_le _ _
set_option maxRecDepth 100000 in
set_option maxHeartbeats 8000000 in
theorem rdone_any (w : World) (H : Nat) (S : Nat → Prop) (s : Sv) (b : Bd) (h : RgAt H s b w S) (hs : okSv s = true) (hok : BdOk s.c s.t 1099511627776 b) (hbn : ∀ x ∈ b.live, (0 ≤ x.at_ ∧ x.at_ ≤ 1099511627776) ∧ (1 ≤ x.len ∧ x.len ≤ 1000) ∧ (0 ≤ x.part ∧ x.part ≤ 1000)) :
    Calls Try.prog 15 #[.pointer (some ⟨H, 0, none⟩)] w fun e w' => ∃ S', e = .returned (.tuple #[]) ∧ RgAt H s (doneB s.t b) w' S' ∧ GrowS S S' w w' := by
  obtain ⟨la, ea, lc, ec, hk, rfl⟩ := h
  have hsb : 1 ≤ s.c ∧ s.c ≤ s.t ∧ s.t ≤ 1000 := by simpa [okSv] using hs
  have hbd := hok.bounds
  have hall := hok.all
  have hf0 := hok.f0
  obtain ⟨f, lv, bk, st⟩ := b
  dsimp only at hk hbd hbn hall hf0
  obtain ⟨i0, hi, hz0, hz1, hz2⟩ := info_parts Try.infoRb
  have HI := Lib.hid hi
  obtain ⟨n, hn⟩ : ∃ n, n = lv.length := ⟨_, rfl⟩
  have hnn : n ≤ 1000 := by omega
  have hbb : bk.length ≤ 1000 := by omega
  have HN := Lib.hid hn
  have HBN := Lib.hid hbn
  have HSUM : Hid (0 ≤ f ∧ f + sumLeft lv ≤ 1000) := Lib.hid ⟨hf0, by omega⟩
  have HBB := Lib.hid hbb
  have HDEF : Hid (doneB s.t ⟨f, lv, bk, st⟩ = ⟨f + sumLeft lv, [], bk ++ usedBacks s.t lv, st⟩) := Lib.hid rfl
  have HS := Lib.hid hsb
  have H0 : Hid (CrB w H s (f + sumLeft (lv.take 0)) st la lc lv ea ec (bk ++ usedBacks s.t (lv.take 0))) := Lib.hid (by simpa [sumLeft, usedBacks] using hk)
  have HLT : Hid (H < w.heap.size) := Lib.hid (lt_of_block hk.box)
  clear hk hn hbd hall hok hs hi hf0 hbn
  go_enter Try.func15, Try.ntmps15
  go_wp2_with fail
  go_loopw [2] (fun i wr => ∃ (k bc : Nat) (ba : Option Addr), k ≤ n ∧ i = .int .i64 k ∧ Hid (CrB wr H s (f + sumLeft (lv.take k)) st la lc lv ba bc (bk ++ usedBacks s.t (lv.take k))) ∧ Hid (GrowS (Rl H la ea) (Rl H la ba) w wr)) (fun i _ => n - (intOf i).toNat)
  case atStart => exact ⟨0, ec, ea, by omega, rfl, H0, Lib.hid (GrowS.of_below (Below.refl _ _))⟩
  case round =>
    obtain ⟨k, bc, ba, hk, rfl, HC, HG⟩ := hrel
    have b4 := HC.out.c4
    rw [← HN.out] at b4
    by_cases hlt : k < n
    · have tk : decide ((k : Int) < (n : Int)) = true := by simpa using hlt
      obtain ⟨x, hx⟩ : ∃ x, lv[k]? = some x := ⟨_, List.getElem?_eq_getElem (by rw [← HN.out]; exact hlt)⟩
      have hoe := HC.out.l
      rw [← HN.out] at hoe
      obtain ⟨g, off, hea, _⟩ := hoe.at_ (by omega)
      rw [hea] at hoe
      obtain ⟨y0, y1, y2⟩ := orow_atT hoe hx hlt
      have l0 : (0 : Int) ≤ (k : Int) := by omega
      have l1 : (k : Int) < (n : Int) := by omega
      have hts : lv.take (k + 1) = lv.take k ++ [x] := by rw [List.take_add_one, hx]; rfl
      obtain ⟨m1, m2, m3⟩ := HBN.out x (List.mem_of_getElem? hx)
      have hc1 := sumLeft_takeR (fun y hy => (HBN.out y hy).2.1.1) (l := lv) k
      have hc2 := HSUM.out
      obtain ⟨x0, x1, x2⟩ := x
      dsimp only at y0 y1 y2 m1 m2 m3
      obtain ⟨fc, hfc⟩ : ∃ fc, fc = f + sumLeft (lv.take k) := ⟨_, rfl⟩
      obtain ⟨bks, hbks⟩ : ∃ bks, bks = bk ++ usedBacks s.t (lv.take k) := ⟨_, rfl⟩
      have hbl : bks.length ≤ 2000 := by
        have h1 := usedBacks_le s.t (lv.take k)
        have h2 : (lv.take k).length ≤ lv.length := by rw [List.length_take]; omega
        rw [hbks, List.length_append]
        have := HBB.out
        have := HN.out
        omega
      rw [← hfc, ← hbks] at HC
      have HFS : Hid (f + sumLeft (lv.take (k + 1)) = fc + x1) := Lib.hid (by rw [hts, sumLeft_append, hfc]; simp [sumLeft]; omega)
      have HUS : Hid (bk ++ usedBacks s.t (lv.take (k + 1)) = bks ++ usedBacks s.t [⟨x0, x1, x2⟩]) := Lib.hid (by rw [hts, usedBacks_app, hbks, List.append_assoc])
      have e1 : IntKind.i64.wrap (fc + x1) = fc + x1 := IntWalk.i64_in _ (by omega)
      have e3 : IntKind.i64.wrap (x0 + s.t) = x0 + s.t := IntWalk.i64_in _ (by omega)
      obtain ⟨V, hV⟩ : ∃ V, V = wr.alloc (.cells #[.int .i64 x0, .int .i64 x1, .int .i64 x2] 63) := ⟨_, rfl⟩
      obtain ⟨E, hE⟩ : ∃ E, E = wr.heap.size := ⟨_, rfl⟩
      have hbV : Below wr.heap.size wr V := by rw [hV]; exact below1 _ _
      have hEV : V.heap[E]? = some (.cells #[.int .i64 x0, .int .i64 x1, .int .i64 x2] 63 (0, 0)) := by rw [hV, hE]; exact heap_alloc_new _ _
      have hkV := HC.out.later hbV
      have v3 := hkV.c3
      have vf := hkV.fz 3
      have v1 : V.cell? ⟨E, 1, none⟩ = some (.int .i64 x1) := cell_in hEV rfl
      have hEH : E ≠ H := fun e => by have := lt_of_block HC.out.box; omega
      have hHE : H ≠ E := fun e => hEH e.symm
      have HV := Lib.hid hV
      have HE := Lib.hid hE
      have HEV := Lib.hid hEV
      have HBV := Lib.hid hbV
      have HKV := Lib.hid hkV
      have hla := hea
      have HLA := Lib.hid hla
      have b4' := b4
      rw [hea] at b4'
      clear hV hE hEV hbV hkV hx hts hc1 hc2 hfc hbks hoe hea hla b4
      rw [HLA.out]
      go_upto_region 4 with fail
      rw [← HLA.out, ← HV.out, ← HE.out]
      go_region
      obtain ⟨U, hU⟩ : ∃ U, U = (V.setCell ⟨H, 3, none⟩ (.int .i64 (fc + x1))).drew := ⟨_, rfl⟩
      have hBH : But H V U := by rw [hU]; exact ((But.refl H V).set 3 _).drew
      have hkU : CrB U H s (fc + x1) st la lc lv ba bc bks := HKV.out.boxed (by rw [hU]; exact set_at HKV.out.box) (fun q hq hqn => hBH.block q hq hqn)
      have hEU := hBH.at HEV.out hEH
      have c31 : U.cell? ⟨E, 0, none⟩ = some (.int .i64 x0) := cell_in hEU rfl
      have c32 : U.cell? ⟨H, 2, none⟩ = some (.int .i64 s.t) := hkU.c2
      have c33 : U.cell? ⟨E, 2, none⟩ = some (.int .i64 x2) := cell_in hEU rfl
      have hElt : E < U.heap.size := lt_of_block hEU
      have HU := Lib.hid hU
      have HKU := Lib.hid hkU
      have HGU : Hid (GrowS (Rl H la ea) (Rl H la ba) w U) := Lib.hid (HG.out.trans ((GrowS.of_below HBV.out).trans (grow_but hBH (.inl rfl))))
      clear hU hkU hBH hEU v1 v3 vf
      rw [← HU.out]
      by_cases q : 0 < x2
      · have t0 : decide (0 < x2) = true := decide_eq_true q
        have HUB : Hid (usedBacks s.t [⟨x0, x1, x2⟩] = [⟨x0 + s.t, x2⟩]) := Lib.hid (by simp [usedBacks, q])
        have KSV : ∀ (W : World) (v : Value), Below U.heap.size U W → (W.setCell ⟨H, 5, none⟩ v).cell? ⟨E, 0, none⟩ = some (.int .i64 x0) ∧ (W.setCell ⟨H, 5, none⟩ v).cell? ⟨H, 2, none⟩ = some (.int .i64 s.t) ∧ (W.setCell ⟨H, 5, none⟩ v).cell? ⟨E, 2, none⟩ = some (.int .i64 x2) := fun W v hW => by
          have hB : But H W (W.setCell ⟨H, 5, none⟩ v) := (But.refl H W).set 5 _
          have hEW : E < W.heap.size := Nat.lt_of_lt_of_le hElt hW.size
          exact ⟨(World.cell?_of_block (hB.block E hEW hEH)).trans (cell_later c31 hW), cell_in (set_at (HKU.out.later hW).box) (by rfl), (World.cell?_of_block (hB.block E hEW hEH)).trans (cell_later c33 hW)⟩
        go_upto_region 6 with fail
        obtain ⟨nb, hnb⟩ : ∃ nb, nb = (bks).length := ⟨_, rfl⟩
        obtain ⟨ys, hys⟩ : ∃ ys, ys = (bks).flatMap Bk.cells := ⟨_, rfl⟩
        have cb5 := HKU.out.c5
        rw [← hnb] at cb5
        have hr0 := HKU.out.e
        rw [← hnb, ← hys] at hr0
        have hr1 : Lies U 0 U.heap.size (.slice ba nb bc) nb 2 ys := hr0.lies (fun g hg => ⟨Nat.zero_le _, hr0.lt g hg⟩)
        have HX1 : Hid (∀ u ∈ ys, u.oneCell' = true) := Lib.hid (by rw [hys]; exact flat_one Bk.cells bk_one _)
        have HL : Hid (∀ W, Below U.heap.size U W → Lies W 0 U.heap.size (.slice ba nb bc) nb 2 ys) := Lib.hid (fun W hW => hr1.keep (SameIn.of_below hW (Nat.le_refl _)))
        have HE0 : Hid (∀ W, Below U.heap.size U W → (W.alloc (.cells #[] 62)).ownsRow U.heap.size 62 2 (.slice (some ⟨W.heap.size, 0, none⟩) 0 0) 0 [] ∧ ∀ o, ((W.alloc (.cells #[] 62)).alloc o).ownsRow U.heap.size 62 2 (.slice (some ⟨W.heap.size, 0, none⟩) 0 0) 0 []) := Lib.hid (fun W hW => by
          have h1 : (W.alloc (.cells #[] 62)).ownsRow U.heap.size 62 2 (.slice (some ⟨W.heap.size, 0, none⟩) 0 0) 0 [] := ⟨by simp, .inr ⟨W.heap.size, 0, #[], rfl, hW.size, heap_alloc_new _ _, Nat.le_refl _, by simp [maxLen], by simp, by simp⟩⟩
          exact ⟨h1, fun o => owns_later h1 (below1 _ _)⟩)
        have KB : Hid (∀ W, Below U.heap.size U W → W.cell? ⟨E, 0, none⟩ = some (.int .i64 x0) ∧ W.cell? ⟨H, 2, none⟩ = some (.int .i64 s.t) ∧ W.cell? ⟨E, 2, none⟩ = some (.int .i64 x2)) := Lib.hid (fun W hW => ⟨cell_later c31 hW, cell_later c32 hW, cell_later c33 hW⟩)
        have KST : Hid (∀ W v, Below U.heap.size U W → (W.setCell ⟨H, 5, none⟩ v).cell? ⟨E, 0, none⟩ = some (.int .i64 x0) ∧ (W.setCell ⟨H, 5, none⟩ v).cell? ⟨H, 2, none⟩ = some (.int .i64 s.t) ∧ (W.setCell ⟨H, 5, none⟩ v).cell? ⟨E, 2, none⟩ = some (.int .i64 x2)) := Lib.hid (fun W v hW => KSV W v hW)
        have KC : Hid (∀ W, Below U.heap.size U W → W.cell? ⟨H, 5, none⟩ = some (.slice ba nb bc) ∧ W.frozen? ⟨H, 5, none⟩ = false) := Lib.hid (fun W hW => ⟨by rw [hnb]; exact (HKU.out.later hW).c5, (HKU.out.later hW).fz 5⟩)
        have hca : ∀ o, (U.alloc o).cell? ⟨H, 5, none⟩ = some (.slice ba nb bc) := fun o => (KC.out _ (below1 _ _)).1
        have hcb : ∀ o o', ((U.alloc o).alloc o').cell? ⟨H, 5, none⟩ = some (.slice ba nb bc) := fun o o' => (KC.out _ (b_alloc (below1 _ _) (Nat.le_refl _) _)).1
        have c3 : U.cell? ⟨E, 0, none⟩ = some (.int .i64 x0) ∧ U.cell? ⟨H, 2, none⟩ = some (.int .i64 s.t) ∧ U.cell? ⟨E, 2, none⟩ = some (.int .i64 x2) := ⟨c31, c32, c33⟩
        have HNB := Lib.hid hnb
        have HYS := Lib.hid hys
        clear hr0 hr1 hnb hys KSV
        have hnb4 : nb ≤ 2000 := by rw [HNB.out]; exact hbl
        refine wp_region_noPanic ?_
        refine wp_region_held_drew (S := fun W => W.cell? ⟨E, 0, none⟩ = some (.int .i64 x0) ∧ W.cell? ⟨H, 2, none⟩ = some (.int .i64 s.t) ∧ W.cell? ⟨E, 2, none⟩ = some (.int .i64 x2)) (by kernel_rfl) ?_ (fun hHeld => ?_)
        · (first | exact c3 | exact KST.out _ _ hb7.out | exact KB.out _ hb7.out | exact KB.out _ hb6.out | exact KB.out _ (b_alloc hb6.out (Nat.le_refl _) _) | exact KB.out _ (by repeat first | exact Below.refl _ _ | refine Below.drew ?_ | refine b_alloc ?_ (Nat.le_refl _) _))
        refine wpAnyH_takeE (i := 0) (d := some 33) (v := ?_) rfl rfl (by kernel_rfl) (by kernel_rfl) (by kernel_rfl) (fun _ _ _ h => h) (Or.inl ⟨by rfl, ?_⟩) (by assumption) ?_
        rotate_left
        · intro w hSw
          (try dsimp only at hSw)
          go_simp
          try (with_reducible rfl)
        simp only [Act.put, List.setIfInBounds_toArray, List.set_cons_zero, List.set_cons_succ]
        refine wpAnyH_takeE (i := 2) (d := some 35) (v := ?_) rfl rfl (by kernel_rfl) (by kernel_rfl) (by kernel_rfl) (fun _ _ _ h => h) (Or.inl ⟨by rfl, ?_⟩) (by assumption) ?_
        rotate_left
        · intro w hSw
          (try dsimp only at hSw)
          go_simp
          try (with_reducible rfl)
        simp only [Act.put, List.setIfInBounds_toArray, List.set_cons_zero, List.set_cons_succ]
        refine wpAnyH_takeE (i := 3) (d := some 36) (v := ?_) rfl rfl (by kernel_rfl) (by kernel_rfl) (by kernel_rfl) (fun _ _ _ h => h) (Or.inl ⟨by rfl, ?_⟩) (by assumption) ?_
        rotate_left
        · intro w hSw
          (try dsimp only at hSw)
          go_simp
          try (with_reducible rfl)
        simp only [Act.put, List.setIfInBounds_toArray, List.set_cons_zero, List.set_cons_succ]
        refine wpAnyH_takeE (i := 4) (d := some 37) (v := ?_) rfl rfl (by kernel_rfl) (by kernel_rfl) (by kernel_rfl) (fun _ _ _ h => h) (Or.inl ⟨by rfl, ?_⟩) (by assumption) ?_
        rotate_left
        · intro w hSw
          (try dsimp only at hSw)
          go_simp
          try (with_reducible rfl)
        simp only [Act.put, List.setIfInBounds_toArray, List.set_cons_zero, List.set_cons_succ]
        refine wpAnyH_takeE (i := 7) (d := some 40) (v := ?_) rfl rfl (by kernel_rfl) (by kernel_rfl) (by kernel_rfl) (fun _ _ _ h => h) (Or.inl ⟨by rfl, ?_⟩) (by assumption) ?_
        rotate_left
        · intro w hSw
          (try dsimp only at hSw)
          go_simp
          try (with_reducible rfl)
        simp only [Act.put, List.setIfInBounds_toArray, List.set_cons_zero, List.set_cons_succ]
        refine wpAnyH_takeE (i := 8) (d := some 41) (v := ?_) rfl rfl (by kernel_rfl) (by kernel_rfl) (by kernel_rfl) (fun _ _ _ h => h) (Or.inl ⟨by rfl, ?_⟩) (by assumption) ?_
        rotate_left
        · intro w hSw
          (try dsimp only at hSw)
          go_simp
          try (with_reducible rfl)
        simp only [Act.put, List.setIfInBounds_toArray, List.set_cons_zero, List.set_cons_succ]
        refine wpAnyH_takeE (i := 9) (d := some 42) (v := ?_) rfl rfl (by kernel_rfl) (by kernel_rfl) (by kernel_rfl) (fun _ _ _ h => h) (Or.inl ⟨by rfl, ?_⟩) (by assumption) ?_
        rotate_left
        · intro w hSw
          (try dsimp only at hSw)
          go_simp
          try (with_reducible rfl)
        simp only [Act.put, List.setIfInBounds_toArray, List.set_cons_zero, List.set_cons_succ]
        refine wpAnyH_takeE (i := 10) (d := some 43) (v := ?_) rfl rfl (by kernel_rfl) (by kernel_rfl) (by kernel_rfl) (fun _ _ _ h => h) (Or.inl ⟨by rfl, ?_⟩) (by assumption) ?_
        rotate_left
        · intro w hSw
          (try dsimp only at hSw)
          go_simp
          try (with_reducible rfl)
        simp only [Act.put, List.setIfInBounds_toArray, List.set_cons_zero, List.set_cons_succ]
        refine wpAnyH_takeE (i := 11) (d := some 44) (v := ?_) rfl rfl (by kernel_rfl) (by kernel_rfl) (by kernel_rfl) (fun _ _ _ h => h) (Or.inl ⟨by rfl, ?_⟩) (by assumption) ?_
        rotate_left
        · intro w hSw
          (try dsimp only at hSw)
          go_simp
          try (with_reducible rfl)
        simp only [Act.put, List.setIfInBounds_toArray, List.set_cons_zero, List.set_cons_succ]
        refine wpAnyH_takeE (i := 12) (d := some 45) (v := ?_) rfl rfl (by kernel_rfl) (by kernel_rfl) (by kernel_rfl) (fun _ _ _ h => h) (Or.inl ⟨by rfl, ?_⟩) (by assumption) ?_
        rotate_left
        · intro w hSw
          (try dsimp only at hSw)
          go_simp
          try (with_reducible rfl)
        simp only [Act.put, List.setIfInBounds_toArray, List.set_cons_zero, List.set_cons_succ]
        refine wpAnyH_takeE (i := 13) (d := some 46) (v := ?_) rfl rfl (by kernel_rfl) (by kernel_rfl) (by kernel_rfl) (fun _ _ _ h => h) (Or.inl ⟨by rfl, ?_⟩) (by assumption) ?_
        rotate_left
        · intro w hSw
          (try dsimp only at hSw)
          go_simp
          try (with_reducible rfl)
        simp only [Act.put, List.setIfInBounds_toArray, List.set_cons_zero, List.set_cons_succ]
        refine wpAnyH_takeE (i := 14) (d := some 47) (v := ?_) rfl rfl (by kernel_rfl) (by kernel_rfl) (by kernel_rfl) (fun _ _ _ h => h) (Or.inl ⟨by rfl, ?_⟩) (by assumption) ?_
        rotate_left
        · intro w hSw
          (try dsimp only at hSw)
          go_simp
          try (with_reducible rfl)
        simp only [Act.put, List.setIfInBounds_toArray, List.set_cons_zero, List.set_cons_succ]
        refine wpAnyH_takeE (i := 15) (d := some 48) (v := ?_) rfl rfl (by kernel_rfl) (by kernel_rfl) (by kernel_rfl) (fun _ _ _ h => h) (Or.inl ⟨by rfl, ?_⟩) (by assumption) ?_
        rotate_left
        · intro w hSw
          (try dsimp only at hSw)
          go_simp
          try (with_reducible rfl)
        simp only [Act.put, List.setIfInBounds_toArray, List.set_cons_zero, List.set_cons_succ]
        refine wpAnyH_takeE (i := 16) (d := some 49) (v := ?_) rfl rfl (by kernel_rfl) (by kernel_rfl) (by kernel_rfl) (fun _ _ _ h => h) (Or.inl ⟨by rfl, ?_⟩) (by assumption) ?_
        rotate_left
        · intro w hSw
          (try dsimp only at hSw)
          go_simp
          try (with_reducible rfl)
        simp only [Act.put, List.setIfInBounds_toArray, List.set_cons_zero, List.set_cons_succ]
        refine wpAnyH_takeE (i := 17) (d := some 50) (v := ?_) rfl rfl (by kernel_rfl) (by kernel_rfl) (by kernel_rfl) (fun _ _ _ h => h) (Or.inl ⟨by rfl, ?_⟩) (by assumption) ?_
        rotate_left
        · intro w hSw
          (try dsimp only at hSw)
          go_simp
          try (with_reducible rfl)
        simp only [Act.put, List.setIfInBounds_toArray, List.set_cons_zero, List.set_cons_succ]
        refine wpAnyH_ready (rs := [1, 5, 18]) (by kernel_rfl) (by simp) ?_
        refine AllReadyH.cons rfl (fun K hK => ?_) (AllReadyH.cons rfl (fun K hK => ?_) (AllReadyH.cons rfl (fun K hK => ?_) AllReadyH.nil))
        · go_simp
          refine hK.out _ _ ?_ (fun hHeld => ?_)
          · (first | exact c3 | exact KST.out _ _ hb7.out | exact KB.out _ hb7.out | exact KB.out _ hb6.out | exact KB.out _ (b_alloc hb6.out (Nat.le_refl _) _) | exact KB.out _ (by repeat first | exact Below.refl _ _ | refine Below.drew ?_ | refine b_alloc ?_ (Nat.le_refl _) _))
          clear hK K
          try simp only [Act.put, List.setIfInBounds_toArray, List.set_cons_zero, List.set_cons_succ]
          refine wpAnyH_ready (rs := [5, 18]) (by kernel_rfl) (by simp) ?_
          refine AllReadyH.cons rfl (fun K hK => ?_) (AllReadyH.cons rfl (fun K hK => ?_) AllReadyH.nil)
          · go_simp
            refine hK.out _ _ ?_ (fun hHeld => ?_)
            · (first | exact c3 | exact KST.out _ _ hb7.out | exact KB.out _ hb7.out | exact KB.out _ hb6.out | exact KB.out _ (b_alloc hb6.out (Nat.le_refl _) _) | exact KB.out _ (by repeat first | exact Below.refl _ _ | refine Below.drew ?_ | refine b_alloc ?_ (Nat.le_refl _) _))
            clear hK K
            try simp only [Act.put, List.setIfInBounds_toArray, List.set_cons_zero, List.set_cons_succ]
            refine wpAnyH_ready (rs := [6, 18]) (by kernel_rfl) (by simp) ?_
            refine AllReadyH.cons rfl (fun K hK => ?_) (AllReadyH.cons rfl (fun K hK => ?_) AllReadyH.nil)
            · (first
                | (refine step_append_lie2 (by rfl) (.tmp 34) (.tmp 38) 35 (by rfl) U.heap.size 62 i0 _ 2 16 Try.underlying35 HI.out hz0 hz1 hz2 rfl (by omega) (.slice (some ⟨U.heap.size, 0, none⟩) 0 0) 0 [] (by rfl) ((HE0.out U (Below.refl _ _)).1) (.slice ba nb bc) (0) (U.heap.size) nb ys (by rfl) (HL.out _ (by repeat first | exact Below.refl _ _ | refine Below.drew ?_ | refine b_alloc ?_ (Nat.le_refl _) _)) HX1.out nb (by omega) (by simp only [maxLen]; omega) (by omega) (by first | omega | (simp [World.drew]; done) | (simp [World.drew]; omega)) ?_
                   intro ao6 cap6 w6 hown6' hgrow6' hob6'
                   have hown6 := Lib.hid (hown6' : w6.ownsRow U.heap.size 62 2 (.slice ao6 nb cap6) nb ys)
                   have hb6 : Hid (Below U.heap.size U w6) := Lib.hid (Below.grown (by repeat first | exact Below.refl _ _ | refine Below.drew ?_ | refine b_alloc ?_ (Nat.le_refl _) _) hgrow6' (by first | omega | (simp [World.drew]; done) | (simp [World.drew]; omega)) (fun q hq => by cases hq; exact Nat.le_refl _))
                   skip
                   clear hown6' hgrow6' hob6')
                | (refine step_append_lie2 (by rfl) (.tmp 34) (.tmp 38) 35 (by rfl) U.heap.size 62 i0 _ 2 16 Try.underlying35 HI.out hz0 hz1 hz2 rfl (by omega) (.slice (some ⟨U.heap.size, 0, none⟩) 0 0) 0 [] (by rfl) ((HE0.out U (Below.refl _ _)).2 _) (.slice ba nb bc) (0) (U.heap.size) nb ys (by rfl) (HL.out _ (by repeat first | exact Below.refl _ _ | refine Below.drew ?_ | refine b_alloc ?_ (Nat.le_refl _) _)) HX1.out nb (by omega) (by simp only [maxLen]; omega) (by omega) (by first | omega | (simp [World.drew]; done) | (simp [World.drew]; omega)) ?_
                   intro ao6 cap6 w6 hown6' hgrow6' hob6'
                   have hown6 := Lib.hid (hown6' : w6.ownsRow U.heap.size 62 2 (.slice ao6 nb cap6) nb ys)
                   have hb6 : Hid (Below U.heap.size U w6) := Lib.hid (Below.grown (by repeat first | exact Below.refl _ _ | refine Below.drew ?_ | refine b_alloc ?_ (Nat.le_refl _) _) hgrow6' (by first | omega | (simp [World.drew]; done) | (simp [World.drew]; omega)) (fun q hq => by cases hq; exact Nat.le_refl _))
                   have hr6 : Hid (Lies w6 (U.heap.size + 1) (U.heap.size + 2) (.slice (some ⟨U.heap.size + 1, 0, none⟩) 1 1) 1 2 [.int .i64 (x0 + s.t), .int .i64 (x2)]) := Lib.hid (one_lies (cs := #[.int .i64 (x0 + s.t), .int .i64 (x2)]) ((hgrow6'.block (U.heap.size + 1) (by first | omega | (simp [World.drew]; done) | (simp [World.drew]; omega)) (by simp [Value.ownBlock])).trans (by simpa [World.drew] using heap_alloc_new (U.alloc (.cells #[] 62)) (.cells #[.int .i64 (x0 + s.t), .int .i64 (x2)] 62))) rfl)
                   clear hown6' hgrow6' hob6')
                | (refine step_append_lie2 (by rfl) (.tmp 34) (.tmp 38) 35 (by rfl) U.heap.size 62 i0 _ 2 16 Try.underlying35 HI.out hz0 hz1 hz2 rfl (by omega) (.slice (some ⟨U.heap.size + 1, 0, none⟩) 0 0) 0 [] (by rfl) (by have h := (HE0.out (U.alloc (.cells #[.int .i64 (x0 + s.t), .int .i64 (x2)] 62)) (below1 _ _)).1; rw [show (U.alloc (.cells #[.int .i64 (x0 + s.t), .int .i64 (x2)] 62)).heap.size = U.heap.size + 1 by simp] at h; exact h) (.slice ba nb bc) (0) (U.heap.size) nb ys (by rfl) (HL.out _ (by repeat first | exact Below.refl _ _ | refine Below.drew ?_ | refine b_alloc ?_ (Nat.le_refl _) _)) HX1.out nb (by omega) (by simp only [maxLen]; omega) (by omega) (by first | omega | (simp [World.drew]; done) | (simp [World.drew]; omega)) ?_
                   intro ao6 cap6 w6 hown6' hgrow6' hob6'
                   have hown6 := Lib.hid (hown6' : w6.ownsRow U.heap.size 62 2 (.slice ao6 nb cap6) nb ys)
                   have hb6 : Hid (Below U.heap.size U w6) := Lib.hid (Below.grown (by repeat first | exact Below.refl _ _ | refine Below.drew ?_ | refine b_alloc ?_ (Nat.le_refl _) _) hgrow6' (by first | omega | (simp [World.drew]; done) | (simp [World.drew]; omega)) (fun q hq => by cases hq; exact Nat.le_succ _))
                   have hr6 : Hid (Lies w6 U.heap.size (U.heap.size + 1) (.slice (some ⟨U.heap.size, 0, none⟩) 1 1) 1 2 [.int .i64 (x0 + s.t), .int .i64 (x2)]) := Lib.hid (one_lies (cs := #[.int .i64 (x0 + s.t), .int .i64 (x2)]) ((hgrow6'.block U.heap.size (by first | omega | (simp [World.drew]; done) | (simp [World.drew]; omega)) (by simp [Value.ownBlock])).trans (((below1 (U.alloc (.cells #[.int .i64 (x0 + s.t), .int .i64 (x2)] 62)) (.cells #[] 62)).block U.heap.size (by simp)).trans (heap_alloc_new U (.cells #[.int .i64 (x0 + s.t), .int .i64 (x2)] 62)))) rfl)
                   clear hown6' hgrow6' hob6'))
              refine hK.out _ _ ?_ (fun hHeld => ?_)
              · (first | exact c3 | exact KST.out _ _ hb7.out | exact KB.out _ hb7.out | exact KB.out _ hb6.out | exact KB.out _ (b_alloc hb6.out (Nat.le_refl _) _) | exact KB.out _ (by repeat first | exact Below.refl _ _ | refine Below.drew ?_ | refine b_alloc ?_ (Nat.le_refl _) _))
              clear hK K
              try simp only [Act.put, List.setIfInBounds_toArray, List.set_cons_zero, List.set_cons_succ]
              refine wpAnyH_ready (rs := [18]) (by kernel_rfl) (by simp) ?_
              refine AllReadyH.cons rfl (fun K hK => ?_) AllReadyH.nil
              go_simp
              refine hK.out _ _ ?_ (fun hHeld => ?_)
              · (first | exact c3 | exact KST.out _ _ hb7.out | exact KB.out _ hb7.out | exact KB.out _ hb6.out | exact KB.out _ (b_alloc hb6.out (Nat.le_refl _) _) | exact KB.out _ (by repeat first | exact Below.refl _ _ | refine Below.drew ?_ | refine b_alloc ?_ (Nat.le_refl _) _))
              clear hK K
              try simp only [Act.put, List.setIfInBounds_toArray, List.set_cons_zero, List.set_cons_succ]
              refine wpAnyH_ready (rs := [19]) (by kernel_rfl) (by simp) ?_
              refine AllReadyH.cons rfl (fun K hK => ?_) AllReadyH.nil
              (first
                | (refine step_append_lie2 (by rfl) (.tmp 39) (.tmp 51) 35 (by rfl) U.heap.size 62 i0 _ 2 16 Try.underlying35 HI.out hz0 hz1 hz2 rfl (by omega) (.slice ao6 nb cap6) nb ys (by rfl) (owns_later hown6.out (below1 _ _)) (.slice (some ⟨w6.heap.size, 0, none⟩) 1 1) (w6.heap.size) (w6.heap.size + 1) 1 [.int .i64 (x0 + s.t), .int .i64 (x2)] (by rfl) (one_lies (cs := #[.int .i64 (x0 + s.t), .int .i64 (x2)]) (heap_alloc_new w6 _) rfl) (bk_one ⟨x0 + s.t, x2⟩) (nb + 1) rfl (by simp only [maxLen]; omega) (by omega) (by have h := hb6.out.size; first | omega | (simp [World.drew]; done) | (simp [World.drew]; omega)) ?_
                   intro ao7 cap7 w7 hown7' hgrow7' hob7'
                   have hown7 := Lib.hid hown7'
                   have hb7 : Hid (Below U.heap.size U w7) := Lib.hid (Below.grown ((b_alloc hb6.out (Nat.le_refl _) _).drew) hgrow7' (by have h := hb6.out.size; first | omega | (simp [World.drew]; done) | (simp [World.drew]; omega)) (fun q hq => (owns_block (hown6.out) q hq).1))
                   obtain ⟨hu7, hf7⟩ := KC.out _ hb7.out
                   clear hown7' hgrow7' hob7')
                | (refine step_append_lie2 (by rfl) (.tmp 39) (.tmp 51) 35 (by rfl) U.heap.size 62 i0 _ 2 16 Try.underlying35 HI.out hz0 hz1 hz2 rfl (by omega) (.slice ao6 nb cap6) nb ys (by rfl) (owns_later hown6.out (below1 _ _)) (.slice (some ⟨w6.heap.size, 0, none⟩) 1 1) (w6.heap.size) (w6.heap.size + 1) 1 [.int .i64 (x0 + s.t), .int .i64 (x2)] (by rfl) (one_lies (cs := #[.int .i64 (x0 + s.t), .int .i64 (x2)]) (heap_alloc_new w6 _) rfl) (bk_one ⟨x0 + s.t, x2⟩) (nb + 1) rfl (by simp only [maxLen]; omega) (by omega) (by have h := hb6.out.size; first | omega | (simp [World.drew]; done) | (simp [World.drew]; omega)) ?_
                   intro ao7 cap7 w7 hown7' hgrow7' hob7'
                   have hown7 := Lib.hid hown7'
                   have hb7 : Hid (Below U.heap.size U w7) := Lib.hid (Below.grown (b_alloc hb6.out (Nat.le_refl _) _) hgrow7' (by have h := hb6.out.size; first | omega | (simp [World.drew]; done) | (simp [World.drew]; omega)) (fun q hq => (owns_block (hown6.out) q hq).1))
                   obtain ⟨hu7, hf7⟩ := KC.out _ hb7.out
                   clear hown7' hgrow7' hob7')
                | (refine step_append_lie2 (by rfl) (.tmp 39) (.tmp 51) 35 (by rfl) U.heap.size 62 i0 _ 2 16 Try.underlying35 HI.out hz0 hz1 hz2 rfl (by omega) (.slice ao6 nb cap6) nb ys (by rfl) (hown6.out) (.slice (some ⟨U.heap.size + 1, 0, none⟩) 1 1) (U.heap.size + 1) (U.heap.size + 2) 1 [.int .i64 (x0 + s.t), .int .i64 (x2)] (by rfl) (hr6.out) (bk_one ⟨x0 + s.t, x2⟩) (nb + 1) rfl (by simp only [maxLen]; omega) (by omega) (by have h := hb6.out.size; first | omega | (simp [World.drew]; done) | (simp [World.drew]; omega)) ?_
                   intro ao7 cap7 w7 hown7' hgrow7' hob7'
                   have hown7 := Lib.hid hown7'
                   have hb7 : Hid (Below U.heap.size U w7) := Lib.hid (Below.grown (hb6.out) hgrow7' (by have h := hb6.out.size; first | omega | (simp [World.drew]; done) | (simp [World.drew]; omega)) (fun q hq => (owns_block (hown6.out) q hq).1))
                   obtain ⟨hu7, hf7⟩ := KC.out _ hb7.out
                   clear hown7' hgrow7' hob7')
                | (refine step_append_lie2 (by rfl) (.tmp 39) (.tmp 51) 35 (by rfl) U.heap.size 62 i0 _ 2 16 Try.underlying35 HI.out hz0 hz1 hz2 rfl (by omega) (.slice ao6 nb cap6) nb ys (by rfl) (hown6.out) (.slice (some ⟨U.heap.size + 1, 0, none⟩) 1 1) (U.heap.size + 1) (U.heap.size + 2) 1 [.int .i64 (x0 + s.t), .int .i64 (x2)] (by rfl) (hr6.out) (bk_one ⟨x0 + s.t, x2⟩) (nb + 1) rfl (by simp only [maxLen]; omega) (by omega) (by have h := hb6.out.size; first | omega | (simp [World.drew]; done) | (simp [World.drew]; omega)) ?_
                   intro ao7 cap7 w7 hown7' hgrow7' hob7'
                   have hown7 := Lib.hid hown7'
                   have hb7 : Hid (Below U.heap.size U w7) := Lib.hid (Below.grown (hb6.out.drew) hgrow7' (by have h := hb6.out.size; first | omega | (simp [World.drew]; done) | (simp [World.drew]; omega)) (fun q hq => (owns_block (hown6.out) q hq).1))
                   obtain ⟨hu7, hf7⟩ := KC.out _ hb7.out
                   clear hown7' hgrow7' hob7')
                | (refine step_append_lie2 (by rfl) (.tmp 39) (.tmp 51) 35 (by rfl) U.heap.size 62 i0 _ 2 16 Try.underlying35 HI.out hz0 hz1 hz2 rfl (by omega) (.slice ao6 nb cap6) nb ys (by rfl) (hown6.out) (.slice (some ⟨U.heap.size, 0, none⟩) 1 1) (U.heap.size) (U.heap.size + 1) 1 [.int .i64 (x0 + s.t), .int .i64 (x2)] (by rfl) (hr6.out) (bk_one ⟨x0 + s.t, x2⟩) (nb + 1) rfl (by simp only [maxLen]; omega) (by omega) (by have h := hb6.out.size; first | omega | (simp [World.drew]; done) | (simp [World.drew]; omega)) ?_
                   intro ao7 cap7 w7 hown7' hgrow7' hob7'
                   have hown7 := Lib.hid hown7'
                   have hb7 : Hid (Below U.heap.size U w7) := Lib.hid (Below.grown (hb6.out) hgrow7' (by have h := hb6.out.size; first | omega | (simp [World.drew]; done) | (simp [World.drew]; omega)) (fun q hq => (owns_block (hown6.out) q hq).1))
                   obtain ⟨hu7, hf7⟩ := KC.out _ hb7.out
                   clear hown7' hgrow7' hob7')
                | (refine step_append_lie2 (by rfl) (.tmp 39) (.tmp 51) 35 (by rfl) U.heap.size 62 i0 _ 2 16 Try.underlying35 HI.out hz0 hz1 hz2 rfl (by omega) (.slice ao6 nb cap6) nb ys (by rfl) (hown6.out) (.slice (some ⟨U.heap.size, 0, none⟩) 1 1) (U.heap.size) (U.heap.size + 1) 1 [.int .i64 (x0 + s.t), .int .i64 (x2)] (by rfl) (hr6.out) (bk_one ⟨x0 + s.t, x2⟩) (nb + 1) rfl (by simp only [maxLen]; omega) (by omega) (by have h := hb6.out.size; first | omega | (simp [World.drew]; done) | (simp [World.drew]; omega)) ?_
                   intro ao7 cap7 w7 hown7' hgrow7' hob7'
                   have hown7 := Lib.hid hown7'
                   have hb7 : Hid (Below U.heap.size U w7) := Lib.hid (Below.grown (hb6.out.drew) hgrow7' (by have h := hb6.out.size; first | omega | (simp [World.drew]; done) | (simp [World.drew]; omega)) (fun q hq => (owns_block (hown6.out) q hq).1))
                   obtain ⟨hu7, hf7⟩ := KC.out _ hb7.out
                   clear hown7' hgrow7' hob7'))
              refine hK.out _ _ ?_ (fun hHeld => ?_)
              · (first | exact c3 | exact KST.out _ _ hb7.out | exact KB.out _ hb7.out | exact KB.out _ hb6.out | exact KB.out _ (b_alloc hb6.out (Nat.le_refl _) _) | exact KB.out _ (by repeat first | exact Below.refl _ _ | refine Below.drew ?_ | refine b_alloc ?_ (Nat.le_refl _) _))
              clear hK K
              try simp only [Act.put, List.setIfInBounds_toArray, List.set_cons_zero, List.set_cons_succ]
              refine wpAnyH_takeE (i := 20) (d := some 53) (v := ?_) rfl rfl (by kernel_rfl) (by kernel_rfl) (by kernel_rfl) (fun _ _ _ h => h) (Or.inl ⟨by rfl, ?_⟩) (by assumption) ?_
              rotate_left
              · intro w hSw
                (try dsimp only at hSw)
                go_simp
                try (with_reducible rfl)
              simp only [Act.put, List.setIfInBounds_toArray, List.set_cons_zero, List.set_cons_succ]
              refine wpAnyH_takeE (i := 21) (d := some 54) (v := ?_) rfl rfl (by kernel_rfl) (by kernel_rfl) (by kernel_rfl) (fun _ _ _ h => h) (Or.inl ⟨by rfl, ?_⟩) (by assumption) ?_
              rotate_left
              · intro w hSw
                (try dsimp only at hSw)
                go_simp
                try (with_reducible rfl)
              simp only [Act.put, List.setIfInBounds_toArray, List.set_cons_zero, List.set_cons_succ]
              refine wpAnyH_ready (rs := [22]) (by kernel_rfl) (by simp) ?_
              refine AllReadyH.cons rfl (fun K hK => ?_) AllReadyH.nil
              go_simp
              refine hK.out _ _ ?_ (fun hHeld => ?_)
              · (first | exact c3 | exact KST.out _ _ hb7.out | exact KB.out _ hb7.out | exact KB.out _ hb6.out | exact KB.out _ (b_alloc hb6.out (Nat.le_refl _) _) | exact KB.out _ (by repeat first | exact Below.refl _ _ | refine Below.drew ?_ | refine b_alloc ?_ (Nat.le_refl _) _))
              clear hK K
              try simp only [Act.put, List.setIfInBounds_toArray, List.set_cons_zero, List.set_cons_succ]
              refine wpAnyH_done (by kernel_rfl) ?_ _
              refine NoPanic.normal ?_
              have hk7 := HKU.out.later hb7.out
              obtain ⟨t1, t2⟩ := hk7.backed (w0 := U) (ao := ao7) (cap := cap7) (en' := bks ++ [⟨x0 + s.t, x2⟩]) (GrowS.of_below hb7.out) HKU.out.lt (by
                have := ORow.of_owns hown7.out
                rw [HYS.out] at this
                simpa [HNB.out, Bk.cells] using this) (fun g hg => (World.ownsRow.lt hown7.out g (by rw [own_ob]; exact hg)).1)
              rw [show (bks ++ [(⟨x0 + s.t, x2⟩ : Bk)]).length = nb + 1 by rw [HNB.out]; simp] at t1 t2
              obtain ⟨Y, hY⟩ : ∃ Y, Y = w7.setCell ⟨H, 5, none⟩ (.slice ao7 (nb + 1) cap7) := ⟨_, rfl⟩
              rw [← hY] at t1 t2
              have T1 := Lib.hid t1
              have T2 := Lib.hid t2
              have HY := Lib.hid hY
              clear t1 t2 hY hk7
              rw [← HY.out]
              go_wp2_with fail
              go_roundw
              case rel =>
                rw [← HLA.out]
                refine ⟨k + 1, cap7, ao7, by omega, by go_num, Lib.hid ?_, Lib.hid (HGU.out.trans T2.out)⟩
                rw [HFS.out, HUS.out, HUB.out]
                exact T1.out
              case measure => simp [intOf]; omega
            · go_simp
              refine hK.out _ _ ?_ (fun hHeld => ?_)
              · (first | exact c3 | exact KST.out _ _ hb7.out | exact KB.out _ hb7.out | exact KB.out _ hb6.out | exact KB.out _ (b_alloc hb6.out (Nat.le_refl _) _) | exact KB.out _ (by repeat first | exact Below.refl _ _ | refine Below.drew ?_ | refine b_alloc ?_ (Nat.le_refl _) _))
              clear hK K
              try simp only [Act.put, List.setIfInBounds_toArray, List.set_cons_zero, List.set_cons_succ]
              refine wpAnyH_ready (rs := [6]) (by kernel_rfl) (by simp) ?_
              refine AllReadyH.cons rfl (fun K hK => ?_) AllReadyH.nil
              (first
                | (refine step_append_lie2 (by rfl) (.tmp 34) (.tmp 38) 35 (by rfl) U.heap.size 62 i0 _ 2 16 Try.underlying35 HI.out hz0 hz1 hz2 rfl (by omega) (.slice (some ⟨U.heap.size, 0, none⟩) 0 0) 0 [] (by rfl) ((HE0.out U (Below.refl _ _)).1) (.slice ba nb bc) (0) (U.heap.size) nb ys (by rfl) (HL.out _ (by repeat first | exact Below.refl _ _ | refine Below.drew ?_ | refine b_alloc ?_ (Nat.le_refl _) _)) HX1.out nb (by omega) (by simp only [maxLen]; omega) (by omega) (by first | omega | (simp [World.drew]; done) | (simp [World.drew]; omega)) ?_
                   intro ao6 cap6 w6 hown6' hgrow6' hob6'
                   have hown6 := Lib.hid (hown6' : w6.ownsRow U.heap.size 62 2 (.slice ao6 nb cap6) nb ys)
                   have hb6 : Hid (Below U.heap.size U w6) := Lib.hid (Below.grown (by repeat first | exact Below.refl _ _ | refine Below.drew ?_ | refine b_alloc ?_ (Nat.le_refl _) _) hgrow6' (by first | omega | (simp [World.drew]; done) | (simp [World.drew]; omega)) (fun q hq => by cases hq; exact Nat.le_refl _))
                   skip
                   clear hown6' hgrow6' hob6')
                | (refine step_append_lie2 (by rfl) (.tmp 34) (.tmp 38) 35 (by rfl) U.heap.size 62 i0 _ 2 16 Try.underlying35 HI.out hz0 hz1 hz2 rfl (by omega) (.slice (some ⟨U.heap.size, 0, none⟩) 0 0) 0 [] (by rfl) ((HE0.out U (Below.refl _ _)).2 _) (.slice ba nb bc) (0) (U.heap.size) nb ys (by rfl) (HL.out _ (by repeat first | exact Below.refl _ _ | refine Below.drew ?_ | refine b_alloc ?_ (Nat.le_refl _) _)) HX1.out nb (by omega) (by simp only [maxLen]; omega) (by omega) (by first | omega | (simp [World.drew]; done) | (simp [World.drew]; omega)) ?_
                   intro ao6 cap6 w6 hown6' hgrow6' hob6'
                   have hown6 := Lib.hid (hown6' : w6.ownsRow U.heap.size 62 2 (.slice ao6 nb cap6) nb ys)
                   have hb6 : Hid (Below U.heap.size U w6) := Lib.hid (Below.grown (by repeat first | exact Below.refl _ _ | refine Below.drew ?_ | refine b_alloc ?_ (Nat.le_refl _) _) hgrow6' (by first | omega | (simp [World.drew]; done) | (simp [World.drew]; omega)) (fun q hq => by cases hq; exact Nat.le_refl _))
                   have hr6 : Hid (Lies w6 (U.heap.size + 1) (U.heap.size + 2) (.slice (some ⟨U.heap.size + 1, 0, none⟩) 1 1) 1 2 [.int .i64 (x0 + s.t), .int .i64 (x2)]) := Lib.hid (one_lies (cs := #[.int .i64 (x0 + s.t), .int .i64 (x2)]) ((hgrow6'.block (U.heap.size + 1) (by first | omega | (simp [World.drew]; done) | (simp [World.drew]; omega)) (by simp [Value.ownBlock])).trans (by simpa [World.drew] using heap_alloc_new (U.alloc (.cells #[] 62)) (.cells #[.int .i64 (x0 + s.t), .int .i64 (x2)] 62))) rfl)
                   clear hown6' hgrow6' hob6')
                | (refine step_append_lie2 (by rfl) (.tmp 34) (.tmp 38) 35 (by rfl) U.heap.size 62 i0 _ 2 16 Try.underlying35 HI.out hz0 hz1 hz2 rfl (by omega) (.slice (some ⟨U.heap.size + 1, 0, none⟩) 0 0) 0 [] (by rfl) (by have h := (HE0.out (U.alloc (.cells #[.int .i64 (x0 + s.t), .int .i64 (x2)] 62)) (below1 _ _)).1; rw [show (U.alloc (.cells #[.int .i64 (x0 + s.t), .int .i64 (x2)] 62)).heap.size = U.heap.size + 1 by simp] at h; exact h) (.slice ba nb bc) (0) (U.heap.size) nb ys (by rfl) (HL.out _ (by repeat first | exact Below.refl _ _ | refine Below.drew ?_ | refine b_alloc ?_ (Nat.le_refl _) _)) HX1.out nb (by omega) (by simp only [maxLen]; omega) (by omega) (by first | omega | (simp [World.drew]; done) | (simp [World.drew]; omega)) ?_
                   intro ao6 cap6 w6 hown6' hgrow6' hob6'
                   have hown6 := Lib.hid (hown6' : w6.ownsRow U.heap.size 62 2 (.slice ao6 nb cap6) nb ys)
                   have hb6 : Hid (Below U.heap.size U w6) := Lib.hid (Below.grown (by repeat first | exact Below.refl _ _ | refine Below.drew ?_ | refine b_alloc ?_ (Nat.le_refl _) _) hgrow6' (by first | omega | (simp [World.drew]; done) | (simp [World.drew]; omega)) (fun q hq => by cases hq; exact Nat.le_succ _))
                   have hr6 : Hid (Lies w6 U.heap.size (U.heap.size + 1) (.slice (some ⟨U.heap.size, 0, none⟩) 1 1) 1 2 [.int .i64 (x0 + s.t), .int .i64 (x2)]) := Lib.hid (one_lies (cs := #[.int .i64 (x0 + s.t), .int .i64 (x2)]) ((hgrow6'.block U.heap.size (by first | omega | (simp [World.drew]; done) | (simp [World.drew]; omega)) (by simp [Value.ownBlock])).trans (((below1 (U.alloc (.cells #[.int .i64 (x0 + s.t), .int .i64 (x2)] 62)) (.cells #[] 62)).block U.heap.size (by simp)).trans (heap_alloc_new U (.cells #[.int .i64 (x0 + s.t), .int .i64 (x2)] 62)))) rfl)
                   clear hown6' hgrow6' hob6'))
              refine hK.out _ _ ?_ (fun hHeld => ?_)
              · (first | exact c3 | exact KST.out _ _ hb7.out | exact KB.out _ hb7.out | exact KB.out _ hb6.out | exact KB.out _ (b_alloc hb6.out (Nat.le_refl _) _) | exact KB.out _ (by repeat first | exact Below.refl _ _ | refine Below.drew ?_ | refine b_alloc ?_ (Nat.le_refl _) _))
              clear hK K
              try simp only [Act.put, List.setIfInBounds_toArray, List.set_cons_zero, List.set_cons_succ]
              refine wpAnyH_ready (rs := [19]) (by kernel_rfl) (by simp) ?_
              refine AllReadyH.cons rfl (fun K hK => ?_) AllReadyH.nil
              (first
                | (refine step_append_lie2 (by rfl) (.tmp 39) (.tmp 51) 35 (by rfl) U.heap.size 62 i0 _ 2 16 Try.underlying35 HI.out hz0 hz1 hz2 rfl (by omega) (.slice ao6 nb cap6) nb ys (by rfl) (owns_later hown6.out (below1 _ _)) (.slice (some ⟨w6.heap.size, 0, none⟩) 1 1) (w6.heap.size) (w6.heap.size + 1) 1 [.int .i64 (x0 + s.t), .int .i64 (x2)] (by rfl) (one_lies (cs := #[.int .i64 (x0 + s.t), .int .i64 (x2)]) (heap_alloc_new w6 _) rfl) (bk_one ⟨x0 + s.t, x2⟩) (nb + 1) rfl (by simp only [maxLen]; omega) (by omega) (by have h := hb6.out.size; first | omega | (simp [World.drew]; done) | (simp [World.drew]; omega)) ?_
                   intro ao7 cap7 w7 hown7' hgrow7' hob7'
                   have hown7 := Lib.hid hown7'
                   have hb7 : Hid (Below U.heap.size U w7) := Lib.hid (Below.grown ((b_alloc hb6.out (Nat.le_refl _) _).drew) hgrow7' (by have h := hb6.out.size; first | omega | (simp [World.drew]; done) | (simp [World.drew]; omega)) (fun q hq => (owns_block (hown6.out) q hq).1))
                   obtain ⟨hu7, hf7⟩ := KC.out _ hb7.out
                   clear hown7' hgrow7' hob7')
                | (refine step_append_lie2 (by rfl) (.tmp 39) (.tmp 51) 35 (by rfl) U.heap.size 62 i0 _ 2 16 Try.underlying35 HI.out hz0 hz1 hz2 rfl (by omega) (.slice ao6 nb cap6) nb ys (by rfl) (owns_later hown6.out (below1 _ _)) (.slice (some ⟨w6.heap.size, 0, none⟩) 1 1) (w6.heap.size) (w6.heap.size + 1) 1 [.int .i64 (x0 + s.t), .int .i64 (x2)] (by rfl) (one_lies (cs := #[.int .i64 (x0 + s.t), .int .i64 (x2)]) (heap_alloc_new w6 _) rfl) (bk_one ⟨x0 + s.t, x2⟩) (nb + 1) rfl (by simp only [maxLen]; omega) (by omega) (by have h := hb6.out.size; first | omega | (simp [World.drew]; done) | (simp [World.drew]; omega)) ?_
                   intro ao7 cap7 w7 hown7' hgrow7' hob7'
                   have hown7 := Lib.hid hown7'
                   have hb7 : Hid (Below U.heap.size U w7) := Lib.hid (Below.grown (b_alloc hb6.out (Nat.le_refl _) _) hgrow7' (by have h := hb6.out.size; first | omega | (simp [World.drew]; done) | (simp [World.drew]; omega)) (fun q hq => (owns_block (hown6.out) q hq).1))
                   obtain ⟨hu7, hf7⟩ := KC.out _ hb7.out
                   clear hown7' hgrow7' hob7')
                | (refine step_append_lie2 (by rfl) (.tmp 39) (.tmp 51) 35 (by rfl) U.heap.size 62 i0 _ 2 16 Try.underlying35 HI.out hz0 hz1 hz2 rfl (by omega) (.slice ao6 nb cap6) nb ys (by rfl) (hown6.out) (.slice (some ⟨U.heap.size + 1, 0, none⟩) 1 1) (U.heap.size + 1) (U.heap.size + 2) 1 [.int .i64 (x0 + s.t), .int .i64 (x2)] (by rfl) (hr6.out) (bk_one ⟨x0 + s.t, x2⟩) (nb + 1) rfl (by simp only [maxLen]; omega) (by omega) (by have h := hb6.out.size; first | omega | (simp [World.drew]; done) | (simp [World.drew]; omega)) ?_
                   intro ao7 cap7 w7 hown7' hgrow7' hob7'
                   have hown7 := Lib.hid hown7'
                   have hb7 : Hid (Below U.heap.size U w7) := Lib.hid (Below.grown (hb6.out) hgrow7' (by have h := hb6.out.size; first | omega | (simp [World.drew]; done) | (simp [World.drew]; omega)) (fun q hq => (owns_block (hown6.out) q hq).1))
                   obtain ⟨hu7, hf7⟩ := KC.out _ hb7.out
                   clear hown7' hgrow7' hob7')
                | (refine step_append_lie2 (by rfl) (.tmp 39) (.tmp 51) 35 (by rfl) U.heap.size 62 i0 _ 2 16 Try.underlying35 HI.out hz0 hz1 hz2 rfl (by omega) (.slice ao6 nb cap6) nb ys (by rfl) (hown6.out) (.slice (some ⟨U.heap.size + 1, 0, none⟩) 1 1) (U.heap.size + 1) (U.heap.size + 2) 1 [.int .i64 (x0 + s.t), .int .i64 (x2)] (by rfl) (hr6.out) (bk_one ⟨x0 + s.t, x2⟩) (nb + 1) rfl (by simp only [maxLen]; omega) (by omega) (by have h := hb6.out.size; first | omega | (simp [World.drew]; done) | (simp [World.drew]; omega)) ?_
                   intro ao7 cap7 w7 hown7' hgrow7' hob7'
                   have hown7 := Lib.hid hown7'
                   have hb7 : Hid (Below U.heap.size U w7) := Lib.hid (Below.grown (hb6.out.drew) hgrow7' (by have h := hb6.out.size; first | omega | (simp [World.drew]; done) | (simp [World.drew]; omega)) (fun q hq => (owns_block (hown6.out) q hq).1))
                   obtain ⟨hu7, hf7⟩ := KC.out _ hb7.out
                   clear hown7' hgrow7' hob7')
                | (refine step_append_lie2 (by rfl) (.tmp 39) (.tmp 51) 35 (by rfl) U.heap.size 62 i0 _ 2 16 Try.underlying35 HI.out hz0 hz1 hz2 rfl (by omega) (.slice ao6 nb cap6) nb ys (by rfl) (hown6.out) (.slice (some ⟨U.heap.size, 0, none⟩) 1 1) (U.heap.size) (U.heap.size + 1) 1 [.int .i64 (x0 + s.t), .int .i64 (x2)] (by rfl) (hr6.out) (bk_one ⟨x0 + s.t, x2⟩) (nb + 1) rfl (by simp only [maxLen]; omega) (by omega) (by have h := hb6.out.size; first | omega | (simp [World.drew]; done) | (simp [World.drew]; omega)) ?_
                   intro ao7 cap7 w7 hown7' hgrow7' hob7'
                   have hown7 := Lib.hid hown7'
                   have hb7 : Hid (Below U.heap.size U w7) := Lib.hid (Below.grown (hb6.out) hgrow7' (by have h := hb6.out.size; first | omega | (simp [World.drew]; done) | (simp [World.drew]; omega)) (fun q hq => (owns_block (hown6.out) q hq).1))
                   obtain ⟨hu7, hf7⟩ := KC.out _ hb7.out
                   clear hown7' hgrow7' hob7')
                | (refine step_append_lie2 (by rfl) (.tmp 39) (.tmp 51) 35 (by rfl) U.heap.size 62 i0 _ 2 16 Try.underlying35 HI.out hz0 hz1 hz2 rfl (by omega) (.slice ao6 nb cap6) nb ys (by rfl) (hown6.out) (.slice (some ⟨U.heap.size, 0, none⟩) 1 1) (U.heap.size) (U.heap.size + 1) 1 [.int .i64 (x0 + s.t), .int .i64 (x2)] (by rfl) (hr6.out) (bk_one ⟨x0 + s.t, x2⟩) (nb + 1) rfl (by simp only [maxLen]; omega) (by omega) (by have h := hb6.out.size; first | omega | (simp [World.drew]; done) | (simp [World.drew]; omega)) ?_
                   intro ao7 cap7 w7 hown7' hgrow7' hob7'
                   have hown7 := Lib.hid hown7'
                   have hb7 : Hid (Below U.heap.size U w7) := Lib.hid (Below.grown (hb6.out.drew) hgrow7' (by have h := hb6.out.size; first | omega | (simp [World.drew]; done) | (simp [World.drew]; omega)) (fun q hq => (owns_block (hown6.out) q hq).1))
                   obtain ⟨hu7, hf7⟩ := KC.out _ hb7.out
                   clear hown7' hgrow7' hob7'))
              refine hK.out _ _ ?_ (fun hHeld => ?_)
              · (first | exact c3 | exact KST.out _ _ hb7.out | exact KB.out _ hb7.out | exact KB.out _ hb6.out | exact KB.out _ (b_alloc hb6.out (Nat.le_refl _) _) | exact KB.out _ (by repeat first | exact Below.refl _ _ | refine Below.drew ?_ | refine b_alloc ?_ (Nat.le_refl _) _))
              clear hK K
              try simp only [Act.put, List.setIfInBounds_toArray, List.set_cons_zero, List.set_cons_succ]
              refine wpAnyH_takeE (i := 20) (d := some 53) (v := ?_) rfl rfl (by kernel_rfl) (by kernel_rfl) (by kernel_rfl) (fun _ _ _ h => h) (Or.inl ⟨by rfl, ?_⟩) (by assumption) ?_
              rotate_left
              · intro w hSw
                (try dsimp only at hSw)
                go_simp
                try (with_reducible rfl)
              simp only [Act.put, List.setIfInBounds_toArray, List.set_cons_zero, List.set_cons_succ]
              refine wpAnyH_takeE (i := 21) (d := some 54) (v := ?_) rfl rfl (by kernel_rfl) (by kernel_rfl) (by kernel_rfl) (fun _ _ _ h => h) (Or.inl ⟨by rfl, ?_⟩) (by assumption) ?_
              rotate_left
              · intro w hSw
                (try dsimp only at hSw)
                go_simp
                try (with_reducible rfl)
              simp only [Act.put, List.setIfInBounds_toArray, List.set_cons_zero, List.set_cons_succ]
              refine wpAnyH_ready (rs := [22]) (by kernel_rfl) (by simp) ?_
              refine AllReadyH.cons rfl (fun K hK => ?_) AllReadyH.nil
              go_simp
              refine hK.out _ _ ?_ (fun hHeld => ?_)
              · (first | exact c3 | exact KST.out _ _ hb7.out | exact KB.out _ hb7.out | exact KB.out _ hb6.out | exact KB.out _ (b_alloc hb6.out (Nat.le_refl _) _) | exact KB.out _ (by repeat first | exact Below.refl _ _ | refine Below.drew ?_ | refine b_alloc ?_ (Nat.le_refl _) _))
              clear hK K
              try simp only [Act.put, List.setIfInBounds_toArray, List.set_cons_zero, List.set_cons_succ]
              refine wpAnyH_done (by kernel_rfl) ?_ _
              refine NoPanic.normal ?_
              have hk7 := HKU.out.later hb7.out
              obtain ⟨t1, t2⟩ := hk7.backed (w0 := U) (ao := ao7) (cap := cap7) (en' := bks ++ [⟨x0 + s.t, x2⟩]) (GrowS.of_below hb7.out) HKU.out.lt (by
                have := ORow.of_owns hown7.out
                rw [HYS.out] at this
                simpa [HNB.out, Bk.cells] using this) (fun g hg => (World.ownsRow.lt hown7.out g (by rw [own_ob]; exact hg)).1)
              rw [show (bks ++ [(⟨x0 + s.t, x2⟩ : Bk)]).length = nb + 1 by rw [HNB.out]; simp] at t1 t2
              obtain ⟨Y, hY⟩ : ∃ Y, Y = w7.setCell ⟨H, 5, none⟩ (.slice ao7 (nb + 1) cap7) := ⟨_, rfl⟩
              rw [← hY] at t1 t2
              have T1 := Lib.hid t1
              have T2 := Lib.hid t2
              have HY := Lib.hid hY
              clear t1 t2 hY hk7
              rw [← HY.out]
              go_wp2_with fail
              go_roundw
              case rel =>
                rw [← HLA.out]
                refine ⟨k + 1, cap7, ao7, by omega, by go_num, Lib.hid ?_, Lib.hid (HGU.out.trans T2.out)⟩
                rw [HFS.out, HUS.out, HUB.out]
                exact T1.out
              case measure => simp [intOf]; omega
          · go_simp
            refine hK.out _ _ ?_ (fun hHeld => ?_)
            · (first | exact c3 | exact KST.out _ _ hb7.out | exact KB.out _ hb7.out | exact KB.out _ hb6.out | exact KB.out _ (b_alloc hb6.out (Nat.le_refl _) _) | exact KB.out _ (by repeat first | exact Below.refl _ _ | refine Below.drew ?_ | refine b_alloc ?_ (Nat.le_refl _) _))
            clear hK K
            try simp only [Act.put, List.setIfInBounds_toArray, List.set_cons_zero, List.set_cons_succ]
            refine wpAnyH_ready (rs := [5]) (by kernel_rfl) (by simp) ?_
            refine AllReadyH.cons rfl (fun K hK => ?_) AllReadyH.nil
            go_simp
            refine hK.out _ _ ?_ (fun hHeld => ?_)
            · (first | exact c3 | exact KST.out _ _ hb7.out | exact KB.out _ hb7.out | exact KB.out _ hb6.out | exact KB.out _ (b_alloc hb6.out (Nat.le_refl _) _) | exact KB.out _ (by repeat first | exact Below.refl _ _ | refine Below.drew ?_ | refine b_alloc ?_ (Nat.le_refl _) _))
            clear hK K
            try simp only [Act.put, List.setIfInBounds_toArray, List.set_cons_zero, List.set_cons_succ]
            refine wpAnyH_ready (rs := [6]) (by kernel_rfl) (by simp) ?_
            refine AllReadyH.cons rfl (fun K hK => ?_) AllReadyH.nil
            (first
              | (refine step_append_lie2 (by rfl) (.tmp 34) (.tmp 38) 35 (by rfl) U.heap.size 62 i0 _ 2 16 Try.underlying35 HI.out hz0 hz1 hz2 rfl (by omega) (.slice (some ⟨U.heap.size, 0, none⟩) 0 0) 0 [] (by rfl) ((HE0.out U (Below.refl _ _)).1) (.slice ba nb bc) (0) (U.heap.size) nb ys (by rfl) (HL.out _ (by repeat first | exact Below.refl _ _ | refine Below.drew ?_ | refine b_alloc ?_ (Nat.le_refl _) _)) HX1.out nb (by omega) (by simp only [maxLen]; omega) (by omega) (by first | omega | (simp [World.drew]; done) | (simp [World.drew]; omega)) ?_
                 intro ao6 cap6 w6 hown6' hgrow6' hob6'
                 have hown6 := Lib.hid (hown6' : w6.ownsRow U.heap.size 62 2 (.slice ao6 nb cap6) nb ys)
                 have hb6 : Hid (Below U.heap.size U w6) := Lib.hid (Below.grown (by repeat first | exact Below.refl _ _ | refine Below.drew ?_ | refine b_alloc ?_ (Nat.le_refl _) _) hgrow6' (by first | omega | (simp [World.drew]; done) | (simp [World.drew]; omega)) (fun q hq => by cases hq; exact Nat.le_refl _))
                 skip
                 clear hown6' hgrow6' hob6')
              | (refine step_append_lie2 (by rfl) (.tmp 34) (.tmp 38) 35 (by rfl) U.heap.size 62 i0 _ 2 16 Try.underlying35 HI.out hz0 hz1 hz2 rfl (by omega) (.slice (some ⟨U.heap.size, 0, none⟩) 0 0) 0 [] (by rfl) ((HE0.out U (Below.refl _ _)).2 _) (.slice ba nb bc) (0) (U.heap.size) nb ys (by rfl) (HL.out _ (by repeat first | exact Below.refl _ _ | refine Below.drew ?_ | refine b_alloc ?_ (Nat.le_refl _) _)) HX1.out nb (by omega) (by simp only [maxLen]; omega) (by omega) (by first | omega | (simp [World.drew]; done) | (simp [World.drew]; omega)) ?_
                 intro ao6 cap6 w6 hown6' hgrow6' hob6'
                 have hown6 := Lib.hid (hown6' : w6.ownsRow U.heap.size 62 2 (.slice ao6 nb cap6) nb ys)
                 have hb6 : Hid (Below U.heap.size U w6) := Lib.hid (Below.grown (by repeat first | exact Below.refl _ _ | refine Below.drew ?_ | refine b_alloc ?_ (Nat.le_refl _) _) hgrow6' (by first | omega | (simp [World.drew]; done) | (simp [World.drew]; omega)) (fun q hq => by cases hq; exact Nat.le_refl _))
                 have hr6 : Hid (Lies w6 (U.heap.size + 1) (U.heap.size + 2) (.slice (some ⟨U.heap.size + 1, 0, none⟩) 1 1) 1 2 [.int .i64 (x0 + s.t), .int .i64 (x2)]) := Lib.hid (one_lies (cs := #[.int .i64 (x0 + s.t), .int .i64 (x2)]) ((hgrow6'.block (U.heap.size + 1) (by first | omega | (simp [World.drew]; done) | (simp [World.drew]; omega)) (by simp [Value.ownBlock])).trans (by simpa [World.drew] using heap_alloc_new (U.alloc (.cells #[] 62)) (.cells #[.int .i64 (x0 + s.t), .int .i64 (x2)] 62))) rfl)
                 clear hown6' hgrow6' hob6')
              | (refine step_append_lie2 (by rfl) (.tmp 34) (.tmp 38) 35 (by rfl) U.heap.size 62 i0 _ 2 16 Try.underlying35 HI.out hz0 hz1 hz2 rfl (by omega) (.slice (some ⟨U.heap.size + 1, 0, none⟩) 0 0) 0 [] (by rfl) (by have h := (HE0.out (U.alloc (.cells #[.int .i64 (x0 + s.t), .int .i64 (x2)] 62)) (below1 _ _)).1; rw [show (U.alloc (.cells #[.int .i64 (x0 + s.t), .int .i64 (x2)] 62)).heap.size = U.heap.size + 1 by simp] at h; exact h) (.slice ba nb bc) (0) (U.heap.size) nb ys (by rfl) (HL.out _ (by repeat first | exact Below.refl _ _ | refine Below.drew ?_ | refine b_alloc ?_ (Nat.le_refl _) _)) HX1.out nb (by omega) (by simp only [maxLen]; omega) (by omega) (by first | omega | (simp [World.drew]; done) | (simp [World.drew]; omega)) ?_
                 intro ao6 cap6 w6 hown6' hgrow6' hob6'
                 have hown6 := Lib.hid (hown6' : w6.ownsRow U.heap.size 62 2 (.slice ao6 nb cap6) nb ys)
                 have hb6 : Hid (Below U.heap.size U w6) := Lib.hid (Below.grown (by repeat first | exact Below.refl _ _ | refine Below.drew ?_ | refine b_alloc ?_ (Nat.le_refl _) _) hgrow6' (by first | omega | (simp [World.drew]; done) | (simp [World.drew]; omega)) (fun q hq => by cases hq; exact Nat.le_succ _))
                 have hr6 : Hid (Lies w6 U.heap.size (U.heap.size + 1) (.slice (some ⟨U.heap.size, 0, none⟩) 1 1) 1 2 [.int .i64 (x0 + s.t), .int .i64 (x2)]) := Lib.hid (one_lies (cs := #[.int .i64 (x0 + s.t), .int .i64 (x2)]) ((hgrow6'.block U.heap.size (by first | omega | (simp [World.drew]; done) | (simp [World.drew]; omega)) (by simp [Value.ownBlock])).trans (((below1 (U.alloc (.cells #[.int .i64 (x0 + s.t), .int .i64 (x2)] 62)) (.cells #[] 62)).block U.heap.size (by simp)).trans (heap_alloc_new U (.cells #[.int .i64 (x0 + s.t), .int .i64 (x2)] 62)))) rfl)
                 clear hown6' hgrow6' hob6'))
            refine hK.out _ _ ?_ (fun hHeld => ?_)
            · (first | exact c3 | exact KST.out _ _ hb7.out | exact KB.out _ hb7.out | exact KB.out _ hb6.out | exact KB.out _ (b_alloc hb6.out (Nat.le_refl _) _) | exact KB.out _ (by repeat first | exact Below.refl _ _ | refine Below.drew ?_ | refine b_alloc ?_ (Nat.le_refl _) _))
            clear hK K
            try simp only [Act.put, List.setIfInBounds_toArray, List.set_cons_zero, List.set_cons_succ]
            refine wpAnyH_ready (rs := [19]) (by kernel_rfl) (by simp) ?_
            refine AllReadyH.cons rfl (fun K hK => ?_) AllReadyH.nil
            (first
              | (refine step_append_lie2 (by rfl) (.tmp 39) (.tmp 51) 35 (by rfl) U.heap.size 62 i0 _ 2 16 Try.underlying35 HI.out hz0 hz1 hz2 rfl (by omega) (.slice ao6 nb cap6) nb ys (by rfl) (owns_later hown6.out (below1 _ _)) (.slice (some ⟨w6.heap.size, 0, none⟩) 1 1) (w6.heap.size) (w6.heap.size + 1) 1 [.int .i64 (x0 + s.t), .int .i64 (x2)] (by rfl) (one_lies (cs := #[.int .i64 (x0 + s.t), .int .i64 (x2)]) (heap_alloc_new w6 _) rfl) (bk_one ⟨x0 + s.t, x2⟩) (nb + 1) rfl (by simp only [maxLen]; omega) (by omega) (by have h := hb6.out.size; first | omega | (simp [World.drew]; done) | (simp [World.drew]; omega)) ?_
                 intro ao7 cap7 w7 hown7' hgrow7' hob7'
                 have hown7 := Lib.hid hown7'
                 have hb7 : Hid (Below U.heap.size U w7) := Lib.hid (Below.grown ((b_alloc hb6.out (Nat.le_refl _) _).drew) hgrow7' (by have h := hb6.out.size; first | omega | (simp [World.drew]; done) | (simp [World.drew]; omega)) (fun q hq => (owns_block (hown6.out) q hq).1))
                 obtain ⟨hu7, hf7⟩ := KC.out _ hb7.out
                 clear hown7' hgrow7' hob7')
              | (refine step_append_lie2 (by rfl) (.tmp 39) (.tmp 51) 35 (by rfl) U.heap.size 62 i0 _ 2 16 Try.underlying35 HI.out hz0 hz1 hz2 rfl (by omega) (.slice ao6 nb cap6) nb ys (by rfl) (owns_later hown6.out (below1 _ _)) (.slice (some ⟨w6.heap.size, 0, none⟩) 1 1) (w6.heap.size) (w6.heap.size + 1) 1 [.int .i64 (x0 + s.t), .int .i64 (x2)] (by rfl) (one_lies (cs := #[.int .i64 (x0 + s.t), .int .i64 (x2)]) (heap_alloc_new w6 _) rfl) (bk_one ⟨x0 + s.t, x2⟩) (nb + 1) rfl (by simp only [maxLen]; omega) (by omega) (by have h := hb6.out.size; first | omega | (simp [World.drew]; done) | (simp [World.drew]; omega)) ?_
                 intro ao7 cap7 w7 hown7' hgrow7' hob7'
                 have hown7 := Lib.hid hown7'
                 have hb7 : Hid (Below U.heap.size U w7) := Lib.hid (Below.grown (b_alloc hb6.out (Nat.le_refl _) _) hgrow7' (by have h := hb6.out.size; first | omega | (simp [World.drew]; done) | (simp [World.drew]; omega)) (fun q hq => (owns_block (hown6.out) q hq).1))
                 obtain ⟨hu7, hf7⟩ := KC.out _ hb7.out
                 clear hown7' hgrow7' hob7')
              | (refine step_append_lie2 (by rfl) (.tmp 39) (.tmp 51) 35 (by rfl) U.heap.size 62 i0 _ 2 16 Try.underlying35 HI.out hz0 hz1 hz2 rfl (by omega) (.slice ao6 nb cap6) nb ys (by rfl) (hown6.out) (.slice (some ⟨U.heap.size + 1, 0, none⟩) 1 1) (U.heap.size + 1) (U.heap.size + 2) 1 [.int .i64 (x0 + s.t), .int .i64 (x2)] (by rfl) (hr6.out) (bk_one ⟨x0 + s.t, x2⟩) (nb + 1) rfl (by simp only [maxLen]; omega) (by omega) (by have h := hb6.out.size; first | omega | (simp [World.drew]; done) | (simp [World.drew]; omega)) ?_
                 intro ao7 cap7 w7 hown7' hgrow7' hob7'
                 have hown7 := Lib.hid hown7'
                 have hb7 : Hid (Below U.heap.size U w7) := Lib.hid (Below.grown (hb6.out) hgrow7' (by have h := hb6.out.size; first | omega | (simp [World.drew]; done) | (simp [World.drew]; omega)) (fun q hq => (owns_block (hown6.out) q hq).1))
                 obtain ⟨hu7, hf7⟩ := KC.out _ hb7.out
                 clear hown7' hgrow7' hob7')
              | (refine step_append_lie2 (by rfl) (.tmp 39) (.tmp 51) 35 (by rfl) U.heap.size 62 i0 _ 2 16 Try.underlying35 HI.out hz0 hz1 hz2 rfl (by omega) (.slice ao6 nb cap6) nb ys (by rfl) (hown6.out) (.slice (some ⟨U.heap.size + 1, 0, none⟩) 1 1) (U.heap.size + 1) (U.heap.size + 2) 1 [.int .i64 (x0 + s.t), .int .i64 (x2)] (by rfl) (hr6.out) (bk_one ⟨x0 + s.t, x2⟩) (nb + 1) rfl (by simp only [maxLen]; omega) (by omega) (by have h := hb6.out.size; first | omega | (simp [World.drew]; done) | (simp [World.drew]; omega)) ?_
                 intro ao7 cap7 w7 hown7' hgrow7' hob7'
                 have hown7 := Lib.hid hown7'
                 have hb7 : Hid (Below U.heap.size U w7) := Lib.hid (Below.grown (hb6.out.drew) hgrow7' (by have h := hb6.out.size; first | omega | (simp [World.drew]; done) | (simp [World.drew]; omega)) (fun q hq => (owns_block (hown6.out) q hq).1))
                 obtain ⟨hu7, hf7⟩ := KC.out _ hb7.out
                 clear hown7' hgrow7' hob7')
              | (refine step_append_lie2 (by rfl) (.tmp 39) (.tmp 51) 35 (by rfl) U.heap.size 62 i0 _ 2 16 Try.underlying35 HI.out hz0 hz1 hz2 rfl (by omega) (.slice ao6 nb cap6) nb ys (by rfl) (hown6.out) (.slice (some ⟨U.heap.size, 0, none⟩) 1 1) (U.heap.size) (U.heap.size + 1) 1 [.int .i64 (x0 + s.t), .int .i64 (x2)] (by rfl) (hr6.out) (bk_one ⟨x0 + s.t, x2⟩) (nb + 1) rfl (by simp only [maxLen]; omega) (by omega) (by have h := hb6.out.size; first | omega | (simp [World.drew]; done) | (simp [World.drew]; omega)) ?_
                 intro ao7 cap7 w7 hown7' hgrow7' hob7'
                 have hown7 := Lib.hid hown7'
                 have hb7 : Hid (Below U.heap.size U w7) := Lib.hid (Below.grown (hb6.out) hgrow7' (by have h := hb6.out.size; first | omega | (simp [World.drew]; done) | (simp [World.drew]; omega)) (fun q hq => (owns_block (hown6.out) q hq).1))
                 obtain ⟨hu7, hf7⟩ := KC.out _ hb7.out
                 clear hown7' hgrow7' hob7')
              | (refine step_append_lie2 (by rfl) (.tmp 39) (.tmp 51) 35 (by rfl) U.heap.size 62 i0 _ 2 16 Try.underlying35 HI.out hz0 hz1 hz2 rfl (by omega) (.slice ao6 nb cap6) nb ys (by rfl) (hown6.out) (.slice (some ⟨U.heap.size, 0, none⟩) 1 1) (U.heap.size) (U.heap.size + 1) 1 [.int .i64 (x0 + s.t), .int .i64 (x2)] (by rfl) (hr6.out) (bk_one ⟨x0 + s.t, x2⟩) (nb + 1) rfl (by simp only [maxLen]; omega) (by omega) (by have h := hb6.out.size; first | omega | (simp [World.drew]; done) | (simp [World.drew]; omega)) ?_
                 intro ao7 cap7 w7 hown7' hgrow7' hob7'
                 have hown7 := Lib.hid hown7'
                 have hb7 : Hid (Below U.heap.size U w7) := Lib.hid (Below.grown (hb6.out.drew) hgrow7' (by have h := hb6.out.size; first | omega | (simp [World.drew]; done) | (simp [World.drew]; omega)) (fun q hq => (owns_block (hown6.out) q hq).1))
                 obtain ⟨hu7, hf7⟩ := KC.out _ hb7.out
                 clear hown7' hgrow7' hob7'))
            refine hK.out _ _ ?_ (fun hHeld => ?_)
            · (first | exact c3 | exact KST.out _ _ hb7.out | exact KB.out _ hb7.out | exact KB.out _ hb6.out | exact KB.out _ (b_alloc hb6.out (Nat.le_refl _) _) | exact KB.out _ (by repeat first | exact Below.refl _ _ | refine Below.drew ?_ | refine b_alloc ?_ (Nat.le_refl _) _))
            clear hK K
            try simp only [Act.put, List.setIfInBounds_toArray, List.set_cons_zero, List.set_cons_succ]
            refine wpAnyH_takeE (i := 20) (d := some 53) (v := ?_) rfl rfl (by kernel_rfl) (by kernel_rfl) (by kernel_rfl) (fun _ _ _ h => h) (Or.inl ⟨by rfl, ?_⟩) (by assumption) ?_
            rotate_left
            · intro w hSw
              (try dsimp only at hSw)
              go_simp
              try (with_reducible rfl)
            simp only [Act.put, List.setIfInBounds_toArray, List.set_cons_zero, List.set_cons_succ]
            refine wpAnyH_takeE (i := 21) (d := some 54) (v := ?_) rfl rfl (by kernel_rfl) (by kernel_rfl) (by kernel_rfl) (fun _ _ _ h => h) (Or.inl ⟨by rfl, ?_⟩) (by assumption) ?_
            rotate_left
            · intro w hSw
              (try dsimp only at hSw)
              go_simp
              try (with_reducible rfl)
            simp only [Act.put, List.setIfInBounds_toArray, List.set_cons_zero, List.set_cons_succ]
            refine wpAnyH_ready (rs := [22]) (by kernel_rfl) (by simp) ?_
            refine AllReadyH.cons rfl (fun K hK => ?_) AllReadyH.nil
            go_simp
            refine hK.out _ _ ?_ (fun hHeld => ?_)
            · (first | exact c3 | exact KST.out _ _ hb7.out | exact KB.out _ hb7.out | exact KB.out _ hb6.out | exact KB.out _ (b_alloc hb6.out (Nat.le_refl _) _) | exact KB.out _ (by repeat first | exact Below.refl _ _ | refine Below.drew ?_ | refine b_alloc ?_ (Nat.le_refl _) _))
            clear hK K
            try simp only [Act.put, List.setIfInBounds_toArray, List.set_cons_zero, List.set_cons_succ]
            refine wpAnyH_done (by kernel_rfl) ?_ _
            refine NoPanic.normal ?_
            have hk7 := HKU.out.later hb7.out
            obtain ⟨t1, t2⟩ := hk7.backed (w0 := U) (ao := ao7) (cap := cap7) (en' := bks ++ [⟨x0 + s.t, x2⟩]) (GrowS.of_below hb7.out) HKU.out.lt (by
              have := ORow.of_owns hown7.out
              rw [HYS.out] at this
              simpa [HNB.out, Bk.cells] using this) (fun g hg => (World.ownsRow.lt hown7.out g (by rw [own_ob]; exact hg)).1)
            rw [show (bks ++ [(⟨x0 + s.t, x2⟩ : Bk)]).length = nb + 1 by rw [HNB.out]; simp] at t1 t2
            obtain ⟨Y, hY⟩ : ∃ Y, Y = w7.setCell ⟨H, 5, none⟩ (.slice ao7 (nb + 1) cap7) := ⟨_, rfl⟩
            rw [← hY] at t1 t2
            have T1 := Lib.hid t1
            have T2 := Lib.hid t2
            have HY := Lib.hid hY
            clear t1 t2 hY hk7
            rw [← HY.out]
            go_wp2_with fail
            go_roundw
            case rel =>
              rw [← HLA.out]
              refine ⟨k + 1, cap7, ao7, by omega, by go_num, Lib.hid ?_, Lib.hid (HGU.out.trans T2.out)⟩
              rw [HFS.out, HUS.out, HUB.out]
              exact T1.out
            case measure => simp [intOf]; omega
        · go_simp
          refine hK.out _ _ ?_ (fun hHeld => ?_)
          · (first | exact c3 | exact KST.out _ _ hb7.out | exact KB.out _ hb7.out | exact KB.out _ hb6.out | exact KB.out _ (b_alloc hb6.out (Nat.le_refl _) _) | exact KB.out _ (by repeat first | exact Below.refl _ _ | refine Below.drew ?_ | refine b_alloc ?_ (Nat.le_refl _) _))
          clear hK K
          try simp only [Act.put, List.setIfInBounds_toArray, List.set_cons_zero, List.set_cons_succ]
          refine wpAnyH_ready (rs := [1, 18]) (by kernel_rfl) (by simp) ?_
          refine AllReadyH.cons rfl (fun K hK => ?_) (AllReadyH.cons rfl (fun K hK => ?_) AllReadyH.nil)
          · go_simp
            refine hK.out _ _ ?_ (fun hHeld => ?_)
            · (first | exact c3 | exact KST.out _ _ hb7.out | exact KB.out _ hb7.out | exact KB.out _ hb6.out | exact KB.out _ (b_alloc hb6.out (Nat.le_refl _) _) | exact KB.out _ (by repeat first | exact Below.refl _ _ | refine Below.drew ?_ | refine b_alloc ?_ (Nat.le_refl _) _))
            clear hK K
            try simp only [Act.put, List.setIfInBounds_toArray, List.set_cons_zero, List.set_cons_succ]
            refine wpAnyH_ready (rs := [6, 18]) (by kernel_rfl) (by simp) ?_
            refine AllReadyH.cons rfl (fun K hK => ?_) (AllReadyH.cons rfl (fun K hK => ?_) AllReadyH.nil)
            · (first
                | (refine step_append_lie2 (by rfl) (.tmp 34) (.tmp 38) 35 (by rfl) U.heap.size 62 i0 _ 2 16 Try.underlying35 HI.out hz0 hz1 hz2 rfl (by omega) (.slice (some ⟨U.heap.size, 0, none⟩) 0 0) 0 [] (by rfl) ((HE0.out U (Below.refl _ _)).1) (.slice ba nb bc) (0) (U.heap.size) nb ys (by rfl) (HL.out _ (by repeat first | exact Below.refl _ _ | refine Below.drew ?_ | refine b_alloc ?_ (Nat.le_refl _) _)) HX1.out nb (by omega) (by simp only [maxLen]; omega) (by omega) (by first | omega | (simp [World.drew]; done) | (simp [World.drew]; omega)) ?_
                   intro ao6 cap6 w6 hown6' hgrow6' hob6'
                   have hown6 := Lib.hid (hown6' : w6.ownsRow U.heap.size 62 2 (.slice ao6 nb cap6) nb ys)
                   have hb6 : Hid (Below U.heap.size U w6) := Lib.hid (Below.grown (by repeat first | exact Below.refl _ _ | refine Below.drew ?_ | refine b_alloc ?_ (Nat.le_refl _) _) hgrow6' (by first | omega | (simp [World.drew]; done) | (simp [World.drew]; omega)) (fun q hq => by cases hq; exact Nat.le_refl _))
                   skip
                   clear hown6' hgrow6' hob6')
                | (refine step_append_lie2 (by rfl) (.tmp 34) (.tmp 38) 35 (by rfl) U.heap.size 62 i0 _ 2 16 Try.underlying35 HI.out hz0 hz1 hz2 rfl (by omega) (.slice (some ⟨U.heap.size, 0, none⟩) 0 0) 0 [] (by rfl) ((HE0.out U (Below.refl _ _)).2 _) (.slice ba nb bc) (0) (U.heap.size) nb ys (by rfl) (HL.out _ (by repeat first | exact Below.refl _ _ | refine Below.drew ?_ | refine b_alloc ?_ (Nat.le_refl _) _)) HX1.out nb (by omega) (by simp only [maxLen]; omega) (by omega) (by first | omega | (simp [World.drew]; done) | (simp [World.drew]; omega)) ?_
                   intro ao6 cap6 w6 hown6' hgrow6' hob6'
                   have hown6 := Lib.hid (hown6' : w6.ownsRow U.heap.size 62 2 (.slice ao6 nb cap6) nb ys)
                   have hb6 : Hid (Below U.heap.size U w6) := Lib.hid (Below.grown (by repeat first | exact Below.refl _ _ | refine Below.drew ?_ | refine b_alloc ?_ (Nat.le_refl _) _) hgrow6' (by first | omega | (simp [World.drew]; done) | (simp [World.drew]; omega)) (fun q hq => by cases hq; exact Nat.le_refl _))
                   have hr6 : Hid (Lies w6 (U.heap.size + 1) (U.heap.size + 2) (.slice (some ⟨U.heap.size + 1, 0, none⟩) 1 1) 1 2 [.int .i64 (x0 + s.t), .int .i64 (x2)]) := Lib.hid (one_lies (cs := #[.int .i64 (x0 + s.t), .int .i64 (x2)]) ((hgrow6'.block (U.heap.size + 1) (by first | omega | (simp [World.drew]; done) | (simp [World.drew]; omega)) (by simp [Value.ownBlock])).trans (by simpa [World.drew] using heap_alloc_new (U.alloc (.cells #[] 62)) (.cells #[.int .i64 (x0 + s.t), .int .i64 (x2)] 62))) rfl)
                   clear hown6' hgrow6' hob6')
                | (refine step_append_lie2 (by rfl) (.tmp 34) (.tmp 38) 35 (by rfl) U.heap.size 62 i0 _ 2 16 Try.underlying35 HI.out hz0 hz1 hz2 rfl (by omega) (.slice (some ⟨U.heap.size + 1, 0, none⟩) 0 0) 0 [] (by rfl) (by have h := (HE0.out (U.alloc (.cells #[.int .i64 (x0 + s.t), .int .i64 (x2)] 62)) (below1 _ _)).1; rw [show (U.alloc (.cells #[.int .i64 (x0 + s.t), .int .i64 (x2)] 62)).heap.size = U.heap.size + 1 by simp] at h; exact h) (.slice ba nb bc) (0) (U.heap.size) nb ys (by rfl) (HL.out _ (by repeat first | exact Below.refl _ _ | refine Below.drew ?_ | refine b_alloc ?_ (Nat.le_refl _) _)) HX1.out nb (by omega) (by simp only [maxLen]; omega) (by omega) (by first | omega | (simp [World.drew]; done) | (simp [World.drew]; omega)) ?_
                   intro ao6 cap6 w6 hown6' hgrow6' hob6'
                   have hown6 := Lib.hid (hown6' : w6.ownsRow U.heap.size 62 2 (.slice ao6 nb cap6) nb ys)
                   have hb6 : Hid (Below U.heap.size U w6) := Lib.hid (Below.grown (by repeat first | exact Below.refl _ _ | refine Below.drew ?_ | refine b_alloc ?_ (Nat.le_refl _) _) hgrow6' (by first | omega | (simp [World.drew]; done) | (simp [World.drew]; omega)) (fun q hq => by cases hq; exact Nat.le_succ _))
                   have hr6 : Hid (Lies w6 U.heap.size (U.heap.size + 1) (.slice (some ⟨U.heap.size, 0, none⟩) 1 1) 1 2 [.int .i64 (x0 + s.t), .int .i64 (x2)]) := Lib.hid (one_lies (cs := #[.int .i64 (x0 + s.t), .int .i64 (x2)]) ((hgrow6'.block U.heap.size (by first | omega | (simp [World.drew]; done) | (simp [World.drew]; omega)) (by simp [Value.ownBlock])).trans (((below1 (U.alloc (.cells #[.int .i64 (x0 + s.t), .int .i64 (x2)] 62)) (.cells #[] 62)).block U.heap.size (by simp)).trans (heap_alloc_new U (.cells #[.int .i64 (x0 + s.t), .int .i64 (x2)] 62)))) rfl)
                   clear hown6' hgrow6' hob6'))
              refine hK.out _ _ ?_ (fun hHeld => ?_)
              · (first | exact c3 | exact KST.out _ _ hb7.out | exact KB.out _ hb7.out | exact KB.out _ hb6.out | exact KB.out _ (b_alloc hb6.out (Nat.le_refl _) _) | exact KB.out _ (by repeat first | exact Below.refl _ _ | refine Below.drew ?_ | refine b_alloc ?_ (Nat.le_refl _) _))
              clear hK K
              try simp only [Act.put, List.setIfInBounds_toArray, List.set_cons_zero, List.set_cons_succ]
              refine wpAnyH_ready (rs := [18]) (by kernel_rfl) (by simp) ?_
              refine AllReadyH.cons rfl (fun K hK => ?_) AllReadyH.nil
              go_simp
              refine hK.out _ _ ?_ (fun hHeld => ?_)
              · (first | exact c3 | exact KST.out _ _ hb7.out | exact KB.out _ hb7.out | exact KB.out _ hb6.out | exact KB.out _ (b_alloc hb6.out (Nat.le_refl _) _) | exact KB.out _ (by repeat first | exact Below.refl _ _ | refine Below.drew ?_ | refine b_alloc ?_ (Nat.le_refl _) _))
              clear hK K
              try simp only [Act.put, List.setIfInBounds_toArray, List.set_cons_zero, List.set_cons_succ]
              refine wpAnyH_ready (rs := [19]) (by kernel_rfl) (by simp) ?_
              refine AllReadyH.cons rfl (fun K hK => ?_) AllReadyH.nil
              (first
                | (refine step_append_lie2 (by rfl) (.tmp 39) (.tmp 51) 35 (by rfl) U.heap.size 62 i0 _ 2 16 Try.underlying35 HI.out hz0 hz1 hz2 rfl (by omega) (.slice ao6 nb cap6) nb ys (by rfl) (owns_later hown6.out (below1 _ _)) (.slice (some ⟨w6.heap.size, 0, none⟩) 1 1) (w6.heap.size) (w6.heap.size + 1) 1 [.int .i64 (x0 + s.t), .int .i64 (x2)] (by rfl) (one_lies (cs := #[.int .i64 (x0 + s.t), .int .i64 (x2)]) (heap_alloc_new w6 _) rfl) (bk_one ⟨x0 + s.t, x2⟩) (nb + 1) rfl (by simp only [maxLen]; omega) (by omega) (by have h := hb6.out.size; first | omega | (simp [World.drew]; done) | (simp [World.drew]; omega)) ?_
                   intro ao7 cap7 w7 hown7' hgrow7' hob7'
                   have hown7 := Lib.hid hown7'
                   have hb7 : Hid (Below U.heap.size U w7) := Lib.hid (Below.grown ((b_alloc hb6.out (Nat.le_refl _) _).drew) hgrow7' (by have h := hb6.out.size; first | omega | (simp [World.drew]; done) | (simp [World.drew]; omega)) (fun q hq => (owns_block (hown6.out) q hq).1))
                   obtain ⟨hu7, hf7⟩ := KC.out _ hb7.out
                   clear hown7' hgrow7' hob7')
                | (refine step_append_lie2 (by rfl) (.tmp 39) (.tmp 51) 35 (by rfl) U.heap.size 62 i0 _ 2 16 Try.underlying35 HI.out hz0 hz1 hz2 rfl (by omega) (.slice ao6 nb cap6) nb ys (by rfl) (owns_later hown6.out (below1 _ _)) (.slice (some ⟨w6.heap.size, 0, none⟩) 1 1) (w6.heap.size) (w6.heap.size + 1) 1 [.int .i64 (x0 + s.t), .int .i64 (x2)] (by rfl) (one_lies (cs := #[.int .i64 (x0 + s.t), .int .i64 (x2)]) (heap_alloc_new w6 _) rfl) (bk_one ⟨x0 + s.t, x2⟩) (nb + 1) rfl (by simp only [maxLen]; omega) (by omega) (by have h := hb6.out.size; first | omega | (simp [World.drew]; done) | (simp [World.drew]; omega)) ?_
                   intro ao7 cap7 w7 hown7' hgrow7' hob7'
                   have hown7 := Lib.hid hown7'
                   have hb7 : Hid (Below U.heap.size U w7) := Lib.hid (Below.grown (b_alloc hb6.out (Nat.le_refl _) _) hgrow7' (by have h := hb6.out.size; first | omega | (simp [World.drew]; done) | (simp [World.drew]; omega)) (fun q hq => (owns_block (hown6.out) q hq).1))
                   obtain ⟨hu7, hf7⟩ := KC.out _ hb7.out
                   clear hown7' hgrow7' hob7')
                | (refine step_append_lie2 (by rfl) (.tmp 39) (.tmp 51) 35 (by rfl) U.heap.size 62 i0 _ 2 16 Try.underlying35 HI.out hz0 hz1 hz2 rfl (by omega) (.slice ao6 nb cap6) nb ys (by rfl) (hown6.out) (.slice (some ⟨U.heap.size + 1, 0, none⟩) 1 1) (U.heap.size + 1) (U.heap.size + 2) 1 [.int .i64 (x0 + s.t), .int .i64 (x2)] (by rfl) (hr6.out) (bk_one ⟨x0 + s.t, x2⟩) (nb + 1) rfl (by simp only [maxLen]; omega) (by omega) (by have h := hb6.out.size; first | omega | (simp [World.drew]; done) | (simp [World.drew]; omega)) ?_
                   intro ao7 cap7 w7 hown7' hgrow7' hob7'
                   have hown7 := Lib.hid hown7'
                   have hb7 : Hid (Below U.heap.size U w7) := Lib.hid (Below.grown (hb6.out) hgrow7' (by have h := hb6.out.size; first | omega | (simp [World.drew]; done) | (simp [World.drew]; omega)) (fun q hq => (owns_block (hown6.out) q hq).1))
                   obtain ⟨hu7, hf7⟩ := KC.out _ hb7.out
                   clear hown7' hgrow7' hob7')
                | (refine step_append_lie2 (by rfl) (.tmp 39) (.tmp 51) 35 (by rfl) U.heap.size 62 i0 _ 2 16 Try.underlying35 HI.out hz0 hz1 hz2 rfl (by omega) (.slice ao6 nb cap6) nb ys (by rfl) (hown6.out) (.slice (some ⟨U.heap.size + 1, 0, none⟩) 1 1) (U.heap.size + 1) (U.heap.size + 2) 1 [.int .i64 (x0 + s.t), .int .i64 (x2)] (by rfl) (hr6.out) (bk_one ⟨x0 + s.t, x2⟩) (nb + 1) rfl (by simp only [maxLen]; omega) (by omega) (by have h := hb6.out.size; first | omega | (simp [World.drew]; done) | (simp [World.drew]; omega)) ?_
                   intro ao7 cap7 w7 hown7' hgrow7' hob7'
                   have hown7 := Lib.hid hown7'
                   have hb7 : Hid (Below U.heap.size U w7) := Lib.hid (Below.grown (hb6.out.drew) hgrow7' (by have h := hb6.out.size; first | omega | (simp [World.drew]; done) | (simp [World.drew]; omega)) (fun q hq => (owns_block (hown6.out) q hq).1))
                   obtain ⟨hu7, hf7⟩ := KC.out _ hb7.out
                   clear hown7' hgrow7' hob7')
                | (refine step_append_lie2 (by rfl) (.tmp 39) (.tmp 51) 35 (by rfl) U.heap.size 62 i0 _ 2 16 Try.underlying35 HI.out hz0 hz1 hz2 rfl (by omega) (.slice ao6 nb cap6) nb ys (by rfl) (hown6.out) (.slice (some ⟨U.heap.size, 0, none⟩) 1 1) (U.heap.size) (U.heap.size + 1) 1 [.int .i64 (x0 + s.t), .int .i64 (x2)] (by rfl) (hr6.out) (bk_one ⟨x0 + s.t, x2⟩) (nb + 1) rfl (by simp only [maxLen]; omega) (by omega) (by have h := hb6.out.size; first | omega | (simp [World.drew]; done) | (simp [World.drew]; omega)) ?_
                   intro ao7 cap7 w7 hown7' hgrow7' hob7'
                   have hown7 := Lib.hid hown7'
                   have hb7 : Hid (Below U.heap.size U w7) := Lib.hid (Below.grown (hb6.out) hgrow7' (by have h := hb6.out.size; first | omega | (simp [World.drew]; done) | (simp [World.drew]; omega)) (fun q hq => (owns_block (hown6.out) q hq).1))
                   obtain ⟨hu7, hf7⟩ := KC.out _ hb7.out
                   clear hown7' hgrow7' hob7')
                | (refine step_append_lie2 (by rfl) (.tmp 39) (.tmp 51) 35 (by rfl) U.heap.size 62 i0 _ 2 16 Try.underlying35 HI.out hz0 hz1 hz2 rfl (by omega) (.slice ao6 nb cap6) nb ys (by rfl) (hown6.out) (.slice (some ⟨U.heap.size, 0, none⟩) 1 1) (U.heap.size) (U.heap.size + 1) 1 [.int .i64 (x0 + s.t), .int .i64 (x2)] (by rfl) (hr6.out) (bk_one ⟨x0 + s.t, x2⟩) (nb + 1) rfl (by simp only [maxLen]; omega) (by omega) (by have h := hb6.out.size; first | omega | (simp [World.drew]; done) | (simp [World.drew]; omega)) ?_
                   intro ao7 cap7 w7 hown7' hgrow7' hob7'
                   have hown7 := Lib.hid hown7'
                   have hb7 : Hid (Below U.heap.size U w7) := Lib.hid (Below.grown (hb6.out.drew) hgrow7' (by have h := hb6.out.size; first | omega | (simp [World.drew]; done) | (simp [World.drew]; omega)) (fun q hq => (owns_block (hown6.out) q hq).1))
                   obtain ⟨hu7, hf7⟩ := KC.out _ hb7.out
                   clear hown7' hgrow7' hob7'))
              refine hK.out _ _ ?_ (fun hHeld => ?_)
              · (first | exact c3 | exact KST.out _ _ hb7.out | exact KB.out _ hb7.out | exact KB.out _ hb6.out | exact KB.out _ (b_alloc hb6.out (Nat.le_refl _) _) | exact KB.out _ (by repeat first | exact Below.refl _ _ | refine Below.drew ?_ | refine b_alloc ?_ (Nat.le_refl _) _))
              clear hK K
              try simp only [Act.put, List.setIfInBounds_toArray, List.set_cons_zero, List.set_cons_succ]
              refine wpAnyH_takeE (i := 20) (d := some 53) (v := ?_) rfl rfl (by kernel_rfl) (by kernel_rfl) (by kernel_rfl) (fun _ _ _ h => h) (Or.inl ⟨by rfl, ?_⟩) (by assumption) ?_
              rotate_left
              · intro w hSw
                (try dsimp only at hSw)
                go_simp
                try (with_reducible rfl)
              simp only [Act.put, List.setIfInBounds_toArray, List.set_cons_zero, List.set_cons_succ]
              refine wpAnyH_takeE (i := 21) (d := some 54) (v := ?_) rfl rfl (by kernel_rfl) (by kernel_rfl) (by kernel_rfl) (fun _ _ _ h => h) (Or.inl ⟨by rfl, ?_⟩) (by assumption) ?_
              rotate_left
              · intro w hSw
                (try dsimp only at hSw)
                go_simp
                try (with_reducible rfl)
              simp only [Act.put, List.setIfInBounds_toArray, List.set_cons_zero, List.set_cons_succ]
              refine wpAnyH_ready (rs := [22]) (by kernel_rfl) (by simp) ?_
              refine AllReadyH.cons rfl (fun K hK => ?_) AllReadyH.nil
              go_simp
              refine hK.out _ _ ?_ (fun hHeld => ?_)
              · (first | exact c3 | exact KST.out _ _ hb7.out | exact KB.out _ hb7.out | exact KB.out _ hb6.out | exact KB.out _ (b_alloc hb6.out (Nat.le_refl _) _) | exact KB.out _ (by repeat first | exact Below.refl _ _ | refine Below.drew ?_ | refine b_alloc ?_ (Nat.le_refl _) _))
              clear hK K
              try simp only [Act.put, List.setIfInBounds_toArray, List.set_cons_zero, List.set_cons_succ]
              refine wpAnyH_done (by kernel_rfl) ?_ _
              refine NoPanic.normal ?_
              have hk7 := HKU.out.later hb7.out
              obtain ⟨t1, t2⟩ := hk7.backed (w0 := U) (ao := ao7) (cap := cap7) (en' := bks ++ [⟨x0 + s.t, x2⟩]) (GrowS.of_below hb7.out) HKU.out.lt (by
                have := ORow.of_owns hown7.out
                rw [HYS.out] at this
                simpa [HNB.out, Bk.cells] using this) (fun g hg => (World.ownsRow.lt hown7.out g (by rw [own_ob]; exact hg)).1)
              rw [show (bks ++ [(⟨x0 + s.t, x2⟩ : Bk)]).length = nb + 1 by rw [HNB.out]; simp] at t1 t2
              obtain ⟨Y, hY⟩ : ∃ Y, Y = w7.setCell ⟨H, 5, none⟩ (.slice ao7 (nb + 1) cap7) := ⟨_, rfl⟩
              rw [← hY] at t1 t2
              have T1 := Lib.hid t1
              have T2 := Lib.hid t2
              have HY := Lib.hid hY
              clear t1 t2 hY hk7
              rw [← HY.out]
              go_wp2_with fail
              go_roundw
              case rel =>
                rw [← HLA.out]
                refine ⟨k + 1, cap7, ao7, by omega, by go_num, Lib.hid ?_, Lib.hid (HGU.out.trans T2.out)⟩
                rw [HFS.out, HUS.out, HUB.out]
                exact T1.out
              case measure => simp [intOf]; omega
            · go_simp
              refine hK.out _ _ ?_ (fun hHeld => ?_)
              · (first | exact c3 | exact KST.out _ _ hb7.out | exact KB.out _ hb7.out | exact KB.out _ hb6.out | exact KB.out _ (b_alloc hb6.out (Nat.le_refl _) _) | exact KB.out _ (by repeat first | exact Below.refl _ _ | refine Below.drew ?_ | refine b_alloc ?_ (Nat.le_refl _) _))
              clear hK K
              try simp only [Act.put, List.setIfInBounds_toArray, List.set_cons_zero, List.set_cons_succ]
              refine wpAnyH_ready (rs := [6]) (by kernel_rfl) (by simp) ?_
              refine AllReadyH.cons rfl (fun K hK => ?_) AllReadyH.nil
              (first
                | (refine step_append_lie2 (by rfl) (.tmp 34) (.tmp 38) 35 (by rfl) U.heap.size 62 i0 _ 2 16 Try.underlying35 HI.out hz0 hz1 hz2 rfl (by omega) (.slice (some ⟨U.heap.size, 0, none⟩) 0 0) 0 [] (by rfl) ((HE0.out U (Below.refl _ _)).1) (.slice ba nb bc) (0) (U.heap.size) nb ys (by rfl) (HL.out _ (by repeat first | exact Below.refl _ _ | refine Below.drew ?_ | refine b_alloc ?_ (Nat.le_refl _) _)) HX1.out nb (by omega) (by simp only [maxLen]; omega) (by omega) (by first | omega | (simp [World.drew]; done) | (simp [World.drew]; omega)) ?_
                   intro ao6 cap6 w6 hown6' hgrow6' hob6'
                   have hown6 := Lib.hid (hown6' : w6.ownsRow U.heap.size 62 2 (.slice ao6 nb cap6) nb ys)
                   have hb6 : Hid (Below U.heap.size U w6) := Lib.hid (Below.grown (by repeat first | exact Below.refl _ _ | refine Below.drew ?_ | refine b_alloc ?_ (Nat.le_refl _) _) hgrow6' (by first | omega | (simp [World.drew]; done) | (simp [World.drew]; omega)) (fun q hq => by cases hq; exact Nat.le_refl _))
                   skip
                   clear hown6' hgrow6' hob6')
                | (refine step_append_lie2 (by rfl) (.tmp 34) (.tmp 38) 35 (by rfl) U.heap.size 62 i0 _ 2 16 Try.underlying35 HI.out hz0 hz1 hz2 rfl (by omega) (.slice (some ⟨U.heap.size, 0, none⟩) 0 0) 0 [] (by rfl) ((HE0.out U (Below.refl _ _)).2 _) (.slice ba nb bc) (0) (U.heap.size) nb ys (by rfl) (HL.out _ (by repeat first | exact Below.refl _ _ | refine Below.drew ?_ | refine b_alloc ?_ (Nat.le_refl _) _)) HX1.out nb (by omega) (by simp only [maxLen]; omega) (by omega) (by first | omega | (simp [World.drew]; done) | (simp [World.drew]; omega)) ?_
                   intro ao6 cap6 w6 hown6' hgrow6' hob6'
                   have hown6 := Lib.hid (hown6' : w6.ownsRow U.heap.size 62 2 (.slice ao6 nb cap6) nb ys)
                   have hb6 : Hid (Below U.heap.size U w6) := Lib.hid (Below.grown (by repeat first | exact Below.refl _ _ | refine Below.drew ?_ | refine b_alloc ?_ (Nat.le_refl _) _) hgrow6' (by first | omega | (simp [World.drew]; done) | (simp [World.drew]; omega)) (fun q hq => by cases hq; exact Nat.le_refl _))
                   have hr6 : Hid (Lies w6 (U.heap.size + 1) (U.heap.size + 2) (.slice (some ⟨U.heap.size + 1, 0, none⟩) 1 1) 1 2 [.int .i64 (x0 + s.t), .int .i64 (x2)]) := Lib.hid (one_lies (cs := #[.int .i64 (x0 + s.t), .int .i64 (x2)]) ((hgrow6'.block (U.heap.size + 1) (by first | omega | (simp [World.drew]; done) | (simp [World.drew]; omega)) (by simp [Value.ownBlock])).trans (by simpa [World.drew] using heap_alloc_new (U.alloc (.cells #[] 62)) (.cells #[.int .i64 (x0 + s.t), .int .i64 (x2)] 62))) rfl)
                   clear hown6' hgrow6' hob6')
                | (refine step_append_lie2 (by rfl) (.tmp 34) (.tmp 38) 35 (by rfl) U.heap.size 62 i0 _ 2 16 Try.underlying35 HI.out hz0 hz1 hz2 rfl (by omega) (.slice (some ⟨U.heap.size + 1, 0, none⟩) 0 0) 0 [] (by rfl) (by have h := (HE0.out (U.alloc (.cells #[.int .i64 (x0 + s.t), .int .i64 (x2)] 62)) (below1 _ _)).1; rw [show (U.alloc (.cells #[.int .i64 (x0 + s.t), .int .i64 (x2)] 62)).heap.size = U.heap.size + 1 by simp] at h; exact h) (.slice ba nb bc) (0) (U.heap.size) nb ys (by rfl) (HL.out _ (by repeat first | exact Below.refl _ _ | refine Below.drew ?_ | refine b_alloc ?_ (Nat.le_refl _) _)) HX1.out nb (by omega) (by simp only [maxLen]; omega) (by omega) (by first | omega | (simp [World.drew]; done) | (simp [World.drew]; omega)) ?_
                   intro ao6 cap6 w6 hown6' hgrow6' hob6'
                   have hown6 := Lib.hid (hown6' : w6.ownsRow U.heap.size 62 2 (.slice ao6 nb cap6) nb ys)
                   have hb6 : Hid (Below U.heap.size U w6) := Lib.hid (Below.grown (by repeat first | exact Below.refl _ _ | refine Below.drew ?_ | refine b_alloc ?_ (Nat.le_refl _) _) hgrow6' (by first | omega | (simp [World.drew]; done) | (simp [World.drew]; omega)) (fun q hq => by cases hq; exact Nat.le_succ _))
                   have hr6 : Hid (Lies w6 U.heap.size (U.heap.size + 1) (.slice (some ⟨U.heap.size, 0, none⟩) 1 1) 1 2 [.int .i64 (x0 + s.t), .int .i64 (x2)]) := Lib.hid (one_lies (cs := #[.int .i64 (x0 + s.t), .int .i64 (x2)]) ((hgrow6'.block U.heap.size (by first | omega | (simp [World.drew]; done) | (simp [World.drew]; omega)) (by simp [Value.ownBlock])).trans (((below1 (U.alloc (.cells #[.int .i64 (x0 + s.t), .int .i64 (x2)] 62)) (.cells #[] 62)).block U.heap.size (by simp)).trans (heap_alloc_new U (.cells #[.int .i64 (x0 + s.t), .int .i64 (x2)] 62)))) rfl)
                   clear hown6' hgrow6' hob6'))
              refine hK.out _ _ ?_ (fun hHeld => ?_)
              · (first | exact c3 | exact KST.out _ _ hb7.out | exact KB.out _ hb7.out | exact KB.out _ hb6.out | exact KB.out _ (b_alloc hb6.out (Nat.le_refl _) _) | exact KB.out _ (by repeat first | exact Below.refl _ _ | refine Below.drew ?_ | refine b_alloc ?_ (Nat.le_refl _) _))
              clear hK K
              try simp only [Act.put, List.setIfInBounds_toArray, List.set_cons_zero, List.set_cons_succ]
              refine wpAnyH_ready (rs := [19]) (by kernel_rfl) (by simp) ?_
              refine AllReadyH.cons rfl (fun K hK => ?_) AllReadyH.nil
              (first
                | (refine step_append_lie2 (by rfl) (.tmp 39) (.tmp 51) 35 (by rfl) U.heap.size 62 i0 _ 2 16 Try.underlying35 HI.out hz0 hz1 hz2 rfl (by omega) (.slice ao6 nb cap6) nb ys (by rfl) (owns_later hown6.out (below1 _ _)) (.slice (some ⟨w6.heap.size, 0, none⟩) 1 1) (w6.heap.size) (w6.heap.size + 1) 1 [.int .i64 (x0 + s.t), .int .i64 (x2)] (by rfl) (one_lies (cs := #[.int .i64 (x0 + s.t), .int .i64 (x2)]) (heap_alloc_new w6 _) rfl) (bk_one ⟨x0 + s.t, x2⟩) (nb + 1) rfl (by simp only [maxLen]; omega) (by omega) (by have h := hb6.out.size; first | omega | (simp [World.drew]; done) | (simp [World.drew]; omega)) ?_
                   intro ao7 cap7 w7 hown7' hgrow7' hob7'
                   have hown7 := Lib.hid hown7'
                   have hb7 : Hid (Below U.heap.size U w7) := Lib.hid (Below.grown ((b_alloc hb6.out (Nat.le_refl _) _).drew) hgrow7' (by have h := hb6.out.size; first | omega | (simp [World.drew]; done) | (simp [World.drew]; omega)) (fun q hq => (owns_block (hown6.out) q hq).1))
                   obtain ⟨hu7, hf7⟩ := KC.out _ hb7.out
                   clear hown7' hgrow7' hob7')
                | (refine step_append_lie2 (by rfl) (.tmp 39) (.tmp 51) 35 (by rfl) U.heap.size 62 i0 _ 2 16 Try.underlying35 HI.out hz0 hz1 hz2 rfl (by omega) (.slice ao6 nb cap6) nb ys (by rfl) (owns_later hown6.out (below1 _ _)) (.slice (some ⟨w6.heap.size, 0, none⟩) 1 1) (w6.heap.size) (w6.heap.size + 1) 1 [.int .i64 (x0 + s.t), .int .i64 (x2)] (by rfl) (one_lies (cs := #[.int .i64 (x0 + s.t), .int .i64 (x2)]) (heap_alloc_new w6 _) rfl) (bk_one ⟨x0 + s.t, x2⟩) (nb + 1) rfl (by simp only [maxLen]; omega) (by omega) (by have h := hb6.out.size; first | omega | (simp [World.drew]; done) | (simp [World.drew]; omega)) ?_
                   intro ao7 cap7 w7 hown7' hgrow7' hob7'
                   have hown7 := Lib.hid hown7'
                   have hb7 : Hid (Below U.heap.size U w7) := Lib.hid (Below.grown (b_alloc hb6.out (Nat.le_refl _) _) hgrow7' (by have h := hb6.out.size; first | omega | (simp [World.drew]; done) | (simp [World.drew]; omega)) (fun q hq => (owns_block (hown6.out) q hq).1))
                   obtain ⟨hu7, hf7⟩ := KC.out _ hb7.out
                   clear hown7' hgrow7' hob7')
                | (refine step_append_lie2 (by rfl) (.tmp 39) (.tmp 51) 35 (by rfl) U.heap.size 62 i0 _ 2 16 Try.underlying35 HI.out hz0 hz1 hz2 rfl (by omega) (.slice ao6 nb cap6) nb ys (by rfl) (hown6.out) (.slice (some ⟨U.heap.size + 1, 0, none⟩) 1 1) (U.heap.size + 1) (U.heap.size + 2) 1 [.int .i64 (x0 + s.t), .int .i64 (x2)] (by rfl) (hr6.out) (bk_one ⟨x0 + s.t, x2⟩) (nb + 1) rfl (by simp only [maxLen]; omega) (by omega) (by have h := hb6.out.size; first | omega | (simp [World.drew]; done) | (simp [World.drew]; omega)) ?_
                   intro ao7 cap7 w7 hown7' hgrow7' hob7'
                   have hown7 := Lib.hid hown7'
                   have hb7 : Hid (Below U.heap.size U w7) := Lib.hid (Below.grown (hb6.out) hgrow7' (by have h := hb6.out.size; first | omega | (simp [World.drew]; done) | (simp [World.drew]; omega)) (fun q hq => (owns_block (hown6.out) q hq).1))
                   obtain ⟨hu7, hf7⟩ := KC.out _ hb7.out
                   clear hown7' hgrow7' hob7')
                | (refine step_append_lie2 (by rfl) (.tmp 39) (.tmp 51) 35 (by rfl) U.heap.size 62 i0 _ 2 16 Try.underlying35 HI.out hz0 hz1 hz2 rfl (by omega) (.slice ao6 nb cap6) nb ys (by rfl) (hown6.out) (.slice (some ⟨U.heap.size + 1, 0, none⟩) 1 1) (U.heap.size + 1) (U.heap.size + 2) 1 [.int .i64 (x0 + s.t), .int .i64 (x2)] (by rfl) (hr6.out) (bk_one ⟨x0 + s.t, x2⟩) (nb + 1) rfl (by simp only [maxLen]; omega) (by omega) (by have h := hb6.out.size; first | omega | (simp [World.drew]; done) | (simp [World.drew]; omega)) ?_
                   intro ao7 cap7 w7 hown7' hgrow7' hob7'
                   have hown7 := Lib.hid hown7'
                   have hb7 : Hid (Below U.heap.size U w7) := Lib.hid (Below.grown (hb6.out.drew) hgrow7' (by have h := hb6.out.size; first | omega | (simp [World.drew]; done) | (simp [World.drew]; omega)) (fun q hq => (owns_block (hown6.out) q hq).1))
                   obtain ⟨hu7, hf7⟩ := KC.out _ hb7.out
                   clear hown7' hgrow7' hob7')
                | (refine step_append_lie2 (by rfl) (.tmp 39) (.tmp 51) 35 (by rfl) U.heap.size 62 i0 _ 2 16 Try.underlying35 HI.out hz0 hz1 hz2 rfl (by omega) (.slice ao6 nb cap6) nb ys (by rfl) (hown6.out) (.slice (some ⟨U.heap.size, 0, none⟩) 1 1) (U.heap.size) (U.heap.size + 1) 1 [.int .i64 (x0 + s.t), .int .i64 (x2)] (by rfl) (hr6.out) (bk_one ⟨x0 + s.t, x2⟩) (nb + 1) rfl (by simp only [maxLen]; omega) (by omega) (by have h := hb6.out.size; first | omega | (simp [World.drew]; done) | (simp [World.drew]; omega)) ?_
                   intro ao7 cap7 w7 hown7' hgrow7' hob7'
                   have hown7 := Lib.hid hown7'
                   have hb7 : Hid (Below U.heap.size U w7) := Lib.hid (Below.grown (hb6.out) hgrow7' (by have h := hb6.out.size; first | omega | (simp [World.drew]; done) | (simp [World.drew]; omega)) (fun q hq => (owns_block (hown6.out) q hq).1))
                   obtain ⟨hu7, hf7⟩ := KC.out _ hb7.out
                   clear hown7' hgrow7' hob7')
                | (refine step_append_lie2 (by rfl) (.tmp 39) (.tmp 51) 35 (by rfl) U.heap.size 62 i0 _ 2 16 Try.underlying35 HI.out hz0 hz1 hz2 rfl (by omega) (.slice ao6 nb cap6) nb ys (by rfl) (hown6.out) (.slice (some ⟨U.heap.size, 0, none⟩) 1 1) (U.heap.size) (U.heap.size + 1) 1 [.int .i64 (x0 + s.t), .int .i64 (x2)] (by rfl) (hr6.out) (bk_one ⟨x0 + s.t, x2⟩) (nb + 1) rfl (by simp only [maxLen]; omega) (by omega) (by have h := hb6.out.size; first | omega | (simp [World.drew]; done) | (simp [World.drew]; omega)) ?_
                   intro ao7 cap7 w7 hown7' hgrow7' hob7'
                   have hown7 := Lib.hid hown7'
                   have hb7 : Hid (Below U.heap.size U w7) := Lib.hid (Below.grown (hb6.out.drew) hgrow7' (by have h := hb6.out.size; first | omega | (simp [World.drew]; done) | (simp [World.drew]; omega)) (fun q hq => (owns_block (hown6.out) q hq).1))
                   obtain ⟨hu7, hf7⟩ := KC.out _ hb7.out
                   clear hown7' hgrow7' hob7'))
              refine hK.out _ _ ?_ (fun hHeld => ?_)
              · (first | exact c3 | exact KST.out _ _ hb7.out | exact KB.out _ hb7.out | exact KB.out _ hb6.out | exact KB.out _ (b_alloc hb6.out (Nat.le_refl _) _) | exact KB.out _ (by repeat first | exact Below.refl _ _ | refine Below.drew ?_ | refine b_alloc ?_ (Nat.le_refl _) _))
              clear hK K
              try simp only [Act.put, List.setIfInBounds_toArray, List.set_cons_zero, List.set_cons_succ]
              refine wpAnyH_takeE (i := 20) (d := some 53) (v := ?_) rfl rfl (by kernel_rfl) (by kernel_rfl) (by kernel_rfl) (fun _ _ _ h => h) (Or.inl ⟨by rfl, ?_⟩) (by assumption) ?_
              rotate_left
              · intro w hSw
                (try dsimp only at hSw)
                go_simp
                try (with_reducible rfl)
              simp only [Act.put, List.setIfInBounds_toArray, List.set_cons_zero, List.set_cons_succ]
              refine wpAnyH_takeE (i := 21) (d := some 54) (v := ?_) rfl rfl (by kernel_rfl) (by kernel_rfl) (by kernel_rfl) (fun _ _ _ h => h) (Or.inl ⟨by rfl, ?_⟩) (by assumption) ?_
              rotate_left
              · intro w hSw
                (try dsimp only at hSw)
                go_simp
                try (with_reducible rfl)
              simp only [Act.put, List.setIfInBounds_toArray, List.set_cons_zero, List.set_cons_succ]
              refine wpAnyH_ready (rs := [22]) (by kernel_rfl) (by simp) ?_
              refine AllReadyH.cons rfl (fun K hK => ?_) AllReadyH.nil
              go_simp
              refine hK.out _ _ ?_ (fun hHeld => ?_)
              · (first | exact c3 | exact KST.out _ _ hb7.out | exact KB.out _ hb7.out | exact KB.out _ hb6.out | exact KB.out _ (b_alloc hb6.out (Nat.le_refl _) _) | exact KB.out _ (by repeat first | exact Below.refl _ _ | refine Below.drew ?_ | refine b_alloc ?_ (Nat.le_refl _) _))
              clear hK K
              try simp only [Act.put, List.setIfInBounds_toArray, List.set_cons_zero, List.set_cons_succ]
              refine wpAnyH_done (by kernel_rfl) ?_ _
              refine NoPanic.normal ?_
              have hk7 := HKU.out.later hb7.out
              obtain ⟨t1, t2⟩ := hk7.backed (w0 := U) (ao := ao7) (cap := cap7) (en' := bks ++ [⟨x0 + s.t, x2⟩]) (GrowS.of_below hb7.out) HKU.out.lt (by
                have := ORow.of_owns hown7.out
                rw [HYS.out] at this
                simpa [HNB.out, Bk.cells] using this) (fun g hg => (World.ownsRow.lt hown7.out g (by rw [own_ob]; exact hg)).1)
              rw [show (bks ++ [(⟨x0 + s.t, x2⟩ : Bk)]).length = nb + 1 by rw [HNB.out]; simp] at t1 t2
              obtain ⟨Y, hY⟩ : ∃ Y, Y = w7.setCell ⟨H, 5, none⟩ (.slice ao7 (nb + 1) cap7) := ⟨_, rfl⟩
              rw [← hY] at t1 t2
              have T1 := Lib.hid t1
              have T2 := Lib.hid t2
              have HY := Lib.hid hY
              clear t1 t2 hY hk7
              rw [← HY.out]
              go_wp2_with fail
              go_roundw
              case rel =>
                rw [← HLA.out]
                refine ⟨k + 1, cap7, ao7, by omega, by go_num, Lib.hid ?_, Lib.hid (HGU.out.trans T2.out)⟩
                rw [HFS.out, HUS.out, HUB.out]
                exact T1.out
              case measure => simp [intOf]; omega
          · go_simp
            refine hK.out _ _ ?_ (fun hHeld => ?_)
            · (first | exact c3 | exact KST.out _ _ hb7.out | exact KB.out _ hb7.out | exact KB.out _ hb6.out | exact KB.out _ (b_alloc hb6.out (Nat.le_refl _) _) | exact KB.out _ (by repeat first | exact Below.refl _ _ | refine Below.drew ?_ | refine b_alloc ?_ (Nat.le_refl _) _))
            clear hK K
            try simp only [Act.put, List.setIfInBounds_toArray, List.set_cons_zero, List.set_cons_succ]
            refine wpAnyH_ready (rs := [1]) (by kernel_rfl) (by simp) ?_
            refine AllReadyH.cons rfl (fun K hK => ?_) AllReadyH.nil
            go_simp
            refine hK.out _ _ ?_ (fun hHeld => ?_)
            · (first | exact c3 | exact KST.out _ _ hb7.out | exact KB.out _ hb7.out | exact KB.out _ hb6.out | exact KB.out _ (b_alloc hb6.out (Nat.le_refl _) _) | exact KB.out _ (by repeat first | exact Below.refl _ _ | refine Below.drew ?_ | refine b_alloc ?_ (Nat.le_refl _) _))
            clear hK K
            try simp only [Act.put, List.setIfInBounds_toArray, List.set_cons_zero, List.set_cons_succ]
            refine wpAnyH_ready (rs := [6]) (by kernel_rfl) (by simp) ?_
            refine AllReadyH.cons rfl (fun K hK => ?_) AllReadyH.nil
            (first
              | (refine step_append_lie2 (by rfl) (.tmp 34) (.tmp 38) 35 (by rfl) U.heap.size 62 i0 _ 2 16 Try.underlying35 HI.out hz0 hz1 hz2 rfl (by omega) (.slice (some ⟨U.heap.size, 0, none⟩) 0 0) 0 [] (by rfl) ((HE0.out U (Below.refl _ _)).1) (.slice ba nb bc) (0) (U.heap.size) nb ys (by rfl) (HL.out _ (by repeat first | exact Below.refl _ _ | refine Below.drew ?_ | refine b_alloc ?_ (Nat.le_refl _) _)) HX1.out nb (by omega) (by simp only [maxLen]; omega) (by omega) (by first | omega | (simp [World.drew]; done) | (simp [World.drew]; omega)) ?_
                 intro ao6 cap6 w6 hown6' hgrow6' hob6'
                 have hown6 := Lib.hid (hown6' : w6.ownsRow U.heap.size 62 2 (.slice ao6 nb cap6) nb ys)
                 have hb6 : Hid (Below U.heap.size U w6) := Lib.hid (Below.grown (by repeat first | exact Below.refl _ _ | refine Below.drew ?_ | refine b_alloc ?_ (Nat.le_refl _) _) hgrow6' (by first | omega | (simp [World.drew]; done) | (simp [World.drew]; omega)) (fun q hq => by cases hq; exact Nat.le_refl _))
                 skip
                 clear hown6' hgrow6' hob6')
              | (refine step_append_lie2 (by rfl) (.tmp 34) (.tmp 38) 35 (by rfl) U.heap.size 62 i0 _ 2 16 Try.underlying35 HI.out hz0 hz1 hz2 rfl (by omega) (.slice (some ⟨U.heap.size, 0, none⟩) 0 0) 0 [] (by rfl) ((HE0.out U (Below.refl _ _)).2 _) (.slice ba nb bc) (0) (U.heap.size) nb ys (by rfl) (HL.out _ (by repeat first | exact Below.refl _ _ | refine Below.drew ?_ | refine b_alloc ?_ (Nat.le_refl _) _)) HX1.out nb (by omega) (by simp only [maxLen]; omega) (by omega) (by first | omega | (simp [World.drew]; done) | (simp [World.drew]; omega)) ?_
                 intro ao6 cap6 w6 hown6' hgrow6' hob6'
                 have hown6 := Lib.hid (hown6' : w6.ownsRow U.heap.size 62 2 (.slice ao6 nb cap6) nb ys)
                 have hb6 : Hid (Below U.heap.size U w6) := Lib.hid (Below.grown (by repeat first | exact Below.refl _ _ | refine Below.drew ?_ | refine b_alloc ?_ (Nat.le_refl _) _) hgrow6' (by first | omega | (simp [World.drew]; done) | (simp [World.drew]; omega)) (fun q hq => by cases hq; exact Nat.le_refl _))
                 have hr6 : Hid (Lies w6 (U.heap.size + 1) (U.heap.size + 2) (.slice (some ⟨U.heap.size + 1, 0, none⟩) 1 1) 1 2 [.int .i64 (x0 + s.t), .int .i64 (x2)]) := Lib.hid (one_lies (cs := #[.int .i64 (x0 + s.t), .int .i64 (x2)]) ((hgrow6'.block (U.heap.size + 1) (by first | omega | (simp [World.drew]; done) | (simp [World.drew]; omega)) (by simp [Value.ownBlock])).trans (by simpa [World.drew] using heap_alloc_new (U.alloc (.cells #[] 62)) (.cells #[.int .i64 (x0 + s.t), .int .i64 (x2)] 62))) rfl)
                 clear hown6' hgrow6' hob6')
              | (refine step_append_lie2 (by rfl) (.tmp 34) (.tmp 38) 35 (by rfl) U.heap.size 62 i0 _ 2 16 Try.underlying35 HI.out hz0 hz1 hz2 rfl (by omega) (.slice (some ⟨U.heap.size + 1, 0, none⟩) 0 0) 0 [] (by rfl) (by have h := (HE0.out (U.alloc (.cells #[.int .i64 (x0 + s.t), .int .i64 (x2)] 62)) (below1 _ _)).1; rw [show (U.alloc (.cells #[.int .i64 (x0 + s.t), .int .i64 (x2)] 62)).heap.size = U.heap.size + 1 by simp] at h; exact h) (.slice ba nb bc) (0) (U.heap.size) nb ys (by rfl) (HL.out _ (by repeat first | exact Below.refl _ _ | refine Below.drew ?_ | refine b_alloc ?_ (Nat.le_refl _) _)) HX1.out nb (by omega) (by simp only [maxLen]; omega) (by omega) (by first | omega | (simp [World.drew]; done) | (simp [World.drew]; omega)) ?_
                 intro ao6 cap6 w6 hown6' hgrow6' hob6'
                 have hown6 := Lib.hid (hown6' : w6.ownsRow U.heap.size 62 2 (.slice ao6 nb cap6) nb ys)
                 have hb6 : Hid (Below U.heap.size U w6) := Lib.hid (Below.grown (by repeat first | exact Below.refl _ _ | refine Below.drew ?_ | refine b_alloc ?_ (Nat.le_refl _) _) hgrow6' (by first | omega | (simp [World.drew]; done) | (simp [World.drew]; omega)) (fun q hq => by cases hq; exact Nat.le_succ _))
                 have hr6 : Hid (Lies w6 U.heap.size (U.heap.size + 1) (.slice (some ⟨U.heap.size, 0, none⟩) 1 1) 1 2 [.int .i64 (x0 + s.t), .int .i64 (x2)]) := Lib.hid (one_lies (cs := #[.int .i64 (x0 + s.t), .int .i64 (x2)]) ((hgrow6'.block U.heap.size (by first | omega | (simp [World.drew]; done) | (simp [World.drew]; omega)) (by simp [Value.ownBlock])).trans (((below1 (U.alloc (.cells #[.int .i64 (x0 + s.t), .int .i64 (x2)] 62)) (.cells #[] 62)).block U.heap.size (by simp)).trans (heap_alloc_new U (.cells #[.int .i64 (x0 + s.t), .int .i64 (x2)] 62)))) rfl)
                 clear hown6' hgrow6' hob6'))
            refine hK.out _ _ ?_ (fun hHeld => ?_)
            · (first | exact c3 | exact KST.out _ _ hb7.out | exact KB.out _ hb7.out | exact KB.out _ hb6.out | exact KB.out _ (b_alloc hb6.out (Nat.le_refl _) _) | exact KB.out _ (by repeat first | exact Below.refl _ _ | refine Below.drew ?_ | refine b_alloc ?_ (Nat.le_refl _) _))
            clear hK K
            try simp only [Act.put, List.setIfInBounds_toArray, List.set_cons_zero, List.set_cons_succ]
            refine wpAnyH_ready (rs := [19]) (by kernel_rfl) (by simp) ?_
            refine AllReadyH.cons rfl (fun K hK => ?_) AllReadyH.nil
            (first
              | (refine step_append_lie2 (by rfl) (.tmp 39) (.tmp 51) 35 (by rfl) U.heap.size 62 i0 _ 2 16 Try.underlying35 HI.out hz0 hz1 hz2 rfl (by omega) (.slice ao6 nb cap6) nb ys (by rfl) (owns_later hown6.out (below1 _ _)) (.slice (some ⟨w6.heap.size, 0, none⟩) 1 1) (w6.heap.size) (w6.heap.size + 1) 1 [.int .i64 (x0 + s.t), .int .i64 (x2)] (by rfl) (one_lies (cs := #[.int .i64 (x0 + s.t), .int .i64 (x2)]) (heap_alloc_new w6 _) rfl) (bk_one ⟨x0 + s.t, x2⟩) (nb + 1) rfl (by simp only [maxLen]; omega) (by omega) (by have h := hb6.out.size; first | omega | (simp [World.drew]; done) | (simp [World.drew]; omega)) ?_
                 intro ao7 cap7 w7 hown7' hgrow7' hob7'
                 have hown7 := Lib.hid hown7'
                 have hb7 : Hid (Below U.heap.size U w7) := Lib.hid (Below.grown ((b_alloc hb6.out (Nat.le_refl _) _).drew) hgrow7' (by have h := hb6.out.size; first | omega | (simp [World.drew]; done) | (simp [World.drew]; omega)) (fun q hq => (owns_block (hown6.out) q hq).1))
                 obtain ⟨hu7, hf7⟩ := KC.out _ hb7.out
                 clear hown7' hgrow7' hob7')
              | (refine step_append_lie2 (by rfl) (.tmp 39) (.tmp 51) 35 (by rfl) U.heap.size 62 i0 _ 2 16 Try.underlying35 HI.out hz0 hz1 hz2 rfl (by omega) (.slice ao6 nb cap6) nb ys (by rfl) (owns_later hown6.out (below1 _ _)) (.slice (some ⟨w6.heap.size, 0, none⟩) 1 1) (w6.heap.size) (w6.heap.size + 1) 1 [.int .i64 (x0 + s.t), .int .i64 (x2)] (by rfl) (one_lies (cs := #[.int .i64 (x0 + s.t), .int .i64 (x2)]) (heap_alloc_new w6 _) rfl) (bk_one ⟨x0 + s.t, x2⟩) (nb + 1) rfl (by simp only [maxLen]; omega) (by omega) (by have h := hb6.out.size; first | omega | (simp [World.drew]; done) | (simp [World.drew]; omega)) ?_
                 intro ao7 cap7 w7 hown7' hgrow7' hob7'
                 have hown7 := Lib.hid hown7'
                 have hb7 : Hid (Below U.heap.size U w7) := Lib.hid (Below.grown (b_alloc hb6.out (Nat.le_refl _) _) hgrow7' (by have h := hb6.out.size; first | omega | (simp [World.drew]; done) | (simp [World.drew]; omega)) (fun q hq => (owns_block (hown6.out) q hq).1))
                 obtain ⟨hu7, hf7⟩ := KC.out _ hb7.out
                 clear hown7' hgrow7' hob7')
              | (refine step_append_lie2 (by rfl) (.tmp 39) (.tmp 51) 35 (by rfl) U.heap.size 62 i0 _ 2 16 Try.underlying35 HI.out hz0 hz1 hz2 rfl (by omega) (.slice ao6 nb cap6) nb ys (by rfl) (hown6.out) (.slice (some ⟨U.heap.size + 1, 0, none⟩) 1 1) (U.heap.size + 1) (U.heap.size + 2) 1 [.int .i64 (x0 + s.t), .int .i64 (x2)] (by rfl) (hr6.out) (bk_one ⟨x0 + s.t, x2⟩) (nb + 1) rfl (by simp only [maxLen]; omega) (by omega) (by have h := hb6.out.size; first | omega | (simp [World.drew]; done) | (simp [World.drew]; omega)) ?_
                 intro ao7 cap7 w7 hown7' hgrow7' hob7'
                 have hown7 := Lib.hid hown7'
                 have hb7 : Hid (Below U.heap.size U w7) := Lib.hid (Below.grown (hb6.out) hgrow7' (by have h := hb6.out.size; first | omega | (simp [World.drew]; done) | (simp [World.drew]; omega)) (fun q hq => (owns_block (hown6.out) q hq).1))
                 obtain ⟨hu7, hf7⟩ := KC.out _ hb7.out
                 clear hown7' hgrow7' hob7')
              | (refine step_append_lie2 (by rfl) (.tmp 39) (.tmp 51) 35 (by rfl) U.heap.size 62 i0 _ 2 16 Try.underlying35 HI.out hz0 hz1 hz2 rfl (by omega) (.slice ao6 nb cap6) nb ys (by rfl) (hown6.out) (.slice (some ⟨U.heap.size + 1, 0, none⟩) 1 1) (U.heap.size + 1) (U.heap.size + 2) 1 [.int .i64 (x0 + s.t), .int .i64 (x2)] (by rfl) (hr6.out) (bk_one ⟨x0 + s.t, x2⟩) (nb + 1) rfl (by simp only [maxLen]; omega) (by omega) (by have h := hb6.out.size; first | omega | (simp [World.drew]; done) | (simp [World.drew]; omega)) ?_
                 intro ao7 cap7 w7 hown7' hgrow7' hob7'
                 have hown7 := Lib.hid hown7'
                 have hb7 : Hid (Below U.heap.size U w7) := Lib.hid (Below.grown (hb6.out.drew) hgrow7' (by have h := hb6.out.size; first | omega | (simp [World.drew]; done) | (simp [World.drew]; omega)) (fun q hq => (owns_block (hown6.out) q hq).1))
                 obtain ⟨hu7, hf7⟩ := KC.out _ hb7.out
                 clear hown7' hgrow7' hob7')
              | (refine step_append_lie2 (by rfl) (.tmp 39) (.tmp 51) 35 (by rfl) U.heap.size 62 i0 _ 2 16 Try.underlying35 HI.out hz0 hz1 hz2 rfl (by omega) (.slice ao6 nb cap6) nb ys (by rfl) (hown6.out) (.slice (some ⟨U.heap.size, 0, none⟩) 1 1) (U.heap.size) (U.heap.size + 1) 1 [.int .i64 (x0 + s.t), .int .i64 (x2)] (by rfl) (hr6.out) (bk_one ⟨x0 + s.t, x2⟩) (nb + 1) rfl (by simp only [maxLen]; omega) (by omega) (by have h := hb6.out.size; first | omega | (simp [World.drew]; done) | (simp [World.drew]; omega)) ?_
                 intro ao7 cap7 w7 hown7' hgrow7' hob7'
                 have hown7 := Lib.hid hown7'
                 have hb7 : Hid (Below U.heap.size U w7) := Lib.hid (Below.grown (hb6.out) hgrow7' (by have h := hb6.out.size; first | omega | (simp [World.drew]; done) | (simp [World.drew]; omega)) (fun q hq => (owns_block (hown6.out) q hq).1))
                 obtain ⟨hu7, hf7⟩ := KC.out _ hb7.out
                 clear hown7' hgrow7' hob7')
              | (refine step_append_lie2 (by rfl) (.tmp 39) (.tmp 51) 35 (by rfl) U.heap.size 62 i0 _ 2 16 Try.underlying35 HI.out hz0 hz1 hz2 rfl (by omega) (.slice ao6 nb cap6) nb ys (by rfl) (hown6.out) (.slice (some ⟨U.heap.size, 0, none⟩) 1 1) (U.heap.size) (U.heap.size + 1) 1 [.int .i64 (x0 + s.t), .int .i64 (x2)] (by rfl) (hr6.out) (bk_one ⟨x0 + s.t, x2⟩) (nb + 1) rfl (by simp only [maxLen]; omega) (by omega) (by have h := hb6.out.size; first | omega | (simp [World.drew]; done) | (simp [World.drew]; omega)) ?_
                 intro ao7 cap7 w7 hown7' hgrow7' hob7'
                 have hown7 := Lib.hid hown7'
                 have hb7 : Hid (Below U.heap.size U w7) := Lib.hid (Below.grown (hb6.out.drew) hgrow7' (by have h := hb6.out.size; first | omega | (simp [World.drew]; done) | (simp [World.drew]; omega)) (fun q hq => (owns_block (hown6.out) q hq).1))
                 obtain ⟨hu7, hf7⟩ := KC.out _ hb7.out
                 clear hown7' hgrow7' hob7'))
            refine hK.out _ _ ?_ (fun hHeld => ?_)
            · (first | exact c3 | exact KST.out _ _ hb7.out | exact KB.out _ hb7.out | exact KB.out _ hb6.out | exact KB.out _ (b_alloc hb6.out (Nat.le_refl _) _) | exact KB.out _ (by repeat first | exact Below.refl _ _ | refine Below.drew ?_ | refine b_alloc ?_ (Nat.le_refl _) _))
            clear hK K
            try simp only [Act.put, List.setIfInBounds_toArray, List.set_cons_zero, List.set_cons_succ]
            refine wpAnyH_takeE (i := 20) (d := some 53) (v := ?_) rfl rfl (by kernel_rfl) (by kernel_rfl) (by kernel_rfl) (fun _ _ _ h => h) (Or.inl ⟨by rfl, ?_⟩) (by assumption) ?_
            rotate_left
            · intro w hSw
              (try dsimp only at hSw)
              go_simp
              try (with_reducible rfl)
            simp only [Act.put, List.setIfInBounds_toArray, List.set_cons_zero, List.set_cons_succ]
            refine wpAnyH_takeE (i := 21) (d := some 54) (v := ?_) rfl rfl (by kernel_rfl) (by kernel_rfl) (by kernel_rfl) (fun _ _ _ h => h) (Or.inl ⟨by rfl, ?_⟩) (by assumption) ?_
            rotate_left
            · intro w hSw
              (try dsimp only at hSw)
              go_simp
              try (with_reducible rfl)
            simp only [Act.put, List.setIfInBounds_toArray, List.set_cons_zero, List.set_cons_succ]
            refine wpAnyH_ready (rs := [22]) (by kernel_rfl) (by simp) ?_
            refine AllReadyH.cons rfl (fun K hK => ?_) AllReadyH.nil
            go_simp
            refine hK.out _ _ ?_ (fun hHeld => ?_)
            · (first | exact c3 | exact KST.out _ _ hb7.out | exact KB.out _ hb7.out | exact KB.out _ hb6.out | exact KB.out _ (b_alloc hb6.out (Nat.le_refl _) _) | exact KB.out _ (by repeat first | exact Below.refl _ _ | refine Below.drew ?_ | refine b_alloc ?_ (Nat.le_refl _) _))
            clear hK K
            try simp only [Act.put, List.setIfInBounds_toArray, List.set_cons_zero, List.set_cons_succ]
            refine wpAnyH_done (by kernel_rfl) ?_ _
            refine NoPanic.normal ?_
            have hk7 := HKU.out.later hb7.out
            obtain ⟨t1, t2⟩ := hk7.backed (w0 := U) (ao := ao7) (cap := cap7) (en' := bks ++ [⟨x0 + s.t, x2⟩]) (GrowS.of_below hb7.out) HKU.out.lt (by
              have := ORow.of_owns hown7.out
              rw [HYS.out] at this
              simpa [HNB.out, Bk.cells] using this) (fun g hg => (World.ownsRow.lt hown7.out g (by rw [own_ob]; exact hg)).1)
            rw [show (bks ++ [(⟨x0 + s.t, x2⟩ : Bk)]).length = nb + 1 by rw [HNB.out]; simp] at t1 t2
            obtain ⟨Y, hY⟩ : ∃ Y, Y = w7.setCell ⟨H, 5, none⟩ (.slice ao7 (nb + 1) cap7) := ⟨_, rfl⟩
            rw [← hY] at t1 t2
            have T1 := Lib.hid t1
            have T2 := Lib.hid t2
            have HY := Lib.hid hY
            clear t1 t2 hY hk7
            rw [← HY.out]
            go_wp2_with fail
            go_roundw
            case rel =>
              rw [← HLA.out]
              refine ⟨k + 1, cap7, ao7, by omega, by go_num, Lib.hid ?_, Lib.hid (HGU.out.trans T2.out)⟩
              rw [HFS.out, HUS.out, HUB.out]
              exact T1.out
            case measure => simp [intOf]; omega
        · go_simp
          refine hK.out _ _ ?_ (fun hHeld => ?_)
          · (first | exact c3 | exact KST.out _ _ hb7.out | exact KB.out _ hb7.out | exact KB.out _ hb6.out | exact KB.out _ (b_alloc hb6.out (Nat.le_refl _) _) | exact KB.out _ (by repeat first | exact Below.refl _ _ | refine Below.drew ?_ | refine b_alloc ?_ (Nat.le_refl _) _))
          clear hK K
          try simp only [Act.put, List.setIfInBounds_toArray, List.set_cons_zero, List.set_cons_succ]
          refine wpAnyH_ready (rs := [1, 5]) (by kernel_rfl) (by simp) ?_
          refine AllReadyH.cons rfl (fun K hK => ?_) (AllReadyH.cons rfl (fun K hK => ?_) AllReadyH.nil)
          · go_simp
            refine hK.out _ _ ?_ (fun hHeld => ?_)
            · (first | exact c3 | exact KST.out _ _ hb7.out | exact KB.out _ hb7.out | exact KB.out _ hb6.out | exact KB.out _ (b_alloc hb6.out (Nat.le_refl _) _) | exact KB.out _ (by repeat first | exact Below.refl _ _ | refine Below.drew ?_ | refine b_alloc ?_ (Nat.le_refl _) _))
            clear hK K
            try simp only [Act.put, List.setIfInBounds_toArray, List.set_cons_zero, List.set_cons_succ]
            refine wpAnyH_ready (rs := [5]) (by kernel_rfl) (by simp) ?_
            refine AllReadyH.cons rfl (fun K hK => ?_) AllReadyH.nil
            go_simp
            refine hK.out _ _ ?_ (fun hHeld => ?_)
            · (first | exact c3 | exact KST.out _ _ hb7.out | exact KB.out _ hb7.out | exact KB.out _ hb6.out | exact KB.out _ (b_alloc hb6.out (Nat.le_refl _) _) | exact KB.out _ (by repeat first | exact Below.refl _ _ | refine Below.drew ?_ | refine b_alloc ?_ (Nat.le_refl _) _))
            clear hK K
            try simp only [Act.put, List.setIfInBounds_toArray, List.set_cons_zero, List.set_cons_succ]
            refine wpAnyH_ready (rs := [6]) (by kernel_rfl) (by simp) ?_
            refine AllReadyH.cons rfl (fun K hK => ?_) AllReadyH.nil
            (first
              | (refine step_append_lie2 (by rfl) (.tmp 34) (.tmp 38) 35 (by rfl) U.heap.size 62 i0 _ 2 16 Try.underlying35 HI.out hz0 hz1 hz2 rfl (by omega) (.slice (some ⟨U.heap.size, 0, none⟩) 0 0) 0 [] (by rfl) ((HE0.out U (Below.refl _ _)).1) (.slice ba nb bc) (0) (U.heap.size) nb ys (by rfl) (HL.out _ (by repeat first | exact Below.refl _ _ | refine Below.drew ?_ | refine b_alloc ?_ (Nat.le_refl _) _)) HX1.out nb (by omega) (by simp only [maxLen]; omega) (by omega) (by first | omega | (simp [World.drew]; done) | (simp [World.drew]; omega)) ?_
                 intro ao6 cap6 w6 hown6' hgrow6' hob6'
                 have hown6 := Lib.hid (hown6' : w6.ownsRow U.heap.size 62 2 (.slice ao6 nb cap6) nb ys)
                 have hb6 : Hid (Below U.heap.size U w6) := Lib.hid (Below.grown (by repeat first | exact Below.refl _ _ | refine Below.drew ?_ | refine b_alloc ?_ (Nat.le_refl _) _) hgrow6' (by first | omega | (simp [World.drew]; done) | (simp [World.drew]; omega)) (fun q hq => by cases hq; exact Nat.le_refl _))
                 skip
                 clear hown6' hgrow6' hob6')
              | (refine step_append_lie2 (by rfl) (.tmp 34) (.tmp 38) 35 (by rfl) U.heap.size 62 i0 _ 2 16 Try.underlying35 HI.out hz0 hz1 hz2 rfl (by omega) (.slice (some ⟨U.heap.size, 0, none⟩) 0 0) 0 [] (by rfl) ((HE0.out U (Below.refl _ _)).2 _) (.slice ba nb bc) (0) (U.heap.size) nb ys (by rfl) (HL.out _ (by repeat first | exact Below.refl _ _ | refine Below.drew ?_ | refine b_alloc ?_ (Nat.le_refl _) _)) HX1.out nb (by omega) (by simp only [maxLen]; omega) (by omega) (by first | omega | (simp [World.drew]; done) | (simp [World.drew]; omega)) ?_
                 intro ao6 cap6 w6 hown6' hgrow6' hob6'
                 have hown6 := Lib.hid (hown6' : w6.ownsRow U.heap.size 62 2 (.slice ao6 nb cap6) nb ys)
                 have hb6 : Hid (Below U.heap.size U w6) := Lib.hid (Below.grown (by repeat first | exact Below.refl _ _ | refine Below.drew ?_ | refine b_alloc ?_ (Nat.le_refl _) _) hgrow6' (by first | omega | (simp [World.drew]; done) | (simp [World.drew]; omega)) (fun q hq => by cases hq; exact Nat.le_refl _))
                 have hr6 : Hid (Lies w6 (U.heap.size + 1) (U.heap.size + 2) (.slice (some ⟨U.heap.size + 1, 0, none⟩) 1 1) 1 2 [.int .i64 (x0 + s.t), .int .i64 (x2)]) := Lib.hid (one_lies (cs := #[.int .i64 (x0 + s.t), .int .i64 (x2)]) ((hgrow6'.block (U.heap.size + 1) (by first | omega | (simp [World.drew]; done) | (simp [World.drew]; omega)) (by simp [Value.ownBlock])).trans (by simpa [World.drew] using heap_alloc_new (U.alloc (.cells #[] 62)) (.cells #[.int .i64 (x0 + s.t), .int .i64 (x2)] 62))) rfl)
                 clear hown6' hgrow6' hob6')
              | (refine step_append_lie2 (by rfl) (.tmp 34) (.tmp 38) 35 (by rfl) U.heap.size 62 i0 _ 2 16 Try.underlying35 HI.out hz0 hz1 hz2 rfl (by omega) (.slice (some ⟨U.heap.size + 1, 0, none⟩) 0 0) 0 [] (by rfl) (by have h := (HE0.out (U.alloc (.cells #[.int .i64 (x0 + s.t), .int .i64 (x2)] 62)) (below1 _ _)).1; rw [show (U.alloc (.cells #[.int .i64 (x0 + s.t), .int .i64 (x2)] 62)).heap.size = U.heap.size + 1 by simp] at h; exact h) (.slice ba nb bc) (0) (U.heap.size) nb ys (by rfl) (HL.out _ (by repeat first | exact Below.refl _ _ | refine Below.drew ?_ | refine b_alloc ?_ (Nat.le_refl _) _)) HX1.out nb (by omega) (by simp only [maxLen]; omega) (by omega) (by first | omega | (simp [World.drew]; done) | (simp [World.drew]; omega)) ?_
                 intro ao6 cap6 w6 hown6' hgrow6' hob6'
                 have hown6 := Lib.hid (hown6' : w6.ownsRow U.heap.size 62 2 (.slice ao6 nb cap6) nb ys)
                 have hb6 : Hid (Below U.heap.size U w6) := Lib.hid (Below.grown (by repeat first | exact Below.refl _ _ | refine Below.drew ?_ | refine b_alloc ?_ (Nat.le_refl _) _) hgrow6' (by first | omega | (simp [World.drew]; done) | (simp [World.drew]; omega)) (fun q hq => by cases hq; exact Nat.le_succ _))
                 have hr6 : Hid (Lies w6 U.heap.size (U.heap.size + 1) (.slice (some ⟨U.heap.size, 0, none⟩) 1 1) 1 2 [.int .i64 (x0 + s.t), .int .i64 (x2)]) := Lib.hid (one_lies (cs := #[.int .i64 (x0 + s.t), .int .i64 (x2)]) ((hgrow6'.block U.heap.size (by first | omega | (simp [World.drew]; done) | (simp [World.drew]; omega)) (by simp [Value.ownBlock])).trans (((below1 (U.alloc (.cells #[.int .i64 (x0 + s.t), .int .i64 (x2)] 62)) (.cells #[] 62)).block U.heap.size (by simp)).trans (heap_alloc_new U (.cells #[.int .i64 (x0 + s.t), .int .i64 (x2)] 62)))) rfl)
                 clear hown6' hgrow6' hob6'))
            refine hK.out _ _ ?_ (fun hHeld => ?_)
            · (first | exact c3 | exact KST.out _ _ hb7.out | exact KB.out _ hb7.out | exact KB.out _ hb6.out | exact KB.out _ (b_alloc hb6.out (Nat.le_refl _) _) | exact KB.out _ (by repeat first | exact Below.refl _ _ | refine Below.drew ?_ | refine b_alloc ?_ (Nat.le_refl _) _))
            clear hK K
            try simp only [Act.put, List.setIfInBounds_toArray, List.set_cons_zero, List.set_cons_succ]
            refine wpAnyH_ready (rs := [19]) (by kernel_rfl) (by simp) ?_
            refine AllReadyH.cons rfl (fun K hK => ?_) AllReadyH.nil
            (first
              | (refine step_append_lie2 (by rfl) (.tmp 39) (.tmp 51) 35 (by rfl) U.heap.size 62 i0 _ 2 16 Try.underlying35 HI.out hz0 hz1 hz2 rfl (by omega) (.slice ao6 nb cap6) nb ys (by rfl) (owns_later hown6.out (below1 _ _)) (.slice (some ⟨w6.heap.size, 0, none⟩) 1 1) (w6.heap.size) (w6.heap.size + 1) 1 [.int .i64 (x0 + s.t), .int .i64 (x2)] (by rfl) (one_lies (cs := #[.int .i64 (x0 + s.t), .int .i64 (x2)]) (heap_alloc_new w6 _) rfl) (bk_one ⟨x0 + s.t, x2⟩) (nb + 1) rfl (by simp only [maxLen]; omega) (by omega) (by have h := hb6.out.size; first | omega | (simp [World.drew]; done) | (simp [World.drew]; omega)) ?_
                 intro ao7 cap7 w7 hown7' hgrow7' hob7'
                 have hown7 := Lib.hid hown7'
                 have hb7 : Hid (Below U.heap.size U w7) := Lib.hid (Below.grown ((b_alloc hb6.out (Nat.le_refl _) _).drew) hgrow7' (by have h := hb6.out.size; first | omega | (simp [World.drew]; done) | (simp [World.drew]; omega)) (fun q hq => (owns_block (hown6.out) q hq).1))
                 obtain ⟨hu7, hf7⟩ := KC.out _ hb7.out
                 clear hown7' hgrow7' hob7')
              | (refine step_append_lie2 (by rfl) (.tmp 39) (.tmp 51) 35 (by rfl) U.heap.size 62 i0 _ 2 16 Try.underlying35 HI.out hz0 hz1 hz2 rfl (by omega) (.slice ao6 nb cap6) nb ys (by rfl) (owns_later hown6.out (below1 _ _)) (.slice (some ⟨w6.heap.size, 0, none⟩) 1 1) (w6.heap.size) (w6.heap.size + 1) 1 [.int .i64 (x0 + s.t), .int .i64 (x2)] (by rfl) (one_lies (cs := #[.int .i64 (x0 + s.t), .int .i64 (x2)]) (heap_alloc_new w6 _) rfl) (bk_one ⟨x0 + s.t, x2⟩) (nb + 1) rfl (by simp only [maxLen]; omega) (by omega) (by have h := hb6.out.size; first | omega | (simp [World.drew]; done) | (simp [World.drew]; omega)) ?_
                 intro ao7 cap7 w7 hown7' hgrow7' hob7'
                 have hown7 := Lib.hid hown7'
                 have hb7 : Hid (Below U.heap.size U w7) := Lib.hid (Below.grown (b_alloc hb6.out (Nat.le_refl _) _) hgrow7' (by have h := hb6.out.size; first | omega | (simp [World.drew]; done) | (simp [World.drew]; omega)) (fun q hq => (owns_block (hown6.out) q hq).1))
                 obtain ⟨hu7, hf7⟩ := KC.out _ hb7.out
                 clear hown7' hgrow7' hob7')
              | (refine step_append_lie2 (by rfl) (.tmp 39) (.tmp 51) 35 (by rfl) U.heap.size 62 i0 _ 2 16 Try.underlying35 HI.out hz0 hz1 hz2 rfl (by omega) (.slice ao6 nb cap6) nb ys (by rfl) (hown6.out) (.slice (some ⟨U.heap.size + 1, 0, none⟩) 1 1) (U.heap.size + 1) (U.heap.size + 2) 1 [.int .i64 (x0 + s.t), .int .i64 (x2)] (by rfl) (hr6.out) (bk_one ⟨x0 + s.t, x2⟩) (nb + 1) rfl (by simp only [maxLen]; omega) (by omega) (by have h := hb6.out.size; first | omega | (simp [World.drew]; done) | (simp [World.drew]; omega)) ?_
                 intro ao7 cap7 w7 hown7' hgrow7' hob7'
                 have hown7 := Lib.hid hown7'
                 have hb7 : Hid (Below U.heap.size U w7) := Lib.hid (Below.grown (hb6.out) hgrow7' (by have h := hb6.out.size; first | omega | (simp [World.drew]; done) | (simp [World.drew]; omega)) (fun q hq => (owns_block (hown6.out) q hq).1))
                 obtain ⟨hu7, hf7⟩ := KC.out _ hb7.out
                 clear hown7' hgrow7' hob7')
              | (refine step_append_lie2 (by rfl) (.tmp 39) (.tmp 51) 35 (by rfl) U.heap.size 62 i0 _ 2 16 Try.underlying35 HI.out hz0 hz1 hz2 rfl (by omega) (.slice ao6 nb cap6) nb ys (by rfl) (hown6.out) (.slice (some ⟨U.heap.size + 1, 0, none⟩) 1 1) (U.heap.size + 1) (U.heap.size + 2) 1 [.int .i64 (x0 + s.t), .int .i64 (x2)] (by rfl) (hr6.out) (bk_one ⟨x0 + s.t, x2⟩) (nb + 1) rfl (by simp only [maxLen]; omega) (by omega) (by have h := hb6.out.size; first | omega | (simp [World.drew]; done) | (simp [World.drew]; omega)) ?_
                 intro ao7 cap7 w7 hown7' hgrow7' hob7'
                 have hown7 := Lib.hid hown7'
                 have hb7 : Hid (Below U.heap.size U w7) := Lib.hid (Below.grown (hb6.out.drew) hgrow7' (by have h := hb6.out.size; first | omega | (simp [World.drew]; done) | (simp [World.drew]; omega)) (fun q hq => (owns_block (hown6.out) q hq).1))
                 obtain ⟨hu7, hf7⟩ := KC.out _ hb7.out
                 clear hown7' hgrow7' hob7')
              | (refine step_append_lie2 (by rfl) (.tmp 39) (.tmp 51) 35 (by rfl) U.heap.size 62 i0 _ 2 16 Try.underlying35 HI.out hz0 hz1 hz2 rfl (by omega) (.slice ao6 nb cap6) nb ys (by rfl) (hown6.out) (.slice (some ⟨U.heap.size, 0, none⟩) 1 1) (U.heap.size) (U.heap.size + 1) 1 [.int .i64 (x0 + s.t), .int .i64 (x2)] (by rfl) (hr6.out) (bk_one ⟨x0 + s.t, x2⟩) (nb + 1) rfl (by simp only [maxLen]; omega) (by omega) (by have h := hb6.out.size; first | omega | (simp [World.drew]; done) | (simp [World.drew]; omega)) ?_
                 intro ao7 cap7 w7 hown7' hgrow7' hob7'
                 have hown7 := Lib.hid hown7'
                 have hb7 : Hid (Below U.heap.size U w7) := Lib.hid (Below.grown (hb6.out) hgrow7' (by have h := hb6.out.size; first | omega | (simp [World.drew]; done) | (simp [World.drew]; omega)) (fun q hq => (owns_block (hown6.out) q hq).1))
                 obtain ⟨hu7, hf7⟩ := KC.out _ hb7.out
                 clear hown7' hgrow7' hob7')
              | (refine step_append_lie2 (by rfl) (.tmp 39) (.tmp 51) 35 (by rfl) U.heap.size 62 i0 _ 2 16 Try.underlying35 HI.out hz0 hz1 hz2 rfl (by omega) (.slice ao6 nb cap6) nb ys (by rfl) (hown6.out) (.slice (some ⟨U.heap.size, 0, none⟩) 1 1) (U.heap.size) (U.heap.size + 1) 1 [.int .i64 (x0 + s.t), .int .i64 (x2)] (by rfl) (hr6.out) (bk_one ⟨x0 + s.t, x2⟩) (nb + 1) rfl (by simp only [maxLen]; omega) (by omega) (by have h := hb6.out.size; first | omega | (simp [World.drew]; done) | (simp [World.drew]; omega)) ?_
                 intro ao7 cap7 w7 hown7' hgrow7' hob7'
                 have hown7 := Lib.hid hown7'
                 have hb7 : Hid (Below U.heap.size U w7) := Lib.hid (Below.grown (hb6.out.drew) hgrow7' (by have h := hb6.out.size; first | omega | (simp [World.drew]; done) | (simp [World.drew]; omega)) (fun q hq => (owns_block (hown6.out) q hq).1))
                 obtain ⟨hu7, hf7⟩ := KC.out _ hb7.out
                 clear hown7' hgrow7' hob7'))
            refine hK.out _ _ ?_ (fun hHeld => ?_)
            · (first | exact c3 | exact KST.out _ _ hb7.out | exact KB.out _ hb7.out | exact KB.out _ hb6.out | exact KB.out _ (b_alloc hb6.out (Nat.le_refl _) _) | exact KB.out _ (by repeat first | exact Below.refl _ _ | refine Below.drew ?_ | refine b_alloc ?_ (Nat.le_refl _) _))
            clear hK K
            try simp only [Act.put, List.setIfInBounds_toArray, List.set_cons_zero, List.set_cons_succ]
            refine wpAnyH_takeE (i := 20) (d := some 53) (v := ?_) rfl rfl (by kernel_rfl) (by kernel_rfl) (by kernel_rfl) (fun _ _ _ h => h) (Or.inl ⟨by rfl, ?_⟩) (by assumption) ?_
            rotate_left
            · intro w hSw
              (try dsimp only at hSw)
              go_simp
              try (with_reducible rfl)
            simp only [Act.put, List.setIfInBounds_toArray, List.set_cons_zero, List.set_cons_succ]
            refine wpAnyH_takeE (i := 21) (d := some 54) (v := ?_) rfl rfl (by kernel_rfl) (by kernel_rfl) (by kernel_rfl) (fun _ _ _ h => h) (Or.inl ⟨by rfl, ?_⟩) (by assumption) ?_
            rotate_left
            · intro w hSw
              (try dsimp only at hSw)
              go_simp
              try (with_reducible rfl)
            simp only [Act.put, List.setIfInBounds_toArray, List.set_cons_zero, List.set_cons_succ]
            refine wpAnyH_ready (rs := [22]) (by kernel_rfl) (by simp) ?_
            refine AllReadyH.cons rfl (fun K hK => ?_) AllReadyH.nil
            go_simp
            refine hK.out _ _ ?_ (fun hHeld => ?_)
            · (first | exact c3 | exact KST.out _ _ hb7.out | exact KB.out _ hb7.out | exact KB.out _ hb6.out | exact KB.out _ (b_alloc hb6.out (Nat.le_refl _) _) | exact KB.out _ (by repeat first | exact Below.refl _ _ | refine Below.drew ?_ | refine b_alloc ?_ (Nat.le_refl _) _))
            clear hK K
            try simp only [Act.put, List.setIfInBounds_toArray, List.set_cons_zero, List.set_cons_succ]
            refine wpAnyH_done (by kernel_rfl) ?_ _
            refine NoPanic.normal ?_
            have hk7 := HKU.out.later hb7.out
            obtain ⟨t1, t2⟩ := hk7.backed (w0 := U) (ao := ao7) (cap := cap7) (en' := bks ++ [⟨x0 + s.t, x2⟩]) (GrowS.of_below hb7.out) HKU.out.lt (by
              have := ORow.of_owns hown7.out
              rw [HYS.out] at this
              simpa [HNB.out, Bk.cells] using this) (fun g hg => (World.ownsRow.lt hown7.out g (by rw [own_ob]; exact hg)).1)
            rw [show (bks ++ [(⟨x0 + s.t, x2⟩ : Bk)]).length = nb + 1 by rw [HNB.out]; simp] at t1 t2
            obtain ⟨Y, hY⟩ : ∃ Y, Y = w7.setCell ⟨H, 5, none⟩ (.slice ao7 (nb + 1) cap7) := ⟨_, rfl⟩
            rw [← hY] at t1 t2
            have T1 := Lib.hid t1
            have T2 := Lib.hid t2
            have HY := Lib.hid hY
            clear t1 t2 hY hk7
            rw [← HY.out]
            go_wp2_with fail
            go_roundw
            case rel =>
              rw [← HLA.out]
              refine ⟨k + 1, cap7, ao7, by omega, by go_num, Lib.hid ?_, Lib.hid (HGU.out.trans T2.out)⟩
              rw [HFS.out, HUS.out, HUB.out]
              exact T1.out
            case measure => simp [intOf]; omega
          · go_simp
            refine hK.out _ _ ?_ (fun hHeld => ?_)
            · (first | exact c3 | exact KST.out _ _ hb7.out | exact KB.out _ hb7.out | exact KB.out _ hb6.out | exact KB.out _ (b_alloc hb6.out (Nat.le_refl _) _) | exact KB.out _ (by repeat first | exact Below.refl _ _ | refine Below.drew ?_ | refine b_alloc ?_ (Nat.le_refl _) _))
            clear hK K
            try simp only [Act.put, List.setIfInBounds_toArray, List.set_cons_zero, List.set_cons_succ]
            refine wpAnyH_ready (rs := [1]) (by kernel_rfl) (by simp) ?_
            refine AllReadyH.cons rfl (fun K hK => ?_) AllReadyH.nil
            go_simp
            refine hK.out _ _ ?_ (fun hHeld => ?_)
            · (first | exact c3 | exact KST.out _ _ hb7.out | exact KB.out _ hb7.out | exact KB.out _ hb6.out | exact KB.out _ (b_alloc hb6.out (Nat.le_refl _) _) | exact KB.out _ (by repeat first | exact Below.refl _ _ | refine Below.drew ?_ | refine b_alloc ?_ (Nat.le_refl _) _))
            clear hK K
            try simp only [Act.put, List.setIfInBounds_toArray, List.set_cons_zero, List.set_cons_succ]
            refine wpAnyH_ready (rs := [6]) (by kernel_rfl) (by simp) ?_
            refine AllReadyH.cons rfl (fun K hK => ?_) AllReadyH.nil
            (first
              | (refine step_append_lie2 (by rfl) (.tmp 34) (.tmp 38) 35 (by rfl) U.heap.size 62 i0 _ 2 16 Try.underlying35 HI.out hz0 hz1 hz2 rfl (by omega) (.slice (some ⟨U.heap.size, 0, none⟩) 0 0) 0 [] (by rfl) ((HE0.out U (Below.refl _ _)).1) (.slice ba nb bc) (0) (U.heap.size) nb ys (by rfl) (HL.out _ (by repeat first | exact Below.refl _ _ | refine Below.drew ?_ | refine b_alloc ?_ (Nat.le_refl _) _)) HX1.out nb (by omega) (by simp only [maxLen]; omega) (by omega) (by first | omega | (simp [World.drew]; done) | (simp [World.drew]; omega)) ?_
                 intro ao6 cap6 w6 hown6' hgrow6' hob6'
                 have hown6 := Lib.hid (hown6' : w6.ownsRow U.heap.size 62 2 (.slice ao6 nb cap6) nb ys)
                 have hb6 : Hid (Below U.heap.size U w6) := Lib.hid (Below.grown (by repeat first | exact Below.refl _ _ | refine Below.drew ?_ | refine b_alloc ?_ (Nat.le_refl _) _) hgrow6' (by first | omega | (simp [World.drew]; done) | (simp [World.drew]; omega)) (fun q hq => by cases hq; exact Nat.le_refl _))
                 skip
                 clear hown6' hgrow6' hob6')
              | (refine step_append_lie2 (by rfl) (.tmp 34) (.tmp 38) 35 (by rfl) U.heap.size 62 i0 _ 2 16 Try.underlying35 HI.out hz0 hz1 hz2 rfl (by omega) (.slice (some ⟨U.heap.size, 0, none⟩) 0 0) 0 [] (by rfl) ((HE0.out U (Below.refl _ _)).2 _) (.slice ba nb bc) (0) (U.heap.size) nb ys (by rfl) (HL.out _ (by repeat first | exact Below.refl _ _ | refine Below.drew ?_ | refine b_alloc ?_ (Nat.le_refl _) _)) HX1.out nb (by omega) (by simp only [maxLen]; omega) (by omega) (by first | omega | (simp [World.drew]; done) | (simp [World.drew]; omega)) ?_
                 intro ao6 cap6 w6 hown6' hgrow6' hob6'
                 have hown6 := Lib.hid (hown6' : w6.ownsRow U.heap.size 62 2 (.slice ao6 nb cap6) nb ys)
                 have hb6 : Hid (Below U.heap.size U w6) := Lib.hid (Below.grown (by repeat first | exact Below.refl _ _ | refine Below.drew ?_ | refine b_alloc ?_ (Nat.le_refl _) _) hgrow6' (by first | omega | (simp [World.drew]; done) | (simp [World.drew]; omega)) (fun q hq => by cases hq; exact Nat.le_refl _))
                 have hr6 : Hid (Lies w6 (U.heap.size + 1) (U.heap.size + 2) (.slice (some ⟨U.heap.size + 1, 0, none⟩) 1 1) 1 2 [.int .i64 (x0 + s.t), .int .i64 (x2)]) := Lib.hid (one_lies (cs := #[.int .i64 (x0 + s.t), .int .i64 (x2)]) ((hgrow6'.block (U.heap.size + 1) (by first | omega | (simp [World.drew]; done) | (simp [World.drew]; omega)) (by simp [Value.ownBlock])).trans (by simpa [World.drew] using heap_alloc_new (U.alloc (.cells #[] 62)) (.cells #[.int .i64 (x0 + s.t), .int .i64 (x2)] 62))) rfl)
                 clear hown6' hgrow6' hob6')
              | (refine step_append_lie2 (by rfl) (.tmp 34) (.tmp 38) 35 (by rfl) U.heap.size 62 i0 _ 2 16 Try.underlying35 HI.out hz0 hz1 hz2 rfl (by omega) (.slice (some ⟨U.heap.size + 1, 0, none⟩) 0 0) 0 [] (by rfl) (by have h := (HE0.out (U.alloc (.cells #[.int .i64 (x0 + s.t), .int .i64 (x2)] 62)) (below1 _ _)).1; rw [show (U.alloc (.cells #[.int .i64 (x0 + s.t), .int .i64 (x2)] 62)).heap.size = U.heap.size + 1 by simp] at h; exact h) (.slice ba nb bc) (0) (U.heap.size) nb ys (by rfl) (HL.out _ (by repeat first | exact Below.refl _ _ | refine Below.drew ?_ | refine b_alloc ?_ (Nat.le_refl _) _)) HX1.out nb (by omega) (by simp only [maxLen]; omega) (by omega) (by first | omega | (simp [World.drew]; done) | (simp [World.drew]; omega)) ?_
                 intro ao6 cap6 w6 hown6' hgrow6' hob6'
                 have hown6 := Lib.hid (hown6' : w6.ownsRow U.heap.size 62 2 (.slice ao6 nb cap6) nb ys)
                 have hb6 : Hid (Below U.heap.size U w6) := Lib.hid (Below.grown (by repeat first | exact Below.refl _ _ | refine Below.drew ?_ | refine b_alloc ?_ (Nat.le_refl _) _) hgrow6' (by first | omega | (simp [World.drew]; done) | (simp [World.drew]; omega)) (fun q hq => by cases hq; exact Nat.le_succ _))
                 have hr6 : Hid (Lies w6 U.heap.size (U.heap.size + 1) (.slice (some ⟨U.heap.size, 0, none⟩) 1 1) 1 2 [.int .i64 (x0 + s.t), .int .i64 (x2)]) := Lib.hid (one_lies (cs := #[.int .i64 (x0 + s.t), .int .i64 (x2)]) ((hgrow6'.block U.heap.size (by first | omega | (simp [World.drew]; done) | (simp [World.drew]; omega)) (by simp [Value.ownBlock])).trans (((below1 (U.alloc (.cells #[.int .i64 (x0 + s.t), .int .i64 (x2)] 62)) (.cells #[] 62)).block U.heap.size (by simp)).trans (heap_alloc_new U (.cells #[.int .i64 (x0 + s.t), .int .i64 (x2)] 62)))) rfl)
                 clear hown6' hgrow6' hob6'))
            refine hK.out _ _ ?_ (fun hHeld => ?_)
            · (first | exact c3 | exact KST.out _ _ hb7.out | exact KB.out _ hb7.out | exact KB.out _ hb6.out | exact KB.out _ (b_alloc hb6.out (Nat.le_refl _) _) | exact KB.out _ (by repeat first | exact Below.refl _ _ | refine Below.drew ?_ | refine b_alloc ?_ (Nat.le_refl _) _))
            clear hK K
            try simp only [Act.put, List.setIfInBounds_toArray, List.set_cons_zero, List.set_cons_succ]
            refine wpAnyH_ready (rs := [19]) (by kernel_rfl) (by simp) ?_
            refine AllReadyH.cons rfl (fun K hK => ?_) AllReadyH.nil
            (first
              | (refine step_append_lie2 (by rfl) (.tmp 39) (.tmp 51) 35 (by rfl) U.heap.size 62 i0 _ 2 16 Try.underlying35 HI.out hz0 hz1 hz2 rfl (by omega) (.slice ao6 nb cap6) nb ys (by rfl) (owns_later hown6.out (below1 _ _)) (.slice (some ⟨w6.heap.size, 0, none⟩) 1 1) (w6.heap.size) (w6.heap.size + 1) 1 [.int .i64 (x0 + s.t), .int .i64 (x2)] (by rfl) (one_lies (cs := #[.int .i64 (x0 + s.t), .int .i64 (x2)]) (heap_alloc_new w6 _) rfl) (bk_one ⟨x0 + s.t, x2⟩) (nb + 1) rfl (by simp only [maxLen]; omega) (by omega) (by have h := hb6.out.size; first | omega | (simp [World.drew]; done) | (simp [World.drew]; omega)) ?_
                 intro ao7 cap7 w7 hown7' hgrow7' hob7'
                 have hown7 := Lib.hid hown7'
                 have hb7 : Hid (Below U.heap.size U w7) := Lib.hid (Below.grown ((b_alloc hb6.out (Nat.le_refl _) _).drew) hgrow7' (by have h := hb6.out.size; first | omega | (simp [World.drew]; done) | (simp [World.drew]; omega)) (fun q hq => (owns_block (hown6.out) q hq).1))
                 obtain ⟨hu7, hf7⟩ := KC.out _ hb7.out
                 clear hown7' hgrow7' hob7')
              | (refine step_append_lie2 (by rfl) (.tmp 39) (.tmp 51) 35 (by rfl) U.heap.size 62 i0 _ 2 16 Try.underlying35 HI.out hz0 hz1 hz2 rfl (by omega) (.slice ao6 nb cap6) nb ys (by rfl) (owns_later hown6.out (below1 _ _)) (.slice (some ⟨w6.heap.size, 0, none⟩) 1 1) (w6.heap.size) (w6.heap.size + 1) 1 [.int .i64 (x0 + s.t), .int .i64 (x2)] (by rfl) (one_lies (cs := #[.int .i64 (x0 + s.t), .int .i64 (x2)]) (heap_alloc_new w6 _) rfl) (bk_one ⟨x0 + s.t, x2⟩) (nb + 1) rfl (by simp only [maxLen]; omega) (by omega) (by have h := hb6.out.size; first | omega | (simp [World.drew]; done) | (simp [World.drew]; omega)) ?_
                 intro ao7 cap7 w7 hown7' hgrow7' hob7'
                 have hown7 := Lib.hid hown7'
                 have hb7 : Hid (Below U.heap.size U w7) := Lib.hid (Below.grown (b_alloc hb6.out (Nat.le_refl _) _) hgrow7' (by have h := hb6.out.size; first | omega | (simp [World.drew]; done) | (simp [World.drew]; omega)) (fun q hq => (owns_block (hown6.out) q hq).1))
                 obtain ⟨hu7, hf7⟩ := KC.out _ hb7.out
                 clear hown7' hgrow7' hob7')
              | (refine step_append_lie2 (by rfl) (.tmp 39) (.tmp 51) 35 (by rfl) U.heap.size 62 i0 _ 2 16 Try.underlying35 HI.out hz0 hz1 hz2 rfl (by omega) (.slice ao6 nb cap6) nb ys (by rfl) (hown6.out) (.slice (some ⟨U.heap.size + 1, 0, none⟩) 1 1) (U.heap.size + 1) (U.heap.size + 2) 1 [.int .i64 (x0 + s.t), .int .i64 (x2)] (by rfl) (hr6.out) (bk_one ⟨x0 + s.t, x2⟩) (nb + 1) rfl (by simp only [maxLen]; omega) (by omega) (by have h := hb6.out.size; first | omega | (simp [World.drew]; done) | (simp [World.drew]; omega)) ?_
                 intro ao7 cap7 w7 hown7' hgrow7' hob7'
                 have hown7 := Lib.hid hown7'
                 have hb7 : Hid (Below U.heap.size U w7) := Lib.hid (Below.grown (hb6.out) hgrow7' (by have h := hb6.out.size; first | omega | (simp [World.drew]; done) | (simp [World.drew]; omega)) (fun q hq => (owns_block (hown6.out) q hq).1))
                 obtain ⟨hu7, hf7⟩ := KC.out _ hb7.out
                 clear hown7' hgrow7' hob7')
              | (refine step_append_lie2 (by rfl) (.tmp 39) (.tmp 51) 35 (by rfl) U.heap.size 62 i0 _ 2 16 Try.underlying35 HI.out hz0 hz1 hz2 rfl (by omega) (.slice ao6 nb cap6) nb ys (by rfl) (hown6.out) (.slice (some ⟨U.heap.size + 1, 0, none⟩) 1 1) (U.heap.size + 1) (U.heap.size + 2) 1 [.int .i64 (x0 + s.t), .int .i64 (x2)] (by rfl) (hr6.out) (bk_one ⟨x0 + s.t, x2⟩) (nb + 1) rfl (by simp only [maxLen]; omega) (by omega) (by have h := hb6.out.size; first | omega | (simp [World.drew]; done) | (simp [World.drew]; omega)) ?_
                 intro ao7 cap7 w7 hown7' hgrow7' hob7'
                 have hown7 := Lib.hid hown7'
                 have hb7 : Hid (Below U.heap.size U w7) := Lib.hid (Below.grown (hb6.out.drew) hgrow7' (by have h := hb6.out.size; first | omega | (simp [World.drew]; done) | (simp [World.drew]; omega)) (fun q hq => (owns_block (hown6.out) q hq).1))
                 obtain ⟨hu7, hf7⟩ := KC.out _ hb7.out
                 clear hown7' hgrow7' hob7')
              | (refine step_append_lie2 (by rfl) (.tmp 39) (.tmp 51) 35 (by rfl) U.heap.size 62 i0 _ 2 16 Try.underlying35 HI.out hz0 hz1 hz2 rfl (by omega) (.slice ao6 nb cap6) nb ys (by rfl) (hown6.out) (.slice (some ⟨U.heap.size, 0, none⟩) 1 1) (U.heap.size) (U.heap.size + 1) 1 [.int .i64 (x0 + s.t), .int .i64 (x2)] (by rfl) (hr6.out) (bk_one ⟨x0 + s.t, x2⟩) (nb + 1) rfl (by simp only [maxLen]; omega) (by omega) (by have h := hb6.out.size; first | omega | (simp [World.drew]; done) | (simp [World.drew]; omega)) ?_
                 intro ao7 cap7 w7 hown7' hgrow7' hob7'
                 have hown7 := Lib.hid hown7'
                 have hb7 : Hid (Below U.heap.size U w7) := Lib.hid (Below.grown (hb6.out) hgrow7' (by have h := hb6.out.size; first | omega | (simp [World.drew]; done) | (simp [World.drew]; omega)) (fun q hq => (owns_block (hown6.out) q hq).1))
                 obtain ⟨hu7, hf7⟩ := KC.out _ hb7.out
                 clear hown7' hgrow7' hob7')
              | (refine step_append_lie2 (by rfl) (.tmp 39) (.tmp 51) 35 (by rfl) U.heap.size 62 i0 _ 2 16 Try.underlying35 HI.out hz0 hz1 hz2 rfl (by omega) (.slice ao6 nb cap6) nb ys (by rfl) (hown6.out) (.slice (some ⟨U.heap.size, 0, none⟩) 1 1) (U.heap.size) (U.heap.size + 1) 1 [.int .i64 (x0 + s.t), .int .i64 (x2)] (by rfl) (hr6.out) (bk_one ⟨x0 + s.t, x2⟩) (nb + 1) rfl (by simp only [maxLen]; omega) (by omega) (by have h := hb6.out.size; first | omega | (simp [World.drew]; done) | (simp [World.drew]; omega)) ?_
                 intro ao7 cap7 w7 hown7' hgrow7' hob7'
                 have hown7 := Lib.hid hown7'
                 have hb7 : Hid (Below U.heap.size U w7) := Lib.hid (Below.grown (hb6.out.drew) hgrow7' (by have h := hb6.out.size; first | omega | (simp [World.drew]; done) | (simp [World.drew]; omega)) (fun q hq => (owns_block (hown6.out) q hq).1))
                 obtain ⟨hu7, hf7⟩ := KC.out _ hb7.out
                 clear hown7' hgrow7' hob7'))
            refine hK.out _ _ ?_ (fun hHeld => ?_)
            · (first | exact c3 | exact KST.out _ _ hb7.out | exact KB.out _ hb7.out | exact KB.out _ hb6.out | exact KB.out _ (b_alloc hb6.out (Nat.le_refl _) _) | exact KB.out _ (by repeat first | exact Below.refl _ _ | refine Below.drew ?_ | refine b_alloc ?_ (Nat.le_refl _) _))
            clear hK K
            try simp only [Act.put, List.setIfInBounds_toArray, List.set_cons_zero, List.set_cons_succ]
            refine wpAnyH_takeE (i := 20) (d := some 53) (v := ?_) rfl rfl (by kernel_rfl) (by kernel_rfl) (by kernel_rfl) (fun _ _ _ h => h) (Or.inl ⟨by rfl, ?_⟩) (by assumption) ?_
            rotate_left
            · intro w hSw
              (try dsimp only at hSw)
              go_simp
              try (with_reducible rfl)
            simp only [Act.put, List.setIfInBounds_toArray, List.set_cons_zero, List.set_cons_succ]
            refine wpAnyH_takeE (i := 21) (d := some 54) (v := ?_) rfl rfl (by kernel_rfl) (by kernel_rfl) (by kernel_rfl) (fun _ _ _ h => h) (Or.inl ⟨by rfl, ?_⟩) (by assumption) ?_
            rotate_left
            · intro w hSw
              (try dsimp only at hSw)
              go_simp
              try (with_reducible rfl)
            simp only [Act.put, List.setIfInBounds_toArray, List.set_cons_zero, List.set_cons_succ]
            refine wpAnyH_ready (rs := [22]) (by kernel_rfl) (by simp) ?_
            refine AllReadyH.cons rfl (fun K hK => ?_) AllReadyH.nil
            go_simp
            refine hK.out _ _ ?_ (fun hHeld => ?_)
            · (first | exact c3 | exact KST.out _ _ hb7.out | exact KB.out _ hb7.out | exact KB.out _ hb6.out | exact KB.out _ (b_alloc hb6.out (Nat.le_refl _) _) | exact KB.out _ (by repeat first | exact Below.refl _ _ | refine Below.drew ?_ | refine b_alloc ?_ (Nat.le_refl _) _))
            clear hK K
            try simp only [Act.put, List.setIfInBounds_toArray, List.set_cons_zero, List.set_cons_succ]
            refine wpAnyH_done (by kernel_rfl) ?_ _
            refine NoPanic.normal ?_
            have hk7 := HKU.out.later hb7.out
            obtain ⟨t1, t2⟩ := hk7.backed (w0 := U) (ao := ao7) (cap := cap7) (en' := bks ++ [⟨x0 + s.t, x2⟩]) (GrowS.of_below hb7.out) HKU.out.lt (by
              have := ORow.of_owns hown7.out
              rw [HYS.out] at this
              simpa [HNB.out, Bk.cells] using this) (fun g hg => (World.ownsRow.lt hown7.out g (by rw [own_ob]; exact hg)).1)
            rw [show (bks ++ [(⟨x0 + s.t, x2⟩ : Bk)]).length = nb + 1 by rw [HNB.out]; simp] at t1 t2
            obtain ⟨Y, hY⟩ : ∃ Y, Y = w7.setCell ⟨H, 5, none⟩ (.slice ao7 (nb + 1) cap7) := ⟨_, rfl⟩
            rw [← hY] at t1 t2
            have T1 := Lib.hid t1
            have T2 := Lib.hid t2
            have HY := Lib.hid hY
            clear t1 t2 hY hk7
            rw [← HY.out]
            go_wp2_with fail
            go_roundw
            case rel =>
              rw [← HLA.out]
              refine ⟨k + 1, cap7, ao7, by omega, by go_num, Lib.hid ?_, Lib.hid (HGU.out.trans T2.out)⟩
              rw [HFS.out, HUS.out, HUB.out]
              exact T1.out
            case measure => simp [intOf]; omega
      · have t0 : decide (0 < x2) = false := decide_eq_false q
        have HUB : Hid (usedBacks s.t [⟨x0, x1, x2⟩] = []) := Lib.hid (by simp [usedBacks, q])
        go_wp2_with fail
        go_roundw
        case rel =>
          rw [← HLA.out]
          refine ⟨k + 1, bc, ba, by omega, by go_num, Lib.hid ?_, HGU⟩
          rw [HFS.out, HUS.out, HUB.out, List.append_nil]
          exact HKU.out
        case measure => simp [intOf]; omega
    · have tk : decide ((k : Int) < (n : Int)) = false := by simp; omega
      have hkn : k = n := by omega
      subst hkn
      rw [List.take_of_length_le (by rw [← HN.out]; exact Nat.le_refl _)] at HC
      have f4 := HC.out.fz 4
      go_wp2_with fail
      go_end0
      obtain ⟨t1, t2⟩ := HC.out.lived (w0 := wr) (ao := none) (cap := 0) (lv' := []) (GrowS.of_below (Below.refl _ _)) HC.out.lt (ORow.nil _ _ _) (fun g hg => by cases hg)
      rw [HDEF.out]
      have hgr := HG.out.trans t2
      first | exact ⟨_, rfl, ⟨_, _, _, _, t1, rfl⟩, hgr⟩ | exact ⟨rfl, _, ⟨_, _, _, _, t1, rfl⟩, hgr⟩
end Go.Proofs.Ytoofkeeoolgpdaa
