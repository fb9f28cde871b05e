/- Where a partition's demand rises, made. -/
import Derived.Test.YtlmgphomklpplaaDemandV
namespace Go.Proofs.Ytlmgphomklpplaa
open Go.ChangeShapes Go.WideShapes Go.ChangeAt Go.RowKit
set_option linter.unusedVariables false

theorem Rises.weaker {w : World} {lo lo' G O A : Nat} {once : Nat → Bool} {again : Nat → Nat → Bool} {rows : Nat → Option Nat} (h : Rises w lo G O A once again rows) (hl : lo' ≤ lo) : Rises w lo' G O A once again rows :=
  { h with r := fun p B hp hB => let ⟨h1, h2⟩ := h.r p B hp hB; ⟨Nat.le_trans hl h1, h2⟩, loG := Nat.le_trans hl h.loG, loO := Nat.le_trans hl h.loO, loA := Nat.le_trans hl h.loA }
theorem box6_saysD (w : World) (v0 v1 v2 v3 v4 v5 : Value) (T : TypeId) (W : World) (h : Below (w.alloc (.cells #[v0, v1, v2, v3, v4, v5] T)).heap.size (w.alloc (.cells #[v0, v1, v2, v3, v4, v5] T)) W) :
    W.cell? ⟨w.heap.size, 0, none⟩ = some v0 ∧ W.cell? ⟨w.heap.size, 1, none⟩ = some v1 ∧ W.cell? ⟨w.heap.size, 2, none⟩ = some v2 ∧ W.cell? ⟨w.heap.size, 3, none⟩ = some v3 ∧ W.cell? ⟨w.heap.size, 4, none⟩ = some v4 ∧ W.cell? ⟨w.heap.size, 5, none⟩ = some v5 :=
  have k := box_says w #[v0, v1, v2, v3, v4, v5] T W h
  ⟨k 0 _ rfl, k 1 _ rfl, k 2 _ rfl, k 3 _ rfl, k 4 _ rfl, k 5 _ rfl⟩
theorem box3_saysD (w : World) (v0 v1 v2 : Value) (T : TypeId) (W : World) (h : Below (w.alloc (.cells #[v0, v1, v2] T)).heap.size (w.alloc (.cells #[v0, v1, v2] T)) W) :
    W.cell? ⟨w.heap.size, 0, none⟩ = some v0 ∧ W.cell? ⟨w.heap.size, 1, none⟩ = some v1 ∧ W.cell? ⟨w.heap.size, 2, none⟩ = some v2 :=
  have k := box_says w #[v0, v1, v2] T W h
  ⟨k 0 _ rfl, k 1 _ rfl, k 2 _ rfl⟩
theorem any_next {α : Type} (f : α → Bool) (xs : List α) (k : Nat) (x : α) (h : xs[k]? = some x) : (xs.take (k + 1)).any f = ((xs.take k).any f || f x) := by
  rw [List.take_add_one, h]; simp
/-- Two rows and their box, fresh. -/
theorem rises_made {w : World} {lo O A : Nat} (hO : CellsAt w O 4 (List.replicate 1001 (.bool false))) (hA : CellsAt w A 59 (List.replicate 1001 (.slice none 0 0))) (h1 : lo ≤ O) (h2 : lo ≤ A) (h3 : O ≠ A) :
    Rises (w.alloc (.cells #[.slice (some ⟨O, 0, none⟩) 1001 1001, .slice (some ⟨A, 0, none⟩) 1001 1001] 67)) lo w.heap.size O A (fun _ => false) (fun _ _ => false) (fun _ => none) := by
  have l1 := hO.lt
  have l2 := hA.lt
  exact { box := heap_alloc_new w _, o := by rw [← bools_none]; exact hO.later (below1 _ _), a := by rw [rowsL_none]; exact hA.later (below1 _ _), r := fun p B _ h => (by cases h), n := fun _ _ _ _ => rfl, apart := fun p q B _ _ h => (by cases h), loG := by omega, loO := h1, loA := h2, GO := by omega, GA := by omega, OA := h3 }
theorem made_at {w w' : World} {T : TypeId} {n : Nat} {z : Value} (hz : z.cells = #[z]) (hown : w'.ownsRow w.heap.size T 1 (.slice (some ⟨w.heap.size, 0, none⟩) n n) n (madeCells z.cells (n * 1)).toList) : CellsAt w' w.heap.size T (List.replicate n z) := by
  have := CellsAt.of_own hown (by rw [Array.length_toList, size_madeCells])
  rwa [made_cells _ hz, Nat.mul_one] at this
theorem grown_below {w w' : World} (h : w.grownBy w' none) : Below w.heap.size w w' := ⟨h.os, h.tape, h.output, h.size, fun k hk => h.block k hk (by simp)⟩
set_option maxRecDepth 100000 in
set_option maxHeartbeats 4000000 in
theorem newRises_any (ta sa da : Option Addr) (tn tc sn sc dn dc : Nat) (x0 x1 x2 : Int) (high : Bool) (w : World) (lo hi : Nat) (ts : List Tk) (ss : List Sv) (htn : ts.length = tn) (hsn : ss.length = sn)
    (hts : Lies w lo hi (.slice ta tn tc) tn 6 (ts.flatMap Tk.cells)) (hss : Lies w lo hi (.slice sa sn sc) sn 3 (ss.flatMap Sv.cells)) (hhi : hi ≤ w.heap.size) (ht2 : tn ≤ 1000000) (hs2 : sn ≤ 1000000) :
    Calls Try.prog 27 #[.agg #[.slice ta tn tc, .slice sa sn sc, .slice da dn dc, .int .u8 x0, .int .u8 x1, .int .u8 x2], .bool high] w fun e w' => ∃ G O A, e = .returned (.pointer (some ⟨G, 0, none⟩)) ∧ (∃ rows, Rises w' w.heap.size G O A (fun i => ss.any fun s => oSv high s i) (fun q i => ts.any (fun k => mTk high k q i) || ss.any fun s => mSv high s q i) rows) ∧ Below w.heap.size w w' := by
  obtain ⟨i0, hi0, hz0, hz1, hz2⟩ := info_parts Try.infoBool
  obtain ⟨i1, hi1, hy0, hy1, hy2⟩ := info_parts Try.infoBools
  obtain ⟨F1, hF1⟩ := Classical.axiomOfChoice (fun W : World => run_make_full (P := Try.prog) (w := W) W.heap.size 59 4 i0 _ 1 Try.underlying59 hi0 hz0 hz1 .i64 .i64 1001 (by rw [hz2]; omega) (by simp [maxLen]) (Nat.le_refl _))
  obtain ⟨F2, hF2⟩ := Classical.axiomOfChoice (fun W : World => run_make_full (P := Try.prog) (w := W) W.heap.size 65 59 i1 _ 1 Try.underlying65 hi1 hy0 hy1 .i64 .i64 1001 (by rw [hy2]; omega) (by simp [maxLen]) (Nat.le_refl _))
  have hr1 : ∀ W : World, (Instr.makeSlice 59 (.int .i64 1001) (.int .i64 1001)).run Try.prog W = .ok (.slice (some ⟨W.heap.size, 0, none⟩) 1001 1001) (F1 W) := fun W => (hF1 W).1
  have hr2 : ∀ W : World, (Instr.makeSlice 65 (.int .i64 1001) (.int .i64 1001)).run Try.prog W = .ok (.slice (some ⟨W.heap.size, 0, none⟩) 1001 1001) (F2 W) := fun W => (hF2 W).1
  have c1 : ∀ W : World, CellsAt (F1 W) W.heap.size 4 (List.replicate 1001 (.bool false)) := fun W => made_at rfl (hF1 W).2.1
  have c2 : ∀ W : World, CellsAt (F2 W) W.heap.size 59 (List.replicate 1001 (.slice none 0 0)) := fun W => made_at rfl (hF2 W).2.1
  have b1 : ∀ W : World, Below W.heap.size W (F1 W) := fun W => grown_below (hF1 W).2.2
  have b2 : ∀ W : World, Below W.heap.size W (F2 W) := fun W => grown_below (hF2 W).2.2
  obtain ⟨V, hV⟩ : ∃ V, V = w.alloc (.cells #[.slice ta tn tc, .slice sa sn sc, .slice da dn dc, .int .u8 x0, .int .u8 x1, .int .u8 x2] 45) := ⟨_, rfl⟩
  have ks : ∀ W : World, Below V.heap.size V W → W.cell? ⟨w.heap.size, 0, none⟩ = some (.slice ta tn tc) ∧ W.cell? ⟨w.heap.size, 1, none⟩ = some (.slice sa sn sc) := fun W h => by
    rw [hV] at h
    have k := box_says w #[.slice ta tn tc, .slice sa sn sc, .slice da dn dc, .int .u8 x0, .int .u8 x1, .int .u8 x2] 45 W h
    exact ⟨k 0 _ rfl, k 1 _ rfl⟩
  have hBV : Below w.heap.size w V := by rw [hV]; exact below1 _ _
  have mk1 : ∀ W : World, Below V.heap.size V W → (Rises ((F2 (F1 W)).alloc (.cells #[.slice (some ⟨W.heap.size, 0, none⟩) 1001 1001, .slice (some ⟨(F1 W).heap.size, 0, none⟩) 1001 1001] 67)) V.heap.size (F2 (F1 W)).heap.size W.heap.size (F1 W).heap.size (fun _ => false) (fun _ _ => false) (fun _ => none)) ∧ Below V.heap.size V ((F2 (F1 W)).alloc (.cells #[.slice (some ⟨W.heap.size, 0, none⟩) 1001 1001, .slice (some ⟨(F1 W).heap.size, 0, none⟩) 1001 1001] 67)) := fun W hW => by
    have l1 := (c1 W).lt
    have hb := bel_thenD (bel_thenD hW (Nat.le_refl _) (b1 W)) (Nat.le_refl _) (b2 (F1 W))
    exact ⟨rises_made ((c1 W).later (b2 (F1 W))) (c2 (F1 W)) hW.size (by have := hW.size; omega) (by omega), b_alloc hb (Nat.le_refl _) _⟩
  have mk2 : ∀ W : World, Below V.heap.size V W → (Rises ((F1 (F2 W)).alloc (.cells #[.slice (some ⟨(F2 W).heap.size, 0, none⟩) 1001 1001, .slice (some ⟨W.heap.size, 0, none⟩) 1001 1001] 67)) V.heap.size (F1 (F2 W)).heap.size (F2 W).heap.size W.heap.size (fun _ => false) (fun _ _ => false) (fun _ => none)) ∧ Below V.heap.size V ((F1 (F2 W)).alloc (.cells #[.slice (some ⟨(F2 W).heap.size, 0, none⟩) 1001 1001, .slice (some ⟨W.heap.size, 0, none⟩) 1001 1001] 67)) := fun W hW => by
    have l1 := (c2 W).lt
    have hb := bel_thenD (bel_thenD hW (Nat.le_refl _) (b2 W)) (Nat.le_refl _) (b1 (F2 W))
    exact ⟨rises_made (c1 (F2 W)) ((c2 W).later (b1 (F2 W))) (by have := hW.size; omega) hW.size (by omega), b_alloc hb (Nat.le_refl _) _⟩
  have HA := Lib.hid (mk1 V.drew ((Below.refl _ _).drew))
  have HB := Lib.hid (mk2 V.drew ((Below.refl _ _).drew))
  have hVw : w.heap.size < V.heap.size := by rw [hV]; simp
  have HT := Lib.hid hts; have HS := Lib.hid hss
  have HTN := Lib.hid htn; have HSN := Lib.hid hsn
  have KS := Lib.hid ks; have HV := Lib.hid hV; have HBV := Lib.hid hBV
  clear hts hss htn hsn ks hV hBV mk1 mk2 c1 c2 b1 b2 hF1 hF2 hi0 hz0 hz1 hz2 hi1 hy0 hy1 hy2
  go_enter Try.func27, Try.ntmps27
  go_wp2_with fail
  rw [← HV.out]
  go_cut [5] from 10 to 13 (fun s wx => ∃ G O A, s = .pointer (some ⟨G, 0, none⟩) ∧ Rises wx V.heap.size G O A (fun _ => false) (fun _ _ => false) (fun _ => none) ∧ Below V.heap.size V wx)
  case first =>
    refine wp_region_held_drew (S := fun _ => True) (by kernel_rfl) trivial (fun hHeld => ?_)
    refine wpAnyH_ready (rs := [0, 1]) (by kernel_rfl) (by simp) ?_
    refine AllReadyH.cons rfl (fun K hK => ?_) (AllReadyH.cons rfl (fun K hK => ?_) AllReadyH.nil)
    · go_simp
      refine hK.out _ _ ?_ (fun hHeld => ?_)
      · trivial
      clear hK K
      try simp only [Act.put, List.setIfInBounds_toArray, List.set_cons_zero, List.set_cons_succ]
      refine wpAnyH_ready (rs := [1]) (by kernel_rfl) (by simp) ?_
      refine AllReadyH.cons rfl (fun K hK => ?_) AllReadyH.nil
      go_simp
      refine hK.out _ _ ?_ (fun hHeld => ?_)
      · trivial
      clear hK K
      try simp only [Act.put, List.setIfInBounds_toArray, List.set_cons_zero, List.set_cons_succ]
      refine wpAnyH_takeE (i := 2) (d := some 12) (v := ?_) rfl rfl (by kernel_rfl) (by kernel_rfl) (by kernel_rfl) (fun _ _ _ h => h) (Or.inl ⟨by rfl, ?_⟩) (by assumption) ?_
      rotate_left
      · intro w hSw
        (try dsimp only at hSw)
        go_simp
        try (with_reducible rfl)
      simp only [Act.put, List.setIfInBounds_toArray, List.set_cons_zero, List.set_cons_succ]
      refine wpAnyH_ready (rs := [3]) (by kernel_rfl) (by simp) ?_
      refine AllReadyH.cons rfl (fun K hK => ?_) AllReadyH.nil
      go_simp
      refine hK.out _ _ ?_ (fun hHeld => ?_)
      · trivial
      clear hK K
      try simp only [Act.put, List.setIfInBounds_toArray, List.set_cons_zero, List.set_cons_succ]
      refine wpAnyH_takeE (i := 4) (d := some 5) (v := ?_) rfl rfl (by kernel_rfl) (by kernel_rfl) (by kernel_rfl) (fun _ _ _ h => h) (Or.inl ⟨by rfl, ?_⟩) (by assumption) ?_
      rotate_left
      · intro w hSw
        (try dsimp only at hSw)
        go_simp
        try (with_reducible rfl)
      simp only [Act.put, List.setIfInBounds_toArray, List.set_cons_zero, List.set_cons_succ]
      refine wpAnyH_done (by kernel_rfl) ?_ _
      go_wp2_with fail
      go_meet
      (case rel => exact ⟨_, _, _, rfl, HA.out⟩)
    · go_simp
      refine hK.out _ _ ?_ (fun hHeld => ?_)
      · trivial
      clear hK K
      try simp only [Act.put, List.setIfInBounds_toArray, List.set_cons_zero, List.set_cons_succ]
      refine wpAnyH_ready (rs := [0]) (by kernel_rfl) (by simp) ?_
      refine AllReadyH.cons rfl (fun K hK => ?_) AllReadyH.nil
      go_simp
      refine hK.out _ _ ?_ (fun hHeld => ?_)
      · trivial
      clear hK K
      try simp only [Act.put, List.setIfInBounds_toArray, List.set_cons_zero, List.set_cons_succ]
      refine wpAnyH_takeE (i := 2) (d := some 12) (v := ?_) rfl rfl (by kernel_rfl) (by kernel_rfl) (by kernel_rfl) (fun _ _ _ h => h) (Or.inl ⟨by rfl, ?_⟩) (by assumption) ?_
      rotate_left
      · intro w hSw
        (try dsimp only at hSw)
        go_simp
        try (with_reducible rfl)
      simp only [Act.put, List.setIfInBounds_toArray, List.set_cons_zero, List.set_cons_succ]
      refine wpAnyH_ready (rs := [3]) (by kernel_rfl) (by simp) ?_
      refine AllReadyH.cons rfl (fun K hK => ?_) AllReadyH.nil
      go_simp
      refine hK.out _ _ ?_ (fun hHeld => ?_)
      · trivial
      clear hK K
      try simp only [Act.put, List.setIfInBounds_toArray, List.set_cons_zero, List.set_cons_succ]
      refine wpAnyH_takeE (i := 4) (d := some 5) (v := ?_) rfl rfl (by kernel_rfl) (by kernel_rfl) (by kernel_rfl) (fun _ _ _ h => h) (Or.inl ⟨by rfl, ?_⟩) (by assumption) ?_
      rotate_left
      · intro w hSw
        (try dsimp only at hSw)
        go_simp
        try (with_reducible rfl)
      simp only [Act.put, List.setIfInBounds_toArray, List.set_cons_zero, List.set_cons_succ]
      refine wpAnyH_done (by kernel_rfl) ?_ _
      go_wp2_with fail
      go_meet
      (case rel => exact ⟨_, _, _, rfl, HB.out⟩)
  case rest =>
    clear HA HB hr1 hr2
    obtain ⟨G, O, A, rfl, hR, hb⟩ := hcut
    obtain ⟨k0, k1⟩ := KS.out _ hb
    have HR := Lib.hid (show ∃ rows, Rises wc V.heap.size G O A (fun _ => false) (fun q i => (ts.take 0).any fun k => mTk high k q i) rows from ⟨_, hR⟩)
    clear hR
    go_wp2_with fail
    clear k0 k1
    go_loopw [17] (fun i wr => ∃ k : Nat, k ≤ tn ∧ i = .int .i64 k ∧ Hid (∃ rows, Rises wr V.heap.size G O A (fun _ => false) (fun q i => (ts.take k).any fun k => mTk high k q i) rows) ∧ Below V.heap.size V wr) (fun i _ => tn - (intOf i).toNat)
    case atStart => exact ⟨0, by omega, rfl, HR, hb⟩
    case round =>
      clear HR hb
      obtain ⟨k, hk, rfl, HR, hb⟩ := hrel
      by_cases hlt : k < tn
      · have tk : decide ((k : Int) < (tn : Int)) = true := by simpa using hlt
        obtain ⟨x, hx⟩ : ∃ x, ts[k]? = some x := ⟨_, List.getElem?_eq_getElem (by rw [HTN.out]; exact hlt)⟩
        have hlies := HT.out.keep (SameIn.of_below (HBV.out.trans (hb.mono (Nat.le_of_lt hVw))) hhi)
        obtain ⟨a2, c2, e2, _, _, hc⟩ := hlies
        cases e2
        rcases hc with h0 | ⟨b, off, rfl, hb1, hb2, hc⟩
        · omega
        obtain ⟨s0, s1, s2, s3, s4, s5⟩ := Lies.tk hc hx
        have HN := Lib.hid (show (fun q i => (ts.take (k + 1)).any fun k => mTk high k q i) = fun q i => (ts.take k).any (fun k => mTk high k q i) || mTk high x q i from by funext q i; exact any_next _ ts k x hx)
        obtain ⟨rows, hrr⟩ := HR.out
        have HRR := Lib.hid hrr
        clear hc hx hrr HR
        obtain ⟨xb, xt, xd, xv, xlo, xtop⟩ := x
        simp only at s0 s1 s2 s3 s4 s5
        have l0 : (0 : Int) ≤ (k : Int) := by omega
        have l1 : (k : Int) < (tn : Int) := by omega
        cases hcb : countsB ⟨xb, xt, xd, xv, xlo, xtop⟩ high with
        | true =>
          have HC := Lib.hid hcb
          clear hcb
          go_wp2_with (first
            | (go_at_call 32; refine (addTask_any (HRR.out.later hbr) (Nat.le_trans hb.size hbr.size) _ _ _ _ _ _ _ HC.out).mono ?_; rintro e w2 ⟨rfl, ⟨rows2, hr2⟩, hb2'⟩)
            | (go_at_call 19; refine (counts_any _ _ _ _ _ _ _ _).mono ?_; rintro e w1 ⟨rfl, hb1'⟩; rw [show (okTk ⟨xb, xt, xd, xv, xlo, xtop⟩ && (xb || !high)) = true from HC.out]; have hbr := bel_thenD (below1 wr _) (Nat.le_refl _) hb1'; obtain ⟨z0, z1, z2, z3, z4, z5⟩ := box6_saysD _ _ _ _ _ _ _ _ _ hb1'))
          go_roundw
          case rel => exact ⟨k + 1, by omega, by go_num, Lib.hid ⟨rows2, by rw [HN.out]; exact hr2⟩, (hb.trans (hbr.mono hb.size)).trans hb2'⟩
          case measure => simp [intOf]; omega
        | false =>
          have HC := Lib.hid hcb
          have HZ : Hid ((fun q i => (ts.take k).any (fun k => mTk high k q i) || mTk high ⟨xb, xt, xd, xv, xlo, xtop⟩ q i) = fun q i => (ts.take k).any fun k => mTk high k q i) := Lib.hid (by funext q i; unfold mTk; rw [hcb]; simp)
          clear hcb
          go_wp2_with (first
            | (go_at_call 19; refine (counts_any _ _ _ _ _ _ _ _).mono ?_; rintro e w1 ⟨rfl, hb1'⟩; rw [show (okTk ⟨xb, xt, xd, xv, xlo, xtop⟩ && (xb || !high)) = false from HC.out]; have hbr := bel_thenD (below1 wr _) (Nat.le_refl _) hb1'))
          go_roundw
          case rel => exact ⟨k + 1, by omega, by go_num, Lib.hid ⟨rows, by rw [HN.out, HZ.out]; exact HRR.out.later hbr⟩, hb.trans (hbr.mono hb.size)⟩
          case measure => simp [intOf]; omega
      · have tk : decide ((k : Int) < (tn : Int)) = false := by simp; omega
        obtain ⟨rows, hrr⟩ := HR.out
        rw [List.take_of_length_le (show ts.length ≤ k by rw [HTN.out]; omega)] at hrr
        have HR2 := Lib.hid (show ∃ rows, Rises wr V.heap.size G O A (fun i => (ss.take 0).any fun s => oSv high s i) (fun q i => ts.any (fun k => mTk high k q i) || (ss.take 0).any fun s => mSv high s q i) rows from ⟨rows, by simpa using hrr⟩)
        obtain ⟨k0, k1⟩ := KS.out _ hb
        clear hrr HR k0 HTN HT
        go_wp2_with fail
        clear k1
        go_loopw [32] (fun i wr => ∃ k : Nat, k ≤ sn ∧ i = .int .i64 k ∧ Hid (∃ rows, Rises wr V.heap.size G O A (fun i => (ss.take k).any fun s => oSv high s i) (fun q i => ts.any (fun k => mTk high k q i) || (ss.take k).any fun s => mSv high s q i) rows) ∧ Below V.heap.size V wr) (fun i _ => sn - (intOf i).toNat)
        case atStart => exact ⟨0, by omega, rfl, HR2, hb⟩
        case round =>
          clear HR2 hb hk tk hlt
          obtain ⟨k, hk, rfl, HR, hb⟩ := hrel
          by_cases hlt : k < sn
          · have tk : decide ((k : Int) < (sn : Int)) = true := by simpa using hlt
            obtain ⟨x, hx⟩ : ∃ x, ss[k]? = some x := ⟨_, List.getElem?_eq_getElem (by rw [HSN.out]; exact hlt)⟩
            have hlies := HS.out.keep (SameIn.of_below (HBV.out.trans (hb.mono (Nat.le_of_lt hVw))) hhi)
            obtain ⟨a2, c2, e2, _, _, hc⟩ := hlies
            cases e2
            rcases hc with h0 | ⟨b, off, rfl, hb1, hb2, hc⟩
            · omega
            obtain ⟨s0, s1, s2⟩ := Lies.sv hc hx
            have HN := Lib.hid (show (fun i => (ss.take (k + 1)).any fun s => oSv high s i) = fun i => (ss.take k).any (fun s => oSv high s i) || oSv high x i from by funext i; exact any_next _ ss k x hx)
            have HN2 := Lib.hid (show (fun q i => ts.any (fun k => mTk high k q i) || (ss.take (k + 1)).any fun s => mSv high s q i) = fun q i => (ts.any (fun k => mTk high k q i) || (ss.take k).any fun s => mSv high s q i) || mSv high x q i from by funext q i; rw [any_next _ ss k x hx, Bool.or_assoc])
            obtain ⟨rows, hrr⟩ := HR.out
            have HRR := Lib.hid hrr
            clear hc hx hrr HR
            obtain ⟨xr, xc, xt⟩ := x
            simp only at s0 s1 s2
            have l0 : (0 : Int) ≤ (k : Int) := by omega
            have l1 : (k : Int) < (sn : Int) := by omega
            cases hcb : okSv ⟨xr, xc, xt⟩ with
            | true =>
              have HC := Lib.hid hcb
              cases high with
              | false =>
                clear hcb
                go_wp2_with (first
                  | (go_at_call 33; refine (addServer_any (HRR.out.later hbr) (Nat.le_trans hb.size hbr.size) _ _ _ HC.out).mono ?_; rintro e w2 ⟨rfl, ⟨rows2, hr2⟩, hb2'⟩)
                  | (go_at_call 18; refine (serverRight_any _ _ _ _).mono ?_; rintro e w1 ⟨rfl, hb1'⟩; rw [HC.out]; have hbr := bel_thenD (below1 wr _) (Nat.le_refl _) hb1'; obtain ⟨z0, z1, z2⟩ := box3_saysD _ _ _ _ _ _ hb1'))
                go_roundw
                case rel => exact ⟨k + 1, by omega, by go_num, Lib.hid ⟨rows2, by rw [HN.out, HN2.out]; exact hr2⟩, (hb.trans (hbr.mono hb.size)).trans hb2'⟩
                case measure => simp [intOf]; omega
              | true =>
                have HZ1 : Hid ((fun i => (ss.take k).any (fun s => oSv true s i) || oSv true ⟨xr, xc, xt⟩ i) = fun i => (ss.take k).any fun s => oSv true s i) := Lib.hid (by funext i; unfold oSv; simp)
                have HZ2 : Hid ((fun q i => (ts.any (fun k => mTk true k q i) || (ss.take k).any fun s => mSv true s q i) || mSv true ⟨xr, xc, xt⟩ q i) = fun q i => ts.any (fun k => mTk true k q i) || (ss.take k).any fun s => mSv true s q i) := Lib.hid (by funext q i; unfold mSv; simp)
                clear hcb
                go_wp2_with (first
                  | (go_at_call 18; refine (serverRight_any _ _ _ _).mono ?_; rintro e w1 ⟨rfl, hb1'⟩; rw [HC.out]; have hbr := bel_thenD (below1 wr _) (Nat.le_refl _) hb1'))
                go_roundw
                case rel => exact ⟨k + 1, by omega, by go_num, Lib.hid ⟨rows, by rw [HN.out, HN2.out, HZ1.out, HZ2.out]; exact HRR.out.later hbr⟩, hb.trans (hbr.mono hb.size)⟩
                case measure => simp [intOf]; omega
            | false =>
              have HC := Lib.hid hcb
              have HZ1 : Hid ((fun i => (ss.take k).any (fun s => oSv high s i) || oSv high ⟨xr, xc, xt⟩ i) = fun i => (ss.take k).any fun s => oSv high s i) := Lib.hid (by funext i; unfold oSv; rw [hcb]; simp)
              have HZ2 : Hid ((fun q i => (ts.any (fun k => mTk high k q i) || (ss.take k).any fun s => mSv high s q i) || mSv high ⟨xr, xc, xt⟩ q i) = fun q i => ts.any (fun k => mTk high k q i) || (ss.take k).any fun s => mSv high s q i) := Lib.hid (by funext q i; unfold mSv; rw [hcb]; simp)
              clear hcb
              go_wp2_with (first
                | (go_at_call 18; refine (serverRight_any _ _ _ _).mono ?_; rintro e w1 ⟨rfl, hb1'⟩; rw [HC.out]; have hbr := bel_thenD (below1 wr _) (Nat.le_refl _) hb1'))
              go_roundw
              case rel => exact ⟨k + 1, by omega, by go_num, Lib.hid ⟨rows, by rw [HN.out, HN2.out, HZ1.out, HZ2.out]; exact HRR.out.later hbr⟩, hb.trans (hbr.mono hb.size)⟩
              case measure => simp [intOf]; omega
          · have tk : decide ((k : Int) < (sn : Int)) = false := by simp; omega
            obtain ⟨rows, hrr⟩ := HR.out
            rw [List.take_of_length_le (show ss.length ≤ k by rw [HSN.out]; omega)] at hrr
            have HR2 := Lib.hid (hrr.weaker (Nat.le_of_lt hVw))
            clear hrr HR HSN HS
            go_wp2_with fail
            go_ret
            exact ⟨G, O, A, rfl, ⟨rows, HR2.out⟩, HBV.out.trans (hb.mono (Nat.le_of_lt hVw))⟩
end Go.Proofs.Ytlmgphomklpplaa
