/- WheelComes, out of the contracts. -/
import Derived.Test.YtbjhoncojegjiaaDoorWheelS
import Derived.Test.YtbjhoncojegjiaaDoorHand
namespace Go.Proofs.YtbjhoncojegjiaaDoor
open Go.ChangeShapes Go.WideShapes Go.ChangeAt Go.RowKit
set_option linter.unusedVariables false

theorem made13 (n : Nat) : (madeCells (Value.int .i64 0).cells (n * 1)).toList = (List.replicate n (0 : Int)).flatMap intCells := by
  have e : (List.replicate n (0 : Int)).flatMap intCells = List.replicate n (.int .i64 0) := by
    induction n with
    | zero => rfl
    | succ n ih => rw [List.replicate_succ, List.flatMap_cons, ih]; rfl
  rw [e, Nat.mul_one]
  apply List.ext_getElem?
  intro k
  simp only [madeCells, Value.cells]
  by_cases hk : k < n <;> simp [hk, Nat.mod_one]
theorem gos_of {x : Nat → Int} {t : Int} {K : Nat} {L : List Int} (h : goL x t K = L) : Gos x t K 0 (L.drop 0) := by
  subst h
  exact gos_goL x t K
theorem goLlen_of {x : Nat → Int} {t : Int} {K N : Nat} {L : List Int} (h : goL x t K = L) (hN : L.length = N) : N ≤ K := by
  subst h
  rw [← hN]
  exact goL_len x t K
set_option maxRecDepth 100000 in
set_option maxHeartbeats 400000 in
theorem WheelComes_of (O : WheelOk) (start : Int) (a0 : Option Addr) (n c0 : Nat) (w : World) (hT : O.T w) (l0 : List Int) (hn0 : l0.length = n) (hl0 : Lies w 0 w.heap.size (.slice a0 n c0) n 1 (l0.flatMap intCells)) (hi0 : ∀ x ∈ l0, I64 x) :
    Calls Tryd.prog 4 #[.int .i64 start, .slice a0 n c0] w fun e w' => e = .returned (.bool true) ∧ Below w.heap.size w w' := by
  have HK := Lib.hid (knows13_of O w hT)
  have HTT : Hid (∀ Y, Below w.heap.size w Y → O.T Y) := Lib.hid (fun Y hY => O.tlater hT hY)
  clear hT
  by_cases hbig : 100 < n ∨ start < 0 ∨ 2305843009213693952 < start
  · clear hn0 hl0 hi0
    rcases (show (decide ((100 : Int) < (n : Int)) = true) ∨ (decide ((100 : Int) < (n : Int)) = false ∧ decide (start < 0) = true) ∨ (decide ((100 : Int) < (n : Int)) = false ∧ decide (start < 0) = false ∧ decide ((2305843009213693952 : Int) < start) = true) by simp only [decide_eq_true_eq, decide_eq_false_iff_not]; omega) with t0 | ⟨t0, t1⟩ | ⟨t0, t1, t2⟩
    all_goals
      clear hbig
      go_enter Tryd.func4, Tryd.ntmps4
      go_wp2_with (go_at_call 7; refine HK.out.mono ?_; rintro e w3 ⟨rfl, hb3⟩)
      go_ret
      exact ⟨rfl, hb3⟩
  obtain ⟨i0, hinf, hz0, hz1, hz2⟩ := info_parts Tryd.infoInt
  have HI := Lib.hid hinf; clear hinf
  have s0 : n ≤ 100 := by omega
  have s1 : 0 ≤ start := by omega
  have s2 : start ≤ 2305843009213693952 := by omega
  have t0 : decide ((100 : Int) < (n : Int)) = false := decide_eq_false (by omega)
  have t1 : decide (start < 0) = false := decide_eq_false (by omega)
  have t2 : decide ((2305843009213693952 : Int) < start) = false := decide_eq_false (by omega)
  have KA : Hid (∀ Y, Below w.heap.size w Y → ∀ i, i < n → ∃ b off e, a0 = some ⟨b, off, none⟩ ∧ Y.cell? ⟨b, off + i, none⟩ = some (.int .i64 e) ∧ b < w.heap.size) := Lib.hid (fun Y hY i hi => by
    obtain ⟨b, off, e, h1, _, h2, _, h3⟩ := ints_read hn0 (hl0.keep (SameIn.of_below hY (Nat.le_refl _))) i hi
    exact ⟨b, off, e, h1, h2, h3⟩)
  have HMM : Hid (min (max start 0) 4611686018427387904 = start) := Lib.hid (by omega)
  clear hbig hn0 hl0 hi0
  go_enter Tryd.func4, Tryd.ntmps4
  go_wp2_with (first
    | (refine wpList_make_full _ (by rfl) (.tmp 32) (.tmp 32) 30 (by rfl) w2.heap.size 3 i0 _ 1 Tryd.underlying30 HI.out hz0 hz1 _ _ n n n (by rfl) (by rfl) rfl rfl (by rw [hz2]; omega) (by simp [maxLen]; omega) (Nat.le_refl _) ?_; intro w3 hown3 hgrow3)
    | (go_at_call 8; refine (O.new start _ (HTT.out _ hb1.out)).mono ?_; rintro e w2 ⟨H, S, rfl, hh2', hs2', hb2'⟩; rw [HMM.out] at hh2'; have hh2 := Lib.hid hh2'; have hs2 := Lib.hid hs2'; have hb2 := Lib.hid hb2'; clear hh2' hb2' hs2')
    | (go_at_call 7; refine HK.out.mono ?_; rintro e w1 ⟨rfl, hb1'⟩; have hb1 := Lib.hid hb1'; clear hb1')
    | fail "no arm")
  obtain ⟨A, hA⟩ : ∃ A, A = w2.heap.size := ⟨_, rfl⟩
  have hb3 : Below w2.heap.size w2 w3 := ⟨hgrow3.os, hgrow3.tape, hgrow3.output, hgrow3.size, fun b hb => hgrow3.block b hb (by simp)⟩
  have HAw : w.heap.size ≤ A := by rw [hA]; exact Nat.le_trans hb1.out.size hb2.out.size
  have HW3 : Hid (O.Wh w3 H S start (fun _ => -1)) := Lib.hid (O.later hh2.out hb3)
  have HR3 : Hid (RowS w3 A n (fun j => (List.replicate n (0 : Int)).getD j 0) S) := Lib.hid (fun h0 => by
    rw [made13] at hown3
    obtain ⟨G, e, _, hr⟩ := RowAt.of_owns hown3 (by simp) h0
    cases e
    rw [hA]
    exact ⟨hr, fun hs => by have := O.lt hh2.out _ hs; omega⟩)
  have HS3 : Hid (∀ k, S k → w.heap.size ≤ k) := Lib.hid (fun k hk => Nat.le_trans hb1.out.size (hs2.out k hk))
  have HB3 : Hid (Below w.heap.size w w3) := Lib.hid ((hb1.out.trans (hb2.out.mono hb1.out.size)).trans (hb3.mono (Nat.le_trans hb1.out.size hb2.out.size)))
  rw [← hA]
  clear hown3 hgrow3 hb3 hh2 hb2 hb1 hs2 hA
  generalize (fun j => (List.replicate n (0 : Int)).getD j 0) = r0 at HR3
  go_loopw [7] (fun s wr => ∃ (k : Nat) (S : Nat → Prop) (x r : Nat → Int), k ≤ n ∧ s = .int .i64 k ∧ Hid (O.Wh wr H S start x) ∧ Hid (RowS wr A n r S) ∧ Hid (Ahead (start + 3000) start k x) ∧ Hid (∀ j, j < k → r j = x j) ∧ Hid (∀ k, S k → w.heap.size ≤ k) ∧ Hid (Below w.heap.size w wr)) (fun s _ => n - (intOf s).toNat)
  case atStart => exact ⟨0, S, _, r0, Nat.zero_le _, rfl, HW3, HR3, Lib.hid (fun j => .inl rfl), Lib.hid (fun j h => by omega), HS3, HB3⟩
  case round =>
    clear HW3 HR3 HB3 HS3
    obtain ⟨k, S, x, r, hk, rfl, HW, HR, HA, HX, HS, HB⟩ := hrel
    by_cases hlt : k < n
    · have d0 : decide ((k : Int) < (n : Int)) = true := decide_eq_true (by omega)
      have d1 : (0 : Int) ≤ (k : Int) := by omega
      have d2 : (k : Int) < (n : Int) := by omega
      obtain ⟨b, off, e, rfl, c0, hb⟩ := KA.out wr HB.out k hlt
      obtain ⟨q, hq, hrem⟩ := rem3000 e
      obtain ⟨c1, c2⟩ := (HR.out (by omega)).1.at_ hlt
      obtain ⟨tt, htt⟩ : ∃ tt : Int, start + 1 + (q : Int) = tt := ⟨_, rfl⟩
      have HT := Lib.hid htt
      have g1 : start < tt := by omega
      have g2 : tt ≤ start + 3000 := by omega
      obtain ⟨V, hV⟩ : ∃ V, V = wr.setCell ⟨A, k, none⟩ (.int .i64 tt) := ⟨_, rfl⟩
      have HVR : Hid (RowS V A n (updR r k tt) S) := Lib.hid (fun h0 => by rw [hV]; exact ⟨(HR.out h0).1.set hlt tt, (HR.out h0).2⟩)
      have hSA := (HR.out (by omega)).2
      have HVB : Hid (Below w.heap.size w V) := Lib.hid (by rw [hV]; exact HB.out.setCell HAw _)
      have HVT := HTT.out V HVB.out
      have HVW : Hid (O.Wh V H S start x) := Lib.hid (by rw [hV] at HVT ⊢; exact O.keep HW.out (fun j hj => Below.heap_setCell _ _ _ _ (fun e => hSA ((show j = A from e) ▸ hj))) (by simp) HVT)
      clear HVT
      have HV := Lib.hid hV
      clear hV hSA
      go_upto_region 9 with fail
      rw [← HV.out]
      have HC : Hid (setC start k tt = 0 ∧ setX start x k tt = updR x k tt) := Lib.hid (by
        have e : inT (k : Int) = true := by unfold inT; simp; omega
        refine ⟨?_, ?_⟩
        · rw [setC, if_pos e, if_pos ⟨g1, by omega⟩]
        · rw [setX, if_pos ⟨e, g1, by omega⟩, Int.toNat_natCast])
      have HAN : Hid (Ahead (start + 3000) start (k + 1) (updR x k tt)) := Lib.hid (HA.out.set g1 g2)
      have HXN : Hid (∀ j, j < k + 1 → updR r k tt j = updR x k tt j) := Lib.hid (fun j hj => by
        by_cases e : j = k
        · subst e; rw [updR_at, updR_at]
        · rw [updR_ne _ _ e, updR_ne _ _ e]; exact HX.out j (by omega))
      obtain ⟨k1, k2⟩ := (HVR.out (by omega)).1.at_ hlt
      rw [updR_at] at k1
      clear HV HT htt c0 c1 c2 hrem HA HX HW HR HB g1 g2
      go_wp2_with (first
        | (go_at_call 10; refine (num13_any _ _).mono ?_; rintro e w7 ⟨rfl, hw7⟩; rw [hw7]; clear hw7)
        | (go_at_call 11; refine (O.set _ _ _ _ _ k tt HVW.out).mono ?_; rintro e w4 ⟨S4, rfl, h4', g4'⟩; rw [HC.out.1]; rw [HC.out.2] at h4'; have h4 := Lib.hid h4'; have r4 := Lib.hid (HVR.out.grow g4'); have g4 := Lib.hid (g4'.below HS.out HVB.out.size); clear h4' g4')
        | fail "no arm")
      go_roundw
      case rel => exact ⟨k + 1, S4, _, _, by omega, by go_num, h4, r4, HAN, HXN, Lib.hid g4.out.2, Lib.hid (HVB.out.trans g4.out.1)⟩
      case measure => simp [intOf]; omega
    · have d0 : decide ((k : Int) < (n : Int)) = false := decide_eq_false (by omega)
      have hkn : n = k := by omega
      subst hkn
      have HR' : Hid (RowS wr A n x S) := Lib.hid (fun h0 => ⟨(HR.out h0).1.congr HX.out, (HR.out h0).2⟩)
      have HW' : Hid (O.Wh wr H S (start + ((0 : Nat) : Int)) x) := Lib.hid (by have := HW.out; simpa using this)
      have HA' : Hid (Ahead (start + 3000) (start + ((0 : Nat) : Int)) n x) := Lib.hid (by have := HA.out; simpa using this)
      clear HR HW HX HA
      go_wp2_with fail
      go_loopw [8] (fun s wr => ∃ (m : Nat) (S : Nat → Prop) (x : Nat → Int), m ≤ 3001 ∧ s = .int .i64 m ∧ Hid (O.Wh wr H S (start + (m : Int)) x) ∧ Hid (RowS wr A n x S) ∧ Hid (Ahead (start + 3000) (start + (m : Int)) n x) ∧ Hid (∀ k, S k → w.heap.size ≤ k) ∧ Hid (Below w.heap.size w wr)) (fun s _ => 3001 - (intOf s).toNat)
      case atStart => exact ⟨0, S, x, by omega, rfl, HW', HR', HA', HS, HB⟩
      case round =>
        clear HW' HR' HA' HS HB
        obtain ⟨m, S, x, hm, rfl, HW, HR, HA, HS, HB⟩ := hrel
        by_cases hlt2 : m < 3001
        · have d1 : decide ((m : Int) < 3001) = true := decide_eq_true (by omega)
          have HG0 := O.go _ _ _ _ _ HW.out (by omega)
          obtain ⟨L, hL⟩ : ∃ L, goL x (start + (m : Int) + 1) 256 = L := ⟨_, rfl⟩
          have HG6 : Hid (Gos x (start + (m : Int) + 1) 256 0 (L.drop 0)) := Lib.hid (gos_of hL)
          obtain ⟨N, hN⟩ : ∃ N, L.length = N := ⟨_, rfl⟩
          have hN2 : N ≤ 256 := goLlen_of hL hN
          rw [hL, hN] at HG0
          have HG := Lib.hid HG0
          have HN := Lib.hid hN
          have HAN : Hid (Ahead (start + 3000) (start + (m : Int) + 1) n (goX x (start + (m : Int) + 1) 256)) := Lib.hid (HA.out.go (by omega))
          have HYN : Hid (∀ y : Nat, x y = start + (m : Int) + 1 → y < n) := Lib.hid (fun y hy => (HA.out y).elim (fun h => by omega) (fun h => h.1))
          obtain ⟨t, ht⟩ : ∃ t, t = start + (m : Int) + 1 := ⟨_, rfl⟩
          have HT := Lib.hid ht
          rw [← ht] at HG HAN HYN HG6
          have ht0 : 0 ≤ t := by omega
          have ht1 : t ≤ 2305843009213693952 + 3001 := by omega
          clear HG0 ht hN hL HW HA
          go_wp2_with (go_at_call 16; refine HG.out.mono ?_; rintro e w5 ⟨S5, ao, cap, rfl, l5', h5', g5'⟩; have h5 := Lib.hid h5'; have l5 := Lib.hid l5'; have g5 := Lib.hid g5'; clear h5' g5' l5')
          have HB5 : Hid (Below w.heap.size w w5 ∧ ∀ k, S5 k → w.heap.size ≤ k) := Lib.hid (by
            have := g5.out.below HS.out HB.out.size
            exact ⟨HB.out.trans this.1, this.2⟩)
          have HR5 : Hid (RowS w5 A n x S5) := Lib.hid (HR.out.grow g5.out)
          have HL : Hid (∀ Y, But2 A A w5 Y → ∀ i, i < N → 0 < n → ∃ bl off e, ao = some ⟨bl, off, none⟩ ∧ L[i]? = some e ∧ Y.cell? ⟨bl, off + i, none⟩ = some (.int .i64 e)) := Lib.hid (fun Y hY i hi h0 => by
            have hA1 := (HR.out h0).1.lt
            obtain ⟨bl, off, e, h1, h2, h3, _, _⟩ := ints_read HN.out (l5.out.keep (w' := Y) (fun b hb1 hb2 => hY.block b hb2 (by omega) (by omega))) i hi
            exact ⟨bl, off, e, h1, h2, h3⟩)
          have HR6 : Hid (0 < n → RowAt w5 A n (goX x t 0)) := Lib.hid (fun h0 => by rw [goX_zero]; exact (HR5.out h0).1)
          clear HG g5 l5 HR HB HS
          go_loopw [10, 11] (fun s10 s11 wq => ∃ (i b : Nat), i ≤ N ∧ b ≤ 256 ∧ s10 = .int .i64 ((b : Int) - 1) ∧ s11 = .int .i64 i ∧ Hid (Gos x t 256 b (L.drop i)) ∧ Hid (But2 A A w5 wq) ∧ Hid (0 < n → RowAt wq A n (goX x t b)) ∧ Hid (n = 0 → wq = w5)) (fun _ s _ => N - (intOf s).toNat)
          case atStart => exact ⟨0, 0, by omega, by omega, rfl, rfl, HG6, Lib.hid (But2.refl _), HR6, Lib.hid (fun _ => rfl)⟩
          case round =>
            clear HG6 HR6
            obtain ⟨i, b, hi, hb, rfl, rfl, HGo, HBu, HRq, HE5⟩ := hrel
            have HTq : Hid (Below w.heap.size w wr) := Lib.hid (HB5.out.1.trans (HBu.out.one HAw HB5.out.1.size))
            by_cases hlt3 : i < N
            · obtain ⟨y, hy, hby, hy256, hxy, hno, hgn⟩ := HGo.out.get (by rw [HN.out]; exact hlt3)
              have hyn : y < n := HYN.out y hxy
              have n0 : 0 < n := by omega
              obtain ⟨bl, off, e, rfl, hLe, c0⟩ := HL.out _ HBu.out i hlt3 n0
              obtain rfl : e = (y : Int) := Option.some.inj (hLe.symm.trans hy)
              have hrow := HRq.out n0
              have hgy : goX x t b y = t := by unfold goX; rw [if_neg (fun h => by have := h.1; omega)]; exact hxy
              have hWq : O.Wh wr H S5 t (goX x t 256) := O.keep h5.out (fun k hk => HBu.out.block k (O.lt h5.out k hk) (fun e => (HR5.out n0).2 (e ▸ hk)) (fun e => (HR5.out n0).2 (e ▸ hk))) HBu.out.size (HTT.out _ HTq.out)
              have KS : Hid (∀ X, Below wr.heap.size wr X → X.cell? ⟨bl, off + i, none⟩ = some (.int .i64 y) ∧ X.cell? ⟨A, y, none⟩ = some (.int .i64 t) ∧ X.frozen? ⟨A, y, none⟩ = false) := Lib.hid (fun X hX => by
                obtain ⟨bl2, off2, e2, h1, h2, h3⟩ := HL.out X (HBu.out.trans (But2.of_below hX)) i hlt3 n0
                cases h1
                obtain rfl : e2 = (y : Int) := Option.some.inj (h2.symm.trans hLe)
                obtain ⟨h4, h6⟩ := (hrow.same (hX.block A hrow.lt)).at_ hyn
                rw [hgy] at h4
                exact ⟨h3, h4, h6⟩)
              have HNW : Hid (∀ X, Below wr.heap.size wr X → Calls Tryd.prog 20 #[.pointer (some ⟨H, 0, none⟩)] X fun e w' => e = .returned (.int .i64 t) ∧ Below X.heap.size X w') := Lib.hid (fun X hX => O.nowV X H S5 t _ (O.later hWq hX))
              have HEND : Hid (∀ X, Below wr.heap.size wr X → But2 A A w5 (X.setCell ⟨A, y, none⟩ (.int .i64 (-1))) ∧ (0 < n → RowAt (X.setCell ⟨A, y, none⟩ (.int .i64 (-1))) A n (goX x t (y + 1)))) := Lib.hid (fun X hX => by
                refine ⟨(HBu.out.trans (But2.of_below hX)).set1 _ _, fun _ => ?_⟩
                rw [← goX_step hby hxy hno]
                exact (hrow.same (hX.block A hrow.lt)).set hyn (-1))
              have HGN := Lib.hid hgn
              have d0 : decide ((i : Int) < (N : Int)) = true := decide_eq_true (by omega)
              have d1 : (0 : Int) ≤ (i : Int) := by omega
              have d2 : (i : Int) < (N : Int) := by omega
              have d3 : decide ((y : Int) ≤ (b : Int) - 1) = false := decide_eq_false (by omega)
              have d4 : decide (n ≤ y) = false := decide_eq_false (by omega)
              have d5 : (0 : Int) ≤ (y : Int) := by omega
              have d6 : (y : Int) < (n : Int) := by omega
              clear hy hxy hno hgn hLe hrow hgy hWq HGo HRq HBu HTq c0
              obtain ⟨k1, k2, k3⟩ := KS.out _ (Below.refl _ _)
              go_wp2_with fail
              refine wp_region_held_drew (S := fun X => X.cell? ⟨bl, off + i, none⟩ = some (.int .i64 y) ∧ X.cell? ⟨A, y, none⟩ = some (.int .i64 t) ∧ X.frozen? ⟨A, y, none⟩ = false) (by kernel_rfl) ?_ (fun hHeld => ?_)
              · exact KS.out _ (Below.refl _ _).drew
              refine wpAnyH_takeE (i := 0) (d := some 74) (v := ?_) rfl rfl (by kernel_rfl) (by kernel_rfl) (by kernel_rfl) (fun _ _ _ h => h) (Or.inl ⟨by rfl, ?_⟩) (by assumption) ?_
              rotate_left
              · intro w hSw
                (try dsimp only at hSw)
                go_simp
                try (with_reducible rfl)
              simp only [Act.put, List.setIfInBounds_toArray, List.set_cons_zero, List.set_cons_succ]
              refine wpAnyH_takeE (i := 1) (d := some 75) (v := ?_) rfl rfl (by kernel_rfl) (by kernel_rfl) (by kernel_rfl) (fun _ _ _ h => h) (Or.inl ⟨by rfl, ?_⟩) (by assumption) ?_
              rotate_left
              · intro w hSw
                (try dsimp only at hSw)
                go_simp
                try (with_reducible rfl)
              simp only [Act.put, List.setIfInBounds_toArray, List.set_cons_zero, List.set_cons_succ]
              refine wpAnyH_takeE (i := 2) (d := some 76) (v := ?_) rfl rfl (by kernel_rfl) (by kernel_rfl) (by kernel_rfl) (fun _ _ _ h => h) (Or.inl ⟨by rfl, ?_⟩) (by assumption) ?_
              rotate_left
              · intro w hSw
                (try dsimp only at hSw)
                go_simp
                try (with_reducible rfl)
              simp only [Act.put, List.setIfInBounds_toArray, List.set_cons_zero, List.set_cons_succ]
              refine wpAnyH_takeE (i := 3) (d := some 77) (v := ?_) rfl rfl (by kernel_rfl) (by kernel_rfl) (by kernel_rfl) (fun _ _ _ h => h) (Or.inl ⟨by rfl, ?_⟩) (by assumption) ?_
              rotate_left
              · intro w hSw
                (try dsimp only at hSw)
                go_simp
                try (with_reducible rfl)
              simp only [Act.put, List.setIfInBounds_toArray, List.set_cons_zero, List.set_cons_succ]
              refine wpAnyH_takeE (i := 4) (d := some 78) (v := ?_) rfl rfl (by kernel_rfl) (by kernel_rfl) (by kernel_rfl) (fun _ _ _ h => h) (Or.inl ⟨by rfl, ?_⟩) (by assumption) ?_
              rotate_left
              · intro w hSw
                (try dsimp only at hSw)
                go_simp
                try (with_reducible rfl)
              simp only [Act.put, List.setIfInBounds_toArray, List.set_cons_zero, List.set_cons_succ]
              refine wpAnyH_takeE (i := 5) (d := some 79) (v := ?_) rfl rfl (by kernel_rfl) (by kernel_rfl) (by kernel_rfl) (fun _ _ _ h => h) (Or.inl ⟨by rfl, ?_⟩) (by assumption) ?_
              rotate_left
              · intro w hSw
                (try dsimp only at hSw)
                go_simp
                try (with_reducible rfl)
              simp only [Act.put, List.setIfInBounds_toArray, List.set_cons_zero, List.set_cons_succ]
              refine wpAnyH_takeE (i := 6) (d := some 80) (v := ?_) rfl rfl (by kernel_rfl) (by kernel_rfl) (by kernel_rfl) (fun _ _ _ h => h) (Or.inl ⟨by rfl, ?_⟩) (by assumption) ?_
              rotate_left
              · intro w hSw
                (try dsimp only at hSw)
                go_simp
                try (with_reducible rfl)
              simp only [Act.put, List.setIfInBounds_toArray, List.set_cons_zero, List.set_cons_succ]
              refine wpAnyH_takeE (i := 7) (d := some 81) (v := ?_) rfl rfl (by kernel_rfl) (by kernel_rfl) (by kernel_rfl) (fun _ _ _ h => h) (Or.inl ⟨by rfl, ?_⟩) (by assumption) ?_
              rotate_left
              · intro w hSw
                (try dsimp only at hSw)
                go_simp
                try (with_reducible rfl)
              simp only [Act.put, List.setIfInBounds_toArray, List.set_cons_zero, List.set_cons_succ]
              refine wpAnyH_takeE (i := 8) (d := some 82) (v := ?_) rfl rfl (by kernel_rfl) (by kernel_rfl) (by kernel_rfl) (fun _ _ _ h => h) (Or.inl ⟨by rfl, ?_⟩) (by assumption) ?_
              rotate_left
              · intro w hSw
                (try dsimp only at hSw)
                go_simp
                try (with_reducible rfl)
              simp only [Act.put, List.setIfInBounds_toArray, List.set_cons_zero, List.set_cons_succ]
              refine wpAnyH_takeE (i := 9) (d := some 83) (v := ?_) rfl rfl (by kernel_rfl) (by kernel_rfl) (by kernel_rfl) (fun _ _ _ h => h) (Or.inl ⟨by rfl, ?_⟩) (by assumption) ?_
              rotate_left
              · intro w hSw
                (try dsimp only at hSw)
                go_simp
                try (with_reducible rfl)
              simp only [Act.put, List.setIfInBounds_toArray, List.set_cons_zero, List.set_cons_succ]
              refine wpAnyH_takeE (i := 10) (d := some 84) (v := ?_) rfl rfl (by kernel_rfl) (by kernel_rfl) (by kernel_rfl) (fun _ _ _ h => h) (Or.inl ⟨by rfl, ?_⟩) (by assumption) ?_
              rotate_left
              · intro w hSw
                (try dsimp only at hSw)
                go_simp
                try (with_reducible rfl)
              simp only [Act.put, List.setIfInBounds_toArray, List.set_cons_zero, List.set_cons_succ]
              refine wpAnyH_takeE (i := 11) (d := some 85) (v := ?_) rfl rfl (by kernel_rfl) (by kernel_rfl) (by kernel_rfl) (fun _ _ _ h => h) (Or.inl ⟨by rfl, ?_⟩) (by assumption) ?_
              rotate_left
              · intro w hSw
                (try dsimp only at hSw)
                go_simp
                try (with_reducible rfl)
              simp only [Act.put, List.setIfInBounds_toArray, List.set_cons_zero, List.set_cons_succ]
              refine wpAnyH_takeE (i := 12) (d := some 86) (v := ?_) rfl rfl (by kernel_rfl) (by kernel_rfl) (by kernel_rfl) (fun _ _ _ h => h) (Or.inl ⟨by rfl, ?_⟩) (by assumption) ?_
              rotate_left
              · intro w hSw
                (try dsimp only at hSw)
                go_simp
                try (with_reducible rfl)
              simp only [Act.put, List.setIfInBounds_toArray, List.set_cons_zero, List.set_cons_succ]
              refine wpAnyH_takeE (i := 13) (d := some 87) (v := ?_) rfl rfl (by kernel_rfl) (by kernel_rfl) (by kernel_rfl) (fun _ _ _ h => h) (Or.inl ⟨by rfl, ?_⟩) (by assumption) ?_
              rotate_left
              · intro w hSw
                (try dsimp only at hSw)
                go_simp
                try (with_reducible rfl)
              simp only [Act.put, List.setIfInBounds_toArray, List.set_cons_zero, List.set_cons_succ]
              refine wpAnyH_takeE (i := 14) (d := some 88) (v := ?_) rfl rfl (by kernel_rfl) (by kernel_rfl) (by kernel_rfl) (fun _ _ _ h => h) (Or.inl ⟨by rfl, ?_⟩) (by assumption) ?_
              rotate_left
              · intro w hSw
                (try dsimp only at hSw)
                go_simp
                try (with_reducible rfl)
              simp only [Act.put, List.setIfInBounds_toArray, List.set_cons_zero, List.set_cons_succ]
              refine wpAnyH_takeE (i := 15) (d := some 89) (v := ?_) rfl rfl (by kernel_rfl) (by kernel_rfl) (by kernel_rfl) (fun _ _ _ h => h) (Or.inl ⟨by rfl, ?_⟩) (by assumption) ?_
              rotate_left
              · intro w hSw
                (try dsimp only at hSw)
                go_simp
                try (with_reducible rfl)
              simp only [Act.put, List.setIfInBounds_toArray, List.set_cons_zero, List.set_cons_succ]
              refine wpAnyH_takeE (i := 16) (d := some 90) (v := ?_) rfl rfl (by kernel_rfl) (by kernel_rfl) (by kernel_rfl) (fun _ _ _ h => h) (Or.inl ⟨by rfl, ?_⟩) (by assumption) ?_
              rotate_left
              · intro w hSw
                (try dsimp only at hSw)
                go_simp
                try (with_reducible rfl)
              simp only [Act.put, List.setIfInBounds_toArray, List.set_cons_zero, List.set_cons_succ]
              refine wpAnyH_takeE (i := 17) (d := some 91) (v := ?_) rfl rfl (by kernel_rfl) (by kernel_rfl) (by kernel_rfl) (fun _ _ _ h => h) (Or.inl ⟨by rfl, ?_⟩) (by assumption) ?_
              rotate_left
              · intro w hSw
                (try dsimp only at hSw)
                go_simp
                try (with_reducible rfl)
              simp only [Act.put, List.setIfInBounds_toArray, List.set_cons_zero, List.set_cons_succ]
              refine wpAnyH_takeE (i := 18) (d := some 92) (v := ?_) rfl rfl (by kernel_rfl) (by kernel_rfl) (by kernel_rfl) (fun _ _ _ h => h) (Or.inl ⟨by rfl, ?_⟩) (by assumption) ?_
              rotate_left
              · intro w hSw
                (try dsimp only at hSw)
                go_simp
                try (with_reducible rfl)
              simp only [Act.put, List.setIfInBounds_toArray, List.set_cons_zero, List.set_cons_succ]
              refine wpAnyH_takeE (i := 19) (d := some 93) (v := ?_) rfl rfl (by kernel_rfl) (by kernel_rfl) (by kernel_rfl) (fun _ _ _ h => h) (Or.inl ⟨by rfl, ?_⟩) (by assumption) ?_
              rotate_left
              · intro w hSw
                (try dsimp only at hSw)
                go_simp
                try (with_reducible rfl)
              simp only [Act.put, List.setIfInBounds_toArray, List.set_cons_zero, List.set_cons_succ]
              refine wpAnyH_takeE (i := 20) (d := some 94) (v := ?_) rfl rfl (by kernel_rfl) (by kernel_rfl) (by kernel_rfl) (fun _ _ _ h => h) (Or.inl ⟨by rfl, ?_⟩) (by assumption) ?_
              rotate_left
              · intro w hSw
                (try dsimp only at hSw)
                go_simp
                try (with_reducible rfl)
              simp only [Act.put, List.setIfInBounds_toArray, List.set_cons_zero, List.set_cons_succ]
              refine wpAnyH_takeE (i := 21) (d := some 95) (v := ?_) rfl rfl (by kernel_rfl) (by kernel_rfl) (by kernel_rfl) (fun _ _ _ h => h) (Or.inl ⟨by rfl, ?_⟩) (by assumption) ?_
              rotate_left
              · intro w hSw
                (try dsimp only at hSw)
                go_simp
                try (with_reducible rfl)
              simp only [Act.put, List.setIfInBounds_toArray, List.set_cons_zero, List.set_cons_succ]
              refine wpAnyH_takeE (i := 22) (d := some 96) (v := ?_) rfl rfl (by kernel_rfl) (by kernel_rfl) (by kernel_rfl) (fun _ _ _ h => h) (Or.inl ⟨by rfl, ?_⟩) (by assumption) ?_
              rotate_left
              · intro w hSw
                (try dsimp only at hSw)
                go_simp
                try (with_reducible rfl)
              simp only [Act.put, List.setIfInBounds_toArray, List.set_cons_zero, List.set_cons_succ]
              refine wpAnyH_takeE (i := 23) (d := some 97) (v := ?_) rfl rfl (by kernel_rfl) (by kernel_rfl) (by kernel_rfl) (fun _ _ _ h => h) (Or.inl ⟨by rfl, ?_⟩) (by assumption) ?_
              rotate_left
              · intro w hSw
                (try dsimp only at hSw)
                go_simp
                try (with_reducible rfl)
              simp only [Act.put, List.setIfInBounds_toArray, List.set_cons_zero, List.set_cons_succ]
              refine wpAnyH_ready (rs := [24]) (by kernel_rfl) (by simp) ?_
              refine AllReadyH.cons rfl (fun K hK => ?_) AllReadyH.nil
              go_simp
              go_at_call 20
              refine (HNW.out _ (Below.refl _ _).drew).mono ?_
              rintro e w7 ⟨rfl, hb7'⟩
              have hb7 : Below wr.heap.size wr w7 := (Below.refl _ _).drew.trans hb7'
              refine hK.out _ _ ?_ (fun hHeld => ?_)
              · exact KS.out _ hb7
              clear hK K
              try simp only [Act.put, List.setIfInBounds_toArray, List.set_cons_zero, List.set_cons_succ]
              refine wpAnyH_takeE (i := 25) (d := some 99) (v := ?_) rfl rfl (by kernel_rfl) (by kernel_rfl) (by kernel_rfl) (fun _ _ _ h => h) (Or.inl ⟨by rfl, ?_⟩) (by assumption) ?_
              rotate_left
              · intro w hSw
                (try dsimp only at hSw)
                go_simp
                try (with_reducible rfl)
              simp only [Act.put, List.setIfInBounds_toArray, List.set_cons_zero, List.set_cons_succ]
              refine wpAnyH_takeE (i := 26) (d := some 100) (v := ?_) rfl rfl (by kernel_rfl) (by kernel_rfl) (by kernel_rfl) (fun _ _ _ h => h) (Or.inl ⟨by rfl, ?_⟩) (by assumption) ?_
              rotate_left
              · intro w hSw
                (try dsimp only at hSw)
                go_simp
                try (with_reducible rfl)
              simp only [Act.put, List.setIfInBounds_toArray, List.set_cons_zero, List.set_cons_succ]
              refine wpAnyH_done (by kernel_rfl) ?_ _
              all_goals
                obtain ⟨m1, m2, m3⟩ := KS.out _ hb7
                go_wp2_with fail
                go_roundw
                case rel => exact ⟨i + 1, y + 1, by omega, by omega, by rw [show (((y + 1 : Nat) : Int) - 1) = (y : Int) by omega], by go_num, HGN, Lib.hid (HEND.out _ hb7).1, Lib.hid (HEND.out _ hb7).2, Lib.hid (fun h => by omega)⟩
                case measure => simp [intOf]; omega
            · have d0 : decide ((i : Int) < (N : Int)) = false := decide_eq_false (by omega)
              have hG0 : ∀ j, b ≤ j → j < 256 → x j ≠ t := by
                have := HGo.out
                rw [List.drop_of_length_le (by have := HN.out; omega)] at this
                exact this
              have hGX : goX x t b = goX x t 256 := goX_end hb hG0
              have HW6 : Hid (O.Wh wr H S5 (start + ((m + 1 : Nat) : Int)) (goX x t 256)) := Lib.hid (by
                have e : start + ((m + 1 : Nat) : Int) = t := by have := HT.out; omega
                rw [e]
                refine O.keep h5.out (fun k hk => ?_) HBu.out.size (HTT.out _ HTq.out)
                by_cases hn0 : 0 < n
                · exact HBu.out.block k (O.lt h5.out k hk) (fun e => (HR5.out hn0).2 (e ▸ hk)) (fun e => (HR5.out hn0).2 (e ▸ hk))
                · rw [HE5.out (by omega)])
              have HR6 : Hid (RowS wr A n (goX x t 256) S5) := Lib.hid (fun h0 => ⟨by rw [← hGX]; exact HRq.out h0, (HR5.out h0).2⟩)
              have HA6 : Hid (Ahead (start + 3000) (start + ((m + 1 : Nat) : Int)) n (goX x t 256)) := Lib.hid (by
                have e : start + ((m + 1 : Nat) : Int) = t := by have := HT.out; omega
                rw [e]; exact HAN.out)
              clear hG0 hGX HGo HBu HRq
              go_wp2_with fail
              go_roundw
              case rel => exact ⟨m + 1, S5, _, by omega, by go_num, HW6, HR6, HA6, Lib.hid HB5.out.2, HTq⟩
              case measure => simp [intOf]; omega
        · have d1 : decide ((m : Int) < 3001) = false := decide_eq_false (by omega)
          obtain rfl : m = 3001 := by omega
          have hnone : ∀ j, x j = -1 := HA.out.none (by omega)
          have HNO := Lib.hid hnone
          have HWE : Hid (O.Wh wr H S (start + 3001) x) := Lib.hid (by have := HW.out; rwa [show start + ((3001 : Nat) : Int) = start + 3001 by omega] at this)
          have HCN : Hid (cntV x 256 = 0) := Lib.hid (cntV_zero 256 (fun j _ => by rw [hnone j]; omega))
          clear hnone HA HW
          go_wp2_with fail
          go_loopw [12] (fun s wr => ∃ k : Nat, k ≤ n ∧ s = .int .i64 k ∧ Hid (O.Wh wr H S (start + 3001) x) ∧ Hid (RowS wr A n x S) ∧ Hid (Below w.heap.size w wr)) (fun s _ => n - (intOf s).toNat)
          case atStart => exact ⟨0, Nat.zero_le _, rfl, HWE, HR, HB⟩
          case round =>
            clear HWE HR HB
            obtain ⟨k, hk, rfl, HW, HR, HB⟩ := hrel
            by_cases hlt3 : k < n
            · have e0 : decide ((k : Int) < (n : Int)) = true := decide_eq_true (by omega)
              have e1 : (0 : Int) ≤ (k : Int) := by omega
              have e2 : (k : Int) < (n : Int) := by omega
              obtain ⟨c0, _⟩ := (HR.out (by omega)).1.at_ hlt3
              rw [HNO.out k] at c0
              go_wp2_with fail
              go_roundw
              case rel => exact ⟨k + 1, by omega, by go_num, HW, HR, HB⟩
              case measure => simp [intOf]; omega
            · have e0 : decide ((k : Int) < (n : Int)) = false := decide_eq_false (by omega)
              have HLE : Hid (∀ X, Below wr.heap.size wr X → Calls Tryd.prog 21 #[.pointer (some ⟨H, 0, none⟩)] X fun e w' => e = .returned (.int .i64 0) ∧ Below X.heap.size X w') := Lib.hid (fun X hX => by
                have := O.len X H S _ x (O.later HW.out hX)
                rwa [HCN.out] at this)
              have HNW : Hid (∀ X, Below wr.heap.size wr X → Calls Tryd.prog 20 #[.pointer (some ⟨H, 0, none⟩)] X fun e w' => e = .returned (.int .i64 (start + 3001)) ∧ Below X.heap.size X w') := Lib.hid (fun X hX => O.nowV X H S _ x (O.later HW.out hX))
              have e3 : start + 3001 ≤ 4611686018427387904 := by omega
              clear HR HW
              go_wp2_with (first
                | (go_at_call 20; have _z := hb7; refine (HNW.out _ hb7).mono ?_; rintro e w8 ⟨rfl, hb8'⟩; have hb8 : Below wr.heap.size wr w8 := hb7.trans (hb8'.mono hb7.size))
                | (go_at_call 21; refine (HLE.out _ (Below.refl _ _)).mono ?_; rintro e w7 ⟨rfl, hb7⟩)
                | fail "no arm")
              go_ret
              exact ⟨rfl, HB.out.trans (hb8.mono HB.out.size)⟩
end Go.Proofs.YtbjhoncojegjiaaDoor
