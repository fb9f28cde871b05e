/- HeapSorts: the walk. -/
import Derived.Test.YtnajljoggcbhoaaHeapX
import Derived.Test.YtnajljoggcbhoaaRead
import Derived.Deep.CutRange
namespace Go.Proofs.Ytnajljoggcbhoaa
open Go.ChangeShapes Go.WideShapes Go.ChangeAt Go.RowKit
set_option linter.unusedVariables false

theorem Try.infoBoolH : (Try.prog.info? 4).map (fun i => (i.zero, i.size, i.bytes)) = some (some (.bool false), 1, 1) := by kernel_rfl
/-- A row of truth values, made. -/
def metObj (n : Nat) : Obj := .cells (madeCells (Value.bool false).cells n) 4
theorem met_made {w : World} {G n : Nat} (h : w.heap[G]? = some (metObj n)) : CellsAt w G 4 (bools (fun _ => false) n) := by
  unfold CellsAt
  rw [h, ← bools_none]
  unfold metObj
  congr 2
  rw [← made_cells (.bool false) rfl]
set_option maxRecDepth 100000 in
set_option maxHeartbeats 8000000 in
theorem HeapSorts_walk (a0 : Option Addr) (n0 c0 : Nat) (a1 : Option Addr) (n1 c1 : Nat) (w : World) (l0 l1 : List Int) (hn0 : l0.length = n0) (hl0 : Lies w 0 w.heap.size (.slice a0 n0 c0) n0 1 (l0.flatMap intCells)) (hi0 : ∀ x ∈ l0, I64 x) (hn1 : l1.length = n1) (hl1 : Lies w 0 w.heap.size (.slice a1 n1 c1) n1 1 (l1.flatMap intCells)) (hi1 : ∀ x ∈ l1, I64 x) :
    Calls Try.prog 4 #[.slice a0 n0 c0, .slice a1 n1 c1] w fun e w' => e = .returned (.bool true) ∧ Below w.heap.size w w' := by
  by_cases hbig : 200 < n0 ∨ 200 < n1
  · exact HeapSorts_big a0 n0 c0 a1 n1 c1 w hbig
  have s0 : n0 ≤ 200 := by omega
  have s1 : n1 ≤ 200 := by omega
  have t0 : decide ((200 : Int) < (n0 : Int)) = false := decide_eq_false (by omega)
  have t1 : decide ((200 : Int) < (n1 : Int)) = false := decide_eq_false (by omega)
  have HK := Lib.hid (knows12_any w)
  have HR0 := Lib.hid (ints_read hn0 hl0)
  have HR1 := Lib.hid (ints_read hn1 hl1)
  have HL0 := Lib.hid hl0
  have HN0 := Lib.hid hn0
  obtain ⟨g0, hg0⟩ : ∃ g0 : Nat → Int, g0 = fun j => l0.getD j 0 := ⟨_, rfl⟩
  have HG0 : Hid (∀ i x, l0[i]? = some x → g0 i = x) := Lib.hid (fun i x hx => by rw [hg0]; show l0.getD i 0 = x; rw [List.getD_eq_getElem?_getD, hx]; rfl)
  have HGN := Lib.hid hg0
  obtain ⟨i0, hi, hz0, hz1, hz2⟩ := info_parts Try.infoInt
  have HI := Lib.hid hi
  obtain ⟨ib, hib, hy0, hy1, hy2⟩ := info_parts Try.infoBoolH
  have hmk : ∀ W : World, (Instr.makeSlice 47 (.int .i64 (n0 : Int)) (.int .i64 (n0 : Int))).run Try.prog W = .ok (.slice (some ⟨W.heap.size, 0, none⟩) n0 n0) (W.alloc (metObj n0)) := fun W => by
    have := run_make (P := Try.prog) W 47 4 ib _ Try.underlying47 hib hy0 .i64 .i64 (n0 : Int) (n0 : Int) (by omega) (by omega) (by rw [hy2]; omega) (by omega)
    rw [this, hy1]
    simp [metObj]
  have HMK := Lib.hid hmk
  clear hbig hn0 hl0 hi0 hn1 hl1 hi1 hg0 hi hib hy0 hy1 hy2 hmk
  go_enter Try.func4, Try.ntmps4
  go_wp2_with (first
    | (go_at_call 7; refine (hnew_any 200 _).mono ?_; rintro e w2 ⟨hi', H, W, X, rfl, hh2', hb2'⟩; have hh2 := Lib.hid hh2'; have hb2 := Lib.hid hb2'; clear hh2' hb2')
    | (go_at_call 6; refine HK.out.mono ?_; rintro e w1 ⟨rfl, hb1'⟩; have hb1 := Lib.hid hb1'; clear hb1')
    | (refine wpList_append_lie (by rfl) (.tmp 34) (.tmp 35) 44 (by rfl) w2.heap.size 3 i0 _ 1 8 Try.underlying44 HI.out hz0 hz1 hz2 rfl (by omega) (.slice (some ⟨w2.heap.size, 0, none⟩) 0 0) 0 [] (by rfl) ((fresh_none 1).owns (heap_alloc_new _ _) (Nat.le_refl _)) (.slice a0 n0 c0) 0 w.heap.size n0 (l0.flatMap intCells) (by rfl) (HL0.out.keep (SameIn.of_below (b_alloc ((hb1.out.trans (hb2.out.mono hb1.out.size))) (Nat.le_refl _) _) (Nat.le_refl _))) (flat_one intCells in_one _) n0 (by omega) (by simp only [maxLen]; omega) (by omega) (by simp) ?_; intro ao cap w3 hown3 hgrow3; have hb3 := Lib.hid (show Below w2.heap.size w2 w3 from (below1 _ _).grown hgrow3 (by simp) (fun k hk => by cases hk; exact Nat.le_refl _)); have hnow := Lib.hid (NowAt.of_owns (l := l0) hown3 HN0.out.symm); clear hown3 hgrow3)
    | go_in)
  have hlo2 := hh2.out.lo
  have HB3 : Hid (Below w.heap.size w w3) := Lib.hid ((hb1.out.trans (hb2.out.mono hb1.out.size)).trans (hb3.out.mono (Nat.le_trans hb1.out.size hb2.out.size)))
  have HS3 : Hid (HpD w3 w1.heap.size hi' H W X 200 0 (Dm g0 (fun _ => false) 0)) := Lib.hid (by rw [Dm_zero]; exact hh2.out.later hb3.out)
  rw [← HGN.out] at hnow
  have hz3 := hb3.out.size
  have hz1' := hb1.out.size
  obtain ⟨lo, hlo⟩ : ∃ lo, lo = w1.heap.size := ⟨_, rfl⟩
  obtain ⟨B, hB⟩ : ∃ B, B = w2.heap.size := ⟨_, rfl⟩
  rw [← hlo] at HS3 hlo2 hz1'
  rw [← hB] at hnow hz3 hlo2
  have hBw : w.heap.size ≤ B := by rw [hB]; exact Nat.le_trans hb1.out.size hb2.out.size
  have KM : Hid (∀ Y Y' : World, Mv lo hi' Y Y' → Below w.heap.size w Y → Below w.heap.size w Y' ∧ SameIn Y Y' B Y.heap.size ∧ Y.heap.size ≤ Y'.heap.size) := Lib.hid (fun Y Y' hm hY => ⟨hY.trans (hm.below.mono hz1'), fun b h1 h2 => hm.above b (by omega) h2, hm.below.size⟩)
  clear hb1 hb2 hb3 hh2 hlo hB
  go_loopw [7] (fun s wr => ∃ k : Nat, k ≤ n0 ∧ s = .int .i64 k ∧ Hid (HpD wr lo hi' H W X 200 k (Dm g0 (fun _ => false) k)) ∧ Hid (NowAt wr B ao n0 g0) ∧ Hid (Below w.heap.size w wr) ∧ Hid (B ≤ wr.heap.size)) (fun s _ => n0 - (intOf s).toNat)
  case atStart => exact ⟨0, Nat.zero_le _, rfl, HS3, hnow, HB3, Lib.hid hz3⟩
  case round =>
    obtain ⟨k, hk, rfl, HS, HW, HB, HZ⟩ := hrel
    by_cases hlt : k < n0
    · have d0 : decide ((k : Int) < (n0 : Int)) = true := decide_eq_true (by omega)
      have d1 : (0 : Int) ≤ (k : Int) := by omega
      have d2 : (k : Int) < (n0 : Int) := by omega
      obtain ⟨b, off, x, rfl, hx, hc, hb⟩ := HR0.out wr HB.out k hlt
      have HX := Lib.hid (HG0.out k x hx)
      have HD : Hid (Dm g0 (fun _ => false) k k = none) := Lib.hid (by simp [Dm])
      clear hx
      go_wp2_with (first
        | (go_at_call 9; refine (num_any _ _).mono ?_; rintro e w7 ⟨rfl, hw7⟩; rw [hw7]; clear hw7)
        | (go_at_call 10; refine (hput_in _ _ _ _ _ _ _ _ _ HS.out k x (by omega) HD.out).mono ?_; rintro e w5 ⟨rfl, h5', m5'⟩; have h5 := Lib.hid h5'; have m5 := Lib.hid (KM.out _ _ m5' HB.out); clear h5' m5')
        | fail "no arm")
      go_roundw
      case rel => exact ⟨k + 1, by omega, by go_num, Lib.hid (by have := h5.out; rw [← HX.out, Dm_put] at this; exact this), Lib.hid (HW.out.keep m5.out.2.1), Lib.hid m5.out.1, Lib.hid (Nat.le_trans HZ.out m5.out.2.2)⟩
      case measure => simp [intOf]; omega
    · have d0 : decide ((k : Int) < (n0 : Int)) = false := decide_eq_false (by omega)
      have hkn : k = n0 := by omega
      have HS4 : Hid (HpD wr lo hi' H W X 200 n0 (Dm g0 (fun _ => false) n0)) := Lib.hid (by rw [← hkn]; exact HS.out)
      clear hkn HS HS3 HB3 hnow
      go_wp2_with fail
      go_loopw [8] (fun s wq => ∃ (k : Nat) (g : Nat → Int), k ≤ n1 ∧ s = .int .i64 k ∧ Hid (HpD wq lo hi' H W X 200 n0 (Dm g (fun _ => false) n0)) ∧ Hid (NowAt wq B ao n0 g) ∧ Hid (Below w.heap.size w wq) ∧ Hid (B ≤ wq.heap.size)) (fun s _ => n1 - (intOf s).toNat)
      case atStart => exact ⟨0, g0, Nat.zero_le _, rfl, HS4, HW, HB, HZ⟩
      case round =>
        obtain ⟨q, g, hq, rfl, HS, HW, HB, HZ⟩ := hrel
        obtain ⟨t, ht⟩ : ∃ t, t = decide (q < n1 ∧ 0 < n0) := ⟨_, rfl⟩
        have HT := Lib.hid ht
        clear ht
        go_upto_region 11 with fail
        go_cut [60] from 52 to 60 (fun s wx => s = .bool t ∧ wr = wx)
        case first =>
          by_cases h1 : q < n1
          · have d1 : decide ((q : Int) < (n1 : Int)) = true := decide_eq_true (by omega)
            by_cases h2 : 0 < n0
            · have d2 : decide ((0 : Int) < (n0 : Int)) = true := decide_eq_true (by omega)
              obtain rfl : t = true := by rw [HT.out]; exact decide_eq_true ⟨h1, h2⟩
              go_wp2_with fail
              go_meet
              case rel => exact ⟨rfl, rfl⟩
            · have d2 : decide ((0 : Int) < (n0 : Int)) = false := decide_eq_false (by omega)
              obtain rfl : t = false := by rw [HT.out]; exact decide_eq_false (fun h => h2 h.2)
              go_wp2_with fail
              go_meet
              case rel => exact ⟨rfl, rfl⟩
          · have d1 : decide ((q : Int) < (n1 : Int)) = false := decide_eq_false (by omega)
            obtain rfl : t = false := by rw [HT.out]; exact decide_eq_false (fun h => h1 h.1)
            go_wp2_with fail
            go_meet
            case rel => exact ⟨rfl, rfl⟩
        case rest =>
          obtain ⟨rfl, hwx⟩ := hcut
          subst hwx
          cases t with
          | true =>
            obtain ⟨h1, h2⟩ := of_decide_eq_true HT.out.symm
            have d1 : (0 : Int) ≤ (q : Int) := by omega
            have d2 : (q : Int) < (n1 : Int) := by omega
            have d3 : decide ((n0 : Int) = 0) = false := decide_eq_false (by omega)
            have d4 : ¬ ((n0 : Int) = 0) := by omega
            have d5 : ¬ (n0 = 0) := by omega
            obtain ⟨b, off, x, rfl, hx, hc, hb⟩ := HR1.out wr HB.out q h1
            obtain ⟨kk, hkk, hmod⟩ := rem12 x n0 h2 s0
            have d6 : (0 : Int) ≤ (kk : Int) := by omega
            have d7 : (kk : Int) < (n0 : Int) := by omega
            rcases HW.out with h0 | ⟨G, rfl, hG, cur, hcur, hcs, hcg⟩
            · omega
            have e0 : wr.cell? ⟨G, kk, none⟩ = some (.int .i64 (g kk)) := cell_in hcur (hcg kk hkk)
            have e1 : wr.frozen? ⟨G, kk, none⟩ = false := free_in hcur kk
            have e2 : b ≠ G := by omega
            have e3 : G ≠ b := by omega
            obtain ⟨Y, hY⟩ : ∃ Y, Y = wr.setCell ⟨G, kk, none⟩ (.int .i64 x) := ⟨_, rfl⟩
            have HSY : Hid (HpD Y lo hi' H W X 200 n0 (Dm g (fun _ => false) n0)) := Lib.hid (by rw [hY]; exact HS.out.keep (fun k _ hk2 => set_other _ _ _ (by omega)) (by simp))
            have HWY : Hid (NowAt Y B (some ⟨G, 0, none⟩) n0 (upd g kk x)) := Lib.hid (.inr ⟨G, rfl, hG, _, by rw [hY]; exact set_at hcur, by simpa using hcs, fun i hi => by
              rw [upd_setIf]
              by_cases e : i = kk
              · subst e; rw [if_pos ⟨rfl, by omega⟩, upd_at]
              · rw [if_neg (fun h => e h.1), upd_ne _ _ e]; exact hcg i hi⟩)
            have HBY : Hid (Below w.heap.size w Y) := Lib.hid (by rw [hY]; exact HB.out.setCell (Nat.le_trans hBw hG) _)
            have HZY : Hid (B ≤ Y.heap.size) := Lib.hid (by rw [hY]; simpa using HZ.out)
            have HDk : Hid (Dm g (fun _ => false) n0 kk = some (g kk)) := Lib.hid (by simp [Dm, hkk])
            have HY := Lib.hid hY
            clear hY hx hcur hcs hcg
            go_wp2_with (first
              | (go_at_call 9; refine (num_any _ _).mono ?_; rintro e w7 ⟨rfl, hw7⟩; rw [hw7]; clear hw7)
              | (go_at_call 12; rw [← HY.out]; refine (hchange_in _ _ _ _ _ _ _ _ _ HSY.out kk x (g kk) HDk.out).mono ?_; rintro e w5 ⟨rfl, h5', m5'⟩; have h5 := Lib.hid h5'; have m5 := Lib.hid (KM.out _ _ m5' HBY.out); clear h5' m5')
              | fail "no arm")
            go_roundw
            case rel => exact ⟨q + 1, upd g kk x, by omega, by go_num, Lib.hid (by have := h5.out; rw [Dm_change g kk n0 hkk x] at this; exact this), Lib.hid (HWY.out.keep m5.out.2.1), Lib.hid m5.out.1, Lib.hid (Nat.le_trans HZY.out m5.out.2.2)⟩
            case measure => simp [intOf]; omega
          | false =>
            clear HT
            have hmk := HMK.out
            go_wp2_with fail
            obtain ⟨V, hV⟩ : ∃ V, V = wr.alloc (metObj n0) := ⟨_, rfl⟩
            obtain ⟨M, hM⟩ : ∃ M, M = wr.heap.size := ⟨_, rfl⟩
            have HBV : Hid (Below wr.heap.size wr V) := Lib.hid (by rw [hV]; exact below1 _ _)
            have HSV : Hid (HpD V lo hi' H W X 200 n0 (Dm g (fun _ => false) n0)) := Lib.hid (HS.out.later HBV.out)
            have HWV : Hid (NowAt V B ao n0 g) := Lib.hid (HW.out.keep (SameIn.of_below HBV.out (Nat.le_refl _)))
            have HCV : Hid (CellsAt V M 4 (bools (fun _ => false) n0)) := Lib.hid (by rw [hV, hM]; exact met_made (heap_alloc_new _ _))
            have HBW : Hid (Below w.heap.size w V) := Lib.hid (HB.out.trans (HBV.out.mono HB.out.size))
            have HMB : Hid (B ≤ M ∧ ∀ G, ao = some ⟨G, 0, none⟩ → 0 < n0 → G < M) := Lib.hid (by
              rw [hM]
              refine ⟨HZ.out, fun G hG h0 => ?_⟩
              rcases HW.out with h1 | ⟨G', h2, h3, cur, h4, _⟩
              · omega
              · rw [hG] at h2; cases h2; exact lt_of_block h4)
            rw [← hV, ← hM]
            clear hV hM hmk HS HW HB HZ HBV
            go_loopw [11, 12, 13] (fun s1 s2 s3 wx => ∃ (i : Nat) (met : Nat → Bool) (last : Int) (lid : Nat), i ≤ n0 ∧ s3 = .int .i64 i ∧ s1 = .int .i64 last ∧ s2 = .int .i64 (lid : Nat) ∧ Hid (HpD wx lo hi' H W X 200 (n0 - i) (Dm g met n0)) ∧ Hid (NowAt wx B ao n0 g) ∧ Hid (CellsAt wx M 4 (bools met n0)) ∧ Hid (0 < i → ∀ j d, Dm g met n0 j = some d → last < d ∨ (last = d ∧ lid < j)) ∧ Hid (Below w.heap.size w wx)) (fun _ _ s3 _ => n0 - (intOf s3).toNat)
            case atStart => exact ⟨0, fun _ => false, 0, 0, Nat.zero_le _, rfl, rfl, rfl, HSV, HWV, HCV, Lib.hid (fun h => by omega), HBW⟩
            case round =>
              clear HSV HWV HCV HBW
              obtain ⟨i, met, last, lid, hi, rfl, rfl, rfl, HS, HW, HC, HT, HB⟩ := hrel
              by_cases hlt : i < n0
              · have d0 : decide ((i : Int) < (n0 : Int)) = true := decide_eq_true (by omega)
                obtain ⟨R, hR, hRl⟩ := HS.out.list
                rcases R with _ | ⟨⟨x0, y0⟩, R⟩
                · simp at hRl; omega
                have hD0 : Dm g met n0 x0 = some y0 := (hR.2 x0 y0).1 (List.mem_cons_self ..)
                obtain ⟨k1, k2, k3⟩ := Dm_some hD0
                have HLT : Hid (∀ j d, upd (Dm g met n0) x0 none j = some d → y0 < d ∨ (y0 = d ∧ x0 < j)) := Lib.hid (fun j d hjd => by
                  by_cases e : j = x0
                  · subst e; rw [upd_at] at hjd; cases hjd
                  · rw [upd_ne _ _ e] at hjd
                    rcases List.mem_cons.1 ((hR.2 j d).2 hjd) with h | h
                    · cases h; exact absurd rfl e
                    · exact (List.pairwise_cons.1 hR.1).1 (j, d) h)
                have HORD : Hid (0 < i → last < y0 ∨ (last = y0 ∧ lid < x0)) := Lib.hid (fun h0 => HT.out h0 x0 y0 hD0)
                have HR := Lib.hid hR
                rcases HW.out with h0 | ⟨G, rfl, hG, _⟩
                · omega
                have hGM := HMB.out.2 G rfl (by omega)
                have hMB := HMB.out.1
                have d1 : (0 : Int) ≤ (x0 : Int) := by omega
                have d2 : (x0 : Int) < (n0 : Int) := by omega
                have d3 : decide ((x0 : Int) < 0) = false := decide_eq_false (by omega)
                have d4 : decide ((n0 : Int) ≤ (x0 : Int)) = false := decide_eq_false (by omega)
                have KC : Hid (∀ Y, SameIn wr Y B wr.heap.size → Y.cell? ⟨M, x0, none⟩ = some (.bool false) ∧ Y.frozen? ⟨M, x0, none⟩ = false ∧ Y.cell? ⟨G, x0, none⟩ = some (.int .i64 y0) ∧ CellsAt Y M 4 (bools met n0)) := Lib.hid (fun Y hY => by
                  have hC : CellsAt Y M 4 (bools met n0) := (hY M hMB HC.out.lt).trans HC.out
                  have hc1 := hC.cell (bools_at (f := met) k1)
                  rw [k2] at hc1
                  rcases HW.out.keep hY with h0 | ⟨G', e', _, cur, h4, _, h6⟩
                  · omega
                  · cases e'
                    have := cell_in h4 (h6 x0 k1)
                    rw [k3] at this
                    exact ⟨hc1.1, hc1.2, this, hC⟩)
                clear hR hRl hD0 k2 k3
                rcases (show i = 0 ∨ (0 < i ∧ last < y0) ∨ (0 < i ∧ last = y0 ∧ lid < x0) by
                    rcases Nat.eq_zero_or_pos i with h | h
                    · exact .inl h
                    · rcases HORD.out h with h1 | ⟨h1, h2⟩
                      · exact .inr (.inl ⟨h, h1⟩)
                      · exact .inr (.inr ⟨h, h1, h2⟩)) with e1 | ⟨e1, e2⟩ | ⟨e1, e2, e3⟩
                · have f1 : decide ((0 : Int) < (i : Int)) = false := decide_eq_false (by omega)
                  go_wp2_with (first
                    | (go_at_call 16; refine (hpop_any _ _ _ _ _ _ _ _ _ _ _ HS.out HR.out).mono ?_; rintro e w5 ⟨m, rfl, hm', h5', m5'⟩; have hm := Lib.hid hm'; have h5 := Lib.hid h5'; have m5 := Lib.hid (KM.out _ _ m5' HB.out); obtain ⟨z0, z1, z2, z3'⟩ := KC.out _ m5.out.2.1; have z3 := Lib.hid z3'; clear h5' m5' hm' z3')
                    | fail "no arm")
                  go_roundw
                  case rel =>
                    refine ⟨i + 1, (fun j => if j = x0 then true else met j), y0, x0, by omega, by go_num, rfl, rfl, Lib.hid ?_, Lib.hid ?_, Lib.hid ?_, Lib.hid ?_, Lib.hid (m5.out.1.setCell (Nat.le_trans hBw hMB) _)⟩
                    · have h6 := h5.out
                      rw [Dm_meet, show m = n0 - (i + 1) by have := hm.out; omega] at h6
                      exact h6.keep (fun k _ hk2 => set_other _ _ _ (by omega)) (by simp)
                    · have h6 := HW.out.keep m5.out.2.1
                      rcases h6 with h0 | ⟨G', e', hg1, cur, h4, h7⟩
                      · omega
                      · cases e'
                        exact .inr ⟨G, rfl, hG, cur, (set_other _ _ _ (by omega)).trans h4, h7⟩
                    · have h6 := z3.out.set x0 (.bool true)
                      rwa [bools_set] at h6
                    · intro _
                      have h6 := HLT.out
                      rwa [Dm_meet] at h6
                  case measure => simp [intOf]; omega
                · have f1 : decide ((0 : Int) < (i : Int)) = true := decide_eq_true (by omega)
                  have f2 : decide (y0 < last) = false := decide_eq_false (by omega)
                  have f3 : (y0 == last) = false := by simp; omega
                  have f4 : decide (y0 = last) = false := decide_eq_false (by omega)
                  go_wp2_with (first
                    | (go_at_call 16; refine (hpop_any _ _ _ _ _ _ _ _ _ _ _ HS.out HR.out).mono ?_; rintro e w5 ⟨m, rfl, hm', h5', m5'⟩; have hm := Lib.hid hm'; have h5 := Lib.hid h5'; have m5 := Lib.hid (KM.out _ _ m5' HB.out); obtain ⟨z0, z1, z2, z3'⟩ := KC.out _ m5.out.2.1; have z3 := Lib.hid z3'; clear h5' m5' hm' z3')
                    | fail "no arm")
                  go_roundw
                  case rel =>
                    refine ⟨i + 1, (fun j => if j = x0 then true else met j), y0, x0, by omega, by go_num, rfl, rfl, Lib.hid ?_, Lib.hid ?_, Lib.hid ?_, Lib.hid ?_, Lib.hid (m5.out.1.setCell (Nat.le_trans hBw hMB) _)⟩
                    · have h6 := h5.out
                      rw [Dm_meet, show m = n0 - (i + 1) by have := hm.out; omega] at h6
                      exact h6.keep (fun k _ hk2 => set_other _ _ _ (by omega)) (by simp)
                    · have h6 := HW.out.keep m5.out.2.1
                      rcases h6 with h0 | ⟨G', e', hg1, cur, h4, h7⟩
                      · omega
                      · cases e'
                        exact .inr ⟨G, rfl, hG, cur, (set_other _ _ _ (by omega)).trans h4, h7⟩
                    · have h6 := z3.out.set x0 (.bool true)
                      rwa [bools_set] at h6
                    · intro _
                      have h6 := HLT.out
                      rwa [Dm_meet] at h6
                  case measure => simp [intOf]; omega
                · subst e2
                  have f1 : decide ((0 : Int) < (i : Int)) = true := decide_eq_true (by omega)
                  have f2 : decide (last < last) = false := decide_eq_false (by omega)
                  have f5 : decide ((x0 : Int) < (lid : Int)) = false := decide_eq_false (by omega)
                  go_wp2_with (first
                    | (go_at_call 16; refine (hpop_any _ _ _ _ _ _ _ _ _ _ _ HS.out HR.out).mono ?_; rintro e w5 ⟨m, rfl, hm', h5', m5'⟩; have hm := Lib.hid hm'; have h5 := Lib.hid h5'; have m5 := Lib.hid (KM.out _ _ m5' HB.out); obtain ⟨z0, z1, z2, z3'⟩ := KC.out _ m5.out.2.1; have z3 := Lib.hid z3'; clear h5' m5' hm' z3')
                    | fail "no arm")
                  go_roundw
                  case rel =>
                    refine ⟨i + 1, (fun j => if j = x0 then true else met j), last, x0, by omega, by go_num, rfl, rfl, Lib.hid ?_, Lib.hid ?_, Lib.hid ?_, Lib.hid ?_, Lib.hid (m5.out.1.setCell (Nat.le_trans hBw hMB) _)⟩
                    · have h6 := h5.out
                      rw [Dm_meet, show m = n0 - (i + 1) by have := hm.out; omega] at h6
                      exact h6.keep (fun k _ hk2 => set_other _ _ _ (by omega)) (by simp)
                    · have h6 := HW.out.keep m5.out.2.1
                      rcases h6 with h0 | ⟨G', e', hg1, cur, h4, h7⟩
                      · omega
                      · cases e'
                        exact .inr ⟨G, rfl, hG, cur, (set_other _ _ _ (by omega)).trans h4, h7⟩
                    · have h6 := z3.out.set x0 (.bool true)
                      rwa [bools_set] at h6
                    · intro _
                      have h6 := HLT.out
                      rwa [Dm_meet] at h6
                  case measure => simp [intOf]; omega
              · have d0 : decide ((i : Int) < (n0 : Int)) = false := decide_eq_false (by omega)
                have hin : i = n0 := by omega
                have HS0 : Hid (HpD wr lo hi' H W X 200 0 (Dm g met n0)) := Lib.hid (by have := HS.out; rwa [hin, Nat.sub_self] at this)
                obtain ⟨R, hR, hRl⟩ := HS0.out.list
                obtain rfl : R = [] := List.eq_nil_of_length_eq_zero hRl
                have HR := Lib.hid hR
                have HLEN : Hid (∀ Y, Below wr.heap.size wr Y → Calls Try.prog 22 #[.pointer (some ⟨H, 0, none⟩)] Y fun e w' => e = .returned (.int .i64 (0 : Nat)) ∧ w' = Y) := Lib.hid (fun Y hY => by
                  obtain ⟨f, x, h1, _⟩ := HS0.out.later hY
                  exact hlen_any Y lo hi' H W X 200 0 f x h1)
                clear hin hR hRl
                go_wp2_with (first
                  | (go_at_call 16; refine (hpop_nil _ _ _ _ _ _ _ _ _ HS0.out HR.out).mono ?_; rintro e w8 ⟨rfl, hb8'⟩; simp only [fstV]; have hb8 := Lib.hid hb8'; clear hb8')
                  | (go_at_call 22; refine (HLEN.out _ hb8.out).mono ?_; rintro e w9 ⟨rfl, hw9⟩; rw [hw9]; clear hw9)
                  | fail "no arm")
                go_ret
                exact ⟨rfl, HB.out.trans (hb8.out.mono HB.out.size)⟩
end Go.Proofs.Ytnajljoggcbhoaa
