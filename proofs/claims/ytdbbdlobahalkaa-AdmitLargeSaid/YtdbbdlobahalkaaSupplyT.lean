/- The table of supplies of all numbers of ticks below a frame's: of each the least, and where it is first. -/
import Derived.Test.YtdbbdlobahalkaaSupplyP
namespace Go.Proofs.Ytdbbdlobahalkaa
open Go.ChangeShapes Go.WideShapes Go.ChangeAt Go.RowKit
set_option linter.unusedVariables false

/-- The least of the first ones, and where it is first; of none of them, that of the first one. -/
def rowTo (g : Nat → Nat) : Nat → Nat × Nat
  | 0 => (g 0, 0)
  | k + 1 => if g k < (rowTo g k).1 then (g k, k) else rowTo g k
theorem rowTo_is (g : Nat → Nat) : ∀ k : Nat, (∀ i, i < k → (rowTo g k).1 ≤ g i) ∧ g (rowTo g k).2 = (rowTo g k).1 ∧ ((rowTo g k).2 < k ∨ (rowTo g k).2 = 0) ∧ ∀ j, j < (rowTo g k).2 → (rowTo g k).1 < g j
  | 0 => ⟨fun i hi => by omega, rfl, .inr rfl, fun j hj => by simp [rowTo] at hj⟩
  | k + 1 => by
    obtain ⟨h1, h2, h3, h4⟩ := rowTo_is g k
    unfold rowTo
    by_cases h : g k < (rowTo g k).1
    · rw [if_pos h]
      refine ⟨fun i hi => ?_, rfl, .inl (by simp), fun j hj => ?_⟩
      · rcases Nat.lt_or_ge i k with h5 | h5
        · have := h1 i h5; simp only; omega
        · rw [show i = k by omega]; exact Nat.le_refl _
      · have := h1 j hj; simp only; omega
    · rw [if_neg h]
      refine ⟨fun i hi => ?_, h2, by omega, h4⟩
      rcases Nat.lt_or_ge i k with h5 | h5
      · exact h1 i h5
      · rw [show i = k by omega]; omega
theorem rowTo_all {f : Int → Bool} {F n : Nat} (hF : 1 ≤ F) : rowTo (fun i => cnt f (i : Int) n) F = (leastV f F n, worstV f F n) := by
  obtain ⟨h1, h2, h3, h4⟩ := rowTo_is (fun i => cnt f (i : Int) n) F
  have e : (rowTo (fun i => cnt f (i : Int) n) F).1 = leastV f F n := by
    refine (leastOf_eq (fun i hi => h1 i (by omega)) ⟨_, ?_, h2⟩).symm
    omega
  have e2 : worstV f F n = (rowTo (fun i => cnt f (i : Int) n) F).2 := worstV_eq hF (by rw [← e]; exact h2) (fun j hj => by have := h4 j hj; rw [← e]; omega)
  rw [e2, ← e]
theorem rowTo_bd {f : Int → Bool} {n : Nat} (k : Nat) : (rowTo (fun i => cnt f (i : Int) n) k).1 ≤ n ∧ (rowTo (fun i => cnt f (i : Int) n) k).2 ≤ k := by
  obtain ⟨h1, h2, h3, h4⟩ := rowTo_is (fun i => cnt f (i : Int) n) k
  refine ⟨?_, by omega⟩
  rw [← h2]
  exact cnt_le _ _ _
/-- The first rows, as they lie. -/
def rowsOf (f : Int → Bool) (F n : Nat) : List Value := (List.range n).flatMap fun i => [.int .i64 (leastV f F i), .int .i64 (worstV f F i)]
theorem rowsOf_len (f : Int → Bool) (F n : Nat) : (rowsOf f F n).length = n * 2 := by
  unfold rowsOf
  rw [flat_len _ 2 (fun _ => rfl), List.length_range]
theorem rowsOf_at {f : Int → Bool} {F n i : Nat} (h : i < n) : (rowsOf f F n)[i * 2]? = some (.int .i64 (leastV f F i)) ∧ (rowsOf f F n)[i * 2 + 1]? = some (.int .i64 (worstV f F i)) := by
  have h1 := flat_at (fun i : Nat => [Value.int .i64 (leastV f F i), .int .i64 (worstV f F i)]) 2 (fun _ => rfl) (List.range n) i 0 i (by simp [h]) (by omega)
  have h2 := flat_at (fun i : Nat => [Value.int .i64 (leastV f F i), .int .i64 (worstV f F i)]) 2 (fun _ => rfl) (List.range n) i 1 i (by simp [h]) (by omega)
  exact ⟨h1, h2⟩
/-- So many rows made, the next one so far as told, the rest none. -/
def rowsMid (f : Int → Bool) (F n : Nat) (a b : Int) : List Value := rowsOf f F n ++ .int .i64 a :: .int .i64 b :: List.replicate ((F - (n + 1)) * 2) (.int .i64 0)
theorem rowsMid_zero (f : Int → Bool) {F : Nat} (hF : 1 ≤ F) : rowsMid f F 0 0 0 = List.replicate (F * 2) (.int .i64 0) := by
  obtain ⟨k, rfl⟩ : ∃ k, F = k + 1 := ⟨F - 1, by omega⟩
  unfold rowsMid rowsOf
  rw [show (k + 1) * 2 = ((k + 1) - (0 + 1)) * 2 + 1 + 1 by omega, List.replicate_succ, List.replicate_succ]
  rfl
theorem rowsMid_set0 (f : Int → Bool) (F n : Nat) (a b c : Int) : (rowsMid f F n a b).set (n * 2) (.int .i64 c) = rowsMid f F n c b := by
  unfold rowsMid
  rw [List.set_append_right _ _ (by rw [rowsOf_len]; omega), rowsOf_len, Nat.sub_self, List.set_cons_zero]
theorem rowsMid_set1 (f : Int → Bool) (F n : Nat) (a b c : Int) : (rowsMid f F n a b).set (n * 2 + 1) (.int .i64 c) = rowsMid f F n a c := by
  unfold rowsMid
  rw [List.set_append_right _ _ (by rw [rowsOf_len]; omega), rowsOf_len, show n * 2 + 1 - n * 2 = 1 by omega, List.set_cons_succ, List.set_cons_zero]
theorem rowsMid_at (f : Int → Bool) (F n : Nat) (a b : Int) : (rowsMid f F n a b)[n * 2]? = some (.int .i64 a) ∧ (rowsMid f F n a b)[n * 2 + 1]? = some (.int .i64 b) := by
  unfold rowsMid
  rw [List.getElem?_append_right (by rw [rowsOf_len]; omega), List.getElem?_append_right (by rw [rowsOf_len]; omega), rowsOf_len, Nat.sub_self, show n * 2 + 1 - n * 2 = 1 by omega]
  exact ⟨rfl, rfl⟩
theorem rowsOf_succ (f : Int → Bool) (F n : Nat) : rowsOf f F (n + 1) = rowsOf f F n ++ [.int .i64 (leastV f F n), .int .i64 (worstV f F n)] := by
  unfold rowsOf
  rw [List.range_succ, List.flatMap_append]
  rfl
theorem rowsMid_next (f : Int → Bool) {F n : Nat} (h : n + 1 < F) : rowsMid f F n (leastV f F n) (worstV f F n) = rowsMid f F (n + 1) 0 0 := by
  unfold rowsMid
  rw [rowsOf_succ, show F - (n + 1) = F - (n + 1 + 1) + 1 by omega, show (F - (n + 1 + 1) + 1) * 2 = (F - (n + 1 + 1)) * 2 + 1 + 1 by omega, List.replicate_succ, List.replicate_succ]
  simp
theorem rowsMid_last (f : Int → Bool) {F n : Nat} (h : n + 1 = F) : rowsMid f F n (leastV f F n) (worstV f F n) = rowsOf f F F := by
  subst h
  unfold rowsMid
  rw [show n + 1 - (n + 1) = 0 by omega, Nat.zero_mul]
  conv => rhs; rw [rowsOf_succ]
  rfl
theorem set2 {w : World} {X : Nat} {T : TypeId} {cs : Array Value} (h : w.heap[X]? = some (.cells cs T (0, 0))) (hs : cs.size = 2) (v0 v1 : Value) :
    ((w.setCell ⟨X, 0, none⟩ v0).setCell ⟨X, 1, none⟩ v1).heap[X]? = some (.cells #[v0, v1] T (0, 0)) := by
  rw [set_at (set_at h)]
  congr 2
  apply Array.ext'
  rcases cs with ⟨l⟩
  match l, hs with
  | [a, b], _ => rfl
theorem Try.infoRowS : (Try.prog.info? 135).map (fun i => (i.zero, i.size, i.bytes)) = some (some (.agg #[.int .i64 0, .int .i64 0]), 2, 16) := by kernel_rfl
theorem Try.sizeTableS : (Try.prog.info? 117).map (·.size) = some 2 := by kernel_rfl
set_option maxRecDepth 100000 in
set_option maxHeartbeats 4000000 in
theorem newTable_any {w : World} {lo hi F : Nat} {f : Int → Bool} {A B : Nat} (h : TicksAt w lo hi F f A B) (hhi : hi ≤ w.heap.size) (f1 : 1 ≤ F) (f2 : F ≤ 256) (O : Int) :
    Calls Try.prog 56 #[.int .i64 F, .int .i64 O, .func (.func 78) #[] #[.pointer (some ⟨A, 0, none⟩)]] w fun e w' => ∃ R, e = .returned (.agg #[.slice (some ⟨R, 0, none⟩) F F, .int .i64 O]) ∧ w.heap.size ≤ R ∧ CellsAt w' R 135 (rowsOf f F F) ∧ Below w.heap.size w w' := by
  obtain ⟨i0, hi0, hz0, hz1, hz2⟩ := info_parts Try.infoRowS
  have HI := Lib.hid hi0; clear hi0
  have CT := Lib.hid (fun (W : World) (a n : Nat) (ha : a < F) (hn : n < F) (hb : Below w.heap.size w W) => ticks_any (h.keep (SameIn.of_below hb hhi)) f2 a n ha hn)
  clear h
  go_enter Try.func56, Try.ntmps56
  go_wp2_with (first
    | (refine wpList_make_full _ (by rfl) (.tmp 11) (.tmp 11) 115 (by rfl) (w.heap.size + 1) 135 i0 _ 2 Try.underlying115 HI.out hz0 hz1 _ _ F F F (by rfl) (by rfl) rfl rfl (by rw [hz2]; omega) (by simp [maxLen]; omega) (by simp) ?_; intro w2 hown2 hgrow2)
    | go_in)
  have hs1 : (w.alloc (.cells #[.slice none 0 0, .int .i64 0] 117)).heap.size = w.heap.size + 1 := by simp
  have hb2 : Below w.heap.size w w2 := (below1 w _).trans (Below.mono ⟨hgrow2.os, hgrow2.tape, hgrow2.output, hgrow2.size, fun b hb => hgrow2.block b hb (by simp)⟩ (Nat.le_of_lt (by rw [hs1]; omega)))
  have hX2 : w2.heap[w.heap.size]? = some (.cells #[.slice none 0 0, .int .i64 0] 117 (0, 0)) := (hgrow2.block _ (by rw [hs1]; omega) (by simp)).trans (heap_alloc_new _ _)
  rw [hs1, made_pairs, ← rowsMid_zero f f1] at hown2
  have hR2 := CellsAt.of_own hown2 (by rw [rowsMid_zero f f1]; simp)
  obtain ⟨R, hR⟩ : ∃ R, R = w.heap.size + 1 := ⟨_, rfl⟩
  rw [← hR] at hR2
  rw [← hR]
  have HX := Lib.hid hX2; have HR := Lib.hid hR2
  have hRw : w.heap.size < R := by omega
  clear hown2 hgrow2 hX2 hR2 hR hs1
  go_loopw [15] (fun i wr => ∃ k : Nat, k ≤ F ∧ i = .int .i64 k ∧ Hid (wr.heap[w.heap.size]? = some (.cells #[.slice none 0 0, .int .i64 0] 117 (0, 0))) ∧ Hid (if k < F then CellsAt wr R 135 (rowsMid f F k 0 0) else CellsAt wr R 135 (rowsOf f F F)) ∧ Below w.heap.size w wr) (fun i _ => F - (intOf i).toNat)
  case atStart => exact ⟨0, by omega, rfl, HX, Lib.hid (by rw [if_pos (by omega)]; exact HR.out), hb2⟩
  case round =>
    clear HX HR hb2
    obtain ⟨k, hk, rfl, HX, HR, hb⟩ := hrel
    by_cases hlt : k < F
    · have tk : decide ((k : Int) < (F : Int)) = true := by simpa using hlt
      have HR1 := Lib.hid (show CellsAt wr R 135 (rowsMid f F k 0 0) from by have := HR.out; rwa [if_pos hlt] at this)
      clear HR
      have HR2 := Lib.hid (show CellsAt (wr.setCell ⟨R, k * 2, none⟩ (.int .i64 (cnt f 0 k))) R 135 (rowsMid f F k (cnt f 0 k) 0) from by have := HR1.out.set (k * 2) (.int .i64 (cnt f 0 k)); rwa [rowsMid_set0] at this)
      have y0 := (HR1.out.cell (rowsMid_at f F k 0 0).1).1
      have y1 := (HR1.out.cell (rowsMid_at f F k 0 0).1).2
      have q0 : (0 : Int) ≤ (k : Int) := by omega
      have q1 : (k : Int) < (F : Int) := by omega
      go_wp2_with (first
        | (go_at_call 78; refine (CT.out _ 0 k (by omega) hlt hb).mono ?_; rintro e w5 ⟨rfl, d, rfl⟩))
      have HX3 := Lib.hid (show ∀ d, ((wr.drewN d).setCell ⟨R, k * 2, none⟩ (.int .i64 (cnt f 0 k))).heap[w.heap.size]? = some (.cells #[.slice none 0 0, .int .i64 0] 117 (0, 0)) from fun d => (Below.heap_setCell _ ⟨R, k * 2, none⟩ _ _ (by simp; omega)).trans HX.out)
      have HB3 := Lib.hid (show ∀ d, Below w.heap.size w ((wr.drewN d).setCell ⟨R, k * 2, none⟩ (.int .i64 (cnt f 0 k))) from fun d => (below_drewN d hb).setCell (p := ⟨R, k * 2, none⟩) (by show _ ≤ R; omega) _)
      clear y0 y1
      go_loopw [26] (fun i wx => ∃ q : Nat, q ≤ F ∧ i = .int .i64 q ∧ Hid (wx.heap[w.heap.size]? = some (.cells #[.slice none 0 0, .int .i64 0] 117 (0, 0))) ∧ Hid (CellsAt wx R 135 (rowsMid f F k (rowTo (fun i => cnt f (i : Int) k) q).1 (rowTo (fun i => cnt f (i : Int) k) q).2)) ∧ Below w.heap.size w wx) (fun i _ => F - (intOf i).toNat)
      case atStart => exact ⟨0, by omega, rfl, Lib.hid (HX3.out d), Lib.hid (HR2.out), HB3.out d⟩
      case round =>
        clear HX HR1 HR2 HX3 HB3 hb
        obtain ⟨q, hq, rfl, HX, HR, hb⟩ := hrel
        by_cases hlq : q < F
        · have tq : decide ((q : Int) < (F : Int)) = true := by simpa using hlq
          have CK := Lib.hid (CT.out wr q k hlq hlt hb)
          obtain ⟨z0, z1⟩ := rowsMid_at f F k (rowTo (fun i => cnt f (i : Int) k) q).1 (rowTo (fun i => cnt f (i : Int) k) q).2
          have y0 := (HR.out.cell z0).1
          have y1 := (HR.out.cell z0).2
          have y2 := (HR.out.cell z1).1
          have y3 := (HR.out.cell z1).2
          by_cases hc : cnt f (q : Int) k < (rowTo (fun i => cnt f (i : Int) k) q).1
          · have HN : Hid (rowTo (fun i => cnt f (i : Int) k) (q + 1) = (cnt f (q : Int) k, q)) := Lib.hid (if_pos hc)
            generalize (rowTo (fun i => cnt f (i : Int) k) q).1 = a at *
            generalize (rowTo (fun i => cnt f (i : Int) k) q).2 = b at *
            generalize cnt f (q : Int) k = c at CK HN hc
            have HFIN := Lib.hid (show ∀ d, ((((wr.drewN d).setCell ⟨R, k * 2, none⟩ (.int .i64 c)).setCell ⟨R, k * 2 + 1, none⟩ (.int .i64 q)).heap[w.heap.size]? = some (.cells #[.slice none 0 0, .int .i64 0] 117 (0, 0))) ∧ CellsAt (((wr.drewN d).setCell ⟨R, k * 2, none⟩ (.int .i64 c)).setCell ⟨R, k * 2 + 1, none⟩ (.int .i64 q)) R 135 (rowsMid f F k c q) ∧ Below w.heap.size w (((wr.drewN d).setCell ⟨R, k * 2, none⟩ (.int .i64 c)).setCell ⟨R, k * 2 + 1, none⟩ (.int .i64 q)) from fun d => by
              have h1 : CellsAt (wr.drewN d) R 135 (rowsMid f F k a b) := HR.out
              have h2 := (h1.set (k * 2) (.int .i64 c)).set (k * 2 + 1) (.int .i64 q)
              rw [rowsMid_set0, rowsMid_set1] at h2
              exact ⟨(Below.heap_setCell _ ⟨R, k * 2 + 1, none⟩ _ _ (by simp; omega)).trans ((Below.heap_setCell _ ⟨R, k * 2, none⟩ _ _ (by simp; omega)).trans HX.out), h2, ((below_drewN d hb).setCell (p := ⟨R, k * 2, none⟩) (by show _ ≤ R; omega) _).setCell (p := ⟨R, k * 2 + 1, none⟩) (by show _ ≤ R; omega) _⟩)
            have t2 : decide ((c : Int) < (a : Int)) = true := by simpa using hc
            clear z0 z1
            go_wp2_with (first
              | (go_at_call 78; refine CK.out.mono ?_; rintro e w5 ⟨rfl, d, rfl⟩))
            go_roundw
            case rel => exact ⟨q + 1, by omega, by go_num, Lib.hid (HFIN.out _).1, Lib.hid (by rw [HN.out]; exact (HFIN.out _).2.1), (HFIN.out _).2.2⟩
            case measure => simp [intOf]; omega
          · have HN : Hid (rowTo (fun i => cnt f (i : Int) k) (q + 1) = rowTo (fun i => cnt f (i : Int) k) q) := Lib.hid (if_neg hc)
            obtain ⟨ab, hab⟩ : ∃ ab, ab = rowTo (fun i => cnt f (i : Int) k) q := ⟨_, rfl⟩
            rw [← hab] at HN HR y0 y2 hc
            clear hab z0 z1
            generalize cnt f (q : Int) k = c at CK hc
            have t2 : decide ((c : Int) < (ab.1 : Int)) = false := by rw [decide_eq_false_iff_not]; omega
            have t3 : decide (c < ab.1) = false := by rw [decide_eq_false_iff_not]; omega
            go_wp2_with (first
              | (go_at_call 78; refine CK.out.mono ?_; rintro e w5 ⟨rfl, d, rfl⟩))
            go_roundw
            case rel => exact ⟨q + 1, by omega, by go_num, HX, Lib.hid (by rw [HN.out]; exact HR.out), below_drewN _ hb⟩
            case measure => simp [intOf]; omega
        · have tq : decide ((q : Int) < (F : Int)) = false := by simp; omega
          have hqq : q = F := by omega
          have HR2 := Lib.hid (show CellsAt wr R 135 (rowsMid f F k (leastV f F k) (worstV f F k)) from by have := HR.out; rw [hqq, rowTo_all f1] at this; exact this)
          clear HR hqq
          go_wp2_with fail
          go_roundw
          case rel =>
            refine ⟨k + 1, by omega, by go_num, HX, Lib.hid ?_, hb⟩
            by_cases hl : k + 1 < F
            · rw [if_pos hl, ← rowsMid_next f hl]; exact HR2.out
            · rw [if_neg hl, ← rowsMid_last f (n := k) (by omega)]; exact HR2.out
          case measure => simp [intOf]; omega
    · have tk : decide ((k : Int) < (F : Int)) = false := by simp; omega
      have HR1 := Lib.hid (show CellsAt wr R 135 (rowsOf f F F) from by have := HR.out; rwa [if_neg hlt] at this)
      clear HR
      have y0 : wr.cell? ⟨w.heap.size, 0, none⟩ = some (.slice none 0 0) := cell_in HX.out rfl
      have y1 : wr.cell? ⟨w.heap.size, 1, none⟩ = some (.int .i64 0) := cell_in HX.out rfl
      have y2 := free_in HX.out 0
      have y3 := free_in HX.out 1
      go_wp2_with fail
      have hX := set2 HX.out rfl (.slice (some ⟨R, 0, none⟩) F F) (.int .i64 O)
      refine bodyPost_ret (results_cell_row (P := Try.prog) rfl _ _ w.heap.size _ _ (0, 0) _ rfl hX Try.underlying117 rfl Try.sizeTableS) rfl ?_
      have hne : R ≠ w.heap.size := by omega
      exact ⟨R, rfl, by omega, ((Below.heap_setCell _ ⟨w.heap.size, 1, none⟩ _ R hne).trans ((Below.heap_setCell _ ⟨w.heap.size, 0, none⟩ _ R hne).trans HR1.out)), (hb.setCell (p := ⟨w.heap.size, 0, none⟩) (Nat.le_refl _) _).setCell (p := ⟨w.heap.size, 1, none⟩) (Nat.le_refl _) _⟩
end Go.Proofs.Ytdbbdlobahalkaa
