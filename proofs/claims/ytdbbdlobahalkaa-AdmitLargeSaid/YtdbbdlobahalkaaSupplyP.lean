/- Supplies in memory: rows of numbers, and the closure over how many ticks are open ahead of each. -/
import Derived.Test.YtdbbdlobahalkaaSupplyM
import Derived.Test.YtdbbdlobahalkaaCells
import Derived.Deep.RegionLaw
namespace Go.Proofs.Ytdbbdlobahalkaa
open Go.ChangeShapes Go.WideShapes Go.ChangeAt Go.RowKit
set_option linter.unusedVariables false

theorem made_pairs (m : Nat) : (madeCells (Value.agg #[.int .i64 0, .int .i64 0]).cells m).toList = List.replicate m (.int .i64 0) := by
  apply List.ext_getElem?
  intro k
  simp only [madeCells, Value.cells]
  by_cases hk : k < m
  · have h2 := Nat.mod_lt k (show 0 < 2 by omega)
    rcases (show k % 2 = 0 ∨ k % 2 = 1 by omega) with h | h <;> simp [hk, h]
  · simp [hk]
theorem cnt_upTo (f : Int → Bool) (a n : Nat) : (cnt f 0 (a + n) : Int) - cnt f 0 a = cnt f a n := by
  have := cnt_add f 0 a n
  rw [Int.zero_add] at this
  omega
/-- What the counts ahead of some ticks are. -/
def aheads (f : Int → Bool) (n : Nat) : List Value := (List.range n).map fun i => .int .i64 (cnt f 0 i)
theorem aheads_at {f : Int → Bool} {n i : Nat} (h : i < n) : (aheads f n)[i]? = some (.int .i64 (cnt f 0 i)) := by
  unfold aheads
  simp [h]
/-- The closure over the counts ahead of each tick: what it holds, and where. -/
structure TicksAt (w : World) (lo hi F : Nat) (f : Int → Bool) (A B : Nat) : Prop where
  a1 : lo ≤ A
  a2 : A < hi
  b1 : lo ≤ B
  b2 : B < hi
  box : w.heap[A]? = some (.cells #[.slice (some ⟨B, 0, none⟩) (2 * F) (2 * F)] 48 (0, 0))
  row : CellsAt w B 3 (aheads f (2 * F))
theorem TicksAt.keep {w w' : World} {lo hi F : Nat} {f : Int → Bool} {A B : Nat} (h : TicksAt w lo hi F f A B) (hs : SameIn w w' lo hi) : TicksAt w' lo hi F f A B :=
  { h with box := (hs A h.a1 h.a2).trans h.box, row := h.row.keep hs h.b1 h.b2 }
set_option maxRecDepth 100000 in
set_option maxHeartbeats 1000000 in
theorem ticks_any {w : World} {lo hi F : Nat} {f : Int → Bool} {A B : Nat} (h : TicksAt w lo hi F f A B) (hF : F ≤ 256) (a n : Nat) (ha : a < F) (hn : n < F) :
    Calls Try.prog 78 #[.int .i64 a, .int .i64 n, .pointer (some ⟨A, 0, none⟩)] w fun e w' => e = .returned (.int .i64 (cnt f a n)) ∧ ∃ d, w' = w.drewN d := by
  have c0 : w.cell? ⟨A, 0, none⟩ = some (.slice (some ⟨B, 0, none⟩) (2 * F) (2 * F)) := cell_in h.box rfl
  obtain ⟨c1, _⟩ := h.row.cell (aheads_at (f := f) (show a + n < 2 * F by omega))
  obtain ⟨c2, _⟩ := h.row.cell (aheads_at (f := f) (show a < 2 * F by omega))
  have HE := Lib.hid (cnt_upTo f a n)
  have b1 := cnt_le f 0 (a + n)
  have b2 := cnt_le f 0 a
  have b3 := cnt_le f a n
  clear h
  generalize cnt f 0 (a + n) = x at *
  generalize cnt f 0 a = y at *
  generalize cnt f a n = z at *
  have e1 : IntKind.i64.wrap ((a : Int) + (n : Int)) = ((a + n : Nat) : Int) := by rw [IntWalk.i64_in _ (by omega)]; omega
  have l0 : (0 : Int) ≤ ((a + n : Nat) : Int) := by omega
  have l1 : ((a + n : Nat) : Int) < ((2 * F : Nat) : Int) := by omega
  have l2 : (0 : Int) ≤ (a : Int) := by omega
  have l3 : (a : Int) < ((2 * F : Nat) : Int) := by omega
  go_enter Try.func78, Try.ntmps78
  go_wp2_with fail
  go_quiet (fail)
  go_wp2_with fail
  go_ret
  exact ⟨ret_i (by rw [← HE.out]), _, rfl⟩
/-- So far counted: the rest are still none. -/
def aheadsTo (f : Int → Bool) (n k : Nat) : List Value := aheads f k ++ List.replicate (n - k) (.int .i64 0)
theorem aheadsTo_zero (f : Int → Bool) (n : Nat) : aheadsTo f n 0 = List.replicate n (.int .i64 0) := by simp [aheadsTo, aheads]
theorem aheadsTo_all (f : Int → Bool) (n : Nat) : aheadsTo f n n = aheads f n := by simp [aheadsTo]
theorem aheadsTo_next (f : Int → Bool) {n k : Nat} (h : k < n) : (aheadsTo f n k).set k (.int .i64 (cnt f 0 k)) = aheadsTo f n (k + 1) := by
  obtain ⟨j, rfl⟩ : ∃ j, n = k + 1 + j := ⟨n - (k + 1), by omega⟩
  unfold aheadsTo
  rw [show k + 1 + j - k = j + 1 by omega, show k + 1 + j - (k + 1) = j by omega, List.replicate_succ]
  have hl : (aheads f k).length = k := by simp [aheads]
  rw [List.set_append_right _ _ (by omega), hl, Nat.sub_self, List.set_cons_zero]
  simp [aheads, List.range_succ]
theorem aheadsTo_len (f : Int → Bool) {n k : Nat} (h : k ≤ n) : (aheadsTo f n k).length = n := by simp [aheadsTo, aheads]; omega
set_option maxRecDepth 100000 in
set_option maxHeartbeats 4000000 in
theorem openTicks_any {w : World} {lo hi g F : Nat} {m : Int} {la : Option Addr} {ln lc : Nat} {l : List Wn} (h : Tab w lo hi g F m la ln lc l) (hhi : hi ≤ w.heap.size) (p : Int) :
    Calls Try.prog 58 #[.pointer (some ⟨g, 0, none⟩), .int .i64 p] w fun e w' => ∃ A B, e = .returned (.func (.func 78) #[] #[.pointer (some ⟨A, 0, none⟩)]) ∧ TicksAt w' w.heap.size w'.heap.size F (isO F m l p) A B ∧ Below w.heap.size w w' := by
  obtain ⟨i0, hi0, hz0, hz1, hz2⟩ := info_parts Try.infoInt
  have HI := Lib.hid hi0; clear hi0
  have f1 := h.f1; have f2 := h.f2
  have H := Lib.hid h
  have CC := Lib.hid (fun (W : World) (k : Int) (hb : Below w.heap.size w W) => tCount_any (H.out.keep hb hhi) (Nat.le_trans hhi hb.size) p 0 k (by omega) (by omega))
  have HC : Hid (∀ k : Nat, k ≤ 512 → countT F m l p 0 k = cnt (isO F m l p) 0 k) := Lib.hid fun k hk => by
    unfold countT countV
    rw [show (min (max (k : Int) 0) 4611686018427387904).toNat = k by omega]
  clear h
  have s1 : IntKind.i64.wrap (2 * (F : Int)) = ((2 * F : Nat) : Int) := by rw [IntWalk.i64_in _ (by omega)]; omega
  generalize isO F m l p = f at HC ⊢
  go_enter Try.func58, Try.ntmps58
  go_wp2_with (first
    | (refine wpList_make_full _ (by rfl) (.tmp 9) (.tmp 9) 48 (by rfl) w.heap.size 3 i0 _ 1 Try.underlying48 HI.out hz0 hz1 _ _ (2 * F) (2 * F) (2 * F) (by rfl) (by rfl) rfl rfl (by rw [hz2]; omega) (by simp [maxLen]; omega) (Nat.le_refl _) ?_; intro w2 hown2 hgrow2)
    | (go_at_call 55; refine (tFrame_any H.out).mono ?_; rintro e w' ⟨rfl, rfl⟩)
    | go_in)
  have hb2 : Below w.heap.size w w2 := ⟨hgrow2.os, hgrow2.tape, hgrow2.output, hgrow2.size, fun b hb => hgrow2.block b hb (by simp)⟩
  have hrow := CellsAt.of_own hown2 (by simp [made_nums])
  rw [made_nums, Nat.mul_one, ← aheadsTo_zero f] at hrow
  have hlt2 := hrow.lt
  obtain ⟨A, hA⟩ : ∃ A, A = w2.heap.size := ⟨_, rfl⟩
  obtain ⟨V, hV⟩ : ∃ V, V = w2.alloc (.cells #[.slice (some ⟨w.heap.size, 0, none⟩) (2 * F) (2 * F)] 48) := ⟨_, rfl⟩
  have HB := Lib.hid (show Below w.heap.size w V from by rw [hV]; exact hb2.alloc hb2.size _)
  have HX := Lib.hid (show V.heap[A]? = some (.cells #[.slice (some ⟨w.heap.size, 0, none⟩) (2 * F) (2 * F)] 48 (0, 0)) from by rw [hV, hA]; exact heap_alloc_new _ _)
  have HR := Lib.hid (show CellsAt V w.heap.size 3 (aheadsTo f (2 * F) 0) from by rw [hV]; exact hrow.later (below1 _ _))
  rw [← hV, ← hA]
  have hBA : w.heap.size < A := by omega
  clear hown2 hgrow2 hb2 hrow hlt2 hV hA
  go_loopw [13] (fun i wr => ∃ k : Nat, k ≤ 2 * F ∧ i = .int .i64 k ∧ Hid (wr.heap[A]? = some (.cells #[.slice (some ⟨w.heap.size, 0, none⟩) (2 * F) (2 * F)] 48 (0, 0))) ∧ Hid (CellsAt wr w.heap.size 3 (aheadsTo f (2 * F) k)) ∧ Below w.heap.size w wr) (fun i _ => 2 * F - (intOf i).toNat)
  case atStart => exact ⟨0, by omega, rfl, HX, HR, HB.out⟩
  case round =>
    clear HX HR HB
    obtain ⟨k, hk, rfl, HX, HR, hb⟩ := hrel
    by_cases hlt : k < 2 * F
    · have tk : decide ((k : Int) < 2 * (F : Int)) = true := by rw [decide_eq_true_eq]; omega
      have HW := Lib.hid (show ∀ W : World, Below wr.heap.size wr W → W.cell? ⟨A, 0, none⟩ = some (.slice (some ⟨w.heap.size, 0, none⟩) (2 * F) (2 * F)) ∧ W.frozen? ⟨w.heap.size, k, none⟩ = false ∧ ∃ u, W.cell? ⟨w.heap.size, k, none⟩ = some u from fun W hW => by
        have h1 := (hW.block A (lt_of_block HX.out)).trans HX.out
        have h2 := HR.out.later hW
        obtain ⟨u, hu⟩ : ∃ u, (aheadsTo f (2 * F) k)[k]? = some u := ⟨_, List.getElem?_eq_getElem (by rw [aheadsTo_len _ hk]; exact hlt)⟩
        exact ⟨cell_in h1 rfl, (h2.cell hu).2, u, (h2.cell hu).1⟩)
      have HFIN := Lib.hid (show ∀ W : World, Below wr.heap.size wr W → (W.setCell ⟨w.heap.size, k, none⟩ (.int .i64 (cnt f 0 k))).heap[A]? = some (.cells #[.slice (some ⟨w.heap.size, 0, none⟩) (2 * F) (2 * F)] 48 (0, 0)) ∧ CellsAt (W.setCell ⟨w.heap.size, k, none⟩ (.int .i64 (cnt f 0 k))) w.heap.size 3 (aheadsTo f (2 * F) (k + 1)) ∧ Below w.heap.size w (W.setCell ⟨w.heap.size, k, none⟩ (.int .i64 (cnt f 0 k))) from fun W hW => by
        have h1 := (hW.block A (lt_of_block HX.out)).trans HX.out
        have h2 := (HR.out.later hW).set k (.int .i64 (cnt f 0 k))
        rw [aheadsTo_next f hlt] at h2
        exact ⟨(Below.heap_setCell W ⟨w.heap.size, k, none⟩ _ A (by simp; omega)).trans h1, h2, (bel_then hb (Nat.le_refl _) hW).setCell (Nat.le_refl _) _⟩)
      have q0 : (0 : Int) ≤ (k : Int) := by omega
      have q1 : (k : Int) < ((2 * F : Nat) : Int) := by omega
      have q2 : (k : Int) < 2 * (F : Int) := by omega
      have y := HW.out wr (Below.refl _ _)
      obtain ⟨y0, y1, _, y2⟩ := y
      have CK := Lib.hid (HC.out k (by omega))
      go_wp2_with fail
      go_region_law (first
        | (go_simp; go_at_call 77; refine (CC.out _ k (by repeat first | exact hb | refine Below.drew ?_)).mono ?_; rintro e w5 ⟨rfl, hb5⟩; rw [CK.out]; have hbn : Below wr.heap.size wr w5 := (Below.trans (by repeat first | exact Below.refl _ _ | refine Below.drew ?_) hb5); obtain ⟨x0, x1, _, x2⟩ := HW.out _ hbn))
      all_goals
        (go_wp2_with fail
         go_roundw
         case rel =>
           obtain ⟨t1, t2, t3⟩ := HFIN.out _ (by repeat first | exact hbn | refine Below.drew ?_)
           exact ⟨k + 1, by omega, by go_num, Lib.hid t1, Lib.hid t2, t3⟩
         case measure => simp [intOf]; omega)
    · have tk : decide ((k : Int) < 2 * (F : Int)) = false := by rw [decide_eq_false_iff_not]; omega
      have hkk : k = 2 * F := by omega
      have HR2 := Lib.hid (show CellsAt wr w.heap.size 3 (aheads f (2 * F)) from by have := HR.out; rw [hkk, aheadsTo_all] at this; exact this)
      clear HR hkk
      go_wp2_with fail
      go_ret
      have hx := lt_of_block HX.out
      exact ⟨A, w.heap.size, rfl, ⟨by omega, hx, Nat.le_refl _, HR2.out.lt, HX.out, HR2.out⟩, hb⟩
end Go.Proofs.Ytdbbdlobahalkaa
