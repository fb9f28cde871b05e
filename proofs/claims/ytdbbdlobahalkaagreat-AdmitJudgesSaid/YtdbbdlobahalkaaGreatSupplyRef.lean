/- Joined of SupplyR, SupplyQ: The document's supply of a partition: Of, Least. -/
import Derived.Test.YtdbbdlobahalkaaGreatFrameR
import Derived.Test.YtdbbdlobahalkaaGreatCells
import Derived.Test.YtdbbdlobahalkaaGreatSupplyM
import Derived.Test.YtdbbdlobahalkaaGreatBoundProg
import Derived.BigRegion
import Derived.Test.YtdbbdlobahalkaaGreatSupplyS
import Derived.Deep.RegionHeld3
import Derived.Deep.CutRange
namespace Go.Proofs.YtdbbdlobahalkaaGreat
open Go.ChangeShapes Go.WideShapes Go.ChangeAt Go.RowKit
set_option linter.unusedVariables false
attribute [local go_sem ↓] Go.wp_at_zero Go.wp_at_succ

/-- The row of a function's first n numbers. -/
def nums (g : Nat → Int) (n : Nat) : List Value := (List.range n).map fun i => .int .i64 (g i)
theorem nums_at {g : Nat → Int} {n i : Nat} (h : i < n) : (nums g n)[i]? = some (.int .i64 (g i)) := by unfold nums; simp [h]
theorem nums_len (g : Nat → Int) (n : Nat) : (nums g n).length = n := by simp [nums]
theorem nums_eq {f g : Nat → Int} {n : Nat} (h : ∀ i, i < n → f i = g i) : nums f n = nums g n := by
  unfold nums
  exact List.map_congr_left fun i hi => by rw [h i (List.mem_range.1 hi)]
theorem nums_set (f : Nat → Int) (n j : Nat) (b : Int) : (nums f n).set j (.int .i64 b) = nums (fun i => if i = j then b else f i) n := by
  apply List.ext_getElem?
  intro i
  rw [List.getElem?_set]
  by_cases hi : i < n
  · rw [nums_at (g := f) hi, nums_at (g := fun i => if i = j then b else f i) hi, nums_len]
    by_cases hj : j = i
    · subst hj; simp [hi]
    · rw [if_neg hj]; simp [show ¬ i = j from fun e => hj e.symm]
  · have e1 : (nums f n)[i]? = none := List.getElem?_eq_none (by rw [nums_len]; omega)
    have e2 : (nums (fun i => if i = j then b else f i) n)[i]? = none := List.getElem?_eq_none (by rw [nums_len]; omega)
    rw [e1, e2, nums_len]
    by_cases hj : j = i
    · subst hj; simp [hi]
    · rw [if_neg hj]
theorem nums_none (n : Nat) : List.replicate n (Value.int .i64 0) = nums (fun _ => 0) n := by
  unfold nums
  rw [List.map_const']
  simp
def oneB (b : Bool) : Int := if b then 1 else 0
/-- Which ticks are open, of the first k; and of what comes. -/
def openG (f : Int → Bool) (k i : Nat) : Int := if i < k then oneB (f i) else 0
theorem openG_zero (f : Int → Bool) (n : Nat) : nums (fun _ => 0) n = nums (openG f 0) n := nums_eq fun i _ => by simp [openG]
theorem openG_yes {f : Int → Bool} {n k : Nat} (h : f k = true) : (nums (openG f k) n).set k (.int .i64 1) = nums (openG f (k + 1)) n := by
  rw [nums_set]
  refine nums_eq fun i _ => ?_
  unfold openG
  by_cases e : i = k
  · subst e; simp [h, oneB]
  · rw [if_neg e]
    by_cases g : i < k
    · rw [if_pos g, if_pos (by omega)]
    · rw [if_neg g, if_neg (by omega)]
theorem openG_no {f : Int → Bool} {n k : Nat} (h : f k = false) : nums (openG f k) n = nums (openG f (k + 1)) n := by
  refine nums_eq fun i _ => ?_
  unfold openG
  by_cases e : i = k
  · subst e; simp [h, oneB]
  · by_cases g : i < k
    · rw [if_pos g, if_pos (by omega)]
    · rw [if_neg g, if_neg (by omega)]
def sumG (f : Int → Bool) (n q i : Nat) : Int := if i < q then (cnt f i (n + 1) : Int) else (cnt f i n : Int)
theorem sumG_zero (f : Int → Bool) (F : Nat) : nums (fun _ => 0) F = nums (sumG f 0 0) F := nums_eq fun i _ => by simp [sumG, cnt]
theorem cnt_oneB (f : Int → Bool) (a : Int) (n : Nat) : (cnt f a (n + 1) : Int) = (cnt f a n : Int) + oneB (f (a + n)) := by
  cases h : f (a + n) with
  | true => rw [cnt_yes h]; simp [oneB]
  | false => rw [cnt_no h]; simp [oneB]
theorem sumG_set (f : Int → Bool) (n q F : Nat) : (nums (sumG f n q) F).set q (.int .i64 ((cnt f q n : Int) + oneB (f ((q + n : Nat) : Int)))) = nums (sumG f n (q + 1)) F := by
  rw [nums_set]
  refine nums_eq fun i _ => ?_
  unfold sumG
  by_cases e : i = q
  · subst e
    rw [if_pos rfl, if_pos (by omega), cnt_oneB]
    simp
  · rw [if_neg e]
    by_cases g : i < q
    · rw [if_pos g, if_pos (by omega)]
    · rw [if_neg g, if_neg (by omega)]
theorem sumG_next (f : Int → Bool) (n F : Nat) : nums (sumG f n F) F = nums (sumG f (n + 1) 0) F := nums_eq fun i hi => by
  unfold sumG
  rw [if_pos hi, if_neg (by omega)]
def leastTo (g : Nat → Nat) : Nat → Int
  | 0 => 1073741824
  | q + 1 => min (leastTo g q) (g q : Int)
theorem leastTo_all {g : Nat → Nat} (h : ∀ i, g i ≤ 1073741824) : ∀ q, leastTo g (q + 1) = (leastOf g q : Int)
  | 0 => by have := h 0; simp [leastTo, leastOf]; omega
  | q + 1 => by
    have := leastTo_all h q
    rw [leastTo, this]
    simp only [leastOf]
    omega
theorem leastTo_bd (g : Nat → Nat) : ∀ q, 0 ≤ leastTo g q ∧ leastTo g q ≤ 1073741824
  | 0 => by simp [leastTo]
  | q + 1 => by
    have := leastTo_bd g q
    rw [leastTo]
    omega
/-- What the supply of less than a frame is, of each number of ticks. -/
def leasts (f : Int → Bool) (F n : Nat) : List Int := (List.range n).map fun k => (leastV f F k : Int)
theorem leasts_len (f : Int → Bool) (F n : Nat) : (leasts f F n).length = n := by simp [leasts]
theorem leasts_next (f : Int → Bool) (F n : Nat) : leasts f F (n + 1) = leasts f F n ++ [(leastV f F n : Int)] := by simp [leasts, List.range_succ]
theorem leasts_at {f : Int → Bool} {F n k : Nat} (h : k < n) : (leasts f F n)[k]? = some (leastV f F k : Int) := by unfold leasts; simp [h]
theorem leastTo_is {f : Int → Bool} {F n : Nat} (f1 : 1 ≤ F) (hn : n ≤ 256) : leastTo (fun i => cnt f (i : Int) n) F = (leastV f F n : Int) := by
  obtain ⟨q, rfl⟩ : ∃ q, F = q + 1 := ⟨F - 1, by omega⟩
  exact leastTo_all (fun i => by have := cnt_le f (i : Int) n; omega) q
theorem ints_keep {wr w6 W : World} {B : Nat} {a : Option Addr} {cap : Nat} {ls : List Int} {o : Obj} (h : Ints wr B a cap ls) (hW : W.heap = (wr.alloc o).heap) (hg : W.grownBy w6 (Value.slice a ls.length cap).ownBlock) {X : Nat} (hX : X < B) (hXs : X < wr.heap.size) : w6.heap[X]? = wr.heap[X]? := by
  rw [hg.block X (by rw [hW]; simp; omega) (fun e => by have := (owns_own h X e.symm).1; omega), hW, heap_at, if_neg (by omega)]
theorem ints_below3 {V wr w6 W : World} {B C : Nat} {a : Option Addr} {cap : Nat} {ls : List Int} {o : Obj} (h : Ints wr B a cap ls) (hb : Below C V wr) (hC : C ≤ B) (hC2 : C ≤ wr.heap.size) (hW : W = wr.alloc o) (hg : W.grownBy w6 (Value.slice a ls.length cap).ownBlock) : Below C V w6 := by
  subst hW
  exact (hb.alloc hC2 o).grown hg (by simp; omega) (fun q hq => Nat.le_trans hC (owns_own h q hq).1)
/-- A supply of the document's in memory. -/
structure RSup (w : World) (lo hi g s F : Nat) (f : Int → Bool) (p : Int) (na : Option Addr) (nc : Nat) : Prop where
  box : CellsAt w s 140 [.pointer (some ⟨g, 0, none⟩), .int .i64 p, .slice na F nc]
  row : Lies w lo hi (.slice na F nc) F 1 ((leasts f F F).flatMap intCells)
  s1 : lo ≤ s
  s2 : s < hi
theorem RSup.keep {w w' : World} {lo hi g s F : Nat} {f : Int → Bool} {p : Int} {na : Option Addr} {nc : Nat} (h : RSup w lo hi g s F f p na nc) (hs : SameIn w w' lo hi) : RSup w' lo hi g s F f p na nc :=
  { h with box := h.box.keep hs h.s1 h.s2, row := h.row.keep hs }
set_option maxRecDepth 100000 in
set_option maxHeartbeats 4000000 in
theorem rSupOf_any {w : World} {lo hi g F : Nat} {m : Int} {la : Option Addr} {ln lc : Nat} {l : List Wn} (h : RTab w lo hi g F m la ln lc l) (hhi : hi ≤ w.heap.size) (p : Int) (p0 : 0 ≤ p) (p6 : p < 6) :
    Calls Tryz.prog 65 #[.pointer (some ⟨g, 0, none⟩), .int .i64 p] w fun e w' => ∃ s na nc, e = .returned (.pointer (some ⟨s, 0, none⟩)) ∧ RSup w' w.heap.size w'.heap.size g s F (isO F m l p) p na nc ∧ Below w.heap.size w w' := by
  obtain ⟨i0, hi0, hz0, hz1, hz2⟩ := info_parts Tryz.infoInt
  have HI := Lib.hid hi0; clear hi0
  have f1 := h.f1; have f2 := h.f2
  have hgw : g < w.heap.size := by have := h.high; omega
  have c0 := h.c0
  have H := Lib.hid h
  have KS : Hid (∀ W : World, Below w.heap.size w W → W.cell? ⟨g, 0, none⟩ = some (.int .i64 F)) := Lib.hid fun W hb => (H.out.keep hb hhi).c0
  have CI := Lib.hid (fun (W : World) (k : Nat) (hk : k ≤ 512) (hb : Below w.heap.size w W) => rIs_any (H.out.keep hb hhi) (Nat.le_trans hhi hb.size) p k (by omega) (by omega))
  clear h
  have t1 : decide (p < 0) = false := by simp; omega
  have t2 : decide (6 ≤ p) = false := by simp; omega
  have s1 : IntKind.i64.wrap (2 * (F : Int)) = ((2 * F : Nat) : Int) := by rw [IntWalk.i64_in _ (by omega)]; omega
  generalize isO F m l p = f at CI ⊢
  go_enter Tryz.func65, Tryz.ntmps65
  go_wp2_with (first
    | (refine wpList_make_full _ (by rfl) (.tmp 30) (.tmp 30) 54 (by rfl) (w.heap.size + 1) 3 i0 _ 1 Tryz.underlying54 HI.out hz0 hz1 _ _ (2 * F) (2 * F) (2 * F) (by rfl) (by rfl) rfl rfl (by rw [hz2]; omega) (by simp [maxLen]; omega) (by simp) ?_; intro w2 hown2 hgrow2)
    | go_in)
  have hs1 : (w.alloc (.cells #[.pointer (some ⟨g, 0, none⟩), .int .i64 p, .slice none 0 0] 140)).heap.size = w.heap.size + 1 := by simp
  have hb2 : Below w.heap.size w w2 := (below1 w _).trans (Below.mono ⟨hgrow2.os, hgrow2.tape, hgrow2.output, hgrow2.size, fun b hb => hgrow2.block b hb (by simp)⟩ (Nat.le_of_lt (by rw [hs1]; omega)))
  have hX2 : CellsAt w2 w.heap.size 140 [.pointer (some ⟨g, 0, none⟩), .int .i64 p, .slice none 0 0] := (hgrow2.block _ (by rw [hs1]; omega) (by simp)).trans (heap_alloc_new _ _)
  rw [hs1, made_nums, Nat.mul_one, nums_none, openG_zero f] at hown2
  have hR2 := CellsAt.of_own hown2 (by rw [nums_len]; omega)
  obtain ⟨O, hO⟩ : ∃ O, O = w.heap.size + 1 := ⟨_, rfl⟩
  rw [← hO] at hR2
  rw [← hO]
  have hOw : w.heap.size < O := by omega
  have hOs := hR2.lt
  have HX := Lib.hid hX2; have HR := Lib.hid hR2
  clear hown2 hgrow2 hX2 hR2 hO hs1
  go_loopw [7] (fun i wr => ∃ k : Nat, k ≤ 2 * F ∧ i = .int .i64 k ∧ Hid (CellsAt wr w.heap.size 140 [.pointer (some ⟨g, 0, none⟩), .int .i64 p, .slice none 0 0]) ∧ Hid (CellsAt wr O 3 (nums (openG f k) (2 * F))) ∧ Below w.heap.size w wr) (fun i _ => 2 * F - (intOf i).toNat)
  case atStart => exact ⟨0, by omega, rfl, HX, HR, hb2⟩
  case round =>
    clear HX HR hb2
    obtain ⟨k, hk, rfl, HX, HR, hb⟩ := hrel
    have CK := Lib.hid (fun (W : World) (h5 : k ≤ 512) (g5 : Below w.heap.size w W) => CI.out W k h5 g5)
    by_cases hlt : k < 2 * F
    · have tk : decide ((k : Int) < ((2 * F : Nat) : Int)) = true := by rw [decide_eq_true_eq]; omega
      have tk2 : decide ((k : Int) < 2 * (F : Int)) = true := by rw [decide_eq_true_eq]; omega
      have q0 : (0 : Int) ≤ (k : Int) := by omega
      have q1 : (k : Int) < ((2 * F : Nat) : Int) := by omega
      have q2 : (k : Int) < 2 * (F : Int) := by omega
      have HW := Lib.hid (show ∀ W : World, Below wr.heap.size wr W → W.cell? ⟨O, k, none⟩ = some (.int .i64 (openG f k k)) ∧ W.frozen? ⟨O, k, none⟩ = false from fun W hW => (HR.out.later hW).cell (nums_at (g := openG f k) hlt))
      have HFIN := Lib.hid (show ∀ W : World, Below wr.heap.size wr W → f k = true → CellsAt (W.setCell ⟨O, k, none⟩ (.int .i64 1)) w.heap.size 140 [.pointer (some ⟨g, 0, none⟩), .int .i64 p, .slice none 0 0] ∧ CellsAt (W.setCell ⟨O, k, none⟩ (.int .i64 1)) O 3 (nums (openG f (k + 1)) (2 * F)) ∧ Below w.heap.size w (W.setCell ⟨O, k, none⟩ (.int .i64 1)) from fun W hW hf => by
        have h1 := HX.out.later hW
        have h2 := (HR.out.later hW).set k (.int .i64 1)
        rw [openG_yes hf] at h2
        exact ⟨(Below.heap_setCell W ⟨O, k, none⟩ _ w.heap.size (by simp; omega)).trans h1, h2, (bel_thenD hb (Nat.le_refl _) hW).setCell (p := ⟨O, k, none⟩) (by show _ ≤ O; omega) _⟩)
      cases hf : f k with
      | true =>
        have HF := Lib.hid hf
        clear hf
        go_wp2_with (first
          | (go_at_call 95; refine (CK.out _ (by omega) hb).mono ?_; rintro e w5 ⟨rfl, hb5⟩; rw [HF.out]; have HB5 := Lib.hid hb5; obtain ⟨y0, y1⟩ := HW.out _ hb5; clear hb5))
        go_roundw
        case rel => exact ⟨k + 1, by omega, by go_num, Lib.hid (HFIN.out _ HB5.out HF.out).1, Lib.hid (HFIN.out _ HB5.out HF.out).2.1, (HFIN.out _ HB5.out HF.out).2.2⟩
        case measure => simp [intOf]; omega
      | false =>
        have HF := Lib.hid hf
        clear hf
        go_wp2_with (first
          | (go_at_call 95; refine (CK.out _ (by omega) hb).mono ?_; rintro e w5 ⟨rfl, hb5⟩; rw [HF.out]; have HB5 := Lib.hid hb5; clear hb5))
        go_roundw
        case rel => exact ⟨k + 1, by omega, by go_num, Lib.hid (HX.out.later HB5.out), Lib.hid (by rw [← openG_no HF.out]; exact HR.out.later HB5.out), bel_thenD hb (Nat.le_refl _) HB5.out⟩
        case measure => simp [intOf]; omega
    · have tk : decide ((k : Int) < ((2 * F : Nat) : Int)) = false := by rw [decide_eq_false_iff_not]; omega
      have tk2 : decide ((k : Int) < 2 * (F : Int)) = false := by rw [decide_eq_false_iff_not]; omega
      have z0 := KS.out wr hb
      have hkk : k = 2 * F := by omega
      have HR2 := Lib.hid (show CellsAt wr O 3 (nums (openG f (2 * F)) (2 * F)) from by have := HR.out; rw [hkk] at this; exact this)
      clear HR hkk
      go_wp2_with (first
        | (refine wpList_make_full _ (by rfl) (.tmp 48) (.tmp 48) 54 (by rfl) wr.heap.size 3 i0 _ 1 Tryz.underlying54 HI.out hz0 hz1 _ _ F F F (by rfl) (by rfl) rfl rfl (by rw [hz2]; omega) (by simp [maxLen]; omega) (Nat.le_refl _) ?_; intro w3 hown3 hgrow3)
        | go_in)
      have hbw := hb.size
      have hb3' : Below wr.heap.size wr w3 := ⟨hgrow3.os, hgrow3.tape, hgrow3.output, hgrow3.size, fun b hb => hgrow3.block b hb (by simp)⟩
      have HB3 := Lib.hid (bel_thenD hb (Nat.le_refl _) hb3')
      have HX3 := Lib.hid (HX.out.later hb3')
      have HO3 := Lib.hid (HR2.out.later hb3')
      rw [made_nums, Nat.mul_one, nums_none, sumG_zero f] at hown3
      have hU := CellsAt.of_own hown3 (by rw [nums_len]; omega)
      obtain ⟨U, hUe⟩ : ∃ U, U = wr.heap.size := ⟨_, rfl⟩
      rw [← hUe] at hU
      rw [← hUe]
      have hUw : O < U := by have := HR2.out.lt; omega
      have hUs := hU.lt
      have HU := Lib.hid hU
      clear hown3 hgrow3 hb3' hU hUe hb HX HR2 tk tk2 hlt
      have hBx : w.heap.size + 1 ≤ w3.heap.size := by omega
      go_loopw [9] (fun i wr => ∃ (n nc : Nat) (na : Option Addr), n ≤ F ∧ i = .int .i64 n ∧ Hid (CellsAt wr w.heap.size 140 [.pointer (some ⟨g, 0, none⟩), .int .i64 p, .slice na (leasts f F n).length nc]) ∧ Hid (CellsAt wr O 3 (nums (openG f (2 * F)) (2 * F))) ∧ Hid (CellsAt wr U 3 (nums (sumG f n 0) F)) ∧ Hid (Ints wr w3.heap.size na nc (leasts f F n)) ∧ Below w.heap.size w wr ∧ w3.heap.size ≤ wr.heap.size) (fun i _ => F - (intOf i).toNat)
      case atStart => exact ⟨0, 0, none, by omega, rfl, HX3, HO3, HU, Lib.hid (Ints.nil _ _), HB3.out, Nat.le_refl _⟩
      case round =>
        clear HX3 HO3 HU HB3 z0
        obtain ⟨n, nc, na, hn, rfl, HX, HO, HU, HL, hb, h3⟩ := hrel
        have z0 := KS.out wr hb
        by_cases hln : n < F
        · have tn : decide ((n : Int) < (F : Int)) = true := by simpa using hln
          have HLN := Lib.hid (leasts_next f F n)
          have hlen : (leasts f F n).length ≤ 256 := by rw [leasts_len]; omega
          obtain ⟨ls, hls⟩ : ∃ ls, ls = leasts f F n := ⟨_, rfl⟩
          rw [← hls] at HX HL HLN hlen
          clear hls
          obtain ⟨wo, hwo⟩ : ∃ wo, wo = wr := ⟨_, rfl⟩
          subst hwo
          go_wp2_with fail
          go_loopw [10, 11] (fun s i wx => ∃ q : Nat, q ≤ F ∧ s = .int .i64 (leastTo (fun i => cnt f (i : Int) n) q) ∧ i = .int .i64 q ∧ Hid (CellsAt wx w.heap.size 140 [.pointer (some ⟨g, 0, none⟩), .int .i64 p, .slice na ls.length nc]) ∧ Hid (CellsAt wx O 3 (nums (openG f (2 * F)) (2 * F))) ∧ Hid (CellsAt wx U 3 (nums (sumG f n q) F)) ∧ Hid (Ints wx w3.heap.size na nc ls) ∧ Below w.heap.size w wx ∧ w3.heap.size ≤ wx.heap.size) (fun _ i _ => F - (intOf i).toNat)
          case atStart => exact ⟨0, by omega, rfl, rfl, HX, HO, HU, HL, hb, h3⟩
          case round =>
            clear HX HO HU HL hb h3 z0
            obtain ⟨q, hq, rfl, rfl, HX, HO, HU, HL, hb, h3⟩ := hrel
            have z0 := KS.out wr hb
            by_cases hlq : q < F
            · have tq : decide ((q : Int) < (F : Int)) = true := by simpa using hlq
              have e1 : sumG f n q q = (cnt f q n : Int) := by unfold sumG; rw [if_neg (by omega)]
              have e2 : openG f (2 * F) (q + n) = oneB (f ((q + n : Nat) : Int)) := by unfold openG; rw [if_pos (by omega)]
              have y := HU.out.cell (nums_at (g := sumG f n q) hlq)
              have y' := HO.out.cell (nums_at (g := openG f (2 * F)) (show q + n < 2 * F by omega))
              rw [e1] at y; rw [e2] at y'
              obtain ⟨y0, y1⟩ := y
              obtain ⟨y2, y3⟩ := y'
              have hc := cnt_le f (q : Int) n
              have hob : 0 ≤ oneB (f ((q + n : Nat) : Int)) ∧ oneB (f ((q + n : Nat) : Int)) ≤ 1 := by unfold oneB; split <;> omega
              obtain ⟨o0, o1⟩ := hob
              have hst := HU.out.set q (.int .i64 ((cnt f q n : Int) + oneB (f ((q + n : Nat) : Int))))
              rw [sumG_set] at hst
              have HN : Hid (leastTo (fun i => cnt f (i : Int) n) (q + 1) = min (leastTo (fun i => cnt f (i : Int) n) q) (cnt f (q : Int) n : Int)) := Lib.hid rfl
              obtain ⟨lb0, lb1⟩ := leastTo_bd (fun i => cnt f (i : Int) n) q
              generalize leastTo (fun i => cnt f (i : Int) n) q = lt at *
              generalize oneB (f ((q + n : Nat) : Int)) = ob at *
              generalize cnt f (q : Int) n = cq at *
              have HFIN := Lib.hid (show ∀ d, CellsAt ((wr.drewN d).setCell ⟨U, q, none⟩ (.int .i64 ((cq : Int) + ob))) w.heap.size 140 [.pointer (some ⟨g, 0, none⟩), .int .i64 p, .slice na ls.length nc] ∧ CellsAt ((wr.drewN d).setCell ⟨U, q, none⟩ (.int .i64 ((cq : Int) + ob))) O 3 (nums (openG f (2 * F)) (2 * F)) ∧ CellsAt ((wr.drewN d).setCell ⟨U, q, none⟩ (.int .i64 ((cq : Int) + ob))) U 3 (nums (sumG f n (q + 1)) F) ∧ Ints ((wr.drewN d).setCell ⟨U, q, none⟩ (.int .i64 ((cq : Int) + ob))) w3.heap.size na nc ls ∧ Below w.heap.size w ((wr.drewN d).setCell ⟨U, q, none⟩ (.int .i64 ((cq : Int) + ob))) ∧ w3.heap.size ≤ ((wr.drewN d).setCell ⟨U, q, none⟩ (.int .i64 ((cq : Int) + ob))).heap.size from fun d => by
                refine ⟨(Below.heap_setCell _ ⟨U, q, none⟩ _ w.heap.size (by simp; omega)).trans HX.out, (Below.heap_setCell _ ⟨U, q, none⟩ _ O (by simp; omega)).trans HO.out, hst, ?_, (below_drewD d hb).setCell (p := ⟨U, q, none⟩) (by show _ ≤ U; omega) _, by simpa [World.setCell, World.drewN] using h3⟩
                exact owns_hold HL.out ⟨by simp [World.setCell, World.drewN], fun b hb' => Below.heap_setCell _ ⟨U, q, none⟩ _ b (by have := (owns_own HL.out b hb').1; show b ≠ U; omega)⟩)
              clear hst HO HU HX e1 e2
              have q0 : (0 : Int) ≤ (q : Int) := by omega
              have q1 : (q : Int) < (F : Int) := by omega
              have S1 : IntKind.i64.wrap ((q : Int) + (n : Int)) = ((q + n : Nat) : Int) := by rw [IntWalk.i64_in _ (by omega)]; omega
              have S2 : IntKind.i64.wrap ((cq : Int) + ob) = (cq : Int) + ob := IntWalk.i64_in _ (by omega)
              have q2 : ((q + n : Nat) : Int) < ((2 * F : Nat) : Int) := by omega
              have q3 : (0 : Int) ≤ ((q + n : Nat) : Int) := by omega
              have q4 : (q : Int) + (n : Int) < 2 * (F : Int) := by omega
              have q5 : (0 : Int) ≤ (q : Int) + (n : Int) := by omega
              rcases Int.lt_or_le (cq : Int) lt with hm | hm
              all_goals
                (go_wp2_with fail
                 go_region
                 go_wp2_with fail
                 go_roundw
                 case rel =>
                   refine ⟨q + 1, by omega, by rw [HN.out]; (first | rfl | (congr 1; omega)), by go_num, ?_⟩
                   first
                     | exact ⟨Lib.hid (HFIN.out 1).1, Lib.hid (HFIN.out 1).2.1, Lib.hid (HFIN.out 1).2.2.1, Lib.hid (HFIN.out 1).2.2.2.1, (HFIN.out 1).2.2.2.2.1, (HFIN.out 1).2.2.2.2.2⟩
                     | exact ⟨Lib.hid (HFIN.out 0).1, Lib.hid (HFIN.out 0).2.1, Lib.hid (HFIN.out 0).2.2.1, Lib.hid (HFIN.out 0).2.2.2.1, (HFIN.out 0).2.2.2.2.1, (HFIN.out 0).2.2.2.2.2⟩
                 case measure => simp [intOf]; omega)
            · have tq : decide ((q : Int) < (F : Int)) = false := by simp; omega
              have hqq : q = F := by omega
              have HU2 := Lib.hid (show CellsAt wr U 3 (nums (sumG f (n + 1) 0) F) from by have := HU.out; rw [hqq, sumG_next] at this; exact this)
              have HLT : Hid (leastTo (fun i => cnt f (i : Int) n) q = (leastV f F n : Int)) := Lib.hid (by rw [hqq]; exact leastTo_is f1 (by omega))
              clear HU hqq
              rw [HLT.out]
              clear HLT
              have hlv := leastV_bd (f := f) (F := F) n
              generalize leastV f F n = lv at *
              have HAP := Lib.hid (HL.out.hap h3 (lv : Int))
              have x0 := (HX.out.cell (j := 2) rfl).1
              have HK := Lib.hid (show ∀ (w6 W : World), W.heap = (wr.alloc (.cells #[.int .i64 (lv : Int)] 3)).heap → W.grownBy w6 (Value.slice na ls.length nc).ownBlock → CellsAt w6 w.heap.size 140 [.pointer (some ⟨g, 0, none⟩), .int .i64 p, .slice na ls.length nc] ∧ CellsAt w6 O 3 (nums (openG f (2 * F)) (2 * F)) ∧ CellsAt w6 U 3 (nums (sumG f (n + 1) 0) F) from fun w6 W hW hg => by
                exact ⟨(ints_keep HL.out hW hg (by omega) HX.out.lt).trans HX.out, (ints_keep HL.out hW hg (by omega) HO.out.lt).trans HO.out, (ints_keep HL.out hW hg (by omega) HU2.out.lt).trans HU2.out⟩)
              go_wp2_with (first
                | (refine wpList_append_lie2 (by rfl) (.tmp 90) (.tmp 92) 54 (by rfl) w3.heap.size 3 i0 _ 1 8 Tryz.underlying54 HI.out hz0 hz1 hz2 rfl (by omega) (.slice na ls.length nc) ls.length (ls.flatMap intCells) (by rfl) (HAP.out wr (Below.refl _ _) _ (by rfl)).1 (.slice (some ⟨wr.heap.size, 0, none⟩) 1 1) wr.heap.size (wr.heap.size + 1) 1 [.int .i64 (lv : Int)] (by rfl) (HAP.out wr (Below.refl _ _) _ (by rfl)).2.1 (in_one _) (ls.length + 1) rfl (by simp only [maxLen]; omega) (by omega) (HAP.out wr (Below.refl _ _) _ (by rfl)).2.2 ?_; intro ao cap' w6 hown6 hgrow6 hob6
                   have HK6 := Lib.hid (HK.out _ _ (by rfl) hgrow6); have x1 := (HK6.out.1.cell (j := 2) rfl).1; have x2 := (HK6.out.1.cell (j := 2) rfl).2
                   have HB6 := Lib.hid (ints_below3 HL.out hb (by omega) hb.size rfl hgrow6); have HS6 := Lib.hid hgrow6.size; have HI6 := Lib.hid (Ints.more hown6); clear hown6 hgrow6 hob6)
                | go_in)
              have g6 : w3.heap.size ≤ w6.heap.size := by have := HS6.out; simp at this; omega
              go_roundw
              case rel =>
                refine ⟨n + 1, cap', ao, by omega, by go_num, Lib.hid ?_, Lib.hid ((Below.heap_setCell w6 ⟨w.heap.size, 2, none⟩ _ O (by simp; omega)).trans HK6.out.2.1), Lib.hid ((Below.heap_setCell w6 ⟨w.heap.size, 2, none⟩ _ U (by simp; omega)).trans HK6.out.2.2), Lib.hid ?_, HB6.out.setCell (p := ⟨w.heap.size, 2, none⟩) (Nat.le_refl _) _, by simpa [World.setCell] using g6⟩
                · have := HK6.out.1.set 2 (.slice ao (ls.length + 1) cap')
                  rw [HLN.out, List.length_append]
                  exact this
                · rw [HLN.out]
                  exact owns_hold HI6.out ⟨by simp [World.setCell], fun b hb' => Below.heap_setCell _ ⟨w.heap.size, 2, none⟩ _ b (by have := (owns_own HI6.out b hb').1; show b ≠ w.heap.size; omega)⟩
              case measure => simp [intOf]; omega
        · have tn : decide ((n : Int) < (F : Int)) = false := by simp; omega
          have hnn : n = F := by omega
          have HL2 := Lib.hid (show Lies wr w.heap.size wr.heap.size (.slice na F nc) F 1 ((leasts f F F).flatMap intCells) from by
            have := HL.out.lies
            rw [hnn, leasts_len] at this
            exact this.wider (by omega) (Nat.le_refl _))
          have HX2 := Lib.hid (show CellsAt wr w.heap.size 140 [.pointer (some ⟨g, 0, none⟩), .int .i64 p, .slice na F nc] from by have := HX.out; rw [hnn, leasts_len] at this; exact this)
          clear HX HL hnn
          go_wp2_with fail
          go_ret
          exact ⟨w.heap.size, na, nc, rfl, ⟨HX2.out, HL2.out, Nat.le_refl _, HX2.out.lt⟩, hb⟩
section
variable {w : World} {lo hi g s F : Nat} {f : Int → Bool} {p : Int} {na : Option Addr} {nc : Nat}
theorem RSup.cells (h : RSup w lo hi g s F f p na nc) (h1 : 1 ≤ F) {k : Nat} (hk : k < F) : w.cell? ⟨s, 0, none⟩ = some (.pointer (some ⟨g, 0, none⟩)) ∧ w.cell? ⟨s, 1, none⟩ = some (.int .i64 p) ∧ w.cell? ⟨s, 2, none⟩ = some (.slice na F nc) ∧ ∃ b off, na = some ⟨b, off, none⟩ ∧ w.cell? ⟨b, off + k, none⟩ = some (.int .i64 (leastV f F k)) ∧ b < hi := by
  refine ⟨(h.box.cell (j := 0) rfl).1, (h.box.cell (j := 1) rfl).1, (h.box.cell (j := 2) rfl).1, ?_⟩
  obtain ⟨a2, c2, e2, _, _, hc⟩ := h.row
  cases e2
  rcases hc with h0 | ⟨b, off, rfl, hb1, hb2, hc⟩
  · omega
  · exact ⟨b, off, rfl, Lies.int' hc (leasts_at hk), hb2⟩
end
end Go.Proofs.YtdbbdlobahalkaaGreat
namespace Go.Proofs.YtdbbdlobahalkaaGreat
open Go.ChangeShapes Go.WideShapes Go.ChangeAt Go.RowKit
set_option linter.unusedVariables false
attribute [local go_sem ↓] Go.wp_at_zero Go.wp_at_succ

set_option maxRecDepth 100000 in
set_option maxHeartbeats 2000000 in
theorem rLeast_any {w : World} {lo hi lo2 hi2 g s F : Nat} {m : Int} {la : Option Addr} {ln lc : Nat} {l : List Wn} {p : Int} {na : Option Addr} {nc : Nat} (h : RSup w lo hi g s F (isO F m l p) p na nc) (t : RTab w lo2 hi2 g F m la ln lc l) (hhi : hi ≤ w.heap.size) (hhi2 : hi2 ≤ w.heap.size) (n : Int) :
    Calls Tryz.prog 36 #[.pointer (some ⟨s, 0, none⟩), .int .i64 n] w fun e w' => e = .returned (.int .i64 (leastV (isO F m l p) F (heldN n))) ∧ Below w.heap.size w w' := by
  have f1 := t.f1; have f2 := t.f2
  have ag : Again (isO F m l p) F := isO_again F m l p
  have KO := Lib.hid (fun (W : World) (hb : Below w.heap.size w W) => rOffered_any (t.keep hb hhi2) (Nat.le_trans hhi2 hb.size) p)
  have hr : heldN n % F < F := Nat.mod_lt _ f1
  obtain ⟨k0, k1, k2, b, off, rfl, k3, hb0⟩ := h.cells f1 hr
  have hs2 := h.s2
  have k4 := t.c0
  have hg := t.high
  have KS : Hid (∀ W : World, Below w.heap.size w W → Below w.heap.size w W ∧ W.cell? ⟨s, 0, none⟩ = some (.pointer (some ⟨g, 0, none⟩)) ∧ W.cell? ⟨s, 1, none⟩ = some (.int .i64 p) ∧ W.cell? ⟨s, 2, none⟩ = some (.slice (some ⟨b, off, none⟩) F nc) ∧ W.cell? ⟨b, off + heldN n % F, none⟩ = some (.int .i64 (leastV (isO F m l p) F (heldN n % F))) ∧ W.cell? ⟨g, 0, none⟩ = some (.int .i64 F)) := Lib.hid fun W hW =>
    ⟨hW, (hW.cell (p := ⟨s, 0, none⟩) (by show s < _; omega)).trans k0, (hW.cell (p := ⟨s, 1, none⟩) (by show s < _; omega)).trans k1, (hW.cell (p := ⟨s, 2, none⟩) (by show s < _; omega)).trans k2, (hW.cell (p := ⟨b, off + heldN n % F, none⟩) (by show b < _; omega)).trans k3, (hW.cell (p := ⟨g, 0, none⟩) (by show g < _; omega)).trans k4⟩
  have R0 := Lib.hid (Below.refl w.heap.size w)
  have HE := Lib.hid (leastV_split ag f1 (heldN n))
  have b1 : cnt (isO F m l p) 0 F ≤ F := off_le
  have b2 := leastV_bd (f := isO F m l p) (F := F) (heldN n % F)
  have b3 : heldN n / F * cnt (isO F m l p) 0 F ≤ heldN n := Nat.le_trans (Nat.mul_le_mul_left _ b1) (Nat.div_mul_le_self _ _)
  have b4 : heldN n / F ≤ heldN n := Nat.div_le_self _ F
  have e1 : (heldN n : Int) / (F : Int) = ((heldN n / F : Nat) : Int) := (Int.natCast_ediv _ F).symm
  have e2 : (heldN n : Int) % (F : Int) = ((heldN n % F : Nat) : Int) := (Int.natCast_emod _ F).symm
  have hN := heldN_bd n
  have HOF : Hid (offeredV F m l p = (cnt (isO F m l p) 0 F : Int)) := Lib.hid rfl
  have hcut : (n < 0 ∧ heldN n = 0) ∨ (0 ≤ n ∧ n ≤ 1125899906842624 ∧ (heldN n : Int) = n) ∨ (0 ≤ n ∧ 1125899906842624 < n ∧ heldN n = 1125899906842624) := by unfold heldN; omega
  have HC := Lib.hid hcut
  clear h t hhi hhi2 ag k0 k1 k2 k3 k4 hcut
  generalize heldN n = N at *
  generalize leastV (isO F m l p) F (N % F) = a at *
  generalize leastV (isO F m l p) F N = z at *
  generalize cnt (isO F m l p) 0 F = o at *
  generalize N / F = q at *
  generalize N % F = r at *
  have s0 : IntKind.i64.wrap (q : Int) = q := IntWalk.i64_in _ (by omega)
  have s1 : IntKind.i64.wrap ((q : Int) * (o : Int)) = ((q * o : Nat) : Int) := by rw [← Int.natCast_mul]; exact IntWalk.i64_in _ (by omega)
  have s2 : IntKind.i64.wrap (((q * o : Nat) : Int) + (a : Int)) = ((q * o : Nat) : Int) + (a : Int) := IntWalk.i64_in _ (by omega)
  have nz : ((F : Int) == 0) = false := by simp; omega
  have nz1 : ¬ F = 0 := by omega
  have nz2 : ¬ (F : Int) = 0 := by omega
  have nz3 : (F == 0) = false := by simp; omega
  have r0 : (0 : Int) ≤ (r : Int) := by omega
  have r1 : (r : Int) < (F : Int) := by omega
  have e3 : (N : Int).tdiv (F : Int) = (q : Int) := by rw [Int.tdiv_eq_ediv_of_nonneg (by omega)]; exact e1
  have e4 : (N : Int).tmod (F : Int) = (r : Int) := by rw [Int.tmod_eq_emod_of_nonneg (by omega)]; exact e2
  have HV1 : Hid (IntKind.i64.wrap (((q * o : Nat) : Int) + (a : Int)) = (z : Int)) := Lib.hid (by rw [s2, HE.out]; simp)
  have HV2 : Hid (IntKind.i64.wrap ((q : Int) * (o : Int) + (a : Int)) = (z : Int)) := Lib.hid (by rw [← Int.natCast_mul]; exact HV1.out)
  have HV3 : Hid (((q * o : Nat) : Int) + (a : Int) = (z : Int)) := Lib.hid (by rw [HE.out]; simp)
  have HV4 : Hid ((q : Int) * (o : Int) + (a : Int) = (z : Int)) := Lib.hid (by rw [HE.out]; simp)
  go_enter Tryz.func36, Tryz.ntmps36
  go_upto_region 1 with fail
  go_cut [1] from 5 to 8 (fun v wr => v = .int .i64 (N : Int) ∧ wr = w)
  case first =>
    rcases HC.out with ⟨g1, g2⟩ | ⟨g1, g2, g3⟩ | ⟨g1, g2, g3⟩
    all_goals (go_wp2_with fail; go_meet)
    all_goals (case rel => first | exact ⟨by rw [g2]; rfl, rfl⟩ | exact ⟨by rw [g3]; rfl, rfl⟩ | exact ⟨by rw [g3], rfl⟩)
  case rest =>
    obtain ⟨rfl, hwr⟩ := hcut
    have hwr2 := hwr.symm
    subst hwr2
    go_wp2_with fail
    go_region_held3 (fun W => Below w.heap.size w W ∧ W.cell? ⟨s, 0, none⟩ = some (.pointer (some ⟨g, 0, none⟩)) ∧ W.cell? ⟨s, 1, none⟩ = some (.int .i64 p) ∧ W.cell? ⟨s, 2, none⟩ = some (.slice (some ⟨b, off, none⟩) F nc) ∧ W.cell? ⟨b, off + r, none⟩ = some (.int .i64 a) ∧ W.cell? ⟨g, 0, none⟩ = some (.int .i64 F))
      (first | exact KS.out _ R0.out | exact KS.out _ R0.out.drew | exact KS.out _ (by assumption))
      (first
        | (go_at_call 72; refine (KO.out _ R0.out.drew).mono ?_; rintro e w2 ⟨rfl, hb2'⟩; rw [HOF.out]; have hbn : Below w.heap.size w w2 := bel_thenD R0.out.drew (Nat.le_refl _) hb2')
        | fail "no arm")
    all_goals go_wp2_with fail
    all_goals go_ret
    all_goals exact ⟨(by first | exact ret_iD HV1.out | exact ret_iD HV2.out | exact ret_iD HV3.out | exact ret_iD HV4.out), (by repeat first | assumption | refine below_drewD _ ?_)⟩
end Go.Proofs.YtdbbdlobahalkaaGreat
