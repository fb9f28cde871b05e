/- Joined of DemandT, DemandU, DemandV, DemandW, DemandX, DemandY: Where demand rises, in memory: the closure that marks, the rows by periods, what a task and a server add. -/
import Derived.Test.YtdbbdlobahalkaaDemandS
import Derived.Test.YtdbbdlobahalkaaDemandOne
import Derived.Test.YtdbbdlobahalkaaCells
import Derived.Deep.RegionHeld3
import Derived.BigRegion
import Derived.Deep.CutRange
import Derived.Test.YtdbbdlobahalkaaGrow
namespace Go.Proofs.Ytdbbdlobahalkaa
open Go.ChangeShapes Go.WideShapes Go.ChangeAt Go.RowKit
set_option linter.unusedVariables false

theorem Try.infoBoolT : (Try.prog.info? 4).map (fun i => (i.zero, i.size, i.bytes)) = some (some (.bool false), 1, 1) := by kernel_rfl
theorem Try.infoBools : (Try.prog.info? 127).map (fun i => (i.zero, i.size, i.bytes)) = some (some (.slice none 0 0), 1, 24) := by kernel_rfl
/-- wpAnyH_take, the slot written out. -/
theorem wpAnyH_takeT {P : Program} {md : Region.Mode} {ops : Array Oper} {Q : Exit → Act → World → Prop} {S : World → Prop} {i : Nat} {oi : Oper} {d : Option Tmp} {v : Value} {fuel : Nat} {listed : Array Bool} {a : Act} {w : World} (hi : ops[i]? = some oi) (hd : oi.dst = d)
    (hs : Region.noSelect ops = true) (hf : Region.free md ops listed i = true) (hr : (Region.ready md ops listed).contains i = true)
    (hQ : ∀ c a w, Q (.panic c) (a.put d v) w → Q (.panic c) a w) (hy : YieldsIf P ops S oi v a) (hS : S w)
    (h : wpAnyH P md ops Q S fuel (listed.setIfInBounds i true) (a.put d v) w) : wpAnyH P md ops Q S (fuel + 1) listed a w := by
  subst hd
  exact wpAnyH_take hi hs hf hr hQ hy hS h
/-- The marks set so far: those of what begins at i, and comes again each e ticks, below c. -/
def metTo (met : Nat → Bool) (i e c : Nat) : Nat → Bool := fun t => met t || (hitB i e t && decide (t < c))
theorem metTo_start (met : Nat → Bool) (i e : Nat) : metTo met i e i = met := by
  funext t
  unfold metTo hitB
  by_cases h : i ≤ t
  · simp [show ¬ t < i by omega]
  · simp [h]
theorem metTo_end (met : Nat → Bool) {i e c n t : Nat} (hc : n ≤ c) (ht : t < n) : metTo met i e c t = (met t || hitB i e t) := by
  unfold metTo
  simp [show t < c by omega]
theorem metTo_next (met : Nat → Bool) {i e c : Nat} (he : 1 ≤ e) (hi : i ≤ c) (hm : (c - i) % e = 0) : (fun t => if t = c then true else metTo met i e c t) = metTo met i e (c + e) := by
  funext t
  unfold metTo
  by_cases h : t = c
  · subst h
    have : hitB i e t = true := by unfold hitB; simp [hi, hm]
    rw [if_pos rfl, this]
    simp [show t < t + e by omega]
  · rw [if_neg h]
    by_cases h1 : t < c
    · simp [h1, show t < c + e by omega]
    · by_cases h2 : t < c + e
      · have : hitB i e t = false := by
          unfold hitB
          rw [Bool.and_eq_false_iff]
          right
          have e1 : t - i = (c - i) + (t - c) := by omega
          have e2 : (t - i) % e = t - c := by
            rw [e1, Nat.add_mod, hm, Nat.zero_add, Nat.mod_mod, Nat.mod_eq_of_lt (by omega)]
          rw [e2]
          simp; omega
        simp [this]
      · simp [h1, h2]
set_option maxRecDepth 100000 in
set_option maxHeartbeats 2000000 in
theorem mark_any {w : World} {M B n : Nat} {met : Nat → Bool} (hM : w.heap[M]? = some (.cells #[.slice (some ⟨B, 0, none⟩) n n] 127 (0, 0))) (hB : CellsAt w B 4 (bools met n)) (hMB : M ≠ B) (hn : n ≤ 65537) (i e : Nat) (hi : i ≤ 1002) (he : 1 ≤ e) (he2 : e ≤ 65536) :
    Calls Try.prog 90 #[.int .i64 i, .int .i64 e, .pointer (some ⟨M, 0, none⟩)] w fun x w' => x = .returned (.tuple #[]) ∧ CellsAt w' B 4 (bools (fun t => met t || hitB i e t) n) ∧ But B w w' := by
  have HM := Lib.hid hM
  have HB := Lib.hid hB
  clear hM hB
  go_enter Try.func90, Try.ntmps90
  go_wp2_with fail
  go_loopw [5] (fun s wr => ∃ c : Nat, s = .int .i64 c ∧ c ≤ n + 66538 ∧ i ≤ c ∧ Hid ((c - i) % e = 0) ∧ Hid (CellsAt wr B 4 (bools (metTo met i e c) n)) ∧ But B w wr) (fun s _ => n + 70000 - (intOf s).toNat)
  case atStart => exact ⟨i, rfl, by omega, Nat.le_refl _, Lib.hid (by rw [Nat.sub_self, Nat.zero_mod]), by rw [metTo_start]; exact HB, But.refl _ _⟩
  case round =>
    clear HB
    obtain ⟨c, rfl, hc, hic, HC, HB, hb⟩ := hrel
    have HX := Lib.hid (hb.at HM.out hMB)
    have y0 : wr.cell? ⟨M, 0, none⟩ = some (.slice (some ⟨B, 0, none⟩) n n) := cell_in HX.out rfl
    by_cases hlt : c < n
    · have tk : decide ((c : Int) < (n : Int)) = true := by simpa using hlt
      obtain ⟨y1, y2⟩ := HB.out.cell (bools_at (f := metTo met i e c) hlt)
      have HFIN := Lib.hid (show CellsAt (wr.setCell ⟨B, c, none⟩ (.bool true)) B 4 (bools (metTo met i e (c + e)) n) ∧ But B w (wr.setCell ⟨B, c, none⟩ (.bool true)) ∧ (c + e - i) % e = 0 from by
        have h1 := HB.out.set c (.bool true)
        rw [bools_set, metTo_next met he hic HC.out] at h1
        refine ⟨h1, hb.set c _, ?_⟩
        rw [show c + e - i = (c - i) + e by omega, Nat.add_mod_right, HC.out])
      have l0 : (0 : Int) ≤ (c : Int) := by omega
      have l1 : (c : Int) < (n : Int) := by omega
      go_wp2_with fail
      go_roundw
      case rel => exact ⟨c + e, by go_num, by omega, by omega, Lib.hid HFIN.out.2.2, Lib.hid HFIN.out.1, HFIN.out.2.1⟩
      case measure => simp [intOf]; omega
    · have tk : decide ((c : Int) < (n : Int)) = false := by simp; omega
      have HF := Lib.hid (show CellsAt wr B 4 (bools (fun t => met t || hitB i e t) n) from by
        have h1 := HB.out
        rwa [bools_eq (fun t ht => metTo_end met (show n ≤ c by omega) ht)] at h1)
      go_wp2_with fail
      go_end0
      exact ⟨rfl, HF.out, hb⟩
/-- The rows by periods, as they stand in memory: none, or a block of their own. -/
def rowV (rows : Nat → Option Nat) (p : Nat) : Value :=
  match rows p with
  | none => .slice none 0 0
  | some B => .slice (some ⟨B, 0, none⟩) (p + 2) (p + 2)
def rowsL (rows : Nat → Option Nat) : List Value := (List.range 1001).map (rowV rows)
theorem rowsL_at {rows : Nat → Option Nat} {p : Nat} (h : p < 1001) : (rowsL rows)[p]? = some (rowV rows p) := by unfold rowsL; simp [h]
theorem rowsL_len (rows : Nat → Option Nat) : (rowsL rows).length = 1001 := by simp [rowsL]
theorem rowsL_set (rows : Nat → Option Nat) {P : Nat} (hP : P < 1001) (B : Nat) : (rowsL rows).set P (.slice (some ⟨B, 0, none⟩) (P + 2) (P + 2)) = rowsL (fun q => if q = P then some B else rows q) := by
  apply List.ext_getElem?
  intro i
  rw [List.getElem?_set, rowsL_len]
  by_cases hi : i < 1001
  · rw [rowsL_at (rows := rows) hi, rowsL_at (rows := fun q => if q = P then some B else rows q) hi]
    by_cases hj : P = i
    · subst hj; rw [if_pos rfl, if_pos hi]; unfold rowV; simp
    · rw [if_neg hj]; unfold rowV; simp [show ¬ i = P from fun e => hj e.symm]
  · rw [if_neg (by omega), List.getElem?_eq_none (by rw [rowsL_len]; omega), List.getElem?_eq_none (by rw [rowsL_len]; omega)]
theorem rowsL_none : rowsL (fun _ => none) = List.replicate 1001 (Value.slice none 0 0) := by
  unfold rowsL
  rw [show rowV (fun _ => none) = fun _ => Value.slice none 0 0 from funext fun p => rfl, List.map_const', List.length_range]
/-- Where demand rises, in memory. -/
structure Rises (w : World) (lo G O A : Nat) (once : Nat → Bool) (again : Nat → Nat → Bool) (rows : Nat → Option Nat) : Prop where
  box : w.heap[G]? = some (.cells #[.slice (some ⟨O, 0, none⟩) 1001 1001, .slice (some ⟨A, 0, none⟩) 1001 1001] 148 (0, 0))
  o : CellsAt w O 4 (bools once 1001)
  a : CellsAt w A 127 (rowsL rows)
  r : ∀ p B, p < 1001 → rows p = some B → lo ≤ B ∧ B ≠ G ∧ B ≠ O ∧ B ≠ A ∧ CellsAt w B 4 (bools (again p) (p + 2))
  n : ∀ p, p < 1001 → rows p = none → ∀ i, again p i = false
  apart : ∀ p q B, p < 1001 → q < 1001 → rows p = some B → rows q = some B → p = q
  loG : lo ≤ G
  loO : lo ≤ O
  loA : lo ≤ A
  GO : G ≠ O
  GA : G ≠ A
  OA : O ≠ A
section
variable {w w' : World} {lo G O A : Nat} {once : Nat → Bool} {again : Nat → Nat → Bool} {rows : Nat → Option Nat}
theorem Rises.later (h : Rises w lo G O A once again rows) (hb : Below w.heap.size w w') : Rises w' lo G O A once again rows :=
  { h with
    box := (hb.block G (lt_of_block h.box)).trans h.box
    o := h.o.later hb
    a := h.a.later hb
    r := fun p B hp hB => let ⟨h1, h2, h3, h4, h5⟩ := h.r p B hp hB; ⟨h1, h2, h3, h4, h5.later hb⟩ }
theorem Rises.but (h : Rises w lo G O A once again rows) {X : Nat} (hX : X < lo) (hb : But X w w') : Rises w' lo G O A once again rows :=
  { h with
    box := hb.at h.box (by have := h.loG; omega)
    o := h.o.but hb (by have := h.loO; omega)
    a := h.a.but hb (by have := h.loA; omega)
    r := fun p B hp hB => let ⟨h1, h2, h3, h4, h5⟩ := h.r p B hp hB; ⟨h1, h2, h3, h4, h5.but hb (by omega)⟩ }
theorem CellsAt.other {w : World} {G X : Nat} {T : TypeId} {vs : List Value} (h : CellsAt w G T vs) (j : Nat) (u : Value) (hne : G ≠ X) : CellsAt (w.setCell ⟨X, j, none⟩ u) G T vs :=
  (Below.heap_setCell w ⟨X, j, none⟩ u G hne).trans h
theorem Rises.mark (h : Rises w lo G O A once again rows) {P B j : Nat} (hP : P < 1001) (hB : rows P = some B) :
    Rises (w.setCell ⟨B, j, none⟩ (.bool true)) lo G O A once (fun q i => if q = P ∧ i = j then true else again q i) rows := by
  obtain ⟨h1, h2, h3, h4, h5⟩ := h.r P B hP hB
  refine { h with box := (Below.heap_setCell w ⟨B, j, none⟩ _ G (fun e => h2 e.symm)).trans h.box, o := h.o.other j _ (fun e => h3 e.symm), a := h.a.other j _ (fun e => h4 e.symm), r := fun p B' hp hB' => ?_, n := fun p hp hn i => ?_ }
  · obtain ⟨k1, k2, k3, k4, k5⟩ := h.r p B' hp hB'
    refine ⟨k1, k2, k3, k4, ?_⟩
    by_cases e : p = P
    · subst e
      obtain rfl : B' = B := by rw [hB] at hB'; cases hB'; rfl
      have := k5.set j (.bool true)
      rw [bools_set] at this
      simpa using this
    · have hne : B' ≠ B := fun e2 => e (h.apart p P B hp hP (by rw [← e2]; exact hB') hB)
      have := k5.other j (.bool true) hne
      simpa [e] using this
  · by_cases e : p = P
    · subst e; rw [hB] at hn; cases hn
    · simp [e, h.n p hp hn i]
theorem Rises.markOnce (h : Rises w lo G O A once again rows) (j : Nat) :
    Rises (w.setCell ⟨O, j, none⟩ (.bool true)) lo G O A (fun i => if i = j then true else once i) again rows := by
  refine { h with box := (Below.heap_setCell w ⟨O, j, none⟩ _ G h.GO).trans h.box, o := ?_, a := h.a.other j _ (fun e => h.OA e.symm), r := fun p B' hp hB' => ?_ }
  · have := h.o.set j (.bool true)
    rw [bools_set] at this
    exact this
  · obtain ⟨k1, k2, k3, k4, k5⟩ := h.r p B' hp hB'
    exact ⟨k1, k2, k3, k4, k5.other j _ k3⟩
theorem Rises.newRow (h : Rises w lo G O A once again rows) {P B : Nat} (hP : P < 1001) (hn : rows P = none) (hlo : lo ≤ w.heap.size) (hb : Below w.heap.size w w') (hBw : B = w.heap.size) (hB : CellsAt w' B 4 (bools (fun _ => false) (P + 2))) :
    Rises (w'.setCell ⟨A, P, none⟩ (.slice (some ⟨B, 0, none⟩) (P + 2) (P + 2))) lo G O A once again (fun q => if q = P then some B else rows q) := by
  have h2 := h.later hb
  have lG := lt_of_block h.box
  have lO := h.o.lt
  have lA := h.a.lt
  refine { h2 with box := (Below.heap_setCell w' ⟨A, P, none⟩ _ G h.GA).trans h2.box, o := h2.o.other P _ h.OA, a := ?_, r := fun p B' hp hB' => ?_, n := fun p hp hn' i => ?_, apart := fun p q B' hp hq e1 e2 => ?_ }
  · have := h2.a.set P (.slice (some ⟨B, 0, none⟩) (P + 2) (P + 2))
    rwa [rowsL_set rows hP] at this
  · by_cases e : p = P
    · subst e
      simp at hB'
      subst hB'
      have h0 : ∀ i, again p i = false := h.n p hp hn
      refine ⟨by omega, by omega, by omega, by omega, ?_⟩
      have := hB.other p (.slice (some ⟨B, 0, none⟩) (p + 2) (p + 2)) (X := A) (by omega)
      rwa [bools_eq (g := again p) (fun i _ => (h0 i).symm)] at this
    · simp [e] at hB'
      obtain ⟨k1, k2, k3, k4, k5⟩ := h2.r p B' hp hB'
      exact ⟨k1, k2, k3, k4, k5.other P _ k4⟩
  · by_cases e : p = P
    · subst e; simp at hn'
    · simp [e] at hn'
      exact h.n p hp hn' i
  · have lt : ∀ p B', p < 1001 → rows p = some B' → B' < w.heap.size := fun p B' hp hB' => (h.r p B' hp hB').2.2.2.2.lt
    by_cases c1 : p = P <;> by_cases c2 : q = P
    · omega
    · simp [c1] at e1; simp [c2] at e2
      have := lt q B' hq e2
      omega
    · simp [c1] at e1; simp [c2] at e2
      have := lt p B' hp e1
      omega
    · simp [c1] at e1; simp [c2] at e2
      exact h.apart p q B' hp hq e1 e2
end
end Go.Proofs.Ytdbbdlobahalkaa
namespace Go.Proofs.Ytdbbdlobahalkaa
open Go.ChangeShapes Go.WideShapes Go.ChangeAt Go.RowKit
set_option linter.unusedVariables false

/-- The places from a to b of period P, too; those below c so far. -/
def addA (again : Nat → Nat → Bool) (P : Nat) (a b : Int) : Nat → Nat → Bool := fun q i => again q i || (decide (q = P) && (decide (a ≤ (i : Int)) && decide ((i : Int) ≤ b)))
def addTo (again : Nat → Nat → Bool) (P : Nat) (a c : Int) : Nat → Nat → Bool := fun q i => again q i || (decide (q = P) && (decide (a ≤ (i : Int)) && decide ((i : Int) < c)))
theorem addTo_start (again : Nat → Nat → Bool) (P : Nat) (a : Int) : addTo again P a a = again := by
  funext q i
  unfold addTo
  by_cases h : a ≤ (i : Int)
  · simp [show ¬ (i : Int) < a by omega]
  · simp [h]
theorem addTo_end (again : Nat → Nat → Bool) (P : Nat) {a b c : Int} (h1 : c ≤ b + 1 ∨ c = a) (h2 : b < c) : addTo again P a c = addA again P a b := by
  funext q i
  unfold addTo addA
  congr 1
  congr 1
  rw [Bool.eq_iff_iff]
  simp
  omega
theorem addTo_next (again : Nat → Nat → Bool) (P : Nat) {a : Int} {j : Nat} (h : a ≤ (j : Int)) : (fun q i => if q = P ∧ i = j then true else addTo again P a j q i) = addTo again P a ((j : Int) + 1) := by
  funext q i
  unfold addTo
  by_cases hq : q = P
  · by_cases hi : i = j
    · subst hi; simp [hq, h]; omega
    · have : decide ((i : Int) < (j : Int)) = decide ((i : Int) < (j : Int) + 1) := by rw [Bool.eq_iff_iff]; simp; omega
      simp only [hq, hi, and_false, if_false, this]
  · simp [hq]
set_option maxRecDepth 100000 in
set_option maxHeartbeats 4000000 in
theorem add_rises {w : World} {lo G O A : Nat} {once : Nat → Bool} {again : Nat → Nat → Bool} {rows : Nat → Option Nat} (h : Rises w lo G O A once again rows) (hlo : lo ≤ w.heap.size) (P : Nat) (a b : Int) (hP : 1 ≤ P) (hP2 : P ≤ 1000) (ha : 0 ≤ a) (ha2 : a ≤ P + 2) (hb : b ≤ P + 1) :
    Calls Try.prog 103 #[.pointer (some ⟨G, 0, none⟩), .int .i64 P, .int .i64 a, .int .i64 b] w fun e w' => e = .returned (.tuple #[]) ∧ (∃ rows', Rises w' lo G O A once (addA again P a b) rows') ∧ Below lo w w' := by
  obtain ⟨i0, hi0, hz0, hz1, hz2⟩ := info_parts Try.infoBoolT
  obtain ⟨w2, hrun, hown, hgrow⟩ := run_make_full (P := Try.prog) (w := w.drew) w.drew.heap.size 127 4 i0 _ 1 Try.underlying127 hi0 hz0 hz1 .i64 .i64 (P + 2) (by rw [hz2]; omega) (by simp [maxLen]; omega) (Nat.le_refl _)
  have HH := Lib.hid h
  have y0 : w.cell? ⟨G, 1, none⟩ = some (.slice (some ⟨A, 0, none⟩) 1001 1001) := cell_in h.box rfl
  have y1 := (h.a.cell (rowsL_at (p := P) (by omega))).1
  have hs : w.drew.heap.size = w.heap.size := rfl
  have l3 : (0 : Int) ≤ (P : Int) := by omega
  have l4 : (P : Int) < 1001 := by omega
  have s1 : IntKind.i64.wrap ((P : Int) + 2) = ((P + 2 : Nat) : Int) := by rw [IntWalk.i64_in _ (by omega)]; omega
  cases hr : rows P with
  | none =>
    have hbl : Below w.heap.size w w2 := (Below.refl w.heap.size w).drew.trans ⟨hgrow.os, hgrow.tape, hgrow.output, hgrow.size, fun k hk => hgrow.block k (by rw [hs]; exact hk) (by simp)⟩
    have hB : CellsAt w2 w.heap.size 4 (bools (fun _ => false) (P + 2)) := by
      have := CellsAt.of_own hown (by rw [Array.length_toList, size_madeCells])
      rwa [made_cells _ rfl, Nat.mul_one, bools_none] at this
    obtain ⟨BB, hBB⟩ : ∃ BB, BB = w.heap.size := ⟨_, rfl⟩
    obtain ⟨rs, hrows, hrP⟩ : ∃ rs, Rises (w2.setCell ⟨A, P, none⟩ (.slice (some ⟨BB, 0, none⟩) (P + 2) (P + 2))) lo G O A once again rs ∧ rs P = some BB := ⟨_, h.newRow (show P < 1001 by omega) hr hlo hbl hBB (by rw [hBB]; exact hB), by simp⟩
    have HR := Lib.hid hrows
    have HBL := Lib.hid ((hbl.mono hlo).setCell (p := ⟨A, P, none⟩) h.loA (.slice (some ⟨BB, 0, none⟩) (P + 2) (P + 2)))
    have HROW := Lib.hid hrP
    have HG2 : Hid (w2.cell? ⟨G, 1, none⟩ = some (.slice (some ⟨A, 0, none⟩) 1001 1001)) := Lib.hid (cell_in (h.later hbl).box rfl)
    have HG3 : Hid ((w2.setCell ⟨A, P, none⟩ (.slice (some ⟨BB, 0, none⟩) (P + 2) (P + 2))).cell? ⟨G, 1, none⟩ = some (.slice (some ⟨A, 0, none⟩) 1001 1001)) := Lib.hid (cell_in hrows.box rfl)
    have y2 := ((h.later hbl).a.cell (rowsL_at (p := P) (by omega))).1
    have y3 := ((h.later hbl).a.cell (rowsL_at (p := P) (by omega))).2
    rw [hs, ← hBB, show ((P + 2 : Nat) : Int) = (P : Int) + 2 by omega] at hrun
    unfold rowV at y1 y2
    rw [hr] at y1 y2
    clear h hrows hrP hB hown hgrow hbl hi0 hz0 hz1 hz2 hs hBB hr
    have eq1 : ∀ W : World, (binOp .eql 127 (.slice none 0 0) (.slice none 0 0)).run Try.prog W = .ok (.bool true) W := fun W => by rfl
    go_enter Try.func103, Try.ntmps103
    go_wp2_with fail
    refine wp_region_held_drew (S := fun W => W.cell? ⟨G, 1, none⟩ = some (.slice (some ⟨A, 0, none⟩) 1001 1001)) (by kernel_rfl) ?_ (fun hHeld => ?_)
    · exact y0
    refine wpAnyH_takeT (i := 0) (d := some 17) (v := ?_) rfl rfl (by kernel_rfl) (by kernel_rfl) (by kernel_rfl) (fun _ _ _ h => h) (Or.inl ⟨by rfl, ?_⟩) (by assumption) ?_
    rotate_left
    · intro w hSw
      (try dsimp only at hSw)
      go_simp
      try (with_reducible rfl)
    simp only [Act.put, List.setIfInBounds_toArray, List.set_cons_zero, List.set_cons_succ]
    refine wpAnyH_takeT (i := 1) (d := some 18) (v := ?_) rfl rfl (by kernel_rfl) (by kernel_rfl) (by kernel_rfl) (fun _ _ _ h => h) (Or.inl ⟨by rfl, ?_⟩) (by assumption) ?_
    rotate_left
    · intro w hSw
      (try dsimp only at hSw)
      go_simp
      try (with_reducible rfl)
    simp only [Act.put, List.setIfInBounds_toArray, List.set_cons_zero, List.set_cons_succ]
    refine wpAnyH_takeT (i := 2) (d := some 19) (v := ?_) rfl rfl (by kernel_rfl) (by kernel_rfl) (by kernel_rfl) (fun _ _ _ h => h) (Or.inl ⟨by rfl, ?_⟩) (by assumption) ?_
    rotate_left
    · intro w hSw
      (try dsimp only at hSw)
      go_simp
      try (with_reducible rfl)
    simp only [Act.put, List.setIfInBounds_toArray, List.set_cons_zero, List.set_cons_succ]
    refine wpAnyH_takeT (i := 3) (d := some 20) (v := ?_) rfl rfl (by kernel_rfl) (by kernel_rfl) (by kernel_rfl) (fun _ _ _ h => h) (Or.inl ⟨by rfl, ?_⟩) (by assumption) ?_
    rotate_left
    · intro w hSw
      (try dsimp only at hSw)
      go_simp
      try (with_reducible rfl)
    simp only [Act.put, List.setIfInBounds_toArray, List.set_cons_zero, List.set_cons_succ]
    refine wpAnyH_takeT (i := 4) (d := some 21) (v := ?_) rfl rfl (by kernel_rfl) (by kernel_rfl) (by kernel_rfl) (fun _ _ _ h => h) (Or.inl ⟨by rfl, ?_⟩) (by assumption) ?_
    rotate_left
    · intro w hSw
      (try dsimp only at hSw)
      go_simp
      try (with_reducible rfl)
    simp only [Act.put, List.setIfInBounds_toArray, List.set_cons_zero, List.set_cons_succ]
    refine wpAnyH_takeT (i := 5) (d := some 22) (v := ?_) rfl rfl (by kernel_rfl) (by kernel_rfl) (by kernel_rfl) (fun _ _ _ h => h) (Or.inl ⟨by rfl, ?_⟩) (by assumption) ?_
    rotate_left
    · intro w hSw
      (try dsimp only at hSw)
      go_simp
      try (with_reducible rfl)
    simp only [Act.put, List.setIfInBounds_toArray, List.set_cons_zero, List.set_cons_succ]
    refine wpAnyH_takeT (i := 6) (d := some 23) (v := ?_) rfl rfl (by kernel_rfl) (by kernel_rfl) (by kernel_rfl) (fun _ _ _ h => h) (Or.inl ⟨by rfl, ?_⟩) (by assumption) ?_
    rotate_left
    · intro w hSw
      (try dsimp only at hSw)
      go_simp
      try (with_reducible rfl)
    simp only [Act.put, List.setIfInBounds_toArray, List.set_cons_zero, List.set_cons_succ]
    refine wpAnyH_ready (rs := [7]) (by kernel_rfl) (by simp) ?_
    refine AllReadyH.cons rfl (fun K hK => ?_) AllReadyH.nil
    go_simp
    refine hK.out _ _ ?_ (fun hHeld => ?_)
    · exact HG2.out
    clear hK K
    try simp only [Act.put, List.setIfInBounds_toArray, List.set_cons_zero, List.set_cons_succ]
    refine wpAnyH_takeT (i := 8) (d := some 25) (v := ?_) rfl rfl (by kernel_rfl) (by kernel_rfl) (by kernel_rfl) (fun _ _ _ h => h) (Or.inl ⟨by rfl, ?_⟩) (by assumption) ?_
    rotate_left
    · intro w hSw
      (try dsimp only at hSw)
      go_simp
      try (with_reducible rfl)
    simp only [Act.put, List.setIfInBounds_toArray, List.set_cons_zero, List.set_cons_succ]
    refine wpAnyH_ready (rs := [9]) (by kernel_rfl) (by simp) ?_
    refine AllReadyH.cons rfl (fun K hK => ?_) AllReadyH.nil
    go_simp
    refine hK.out _ _ ?_ (fun hHeld => ?_)
    · exact HG3.out
    clear hK K
    try simp only [Act.put, List.setIfInBounds_toArray, List.set_cons_zero, List.set_cons_succ]
    refine wpAnyH_done (by kernel_rfl) ?_ _
    clear y0 y1 y2 y3 hrun s1 eq1
    go_wp2_with fail
    go_loopw [8] (fun s wr => ∃ c : Int, s = .int .i64 c ∧ a ≤ c ∧ c ≤ P + 2 ∧ (c ≤ b + 1 ∨ c = a) ∧ Hid (Rises wr lo G O A once (addTo again P a c) rs) ∧ Below lo w wr) (fun s _ => (P + 3 - intOf s).toNat)
    case atStart => exact ⟨a, rfl, by omega, by omega, .inr rfl, by rw [addTo_start]; exact HR, HBL.out⟩
    case round =>
      clear HR HBL
      obtain ⟨c, rfl, hc0, hc1, hc2, HR, hb⟩ := hrel
      have y0 : wr.cell? ⟨G, 1, none⟩ = some (.slice (some ⟨A, 0, none⟩) 1001 1001) := cell_in HR.out.box rfl
      have y1 : wr.cell? ⟨A, P, none⟩ = some (.slice (some ⟨BB, 0, none⟩) (P + 2) (P + 2)) := by
        have := (HR.out.a.cell (rowsL_at (p := P) (by omega))).1
        rw [this]
        unfold rowV
        rw [HROW.out]
      by_cases hlt : c ≤ b
      · have tk : decide (c ≤ b) = true := by simpa using hlt
        obtain ⟨j, rfl⟩ := Int.eq_ofNat_of_zero_le (show 0 ≤ c by omega)
        obtain ⟨_, _, _, _, h5⟩ := HR.out.r P BB (by omega) HROW.out
        obtain ⟨y2, y3⟩ := h5.cell (bools_at (f := addTo again P a j P) (show j < P + 2 by omega))
        have HFIN := Lib.hid (show Rises (wr.setCell ⟨BB, j, none⟩ (.bool true)) lo G O A once (addTo again P a ((j : Int) + 1)) rs ∧ Below lo w (wr.setCell ⟨BB, j, none⟩ (.bool true)) from by
          have h1 := HR.out.mark (j := j) (show P < 1001 by omega) HROW.out
          rw [addTo_next again P hc0] at h1
          exact ⟨h1, hb.setCell (p := ⟨BB, j, none⟩) (HR.out.r P BB (by omega) HROW.out).1 _⟩)
        clear h5
        have l0 : (0 : Int) ≤ (j : Int) := by omega
        have l1 : (j : Int) < ((P + 2 : Nat) : Int) := by omega
        have l2 : (j : Int) < (P : Int) + 2 := by omega
        have l3 : (0 : Int) ≤ (P : Int) := by omega
        have l4 : (P : Int) < 1001 := by omega
        go_wp2_with fail
        go_roundw
        case rel => exact ⟨(j : Int) + 1, rfl, by omega, by omega, by omega, Lib.hid HFIN.out.1, HFIN.out.2⟩
        case measure => simp [intOf]; omega
      · have tk : decide (c ≤ b) = false := by simp; omega
        have HF := Lib.hid (show Rises wr lo G O A once (addA again P a b) rs from by
          have h1 := HR.out
          rwa [addTo_end again P hc2 (by omega)] at h1)
        go_wp2_with fail
        go_end0
        exact ⟨rfl, ⟨_, HF.out⟩, hb⟩
  | some BB =>
    have HR := HH
    have HBL := Lib.hid (Below.refl lo w)
    have HROW := Lib.hid hr
    unfold rowV at y1
    rw [hr] at y1
    clear h hrun hown hgrow hi0 hz0 hz1 hz2 hs hr
    have eq1 : ∀ W : World, (binOp .eql 127 (.slice (some ⟨BB, 0, none⟩) (P + 2) (P + 2)) (.slice none 0 0)).run Try.prog W = .ok (.bool false) W := fun W => by rfl
    go_enter Try.func103, Try.ntmps103
    go_wp2_with fail
    clear y0 y1 s1 eq1
    go_loopw [8] (fun s wr => ∃ c : Int, s = .int .i64 c ∧ a ≤ c ∧ c ≤ P + 2 ∧ (c ≤ b + 1 ∨ c = a) ∧ Hid (Rises wr lo G O A once (addTo again P a c) rows) ∧ Below lo w wr) (fun s _ => (P + 3 - intOf s).toNat)
    case atStart => exact ⟨a, rfl, by omega, by omega, .inr rfl, by rw [addTo_start]; exact HR, HBL.out⟩
    case round =>
      clear HR HBL
      obtain ⟨c, rfl, hc0, hc1, hc2, HR, hb⟩ := hrel
      have y0 : wr.cell? ⟨G, 1, none⟩ = some (.slice (some ⟨A, 0, none⟩) 1001 1001) := cell_in HR.out.box rfl
      have y1 : wr.cell? ⟨A, P, none⟩ = some (.slice (some ⟨BB, 0, none⟩) (P + 2) (P + 2)) := by
        have := (HR.out.a.cell (rowsL_at (p := P) (by omega))).1
        rw [this]
        unfold rowV
        rw [HROW.out]
      by_cases hlt : c ≤ b
      · have tk : decide (c ≤ b) = true := by simpa using hlt
        obtain ⟨j, rfl⟩ := Int.eq_ofNat_of_zero_le (show 0 ≤ c by omega)
        obtain ⟨_, _, _, _, h5⟩ := HR.out.r P BB (by omega) HROW.out
        obtain ⟨y2, y3⟩ := h5.cell (bools_at (f := addTo again P a j P) (show j < P + 2 by omega))
        have HFIN := Lib.hid (show Rises (wr.setCell ⟨BB, j, none⟩ (.bool true)) lo G O A once (addTo again P a ((j : Int) + 1)) rows ∧ Below lo w (wr.setCell ⟨BB, j, none⟩ (.bool true)) from by
          have h1 := HR.out.mark (j := j) (show P < 1001 by omega) HROW.out
          rw [addTo_next again P hc0] at h1
          exact ⟨h1, hb.setCell (p := ⟨BB, j, none⟩) (HR.out.r P BB (by omega) HROW.out).1 _⟩)
        clear h5
        have l0 : (0 : Int) ≤ (j : Int) := by omega
        have l1 : (j : Int) < ((P + 2 : Nat) : Int) := by omega
        have l2 : (j : Int) < (P : Int) + 2 := by omega
        have l3 : (0 : Int) ≤ (P : Int) := by omega
        have l4 : (P : Int) < 1001 := by omega
        go_wp2_with fail
        go_roundw
        case rel => exact ⟨(j : Int) + 1, rfl, by omega, by omega, by omega, Lib.hid HFIN.out.1, HFIN.out.2⟩
        case measure => simp [intOf]; omega
      · have tk : decide (c ≤ b) = false := by simp; omega
        have HF := Lib.hid (show Rises wr lo G O A once (addA again P a b) rows from by
          have h1 := HR.out
          rwa [addTo_end again P hc2 (by omega)] at h1)
        go_wp2_with fail
        go_end0
        exact ⟨rfl, ⟨_, HF.out⟩, hb⟩
end Go.Proofs.Ytdbbdlobahalkaa
namespace Go.Proofs.Ytdbbdlobahalkaa
open Go.ChangeShapes Go.WideShapes Go.ChangeAt Go.RowKit
set_option linter.unusedVariables false

theorem add_task (again : Nat → Nat → Bool) {k : Tk} {high : Bool} (hc : countsB k high = true) {P : Nat} (hP : k.t = P) : addA again P (fromT k high) (toT k high) = fun q i => again q i || mTk high k q i := by
  funext q i
  unfold addA mTk
  rw [hc, hP]
  congr 1
  rw [Bool.eq_iff_iff]
  simp
  omega
theorem add_server (again : Nat → Nat → Bool) {s : Sv} (hc : okSv s = true) {P : Nat} (hP : s.t = P) : addA again P (firstS s) (firstS s) = fun q i => again q i || mSv false s q i := by
  funext q i
  unfold addA mSv
  rw [hc, hP]
  congr 1
  rw [Bool.eq_iff_iff]
  simp
  omega
set_option maxRecDepth 100000 in
set_option maxHeartbeats 2000000 in
theorem addTask_any {w : World} {lo G O A : Nat} {once : Nat → Bool} {again : Nat → Nat → Bool} {rows : Nat → Option Nat} (h : Rises w lo G O A once again rows) (hlo : lo ≤ w.heap.size) (b : Bool) (t d v lo' top : Int) (high : Bool) (hc : countsB ⟨b, t, d, v, lo', top⟩ high = true) :
    Calls Try.prog 98 #[.pointer (some ⟨G, 0, none⟩), .agg #[.bool b, .int .i64 t, .int .i64 d, .int .i64 v, .int .i64 lo', .int .i64 top], .bool high] w fun e w' => e = .returned (.tuple #[]) ∧ (∃ rows', Rises w' lo G O A once (fun q i => again q i || mTk high ⟨b, t, d, v, lo', top⟩ q i) rows') ∧ Below lo w w' := by
  have hok : okTk ⟨b, t, d, v, lo', top⟩ = true := by unfold countsB at hc; simp at hc; exact hc.1
  obtain ⟨a1, a2, a3, a4, a5, a6, a7, a8⟩ := okTk_t hok
  simp only at a1 a2 a3 a4 a5 a6 a7
  obtain ⟨P, rfl⟩ := Int.eq_ofNat_of_zero_le (show 0 ≤ t by omega)
  have hA := add_task again hc rfl
  rw [← hA]
  have hP : 1 ≤ P := by omega
  have hP2 : P ≤ 1000 := by omega
  have HR0 := Lib.hid (h.later (below1 w (.cells #[.bool b, .int .i64 P, .int .i64 d, .int .i64 v, .int .i64 lo', .int .i64 top] 65)))
  have HLO : Hid (lo ≤ (w.alloc (.cells #[.bool b, .int .i64 P, .int .i64 d, .int .i64 v, .int .i64 lo', .int .i64 top] 65)).heap.size) := Lib.hid (by simp; omega)
  have B1 := Lib.hid ((below1 w (.cells #[.bool b, .int .i64 P, .int .i64 d, .int .i64 v, .int .i64 lo', .int .i64 top] 65)).mono hlo)
  clear h hA hok a8
  cases high with
  | false =>
    have HF : Hid (fromT ⟨b, P, d, v, lo', top⟩ false = v ∧ toT ⟨b, P, d, v, lo', top⟩ false = v) := Lib.hid ⟨rfl, rfl⟩
    clear hc
    go_enter Try.func98, Try.ntmps98
    go_wp2_with (first | (go_at_call 103; refine (add_rises HR0.out HLO.out P _ _ hP hP2 (by omega) (by omega) (by omega)).mono ?_; rintro e w1 ⟨rfl, ⟨rows2, hr1⟩, hb1⟩))
    refine bodyPost_ret (results_none rfl _ _ _) rfl ?_
    rw [HF.out.1, HF.out.2]
    exact ⟨rfl, ⟨_, hr1⟩, B1.out.trans hb1⟩
  | true =>
    by_cases htop : top = lo'
    · have HF : Hid (fromT ⟨b, P, d, v, lo', top⟩ true = d - v + 1 ∧ toT ⟨b, P, d, v, lo', top⟩ true = d - v + lo') := Lib.hid ⟨by unfold fromT; simp [htop], rfl⟩
      have t1 : (top == lo') = true := by simpa using htop
      clear hc htop
      go_enter Try.func98, Try.ntmps98
      go_wp2_with (first | (go_at_call 103; refine (add_rises HR0.out HLO.out P _ _ hP hP2 (by omega) (by omega) (by omega)).mono ?_; rintro e w1 ⟨rfl, ⟨rows2, hr1⟩, hb1⟩))
      go_end0
      rw [HF.out.1, HF.out.2]
      exact ⟨rfl, ⟨_, hr1⟩, B1.out.trans hb1⟩
    · have HF : Hid (fromT ⟨b, P, d, v, lo', top⟩ true = d - v ∧ toT ⟨b, P, d, v, lo', top⟩ true = d - v + lo') := Lib.hid ⟨by unfold fromT; simp [htop], rfl⟩
      have t1 : (top == lo') = false := by simpa using htop
      clear hc
      go_enter Try.func98, Try.ntmps98
      go_wp2_with (first | (go_at_call 103; refine (add_rises HR0.out HLO.out P _ _ hP hP2 (by omega) (by omega) (by omega)).mono ?_; rintro e w1 ⟨rfl, ⟨rows2, hr1⟩, hb1⟩))
      go_end0
      rw [HF.out.1, HF.out.2]
      exact ⟨rfl, ⟨_, hr1⟩, B1.out.trans hb1⟩
set_option maxRecDepth 100000 in
set_option maxHeartbeats 2000000 in
theorem addServer_any {w : World} {lo G O A : Nat} {once : Nat → Bool} {again : Nat → Nat → Bool} {rows : Nat → Option Nat} (h : Rises w lo G O A once again rows) (hlo : lo ≤ w.heap.size) (re : Bool) (c t : Int) (hc : okSv ⟨re, c, t⟩ = true) :
    Calls Try.prog 99 #[.pointer (some ⟨G, 0, none⟩), .agg #[.bool re, .int .i64 c, .int .i64 t]] w fun e w' => e = .returned (.tuple #[]) ∧ (∃ rows', Rises w' lo G O A (fun i => once i || oSv false ⟨re, c, t⟩ i) (fun q i => again q i || mSv false ⟨re, c, t⟩ q i) rows') ∧ Below lo w w' := by
  obtain ⟨a1, a2, a3⟩ := okSv_t hc
  simp only at a1 a2 a3
  obtain ⟨P, rfl⟩ := Int.eq_ofNat_of_zero_le (show 0 ≤ t by omega)
  have hA := add_server again hc rfl
  rw [← hA]
  have hP : 1 ≤ P := by omega
  have hP2 : P ≤ 1000 := by omega
  have h0 := h.later (below1 w (.cells #[.bool re, .int .i64 c, .int .i64 P] 91))
  have B1 := Lib.hid ((below1 w (.cells #[.bool re, .int .i64 c, .int .i64 P] 91)).mono hlo)
  cases re with
  | false =>
    have HF : Hid (firstS ⟨false, c, P⟩ = P) := Lib.hid rfl
    have HO : Hid ((fun i => once i || oSv false ⟨false, c, P⟩ i) = once) := Lib.hid (by funext i; unfold oSv; simp)
    have HR0 := Lib.hid h0
    have HLO : Hid (lo ≤ (w.alloc (.cells #[.bool false, .int .i64 c, .int .i64 P] 91)).heap.size) := Lib.hid (by simp; omega)
    clear h hA h0 hc
    go_enter Try.func99, Try.ntmps99
    go_wp2_with (first | (go_at_call 103; refine (add_rises HR0.out HLO.out P _ _ hP hP2 (by omega) (by omega) (by omega)).mono ?_; rintro e w1 ⟨rfl, ⟨rows2, hr1⟩, hb1⟩))
    refine bodyPost_ret (results_none rfl _ _ _) rfl ?_
    rw [HF.out, HO.out]
    exact ⟨rfl, ⟨_, hr1⟩, B1.out.trans hb1⟩
  | true =>
    have HF : Hid (firstS ⟨true, c, P⟩ = (P : Int) + 1) := Lib.hid rfl
    have HO : Hid ((fun i => once i || oSv false ⟨true, c, P⟩ i) = fun i => if i = P then true else once i) := Lib.hid (by
      funext i
      unfold oSv
      rw [hc]
      by_cases e : i = P
      · simp [e]
      · simp [e]; omega)
    have h1 := Rises.markOnce (w := (w.alloc (.cells #[.bool true, .int .i64 c, .int .i64 P] 91)).drew) (h0.later ((Below.refl _ _).drew)) P
    have y0 : (w.alloc (.cells #[.bool true, .int .i64 c, .int .i64 P] 91)).cell? ⟨G, 0, none⟩ = some (.slice (some ⟨O, 0, none⟩) 1001 1001) := cell_in h0.box rfl
    have k := box_says w #[.bool true, .int .i64 c, .int .i64 P] 91 _ (Below.refl _ _)
    have y1 := k 2 _ rfl
    have y2 := (h0.o.cell (bools_at (f := once) (show P < 1001 by omega))).1
    have y3 := (h0.o.cell (bools_at (f := once) (show P < 1001 by omega))).2
    have hOw : O ≠ w.heap.size := by have := h.o.lt; omega
    have kk := box_says (w := w) #[.bool true, .int .i64 c, .int .i64 P] 91
    have hLO := h.loO
    have hb0 : Below lo w (((w.alloc (.cells #[.bool true, .int .i64 c, .int .i64 P] 91)).drew).setCell ⟨O, P, none⟩ (.bool true)) := (((below1 w _).mono hlo).drew).setCell (p := ⟨O, P, none⟩) hLO _
    have y4 : (((w.alloc (.cells #[.bool true, .int .i64 c, .int .i64 P] 91)).drew).setCell ⟨O, P, none⟩ (.bool true)).cell? ⟨w.heap.size, 2, none⟩ = some (.int .i64 P) := by
      rw [World.cell?_setCell_far _ _ _ _ hOw]; exact y1
    have HG3 : Hid ((((w.alloc (.cells #[.bool true, .int .i64 c, .int .i64 P] 91)).drew).setCell ⟨O, P, none⟩ (.bool true)).cell? ⟨G, 0, none⟩ = some (.slice (some ⟨O, 0, none⟩) 1001 1001) ∧ (((w.alloc (.cells #[.bool true, .int .i64 c, .int .i64 P] 91)).drew).setCell ⟨O, P, none⟩ (.bool true)).cell? ⟨w.heap.size, 2, none⟩ = some (.int .i64 P)) := Lib.hid ⟨cell_in h1.box rfl, y4⟩
    have HR0 := Lib.hid h1
    have HLO : Hid (lo ≤ (((w.alloc (.cells #[.bool true, .int .i64 c, .int .i64 P] 91)).drew).setCell ⟨O, P, none⟩ (.bool true)).heap.size) := Lib.hid (Nat.le_trans hlo hb0.size)
    have HB0 := Lib.hid hb0
    have l0 : (0 : Int) ≤ (P : Int) := by omega
    have l1 : (P : Int) < 1001 := by omega
    clear h hA h0 hc h1 k hOw kk hb0
    go_enter Try.func99, Try.ntmps99
    go_wp2_with fail
    refine wp_region_held_drew (S := fun W => W.cell? ⟨G, 0, none⟩ = some (.slice (some ⟨O, 0, none⟩) 1001 1001) ∧ W.cell? ⟨w.heap.size, 2, none⟩ = some (.int .i64 P)) (by kernel_rfl) ?_ (fun hHeld => ?_)
    · exact ⟨y0, y1⟩
    refine wpAnyH_takeT (i := 0) (d := some 15) (v := ?_) rfl rfl (by kernel_rfl) (by kernel_rfl) (by kernel_rfl) (fun _ _ _ h => h) (Or.inl ⟨by rfl, ?_⟩) (by assumption) ?_
    rotate_left
    · intro w hSw
      (try dsimp only at hSw)
      go_simp
      try (with_reducible rfl)
    simp only [Act.put, List.setIfInBounds_toArray, List.set_cons_zero, List.set_cons_succ]
    refine wpAnyH_takeT (i := 1) (d := some 16) (v := ?_) rfl rfl (by kernel_rfl) (by kernel_rfl) (by kernel_rfl) (fun _ _ _ h => h) (Or.inl ⟨by rfl, ?_⟩) (by assumption) ?_
    rotate_left
    · intro w hSw
      (try dsimp only at hSw)
      go_simp
      try (with_reducible rfl)
    simp only [Act.put, List.setIfInBounds_toArray, List.set_cons_zero, List.set_cons_succ]
    refine wpAnyH_takeT (i := 2) (d := some 17) (v := ?_) rfl rfl (by kernel_rfl) (by kernel_rfl) (by kernel_rfl) (fun _ _ _ h => h) (Or.inl ⟨by rfl, ?_⟩) (by assumption) ?_
    rotate_left
    · intro w hSw
      (try dsimp only at hSw)
      go_simp
      try (with_reducible rfl)
    simp only [Act.put, List.setIfInBounds_toArray, List.set_cons_zero, List.set_cons_succ]
    refine wpAnyH_takeT (i := 3) (d := some 18) (v := ?_) rfl rfl (by kernel_rfl) (by kernel_rfl) (by kernel_rfl) (fun _ _ _ h => h) (Or.inl ⟨by rfl, ?_⟩) (by assumption) ?_
    rotate_left
    · intro w hSw
      (try dsimp only at hSw)
      go_simp
      try (with_reducible rfl)
    simp only [Act.put, List.setIfInBounds_toArray, List.set_cons_zero, List.set_cons_succ]
    refine wpAnyH_takeT (i := 4) (d := some 19) (v := ?_) rfl rfl (by kernel_rfl) (by kernel_rfl) (by kernel_rfl) (fun _ _ _ h => h) (Or.inl ⟨by rfl, ?_⟩) (by assumption) ?_
    rotate_left
    · intro w hSw
      (try dsimp only at hSw)
      go_simp
      try (with_reducible rfl)
    simp only [Act.put, List.setIfInBounds_toArray, List.set_cons_zero, List.set_cons_succ]
    refine wpAnyH_takeT (i := 5) (d := some 20) (v := ?_) rfl rfl (by kernel_rfl) (by kernel_rfl) (by kernel_rfl) (fun _ _ _ h => h) (Or.inl ⟨by rfl, ?_⟩) (by assumption) ?_
    rotate_left
    · intro w hSw
      (try dsimp only at hSw)
      go_simp
      try (with_reducible rfl)
    simp only [Act.put, List.setIfInBounds_toArray, List.set_cons_zero, List.set_cons_succ]
    refine wpAnyH_takeT (i := 6) (d := some 21) (v := ?_) rfl rfl (by kernel_rfl) (by kernel_rfl) (by kernel_rfl) (fun _ _ _ h => h) (Or.inl ⟨by rfl, ?_⟩) (by assumption) ?_
    rotate_left
    · intro w hSw
      (try dsimp only at hSw)
      go_simp
      try (with_reducible rfl)
    simp only [Act.put, List.setIfInBounds_toArray, List.set_cons_zero, List.set_cons_succ]
    refine wpAnyH_ready (rs := [7]) (by kernel_rfl) (by simp) ?_
    refine AllReadyH.cons rfl (fun K hK => ?_) AllReadyH.nil
    go_simp
    refine hK.out _ _ ?_ (fun hHeld => ?_)
    · exact HG3.out
    clear hK K
    try simp only [Act.put, List.setIfInBounds_toArray, List.set_cons_zero, List.set_cons_succ]
    refine wpAnyH_done (by kernel_rfl) ?_ _
    go_wp2_with (first | (go_at_call 103; refine (add_rises HR0.out HLO.out P _ _ hP hP2 (by omega) (by omega) (by omega)).mono ?_; rintro e w1 ⟨rfl, ⟨rows2, hr1⟩, hb1⟩))
    go_end0
    rw [HF.out, HO.out]
    exact ⟨rfl, ⟨_, hr1⟩, HB0.out.trans hb1⟩
end Go.Proofs.Ytdbbdlobahalkaa
namespace Go.Proofs.Ytdbbdlobahalkaa
open Go.ChangeShapes Go.WideShapes Go.ChangeAt Go.RowKit
set_option linter.unusedVariables false

theorem Rises.weaker {w : World} {lo lo' G O A : Nat} {once : Nat → Bool} {again : Nat → Nat → Bool} {rows : Nat → Option Nat} (h : Rises w lo G O A once again rows) (hl : lo' ≤ lo) : Rises w lo' G O A once again rows :=
  { h with r := fun p B hp hB => let ⟨h1, h2⟩ := h.r p B hp hB; ⟨Nat.le_trans hl h1, h2⟩, loG := Nat.le_trans hl h.loG, loO := Nat.le_trans hl h.loO, loA := Nat.le_trans hl h.loA }
theorem box6_saysD (w : World) (v0 v1 v2 v3 v4 v5 : Value) (T : TypeId) (W : World) (h : Below (w.alloc (.cells #[v0, v1, v2, v3, v4, v5] T)).heap.size (w.alloc (.cells #[v0, v1, v2, v3, v4, v5] T)) W) :
    W.cell? ⟨w.heap.size, 0, none⟩ = some v0 ∧ W.cell? ⟨w.heap.size, 1, none⟩ = some v1 ∧ W.cell? ⟨w.heap.size, 2, none⟩ = some v2 ∧ W.cell? ⟨w.heap.size, 3, none⟩ = some v3 ∧ W.cell? ⟨w.heap.size, 4, none⟩ = some v4 ∧ W.cell? ⟨w.heap.size, 5, none⟩ = some v5 :=
  have k := box_says w #[v0, v1, v2, v3, v4, v5] T W h
  ⟨k 0 _ rfl, k 1 _ rfl, k 2 _ rfl, k 3 _ rfl, k 4 _ rfl, k 5 _ rfl⟩
theorem box3_saysD (w : World) (v0 v1 v2 : Value) (T : TypeId) (W : World) (h : Below (w.alloc (.cells #[v0, v1, v2] T)).heap.size (w.alloc (.cells #[v0, v1, v2] T)) W) :
    W.cell? ⟨w.heap.size, 0, none⟩ = some v0 ∧ W.cell? ⟨w.heap.size, 1, none⟩ = some v1 ∧ W.cell? ⟨w.heap.size, 2, none⟩ = some v2 :=
  have k := box_says w #[v0, v1, v2] T W h
  ⟨k 0 _ rfl, k 1 _ rfl, k 2 _ rfl⟩
theorem any_next {α : Type} (f : α → Bool) (xs : List α) (k : Nat) (x : α) (h : xs[k]? = some x) : (xs.take (k + 1)).any f = ((xs.take k).any f || f x) := by
  rw [List.take_add_one, h]; simp
/-- Two rows and their box, fresh. -/
theorem rises_made {w : World} {lo O A : Nat} (hO : CellsAt w O 4 (List.replicate 1001 (.bool false))) (hA : CellsAt w A 127 (List.replicate 1001 (.slice none 0 0))) (h1 : lo ≤ O) (h2 : lo ≤ A) (h3 : O ≠ A) :
    Rises (w.alloc (.cells #[.slice (some ⟨O, 0, none⟩) 1001 1001, .slice (some ⟨A, 0, none⟩) 1001 1001] 148)) lo w.heap.size O A (fun _ => false) (fun _ _ => false) (fun _ => none) := by
  have l1 := hO.lt
  have l2 := hA.lt
  exact { box := heap_alloc_new w _, o := by rw [← bools_none]; exact hO.later (below1 _ _), a := by rw [rowsL_none]; exact hA.later (below1 _ _), r := fun p B _ h => (by cases h), n := fun _ _ _ _ => rfl, apart := fun p q B _ _ h => (by cases h), loG := by omega, loO := h1, loA := h2, GO := by omega, GA := by omega, OA := h3 }
theorem made_at {w w' : World} {T : TypeId} {n : Nat} {z : Value} (hz : z.cells = #[z]) (hown : w'.ownsRow w.heap.size T 1 (.slice (some ⟨w.heap.size, 0, none⟩) n n) n (madeCells z.cells (n * 1)).toList) : CellsAt w' w.heap.size T (List.replicate n z) := by
  have := CellsAt.of_own hown (by rw [Array.length_toList, size_madeCells])
  rwa [made_cells _ hz, Nat.mul_one] at this
theorem grown_below {w w' : World} (h : w.grownBy w' none) : Below w.heap.size w w' := ⟨h.os, h.tape, h.output, h.size, fun k hk => h.block k hk (by simp)⟩
set_option maxRecDepth 100000 in
set_option maxHeartbeats 4000000 in
theorem newRises_any (ta sa da : Option Addr) (tn tc sn sc dn dc : Nat) (x0 x1 x2 : Int) (high : Bool) (w : World) (lo hi : Nat) (ts : List Tk) (ss : List Sv) (htn : ts.length = tn) (hsn : ss.length = sn)
    (hts : Lies w lo hi (.slice ta tn tc) tn 6 (ts.flatMap Tk.cells)) (hss : Lies w lo hi (.slice sa sn sc) sn 3 (ss.flatMap Sv.cells)) (hhi : hi ≤ w.heap.size) (ht2 : tn ≤ 1000000) (hs2 : sn ≤ 1000000) :
    Calls Try.prog 88 #[.agg #[.slice ta tn tc, .slice sa sn sc, .slice da dn dc, .int .u8 x0, .int .u8 x1, .int .u8 x2], .bool high] w fun e w' => ∃ G O A, e = .returned (.pointer (some ⟨G, 0, none⟩)) ∧ (∃ rows, Rises w' w.heap.size G O A (fun i => ss.any fun s => oSv high s i) (fun q i => ts.any (fun k => mTk high k q i) || ss.any fun s => mSv high s q i) rows) ∧ Below w.heap.size w w' := by
  obtain ⟨i0, hi0, hz0, hz1, hz2⟩ := info_parts Try.infoBoolT
  obtain ⟨i1, hi1, hy0, hy1, hy2⟩ := info_parts Try.infoBools
  obtain ⟨F1, hF1⟩ := Classical.axiomOfChoice (fun W : World => run_make_full (P := Try.prog) (w := W) W.heap.size 127 4 i0 _ 1 Try.underlying127 hi0 hz0 hz1 .i64 .i64 1001 (by rw [hz2]; omega) (by simp [maxLen]) (Nat.le_refl _))
  obtain ⟨F2, hF2⟩ := Classical.axiomOfChoice (fun W : World => run_make_full (P := Try.prog) (w := W) W.heap.size 146 127 i1 _ 1 Try.underlying146 hi1 hy0 hy1 .i64 .i64 1001 (by rw [hy2]; omega) (by simp [maxLen]) (Nat.le_refl _))
  have hr1 : ∀ W : World, (Instr.makeSlice 127 (.int .i64 1001) (.int .i64 1001)).run Try.prog W = .ok (.slice (some ⟨W.heap.size, 0, none⟩) 1001 1001) (F1 W) := fun W => (hF1 W).1
  have hr2 : ∀ W : World, (Instr.makeSlice 146 (.int .i64 1001) (.int .i64 1001)).run Try.prog W = .ok (.slice (some ⟨W.heap.size, 0, none⟩) 1001 1001) (F2 W) := fun W => (hF2 W).1
  have c1 : ∀ W : World, CellsAt (F1 W) W.heap.size 4 (List.replicate 1001 (.bool false)) := fun W => made_at rfl (hF1 W).2.1
  have c2 : ∀ W : World, CellsAt (F2 W) W.heap.size 127 (List.replicate 1001 (.slice none 0 0)) := fun W => made_at rfl (hF2 W).2.1
  have b1 : ∀ W : World, Below W.heap.size W (F1 W) := fun W => grown_below (hF1 W).2.2
  have b2 : ∀ W : World, Below W.heap.size W (F2 W) := fun W => grown_below (hF2 W).2.2
  obtain ⟨V, hV⟩ : ∃ V, V = w.alloc (.cells #[.slice ta tn tc, .slice sa sn sc, .slice da dn dc, .int .u8 x0, .int .u8 x1, .int .u8 x2] 58) := ⟨_, rfl⟩
  have ks : ∀ W : World, Below V.heap.size V W → W.cell? ⟨w.heap.size, 0, none⟩ = some (.slice ta tn tc) ∧ W.cell? ⟨w.heap.size, 1, none⟩ = some (.slice sa sn sc) := fun W h => by
    rw [hV] at h
    have k := box_says w #[.slice ta tn tc, .slice sa sn sc, .slice da dn dc, .int .u8 x0, .int .u8 x1, .int .u8 x2] 58 W h
    exact ⟨k 0 _ rfl, k 1 _ rfl⟩
  have hBV : Below w.heap.size w V := by rw [hV]; exact below1 _ _
  have mk1 : ∀ W : World, Below V.heap.size V W → (Rises ((F2 (F1 W)).alloc (.cells #[.slice (some ⟨W.heap.size, 0, none⟩) 1001 1001, .slice (some ⟨(F1 W).heap.size, 0, none⟩) 1001 1001] 148)) V.heap.size (F2 (F1 W)).heap.size W.heap.size (F1 W).heap.size (fun _ => false) (fun _ _ => false) (fun _ => none)) ∧ Below V.heap.size V ((F2 (F1 W)).alloc (.cells #[.slice (some ⟨W.heap.size, 0, none⟩) 1001 1001, .slice (some ⟨(F1 W).heap.size, 0, none⟩) 1001 1001] 148)) := fun W hW => by
    have l1 := (c1 W).lt
    have hb := bel_thenD (bel_thenD hW (Nat.le_refl _) (b1 W)) (Nat.le_refl _) (b2 (F1 W))
    exact ⟨rises_made ((c1 W).later (b2 (F1 W))) (c2 (F1 W)) hW.size (by have := hW.size; omega) (by omega), b_alloc hb (Nat.le_refl _) _⟩
  have mk2 : ∀ W : World, Below V.heap.size V W → (Rises ((F1 (F2 W)).alloc (.cells #[.slice (some ⟨(F2 W).heap.size, 0, none⟩) 1001 1001, .slice (some ⟨W.heap.size, 0, none⟩) 1001 1001] 148)) V.heap.size (F1 (F2 W)).heap.size (F2 W).heap.size W.heap.size (fun _ => false) (fun _ _ => false) (fun _ => none)) ∧ Below V.heap.size V ((F1 (F2 W)).alloc (.cells #[.slice (some ⟨(F2 W).heap.size, 0, none⟩) 1001 1001, .slice (some ⟨W.heap.size, 0, none⟩) 1001 1001] 148)) := fun W hW => by
    have l1 := (c2 W).lt
    have hb := bel_thenD (bel_thenD hW (Nat.le_refl _) (b2 W)) (Nat.le_refl _) (b1 (F2 W))
    exact ⟨rises_made (c1 (F2 W)) ((c2 W).later (b1 (F2 W))) (by have := hW.size; omega) hW.size (by omega), b_alloc hb (Nat.le_refl _) _⟩
  have HA := Lib.hid (mk1 V.drew ((Below.refl _ _).drew))
  have HB := Lib.hid (mk2 V.drew ((Below.refl _ _).drew))
  have hVw : w.heap.size < V.heap.size := by rw [hV]; simp
  have HT := Lib.hid hts; have HS := Lib.hid hss
  have HTN := Lib.hid htn; have HSN := Lib.hid hsn
  have KS := Lib.hid ks; have HV := Lib.hid hV; have HBV := Lib.hid hBV
  clear hts hss htn hsn ks hV hBV mk1 mk2 c1 c2 b1 b2 hF1 hF2 hi0 hz0 hz1 hz2 hi1 hy0 hy1 hy2
  go_enter Try.func88, Try.ntmps88
  go_wp2_with fail
  rw [← HV.out]
  go_cut [5] from 10 to 13 (fun s wx => ∃ G O A, s = .pointer (some ⟨G, 0, none⟩) ∧ Rises wx V.heap.size G O A (fun _ => false) (fun _ _ => false) (fun _ => none) ∧ Below V.heap.size V wx)
  case first =>
    refine wp_region_held_drew (S := fun _ => True) (by kernel_rfl) trivial (fun hHeld => ?_)
    refine wpAnyH_ready (rs := [0, 1]) (by kernel_rfl) (by simp) ?_
    refine AllReadyH.cons rfl (fun K hK => ?_) (AllReadyH.cons rfl (fun K hK => ?_) AllReadyH.nil)
    · go_simp
      refine hK.out _ _ ?_ (fun hHeld => ?_)
      · trivial
      clear hK K
      try simp only [Act.put, List.setIfInBounds_toArray, List.set_cons_zero, List.set_cons_succ]
      refine wpAnyH_ready (rs := [1]) (by kernel_rfl) (by simp) ?_
      refine AllReadyH.cons rfl (fun K hK => ?_) AllReadyH.nil
      go_simp
      refine hK.out _ _ ?_ (fun hHeld => ?_)
      · trivial
      clear hK K
      try simp only [Act.put, List.setIfInBounds_toArray, List.set_cons_zero, List.set_cons_succ]
      refine wpAnyH_takeT (i := 2) (d := some 12) (v := ?_) rfl rfl (by kernel_rfl) (by kernel_rfl) (by kernel_rfl) (fun _ _ _ h => h) (Or.inl ⟨by rfl, ?_⟩) (by assumption) ?_
      rotate_left
      · intro w hSw
        (try dsimp only at hSw)
        go_simp
        try (with_reducible rfl)
      simp only [Act.put, List.setIfInBounds_toArray, List.set_cons_zero, List.set_cons_succ]
      refine wpAnyH_ready (rs := [3]) (by kernel_rfl) (by simp) ?_
      refine AllReadyH.cons rfl (fun K hK => ?_) AllReadyH.nil
      go_simp
      refine hK.out _ _ ?_ (fun hHeld => ?_)
      · trivial
      clear hK K
      try simp only [Act.put, List.setIfInBounds_toArray, List.set_cons_zero, List.set_cons_succ]
      refine wpAnyH_takeT (i := 4) (d := some 5) (v := ?_) rfl rfl (by kernel_rfl) (by kernel_rfl) (by kernel_rfl) (fun _ _ _ h => h) (Or.inl ⟨by rfl, ?_⟩) (by assumption) ?_
      rotate_left
      · intro w hSw
        (try dsimp only at hSw)
        go_simp
        try (with_reducible rfl)
      simp only [Act.put, List.setIfInBounds_toArray, List.set_cons_zero, List.set_cons_succ]
      refine wpAnyH_done (by kernel_rfl) ?_ _
      go_wp2_with fail
      go_meet
      (case rel => exact ⟨_, _, _, rfl, HA.out⟩)
    · go_simp
      refine hK.out _ _ ?_ (fun hHeld => ?_)
      · trivial
      clear hK K
      try simp only [Act.put, List.setIfInBounds_toArray, List.set_cons_zero, List.set_cons_succ]
      refine wpAnyH_ready (rs := [0]) (by kernel_rfl) (by simp) ?_
      refine AllReadyH.cons rfl (fun K hK => ?_) AllReadyH.nil
      go_simp
      refine hK.out _ _ ?_ (fun hHeld => ?_)
      · trivial
      clear hK K
      try simp only [Act.put, List.setIfInBounds_toArray, List.set_cons_zero, List.set_cons_succ]
      refine wpAnyH_takeT (i := 2) (d := some 12) (v := ?_) rfl rfl (by kernel_rfl) (by kernel_rfl) (by kernel_rfl) (fun _ _ _ h => h) (Or.inl ⟨by rfl, ?_⟩) (by assumption) ?_
      rotate_left
      · intro w hSw
        (try dsimp only at hSw)
        go_simp
        try (with_reducible rfl)
      simp only [Act.put, List.setIfInBounds_toArray, List.set_cons_zero, List.set_cons_succ]
      refine wpAnyH_ready (rs := [3]) (by kernel_rfl) (by simp) ?_
      refine AllReadyH.cons rfl (fun K hK => ?_) AllReadyH.nil
      go_simp
      refine hK.out _ _ ?_ (fun hHeld => ?_)
      · trivial
      clear hK K
      try simp only [Act.put, List.setIfInBounds_toArray, List.set_cons_zero, List.set_cons_succ]
      refine wpAnyH_takeT (i := 4) (d := some 5) (v := ?_) rfl rfl (by kernel_rfl) (by kernel_rfl) (by kernel_rfl) (fun _ _ _ h => h) (Or.inl ⟨by rfl, ?_⟩) (by assumption) ?_
      rotate_left
      · intro w hSw
        (try dsimp only at hSw)
        go_simp
        try (with_reducible rfl)
      simp only [Act.put, List.setIfInBounds_toArray, List.set_cons_zero, List.set_cons_succ]
      refine wpAnyH_done (by kernel_rfl) ?_ _
      go_wp2_with fail
      go_meet
      (case rel => exact ⟨_, _, _, rfl, HB.out⟩)
  case rest =>
    clear HA HB hr1 hr2
    obtain ⟨G, O, A, rfl, hR, hb⟩ := hcut
    obtain ⟨k0, k1⟩ := KS.out _ hb
    have HR := Lib.hid (show ∃ rows, Rises wc V.heap.size G O A (fun _ => false) (fun q i => (ts.take 0).any fun k => mTk high k q i) rows from ⟨_, hR⟩)
    clear hR
    go_wp2_with fail
    clear k0 k1
    go_loopw [17] (fun i wr => ∃ k : Nat, k ≤ tn ∧ i = .int .i64 k ∧ Hid (∃ rows, Rises wr V.heap.size G O A (fun _ => false) (fun q i => (ts.take k).any fun k => mTk high k q i) rows) ∧ Below V.heap.size V wr) (fun i _ => tn - (intOf i).toNat)
    case atStart => exact ⟨0, by omega, rfl, HR, hb⟩
    case round =>
      clear HR hb
      obtain ⟨k, hk, rfl, HR, hb⟩ := hrel
      by_cases hlt : k < tn
      · have tk : decide ((k : Int) < (tn : Int)) = true := by simpa using hlt
        obtain ⟨x, hx⟩ : ∃ x, ts[k]? = some x := ⟨_, List.getElem?_eq_getElem (by rw [HTN.out]; exact hlt)⟩
        have hlies := HT.out.keep (SameIn.of_below (HBV.out.trans (hb.mono (Nat.le_of_lt hVw))) hhi)
        obtain ⟨a2, c2, e2, _, _, hc⟩ := hlies
        cases e2
        rcases hc with h0 | ⟨b, off, rfl, hb1, hb2, hc⟩
        · omega
        obtain ⟨s0, s1, s2, s3, s4, s5⟩ := Lies.tk hc hx
        have HN := Lib.hid (show (fun q i => (ts.take (k + 1)).any fun k => mTk high k q i) = fun q i => (ts.take k).any (fun k => mTk high k q i) || mTk high x q i from by funext q i; exact any_next _ ts k x hx)
        obtain ⟨rows, hrr⟩ := HR.out
        have HRR := Lib.hid hrr
        clear hc hx hrr HR
        obtain ⟨xb, xt, xd, xv, xlo, xtop⟩ := x
        simp only at s0 s1 s2 s3 s4 s5
        have l0 : (0 : Int) ≤ (k : Int) := by omega
        have l1 : (k : Int) < (tn : Int) := by omega
        cases hcb : countsB ⟨xb, xt, xd, xv, xlo, xtop⟩ high with
        | true =>
          have HC := Lib.hid hcb
          clear hcb
          go_wp2_with (first
            | (go_at_call 98; refine (addTask_any (HRR.out.later hbr) (Nat.le_trans hb.size hbr.size) _ _ _ _ _ _ _ HC.out).mono ?_; rintro e w2 ⟨rfl, ⟨rows2, hr2⟩, hb2'⟩)
            | (go_at_call 94; refine (counts_any _ _ _ _ _ _ _ _).mono ?_; rintro e w1 ⟨rfl, hb1'⟩; rw [show (okTk ⟨xb, xt, xd, xv, xlo, xtop⟩ && (xb || !high)) = true from HC.out]; have hbr := bel_thenD (below1 wr _) (Nat.le_refl _) hb1'; obtain ⟨z0, z1, z2, z3, z4, z5⟩ := box6_saysD _ _ _ _ _ _ _ _ _ hb1'))
          go_roundw
          case rel => exact ⟨k + 1, by omega, by go_num, Lib.hid ⟨rows2, by rw [HN.out]; exact hr2⟩, (hb.trans (hbr.mono hb.size)).trans hb2'⟩
          case measure => simp [intOf]; omega
        | false =>
          have HC := Lib.hid hcb
          have HZ : Hid ((fun q i => (ts.take k).any (fun k => mTk high k q i) || mTk high ⟨xb, xt, xd, xv, xlo, xtop⟩ q i) = fun q i => (ts.take k).any fun k => mTk high k q i) := Lib.hid (by funext q i; unfold mTk; rw [hcb]; simp)
          clear hcb
          go_wp2_with (first
            | (go_at_call 94; refine (counts_any _ _ _ _ _ _ _ _).mono ?_; rintro e w1 ⟨rfl, hb1'⟩; rw [show (okTk ⟨xb, xt, xd, xv, xlo, xtop⟩ && (xb || !high)) = false from HC.out]; have hbr := bel_thenD (below1 wr _) (Nat.le_refl _) hb1'))
          go_roundw
          case rel => exact ⟨k + 1, by omega, by go_num, Lib.hid ⟨rows, by rw [HN.out, HZ.out]; exact HRR.out.later hbr⟩, hb.trans (hbr.mono hb.size)⟩
          case measure => simp [intOf]; omega
      · have tk : decide ((k : Int) < (tn : Int)) = false := by simp; omega
        obtain ⟨rows, hrr⟩ := HR.out
        rw [List.take_of_length_le (show ts.length ≤ k by rw [HTN.out]; omega)] at hrr
        have HR2 := Lib.hid (show ∃ rows, Rises wr V.heap.size G O A (fun i => (ss.take 0).any fun s => oSv high s i) (fun q i => ts.any (fun k => mTk high k q i) || (ss.take 0).any fun s => mSv high s q i) rows from ⟨rows, by simpa using hrr⟩)
        obtain ⟨k0, k1⟩ := KS.out _ hb
        clear hrr HR k0 HTN HT
        go_wp2_with fail
        clear k1
        go_loopw [32] (fun i wr => ∃ k : Nat, k ≤ sn ∧ i = .int .i64 k ∧ Hid (∃ rows, Rises wr V.heap.size G O A (fun i => (ss.take k).any fun s => oSv high s i) (fun q i => ts.any (fun k => mTk high k q i) || (ss.take k).any fun s => mSv high s q i) rows) ∧ Below V.heap.size V wr) (fun i _ => sn - (intOf i).toNat)
        case atStart => exact ⟨0, by omega, rfl, HR2, hb⟩
        case round =>
          clear HR2 hb hk tk hlt
          obtain ⟨k, hk, rfl, HR, hb⟩ := hrel
          by_cases hlt : k < sn
          · have tk : decide ((k : Int) < (sn : Int)) = true := by simpa using hlt
            obtain ⟨x, hx⟩ : ∃ x, ss[k]? = some x := ⟨_, List.getElem?_eq_getElem (by rw [HSN.out]; exact hlt)⟩
            have hlies := HS.out.keep (SameIn.of_below (HBV.out.trans (hb.mono (Nat.le_of_lt hVw))) hhi)
            obtain ⟨a2, c2, e2, _, _, hc⟩ := hlies
            cases e2
            rcases hc with h0 | ⟨b, off, rfl, hb1, hb2, hc⟩
            · omega
            obtain ⟨s0, s1, s2⟩ := Lies.sv hc hx
            have HN := Lib.hid (show (fun i => (ss.take (k + 1)).any fun s => oSv high s i) = fun i => (ss.take k).any (fun s => oSv high s i) || oSv high x i from by funext i; exact any_next _ ss k x hx)
            have HN2 := Lib.hid (show (fun q i => ts.any (fun k => mTk high k q i) || (ss.take (k + 1)).any fun s => mSv high s q i) = fun q i => (ts.any (fun k => mTk high k q i) || (ss.take k).any fun s => mSv high s q i) || mSv high x q i from by funext q i; rw [any_next _ ss k x hx, Bool.or_assoc])
            obtain ⟨rows, hrr⟩ := HR.out
            have HRR := Lib.hid hrr
            clear hc hx hrr HR
            obtain ⟨xr, xc, xt⟩ := x
            simp only at s0 s1 s2
            have l0 : (0 : Int) ≤ (k : Int) := by omega
            have l1 : (k : Int) < (sn : Int) := by omega
            cases hcb : okSv ⟨xr, xc, xt⟩ with
            | true =>
              have HC := Lib.hid hcb
              cases high with
              | false =>
                clear hcb
                go_wp2_with (first
                  | (go_at_call 99; refine (addServer_any (HRR.out.later hbr) (Nat.le_trans hb.size hbr.size) _ _ _ HC.out).mono ?_; rintro e w2 ⟨rfl, ⟨rows2, hr2⟩, hb2'⟩)
                  | (go_at_call 70; refine (serverRight_any _ _ _ _).mono ?_; rintro e w1 ⟨rfl, hb1'⟩; rw [HC.out]; have hbr := bel_thenD (below1 wr _) (Nat.le_refl _) hb1'; obtain ⟨z0, z1, z2⟩ := box3_saysD _ _ _ _ _ _ hb1'))
                go_roundw
                case rel => exact ⟨k + 1, by omega, by go_num, Lib.hid ⟨rows2, by rw [HN.out, HN2.out]; exact hr2⟩, (hb.trans (hbr.mono hb.size)).trans hb2'⟩
                case measure => simp [intOf]; omega
              | true =>
                have HZ1 : Hid ((fun i => (ss.take k).any (fun s => oSv true s i) || oSv true ⟨xr, xc, xt⟩ i) = fun i => (ss.take k).any fun s => oSv true s i) := Lib.hid (by funext i; unfold oSv; simp)
                have HZ2 : Hid ((fun q i => (ts.any (fun k => mTk true k q i) || (ss.take k).any fun s => mSv true s q i) || mSv true ⟨xr, xc, xt⟩ q i) = fun q i => ts.any (fun k => mTk true k q i) || (ss.take k).any fun s => mSv true s q i) := Lib.hid (by funext q i; unfold mSv; simp)
                clear hcb
                go_wp2_with (first
                  | (go_at_call 70; refine (serverRight_any _ _ _ _).mono ?_; rintro e w1 ⟨rfl, hb1'⟩; rw [HC.out]; have hbr := bel_thenD (below1 wr _) (Nat.le_refl _) hb1'))
                go_roundw
                case rel => exact ⟨k + 1, by omega, by go_num, Lib.hid ⟨rows, by rw [HN.out, HN2.out, HZ1.out, HZ2.out]; exact HRR.out.later hbr⟩, hb.trans (hbr.mono hb.size)⟩
                case measure => simp [intOf]; omega
            | false =>
              have HC := Lib.hid hcb
              have HZ1 : Hid ((fun i => (ss.take k).any (fun s => oSv high s i) || oSv high ⟨xr, xc, xt⟩ i) = fun i => (ss.take k).any fun s => oSv high s i) := Lib.hid (by funext i; unfold oSv; rw [hcb]; simp)
              have HZ2 : Hid ((fun q i => (ts.any (fun k => mTk high k q i) || (ss.take k).any fun s => mSv high s q i) || mSv high ⟨xr, xc, xt⟩ q i) = fun q i => ts.any (fun k => mTk high k q i) || (ss.take k).any fun s => mSv high s q i) := Lib.hid (by funext q i; unfold mSv; rw [hcb]; simp)
              clear hcb
              go_wp2_with (first
                | (go_at_call 70; refine (serverRight_any _ _ _ _).mono ?_; rintro e w1 ⟨rfl, hb1'⟩; rw [HC.out]; have hbr := bel_thenD (below1 wr _) (Nat.le_refl _) hb1'))
              go_roundw
              case rel => exact ⟨k + 1, by omega, by go_num, Lib.hid ⟨rows, by rw [HN.out, HN2.out, HZ1.out, HZ2.out]; exact HRR.out.later hbr⟩, hb.trans (hbr.mono hb.size)⟩
              case measure => simp [intOf]; omega
          · have tk : decide ((k : Int) < (sn : Int)) = false := by simp; omega
            obtain ⟨rows, hrr⟩ := HR.out
            rw [List.take_of_length_le (show ss.length ≤ k by rw [HSN.out]; omega)] at hrr
            have HR2 := Lib.hid (hrr.weaker (Nat.le_of_lt hVw))
            clear hrr HR HSN HS
            go_wp2_with fail
            go_ret
            exact ⟨G, O, A, rfl, ⟨rows, HR2.out⟩, HBV.out.trans (hb.mono (Nat.le_of_lt hVw))⟩
end Go.Proofs.Ytdbbdlobahalkaa
namespace Go.Proofs.Ytdbbdlobahalkaa
open Go.ChangeShapes Go.WideShapes Go.ChangeAt Go.RowKit
set_option linter.unusedVariables false

/-- The marks set by the first k places of a row, each coming again after e ticks. -/
def metRow (met : Nat → Bool) (row : Nat → Bool) (e k : Nat) : Nat → Bool := fun t => met t || (List.range k).any fun i => row i && hitB i e t
def metRows (met : Nat → Bool) (again : Nat → Nat → Bool) (k : Nat) : Nat → Bool := fun t => met t || (List.range k).any fun p => (List.range (p + 2)).any fun i => again p i && hitB i p t
theorem metRow_zero (met row : Nat → Bool) (e : Nat) : metRow met row e 0 = met := by funext t; simp [metRow]
theorem metRow_yes (met : Nat → Bool) {row : Nat → Bool} {k : Nat} (e : Nat) (h : row k = true) : (fun t => metRow met row e k t || hitB k e t) = metRow met row e (k + 1) := by
  funext t; unfold metRow; rw [List.range_succ, List.any_append]; simp [h, Bool.or_assoc]
theorem metRow_no (met : Nat → Bool) {row : Nat → Bool} {k : Nat} (e : Nat) (h : row k = false) : metRow met row e k = metRow met row e (k + 1) := by
  funext t; unfold metRow; rw [List.range_succ, List.any_append]; simp [h]
theorem metRows_zero (met : Nat → Bool) (again : Nat → Nat → Bool) : metRows met again 0 = met := by funext t; simp [metRows]
theorem metRows_next (met : Nat → Bool) (again : Nat → Nat → Bool) (p : Nat) : metRow (metRows met again p) (again p) p (p + 2) = metRows met again (p + 1) := by
  funext t; unfold metRow metRows; rw [List.range_succ (n := p), List.any_append]; simp [Bool.or_assoc]
theorem metRows_none (met : Nat → Bool) {again : Nat → Nat → Bool} {p : Nat} (h : ∀ i, again p i = false) : metRows met again p = metRows met again (p + 1) := by
  rw [← metRows_next]
  funext t; unfold metRow; simp [h]
theorem metE_is (met once : Nat → Bool) (again : Nat → Nat → Bool) : metRows (metRow met once 65536 1001) again 1001 = fun t => met t || metE once again t := by
  funext t; unfold metRows metRow metE; rw [Bool.or_assoc]
set_option maxRecDepth 100000 in
set_option maxHeartbeats 4000000 in
theorem eachR_any {w : World} {lo G O A M B n : Nat} {met once : Nat → Bool} {again : Nat → Nat → Bool} {rows : Nat → Option Nat} (h : Rises w lo G O A once again rows) (h0 : ∀ i, again 0 i = false)
    (hM : w.heap[M]? = some (.cells #[.slice (some ⟨B, 0, none⟩) n n] 127 (0, 0))) (hB : CellsAt w B 4 (bools met n)) (hMB : M ≠ B) (hBl : B < lo) (hn : n ≤ 65537) :
    Calls Try.prog 89 #[.pointer (some ⟨G, 0, none⟩), .func (.func 90) #[] #[.pointer (some ⟨M, 0, none⟩)]] w fun e w' => e = .returned (.tuple #[]) ∧ CellsAt w' B 4 (bools (fun t => met t || metE once again t) n) ∧ But B w w' := by
  have HH := Lib.hid h; have HM := Lib.hid hM; have H0 := Lib.hid h0
  have HB := Lib.hid (show CellsAt w B 4 (bools (metRow met once 65536 0) n) from by rw [metRow_zero]; exact hB)
  have y0 : w.cell? ⟨G, 0, none⟩ = some (.slice (some ⟨O, 0, none⟩) 1001 1001) := cell_in h.box rfl
  have HE := Lib.hid (metE_is met once again)
  clear h hM hB h0
  go_enter Try.func89, Try.ntmps89
  go_wp2_with fail
  clear y0
  go_loopw [15] (fun i wr => ∃ k : Nat, k ≤ 1001 ∧ i = .int .i64 k ∧ Hid (CellsAt wr B 4 (bools (metRow met once 65536 k) n)) ∧ But B w wr) (fun i _ => 1001 - (intOf i).toNat)
  case atStart => exact ⟨0, by omega, rfl, HB, But.refl _ _⟩
  case round =>
    clear HB
    obtain ⟨k, hk, rfl, HB, hb⟩ := hrel
    by_cases hlt : k < 1001
    · have tk : decide ((k : Int) < 1001) = true := by simp; omega
      have y1 := ((HH.out.but hBl hb).o.cell (bools_at (f := once) hlt)).1
      have l0 : (0 : Int) ≤ (k : Int) := by omega
      have l1 : (k : Int) < 1001 := by omega
      cases ho : once k with
      | true =>
        have HN := Lib.hid (metRow_yes met 65536 ho)
        have CM := Lib.hid (mark_any (hb.at HM.out hMB) HB.out hMB hn k 65536 (by omega) (by omega) (by omega))
        rw [ho] at y1
        clear ho
        go_wp2_with (first
          | (go_at_call 90; refine CM.out.mono ?_; rintro e w1 ⟨rfl, hc1, hb1⟩))
        go_roundw
        case rel => exact ⟨k + 1, by omega, by go_num, Lib.hid (by rw [← HN.out]; exact hc1), hb.trans hb1⟩
        case measure => simp [intOf]; omega
      | false =>
        have HN := Lib.hid (metRow_no met 65536 ho)
        rw [ho] at y1
        clear ho
        go_wp2_with fail
        go_roundw
        case rel => exact ⟨k + 1, by omega, by go_num, Lib.hid (by rw [← HN.out]; exact HB.out), hb⟩
        case measure => simp [intOf]; omega
    · have tk : decide ((k : Int) < 1001) = false := by simp; omega
      have hk1 : k = 1001 := by omega
      have HB2 := Lib.hid (show CellsAt wr B 4 (bools (metRows (metRow met once 65536 1001) again 0) n) from by rw [metRows_zero, ← hk1]; exact HB.out)
      have y1 : wr.cell? ⟨G, 1, none⟩ = some (.slice (some ⟨A, 0, none⟩) 1001 1001) := cell_in (HH.out.but hBl hb).box rfl
      clear HB hk1
      obtain ⟨m, hm⟩ : ∃ m, m = metRow met once 65536 1001 := ⟨_, rfl⟩
      rw [← hm] at HB2 HE
      clear hm
      go_wp2_with fail
      clear y1
      go_loopw [30] (fun i wr => ∃ p : Nat, p ≤ 1001 ∧ i = .int .i64 p ∧ Hid (CellsAt wr B 4 (bools (metRows m again p) n)) ∧ But B w wr) (fun i _ => 1001 - (intOf i).toNat)
      case atStart => exact ⟨0, by omega, rfl, HB2, hb⟩
      case round =>
        clear HB2 hb hk hlt tk
        obtain ⟨p, hp, rfl, HB, hb⟩ := hrel
        obtain ⟨wo, hwo⟩ : ∃ wo, wo = wr := ⟨_, rfl⟩
        subst hwo
        by_cases hlt : p < 1001
        · have tk : decide ((p : Int) < 1001) = true := by simp; omega
          have y1 := ((HH.out.but hBl hb).a.cell (rowsL_at (rows := rows) hlt)).1
          unfold rowV at y1
          have l0 : (0 : Int) ≤ (p : Int) := by omega
          have l1 : (p : Int) < 1001 := by omega
          cases hr : rows p with
          | none =>
            rw [hr] at y1
            have HN := Lib.hid (metRows_none m (HH.out.n p hlt hr))
            clear hr
            go_wp2_with fail
            go_loopw [37] (fun i wx => i = .int .i64 0 ∧ Hid (CellsAt wx B 4 (bools (metRows m again p) n)) ∧ But B w wx) (fun _ _ => 0)
            case atStart => exact ⟨rfl, HB, hb⟩
            case round =>
              clear HB hb
              obtain ⟨rfl, HB, hb⟩ := hrel
              go_wp2_with fail
              go_roundw
              case rel => exact ⟨p + 1, by omega, by go_num, Lib.hid (by rw [← HN.out]; exact HB.out), hb⟩
              case measure => simp [intOf]; omega
          | some BB =>
            rw [hr] at y1
            have HROW := Lib.hid hr
            have HN := Lib.hid (metRows_next m again p)
            have HB3 := Lib.hid (show CellsAt wo B 4 (bools (metRow (metRows m again p) (again p) p 0) n) from by rw [metRow_zero]; exact HB.out)
            clear hr HB
            generalize metRows m again p = m2 at HN HB3
            go_wp2_with fail
            clear y1
            go_loopw [37] (fun i wx => ∃ q : Nat, q ≤ p + 2 ∧ i = .int .i64 q ∧ Hid (CellsAt wx B 4 (bools (metRow m2 (again p) p q) n)) ∧ But B w wx) (fun i _ => p + 2 - (intOf i).toNat)
            case atStart => exact ⟨0, by omega, rfl, HB3, hb⟩
            case round =>
              clear HB3 hb
              obtain ⟨q, hq, rfl, HB, hb⟩ := hrel
              by_cases hlq : q < p + 2
              · have tq : decide ((q : Int) < (p : Int) + 2) = true := by simp; omega
                have tq2 : decide ((q : Int) < ((p + 2 : Nat) : Int)) = true := by simp; omega
                have tq3 : decide (q < p + 2) = true := by simp; omega
                obtain ⟨_, _, _, _, h5⟩ := (HH.out.but hBl hb).r p BB hlt HROW.out
                have y2 := (h5.cell (bools_at (f := again p) hlq)).1
                clear h5
                have q0 : (0 : Int) ≤ (q : Int) := by omega
                have q1 : (q : Int) < ((p + 2 : Nat) : Int) := by omega
                have q2 : (q : Int) < (p : Int) + 2 := by omega
                cases ha : again p q with
                | true =>
                  have hp1 : 1 ≤ p := by
                    rcases Nat.eq_zero_or_pos p with e | e
                    · subst e; rw [H0.out] at ha; cases ha
                    · exact e
                  have HN2 := Lib.hid (metRow_yes m2 p ha)
                  have CM := Lib.hid (mark_any (hb.at HM.out hMB) HB.out hMB hn q p (by omega) hp1 (by omega))
                  rw [ha] at y2
                  clear ha
                  go_wp2_with (first
                    | (go_at_call 90; refine CM.out.mono ?_; rintro e w1 ⟨rfl, hc1, hb1⟩))
                  go_roundw
                  case rel => exact ⟨q + 1, by omega, by go_num, Lib.hid (by rw [← HN2.out]; exact hc1), hb.trans hb1⟩
                  case measure => simp [intOf]; omega
                | false =>
                  have HN2 := Lib.hid (metRow_no m2 p ha)
                  rw [ha] at y2
                  clear ha
                  go_wp2_with fail
                  go_roundw
                  case rel => exact ⟨q + 1, by omega, by go_num, Lib.hid (by rw [← HN2.out]; exact HB.out), hb⟩
                  case measure => simp [intOf]; omega
              · have tq : decide ((q : Int) < (p : Int) + 2) = false := by simp; omega
                have tq2 : decide ((q : Int) < ((p + 2 : Nat) : Int)) = false := by simp; omega
                have tq3 : decide (q < p + 2) = false := by simp; omega
                have hqq : q = p + 2 := by omega
                have HB2 := Lib.hid (show CellsAt wr B 4 (bools (metRow m2 (again p) p (p + 2)) n) from by rw [← hqq]; exact HB.out)
                clear HB hqq
                go_wp2_with fail
                go_roundw
                case rel => exact ⟨p + 1, by omega, by go_num, Lib.hid (by rw [← HN.out]; exact HB2.out), hb⟩
                case measure => simp [intOf]; omega
        · have tk : decide ((p : Int) < 1001) = false := by simp; omega
          have hp1 : p = 1001 := by omega
          have HB2 := Lib.hid (show CellsAt wo B 4 (bools (fun t => met t || metE once again t) n) from by rw [← HE.out, ← hp1]; exact HB.out)
          clear HB hp1
          go_wp2_with fail
          go_end0
          exact ⟨rfl, HB2.out, hb⟩
end Go.Proofs.Ytdbbdlobahalkaa
namespace Go.Proofs.Ytdbbdlobahalkaa
open Go.ChangeShapes Go.WideShapes Go.ChangeAt Go.RowKit
set_option linter.unusedVariables false
attribute [local go_sem ↓] Go.wp_at_zero Go.wp_at_succ

/-- Of 1 to k those that f takes. -/
def outL (f : Nat → Bool) : Nat → List Int
  | 0 => []
  | k + 1 => outL f k ++ (if f (k + 1) then [((k + 1 : Nat) : Int)] else [])
theorem outL_len (f : Nat → Bool) : ∀ k, (outL f k).length ≤ k
  | 0 => by simp [outL]
  | k + 1 => by
    have := outL_len f k
    rw [outL, List.length_append]
    split <;> simp <;> omega
theorem outL_is (d : Int → Int) (f : Nat → Bool) : ∀ k : Nat, (∀ t : Nat, 1 ≤ t → t ≤ k → f t = (d t != d ((t : Int) - 1))) → outL f k = (stepsV d k).map fun (n : Nat) => (n : Int)
  | 0, _ => by simp [outL, stepsV]
  | k + 1, h => by
    rw [outL, outL_is d f k fun t h1 h2 => h t h1 (by omega), stepsV_next, h (k + 1) (by omega) (Nat.le_refl _)]
    have e : ((k + 1 : Nat) : Int) - 1 = k := by omega
    have e2 : ((k + 1 : Nat) : Int) = (k : Int) + 1 := by omega
    rw [e, e2]
    by_cases hd : d ((k : Int) + 1) = d (k : Int)
    · rw [if_pos hd, hd]; simp
    · rw [if_neg hd, if_pos (by simpa using hd), List.map_append]; simp [e2]
theorem ownsD_hold {w W : World} {base e sz : Nat} {v : Value} {n : Nat} {xs : List Value} (h : w.ownsRow base e sz v n xs) (hb : Below w.heap.size w W) : W.ownsRow base e sz v n xs := owns_later h hb
set_option maxRecDepth 100000 in
set_option maxHeartbeats 4000000 in
theorem steps_any (ta sa da : Option Addr) (tn tc sn sc dn dc : Nat) (x0 x1 x2 : Int) (most : Int) (high : Bool) (w : World) (lo hi : Nat) (p : Pt) (htn : p.ts.length = tn) (hsn : p.ss.length = sn)
    (hts : Lies w lo hi (.slice ta tn tc) tn 6 (p.ts.flatMap Tk.cells)) (hss : Lies w lo hi (.slice sa sn sc) sn 3 (p.ss.flatMap Sv.cells)) (hhi : hi ≤ w.heap.size) (ht2 : tn ≤ 1000000) (hs2 : sn ≤ 1000000) (K : Nat) (hK : min (max most 0) 65536 = (K : Int)) :
    Calls Try.prog 73 #[.agg #[.slice ta tn tc, .slice sa sn sc, .slice da dn dc, .int .u8 x0, .int .u8 x1, .int .u8 x2], .int .i64 most, .bool high] w fun e w' => ∃ a cap, e = .returned (.slice a (outL (metE (onceV p high) (againV p high)) K).length cap) ∧ w'.ownsRow w.heap.size 3 1 (.slice a (outL (metE (onceV p high) (againV p high)) K).length cap) (outL (metE (onceV p high) (againV p high)) K).length ((outL (metE (onceV p high) (againV p high)) K).flatMap intCells) ∧ Below w.heap.size w w' := by
  obtain ⟨i0, hi0, hz0, hz1, hz2⟩ := info_parts Try.infoInt
  obtain ⟨i1, hi1, hy0, hy1, hy2⟩ := info_parts Try.infoBoolT
  have HI := Lib.hid hi0; have HJ := Lib.hid hi1
  have hK2 : K ≤ 65536 := by omega
  have HK := Lib.hid hK
  obtain ⟨f, hf⟩ : ∃ f, f = metE (onceV p high) (againV p high) := ⟨_, rfl⟩
  rw [← hf]
  have HF := Lib.hid hf
  have H0 : Hid (∀ i, againV p high 0 i = false) := Lib.hid (fun i => by
    unfold againV
    rw [Bool.or_eq_false_iff, List.any_eq_false, List.any_eq_false]
    constructor
    · intro k _ hm
      unfold mTk countsB at hm
      simp at hm
      have := okTk_t hm.1.1
      omega
    · intro s _ hm
      unfold mSv at hm
      simp at hm
      have := okSv_t hm.1.1
      omega)
  obtain ⟨V, hV⟩ : ∃ V, V = w.alloc (.cells #[.slice ta tn tc, .slice sa sn sc, .slice da dn dc, .int .u8 x0, .int .u8 x1, .int .u8 x2] 58) := ⟨_, rfl⟩
  have ks : ∀ W : World, Below V.heap.size V W → W.cell? ⟨w.heap.size, 0, none⟩ = some (.slice ta tn tc) ∧ W.cell? ⟨w.heap.size, 1, none⟩ = some (.slice sa sn sc) ∧ W.cell? ⟨w.heap.size, 2, none⟩ = some (.slice da dn dc) ∧ W.cell? ⟨w.heap.size, 3, none⟩ = some (.int .u8 x0) ∧ W.cell? ⟨w.heap.size, 4, none⟩ = some (.int .u8 x1) ∧ W.cell? ⟨w.heap.size, 5, none⟩ = some (.int .u8 x2) := fun W h => by
    rw [hV] at h
    have k := box_says w #[.slice ta tn tc, .slice sa sn sc, .slice da dn dc, .int .u8 x0, .int .u8 x1, .int .u8 x2] 58 W h
    exact ⟨k 0 _ rfl, k 1 _ rfl, k 2 _ rfl, k 3 _ rfl, k 4 _ rfl, k 5 _ rfl⟩
  have hBV : Below w.heap.size w V := by rw [hV]; exact below1 _ _
  have hVw : w.heap.size < V.heap.size := by rw [hV]; simp
  have CN := Lib.hid (fun (W : World) (hb : Below V.heap.size V W) =>
    newRises_any ta sa da tn tc sn sc dn dc x0 x1 x2 high W lo hi p.ts p.ss htn hsn (hts.keep (SameIn.of_below (hBV.trans (hb.mono (Nat.le_of_lt hVw))) hhi)) (hss.keep (SameIn.of_below (hBV.trans (hb.mono (Nat.le_of_lt hVw))) hhi)) (Nat.le_trans hhi (Nat.le_trans (Nat.le_of_lt hVw) hb.size)) ht2 hs2)
  have KS := Lib.hid ks; have HV := Lib.hid hV; have HBV := Lib.hid hBV
  have s1 : IntKind.i64.wrap ((K : Int) + 1) = ((K + 1 : Nat) : Int) := by rw [IntWalk.i64_in _ (by omega)]; omega
  clear hts hss htn hsn ks hV hBV hi0 hi1 hK hf
  go_enter Try.func73, Try.ntmps73
  go_wp2_with fail
  rw [← HV.out]
  go_wp2_with (first
    | (refine wpList_make_full _ (by rfl) (.tmp 12) (.tmp 12) 127 (by rfl) V.heap.size 4 i1 _ 1 Try.underlying127 HJ.out hy0 hy1 _ _ (K + 1) (K + 1) (K + 1) (by rfl) (by rfl) rfl rfl (by rw [hy2]; omega) (by simp [maxLen]; omega) (Nat.le_refl _) ?_; intro w2 hown2 hgrow2; have hbV1 := b_alloc (grown_below hgrow2) (Nat.le_refl _) (.cells #[.slice (some ⟨V.heap.size, 0, none⟩) (K + 1) (K + 1)] 127); obtain ⟨z0, z1, z2, z3, z4, z5⟩ := KS.out _ hbV1)
    | (go_at_call 87; refine (heldD_any most 65536 _ (by omega)).mono ?_; rintro e w1 ⟨rfl, rfl⟩; rw [HK.out])
    | (go_at_call 89; refine HE.out.mono ?_; rintro e w4 ⟨rfl, hB4, hb4⟩)
    | (go_at_call 88; refine (CN.out _ hbV1).mono ?_; rintro e w3 ⟨G, O, A, rfl, ⟨rows, hR⟩, hb3⟩
       have hB2 := made_at rfl hown2
       have hB3 := (hB2.later (below1 w2 (.cells #[.slice (some ⟨V.heap.size, 0, none⟩) (K + 1) (K + 1)] 127))).later hb3
       rw [bools_none] at hB3
       have hM3 : w3.heap[w2.heap.size]? = some (.cells #[.slice (some ⟨V.heap.size, 0, none⟩) (K + 1) (K + 1)] 127 (0, 0)) := (hb3.block _ (by simp)).trans (heap_alloc_new _ _)
       have hlt := hB2.lt
       have HE := Lib.hid (eachR_any hR H0.out hM3 hB3 (by omega) (by simp; omega) (by omega))
       have HM3 := Lib.hid hM3; have HB3 := Lib.hid hb3; have HV1 := Lib.hid hbV1; have HLT := Lib.hid hlt
       clear hR hB3 hM3 hB2 hlt hb3)
    | go_in)
  have HB4 := Lib.hid (show CellsAt w4 V.heap.size 4 (bools f (K + 1)) from by
    have := hB4
    rwa [show (fun t => false || metE (fun i => p.ss.any fun s => oSv high s i) (fun q i => p.ts.any (fun k => mTk high k q i) || p.ss.any fun s => mSv high s q i) t) = f from by rw [HF.out]; funext t; rw [Bool.false_or]; rfl] at this)
  obtain ⟨M, hM⟩ : ∃ M, M = w2.heap.size := ⟨_, rfl⟩
  have HM4 := Lib.hid (show w4.heap[M]? = some (.cells #[.slice (some ⟨V.heap.size, 0, none⟩) (K + 1) (K + 1)] 127 (0, 0)) from by
    rw [hM]
    exact hb4.at HM3.out (by have := HLT.out; omega))
  have HW4 := Lib.hid (show Below w.heap.size w w4 from by
    have h1 : Below w.heap.size w w3 := HBV.out.trans ((bel_thenD HV1.out (Nat.le_refl _) HB3.out).mono (Nat.le_of_lt hVw))
    exact h1.trans (hb4.below (Nat.le_of_lt hVw) h1.size))
  rw [← hM]
  clear hB4 hM hb4 z0 z1 z2 z3 z4 z5 s1 hown2 hgrow2 hbV1 HE HM3 HB3 HV1 HLT H0 CN HF KS
  go_wp2_with fail
  go_loopw [8, 9] (fun s8 i wr => ∃ (k nc : Nat) (na : Option Addr), k ≤ K ∧ s8 = .slice na (outL f k).length nc ∧ i = .int .i64 ((k + 1 : Nat) : Int) ∧ Hid (wr.ownsRow w4.heap.size 3 1 (.slice na (outL f k).length nc) (outL f k).length ((outL f k).flatMap intCells)) ∧ Below w4.heap.size w4 wr) (fun _ i _ => K + 2 - (intOf i).toNat)
  case atStart => exact ⟨0, 0, none, by omega, rfl, rfl, Lib.hid (World.ownsRow_nil _ _ _ _), Below.refl _ _⟩
  case round =>
    obtain ⟨k, nc, na, hk, rfl, rfl, HO, hb⟩ := hrel
    have hbs := hb.size
    have y0 : wr.cell? ⟨M, 0, none⟩ = some (.slice (some ⟨V.heap.size, 0, none⟩) (K + 1) (K + 1)) := cell_in ((hb.block M (lt_of_block HM4.out)).trans HM4.out) rfl
    by_cases hlt : k < K
    · have tk : decide (((k + 1 : Nat) : Int) < ((K + 1 : Nat) : Int)) = true := by simp; omega
      have tk2 : decide ((k : Int) + 1 < (K : Int) + 1) = true := by simp; omega
      have tk3 : decide (k < K) = true := by simp; omega
      have tk4 : decide ((k : Int) < (K : Int)) = true := by simp; omega
      have l0 : (0 : Int) ≤ ((k + 1 : Nat) : Int) := by omega
      have l1 : ((k + 1 : Nat) : Int) < ((K + 1 : Nat) : Int) := by omega
      have y1 := ((HB4.out.later hb).cell (bools_at (f := f) (show k + 1 < K + 1 by omega))).1
      have hil := outL_len f k
      cases hfk : f (k + 1) with
      | true =>
        rw [hfk] at y1
        have HN : Hid (outL f (k + 1) = outL f k ++ [((k + 1 : Nat) : Int)]) := Lib.hid (by rw [outL, hfk, if_pos rfl])
        have hap : ∀ W : World, W.heap = (wr.alloc (.cells #[.int .i64 ((k + 1 : Nat) : Int)] 3)).heap → W.ownsRow w4.heap.size 3 1 (.slice na (outL f k).length nc) (outL f k).length ((outL f k).flatMap intCells) ∧ Lies W wr.heap.size (wr.heap.size + 1) (.slice (some ⟨wr.heap.size, 0, none⟩) 1 1) 1 1 [.int .i64 ((k + 1 : Nat) : Int)] ∧ w4.heap.size ≤ W.heap.size := by
          intro W hW
          have hz : W.heap.size = wr.heap.size + 1 := by rw [hW]; simp
          refine ⟨owns_hold HO.out ⟨by omega, fun g hg => ?_⟩, one_lies (cs := #[.int .i64 ((k + 1 : Nat) : Int)]) (t := 3) (by rw [hW]; exact heap_alloc_new _ _) rfl, by omega⟩
          have := (owns_own HO.out g hg).2
          rw [hW, heap_at, if_neg (by omega)]
        have HAP := Lib.hid hap
        clear hfk hap
        go_wp2_with (first
          | (refine wpList_append_lie2 (by rfl) (.tmp 29) (.tmp 31) 48 (by rfl) w4.heap.size 3 i0 _ 1 8 Try.underlying48 HI.out hz0 hz1 hz2 rfl (by omega) (.slice na (outL f k).length nc) (outL f k).length ((outL f k).flatMap intCells) (by rfl) (HAP.out _ (by rfl)).1 (.slice (some ⟨wr.heap.size, 0, none⟩) 1 1) wr.heap.size (wr.heap.size + 1) 1 [.int .i64 ((k + 1 : Nat) : Int)] (by rfl) (HAP.out _ (by rfl)).2.1 (in_one _) ((outL f k).length + 1) rfl (by simp only [maxLen]; omega) (by omega) (HAP.out _ (by rfl)).2.2 ?_; intro ao cap' w6 hown6 hgrow6 hob6)
          | go_in)
        go_roundw
        case rel =>
          refine ⟨k + 1, cap', ao, by omega, by rw [HN.out]; simp, by go_num, Lib.hid ?_, (hb.alloc hbs _).grown hgrow6 (by simp; omega) (fun q hq => (owns_own HO.out q hq).1)⟩
          rw [HN.out, List.length_append, List.flatMap_append]
          exact hown6
        case measure => simp [intOf]; omega
      | false =>
        rw [hfk] at y1
        have HN : Hid (outL f (k + 1) = outL f k) := Lib.hid (by rw [outL, hfk]; simp)
        clear hfk
        go_wp2_with fail
        go_roundw
        case rel =>
          refine ⟨k + 1, nc, na, by omega, by rw [HN.out], by go_num, Lib.hid ?_, hb⟩
          rw [HN.out]; exact HO.out
        case measure => simp [intOf]; omega
    · have tk : decide (((k + 1 : Nat) : Int) < ((K + 1 : Nat) : Int)) = false := by simp; omega
      have tk2 : decide ((k : Int) + 1 < (K : Int) + 1) = false := by simp; omega
      have tk3 : decide (k < K) = false := by simp; omega
      have tk4 : decide ((k : Int) < (K : Int)) = false := by simp; omega
      obtain rfl : k = K := by omega
      go_wp2_with fail
      go_ret
      exact ⟨na, nc, rfl, owns_base HO.out HW4.out.size, HW4.out.trans (hb.mono HW4.out.size)⟩
end Go.Proofs.Ytdbbdlobahalkaa
