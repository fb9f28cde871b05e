/- Where demand rises, in memory: the closure that marks, the rows by periods, what a task and a server add. -/
import Derived.Test.YtlmgphomklpplaaDemandS
import Derived.Test.YtlmgphomklpplaaDemandQ
import Derived.Test.YtlmgphomklpplaaCells
import Derived.Deep.RegionHeld3
import Derived.BigRegion
namespace Go.Proofs.Ytlmgphomklpplaa
open Go.ChangeShapes Go.WideShapes Go.ChangeAt Go.RowKit
set_option linter.unusedVariables false

theorem Try.infoBool : (Try.prog.info? 4).map (fun i => (i.zero, i.size, i.bytes)) = some (some (.bool false), 1, 1) := by kernel_rfl
theorem Try.infoBools : (Try.prog.info? 59).map (fun i => (i.zero, i.size, i.bytes)) = some (some (.slice none 0 0), 1, 24) := by kernel_rfl
/-- wpAnyH_take, the slot written out. -/
theorem wpAnyH_takeE {P : Program} {md : Region.Mode} {ops : Array Oper} {Q : Exit → Act → World → Prop} {S : World → Prop} {i : Nat} {oi : Oper} {d : Option Tmp} {v : Value} {fuel : Nat} {listed : Array Bool} {a : Act} {w : World} (hi : ops[i]? = some oi) (hd : oi.dst = d)
    (hs : Region.noSelect ops = true) (hf : Region.free md ops listed i = true) (hr : (Region.ready md ops listed).contains i = true)
    (hQ : ∀ c a w, Q (.panic c) (a.put d v) w → Q (.panic c) a w) (hy : YieldsIf P ops S oi v a) (hS : S w)
    (h : wpAnyH P md ops Q S fuel (listed.setIfInBounds i true) (a.put d v) w) : wpAnyH P md ops Q S (fuel + 1) listed a w := by
  subst hd
  exact wpAnyH_take hi hs hf hr hQ hy hS h
/-- The marks set so far: those of what begins at i, and comes again each e ticks, below c. -/
def metTo (met : Nat → Bool) (i e c : Nat) : Nat → Bool := fun t => met t || (hitB i e t && decide (t < c))
theorem metTo_start (met : Nat → Bool) (i e : Nat) : metTo met i e i = met := by
  funext t
  unfold metTo hitB
  by_cases h : i ≤ t
  · simp [show ¬ t < i by omega]
  · simp [h]
theorem metTo_end (met : Nat → Bool) {i e c n t : Nat} (hc : n ≤ c) (ht : t < n) : metTo met i e c t = (met t || hitB i e t) := by
  unfold metTo
  simp [show t < c by omega]
theorem metTo_next (met : Nat → Bool) {i e c : Nat} (he : 1 ≤ e) (hi : i ≤ c) (hm : (c - i) % e = 0) : (fun t => if t = c then true else metTo met i e c t) = metTo met i e (c + e) := by
  funext t
  unfold metTo
  by_cases h : t = c
  · subst h
    have : hitB i e t = true := by unfold hitB; simp [hi, hm]
    rw [if_pos rfl, this]
    simp [show t < t + e by omega]
  · rw [if_neg h]
    by_cases h1 : t < c
    · simp [h1, show t < c + e by omega]
    · by_cases h2 : t < c + e
      · have : hitB i e t = false := by
          unfold hitB
          rw [Bool.and_eq_false_iff]
          right
          have e1 : t - i = (c - i) + (t - c) := by omega
          have e2 : (t - i) % e = t - c := by
            rw [e1, Nat.add_mod, hm, Nat.zero_add, Nat.mod_mod, Nat.mod_eq_of_lt (by omega)]
          rw [e2]
          simp; omega
        simp [this]
      · simp [h1, h2]
set_option maxRecDepth 100000 in
set_option maxHeartbeats 2000000 in
theorem mark_any {w : World} {M B n : Nat} {met : Nat → Bool} (hM : w.heap[M]? = some (.cells #[.slice (some ⟨B, 0, none⟩) n n] 59 (0, 0))) (hB : CellsAt w B 4 (bools met n)) (hMB : M ≠ B) (hn : n ≤ 65537) (i e : Nat) (hi : i ≤ 1002) (he : 1 ≤ e) (he2 : e ≤ 65536) :
    Calls Try.prog 29 #[.int .i64 i, .int .i64 e, .pointer (some ⟨M, 0, none⟩)] w fun x w' => x = .returned (.tuple #[]) ∧ CellsAt w' B 4 (bools (fun t => met t || hitB i e t) n) ∧ But B w w' := by
  have HM := Lib.hid hM
  have HB := Lib.hid hB
  clear hM hB
  go_enter Try.func29, Try.ntmps29
  go_wp2_with fail
  go_loopw [5] (fun s wr => ∃ c : Nat, s = .int .i64 c ∧ c ≤ n + 66538 ∧ i ≤ c ∧ Hid ((c - i) % e = 0) ∧ Hid (CellsAt wr B 4 (bools (metTo met i e c) n)) ∧ But B w wr) (fun s _ => n + 70000 - (intOf s).toNat)
  case atStart => exact ⟨i, rfl, by omega, Nat.le_refl _, Lib.hid (by rw [Nat.sub_self, Nat.zero_mod]), by rw [metTo_start]; exact HB, But.refl _ _⟩
  case round =>
    clear HB
    obtain ⟨c, rfl, hc, hic, HC, HB, hb⟩ := hrel
    have HX := Lib.hid (hb.at HM.out hMB)
    have y0 : wr.cell? ⟨M, 0, none⟩ = some (.slice (some ⟨B, 0, none⟩) n n) := cell_in HX.out rfl
    by_cases hlt : c < n
    · have tk : decide ((c : Int) < (n : Int)) = true := by simpa using hlt
      obtain ⟨y1, y2⟩ := HB.out.cell (bools_at (f := metTo met i e c) hlt)
      have HFIN := Lib.hid (show CellsAt (wr.setCell ⟨B, c, none⟩ (.bool true)) B 4 (bools (metTo met i e (c + e)) n) ∧ But B w (wr.setCell ⟨B, c, none⟩ (.bool true)) ∧ (c + e - i) % e = 0 from by
        have h1 := HB.out.set c (.bool true)
        rw [bools_set, metTo_next met he hic HC.out] at h1
        refine ⟨h1, hb.set c _, ?_⟩
        rw [show c + e - i = (c - i) + e by omega, Nat.add_mod_right, HC.out])
      have l0 : (0 : Int) ≤ (c : Int) := by omega
      have l1 : (c : Int) < (n : Int) := by omega
      go_wp2_with fail
      go_roundw
      case rel => exact ⟨c + e, by go_num, by omega, by omega, Lib.hid HFIN.out.2.2, Lib.hid HFIN.out.1, HFIN.out.2.1⟩
      case measure => simp [intOf]; omega
    · have tk : decide ((c : Int) < (n : Int)) = false := by simp; omega
      have HF := Lib.hid (show CellsAt wr B 4 (bools (fun t => met t || hitB i e t) n) from by
        have h1 := HB.out
        rwa [bools_eq (fun t ht => metTo_end met (show n ≤ c by omega) ht)] at h1)
      go_wp2_with fail
      go_end0
      exact ⟨rfl, HF.out, hb⟩
/-- The rows by periods, as they stand in memory: none, or a block of their own. -/
def rowV (rows : Nat → Option Nat) (p : Nat) : Value :=
  match rows p with
  | none => .slice none 0 0
  | some B => .slice (some ⟨B, 0, none⟩) (p + 2) (p + 2)
def rowsL (rows : Nat → Option Nat) : List Value := (List.range 1001).map (rowV rows)
theorem rowsL_at {rows : Nat → Option Nat} {p : Nat} (h : p < 1001) : (rowsL rows)[p]? = some (rowV rows p) := by unfold rowsL; simp [h]
theorem rowsL_len (rows : Nat → Option Nat) : (rowsL rows).length = 1001 := by simp [rowsL]
theorem rowsL_set (rows : Nat → Option Nat) {P : Nat} (hP : P < 1001) (B : Nat) : (rowsL rows).set P (.slice (some ⟨B, 0, none⟩) (P + 2) (P + 2)) = rowsL (fun q => if q = P then some B else rows q) := by
  apply List.ext_getElem?
  intro i
  rw [List.getElem?_set, rowsL_len]
  by_cases hi : i < 1001
  · rw [rowsL_at (rows := rows) hi, rowsL_at (rows := fun q => if q = P then some B else rows q) hi]
    by_cases hj : P = i
    · subst hj; rw [if_pos rfl, if_pos hi]; unfold rowV; simp
    · rw [if_neg hj]; unfold rowV; simp [show ¬ i = P from fun e => hj e.symm]
  · rw [if_neg (by omega), List.getElem?_eq_none (by rw [rowsL_len]; omega), List.getElem?_eq_none (by rw [rowsL_len]; omega)]
theorem rowsL_none : rowsL (fun _ => none) = List.replicate 1001 (Value.slice none 0 0) := by
  unfold rowsL
  rw [show rowV (fun _ => none) = fun _ => Value.slice none 0 0 from funext fun p => rfl, List.map_const', List.length_range]
/-- Where demand rises, in memory. -/
structure Rises (w : World) (lo G O A : Nat) (once : Nat → Bool) (again : Nat → Nat → Bool) (rows : Nat → Option Nat) : Prop where
  box : w.heap[G]? = some (.cells #[.slice (some ⟨O, 0, none⟩) 1001 1001, .slice (some ⟨A, 0, none⟩) 1001 1001] 67 (0, 0))
  o : CellsAt w O 4 (bools once 1001)
  a : CellsAt w A 59 (rowsL rows)
  r : ∀ p B, p < 1001 → rows p = some B → lo ≤ B ∧ B ≠ G ∧ B ≠ O ∧ B ≠ A ∧ CellsAt w B 4 (bools (again p) (p + 2))
  n : ∀ p, p < 1001 → rows p = none → ∀ i, again p i = false
  apart : ∀ p q B, p < 1001 → q < 1001 → rows p = some B → rows q = some B → p = q
  loG : lo ≤ G
  loO : lo ≤ O
  loA : lo ≤ A
  GO : G ≠ O
  GA : G ≠ A
  OA : O ≠ A
section
variable {w w' : World} {lo G O A : Nat} {once : Nat → Bool} {again : Nat → Nat → Bool} {rows : Nat → Option Nat}
theorem Rises.later (h : Rises w lo G O A once again rows) (hb : Below w.heap.size w w') : Rises w' lo G O A once again rows :=
  { h with
    box := (hb.block G (lt_of_block h.box)).trans h.box
    o := h.o.later hb
    a := h.a.later hb
    r := fun p B hp hB => let ⟨h1, h2, h3, h4, h5⟩ := h.r p B hp hB; ⟨h1, h2, h3, h4, h5.later hb⟩ }
theorem Rises.but (h : Rises w lo G O A once again rows) {X : Nat} (hX : X < lo) (hb : But X w w') : Rises w' lo G O A once again rows :=
  { h with
    box := hb.at h.box (by have := h.loG; omega)
    o := h.o.but hb (by have := h.loO; omega)
    a := h.a.but hb (by have := h.loA; omega)
    r := fun p B hp hB => let ⟨h1, h2, h3, h4, h5⟩ := h.r p B hp hB; ⟨h1, h2, h3, h4, h5.but hb (by omega)⟩ }
theorem CellsAt.other {w : World} {G X : Nat} {T : TypeId} {vs : List Value} (h : CellsAt w G T vs) (j : Nat) (u : Value) (hne : G ≠ X) : CellsAt (w.setCell ⟨X, j, none⟩ u) G T vs :=
  (Below.heap_setCell w ⟨X, j, none⟩ u G hne).trans h
theorem Rises.mark (h : Rises w lo G O A once again rows) {P B j : Nat} (hP : P < 1001) (hB : rows P = some B) :
    Rises (w.setCell ⟨B, j, none⟩ (.bool true)) lo G O A once (fun q i => if q = P ∧ i = j then true else again q i) rows := by
  obtain ⟨h1, h2, h3, h4, h5⟩ := h.r P B hP hB
  refine { h with box := (Below.heap_setCell w ⟨B, j, none⟩ _ G (fun e => h2 e.symm)).trans h.box, o := h.o.other j _ (fun e => h3 e.symm), a := h.a.other j _ (fun e => h4 e.symm), r := fun p B' hp hB' => ?_, n := fun p hp hn i => ?_ }
  · obtain ⟨k1, k2, k3, k4, k5⟩ := h.r p B' hp hB'
    refine ⟨k1, k2, k3, k4, ?_⟩
    by_cases e : p = P
    · subst e
      obtain rfl : B' = B := by rw [hB] at hB'; cases hB'; rfl
      have := k5.set j (.bool true)
      rw [bools_set] at this
      simpa using this
    · have hne : B' ≠ B := fun e2 => e (h.apart p P B hp hP (by rw [← e2]; exact hB') hB)
      have := k5.other j (.bool true) hne
      simpa [e] using this
  · by_cases e : p = P
    · subst e; rw [hB] at hn; cases hn
    · simp [e, h.n p hp hn i]
theorem Rises.markOnce (h : Rises w lo G O A once again rows) (j : Nat) :
    Rises (w.setCell ⟨O, j, none⟩ (.bool true)) lo G O A (fun i => if i = j then true else once i) again rows := by
  refine { h with box := (Below.heap_setCell w ⟨O, j, none⟩ _ G h.GO).trans h.box, o := ?_, a := h.a.other j _ (fun e => h.OA e.symm), r := fun p B' hp hB' => ?_ }
  · have := h.o.set j (.bool true)
    rw [bools_set] at this
    exact this
  · obtain ⟨k1, k2, k3, k4, k5⟩ := h.r p B' hp hB'
    exact ⟨k1, k2, k3, k4, k5.other j _ k3⟩
theorem Rises.newRow (h : Rises w lo G O A once again rows) {P B : Nat} (hP : P < 1001) (hn : rows P = none) (hlo : lo ≤ w.heap.size) (hb : Below w.heap.size w w') (hBw : B = w.heap.size) (hB : CellsAt w' B 4 (bools (fun _ => false) (P + 2))) :
    Rises (w'.setCell ⟨A, P, none⟩ (.slice (some ⟨B, 0, none⟩) (P + 2) (P + 2))) lo G O A once again (fun q => if q = P then some B else rows q) := by
  have h2 := h.later hb
  have lG := lt_of_block h.box
  have lO := h.o.lt
  have lA := h.a.lt
  refine { h2 with box := (Below.heap_setCell w' ⟨A, P, none⟩ _ G h.GA).trans h2.box, o := h2.o.other P _ h.OA, a := ?_, r := fun p B' hp hB' => ?_, n := fun p hp hn' i => ?_, apart := fun p q B' hp hq e1 e2 => ?_ }
  · have := h2.a.set P (.slice (some ⟨B, 0, none⟩) (P + 2) (P + 2))
    rwa [rowsL_set rows hP] at this
  · by_cases e : p = P
    · subst e
      simp at hB'
      subst hB'
      have h0 : ∀ i, again p i = false := h.n p hp hn
      refine ⟨by omega, by omega, by omega, by omega, ?_⟩
      have := hB.other p (.slice (some ⟨B, 0, none⟩) (p + 2) (p + 2)) (X := A) (by omega)
      rwa [bools_eq (g := again p) (fun i _ => (h0 i).symm)] at this
    · simp [e] at hB'
      obtain ⟨k1, k2, k3, k4, k5⟩ := h2.r p B' hp hB'
      exact ⟨k1, k2, k3, k4, k5.other P _ k4⟩
  · by_cases e : p = P
    · subst e; simp at hn'
    · simp [e] at hn'
      exact h.n p hp hn' i
  · have lt : ∀ p B', p < 1001 → rows p = some B' → B' < w.heap.size := fun p B' hp hB' => (h.r p B' hp hB').2.2.2.2.lt
    by_cases c1 : p = P <;> by_cases c2 : q = P
    · omega
    · simp [c1] at e1; simp [c2] at e2
      have := lt q B' hq e2
      omega
    · simp [c1] at e1; simp [c2] at e2
      have := lt p B' hp e1
      omega
    · simp [c1] at e1; simp [c2] at e2
      exact h.apart p q B' hp hq e1 e2
end
end Go.Proofs.Ytlmgphomklpplaa
