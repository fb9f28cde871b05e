/- Plain facts of a budget that is filled again in each period. -/
import Derived.Test.YtchbehnkkcjdgaaGreatChunkM
namespace Go.Proofs.YtchbehnkkcjdgaaGreat
open Go.ChangeShapes Go.WideShapes Go.ChangeAt Go.RowKit
set_option linter.unusedVariables false

/-- A budget: the tick of the last Go, free ticks, live chunks (At, Left), is it stopped. -/
structure Rd where
  (now free : Int) (live : List Bk) (stop : Bool)
def perOf (T start tick : Int) : Int := (tick - start) / T
def rGo (C T start : Int) (b : Rd) (now : Int) (busy : Bool) : Rd :=
  let f := if perOf T start b.now < perOf T start now then C - sumB b.live else b.free
  if busy && !b.stop && decide (0 < f) then ⟨now, 0, b.live ++ [⟨now, f⟩], b.stop⟩ else ⟨now, f, b.live, b.stop⟩
def rUse (b : Rd) : Rd := match b.live with
  | [] => b
  | x :: l => if x.n - 1 = 0 then ⟨b.now, b.free, l, b.stop⟩ else ⟨b.now, b.free, ⟨x.at_, x.n - 1⟩ :: l, b.stop⟩
def rUseOk (b : Rd) : Bool := !b.live.isEmpty
def rDone (b : Rd) : Rd := ⟨b.now, b.free + sumB b.live, [], b.stop⟩
def rStop (b : Rd) (v : Bool) : Rd := ⟨b.now, b.free, b.live, v⟩
def rReset (C : Int) (b : Rd) : Rd := ⟨b.now, C, [], false⟩
def rDue (T : Int) (b : Rd) : Int := match b.live with
  | [] => 0
  | x :: _ => x.at_ + T
/-- What holds of every budget. -/
structure RdOk (C M : Int) (b : Rd) : Prop where
  f0 : 0 ≤ b.free
  n0 : 0 ≤ b.now ∧ b.now ≤ M
  lv : ∀ x ∈ b.live, 0 ≤ x.at_ ∧ x.at_ ≤ b.now ∧ 1 ≤ x.n
  all : b.free + sumB b.live ≤ C
theorem sumB_pos (l : List Bk) (h : ∀ x ∈ l, 1 ≤ x.n) : 0 ≤ sumB l := by have := sumB_len l h; omega
section
variable {C T M start : Int} {b : Rd}
theorem RdOk.bounds (h : RdOk C M b) : b.free ≤ C ∧ (b.live.length : Int) ≤ C ∧ 0 ≤ sumB b.live ∧ sumB b.live ≤ C := by
  have h1 := sumB_len b.live (fun x hx => (h.lv x hx).2.2)
  have h2 := h.f0
  have h3 := h.all
  omega
theorem RdOk.stopped (h : RdOk C M b) (v : Bool) : RdOk C M (rStop b v) := ⟨h.f0, h.n0, h.lv, h.all⟩
theorem RdOk.begin_ (hC : 0 ≤ C) {s : Int} (h0 : 0 ≤ s) (h1 : s ≤ M) : RdOk C M ⟨s, C, [], false⟩ := ⟨hC, ⟨h0, h1⟩, fun x hx => (by cases hx), by simp [sumB]⟩
theorem RdOk.reset (h : RdOk C M b) (hC : 0 ≤ C) : RdOk C M (rReset C b) := ⟨hC, h.n0, fun x hx => (by cases hx), by simp [rReset, sumB]⟩
/-- What is free behind the filling. -/
def fillV (C T start : Int) (b : Rd) (now : Int) : Int := if perOf T start b.now < perOf T start now then C - sumB b.live else b.free
theorem rGo_eq (b : Rd) (now : Int) (busy : Bool) : rGo C T start b now busy = if busy && !b.stop && decide (0 < fillV C T start b now) then ⟨now, 0, b.live ++ [⟨now, fillV C T start b now⟩], b.stop⟩ else ⟨now, fillV C T start b now, b.live, b.stop⟩ := rfl
theorem fillV_bd (h : RdOk C M b) (now : Int) : 0 ≤ fillV C T start b now ∧ fillV C T start b now + sumB b.live ≤ C := by
  have h1 := h.bounds
  have h2 := h.f0
  have h3 := h.all
  unfold fillV; split <;> omega
theorem RdOk.go (h : RdOk C M b) {now : Int} (h0 : b.now ≤ now) (h1 : now ≤ M) (busy : Bool) : RdOk C M (rGo C T start b now busy) := by
  have hf := fillV_bd (T := T) (start := start) h now
  have hn := h.n0
  rw [rGo_eq]
  split
  · rename_i hb
    simp only [Bool.and_eq_true, decide_eq_true_eq] at hb
    refine ⟨Int.le_refl _, ⟨by show 0 ≤ now; omega, h1⟩, fun x hx => ?_, ?_⟩
    · rcases List.mem_append.1 hx with hx | hx
      · have := h.lv x hx; exact ⟨this.1, by show x.at_ ≤ now; omega, this.2.2⟩
      · rw [List.mem_singleton.1 hx]; exact ⟨by show 0 ≤ now; omega, Int.le_refl _, by show 1 ≤ fillV C T start b now; omega⟩
    · show 0 + sumB (b.live ++ _) ≤ C
      rw [sumB_append]
      simp only [sumB, List.map_cons, List.map_nil, List.sum_cons, List.sum_nil] at hf ⊢
      omega
  · exact ⟨hf.1, ⟨by show 0 ≤ now; omega, h1⟩, fun x hx => by have := h.lv x hx; exact ⟨this.1, by show x.at_ ≤ now; omega, this.2.2⟩, hf.2⟩
theorem RdOk.use (h : RdOk C M b) : RdOk C M (rUse b) := by
  obtain ⟨nw, f, lv, st⟩ := b
  cases lv with
  | nil => exact h
  | cons x l =>
    have hx := h.lv x (List.mem_cons_self ..)
    have ha := h.all
    have hl : ∀ y ∈ l, 0 ≤ y.at_ ∧ y.at_ ≤ nw ∧ 1 ≤ y.n := fun y hy => h.lv y (List.mem_cons_of_mem _ hy)
    simp only [sumB, List.map_cons, List.sum_cons] at ha
    unfold rUse
    dsimp only
    split
    · exact ⟨h.f0, h.n0, hl, by show f + sumB l ≤ C; unfold sumB; omega⟩
    · refine ⟨h.f0, h.n0, fun y hy => ?_, ?_⟩
      · rcases List.mem_cons.1 hy with hy | hy
        · rw [hy]; exact ⟨hx.1, hx.2.1, by show 1 ≤ x.n - 1; omega⟩
        · exact hl y hy
      · show f + sumB (_ :: l) ≤ C
        simp only [sumB, List.map_cons, List.sum_cons]; omega
theorem RdOk.done (h : RdOk C M b) : RdOk C M (rDone b) := by
  have hb := h.bounds
  have ha := h.all
  have hf := h.f0
  exact ⟨by show 0 ≤ b.free + sumB b.live; omega, h.n0, fun x hx => (by cases hx), by show b.free + sumB b.live + sumB [] ≤ C; simp only [sumB, List.map_nil, List.sum_nil] at ha ⊢; omega⟩
/-! ### never more -/
/-- The ticks used of chunks of a period. -/
def cntP (T start : Int) (fr : List Int) (p : Int) : Nat := (fr.filter (fun x => perOf T start x == p)).length
/-- What is left of chunks of a period; and of those before. -/
def leftP (T start p : Int) (l : List Bk) : Int := (l.map fun x => if perOf T start x.at_ = p then x.n else 0).sum
def leftB (T start p : Int) (l : List Bk) : Int := (l.map fun x => if perOf T start x.at_ < p then x.n else 0).sum
theorem leftP_append (p : Int) (l m : List Bk) : leftP T start p (l ++ m) = leftP T start p l + leftP T start p m := by simp [leftP]
theorem leftB_append (p : Int) (l m : List Bk) : leftB T start p (l ++ m) = leftB T start p l + leftB T start p m := by simp [leftB]
theorem leftP_pos (p : Int) (l : List Bk) (h : ∀ x ∈ l, 1 ≤ x.n) : 0 ≤ leftP T start p l := by
  induction l with
  | nil => simp [leftP]
  | cons x l ih =>
    have i1 := ih (fun y hy => h y (List.mem_cons_of_mem _ hy))
    have i2 := h x (List.mem_cons_self ..)
    simp only [leftP, List.map_cons, List.sum_cons] at i1 ⊢
    split <;> omega
theorem left_both (p : Int) (l : List Bk) (h : ∀ x ∈ l, perOf T start x.at_ ≤ p) : leftP T start p l + leftB T start p l = sumB l := by
  induction l with
  | nil => simp [leftP, leftB, sumB]
  | cons x l ih =>
    have i1 := ih (fun y hy => h y (List.mem_cons_of_mem _ hy))
    have i2 := h x (List.mem_cons_self ..)
    simp only [leftP, leftB, sumB, List.map_cons, List.sum_cons] at i1 ⊢
    split <;> split <;> omega
theorem leftP_none (p : Int) (l : List Bk) (h : ∀ x ∈ l, perOf T start x.at_ < p) : leftP T start p l = 0 := by
  induction l with
  | nil => simp [leftP]
  | cons x l ih =>
    have i1 := ih (fun y hy => h y (List.mem_cons_of_mem _ hy))
    have i2 := h x (List.mem_cons_self ..)
    simp only [leftP, List.map_cons, List.sum_cons] at i1 ⊢
    rw [if_neg (by omega)]; omega
theorem perOf_mono (hT : 1 ≤ T) {x y : Int} (h : x ≤ y) : perOf T start x ≤ perOf T start y := by
  unfold perOf; exact Int.ediv_le_ediv (by omega) (by omega)
/-- How a budget was used. -/
structure NeverR (C T start : Int) (b : Rd) (fr : List Int) : Prop where
  lt : ∀ p, perOf T start b.now < p → cntP T start fr p = 0
  eq : (cntP T start fr (perOf T start b.now) : Int) + b.free + sumB b.live ≤ C
  gt : ∀ p, p < perOf T start b.now → (cntP T start fr p : Int) + leftP T start p b.live ≤ C
theorem NeverR.go (hT : 1 ≤ T) {fr : List Int} (h : NeverR C T start b fr) (ok : RdOk C M b) {now : Int} (h0 : b.now ≤ now) (busy : Bool) : NeverR C T start (rGo C T start b now busy) fr := by
  have hm := perOf_mono (start := start) hT h0
  have hlv : ∀ x ∈ b.live, perOf T start x.at_ ≤ perOf T start b.now := fun x hx => perOf_mono hT (ok.lv x hx).2.1
  have hn : ∀ x ∈ b.live, 1 ≤ x.n := fun x hx => (ok.lv x hx).2.2
  have hb2 := left_both (perOf T start b.now) b.live hlv
  have key : (cntP T start fr (perOf T start now) : Int) + fillV C T start b now + sumB b.live ≤ C := by
    unfold fillV
    by_cases h1 : perOf T start b.now < perOf T start now
    · rw [if_pos h1, h.lt _ h1]; simp
    · rw [if_neg h1, show perOf T start now = perOf T start b.now by omega]; exact h.eq
  have old : ∀ p, p < perOf T start now → (cntP T start fr p : Int) + leftP T start p b.live ≤ C := fun p hp => by
    by_cases h1 : p < perOf T start b.now
    · exact h.gt p h1
    · by_cases h2 : p = perOf T start b.now
      · subst h2
        have h3 := h.eq
        have h4 := ok.f0
        have h5 : 0 ≤ leftB T start (perOf T start b.now) b.live := by
          have : ∀ l : List Bk, (∀ x ∈ l, 1 ≤ x.n) → 0 ≤ leftB T start (perOf T start b.now) l := by
            intro l
            induction l with
            | nil => intro _; simp [leftB]
            | cons z l ih =>
              intro hz
              have i1 := ih (fun y hy => hz y (List.mem_cons_of_mem _ hy))
              have i2 := hz z (List.mem_cons_self ..)
              simp only [leftB, List.map_cons, List.sum_cons] at i1 ⊢
              split <;> omega
          exact this _ hn
        omega
      · rw [h.lt p (by omega), leftP_none p b.live (fun x hx => by have := hlv x hx; omega)]
        have := h.eq
        have h4 := ok.f0
        have h5 := sumB_pos b.live hn
        simp; omega
  rw [rGo_eq]
  split
  · refine ⟨fun p hp => h.lt p (by have : perOf T start now < p := hp; omega), ?_, fun p hp => ?_⟩
    · show (cntP T start fr (perOf T start now) : Int) + 0 + sumB (b.live ++ _) ≤ C
      rw [sumB_append]
      simp only [sumB, List.map_cons, List.map_nil, List.sum_cons, List.sum_nil] at key ⊢
      omega
    · have hp' : p < perOf T start now := hp
      show (cntP T start fr p : Int) + leftP T start p (b.live ++ _) ≤ C
      rw [leftP_append]
      have e1 : leftP T start p [⟨now, fillV C T start b now⟩] = 0 := by simp only [leftP, List.map_cons, List.map_nil, List.sum_cons, List.sum_nil]; rw [if_neg (by omega)]; rfl
      rw [e1]
      have := old p hp'
      omega
  · exact ⟨fun p hp => h.lt p (by have : perOf T start now < p := hp; omega), key, fun p hp => old p hp⟩
theorem cntP_snoc (fr : List Int) (x p : Int) : cntP T start (fr ++ [x]) p = cntP T start fr p + (if perOf T start x = p then 1 else 0) := by
  unfold cntP
  rw [List.filter_append, List.length_append, List.filter_cons]
  by_cases h : perOf T start x = p
  · simp [h]
  · simp [h]
theorem NeverR.use (hT : 1 ≤ T) {fr : List Int} {x : Bk} {l : List Bk} (h : NeverR C T start b fr) (ok : RdOk C M b) (hl : b.live = x :: l) : NeverR C T start (rUse b) (fr ++ [x.at_]) := by
  obtain ⟨nw, f, lv, st⟩ := b
  dsimp only at hl
  subst hl
  have hx := ok.lv x (List.mem_cons_self ..)
  have hp := perOf_mono (start := start) hT hx.2.1
  have heq := h.eq
  have hgt := h.gt
  dsimp only at hp heq hgt
  unfold rUse
  dsimp only
  split
  · refine ⟨fun p hp' => ?_, ?_, fun p hp' => ?_⟩
    · rw [cntP_snoc, h.lt p hp', if_neg (by have : perOf T start nw < p := hp'; omega)]
    · show ((cntP T start (fr ++ [x.at_]) (perOf T start nw) : Nat) : Int) + f + sumB l ≤ C
      rw [cntP_snoc]
      simp only [sumB, List.map_cons, List.sum_cons] at heq ⊢
      split <;> push_cast <;> omega
    · have h1 := hgt p hp'
      show ((cntP T start (fr ++ [x.at_]) p : Nat) : Int) + leftP T start p l ≤ C
      rw [cntP_snoc]
      simp only [leftP, List.map_cons, List.sum_cons] at h1 ⊢
      split at h1
      · rename_i h2; rw [if_pos h2]; push_cast; omega
      · rename_i h2; rw [if_neg h2]; push_cast; omega
  · refine ⟨fun p hp' => ?_, ?_, fun p hp' => ?_⟩
    · rw [cntP_snoc, h.lt p hp', if_neg (by have : perOf T start nw < p := hp'; omega)]
    · show ((cntP T start (fr ++ [x.at_]) (perOf T start nw) : Nat) : Int) + f + sumB (_ :: l) ≤ C
      rw [cntP_snoc]
      simp only [sumB, List.map_cons, List.sum_cons] at heq ⊢
      split <;> push_cast <;> omega
    · have h1 := hgt p hp'
      show ((cntP T start (fr ++ [x.at_]) p : Nat) : Int) + leftP T start p (_ :: l) ≤ C
      rw [cntP_snoc]
      simp only [leftP, List.map_cons, List.sum_cons] at h1 ⊢
      split at h1
      · rename_i h2; rw [if_pos h2, if_pos h2]; push_cast; omega
      · rename_i h2; rw [if_neg h2, if_neg h2]; push_cast; omega
theorem NeverR.done {fr : List Int} (h : NeverR C T start b fr) (ok : RdOk C M b) : NeverR C T start (rDone b) fr := by
  have he := h.eq
  refine ⟨h.lt, ?_, fun p hp => ?_⟩
  · show (cntP T start fr (perOf T start b.now) : Int) + (b.free + sumB b.live) + sumB [] ≤ C
    simp only [sumB, List.map_nil, List.sum_nil] at he ⊢
    omega
  · have h1 := h.gt p hp
    have h2 := leftP_pos (T := T) (start := start) p b.live (fun x hx => (ok.lv x hx).2.2)
    show (cntP T start fr p : Int) + leftP T start p [] ≤ C
    simp only [leftP, List.map_nil, List.sum_nil] at h1 h2 ⊢
    omega
theorem NeverR.stopped {fr : List Int} (h : NeverR C T start b fr) (v : Bool) : NeverR C T start (rStop b v) fr := ⟨h.lt, h.eq, h.gt⟩
theorem NeverR.begin_ (hC : 0 ≤ C) (T s : Int) : NeverR C T s ⟨s, C, [], false⟩ [] := ⟨fun _ _ => rfl, by show ((0 : Nat) : Int) + C + sumB [] ≤ C; simp [sumB], fun p _ => by show ((0 : Nat) : Int) + leftP T s p [] ≤ C; simp [leftP]; exact hC⟩
/-- The ticks used of chunks of m periods from p on. -/
def cntPs (T start : Int) (fr : List Int) (p : Int) (m : Nat) : Nat := (fr.filter (fun x => decide (p ≤ perOf T start x) && decide (perOf T start x < p + m))).length
theorem cntPs_le {fr : List Int} (h : ∀ p, (cntP T start fr p : Int) ≤ C) (p : Int) : ∀ m : Nat, (cntPs T start fr p m : Int) ≤ m * C
  | 0 => by
    have : cntPs T start fr p 0 = 0 := by
      unfold cntPs
      rw [List.length_eq_zero_iff, List.filter_eq_nil_iff]
      intro x _
      simp
    rw [this]; simp
  | m + 1 => by
    have ih := cntPs_le h p m
    have h1 := h (p + m)
    have e : cntPs T start fr p (m + 1) = cntPs T start fr p m + cntP T start fr (p + m) := by
      clear ih h1 h
      unfold cntPs cntP
      induction fr with
      | nil => rfl
      | cons x l il =>
        simp only [List.filter_cons]
        by_cases a1 : p ≤ perOf T start x
        · by_cases a2 : perOf T start x < p + m
          · simp only [a1, a2, decide_true, Bool.and_self, show decide (perOf T start x < p + ((m + 1 : Nat) : Int)) = true by simp; omega, show (perOf T start x == p + (m : Int)) = false by simp; omega, if_true, List.length_cons]
            simp only [Bool.false_eq_true, if_false]
            omega
          · by_cases a3 : perOf T start x = p + m
            · simp only [a1, a2, decide_true, decide_false, Bool.and_false, Bool.and_self, show decide (perOf T start x < p + ((m + 1 : Nat) : Int)) = true by simp; omega, show (perOf T start x == p + (m : Int)) = true by simp; omega, if_true, List.length_cons]
              simp only [Bool.false_eq_true, if_false]
              omega
            · simp only [a1, a2, decide_true, decide_false, Bool.and_false, show decide (perOf T start x < p + ((m + 1 : Nat) : Int)) = false by simp; omega, show (perOf T start x == p + (m : Int)) = false by simp; omega]
              simp only [Bool.false_eq_true, if_false]
              exact il
        · simp only [a1, decide_false, Bool.false_and, show (perOf T start x == p + (m : Int)) = false by simp; omega]
          simp only [Bool.false_eq_true, if_false]
          exact il
    rw [e]
    push_cast
    rw [Int.add_mul]
    omega
/-- P1804: of chunks from x on, due until y + T. -/
theorem never_moreR (hT : 1 ≤ T) {fr : List Int} (h : NeverR C T start b fr) (ok : RdOk C M b) {x y : Int} (hxy : x ≤ y) : ((fr.filter (fun z => decide (x ≤ z) && decide (z ≤ y))).length : Int) ≤ C * ((y + T - x - 1) / T + 1) := by
  have hC : 0 ≤ C := by have := ok.bounds; have := ok.f0; omega
  have hw : ∀ p, (cntP T start fr p : Int) ≤ C := fun p => by
    have hn : ∀ x ∈ b.live, 1 ≤ x.n := fun x hx => (ok.lv x hx).2.2
    rcases Int.lt_trichotomy p (perOf T start b.now) with h1 | h1 | h1
    · have := h.gt p h1
      have := leftP_pos (T := T) (start := start) p b.live hn
      omega
    · subst h1
      have := h.eq
      have := ok.f0
      have := sumB_pos b.live hn
      omega
    · rw [h.lt p h1]; exact hC
  have hm := perOf_mono (start := start) hT hxy
  obtain ⟨m, hme⟩ : ∃ m : Nat, (m : Int) = perOf T start y - perOf T start x + 1 := ⟨(perOf T start y - perOf T start x + 1).toNat, by omega⟩
  have h1 := cntPs_le hw (perOf T start x) m
  have hle : (fr.filter (fun z => decide (x ≤ z) && decide (z ≤ y))).length ≤ cntPs T start fr (perOf T start x) m := by
    unfold cntPs
    clear h1 hw h
    induction fr with
    | nil => simp
    | cons z l ih =>
      simp only [List.filter_cons]
      by_cases a1 : x ≤ z
      · by_cases a2 : z ≤ y
        · have b1 := perOf_mono (start := start) hT a1
          have b2 := perOf_mono (start := start) hT a2
          simp only [a1, a2, decide_true, Bool.and_self, show decide (perOf T start x ≤ perOf T start z) = true by simp; omega, show decide (perOf T start z < perOf T start x + (m : Int)) = true by simp; omega, if_true, List.length_cons]
          omega
        · simp only [a1, a2, decide_true, decide_false, Bool.and_false]
          simp only [Bool.false_eq_true, if_false]
          split
          · rw [List.length_cons]; omega
          · exact ih
      · simp only [a1, decide_false, Bool.false_and]
        simp only [Bool.false_eq_true, if_false]
        split
        · rw [List.length_cons]; omega
        · exact ih
  have hq : (m : Int) ≤ (y + T - x - 1) / T + 1 := by
    rw [hme]
    unfold perOf
    have e1 := Int.emod_add_mul_ediv (y - start) T
    have e2 := Int.emod_add_mul_ediv (x - start) T
    have g1 := Int.emod_nonneg (y - start) (show T ≠ 0 by omega)
    have g2 := Int.emod_lt_of_pos (x - start) (show 0 < T by omega)
    have : (y - start) / T - (x - start) / T ≤ (y + T - x - 1) / T := by
      rw [Int.le_ediv_iff_mul_le (by omega)]
      rw [Int.sub_mul, Int.mul_comm ((y - start) / T), Int.mul_comm ((x - start) / T)]
      omega
    omega
  have h2 : (m : Int) * C ≤ ((y + T - x - 1) / T + 1) * C := Int.mul_le_mul_of_nonneg_right hq hC
  have e9 : ((y + T - x - 1) / T + 1) * C = C * ((y + T - x - 1) / T + 1) := Int.mul_comm _ _
  rw [e9] at h2
  omega
end
end Go.Proofs.YtchbehnkkcjdgaaGreat
