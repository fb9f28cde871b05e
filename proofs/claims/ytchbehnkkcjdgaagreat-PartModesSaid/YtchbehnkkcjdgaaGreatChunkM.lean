/- Plain facts of a budget in chunks. -/
import Derived.Test.YtchbehnkkcjdgaaGreatBase
namespace Go.Proofs.YtchbehnkkcjdgaaGreat
open Go.ChangeShapes Go.WideShapes Go.ChangeAt Go.RowKit
set_option linter.unusedVariables false

structure Bk where
  (at_ n : Int)
def Bk.cells (k : Bk) : List Value := [.int .i64 k.at_, .int .i64 k.n]
/-- A budget: free ticks, live chunks (At, Left, Used), what will be back, is it stopped. -/
structure Bd where
  (free : Int) (live : List Wn) (backs : List Bk) (stop : Bool)
def sumB (l : List Bk) : Int := (l.map (·.n)).sum
def sumLeft (l : List Wn) : Int := (l.map (·.len)).sum
def sumUsed (l : List Wn) : Int := (l.map (·.part)).sum
def comeN (now : Int) (l : List Bk) : Int := sumB (l.filter (fun x => decide (x.at_ ≤ now)))
def stayN (now : Int) (l : List Bk) : List Bk := l.filter (fun x => !decide (x.at_ ≤ now))
def goB (b : Bd) (now : Int) (busy : Bool) : Bd :=
  if busy && !b.stop && decide (0 < b.free + comeN now b.backs) then ⟨0, b.live ++ [⟨now, b.free + comeN now b.backs, 0⟩], stayN now b.backs, b.stop⟩ else ⟨b.free + comeN now b.backs, b.live, stayN now b.backs, b.stop⟩
def useB (T : Int) (b : Bd) : Bd := match b.live with
  | [] => b
  | x :: l => if x.len - 1 = 0 then ⟨b.free, l, b.backs ++ [⟨x.at_ + T, x.part + 1⟩], b.stop⟩ else ⟨b.free, ⟨x.at_, x.len - 1, x.part + 1⟩ :: l, b.backs, b.stop⟩
def useOk (b : Bd) : Bool := !b.live.isEmpty
def usedBacks (T : Int) (l : List Wn) : List Bk := (l.filter (fun x => decide (0 < x.part))).map fun x => ⟨x.at_ + T, x.part⟩
def doneB (T : Int) (b : Bd) : Bd := ⟨b.free + sumLeft b.live, [], b.backs ++ usedBacks T b.live, b.stop⟩
def stopB (b : Bd) (v : Bool) : Bd := ⟨b.free, b.live, b.backs, v⟩
def resetB (C : Int) : Bd := ⟨C, [], [], false⟩
def dueV (T : Int) (b : Bd) : Int := match b.live with
  | [] => 0
  | x :: _ => x.at_ + T
/-- What holds of every budget of C ticks, each T: numbers up to M. -/
structure BdOk (C T M : Int) (b : Bd) : Prop where
  f0 : 0 ≤ b.free
  lv : ∀ x ∈ b.live, 0 ≤ x.at_ ∧ x.at_ ≤ M ∧ 1 ≤ x.len ∧ 0 ≤ x.part
  bk : ∀ x ∈ b.backs, 0 ≤ x.at_ ∧ x.at_ ≤ M + T ∧ 1 ≤ x.n
  all : b.free + sumLeft b.live + sumUsed b.live + sumB b.backs = C
theorem sumB_append (l m : List Bk) : sumB (l ++ m) = sumB l + sumB m := by simp [sumB]
theorem sumLeft_append (l m : List Wn) : sumLeft (l ++ m) = sumLeft l + sumLeft m := by simp [sumLeft]
theorem sumUsed_append (l m : List Wn) : sumUsed (l ++ m) = sumUsed l + sumUsed m := by simp [sumUsed]
theorem sumB_parts (now : Int) : ∀ l : List Bk, sumB l = comeN now l + sumB (stayN now l)
  | [] => rfl
  | x :: l => by
    have ih := sumB_parts now l
    unfold comeN stayN at ih ⊢
    by_cases h : x.at_ ≤ now
    · rw [List.filter_cons_of_pos (by simp [h]), List.filter_cons_of_neg (by simp [h])]
      simp only [sumB, List.map_cons, List.sum_cons] at ih ⊢; omega
    · rw [List.filter_cons_of_neg (by simp [h]), List.filter_cons_of_pos (by simp [h])]
      simp only [sumB, List.map_cons, List.sum_cons] at ih ⊢; omega
theorem sumB_len : ∀ l : List Bk, (∀ x ∈ l, 1 ≤ x.n) → (l.length : Int) ≤ sumB l
  | [], _ => by simp [sumB]
  | x :: l, h => by
    have ih := sumB_len l (fun y hy => h y (List.mem_cons_of_mem _ hy))
    have := h x (List.mem_cons_self ..)
    simp only [sumB, List.map_cons, List.sum_cons, List.length_cons] at ih ⊢; omega
theorem sumLeft_len : ∀ l : List Wn, (∀ x ∈ l, 1 ≤ x.len) → (l.length : Int) ≤ sumLeft l
  | [], _ => by simp [sumLeft]
  | x :: l, h => by
    have ih := sumLeft_len l (fun y hy => h y (List.mem_cons_of_mem _ hy))
    have := h x (List.mem_cons_self ..)
    simp only [sumLeft, List.map_cons, List.sum_cons, List.length_cons] at ih ⊢; omega
theorem sumUsed_pos : ∀ l : List Wn, (∀ x ∈ l, 0 ≤ x.part) → 0 ≤ sumUsed l
  | [], _ => by simp [sumUsed]
  | x :: l, h => by
    have ih := sumUsed_pos l (fun y hy => h y (List.mem_cons_of_mem _ hy))
    have := h x (List.mem_cons_self ..)
    simp only [sumUsed, List.map_cons, List.sum_cons] at ih ⊢; omega
theorem usedBacks_sum (T : Int) : ∀ l : List Wn, (∀ x ∈ l, 0 ≤ x.part) → sumB (usedBacks T l) = sumUsed l
  | [], _ => rfl
  | x :: l, h => by
    have ih := usedBacks_sum T l (fun y hy => h y (List.mem_cons_of_mem _ hy))
    have hx := h x (List.mem_cons_self ..)
    unfold usedBacks at ih ⊢
    by_cases h0 : 0 < x.part
    · rw [List.filter_cons_of_pos (by simp [h0])]
      simp only [sumB, sumUsed, List.map_cons, List.sum_cons] at ih ⊢; omega
    · rw [List.filter_cons_of_neg (by simp [h0])]
      simp only [sumB, sumUsed, List.map_cons, List.sum_cons] at ih ⊢; omega
theorem stayN_sub {now : Int} {l : List Bk} {x : Bk} (h : x ∈ stayN now l) : x ∈ l ∧ now < x.at_ := by
  have := List.mem_filter.1 h
  simp at this
  exact ⟨this.1, by omega⟩
theorem comeN_pos (now : Int) (l : List Bk) (h : ∀ x ∈ l, 1 ≤ x.n) : 0 ≤ comeN now l := by
  have := sumB_len (l.filter (fun x => decide (x.at_ ≤ now))) (fun x hx => h x (List.mem_filter.1 hx).1)
  unfold comeN; omega
section
variable {C T M : Int} {b : Bd}
theorem BdOk.bounds (h : BdOk C T M b) : b.free ≤ C ∧ (b.live.length : Int) ≤ C ∧ (b.backs.length : Int) ≤ C ∧ 0 ≤ sumLeft b.live ∧ 0 ≤ sumUsed b.live ∧ 0 ≤ sumB b.backs := by
  have h1 := sumB_len b.backs (fun x hx => (h.bk x hx).2.2)
  have h2 := sumLeft_len b.live (fun x hx => (h.lv x hx).2.2.1)
  have h3 := sumUsed_pos b.live (fun x hx => (h.lv x hx).2.2.2)
  have h4 := h.all
  have h5 := h.f0
  omega
theorem BdOk.start (hC : 0 ≤ C) (T M : Int) : BdOk C T M (resetB C) := ⟨hC, fun x hx => (by cases hx), fun x hx => (by cases hx), by simp [resetB, sumLeft, sumUsed, sumB]⟩
theorem BdOk.stopped (h : BdOk C T M b) (v : Bool) : BdOk C T M (stopB b v) := ⟨h.f0, h.lv, h.bk, h.all⟩
theorem BdOk.go (h : BdOk C T M b) {now : Int} (h0 : 0 ≤ now) (h1 : now ≤ M) (busy : Bool) : BdOk C T M (goB b now busy) := by
  have e := sumB_parts now b.backs
  have hc := comeN_pos now b.backs (fun x hx => (h.bk x hx).2.2)
  have ha := h.all
  have hf := h.f0
  unfold goB
  split
  · rename_i hb
    simp only [Bool.and_eq_true, decide_eq_true_eq] at hb
    refine ⟨Int.le_refl _, fun x hx => ?_, fun x hx => h.bk x (stayN_sub hx).1, ?_⟩
    · rcases List.mem_append.1 hx with hx | hx
      · exact h.lv x hx
      · rw [List.mem_singleton.1 hx]; exact ⟨h0, h1, by have := hb.2; show 1 ≤ b.free + comeN now b.backs; omega, Int.le_refl _⟩
    · rw [sumLeft_append, sumUsed_append]
      simp only [sumLeft, sumUsed, List.map_cons, List.map_nil, List.sum_cons, List.sum_nil] at ha ⊢
      omega
  · exact ⟨by show 0 ≤ b.free + comeN now b.backs; omega, h.lv, fun x hx => h.bk x (stayN_sub hx).1, by show b.free + comeN now b.backs + sumLeft b.live + sumUsed b.live + sumB (stayN now b.backs) = C; omega⟩
theorem BdOk.use (h : BdOk C T M b) (hT : 0 ≤ T) : BdOk C T M (useB T b) := by
  obtain ⟨f, lv, bk, st⟩ := b
  cases lv with
  | nil => exact h
  | cons x l =>
    have hx := h.lv x (List.mem_cons_self ..)
    have ha := h.all
    have hl : ∀ y ∈ l, 0 ≤ y.at_ ∧ y.at_ ≤ M ∧ 1 ≤ y.len ∧ 0 ≤ y.part := fun y hy => h.lv y (List.mem_cons_of_mem _ hy)
    simp only [sumLeft, sumUsed, List.map_cons, List.sum_cons] at ha
    unfold useB
    dsimp only
    split
    · refine ⟨h.f0, hl, fun y hy => ?_, ?_⟩
      · rcases List.mem_append.1 hy with hy | hy
        · exact h.bk y hy
        · rw [List.mem_singleton.1 hy]; exact ⟨by show 0 ≤ x.at_ + T; omega, by show x.at_ + T ≤ M + T; omega, by show 1 ≤ x.part + 1; omega⟩
      · show f + sumLeft l + sumUsed l + sumB (bk ++ _) = C
        rw [sumB_append]
        simp only [sumLeft, sumUsed, sumB, List.map_cons, List.map_nil, List.sum_cons, List.sum_nil] at ha ⊢
        omega
    · refine ⟨h.f0, fun y hy => ?_, h.bk, ?_⟩
      · rcases List.mem_cons.1 hy with hy | hy
        · rw [hy]; exact ⟨hx.1, hx.2.1, by show 1 ≤ x.len - 1; omega, by show 0 ≤ x.part + 1; omega⟩
        · exact hl y hy
      · show f + sumLeft (_ :: l) + sumUsed (_ :: l) + sumB bk = C
        simp only [sumLeft, sumUsed, List.map_cons, List.sum_cons]
        omega
theorem usedBacks_mem {l : List Wn} {y : Bk} (h : y ∈ usedBacks T l) : ∃ x ∈ l, 0 < x.part ∧ y.at_ = x.at_ + T ∧ y.n = x.part := by
  obtain ⟨x, hx, rfl⟩ := List.mem_map.1 h
  have := List.mem_filter.1 hx
  exact ⟨x, this.1, by simpa using this.2, rfl, rfl⟩
theorem BdOk.done (h : BdOk C T M b) (hT : 0 ≤ T) : BdOk C T M (doneB T b) := by
  have hb := h.bounds
  have ha := h.all
  have hf := h.f0
  refine ⟨by show 0 ≤ b.free + sumLeft b.live; omega, fun x hx => (by cases hx), fun y hy => ?_, ?_⟩
  · rcases List.mem_append.1 hy with hy | hy
    · exact h.bk y hy
    · obtain ⟨x, hx, h1, h2, h3⟩ := usedBacks_mem hy
      have := h.lv x hx
      omega
  · show b.free + sumLeft b.live + sumLeft [] + sumUsed [] + sumB (b.backs ++ usedBacks T b.live) = C
    rw [sumB_append, usedBacks_sum T b.live (fun x hx => (h.lv x hx).2.2.2)]
    simp only [sumLeft, sumUsed, List.map_nil, List.sum_nil] at ha ⊢
    omega
/-! ### never more -/
/-- The ticks used of chunks from a on, ahead of c. -/
def cntIn (fr : List Int) (a c : Int) : Nat := (fr.filter (fun x => decide (a ≤ x) && decide (x < c))).length
/-- What may yet be used of chunks from a on, ahead of c. -/
def potL (a c : Int) (l : List Wn) : Int := (l.map fun x => (if x.at_ < c then x.len else 0) + (if x.at_ < a then x.part else 0)).sum
def potB (c : Int) (l : List Bk) : Int := (l.map fun x => if x.at_ < c then x.n else 0).sum
def pot (a c now : Int) (b : Bd) : Int := (if now < c then b.free else 0) + potL a c b.live + potB c b.backs
theorem potL_append (a c : Int) (l m : List Wn) : potL a c (l ++ m) = potL a c l + potL a c m := by simp [potL]
theorem potB_append (c : Int) (l m : List Bk) : potB c (l ++ m) = potB c l + potB c m := by simp [potB]
/-- How a budget was used: now is the tick of the last Go. -/
structure Never (C T now : Int) (b : Bd) (fr : List Int) : Prop where
  lv : ∀ x ∈ b.live, x.at_ ≤ now
  w : ∀ a, (cntIn fr a (a + T) : Int) + pot a (a + T) now b ≤ C
theorem potB_parts (c now : Int) : ∀ l : List Bk, (∀ x ∈ l, 1 ≤ x.n) → potB c (stayN now l) + (if now < c then comeN now l else 0) ≤ potB c l
  | [], _ => by simp [potB, stayN, comeN, sumB]
  | x :: l, h => by
    have ih := potB_parts c now l (fun y hy => h y (List.mem_cons_of_mem _ hy))
    have hx := h x (List.mem_cons_self ..)
    unfold stayN comeN at ih ⊢
    by_cases h0 : x.at_ ≤ now
    · rw [List.filter_cons_of_pos (p := fun x : Bk => decide (x.at_ ≤ now)) (by simp [h0]), List.filter_cons_of_neg (by simp [h0])]
      simp only [potB, sumB, List.map_cons, List.sum_cons] at ih ⊢
      split at ih <;> split <;> omega
    · rw [List.filter_cons_of_neg (p := fun x : Bk => decide (x.at_ ≤ now)) (by simp [h0]), List.filter_cons_of_pos (by simp [h0])]
      simp only [potB, sumB, List.map_cons, List.sum_cons] at ih ⊢
      omega
theorem Never.go {now : Int} {fr : List Int} (h : Never C T now b fr) (ok : BdOk C T M b) {now' : Int} (h1 : now ≤ now') (busy : Bool) : Never C T now' (goB b now' busy) fr := by
  have hc := comeN_pos now' b.backs (fun x hx => (ok.bk x hx).2.2)
  have hf := ok.f0
  have hp := fun c => potB_parts c now' b.backs (fun x hx => (ok.bk x hx).2.2)
  unfold goB
  split
  · rename_i hb
    refine ⟨fun x hx => ?_, fun a => ?_⟩
    · rcases List.mem_append.1 hx with hx | hx
      · have := h.lv x hx; omega
      · rw [List.mem_singleton.1 hx]; exact Int.le_refl _
    · have hw := h.w a
      have hpa := hp (a + T)
      simp only [pot] at hw ⊢
      rw [potL_append]
      have e1 : potL a (a + T) [⟨now', b.free + comeN now' b.backs, 0⟩] = if now' < a + T then b.free + comeN now' b.backs else 0 := by
        simp only [potL, List.map_cons, List.map_nil, List.sum_cons, List.sum_nil]
        split <;> split <;> omega
      rw [e1]
      by_cases h2 : now' < a + T
      · rw [if_pos h2] at hpa; rw [if_pos h2, if_pos h2]; rw [if_pos (by omega)] at hw; omega
      · rw [if_neg h2] at hpa; rw [if_neg h2, if_neg h2]; split at hw <;> omega
  · refine ⟨fun x hx => by have := h.lv x hx; omega, fun a => ?_⟩
    have hw := h.w a
    have hpa := hp (a + T)
    simp only [pot] at hw ⊢
    by_cases h2 : now' < a + T
    · rw [if_pos h2] at hpa; rw [if_pos h2]; rw [if_pos (by omega)] at hw; omega
    · rw [if_neg h2] at hpa; rw [if_neg h2]; split at hw <;> omega
theorem cntIn_snoc (fr : List Int) (x a c : Int) : cntIn (fr ++ [x]) a c = cntIn fr a c + (if a ≤ x ∧ x < c then 1 else 0) := by
  unfold cntIn
  rw [List.filter_append, List.length_append, List.filter_cons]
  by_cases h : a ≤ x ∧ x < c
  · simp [h.1, h.2]
  · rw [if_neg h]
    have : (decide (a ≤ x) && decide (x < c)) = false := by
      rw [Bool.and_eq_false_iff]
      by_cases h1 : a ≤ x
      · right; simpa using fun h2 => h ⟨h1, h2⟩
      · left; simpa using h1
    simp [this]
theorem Never.use {now : Int} {fr : List Int} {x : Wn} {l : List Wn} (h : Never C T now b fr) (ok : BdOk C T M b) (hT : 1 ≤ T) (hl : b.live = x :: l) : Never C T now (useB T b) (fr ++ [x.at_]) := by
  obtain ⟨f, lv, bk, st⟩ := b
  dsimp only at hl
  subst hl
  have hx := ok.lv x (List.mem_cons_self ..)
  have hn := h.lv x (List.mem_cons_self ..)
  unfold useB
  dsimp only
  split
  · rename_i h0
    refine ⟨fun y hy => h.lv y (List.mem_cons_of_mem _ hy), fun a => ?_⟩
    have hw := h.w a
    rw [cntIn_snoc]
    simp only [pot, potL, potB, List.map_cons, List.sum_cons, List.map_append, List.sum_append, List.map_nil, List.sum_nil] at hw ⊢
    by_cases h1 : x.at_ < a
    · rw [if_neg (by omega), if_pos (show x.at_ + T < a + T by omega)]; rw [if_pos (show x.at_ < a + T by omega), if_pos h1] at hw; push_cast; omega
    · by_cases h2 : x.at_ < a + T
      · rw [if_pos (show a ≤ x.at_ ∧ x.at_ < a + T by omega), if_neg (show ¬ x.at_ + T < a + T by omega)]; rw [if_pos h2, if_neg h1] at hw; push_cast; omega
      · rw [if_neg (show ¬ (a ≤ x.at_ ∧ x.at_ < a + T) by omega), if_neg (show ¬ x.at_ + T < a + T by omega)]; rw [if_neg h2, if_neg h1] at hw; push_cast; omega
  · refine ⟨fun y hy => ?_, fun a => ?_⟩
    · rcases List.mem_cons.1 hy with hy | hy
      · rw [hy]; exact hn
      · exact h.lv y (List.mem_cons_of_mem _ hy)
    · have hw := h.w a
      rw [cntIn_snoc]
      simp only [pot, potL, potB, List.map_cons, List.sum_cons] at hw ⊢
      by_cases h1 : x.at_ < a
      · rw [if_neg (show ¬ (a ≤ x.at_ ∧ x.at_ < a + T) by omega), if_pos (show x.at_ < a + T by omega), if_pos h1]; rw [if_pos (show x.at_ < a + T by omega), if_pos h1] at hw; push_cast; omega
      · by_cases h2 : x.at_ < a + T
        · rw [if_pos (show a ≤ x.at_ ∧ x.at_ < a + T by omega), if_pos h2, if_neg h1]; rw [if_pos h2, if_neg h1] at hw; push_cast; omega
        · rw [if_neg (show ¬ (a ≤ x.at_ ∧ x.at_ < a + T) by omega), if_neg h2, if_neg h1]; rw [if_neg h2, if_neg h1] at hw; push_cast; omega
theorem done_pot (a now : Int) (hT : 1 ≤ T) : ∀ l : List Wn, (∀ x ∈ l, x.at_ ≤ now ∧ 1 ≤ x.len ∧ 0 ≤ x.part) → (if now < a + T then sumLeft l else 0) + potB (a + T) (usedBacks T l) ≤ potL a (a + T) l
  | [], _ => by simp [sumLeft, potB, potL, usedBacks]
  | x :: l, h => by
    have ih := done_pot a now hT l (fun y hy => h y (List.mem_cons_of_mem _ hy))
    have hx := h x (List.mem_cons_self ..)
    unfold usedBacks at ih ⊢
    by_cases h0 : 0 < x.part
    · rw [List.filter_cons_of_pos (by simp [h0])]
      simp only [sumLeft, potB, potL, List.map_cons, List.sum_cons] at ih ⊢
      by_cases h1 : x.at_ < a
      · rw [if_pos (show x.at_ + T < a + T by omega), if_pos (show x.at_ < a + T by omega), if_pos h1]; split at ih <;> split <;> omega
      · rw [if_neg (show ¬ x.at_ + T < a + T by omega), if_neg h1]; split at ih <;> split <;> split <;> omega
    · rw [List.filter_cons_of_neg (by simp [h0])]
      simp only [sumLeft, potB, potL, List.map_cons, List.sum_cons] at ih ⊢
      split at ih <;> split <;> split <;> split <;> omega
theorem Never.done {now : Int} {fr : List Int} (h : Never C T now b fr) (ok : BdOk C T M b) (hT : 1 ≤ T) : Never C T now (doneB T b) fr := by
  refine ⟨fun x hx => (by cases hx), fun a => ?_⟩
  have hw := h.w a
  have hd := done_pot a now hT b.live (fun x hx => ⟨h.lv x hx, (ok.lv x hx).2.2.1, (ok.lv x hx).2.2.2⟩)
  simp only [pot, doneB] at hw ⊢
  rw [potB_append]
  have : potL a (a + T) [] = 0 := rfl
  split at hw <;> split at hd <;> simp_all <;> omega
theorem Never.stopped {now : Int} {fr : List Int} (h : Never C T now b fr) (v : Bool) : Never C T now (stopB b v) fr := ⟨h.lv, h.w⟩
theorem Never.start (hC : 0 ≤ C) (T now : Int) : Never C T now (resetB C) [] := ⟨fun x hx => (by cases hx), fun a => by
  have e1 : potL a (a + T) [] = 0 := rfl
  have e2 : potB (a + T) [] = 0 := rfl
  have e3 : cntIn [] a (a + T) = 0 := rfl
  simp only [pot, resetB, e1, e2, e3]
  split <;> simp <;> omega⟩
theorem cntIn_split (fr : List Int) {a m c : Int} (h1 : a ≤ m) (h2 : m ≤ c) : cntIn fr a c = cntIn fr a m + cntIn fr m c := by
  induction fr with
  | nil => rfl
  | cons x l ih =>
    unfold cntIn at ih ⊢
    simp only [List.filter_cons]
    by_cases ha : a ≤ x
    · by_cases hm : x < m
      · simp only [ha, hm, decide_true, Bool.and_self, if_pos, show decide (x < c) = true by simp; omega, show decide (m ≤ x) = false by simp; omega, Bool.false_and, List.length_cons]
        simp only [Bool.false_eq_true, if_false]
        omega
      · by_cases hc : x < c
        · simp only [ha, hm, hc, decide_true, decide_false, Bool.and_self, Bool.and_false, if_pos, show decide (m ≤ x) = true by simp; omega, List.length_cons]
          simp only [Bool.false_eq_true, if_false]
          omega
        · simp only [ha, hm, hc, decide_true, decide_false, Bool.and_false, show decide (m ≤ x) = true by simp; omega]
          simp only [Bool.false_eq_true, if_false]
          omega
    · simp only [ha, decide_false, Bool.false_and, show decide (m ≤ x) = false by simp; omega]
      simp only [Bool.false_eq_true, if_false]
      omega
theorem cntIn_many {fr : List Int} (hT : 1 ≤ T) (h : ∀ a, (cntIn fr a (a + T) : Int) ≤ C) : ∀ (m : Nat) (a : Int), (cntIn fr a (a + m * T) : Int) ≤ m * C
  | 0, a => by
    have : cntIn fr a (a + ((0 : Nat) : Int) * T) = 0 := by
      unfold cntIn
      rw [List.length_eq_zero_iff, List.filter_eq_nil_iff]
      intro x _
      simp
    rw [this]; simp
  | m + 1, a => by
    have ih := cntIn_many hT h m a
    have h1 := h (a + m * T)
    have e : a + ((m + 1 : Nat) : Int) * T = a + (m : Int) * T + T := by push_cast; rw [Int.add_mul]; omega
    rw [e, cntIn_split fr (m := a + (m : Int) * T) (by have := Int.mul_nonneg (show (0 : Int) ≤ (m : Int) by omega) (show 0 ≤ T by omega); omega) (by omega)]
    push_cast at ih h1 ⊢
    rw [Int.add_mul]
    omega
/-- P1705: from a on, due until b + T. -/
theorem never_more {now : Int} {fr : List Int} (h : Never C T now b fr) (ok : BdOk C T M b) (hT : 1 ≤ T) {x y : Int} (hxy : x ≤ y) : ((fr.filter (fun z => decide (x ≤ z) && decide (z ≤ y))).length : Int) ≤ C * ((y + T - x) / T) := by
  have hpos : ∀ a, 0 ≤ pot a (a + T) now b := fun a => by
    have h1 : 0 ≤ potL a (a + T) b.live := by
      have : ∀ l : List Wn, (∀ x ∈ l, 1 ≤ x.len ∧ 0 ≤ x.part) → 0 ≤ potL a (a + T) l := by
        intro l
        induction l with
        | nil => intro _; simp [potL]
        | cons z l ih =>
          intro hz
          have i1 := ih (fun y hy => hz y (List.mem_cons_of_mem _ hy))
          have i2 := hz z (List.mem_cons_self ..)
          simp only [potL, List.map_cons, List.sum_cons] at i1 ⊢
          split <;> split <;> omega
      exact this _ (fun x hx => ⟨(ok.lv x hx).2.2.1, (ok.lv x hx).2.2.2⟩)
    have h2 : 0 ≤ potB (a + T) b.backs := by
      have : ∀ l : List Bk, (∀ x ∈ l, 1 ≤ x.n) → 0 ≤ potB (a + T) l := by
        intro l
        induction l with
        | nil => intro _; simp [potB]
        | cons z l ih =>
          intro hz
          have i1 := ih (fun y hy => hz y (List.mem_cons_of_mem _ hy))
          have i2 := hz z (List.mem_cons_self ..)
          simp only [potB, List.map_cons, List.sum_cons] at i1 ⊢
          split <;> omega
      exact this _ (fun x hx => (ok.bk x hx).2.2)
    have h3 := ok.f0
    unfold pot
    split <;> omega
  have hw : ∀ a, (cntIn fr a (a + T) : Int) ≤ C := fun a => by have := h.w a; have := hpos a; omega
  have hm := cntIn_many hT hw ((y + T - x) / T).toNat x
  have hq : 0 ≤ (y + T - x) / T := Int.ediv_nonneg (by omega) (by omega)
  have e : (((y + T - x) / T).toNat : Int) = (y + T - x) / T := by omega
  rw [e] at hm
  have hlt : y < x + (y + T - x) / T * T := by
    have h1 := Int.emod_lt_of_pos (y + T - x) (show 0 < T by omega)
    have h2 := Int.emod_add_mul_ediv (y + T - x) T
    rw [Int.mul_comm] at h2
    omega
  have hle : (fr.filter (fun z => decide (x ≤ z) && decide (z ≤ y))).length ≤ cntIn fr x (x + (y + T - x) / T * T) := by
    unfold cntIn
    clear hm e h hw
    induction fr with
    | nil => simp
    | cons z l ih =>
      simp only [List.filter_cons]
      by_cases h1 : x ≤ z
      · by_cases h2 : z ≤ y
        · simp only [h1, h2, decide_true, Bool.and_self, if_pos, show decide (z < x + (y + T - x) / T * T) = true by simp; omega, List.length_cons]
          omega
        · simp only [h1, h2, decide_true, decide_false, Bool.and_false, Bool.true_and]
          simp only [Bool.false_eq_true, if_false]
          split
          · rw [List.length_cons]; omega
          · exact ih
      · simp only [h1, decide_false, Bool.false_and]
        simp only [Bool.false_eq_true, if_false]
        exact ih
  have e9 : (y + T - x) / T * C = C * ((y + T - x) / T) := Int.mul_comm _ _
  rw [e9] at hm
  omega
end
end Go.Proofs.YtchbehnkkcjdgaaGreat
