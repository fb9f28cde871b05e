/- Joined of ChunkM, DemandM, ServM, RefillM, HeapM, PolM, TaskM, PartM, PartB, PartC, ServN, ServR, ServP, ServQ, Plain, BoundM, ServT, BoundN. -/
import Derived.Test.YtchbehnkkcjdgaaGreatBase
import Derived.RowKit
import Derived.IntWalk
namespace Go.Proofs.YtchbehnkkcjdgaaGreat
open Go.ChangeShapes Go.WideShapes Go.ChangeAt Go.RowKit
set_option linter.unusedVariables false
structure Bk where
 (at_ n : Int)
def Bk.cells (k : Bk) : List Value := [.int .i64 k.at_, .int .i64 k.n]
/-- A budget: free ticks, live chunks (At, Left, Used), what will be back, is it stopped. -/
structure Bd where
 (free : Int) (live : List Wn) (backs : List Bk) (stop : Bool)
def sumB (l : List Bk) : Int := (l.map (·.n)).sum
def sumLeft (l : List Wn) : Int := (l.map (·.len)).sum
def sumUsed (l : List Wn) : Int := (l.map (·.part)).sum
def comeN (now : Int) (l : List Bk) : Int := sumB (l.filter (fun x => decide (x.at_ ≤ now)))
def stayN (now : Int) (l : List Bk) : List Bk := l.filter (fun x => !decide (x.at_ ≤ now))
def goB (b : Bd) (now : Int) (busy : Bool) : Bd :=
 if busy && !b.stop && decide (0 < b.free + comeN now b.backs) then ⟨0, b.live ++ [⟨now, b.free + comeN now b.backs, 0⟩], stayN now b.backs, b.stop⟩ else ⟨b.free + comeN now b.backs, b.live, stayN now b.backs, b.stop⟩
def useB (T : Int) (b : Bd) : Bd := match b.live with
 | [] => b
 | x :: l => if x.len - 1 = 0 then ⟨b.free, l, b.backs ++ [⟨x.at_ + T, x.part + 1⟩], b.stop⟩ else ⟨b.free, ⟨x.at_, x.len - 1, x.part + 1⟩ :: l, b.backs, b.stop⟩
def useOk (b : Bd) : Bool := !b.live.isEmpty
def usedBacks (T : Int) (l : List Wn) : List Bk := (l.filter (fun x => decide (0 < x.part))).map fun x => ⟨x.at_ + T, x.part⟩
def doneB (T : Int) (b : Bd) : Bd := ⟨b.free + sumLeft b.live, [], b.backs ++ usedBacks T b.live, b.stop⟩
def stopB (b : Bd) (v : Bool) : Bd := ⟨b.free, b.live, b.backs, v⟩
def resetB (C : Int) : Bd := ⟨C, [], [], false⟩
def dueV (T : Int) (b : Bd) : Int := match b.live with
 | [] => 0
 | x :: _ => x.at_ + T
/-- What holds of every budget of C ticks, each T: numbers up to M. -/
structure BdOk (C T M : Int) (b : Bd) : Prop where
 f0 : 0 ≤ b.free
 lv : ∀ x ∈ b.live, 0 ≤ x.at_ ∧ x.at_ ≤ M ∧ 1 ≤ x.len ∧ 0 ≤ x.part
 bk : ∀ x ∈ b.backs, 0 ≤ x.at_ ∧ x.at_ ≤ M + T ∧ 1 ≤ x.n
 all : b.free + sumLeft b.live + sumUsed b.live + sumB b.backs = C
theorem sumB_append (l m : List Bk) : sumB (l ++ m) = sumB l + sumB m := by simp [sumB]
theorem sumLeft_append (l m : List Wn) : sumLeft (l ++ m) = sumLeft l + sumLeft m := by simp [sumLeft]
theorem sumUsed_append (l m : List Wn) : sumUsed (l ++ m) = sumUsed l + sumUsed m := by simp [sumUsed]
theorem sumB_parts (now : Int) : ∀ l : List Bk, sumB l = comeN now l + sumB (stayN now l)
 | [] => rfl
 | x :: l => by
   have ih := sumB_parts now l
   unfold comeN stayN at ih ⊢
   by_cases h : x.at_ ≤ now
   ·rw [List.filter_cons_of_pos (by simp [h]), List.filter_cons_of_neg (by simp [h])]
    simp only [sumB, List.map_cons, List.sum_cons] at ih ⊢; omega
   ·rw [List.filter_cons_of_neg (by simp [h]), List.filter_cons_of_pos (by simp [h])]
    simp only [sumB, List.map_cons, List.sum_cons] at ih ⊢; omega
theorem sumB_len : ∀ l : List Bk, (∀ x ∈ l, 1 ≤ x.n) → (l.length : Int) ≤ sumB l
 | [], _ => by simp [sumB]
 | x :: l, h => by
   have ih := sumB_len l (fun y hy => h y (List.mem_cons_of_mem _ hy))
   have := h x (List.mem_cons_self ..)
   simp only [sumB, List.map_cons, List.sum_cons, List.length_cons] at ih ⊢; omega
theorem sumLeft_len : ∀ l : List Wn, (∀ x ∈ l, 1 ≤ x.len) → (l.length : Int) ≤ sumLeft l
 | [], _ => by simp [sumLeft]
 | x :: l, h => by
   have ih := sumLeft_len l (fun y hy => h y (List.mem_cons_of_mem _ hy))
   have := h x (List.mem_cons_self ..)
   simp only [sumLeft, List.map_cons, List.sum_cons, List.length_cons] at ih ⊢; omega
theorem sumUsed_pos : ∀ l : List Wn, (∀ x ∈ l, 0 ≤ x.part) → 0 ≤ sumUsed l
 | [], _ => by simp [sumUsed]
 | x :: l, h => by
   have ih := sumUsed_pos l (fun y hy => h y (List.mem_cons_of_mem _ hy))
   have := h x (List.mem_cons_self ..)
   simp only [sumUsed, List.map_cons, List.sum_cons] at ih ⊢; omega
theorem usedBacks_sum (T : Int) : ∀ l : List Wn, (∀ x ∈ l, 0 ≤ x.part) → sumB (usedBacks T l) = sumUsed l
 | [], _ => rfl
 | x :: l, h => by
   have ih := usedBacks_sum T l (fun y hy => h y (List.mem_cons_of_mem _ hy))
   have hx := h x (List.mem_cons_self ..)
   unfold usedBacks at ih ⊢
   by_cases h0 : 0 < x.part
   ·rw [List.filter_cons_of_pos (by simp [h0])]
    simp only [sumB, sumUsed, List.map_cons, List.sum_cons] at ih ⊢; omega
   ·rw [List.filter_cons_of_neg (by simp [h0])]
    simp only [sumB, sumUsed, List.map_cons, List.sum_cons] at ih ⊢; omega
theorem stayN_sub {now : Int} {l : List Bk} {x : Bk} (h : x ∈ stayN now l) : x ∈ l ∧ now < x.at_ := by
 have := List.mem_filter.1 h
 simp at this
 exact ⟨this.1, by omega⟩
theorem comeN_pos (now : Int) (l : List Bk) (h : ∀ x ∈ l, 1 ≤ x.n) : 0 ≤ comeN now l := by
 have := sumB_len (l.filter (fun x => decide (x.at_ ≤ now))) (fun x hx => h x (List.mem_filter.1 hx).1)
 unfold comeN; omega
section
variable {C T M : Int} {b : Bd}
theorem BdOk.bounds (h : BdOk C T M b) : b.free ≤ C ∧ (b.live.length : Int) ≤ C ∧ (b.backs.length : Int) ≤ C ∧ 0 ≤ sumLeft b.live ∧ 0 ≤ sumUsed b.live ∧ 0 ≤ sumB b.backs := by
 have h1 := sumB_len b.backs (fun x hx => (h.bk x hx).2.2)
 have h2 := sumLeft_len b.live (fun x hx => (h.lv x hx).2.2.1)
 have h3 := sumUsed_pos b.live (fun x hx => (h.lv x hx).2.2.2)
 have h4 := h.all
 have h5 := h.f0
 omega
theorem BdOk.start (hC : 0 ≤ C) (T M : Int) : BdOk C T M (resetB C) := ⟨hC, fun x hx => (by cases hx), fun x hx => (by cases hx), by simp [resetB, sumLeft, sumUsed, sumB]⟩
theorem BdOk.stopped (h : BdOk C T M b) (v : Bool) : BdOk C T M (stopB b v) := ⟨h.f0, h.lv, h.bk, h.all⟩
theorem BdOk.go (h : BdOk C T M b) {now : Int} (h0 : 0 ≤ now) (h1 : now ≤ M) (busy : Bool) : BdOk C T M (goB b now busy) := by
 have e := sumB_parts now b.backs
 have hc := comeN_pos now b.backs (fun x hx => (h.bk x hx).2.2)
 have ha := h.all
 have hf := h.f0
 unfold goB
 split
 ·rename_i hb
  simp only [Bool.and_eq_true, decide_eq_true_eq] at hb
  refine ⟨Int.le_refl _, fun x hx => ?_, fun x hx => h.bk x (stayN_sub hx).1, ?_⟩
  ·rcases List.mem_append.1 hx with hx | hx
   ·exact h.lv x hx
   ·rw [List.mem_singleton.1 hx]; exact ⟨h0, h1, by have := hb.2; show 1 ≤ b.free + comeN now b.backs; omega, Int.le_refl _⟩
  ·rw [sumLeft_append, sumUsed_append]
   simp only [sumLeft, sumUsed, List.map_cons, List.map_nil, List.sum_cons, List.sum_nil] at ha ⊢
   omega
 ·exact ⟨by show 0 ≤ b.free + comeN now b.backs; omega, h.lv, fun x hx => h.bk x (stayN_sub hx).1, by show b.free + comeN now b.backs + sumLeft b.live + sumUsed b.live + sumB (stayN now b.backs) = C; omega⟩
theorem BdOk.use (h : BdOk C T M b) (hT : 0 ≤ T) : BdOk C T M (useB T b) := by
 obtain ⟨f, lv, bk, st⟩ := b
 cases lv with
 | nil => exact h
 | cons x l =>
   have hx := h.lv x (List.mem_cons_self ..)
   have ha := h.all
   have hl : ∀ y ∈ l, 0 ≤ y.at_ ∧ y.at_ ≤ M ∧ 1 ≤ y.len ∧ 0 ≤ y.part := fun y hy => h.lv y (List.mem_cons_of_mem _ hy)
   simp only [sumLeft, sumUsed, List.map_cons, List.sum_cons] at ha
   unfold useB
   dsimp only
   split
   ·refine ⟨h.f0, hl, fun y hy => ?_, ?_⟩
    ·rcases List.mem_append.1 hy with hy | hy
     ·exact h.bk y hy
     ·rw [List.mem_singleton.1 hy]; exact ⟨by show 0 ≤ x.at_ + T; omega, by show x.at_ + T ≤ M + T; omega, by show 1 ≤ x.part + 1; omega⟩
    ·show f + sumLeft l + sumUsed l + sumB (bk ++ _) = C
     rw [sumB_append]
     simp only [sumLeft, sumUsed, sumB, List.map_cons, List.map_nil, List.sum_cons, List.sum_nil] at ha ⊢
     omega
   ·refine ⟨h.f0, fun y hy => ?_, h.bk, ?_⟩
    ·rcases List.mem_cons.1 hy with hy | hy
     ·rw [hy]; exact ⟨hx.1, hx.2.1, by show 1 ≤ x.len - 1; omega, by show 0 ≤ x.part + 1; omega⟩
     ·exact hl y hy
    ·show f + sumLeft (_ :: l) + sumUsed (_ :: l) + sumB bk = C
     simp only [sumLeft, sumUsed, List.map_cons, List.sum_cons]
     omega
theorem usedBacks_mem {l : List Wn} {y : Bk} (h : y ∈ usedBacks T l) : ∃ x ∈ l, 0 < x.part ∧ y.at_ = x.at_ + T ∧ y.n = x.part := by
 obtain ⟨x, hx, rfl⟩ := List.mem_map.1 h
 have := List.mem_filter.1 hx
 exact ⟨x, this.1, by simpa using this.2, rfl, rfl⟩
theorem BdOk.done (h : BdOk C T M b) (hT : 0 ≤ T) : BdOk C T M (doneB T b) := by
 have hb := h.bounds
 have ha := h.all
 have hf := h.f0
 refine ⟨by show 0 ≤ b.free + sumLeft b.live; omega, fun x hx => (by cases hx), fun y hy => ?_, ?_⟩
 ·rcases List.mem_append.1 hy with hy | hy
  ·exact h.bk y hy
  ·obtain ⟨x, hx, h1, h2, h3⟩ := usedBacks_mem hy
   have := h.lv x hx
   omega
 ·show b.free + sumLeft b.live + sumLeft [] + sumUsed [] + sumB (b.backs ++ usedBacks T b.live) = C
  rw [sumB_append, usedBacks_sum T b.live (fun x hx => (h.lv x hx).2.2.2)]
  simp only [sumLeft, sumUsed, List.map_nil, List.sum_nil] at ha ⊢
  omega
/-! ### never more -/
/-- The ticks used of chunks from a on, ahead of c. -/
def cntIn (fr : List Int) (a c : Int) : Nat := (fr.filter (fun x => decide (a ≤ x) && decide (x < c))).length
/-- What may yet be used of chunks from a on, ahead of c. -/
def potL (a c : Int) (l : List Wn) : Int := (l.map fun x => (if x.at_ < c then x.len else 0) + (if x.at_ < a then x.part else 0)).sum
def potB (c : Int) (l : List Bk) : Int := (l.map fun x => if x.at_ < c then x.n else 0).sum
def pot (a c now : Int) (b : Bd) : Int := (if now < c then b.free else 0) + potL a c b.live + potB c b.backs
theorem potL_append (a c : Int) (l m : List Wn) : potL a c (l ++ m) = potL a c l + potL a c m := by simp [potL]
theorem potB_append (c : Int) (l m : List Bk) : potB c (l ++ m) = potB c l + potB c m := by simp [potB]
/-- How a budget was used: now is the tick of the last Go. -/
structure Never (C T now : Int) (b : Bd) (fr : List Int) : Prop where
 lv : ∀ x ∈ b.live, x.at_ ≤ now
 w : ∀ a, (cntIn fr a (a + T) : Int) + pot a (a + T) now b ≤ C
theorem potB_parts (c now : Int) : ∀ l : List Bk, (∀ x ∈ l, 1 ≤ x.n) → potB c (stayN now l) + (if now < c then comeN now l else 0) ≤ potB c l
 | [], _ => by simp [potB, stayN, comeN, sumB]
 | x :: l, h => by
   have ih := potB_parts c now l (fun y hy => h y (List.mem_cons_of_mem _ hy))
   have hx := h x (List.mem_cons_self ..)
   unfold stayN comeN at ih ⊢
   by_cases h0 : x.at_ ≤ now
   ·rw [List.filter_cons_of_pos (p := fun x : Bk => decide (x.at_ ≤ now)) (by simp [h0]), List.filter_cons_of_neg (by simp [h0])]
    simp only [potB, sumB, List.map_cons, List.sum_cons] at ih ⊢
    split at ih <;> split <;> omega
   ·rw [List.filter_cons_of_neg (p := fun x : Bk => decide (x.at_ ≤ now)) (by simp [h0]), List.filter_cons_of_pos (by simp [h0])]
    simp only [potB, sumB, List.map_cons, List.sum_cons] at ih ⊢
    omega
theorem Never.go {now : Int} {fr : List Int} (h : Never C T now b fr) (ok : BdOk C T M b) {now' : Int} (h1 : now ≤ now') (busy : Bool) : Never C T now' (goB b now' busy) fr := by
 have hc := comeN_pos now' b.backs (fun x hx => (ok.bk x hx).2.2)
 have hf := ok.f0
 have hp := fun c => potB_parts c now' b.backs (fun x hx => (ok.bk x hx).2.2)
 unfold goB
 split
 ·rename_i hb
  refine ⟨fun x hx => ?_, fun a => ?_⟩
  ·rcases List.mem_append.1 hx with hx | hx
   ·have := h.lv x hx; omega
   ·rw [List.mem_singleton.1 hx]; exact Int.le_refl _
  ·have hw := h.w a
   have hpa := hp (a + T)
   simp only [pot] at hw ⊢
   rw [potL_append]
   have e1 : potL a (a + T) [⟨now', b.free + comeN now' b.backs, 0⟩] = if now' < a + T then b.free + comeN now' b.backs else 0 := by
    simp only [potL, List.map_cons, List.map_nil, List.sum_cons, List.sum_nil]
    split <;> split <;> omega
   rw [e1]
   by_cases h2 : now' < a + T
   ·rw [if_pos h2] at hpa; rw [if_pos h2, if_pos h2]; rw [if_pos (by omega)] at hw; omega
   ·rw [if_neg h2] at hpa; rw [if_neg h2, if_neg h2]; split at hw <;> omega
 ·refine ⟨fun x hx => by have := h.lv x hx; omega, fun a => ?_⟩
  have hw := h.w a
  have hpa := hp (a + T)
  simp only [pot] at hw ⊢
  by_cases h2 : now' < a + T
  ·rw [if_pos h2] at hpa; rw [if_pos h2]; rw [if_pos (by omega)] at hw; omega
  ·rw [if_neg h2] at hpa; rw [if_neg h2]; split at hw <;> omega
theorem cntIn_snoc (fr : List Int) (x a c : Int) : cntIn (fr ++ [x]) a c = cntIn fr a c + (if a ≤ x ∧ x < c then 1 else 0) := by
 unfold cntIn
 rw [List.filter_append, List.length_append, List.filter_cons]
 by_cases h : a ≤ x ∧ x < c
 ·simp [h.1, h.2]
 ·rw [if_neg h]
  have : (decide (a ≤ x) && decide (x < c)) = false := by
   rw [Bool.and_eq_false_iff]
   by_cases h1 : a ≤ x
   ·right; simpa using fun h2 => h ⟨h1, h2⟩
   ·left; simpa using h1
  simp [this]
theorem Never.use {now : Int} {fr : List Int} {x : Wn} {l : List Wn} (h : Never C T now b fr) (ok : BdOk C T M b) (hT : 1 ≤ T) (hl : b.live = x :: l) : Never C T now (useB T b) (fr ++ [x.at_]) := by
 obtain ⟨f, lv, bk, st⟩ := b
 dsimp only at hl
 subst hl
 have hx := ok.lv x (List.mem_cons_self ..)
 have hn := h.lv x (List.mem_cons_self ..)
 unfold useB
 dsimp only
 split
 ·rename_i h0
  refine ⟨fun y hy => h.lv y (List.mem_cons_of_mem _ hy), fun a => ?_⟩
  have hw := h.w a
  rw [cntIn_snoc]
  simp only [pot, potL, potB, List.map_cons, List.sum_cons, List.map_append, List.sum_append, List.map_nil, List.sum_nil] at hw ⊢
  by_cases h1 : x.at_ < a
  ·rw [if_neg (by omega), if_pos (show x.at_ + T < a + T by omega)]; rw [if_pos (show x.at_ < a + T by omega), if_pos h1] at hw; push_cast; omega
  ·by_cases h2 : x.at_ < a + T
   ·rw [if_pos (show a ≤ x.at_ ∧ x.at_ < a + T by omega), if_neg (show ¬ x.at_ + T < a + T by omega)]; rw [if_pos h2, if_neg h1] at hw; push_cast; omega
   ·rw [if_neg (show ¬ (a ≤ x.at_ ∧ x.at_ < a + T) by omega), if_neg (show ¬ x.at_ + T < a + T by omega)]; rw [if_neg h2, if_neg h1] at hw; push_cast; omega
 ·refine ⟨fun y hy => ?_, fun a => ?_⟩
  ·rcases List.mem_cons.1 hy with hy | hy
   ·rw [hy]; exact hn
   ·exact h.lv y (List.mem_cons_of_mem _ hy)
  ·have hw := h.w a
   rw [cntIn_snoc]
   simp only [pot, potL, potB, List.map_cons, List.sum_cons] at hw ⊢
   by_cases h1 : x.at_ < a
   ·rw [if_neg (show ¬ (a ≤ x.at_ ∧ x.at_ < a + T) by omega), if_pos (show x.at_ < a + T by omega), if_pos h1]; rw [if_pos (show x.at_ < a + T by omega), if_pos h1] at hw; push_cast; omega
   ·by_cases h2 : x.at_ < a + T
    ·rw [if_pos (show a ≤ x.at_ ∧ x.at_ < a + T by omega), if_pos h2, if_neg h1]; rw [if_pos h2, if_neg h1] at hw; push_cast; omega
    ·rw [if_neg (show ¬ (a ≤ x.at_ ∧ x.at_ < a + T) by omega), if_neg h2, if_neg h1]; rw [if_neg h2, if_neg h1] at hw; push_cast; omega
theorem done_pot (a now : Int) (hT : 1 ≤ T) : ∀ l : List Wn, (∀ x ∈ l, x.at_ ≤ now ∧ 1 ≤ x.len ∧ 0 ≤ x.part) → (if now < a + T then sumLeft l else 0) + potB (a + T) (usedBacks T l) ≤ potL a (a + T) l
 | [], _ => by simp [sumLeft, potB, potL, usedBacks]
 | x :: l, h => by
   have ih := done_pot a now hT l (fun y hy => h y (List.mem_cons_of_mem _ hy))
   have hx := h x (List.mem_cons_self ..)
   unfold usedBacks at ih ⊢
   by_cases h0 : 0 < x.part
   ·rw [List.filter_cons_of_pos (by simp [h0])]
    simp only [sumLeft, potB, potL, List.map_cons, List.sum_cons] at ih ⊢
    by_cases h1 : x.at_ < a
    ·rw [if_pos (show x.at_ + T < a + T by omega), if_pos (show x.at_ < a + T by omega), if_pos h1]; split at ih <;> split <;> omega
    ·rw [if_neg (show ¬ x.at_ + T < a + T by omega), if_neg h1]; split at ih <;> split <;> split <;> omega
   ·rw [List.filter_cons_of_neg (by simp [h0])]
    simp only [sumLeft, potB, potL, List.map_cons, List.sum_cons] at ih ⊢
    split at ih <;> split <;> split <;> split <;> omega
theorem Never.done {now : Int} {fr : List Int} (h : Never C T now b fr) (ok : BdOk C T M b) (hT : 1 ≤ T) : Never C T now (doneB T b) fr := by
 refine ⟨fun x hx => (by cases hx), fun a => ?_⟩
 have hw := h.w a
 have hd := done_pot a now hT b.live (fun x hx => ⟨h.lv x hx, (ok.lv x hx).2.2.1, (ok.lv x hx).2.2.2⟩)
 simp only [pot, doneB] at hw ⊢
 rw [potB_append]
 have : potL a (a + T) [] = 0 := rfl
 split at hw <;> split at hd <;> simp_all <;> omega
theorem Never.stopped {now : Int} {fr : List Int} (h : Never C T now b fr) (v : Bool) : Never C T now (stopB b v) fr := ⟨h.lv, h.w⟩
theorem Never.start (hC : 0 ≤ C) (T now : Int) : Never C T now (resetB C) [] := ⟨fun x hx => (by cases hx), fun a => by
 have e1 : potL a (a + T) [] = 0 := rfl
 have e2 : potB (a + T) [] = 0 := rfl
 have e3 : cntIn [] a (a + T) = 0 := rfl
 simp only [pot, resetB, e1, e2, e3]
 split <;> simp <;> omega⟩
theorem cntIn_split (fr : List Int) {a m c : Int} (h1 : a ≤ m) (h2 : m ≤ c) : cntIn fr a c = cntIn fr a m + cntIn fr m c := by
 induction fr with
 | nil => rfl
 | cons x l ih =>
   unfold cntIn at ih ⊢
   simp only [List.filter_cons]
   by_cases ha : a ≤ x
   ·by_cases hm : x < m
    ·simp only [ha, hm, decide_true, Bool.and_self, if_pos, show decide (x < c) = true by simp; omega, show decide (m ≤ x) = false by simp; omega, Bool.false_and, List.length_cons]
     simp only [Bool.false_eq_true, if_false]
     omega
    ·by_cases hc : x < c
     ·simp only [ha, hm, hc, decide_true, decide_false, Bool.and_self, Bool.and_false, if_pos, show decide (m ≤ x) = true by simp; omega, List.length_cons]
      simp only [Bool.false_eq_true, if_false]
      omega
     ·simp only [ha, hm, hc, decide_true, decide_false, Bool.and_false, show decide (m ≤ x) = true by simp; omega]
      simp only [Bool.false_eq_true, if_false]
      omega
   ·simp only [ha, decide_false, Bool.false_and, show decide (m ≤ x) = false by simp; omega]
    simp only [Bool.false_eq_true, if_false]
    omega
theorem cntIn_many {fr : List Int} (hT : 1 ≤ T) (h : ∀ a, (cntIn fr a (a + T) : Int) ≤ C) : ∀ (m : Nat) (a : Int), (cntIn fr a (a + m * T) : Int) ≤ m * C
 | 0, a => by
   have : cntIn fr a (a + ((0 : Nat) : Int) * T) = 0 := by
    unfold cntIn
    rw [List.length_eq_zero_iff, List.filter_eq_nil_iff]
    intro x _
    simp
   rw [this]; simp
 | m + 1, a => by
   have ih := cntIn_many hT h m a
   have h1 := h (a + m * T)
   have e : a + ((m + 1 : Nat) : Int) * T = a + (m : Int) * T + T := by push_cast; rw [Int.add_mul]; omega
   rw [e, cntIn_split fr (m := a + (m : Int) * T) (by have := Int.mul_nonneg (show (0 : Int) ≤ (m : Int) by omega) (show 0 ≤ T by omega); omega) (by omega)]
   push_cast at ih h1 ⊢
   rw [Int.add_mul]
   omega
/-- P1705: from a on, due until b + T. -/
theorem never_more {now : Int} {fr : List Int} (h : Never C T now b fr) (ok : BdOk C T M b) (hT : 1 ≤ T) {x y : Int} (hxy : x ≤ y) : ((fr.filter (fun z => decide (x ≤ z) && decide (z ≤ y))).length : Int) ≤ C * ((y + T - x) / T) := by
 have hpos : ∀ a, 0 ≤ pot a (a + T) now b := fun a => by
  have h1 : 0 ≤ potL a (a + T) b.live := by
   have : ∀ l : List Wn, (∀ x ∈ l, 1 ≤ x.len ∧ 0 ≤ x.part) → 0 ≤ potL a (a + T) l := by
    intro l
    induction l with
    | nil => intro _; simp [potL]
    | cons z l ih =>
      intro hz
      have i1 := ih (fun y hy => hz y (List.mem_cons_of_mem _ hy))
      have i2 := hz z (List.mem_cons_self ..)
      simp only [potL, List.map_cons, List.sum_cons] at i1 ⊢
      split <;> split <;> omega
   exact this _ (fun x hx => ⟨(ok.lv x hx).2.2.1, (ok.lv x hx).2.2.2⟩)
  have h2 : 0 ≤ potB (a + T) b.backs := by
   have : ∀ l : List Bk, (∀ x ∈ l, 1 ≤ x.n) → 0 ≤ potB (a + T) l := by
    intro l
    induction l with
    | nil => intro _; simp [potB]
    | cons z l ih =>
      intro hz
      have i1 := ih (fun y hy => hz y (List.mem_cons_of_mem _ hy))
      have i2 := hz z (List.mem_cons_self ..)
      simp only [potB, List.map_cons, List.sum_cons] at i1 ⊢
      split <;> omega
   exact this _ (fun x hx => (ok.bk x hx).2.2)
  have h3 := ok.f0
  unfold pot
  split <;> omega
 have hw : ∀ a, (cntIn fr a (a + T) : Int) ≤ C := fun a => by have := h.w a; have := hpos a; omega
 have hm := cntIn_many hT hw ((y + T - x) / T).toNat x
 have hq : 0 ≤ (y + T - x) / T := Int.ediv_nonneg (by omega) (by omega)
 have e : (((y + T - x) / T).toNat : Int) = (y + T - x) / T := by omega
 rw [e] at hm
 have hlt : y < x + (y + T - x) / T * T := by
  have h1 := Int.emod_lt_of_pos (y + T - x) (show 0 < T by omega)
  have h2 := Int.emod_add_mul_ediv (y + T - x) T
  rw [Int.mul_comm] at h2
  omega
 have hle : (fr.filter (fun z => decide (x ≤ z) && decide (z ≤ y))).length ≤ cntIn fr x (x + (y + T - x) / T * T) := by
  unfold cntIn
  clear hm e h hw
  induction fr with
  | nil => simp
  | cons z l ih =>
    simp only [List.filter_cons]
    by_cases h1 : x ≤ z
    ·by_cases h2 : z ≤ y
     ·simp only [h1, h2, decide_true, Bool.and_self, if_pos, show decide (z < x + (y + T - x) / T * T) = true by simp; omega, List.length_cons]
      omega
     ·simp only [h1, h2, decide_true, decide_false, Bool.and_false, Bool.true_and]
      simp only [Bool.false_eq_true, if_false]
      split
      ·rw [List.length_cons]; omega
      ·exact ih
    ·simp only [h1, decide_false, Bool.false_and]
     simp only [Bool.false_eq_true, if_false]
     exact ih
 have e9 : (y + T - x) / T * C = C * ((y + T - x) / T) := Int.mul_comm _ _
 rw [e9] at hm
 omega
end
end Go.Proofs.YtchbehnkkcjdgaaGreat
namespace Go.Proofs.YtchbehnkkcjdgaaGreat
set_option linter.unusedVariables false
def cutT (t : Int) : Int := min (max t 0) 1099511627776
theorem cutT_in (t : Int) : 0 ≤ cutT t ∧ cutT t ≤ 1099511627776 := by unfold cutT; omega
theorem cutT_of {t : Int} (h0 : 0 ≤ t) (h1 : t ≤ 1099511627776) : cutT t = t := by unfold cutT; omega
theorem okTk_t {k : Tk} (h : okTk k = true) : 1 ≤ k.lo ∧ k.lo ≤ k.v ∧ k.v ≤ k.d ∧ k.d ≤ k.t ∧ k.t ≤ 1000 ∧ k.lo ≤ k.top ∧ k.top ≤ k.d ∧ (k.hi = true ∨ (k.v = k.d ∧ k.top = k.lo)) := of_decide_eq_true h
theorem okSv_t {s : Sv} (h : okSv s = true) : 1 ≤ s.c ∧ s.c ≤ s.t ∧ s.t ≤ 1000 := of_decide_eq_true h
/-- What is asked for by one task in t ticks. -/
def lowAt (k : Tk) (t : Int) : Int := if t < k.v then 0 else k.lo * ((t - k.v) / k.t + 1)
def doneAt (k : Tk) (t : Int) : Int := if k.d - k.v ≤ t % k.t ∧ t % k.t < k.d then max 0 (k.lo - (t % k.t - (k.d - k.v))) else 0
def highAt (k : Tk) (t : Int) : Int := if k.hi = false ∨ t < k.d - k.v then 0 else k.top * ((t - (k.d - k.v)) / k.t + 1) - doneAt k t
def servAt (s : Sv) (t : Int) : Int := if s.re then (if t < s.t then 0 else s.c * ((t - 1) / s.t + 1)) else s.c * (t / s.t)
def ofV (k : Tk) (t : Int) (high : Bool) : Int := if okTk k then (if high then highAt k (cutT t) else lowAt k (cutT t)) else 0
def servV (s : Sv) (t : Int) : Int := if okSv s then servAt s (cutT t) else 0
def sumI (l : List Int) : Int := l.foldl (fun a b => a + b) 0
theorem sumI_snoc (l : List Int) (x : Int) : sumI (l ++ [x]) = sumI l + x := by simp [sumI]
theorem sumI_bd {B : Int} : ∀ (n : Nat) (l : List Int), l.length = n → (∀ x ∈ l, 0 ≤ x ∧ x ≤ B) → 0 ≤ sumI l ∧ sumI l ≤ n * B
 | 0, l, hl, _ => by
   have : l = [] := List.eq_nil_of_length_eq_zero hl
   subst this
   simp [sumI]
 | n + 1, l, hl, h => by
   have hne : l ≠ [] := by intro e; subst e; cases hl
   obtain ⟨ys, y, rfl⟩ : ∃ ys y, l = ys ++ [y] := ⟨l.dropLast, l.getLast hne, (List.dropLast_concat_getLast hne).symm⟩
   have h1 := sumI_bd n ys (by simpa using hl) fun x hx => h x (by simp [hx])
   have h2 := h y (by simp)
   rw [sumI_snoc]
   have e : ((n + 1 : Nat) : Int) * B = n * B + B := by rw [Int.natCast_add, Int.add_mul]; simp
   omega
def lowV (p : Pt) (t : Int) : Int := sumI (p.ts.map fun k => ofV k t false) + sumI (p.ss.map fun s => servV s t)
def highV (p : Pt) (t : Int) : Int := sumI (p.ts.map fun k => ofV k t true)
theorem div_next (a : Int) {T : Int} (hT : 0 < T) : (a + T) / T = a / T + 1 := by
 have := Int.add_mul_ediv_right a 1 (show T ≠ 0 by omega)
 rwa [Int.one_mul] at this
theorem div_le_self {a T : Int} (ha : 0 ≤ a) (hT : 1 ≤ T) : a / T ≤ a := by
 have := Int.mul_ediv_add_emod a T
 have h1 := Int.emod_nonneg a (show T ≠ 0 by omega)
 have h2 : 0 ≤ a / T := Int.ediv_nonneg ha (by omega)
 have h3 : 1 * (a / T) ≤ T * (a / T) := Int.mul_le_mul_of_nonneg_right hT h2
 omega
section
variable {k : Tk} {s : Sv} {t : Int}
theorem lowAt_bd (h : okTk k = true) (h0 : 0 ≤ t) (h1 : t ≤ 1099511627776) : 0 ≤ lowAt k t ∧ lowAt k t ≤ 1099511627777000 := by
 obtain ⟨a1, a2, a3, a4, a5, a6, a7, a8⟩ := okTk_t h
 unfold lowAt
 split
 ·omega
 ·have d0 : 0 ≤ (t - k.v) / k.t := Int.ediv_nonneg (by omega) (by omega)
  have d1 := div_le_self (a := t - k.v) (T := k.t) (by omega) (by omega)
  refine ⟨Int.mul_nonneg (by omega) (by omega), ?_⟩
  have := Int.mul_le_mul (a := k.lo) (b := (t - k.v) / k.t + 1) (c := 1000) (d := 1099511627777) (by omega) (by omega) (by omega) (by omega)
  omega
theorem doneAt_bd (h : okTk k = true) : 0 ≤ doneAt k t ∧ doneAt k t ≤ k.lo := by
 obtain ⟨a1, a2, a3, a4, a5, a6, a7, a8⟩ := okTk_t h
 unfold doneAt
 split <;> omega
theorem highAt_bd (h : okTk k = true) (h0 : 0 ≤ t) (h1 : t ≤ 1099511627776) : 0 ≤ highAt k t ∧ highAt k t ≤ 1099511627777000 := by
 obtain ⟨a1, a2, a3, a4, a5, a6, a7, a8⟩ := okTk_t h
 unfold highAt
 split
 ·omega
 ·have hd := doneAt_bd (t := t) h
  have d0 : 0 ≤ (t - (k.d - k.v)) / k.t := Int.ediv_nonneg (by omega) (by omega)
  have d1 := div_le_self (a := t - (k.d - k.v)) (T := k.t) (by omega) (by omega)
  have m1 := Int.mul_le_mul (a := k.top) (b := (t - (k.d - k.v)) / k.t + 1) (c := 1000) (d := 1099511627777) (by omega) (by omega) (by omega) (by omega)
  have m2 : k.top * 1 ≤ k.top * ((t - (k.d - k.v)) / k.t + 1) := Int.mul_le_mul_of_nonneg_left (by omega) (by omega)
  omega
theorem servAt_bd (h : okSv s = true) (h0 : 0 ≤ t) (h1 : t ≤ 1099511627776) : 0 ≤ servAt s t ∧ servAt s t ≤ 1099511627777000 := by
 obtain ⟨a1, a2, a3⟩ := okSv_t h
 unfold servAt
 split
 ·split
  ·omega
  ·have d0 : 0 ≤ (t - 1) / s.t := Int.ediv_nonneg (by omega) (by omega)
   have d1 := div_le_self (a := t - 1) (T := s.t) (by omega) (by omega)
   refine ⟨Int.mul_nonneg (by omega) (by omega), ?_⟩
   have := Int.mul_le_mul (a := s.c) (b := (t - 1) / s.t + 1) (c := 1000) (d := 1099511627777) (by omega) (by omega) (by omega) (by omega)
   omega
 ·have d0 : 0 ≤ t / s.t := Int.ediv_nonneg (by omega) (by omega)
  have d1 := div_le_self (a := t) (T := s.t) (by omega) (by omega)
  refine ⟨Int.mul_nonneg (by omega) (by omega), ?_⟩
  have := Int.mul_le_mul (a := s.c) (b := t / s.t) (c := 1000) (d := 1099511627776) (by omega) (by omega) (by omega) (by omega)
  omega
theorem lowAt_period (h : okTk k = true) (ht : k.v ≤ t) : lowAt k (t + k.t) = lowAt k t + k.lo := by
 obtain ⟨a1, a2, a3, a4, a5, a6, a7, a8⟩ := okTk_t h
 unfold lowAt
 rw [if_neg (by omega), if_neg (by omega), show t + k.t - k.v = t - k.v + k.t by omega, div_next _ (by omega), Int.mul_add, Int.mul_add]
 omega
theorem servAt_period (h : okSv s = true) (ht : s.t ≤ t) : servAt s (t + s.t) = servAt s t + s.c := by
 obtain ⟨a1, a2, a3⟩ := okSv_t h
 unfold servAt
 split
 ·rw [if_neg (by omega), if_neg (by omega), show t + s.t - 1 = t - 1 + s.t by omega, div_next _ (by omega), Int.mul_add, Int.mul_add]
  omega
 ·rw [div_next _ (by omega), Int.mul_add]
  omega
end
/-- How many of the numbers a, a + T, a + 2T .. are at most b. -/
def stepsTo (a T b : Int) : Int := if b < a then 0 else (b - a) / T + 1
end Go.Proofs.YtchbehnkkcjdgaaGreat
namespace Go.Proofs.YtchbehnkkcjdgaaGreat
open Go.ChangeShapes Go.WideShapes Go.ChangeAt Go.RowKit
set_option linter.unusedVariables false
/-- What ran, tick by tick: nobody, or whose, and since when it was there. -/
abbrev Hs := List (Option (Nat × Int))
def isOf (i : Nat) : Option (Nat × Int) → Option Int
 | some (k, r) => if k = i then some r else none
 | none => none
/-- Of one of them: since when, for each tick that it got. -/
def frOf (h : Hs) (i : Nat) : List Int := h.filterMap (isOf i)
theorem fr_snoc (h : Hs) (e : Option (Nat × Int)) (i : Nat) : frOf (h ++ [e]) i = frOf h i ++ (match isOf i e with | some r => [r] | none => []) := by
 unfold frOf
 rw [List.filterMap_append]
 congr 1
 cases hi : isOf i e with
 | none => simp [hi]
 | some r => simp [hi]
theorem fr_same (h : Hs) (k : Nat) (r : Int) : frOf (h ++ [some (k, r)]) k = frOf h k ++ [r] := by
 rw [fr_snoc]; simp [isOf]
theorem fr_other (h : Hs) {k i : Nat} (r : Int) (hi : i ≠ k) : frOf (h ++ [some (k, r)]) i = frOf h i := by
 rw [fr_snoc]; simp [isOf, Ne.symm hi]
theorem fr_idle (h : Hs) (i : Nat) : frOf (h ++ [none]) i = frOf h i := by
 rw [fr_snoc]; simp [isOf]
/-- At each tick from r on, ahead of u, somebody ran who was due by d. -/
def Ran (dl : Nat → Int) (h : Hs) (r : Int) (u : Nat) (d : Int) : Prop := ∀ t : Nat, r ≤ t → t < u → ∃ k q, h[t]? = some (some (k, q)) ∧ q + dl k ≤ d
structure Edf (dl : Nat → Int) (h : Hs) (pend : Nat → Int → Prop) : Prop where
 hist : ∀ (t k : Nat) (r : Int), h[t]? = some (some (k, r)) → 0 ≤ r ∧ r ≤ t ∧ Ran dl h r t (r + dl k)
 pend : ∀ (k : Nat) (r : Int), pend k r → 0 ≤ r ∧ r ≤ h.length ∧ Ran dl h r h.length (r + dl k)
section
variable {dl : Nat → Int} {h : Hs} {pend pend' : Nat → Int → Prop}
theorem at_snoc {α : Type} {l : List α} {e y : α} {t : Nat} (hh : l[t]? = some y) : (l ++ [e])[t]? = some y := by
 have hl : t < l.length := (List.getElem?_eq_some_iff.1 hh).1
 rw [List.getElem?_append_left hl]; exact hh
theorem Ran.snoc {r d : Int} {u : Nat} (e : Option (Nat × Int)) (hr : Ran dl h r u d) : Ran dl (h ++ [e]) r u d := fun t h1 h2 => by
 obtain ⟨k, q, a, b⟩ := hr t h1 h2
 exact ⟨k, q, at_snoc a, b⟩
theorem Edf.start : Edf dl [] (fun _ _ => False) := ⟨fun t k r ht => (by simp at ht), fun _ _ hf => hf.elim⟩
theorem Edf.sub (hE : Edf dl h pend) (hs : ∀ k r, pend' k r → pend k r ∨ r = h.length) : Edf dl h pend' := ⟨hE.hist, fun k r hp => (hs k r hp).elim (hE.pend k r) (fun e => ⟨by omega, by omega, fun t h1 h2 => by omega⟩)⟩
/-- Somebody runs who is due first. -/
theorem Edf.run (hE : Edf dl h pend) {k : Nat} {r : Int} (hp : pend k r) (hm : ∀ k' r', pend k' r' → r + dl k ≤ r' + dl k') (hs : ∀ k' r', pend' k' r' → pend k' r') : Edf dl (h ++ [some (k, r)]) pend' := by
 have hlast : (h ++ [some (k, r)])[h.length]? = some (some (k, r)) := by simp
 refine ⟨fun t k' r' ht => ?_, fun k' r' hp' => ?_⟩
 ·by_cases e : t < h.length
  ·rw [List.getElem?_append_left e] at ht
   obtain ⟨a, b, c⟩ := hE.hist t k' r' ht
   exact ⟨a, b, c.snoc _⟩
  ·have e2 : t = h.length := by
    have := (List.getElem?_eq_some_iff.1 ht).1
    simp at this; omega
   subst e2
   rw [hlast] at ht
   cases ht
   obtain ⟨a, b, c⟩ := hE.pend _ _ hp
   exact ⟨a, b, c.snoc _⟩
 ·have hq := hs k' r' hp'
  obtain ⟨a, b, c⟩ := hE.pend _ _ hq
  refine ⟨a, by rw [List.length_append]; simp; omega, fun t h1 h2 => ?_⟩
  by_cases e : t < h.length
  ·exact (c.snoc _) t h1 e
  ·have e2 : t = h.length := by rw [List.length_append] at h2; simp at h2; omega
   subst e2
   exact ⟨k, r, hlast, hm _ _ hq⟩
theorem Edf.idle (hE : Edf dl h pend) (hn : ∀ k r, ¬ pend k r) (hs : ∀ k' r', ¬ pend' k' r') : Edf dl (h ++ [none]) pend' := by
 refine ⟨fun t k' r' ht => ?_, fun k' r' hp' => (hs _ _ hp').elim⟩
 by_cases e : t < h.length
 ·rw [List.getElem?_append_left e] at ht
  obtain ⟨a, b, c⟩ := hE.hist t k' r' ht
  exact ⟨a, b, c.snoc _⟩
 ·have e2 : t = h.length := by
   have := (List.getElem?_eq_some_iff.1 ht).1
   simp at this; omega
  subst e2
  simp at ht
theorem least_of {Q : Nat → Prop} : ∀ n : Nat, Q n → ∃ a, a ≤ n ∧ Q a ∧ (a = 0 ∨ ¬ Q (a - 1))
 | 0, hq => ⟨0, Nat.le_refl _, hq, .inl rfl⟩
 | n + 1, hq => by
   by_cases h1 : Q n
   ·obtain ⟨a, b, c, d⟩ := least_of n h1
    exact ⟨a, by omega, c, d⟩
   ·exact ⟨n + 1, Nat.le_refl _, hq, .inr (by simpa using h1)⟩
/-- The busy stretch ahead of what is late. -/
theorem Edf.busy (hE : Edf dl h pend) {k : Nat} {r : Int} (hp : pend k r) (hd : r + dl k ≤ h.length) : ∃ a : Nat, (a : Int) ≤ r ∧ ∀ t : Nat, a ≤ t → (t : Int) < r + dl k → ∃ k' r', h[t]? = some (some (k', r')) ∧ (a : Int) ≤ r' ∧ r' + dl k' ≤ r + dl k := by
 obtain ⟨h0, _, hR⟩ := hE.pend k r hp
 obtain ⟨a, ha, hq, hl⟩ := least_of (Q := fun a => ∀ t : Nat, a ≤ t → (t : Int) < r + dl k → ∃ k' r', h[t]? = some (some (k', r')) ∧ r' + dl k' ≤ r + dl k) r.toNat (fun t h1 h2 => hR t (by omega) (by omega))
 refine ⟨a, by omega, fun t h1 h2 => ?_⟩
 obtain ⟨k', r', e, hd'⟩ := hq t h1 h2
 refine ⟨k', r', e, ?_, hd'⟩
 rcases Int.lt_or_le r' a with g | g
 ·exfalso
  obtain ⟨b0, b1, b2⟩ := hE.hist t k' r' e
  rcases hl with h3 | h3
  ·omega
  ·refine h3 (fun u h4 h5 => ?_)
   by_cases e2 : a ≤ u
   ·exact hq u e2 h5
   ·obtain ⟨k2, r2, e3, h6⟩ := b2 u (by omega) (by omega)
    exact ⟨k2, r2, e3, by omega⟩
 ·exact g
end
/-! ### counting -/
def sumN (f : Nat → Nat) : Nat → Nat
 | 0 => 0
 | m + 1 => sumN f m + f m
theorem sumN_le {f g : Nat → Nat} : ∀ m, (∀ i, i < m → f i ≤ g i) → sumN f m ≤ sumN g m
 | 0, _ => Nat.le_refl _
 | m + 1, h => by have := sumN_le m (fun i hi => h i (by omega)); have := h m (by omega); simp only [sumN]; omega
theorem sumN_one {f g : Nat → Nat} {k : Nat} : ∀ m, k < m → (∀ i, f i ≤ g i) → f k + 1 ≤ g k → sumN f m + 1 ≤ sumN g m
 | 0, h, _, _ => by omega
 | m + 1, h, hf, hk => by
   simp only [sumN]
   by_cases e : k = m
   ·subst e
    have := sumN_le (f := f) (g := g) k (fun i _ => hf i)
    omega
   ·have := sumN_one (f := f) (g := g) m (by omega) hf hk
    have := hf m
    omega
def inP (dl : Nat → Int) (a d : Int) : Option (Nat × Int) → Bool
 | some (k, r) => decide (a ≤ r) && decide (r + dl k ≤ d)
 | none => false
def cntD (dl : Nat → Int) (h : Hs) (a d : Int) (i : Nat) : Nat := ((frOf h i).filter fun r => decide (a ≤ r) && decide (r ≤ d - dl i)).length
theorem cnt_sum {dl : Nat → Int} {a d : Int} {m : Nat} : ∀ h : Hs, (∀ e ∈ h, ∀ k r, e = some (k, r) → k < m) → (h.filter (inP dl a d)).length ≤ sumN (cntD dl h a d) m
 | [], _ => Nat.zero_le _
 | e :: h, hm => by
   have ih := cnt_sum (dl := dl) (a := a) (d := d) h (fun e he => hm e (List.mem_cons_of_mem _ he))
   have hle : ∀ i, cntD dl h a d i ≤ cntD dl (e :: h) a d i := fun i => by
    unfold cntD frOf
    rw [List.filterMap_cons]
    split
    ·exact Nat.le_refl _
    ·rw [List.filter_cons]; split <;> simp
   by_cases hp : inP dl a d e = true
   ·rw [List.filter_cons_of_pos hp, List.length_cons]
    cases e with
    | none => cases hp
    | some q =>
      obtain ⟨k, r⟩ := q
      have hk : k < m := hm _ List.mem_cons_self k r rfl
      refine Nat.le_trans (Nat.succ_le_succ ih) (sumN_one m hk hle ?_)
      unfold cntD frOf
      rw [List.filterMap_cons]
      have hi : isOf k (some (k, r)) = some r := by simp [isOf]
      simp only [inP, Bool.and_eq_true, decide_eq_true_eq] at hp
      simp only [hi]
      rw [List.filter_cons, if_pos (by simp; omega)]
      simp
   ·rw [List.filter_cons_of_neg hp]
    exact Nat.le_trans ih (sumN_le m (fun i _ => hle i))
theorem filter_part {α : Type} (p : α → Bool) (h : List α) (a n : Nat) (hn : a + n ≤ h.length) (hp : ∀ t, a ≤ t → t < a + n → ∃ e, h[t]? = some e ∧ p e = true) : n ≤ (h.filter p).length := by
 have e1 : ((h.drop a).take n).filter p = (h.drop a).take n := by
  rw [List.filter_eq_self]
  intro e he
  obtain ⟨i, hi, rfl⟩ := List.getElem_of_mem he
  rw [List.length_take, List.length_drop] at hi
  obtain ⟨e', h1, h2⟩ := hp (a + i) (by omega) (by omega)
  rw [List.getElem_take, List.getElem_drop]
  rw [List.getElem?_eq_getElem (by omega)] at h1
  cases h1
  exact h2
 have h2 : (((h.drop a).take n).filter p).length ≤ (h.filter p).length := (List.Sublist.filter p ((List.take_sublist _ _).trans (List.drop_sublist _ _))).length_le
 rw [e1, List.length_take, List.length_drop] at h2
 omega
/-- What ran in the busy stretch. -/
theorem Edf.count {dl : Nat → Int} {h : Hs} {pend : Nat → Int → Prop} (hE : Edf dl h pend) {m : Nat} (hm : ∀ e ∈ h, ∀ k r, e = some (k, r) → k < m) {k : Nat} {r : Int} (hp : pend k r) (hd : r + dl k ≤ h.length) (hk : 0 ≤ dl k) :
 ∃ a : Nat, (a : Int) ≤ r ∧ r + dl k - a ≤ (sumN (cntD dl h a (r + dl k)) m : Nat) := by
 obtain ⟨a, ha, hb⟩ := hE.busy hp hd
 have h0 := (hE.pend k r hp).1
 refine ⟨a, ha, ?_⟩
 have h1 := filter_part (inP dl a (r + dl k)) h a (r + dl k - a).toNat (by omega) (fun t h1 h2 => by
  obtain ⟨k', r', e, c1, c2⟩ := hb t h1 (by omega)
  exact ⟨_, e, by simp [inP, c1, c2]⟩)
 have h2 := cnt_sum (dl := dl) (a := a) (d := r + dl k) h hm
 omega
/-! ### how much each may have got -/
/-- A task: what it has got of jobs from x on, due by y. -/
theorem task_cnt {fr : List Int} {k : Tk} (ho : okTk k = true) (hw : ∀ a, (cntIn fr a (a + k.t) : Int) ≤ k.lo) {a d : Int} : (((fr.filter fun r => decide (a ≤ r) && decide (r ≤ d - k.v)).length : Nat) : Int) ≤ lowAt k (d - a) := by
 obtain ⟨a1, a2, a3, a4, a5, a6, a7, a8⟩ := okTk_t ho
 unfold lowAt
 by_cases h1 : d - a < k.v
 ·rw [if_pos h1]
  have : (fr.filter fun r => decide (a ≤ r) && decide (r ≤ d - k.v)) = [] := by
   rw [List.filter_eq_nil_iff]
   intro x _
   simp only [Bool.and_eq_true, decide_eq_true_eq]
   omega
  rw [this]; simp
 ·rw [if_neg h1]
  have hq : 0 ≤ (d - a - k.v) / k.t := Int.ediv_nonneg (by omega) (by omega)
  have hm := cntIn_many (show 1 ≤ k.t by omega) hw ((d - a - k.v) / k.t + 1).toNat a
  have e : ((((d - a - k.v) / k.t + 1).toNat : Nat) : Int) = (d - a - k.v) / k.t + 1 := by omega
  rw [e] at hm
  have hlt : d - k.v < a + ((d - a - k.v) / k.t + 1) * k.t := by
   have g1 := Int.emod_lt_of_pos (d - a - k.v) (show 0 < k.t by omega)
   have g2 := Int.emod_add_mul_ediv (d - a - k.v) k.t
   rw [Int.mul_comm] at g2
   rw [Int.add_mul]
   omega
  have hle : (fr.filter fun r => decide (a ≤ r) && decide (r ≤ d - k.v)).length ≤ cntIn fr a (a + ((d - a - k.v) / k.t + 1) * k.t) := by
   unfold cntIn
   have key : ∀ (l : List Int) (p q : Int → Bool), (∀ x, p x = true → q x = true) → (l.filter p).length ≤ (l.filter q).length := by
    intro l p q hpq
    induction l with
    | nil => simp
    | cons x l ih =>
      simp only [List.filter_cons]
      by_cases hx : p x = true
      ·rw [if_pos hx, if_pos (hpq x hx)]; simp; omega
      ·rw [if_neg hx]; split
       ·simp; omega
       ·exact ih
   refine key fr _ _ (fun x hx => ?_)
   simp only [Bool.and_eq_true, decide_eq_true_eq] at hx ⊢
   omega
  have e9 : ((d - a - k.v) / k.t + 1) * k.lo = k.lo * ((d - a - k.v) / k.t + 1) := Int.mul_comm _ _
  rw [e9] at hm
  omega
/-- What a task has got, and may yet get of the job that is there. -/
structure TkN (k : Tk) (la : Int) (oj : Option (Int × Int)) (fr : List Int) : Prop where
 le : ∀ z ∈ fr, z ≤ la
 jb : ∀ r dn, oj = some (r, dn) → r = la ∧ 0 ≤ r ∧ dn < k.lo
 w : ∀ a, (cntIn fr a (a + k.t) : Int) + (match oj with | some (r, dn) => if a ≤ r ∧ r < a + k.t then k.lo - dn else 0 | none => 0) ≤ k.lo
theorem TkN.start {k : Tk} (ho : okTk k = true) : TkN k (-1) none [] := ⟨fun z hz => (by cases hz), fun r dn e => (by cases e), fun a => by
 have := okTk_t ho
 simp [cntIn]; omega⟩
theorem TkN.gone {k : Tk} {la : Int} {oj : Option (Int × Int)} {fr : List Int} (h : TkN k la oj fr) : TkN k la none fr := ⟨h.le, fun r dn e => (by cases e), fun a => by
 have h1 := h.w a
 cases oj with
 | none => exact h1
 | some q =>
   obtain ⟨r, dn⟩ := q
   have h2 := h.jb r dn rfl
   dsimp only at h1 ⊢
   split at h1 <;> omega⟩
theorem cntIn_none {fr : List Int} {a c : Int} (h : ∀ z ∈ fr, z < a) : cntIn fr a c = 0 := by
 unfold cntIn
 rw [List.length_eq_zero_iff, List.filter_eq_nil_iff]
 intro x hx
 have := h x hx
 simp; omega
theorem TkN.come {k : Tk} (ho : okTk k = true) {la now : Int} {fr : List Int} (h : TkN k la none fr) (h0 : 0 ≤ now) (hn : 0 ≤ la → la + k.t ≤ now) (hz : ∀ z ∈ fr, 0 ≤ z) : TkN k now (some (now, 0)) fr := by
 obtain ⟨a1, a2, a3, a4, a5, a6, a7, a8⟩ := okTk_t ho
 have hlt : ∀ z ∈ fr, z + k.t ≤ now := fun z hz' => by
  have g1 := h.le z hz'
  have g2 := hz z hz'
  have := hn (by omega)
  omega
 refine ⟨fun z hz' => by have := hlt z hz'; omega, fun r dn e => by cases e; exact ⟨rfl, h0, by omega⟩, fun a => ?_⟩
 have h1 := h.w a
 dsimp only at h1 ⊢
 split
 ·rename_i hc
  rw [cntIn_none (fun z hz' => by have := hlt z hz'; omega)]
  simp
 ·omega
theorem TkN.run {k : Tk} {la : Int} {r dn : Int} {fr : List Int} (h : TkN k la (some (r, dn)) fr) (h1 : dn + 1 < k.lo) : TkN k la (some (r, dn + 1)) (fr ++ [r]) := by
 obtain ⟨b1, b2, b3⟩ := h.jb r dn rfl
 refine ⟨fun z hz => ?_, fun r' dn' e => by cases e; exact ⟨b1, b2, h1⟩, fun a => ?_⟩
 ·rcases List.mem_append.1 hz with hz | hz
  ·exact h.le z hz
  ·rw [List.mem_singleton.1 hz]; omega
 ·have h2 := h.w a
  rw [cntIn_snoc]
  dsimp only at h2 ⊢
  split at h2
  ·rename_i hc; rw [if_pos hc, if_pos hc]; push_cast; omega
  ·rename_i hc; rw [if_neg hc, if_neg hc]; push_cast; omega
theorem TkN.end_ {k : Tk} {la : Int} {r dn : Int} {fr : List Int} (h : TkN k la (some (r, dn)) fr) : TkN k la none (fr ++ [r]) := by
 obtain ⟨b1, b2, b3⟩ := h.jb r dn rfl
 refine ⟨fun z hz => ?_, fun r' dn' e => (by cases e), fun a => ?_⟩
 ·rcases List.mem_append.1 hz with hz | hz
  ·exact h.le z hz
  ·rw [List.mem_singleton.1 hz]; omega
 ·have h2 := h.w a
  rw [cntIn_snoc]
  dsimp only at h2 ⊢
  split at h2
  ·rename_i hc; rw [if_pos hc]; push_cast; omega
  ·rename_i hc; rw [if_neg hc]; push_cast; omega
theorem TkN.all {k : Tk} {la : Int} {oj : Option (Int × Int)} {fr : List Int} (h : TkN k la oj fr) (a : Int) : (cntIn fr a (a + k.t) : Int) ≤ k.lo := (h.gone.w a |> fun h1 => by simpa using h1)
end Go.Proofs.YtchbehnkkcjdgaaGreat
namespace Go.Proofs.YtchbehnkkcjdgaaGreat
open Go.ChangeShapes Go.WideShapes Go.ChangeAt Go.RowKit
set_option linter.unusedVariables false
/-- A budget: the tick of the last Go, free ticks, live chunks (At, Left), is it stopped. -/
structure Rd where
 (now free : Int) (live : List Bk) (stop : Bool)
def perOf (T start tick : Int) : Int := (tick - start) / T
def rGo (C T start : Int) (b : Rd) (now : Int) (busy : Bool) : Rd :=
 let f := if perOf T start b.now < perOf T start now then C - sumB b.live else b.free
 if busy && !b.stop && decide (0 < f) then ⟨now, 0, b.live ++ [⟨now, f⟩], b.stop⟩ else ⟨now, f, b.live, b.stop⟩
def rUse (b : Rd) : Rd := match b.live with
 | [] => b
 | x :: l => if x.n - 1 = 0 then ⟨b.now, b.free, l, b.stop⟩ else ⟨b.now, b.free, ⟨x.at_, x.n - 1⟩ :: l, b.stop⟩
def rUseOk (b : Rd) : Bool := !b.live.isEmpty
def rDone (b : Rd) : Rd := ⟨b.now, b.free + sumB b.live, [], b.stop⟩
def rStop (b : Rd) (v : Bool) : Rd := ⟨b.now, b.free, b.live, v⟩
def rReset (C : Int) (b : Rd) : Rd := ⟨b.now, C, [], false⟩
def rDue (T : Int) (b : Rd) : Int := match b.live with
 | [] => 0
 | x :: _ => x.at_ + T
/-- What holds of every budget. -/
structure RdOk (C M : Int) (b : Rd) : Prop where
 f0 : 0 ≤ b.free
 n0 : 0 ≤ b.now ∧ b.now ≤ M
 lv : ∀ x ∈ b.live, 0 ≤ x.at_ ∧ x.at_ ≤ b.now ∧ 1 ≤ x.n
 all : b.free + sumB b.live ≤ C
theorem sumB_pos (l : List Bk) (h : ∀ x ∈ l, 1 ≤ x.n) : 0 ≤ sumB l := by have := sumB_len l h; omega
section
variable {C T M start : Int} {b : Rd}
theorem RdOk.bounds (h : RdOk C M b) : b.free ≤ C ∧ (b.live.length : Int) ≤ C ∧ 0 ≤ sumB b.live ∧ sumB b.live ≤ C := by
 have h1 := sumB_len b.live (fun x hx => (h.lv x hx).2.2)
 have h2 := h.f0
 have h3 := h.all
 omega
theorem RdOk.stopped (h : RdOk C M b) (v : Bool) : RdOk C M (rStop b v) := ⟨h.f0, h.n0, h.lv, h.all⟩
theorem RdOk.begin_ (hC : 0 ≤ C) {s : Int} (h0 : 0 ≤ s) (h1 : s ≤ M) : RdOk C M ⟨s, C, [], false⟩ := ⟨hC, ⟨h0, h1⟩, fun x hx => (by cases hx), by simp [sumB]⟩
theorem RdOk.reset (h : RdOk C M b) (hC : 0 ≤ C) : RdOk C M (rReset C b) := ⟨hC, h.n0, fun x hx => (by cases hx), by simp [rReset, sumB]⟩
/-- What is free behind the filling. -/
def fillV (C T start : Int) (b : Rd) (now : Int) : Int := if perOf T start b.now < perOf T start now then C - sumB b.live else b.free
theorem rGo_eq (b : Rd) (now : Int) (busy : Bool) : rGo C T start b now busy = if busy && !b.stop && decide (0 < fillV C T start b now) then ⟨now, 0, b.live ++ [⟨now, fillV C T start b now⟩], b.stop⟩ else ⟨now, fillV C T start b now, b.live, b.stop⟩ := rfl
theorem fillV_bd (h : RdOk C M b) (now : Int) : 0 ≤ fillV C T start b now ∧ fillV C T start b now + sumB b.live ≤ C := by
 have h1 := h.bounds
 have h2 := h.f0
 have h3 := h.all
 unfold fillV; split <;> omega
theorem RdOk.go (h : RdOk C M b) {now : Int} (h0 : b.now ≤ now) (h1 : now ≤ M) (busy : Bool) : RdOk C M (rGo C T start b now busy) := by
 have hf := fillV_bd (T := T) (start := start) h now
 have hn := h.n0
 rw [rGo_eq]
 split
 ·rename_i hb
  simp only [Bool.and_eq_true, decide_eq_true_eq] at hb
  refine ⟨Int.le_refl _, ⟨by show 0 ≤ now; omega, h1⟩, fun x hx => ?_, ?_⟩
  ·rcases List.mem_append.1 hx with hx | hx
   ·have := h.lv x hx; exact ⟨this.1, by show x.at_ ≤ now; omega, this.2.2⟩
   ·rw [List.mem_singleton.1 hx]; exact ⟨by show 0 ≤ now; omega, Int.le_refl _, by show 1 ≤ fillV C T start b now; omega⟩
  ·show 0 + sumB (b.live ++ _) ≤ C
   rw [sumB_append]
   simp only [sumB, List.map_cons, List.map_nil, List.sum_cons, List.sum_nil] at hf ⊢
   omega
 ·exact ⟨hf.1, ⟨by show 0 ≤ now; omega, h1⟩, fun x hx => by have := h.lv x hx; exact ⟨this.1, by show x.at_ ≤ now; omega, this.2.2⟩, hf.2⟩
theorem RdOk.use (h : RdOk C M b) : RdOk C M (rUse b) := by
 obtain ⟨nw, f, lv, st⟩ := b
 cases lv with
 | nil => exact h
 | cons x l =>
   have hx := h.lv x (List.mem_cons_self ..)
   have ha := h.all
   have hl : ∀ y ∈ l, 0 ≤ y.at_ ∧ y.at_ ≤ nw ∧ 1 ≤ y.n := fun y hy => h.lv y (List.mem_cons_of_mem _ hy)
   simp only [sumB, List.map_cons, List.sum_cons] at ha
   unfold rUse
   dsimp only
   split
   ·exact ⟨h.f0, h.n0, hl, by show f + sumB l ≤ C; unfold sumB; omega⟩
   ·refine ⟨h.f0, h.n0, fun y hy => ?_, ?_⟩
    ·rcases List.mem_cons.1 hy with hy | hy
     ·rw [hy]; exact ⟨hx.1, hx.2.1, by show 1 ≤ x.n - 1; omega⟩
     ·exact hl y hy
    ·show f + sumB (_ :: l) ≤ C
     simp only [sumB, List.map_cons, List.sum_cons]; omega
theorem RdOk.done (h : RdOk C M b) : RdOk C M (rDone b) := by
 have hb := h.bounds
 have ha := h.all
 have hf := h.f0
 exact ⟨by show 0 ≤ b.free + sumB b.live; omega, h.n0, fun x hx => (by cases hx), by show b.free + sumB b.live + sumB [] ≤ C; simp only [sumB, List.map_nil, List.sum_nil] at ha ⊢; omega⟩
/-! ### never more -/
/-- The ticks used of chunks of a period. -/
def cntP (T start : Int) (fr : List Int) (p : Int) : Nat := (fr.filter (fun x => perOf T start x == p)).length
/-- What is left of chunks of a period; and of those before. -/
def leftP (T start p : Int) (l : List Bk) : Int := (l.map fun x => if perOf T start x.at_ = p then x.n else 0).sum
def leftB (T start p : Int) (l : List Bk) : Int := (l.map fun x => if perOf T start x.at_ < p then x.n else 0).sum
theorem leftP_append (p : Int) (l m : List Bk) : leftP T start p (l ++ m) = leftP T start p l + leftP T start p m := by simp [leftP]
theorem leftP_pos (p : Int) (l : List Bk) (h : ∀ x ∈ l, 1 ≤ x.n) : 0 ≤ leftP T start p l := by
 induction l with
 | nil => simp [leftP]
 | cons x l ih =>
   have i1 := ih (fun y hy => h y (List.mem_cons_of_mem _ hy))
   have i2 := h x (List.mem_cons_self ..)
   simp only [leftP, List.map_cons, List.sum_cons] at i1 ⊢
   split <;> omega
theorem left_both (p : Int) (l : List Bk) (h : ∀ x ∈ l, perOf T start x.at_ ≤ p) : leftP T start p l + leftB T start p l = sumB l := by
 induction l with
 | nil => simp [leftP, leftB, sumB]
 | cons x l ih =>
   have i1 := ih (fun y hy => h y (List.mem_cons_of_mem _ hy))
   have i2 := h x (List.mem_cons_self ..)
   simp only [leftP, leftB, sumB, List.map_cons, List.sum_cons] at i1 ⊢
   split <;> split <;> omega
theorem leftP_none (p : Int) (l : List Bk) (h : ∀ x ∈ l, perOf T start x.at_ < p) : leftP T start p l = 0 := by
 induction l with
 | nil => simp [leftP]
 | cons x l ih =>
   have i1 := ih (fun y hy => h y (List.mem_cons_of_mem _ hy))
   have i2 := h x (List.mem_cons_self ..)
   simp only [leftP, List.map_cons, List.sum_cons] at i1 ⊢
   rw [if_neg (by omega)]; omega
theorem perOf_mono (hT : 1 ≤ T) {x y : Int} (h : x ≤ y) : perOf T start x ≤ perOf T start y := by
 unfold perOf; exact Int.ediv_le_ediv (by omega) (by omega)
/-- How a budget was used. -/
structure NeverR (C T start : Int) (b : Rd) (fr : List Int) : Prop where
 lt : ∀ p, perOf T start b.now < p → cntP T start fr p = 0
 eq : (cntP T start fr (perOf T start b.now) : Int) + b.free + sumB b.live ≤ C
 gt : ∀ p, p < perOf T start b.now → (cntP T start fr p : Int) + leftP T start p b.live ≤ C
theorem NeverR.go (hT : 1 ≤ T) {fr : List Int} (h : NeverR C T start b fr) (ok : RdOk C M b) {now : Int} (h0 : b.now ≤ now) (busy : Bool) : NeverR C T start (rGo C T start b now busy) fr := by
 have hm := perOf_mono (start := start) hT h0
 have hlv : ∀ x ∈ b.live, perOf T start x.at_ ≤ perOf T start b.now := fun x hx => perOf_mono hT (ok.lv x hx).2.1
 have hn : ∀ x ∈ b.live, 1 ≤ x.n := fun x hx => (ok.lv x hx).2.2
 have hb2 := left_both (perOf T start b.now) b.live hlv
 have key : (cntP T start fr (perOf T start now) : Int) + fillV C T start b now + sumB b.live ≤ C := by
  unfold fillV
  by_cases h1 : perOf T start b.now < perOf T start now
  ·rw [if_pos h1, h.lt _ h1]; simp
  ·rw [if_neg h1, show perOf T start now = perOf T start b.now by omega]; exact h.eq
 have old : ∀ p, p < perOf T start now → (cntP T start fr p : Int) + leftP T start p b.live ≤ C := fun p hp => by
  by_cases h1 : p < perOf T start b.now
  ·exact h.gt p h1
  ·by_cases h2 : p = perOf T start b.now
   ·subst h2
    have h3 := h.eq
    have h4 := ok.f0
    have h5 : 0 ≤ leftB T start (perOf T start b.now) b.live := by
     have : ∀ l : List Bk, (∀ x ∈ l, 1 ≤ x.n) → 0 ≤ leftB T start (perOf T start b.now) l := by
      intro l
      induction l with
      | nil => intro _; simp [leftB]
      | cons z l ih =>
        intro hz
        have i1 := ih (fun y hy => hz y (List.mem_cons_of_mem _ hy))
        have i2 := hz z (List.mem_cons_self ..)
        simp only [leftB, List.map_cons, List.sum_cons] at i1 ⊢
        split <;> omega
     exact this _ hn
    omega
   ·rw [h.lt p (by omega), leftP_none p b.live (fun x hx => by have := hlv x hx; omega)]
    have := h.eq
    have h4 := ok.f0
    have h5 := sumB_pos b.live hn
    simp; omega
 rw [rGo_eq]
 split
 ·refine ⟨fun p hp => h.lt p (by have : perOf T start now < p := hp; omega), ?_, fun p hp => ?_⟩
  ·show (cntP T start fr (perOf T start now) : Int) + 0 + sumB (b.live ++ _) ≤ C
   rw [sumB_append]
   simp only [sumB, List.map_cons, List.map_nil, List.sum_cons, List.sum_nil] at key ⊢
   omega
  ·have hp' : p < perOf T start now := hp
   show (cntP T start fr p : Int) + leftP T start p (b.live ++ _) ≤ C
   rw [leftP_append]
   have e1 : leftP T start p [⟨now, fillV C T start b now⟩] = 0 := by simp only [leftP, List.map_cons, List.map_nil, List.sum_cons, List.sum_nil]; rw [if_neg (by omega)]; rfl
   rw [e1]
   have := old p hp'
   omega
 ·exact ⟨fun p hp => h.lt p (by have : perOf T start now < p := hp; omega), key, fun p hp => old p hp⟩
theorem cntP_snoc (fr : List Int) (x p : Int) : cntP T start (fr ++ [x]) p = cntP T start fr p + (if perOf T start x = p then 1 else 0) := by
 unfold cntP
 rw [List.filter_append, List.length_append, List.filter_cons]
 by_cases h : perOf T start x = p
 ·simp [h]
 ·simp [h]
theorem NeverR.use (hT : 1 ≤ T) {fr : List Int} {x : Bk} {l : List Bk} (h : NeverR C T start b fr) (ok : RdOk C M b) (hl : b.live = x :: l) : NeverR C T start (rUse b) (fr ++ [x.at_]) := by
 obtain ⟨nw, f, lv, st⟩ := b
 dsimp only at hl
 subst hl
 have hx := ok.lv x (List.mem_cons_self ..)
 have hp := perOf_mono (start := start) hT hx.2.1
 have heq := h.eq
 have hgt := h.gt
 dsimp only at hp heq hgt
 unfold rUse
 dsimp only
 split
 ·refine ⟨fun p hp' => ?_, ?_, fun p hp' => ?_⟩
  ·rw [cntP_snoc, h.lt p hp', if_neg (by have : perOf T start nw < p := hp'; omega)]
  ·show ((cntP T start (fr ++ [x.at_]) (perOf T start nw) : Nat) : Int) + f + sumB l ≤ C
   rw [cntP_snoc]
   simp only [sumB, List.map_cons, List.sum_cons] at heq ⊢
   split <;> push_cast <;> omega
  ·have h1 := hgt p hp'
   show ((cntP T start (fr ++ [x.at_]) p : Nat) : Int) + leftP T start p l ≤ C
   rw [cntP_snoc]
   simp only [leftP, List.map_cons, List.sum_cons] at h1 ⊢
   split at h1
   ·rename_i h2; rw [if_pos h2]; push_cast; omega
   ·rename_i h2; rw [if_neg h2]; push_cast; omega
 ·refine ⟨fun p hp' => ?_, ?_, fun p hp' => ?_⟩
  ·rw [cntP_snoc, h.lt p hp', if_neg (by have : perOf T start nw < p := hp'; omega)]
  ·show ((cntP T start (fr ++ [x.at_]) (perOf T start nw) : Nat) : Int) + f + sumB (_ :: l) ≤ C
   rw [cntP_snoc]
   simp only [sumB, List.map_cons, List.sum_cons] at heq ⊢
   split <;> push_cast <;> omega
  ·have h1 := hgt p hp'
   show ((cntP T start (fr ++ [x.at_]) p : Nat) : Int) + leftP T start p (_ :: l) ≤ C
   rw [cntP_snoc]
   simp only [leftP, List.map_cons, List.sum_cons] at h1 ⊢
   split at h1
   ·rename_i h2; rw [if_pos h2, if_pos h2]; push_cast; omega
   ·rename_i h2; rw [if_neg h2, if_neg h2]; push_cast; omega
theorem NeverR.done {fr : List Int} (h : NeverR C T start b fr) (ok : RdOk C M b) : NeverR C T start (rDone b) fr := by
 have he := h.eq
 refine ⟨h.lt, ?_, fun p hp => ?_⟩
 ·show (cntP T start fr (perOf T start b.now) : Int) + (b.free + sumB b.live) + sumB [] ≤ C
  simp only [sumB, List.map_nil, List.sum_nil] at he ⊢
  omega
 ·have h1 := h.gt p hp
  have h2 := leftP_pos (T := T) (start := start) p b.live (fun x hx => (ok.lv x hx).2.2)
  show (cntP T start fr p : Int) + leftP T start p [] ≤ C
  simp only [leftP, List.map_nil, List.sum_nil] at h1 h2 ⊢
  omega
theorem NeverR.stopped {fr : List Int} (h : NeverR C T start b fr) (v : Bool) : NeverR C T start (rStop b v) fr := ⟨h.lt, h.eq, h.gt⟩
theorem NeverR.begin_ (hC : 0 ≤ C) (T s : Int) : NeverR C T s ⟨s, C, [], false⟩ [] := ⟨fun _ _ => rfl, by show ((0 : Nat) : Int) + C + sumB [] ≤ C; simp [sumB], fun p _ => by show ((0 : Nat) : Int) + leftP T s p [] ≤ C; simp [leftP]; exact hC⟩
/-- The ticks used of chunks of m periods from p on. -/
def cntPs (T start : Int) (fr : List Int) (p : Int) (m : Nat) : Nat := (fr.filter (fun x => decide (p ≤ perOf T start x) && decide (perOf T start x < p + m))).length
theorem cntPs_le {fr : List Int} (h : ∀ p, (cntP T start fr p : Int) ≤ C) (p : Int) : ∀ m : Nat, (cntPs T start fr p m : Int) ≤ m * C
 | 0 => by
   have : cntPs T start fr p 0 = 0 := by
    unfold cntPs
    rw [List.length_eq_zero_iff, List.filter_eq_nil_iff]
    intro x _
    simp
   rw [this]; simp
 | m + 1 => by
   have ih := cntPs_le h p m
   have h1 := h (p + m)
   have e : cntPs T start fr p (m + 1) = cntPs T start fr p m + cntP T start fr (p + m) := by
    clear ih h1 h
    unfold cntPs cntP
    induction fr with
    | nil => rfl
    | cons x l il =>
      simp only [List.filter_cons]
      by_cases a1 : p ≤ perOf T start x
      ·by_cases a2 : perOf T start x < p + m
       ·simp only [a1, a2, decide_true, Bool.and_self, show decide (perOf T start x < p + ((m + 1 : Nat) : Int)) = true by simp; omega, show (perOf T start x == p + (m : Int)) = false by simp; omega, if_true, List.length_cons]
        simp only [Bool.false_eq_true, if_false]
        omega
       ·by_cases a3 : perOf T start x = p + m
        ·simp only [a1, a2, decide_true, decide_false, Bool.and_false, Bool.and_self, show decide (perOf T start x < p + ((m + 1 : Nat) : Int)) = true by simp; omega, show (perOf T start x == p + (m : Int)) = true by simp; omega, if_true, List.length_cons]
         simp only [Bool.false_eq_true, if_false]
         omega
        ·simp only [a1, a2, decide_true, decide_false, Bool.and_false, show decide (perOf T start x < p + ((m + 1 : Nat) : Int)) = false by simp; omega, show (perOf T start x == p + (m : Int)) = false by simp; omega]
         simp only [Bool.false_eq_true, if_false]
         exact il
      ·simp only [a1, decide_false, Bool.false_and, show (perOf T start x == p + (m : Int)) = false by simp; omega]
       simp only [Bool.false_eq_true, if_false]
       exact il
   rw [e]
   push_cast
   rw [Int.add_mul]
   omega
/-- P1804: of chunks from x on, due until y + T. -/
theorem never_moreR (hT : 1 ≤ T) {fr : List Int} (h : NeverR C T start b fr) (ok : RdOk C M b) {x y : Int} (hxy : x ≤ y) : ((fr.filter (fun z => decide (x ≤ z) && decide (z ≤ y))).length : Int) ≤ C * ((y + T - x - 1) / T + 1) := by
 have hC : 0 ≤ C := by have := ok.bounds; have := ok.f0; omega
 have hw : ∀ p, (cntP T start fr p : Int) ≤ C := fun p => by
  have hn : ∀ x ∈ b.live, 1 ≤ x.n := fun x hx => (ok.lv x hx).2.2
  rcases Int.lt_trichotomy p (perOf T start b.now) with h1 | h1 | h1
  ·have := h.gt p h1
   have := leftP_pos (T := T) (start := start) p b.live hn
   omega
  ·subst h1
   have := h.eq
   have := ok.f0
   have := sumB_pos b.live hn
   omega
  ·rw [h.lt p h1]; exact hC
 have hm := perOf_mono (start := start) hT hxy
 obtain ⟨m, hme⟩ : ∃ m : Nat, (m : Int) = perOf T start y - perOf T start x + 1 := ⟨(perOf T start y - perOf T start x + 1).toNat, by omega⟩
 have h1 := cntPs_le hw (perOf T start x) m
 have hle : (fr.filter (fun z => decide (x ≤ z) && decide (z ≤ y))).length ≤ cntPs T start fr (perOf T start x) m := by
  unfold cntPs
  clear h1 hw h
  induction fr with
  | nil => simp
  | cons z l ih =>
    simp only [List.filter_cons]
    by_cases a1 : x ≤ z
    ·by_cases a2 : z ≤ y
     ·have b1 := perOf_mono (start := start) hT a1
      have b2 := perOf_mono (start := start) hT a2
      simp only [a1, a2, decide_true, Bool.and_self, show decide (perOf T start x ≤ perOf T start z) = true by simp; omega, show decide (perOf T start z < perOf T start x + (m : Int)) = true by simp; omega, if_true, List.length_cons]
      omega
     ·simp only [a1, a2, decide_true, decide_false, Bool.and_false]
      simp only [Bool.false_eq_true, if_false]
      split
      ·rw [List.length_cons]; omega
      ·exact ih
    ·simp only [a1, decide_false, Bool.false_and]
     simp only [Bool.false_eq_true, if_false]
     split
     ·rw [List.length_cons]; omega
     ·exact ih
 have hq : (m : Int) ≤ (y + T - x - 1) / T + 1 := by
  rw [hme]
  unfold perOf
  have e1 := Int.emod_add_mul_ediv (y - start) T
  have e2 := Int.emod_add_mul_ediv (x - start) T
  have g1 := Int.emod_nonneg (y - start) (show T ≠ 0 by omega)
  have g2 := Int.emod_lt_of_pos (x - start) (show 0 < T by omega)
  have : (y - start) / T - (x - start) / T ≤ (y + T - x - 1) / T := by
   rw [Int.le_ediv_iff_mul_le (by omega)]
   rw [Int.sub_mul, Int.mul_comm ((y - start) / T), Int.mul_comm ((x - start) / T)]
   omega
  omega
 have h2 : (m : Int) * C ≤ ((y + T - x - 1) / T + 1) * C := Int.mul_le_mul_of_nonneg_right hq hC
 have e9 : ((y + T - x - 1) / T + 1) * C = C * ((y + T - x - 1) / T + 1) := Int.mul_comm _ _
 rw [e9] at h2
 omega
end
end Go.Proofs.YtchbehnkkcjdgaaGreat
namespace Go.Proofs.YtchbehnkkcjdgaaGreat
set_option linter.unusedVariables false
/-- A number, and when it is due. -/
abbrev En := Nat × Int
def ltH (a b : En) : Prop := a.2 < b.2 ∨ (a.2 = b.2 ∧ a.1 < b.1)
instance (a b : En) : Decidable (ltH a b) := inferInstanceAs (Decidable (_ ∨ _))
theorem ltH.irrefl (a : En) : ¬ ltH a a := by unfold ltH; omega
theorem ltH.asymm {a b : En} (h : ltH a b) : ¬ ltH b a := by unfold ltH at *; omega
theorem ltH.trans {a b c : En} (h : ltH a b) (k : ltH b c) : ltH a c := by unfold ltH at *; omega
theorem ltH.le_trans {a b c : En} (h : ¬ ltH b a) (k : ¬ ltH c b) : ¬ ltH c a := by unfold ltH at *; omega
theorem ltH.tri {a b : En} (h : ¬ ltH a b) (hn : a.1 ≠ b.1) : ltH b a := by unfold ltH at *; omega
def upd {α : Type} (f : Nat → α) (i : Nat) (e : α) : Nat → α := fun j => if j = i then e else f j
theorem upd_at {α : Type} (f : Nat → α) (i : Nat) (e : α) : upd f i e i = e := by simp [upd]
theorem upd_ne {α : Type} (f : Nat → α) {i j : Nat} (e : α) (h : j ≠ i) : upd f i e j = f j := by simp [upd, h]
/-- Those at two places change them. -/
def sw (f : Nat → En) (a b : Nat) : Nat → En := upd (upd f a (f b)) b (f a)
theorem sw_a (f : Nat → En) (a b : Nat) : sw f a b a = f b := by
 unfold sw
 by_cases h : a = b
 ·subst h; rw [upd_at]
 ·rw [upd_ne _ _ h, upd_at]
theorem sw_b (f : Nat → En) (a b : Nat) : sw f a b b = f a := by unfold sw; rw [upd_at]
theorem sw_ne (f : Nat → En) {a b i : Nat} (h1 : i ≠ a) (h2 : i ≠ b) : sw f a b i = f i := by unfold sw; rw [upd_ne _ _ h2, upd_ne _ _ h1]
/-- Both lists tell of the same numbers as D. -/
structure Good (room n : Nat) (f : Nat → En) (x : Nat → Int) (D : Nat → Option Int) : Prop where
 le : n ≤ room
 ids : ∀ i, i < n → (f i).1 < room ∧ x (f i).1 = i ∧ D (f i).1 = some (f i).2
 all : ∀ id, id < room → (x id = -1 ∧ D id = none) ∨ ∃ i, i < n ∧ x id = i ∧ (f i).1 = id
 out : ∀ id, room ≤ id → D id = none
section
variable {room n : Nat} {f : Nat → En} {x : Nat → Int} {D : Nat → Option Int}
theorem Good.inj (h : Good room n f x D) {i j : Nat} (hi : i < n) (hj : j < n) (e : (f i).1 = (f j).1) : i = j := by
 have h1 := (h.ids i hi).2.1
 have h2 := (h.ids j hj).2.1
 rw [e] at h1
 omega
theorem Good.has (h : Good room n f x D) {i : Nat} (hi : i < n) : D (f i).1 ≠ none := by rw [(h.ids i hi).2.2]; simp
/-- Where a number is. -/
theorem Good.place (h : Good room n f x D) {id : Nat} {d : Int} (hd : D id = some d) : ∃ i, i < n ∧ x id = i ∧ f i = (id, d) ∧ id < room := by
 have hr : id < room := by
  rcases Nat.lt_or_ge id room with k | k
  ·exact k
  ·rw [h.out id k] at hd; cases hd
 rcases h.all id hr with ⟨_, hn⟩ | ⟨i, hi, hx, he⟩
 ·rw [hn] at hd; cases hd
 ·have h3 := (h.ids i hi).2.2
  rw [he, hd] at h3
  exact ⟨i, hi, hx, Prod.ext he (Option.some.inj h3).symm, hr⟩
theorem Good.nowhere (h : Good room n f x D) {id : Nat} (hr : id < room) (hd : D id = none) : x id = -1 := by
 rcases h.all id hr with ⟨k, _⟩ | ⟨i, hi, hx, he⟩
 ·exact k
 ·exact absurd (he ▸ hd) (h.has hi)
theorem Good.swap (h : Good room n f x D) {a b : Nat} (ha : a < n) (hb : b < n) : Good room n (sw f a b) (upd (upd x (f b).1 a) (f a).1 b) D where
 le := h.le
 ids i hi := by
  by_cases h1 : i = b
  ·subst h1
   rw [sw_b, upd_at]
   exact ⟨(h.ids a ha).1, rfl, (h.ids a ha).2.2⟩
  ·by_cases h2 : i = a
   ·subst h2
    rw [sw_a, upd_ne _ _ (fun e => h1 (h.inj hb hi e).symm), upd_at]
    exact ⟨(h.ids b hb).1, rfl, (h.ids b hb).2.2⟩
   ·rw [sw_ne _ h2 h1, upd_ne _ _ (fun e => h2 (h.inj hi ha e)), upd_ne _ _ (fun e => h1 (h.inj hi hb e))]
    exact h.ids i hi
 all id hr := by
  rcases h.all id hr with ⟨hx, hn⟩ | ⟨i, hi, hx, he⟩
  ·refine .inl ⟨?_, hn⟩
   rw [upd_ne _ _ (fun e : id = (f a).1 => h.has ha (e ▸ hn)), upd_ne _ _ (fun e : id = (f b).1 => h.has hb (e ▸ hn))]
   exact hx
  ·refine .inr ?_
   subst he
   by_cases h2 : i = a
   ·subst h2
    exact ⟨b, hb, by rw [upd_at], by rw [sw_b]⟩
   ·by_cases h1 : i = b
    ·subst h1
     exact ⟨a, ha, by rw [upd_ne _ _ (fun e => h2 (h.inj hi ha e)), upd_at], by rw [sw_a]⟩
    ·exact ⟨i, hi, by rw [upd_ne _ _ (fun e => h2 (h.inj hi ha e)), upd_ne _ _ (fun e => h1 (h.inj hi hb e))]; exact hx, by rw [sw_ne _ h2 h1]⟩
 out := h.out
theorem pigeon : ∀ (m n : Nat) (g : Nat → Nat), (∀ i, i < n → g i < m) → (∀ i j, i < n → j < n → g i = g j → i = j) → n ≤ m
 | 0, n, g, h, _ => by
   rcases Nat.eq_zero_or_pos n with k | k
   ·omega
   ·exact absurd (h 0 k) (by omega)
 | m + 1, n, g, h, hj => by
   by_cases hx : ∃ i, i < n ∧ g i = m
   ·obtain ⟨i, hi, he⟩ := hx
    have := pigeon m (n - 1) (fun j => if j = i then g (n - 1) else g j)
     (fun j hjn => by
       split
       ·have h1 := h (n - 1) (by omega)
        have h2 : g (n - 1) ≠ m := fun e => by have := hj (n - 1) i (by omega) hi (by omega); omega
        omega
       ·have h1 := h j (by omega)
        have h2 : g j ≠ m := fun e => by have := hj j i (by omega) hi (by omega); omega
        omega)
     (fun a b ha hb e => by
       split at e
       ·split at e
        ·omega
        ·have := hj (n - 1) b (by omega) (by omega) e; omega
       ·split at e
        ·have := hj a (n - 1) (by omega) (by omega) e; omega
        ·exact hj a b (by omega) (by omega) e)
    omega
   ·have := pigeon m n g (fun i hi => by have := h i hi; have h2 : g i ≠ m := fun e => hx ⟨i, hi, e⟩; omega) hj
    omega
theorem Good.room_for (h : Good room n f x D) {id : Nat} (hr : id < room) (hd : D id = none) : n < room := by
 have := pigeon room (n + 1) (fun i => if i < n then (f i).1 else id)
  (fun i hi => by
    show (if i < n then (f i).1 else id) < room
    split
    ·rename_i h1; exact (h.ids i h1).1
    ·exact hr)
  (fun i j hi hj e => by
    split at e
    ·rename_i h1
     split at e
     ·exact h.inj h1 (by assumption) e
     ·exact absurd (e ▸ hd) (h.has h1)
    ·split at e
     ·rename_i h2
      exact absurd (e ▸ hd) (h.has h2)
     ·omega)
 omega
theorem Good.enter (h : Good room n f x D) {e : En} (hr : e.1 < room) (hd : D e.1 = none) : Good room (n + 1) (upd f n e) (upd x e.1 n) (upd D e.1 (some e.2)) where
 le := h.room_for hr hd
 ids i hi := by
  by_cases h1 : i = n
  ·subst h1
   rw [upd_at, upd_at, upd_at]
   exact ⟨hr, rfl, rfl⟩
  ·have hi' : i < n := by omega
   have hn : (f i).1 ≠ e.1 := fun k => h.has hi' (k ▸ hd)
   rw [upd_ne _ _ h1, upd_ne _ _ hn, upd_ne _ _ hn]
   exact h.ids i hi'
 all id hid := by
  by_cases h1 : id = e.1
  ·subst h1
   exact .inr ⟨n, by omega, by rw [upd_at], by rw [upd_at]⟩
  ·rcases h.all id hid with ⟨hx, hn⟩ | ⟨i, hi, hx, he⟩
   ·exact .inl ⟨by rw [upd_ne _ _ h1]; exact hx, by rw [upd_ne _ _ h1]; exact hn⟩
   ·exact .inr ⟨i, by omega, by rw [upd_ne _ _ h1]; exact hx, by rw [upd_ne _ _ (show i ≠ n by omega)]; exact he⟩
 out id hid := by rw [upd_ne _ _ (by omega)]; exact h.out id hid
theorem Good.change (h : Good room n f x D) {a : Nat} (ha : a < n) (d : Int) : Good room n (upd f a ((f a).1, d)) x (upd D (f a).1 (some d)) where
 le := h.le
 ids i hi := by
  by_cases h1 : i = a
  ·subst h1
   rw [upd_at, upd_at]
   exact ⟨(h.ids i hi).1, (h.ids i hi).2.1, rfl⟩
  ·rw [upd_ne _ _ h1, upd_ne _ _ (fun e => h1 (h.inj hi ha e))]
   exact h.ids i hi
 all id hid := by
  rcases h.all id hid with ⟨hx, hn⟩ | ⟨i, hi, hx, he⟩
  ·exact .inl ⟨hx, by rw [upd_ne _ _ (fun e : id = (f a).1 => h.has ha (e ▸ hn))]; exact hn⟩
  ·refine .inr ⟨i, hi, hx, ?_⟩
   by_cases h1 : i = a
   ·subst h1; rw [upd_at]; exact he
   ·rw [upd_ne _ _ h1]; exact he
 out id hid := by rw [upd_ne _ _ (by have := (h.ids a ha).1; omega)]; exact h.out id hid
theorem Good.leave {m : Nat} (h : Good room (m + 1) f x D) : Good room m f (upd x (f m).1 (-1)) (upd D (f m).1 none) where
 le := by have := h.le; omega
 ids i hi := by
  have hn : (f i).1 ≠ (f m).1 := fun e => by have := h.inj (by omega) (by omega) e; omega
  rw [upd_ne _ _ hn, upd_ne _ _ hn]
  exact h.ids i (by omega)
 all id hid := by
  by_cases h1 : id = (f m).1
  ·subst h1; exact .inl ⟨by rw [upd_at], by rw [upd_at]⟩
  ·rcases h.all id hid with ⟨hx, hn⟩ | ⟨i, hi, hx, he⟩
   ·exact .inl ⟨by rw [upd_ne _ _ h1]; exact hx, by rw [upd_ne _ _ h1]; exact hn⟩
   ·refine .inr ⟨i, ?_, by rw [upd_ne _ _ h1]; exact hx, he⟩
    have : i ≠ m := fun e => h1 (by rw [← he, e])
    omega
 out id hid := by
  by_cases h1 : id = (f m).1
  ·subst h1; rw [upd_at]
  ·rw [upd_ne _ _ h1]; exact h.out id hid
end
/-! ### The order of the places. -/
def par (i : Nat) : Nat := (i - 1) / 2
theorem par_lt {i : Nat} (h : 0 < i) : par i < i := by unfold par; omega
def HOrd (n : Nat) (f : Nat → En) : Prop := ∀ i, 0 < i → i < n → ¬ ltH (f i) (f (par i))
def GP (n : Nat) (f : Nat → En) (a : Nat) : Prop := 0 < a → ∀ i, 0 < i → i < n → par i = a → ¬ ltH (f i) (f (par a))
def UpI (n : Nat) (f : Nat → En) (a : Nat) : Prop := (∀ i, 0 < i → i < n → i ≠ a → par i ≠ a → ¬ ltH (f i) (f (par i))) ∧ GP n f a
def DnI (n : Nat) (f : Nat → En) (a : Nat) : Prop := (∀ i, 0 < i → i < n → par i ≠ a → ¬ ltH (f i) (f (par i))) ∧ GP n f a
def upV (f : Nat → En) (a : Nat) : Nat := if ltH (f a) (f (par a)) then par a else a
def dn1 (n : Nat) (f : Nat → En) (a : Nat) : Nat := if 2 * a + 1 < n ∧ ltH (f (2 * a + 1)) (f a) then 2 * a + 1 else a
def downV (n : Nat) (f : Nat → En) (a : Nat) : Nat := if 2 * a + 2 < n ∧ ltH (f (2 * a + 2)) (f (dn1 n f a)) then 2 * a + 2 else dn1 n f a
theorem up_lt {f : Nat → En} {a : Nat} (h : upV f a ≠ a) : upV f a < a ∧ upV f a = par a ∧ ltH (f a) (f (par a)) := by
 unfold upV at *
 split at h
 ·rename_i hl
  rw [if_pos hl]
  refine ⟨?_, rfl, hl⟩
  rcases Nat.eq_zero_or_pos a with rfl | k
  ·exact absurd rfl h
  ·exact par_lt k
 ·exact absurd rfl h
theorem up_step {n : Nat} {f : Nat → En} {a : Nat} (ha : a < n) (h : UpI n f a) (hs : upV f a ≠ a) : UpI n (sw f a (upV f a)) (upV f a) := by
 obtain ⟨h1, h2, h3⟩ := up_lt hs
 rw [h2] at h1 ⊢
 have ha0 : 0 < a := by omega
 constructor
 ·intro i i0 i1 i2 i3
  by_cases e1 : i = a
  ·subst e1; exact absurd rfl i3
  ·rw [sw_ne _ e1 i2]
   by_cases e2 : par i = a
   ·rw [e2, sw_a]
    exact h.2 ha0 i i0 i1 e2
   ·rw [sw_ne _ e2 i3]
    exact h.1 i i0 i1 e1 e2
 ·intro hp i i0 i1 i2
  have hpp := par_lt hp
  rw [sw_ne _ (show par (par a) ≠ a by omega) (show par (par a) ≠ par a by omega)]
  have k1 := h.1 (par a) hp (by omega) (by omega) (by omega)
  by_cases e1 : i = a
  ·subst e1
   rw [sw_a]
   exact k1
  ·have hpi := par_lt i0
   rw [sw_ne _ e1 (by omega)]
   have k2 := h.1 i i0 i1 e1 (by omega)
   rw [i2] at k2
   exact ltH.le_trans k1 k2
theorem up_end {n : Nat} {f : Nat → En} {a : Nat} (h : UpI n f a) (hs : upV f a = a) : DnI n f a := by
 refine ⟨fun i i0 i1 i2 => ?_, h.2⟩
 by_cases e1 : i = a
 ·subst e1
  intro hl
  unfold upV at hs
  rw [if_pos hl] at hs
  have := par_lt i0
  omega
 ·exact h.1 i i0 i1 e1 i2
theorem dn_is {n : Nat} {f : Nat → En} {a : Nat} (hs : downV n f a ≠ a) : a < downV n f a ∧ downV n f a < n ∧ par (downV n f a) = a ∧ ltH (f (downV n f a)) (f a) ∧ ∀ c, c < n → 0 < c → par c = a → ¬ ltH (f c) (f (downV n f a)) := by
 have hc : ∀ c, 0 < c → par c = a → c = 2 * a + 1 ∨ c = 2 * a + 2 := by unfold par; intro c h1 h2; omega
 have p1 : par (2 * a + 1) = a := by unfold par; omega
 have p2 : par (2 * a + 2) = a := by unfold par; omega
 unfold downV at *
 split at hs
 ·rename_i h2
  rw [if_pos h2]
  have hd : ¬ ltH (f a) (f (dn1 n f a)) := by
   unfold dn1
   split
   ·rename_i h1; exact h1.2.asymm
   ·exact ltH.irrefl _
  have hlt : ltH (f (2 * a + 2)) (f a) := by
   unfold dn1 at h2
   split at h2
   ·rename_i h1; exact h2.2.trans h1.2
   ·exact h2.2
  refine ⟨by omega, h2.1, p2, hlt, fun c c1 c0 hp => ?_⟩
  rcases hc c c0 hp with rfl | rfl
  ·have h3 := h2.2
   unfold dn1 at h3
   split at h3
   ·exact h3.asymm
   ·rename_i h4
    have h5 : ¬ ltH (f (2 * a + 1)) (f a) := fun k => h4 ⟨c1, k⟩
    exact ltH.le_trans hlt.asymm h5
  ·exact ltH.irrefl _
 ·rename_i h2
  rw [if_neg h2]
  unfold dn1 at h2 hs ⊢
  split at hs
  ·rename_i h1
   rw [if_pos h1] at h2 ⊢
   refine ⟨by omega, h1.1, p1, h1.2, fun c c1 c0 hp => ?_⟩
   rcases hc c c0 hp with rfl | rfl
   ·exact ltH.irrefl _
   ·exact fun k => h2 ⟨c1, k⟩
  ·exact absurd rfl hs
theorem dn_end {n : Nat} {f : Nat → En} {a : Nat} (h : DnI n f a) (hs : downV n f a = a) : HOrd n f := by
 intro i i0 i1
 by_cases e : par i = a
 ·intro hl
  have hc : i = 2 * a + 1 ∨ i = 2 * a + 2 := by unfold par at e; omega
  rw [e] at hl
  unfold downV dn1 at hs
  rcases hc with rfl | rfl
  ·rw [if_pos (show 2 * a + 1 < n ∧ _ from ⟨i1, hl⟩)] at hs
   split at hs <;> omega
  ·by_cases h1 : 2 * a + 1 < n ∧ ltH (f (2 * a + 1)) (f a)
   ·rw [if_pos h1] at hs
    split at hs <;> omega
   ·rw [if_neg h1, if_pos ⟨i1, hl⟩] at hs
    omega
 ·exact h.1 i i0 i1 e
theorem dn_step {n : Nat} {f : Nat → En} {a : Nat} (h : DnI n f a) (hs : downV n f a ≠ a) : DnI n (sw f a (downV n f a)) (downV n f a) := by
 obtain ⟨h1, h2, h3, h4, h5⟩ := dn_is hs
 generalize downV n f a = c at *
 constructor
 ·intro i i0 i1 i2
  have hpi := par_lt i0
  by_cases e1 : i = a
  ·subst e1
   rw [sw_a, sw_ne _ (by omega) i2]
   exact h.2 i0 c (by omega) h2 h3
  ·by_cases e2 : i = c
   ·subst e2
    rw [sw_b, h3, sw_a]
    exact h4.asymm
   ·rw [sw_ne _ e1 e2]
    by_cases e3 : par i = a
    ·rw [e3, sw_a]
     exact h5 i i1 i0 e3
    ·rw [sw_ne _ e3 i2]
     exact h.1 i i0 i1 e3
 ·intro hc i i0 i1 i2
  have hpi := par_lt i0
  rw [h3, sw_a, sw_ne _ (by omega) (by omega)]
  have := h.1 i i0 i1 (by omega)
  rw [i2] at this
  exact this
/-- Where one place alone has changed. -/
theorem HOrd.but {n m : Nat} {f g : Nat → En} {a : Nat} (h : HOrd n f) (hg : ∀ i, i < m → i ≠ a → i < n ∧ g i = f i) (hm : ∀ i, a < i → i < m → a < n) : UpI m g a := by
 constructor
 ·intro i i0 i1 i2 i3
  have hpi := par_lt i0
  rw [(hg i i1 i2).2, (hg (par i) (by omega) i3).2]
  exact h i i0 (hg i i1 i2).1
 ·intro ha i i0 i1 i2
  have hpi := par_lt i0
  have hpa := par_lt ha
  rw [(hg i i1 (by omega)).2, (hg (par a) (by omega) (by omega)).2]
  have k1 := h i i0 (hg i i1 (by omega)).1
  rw [i2] at k1
  exact ltH.le_trans (h a ha (hm i (by omega) i1)) k1
theorem HOrd.cut {n m : Nat} {f g : Nat → En} (h : HOrd n f) (hm : m ≤ n) (hg : ∀ i, i < m → g i = f i) : HOrd m g := by
 intro i i0 i1
 have hpi := par_lt i0
 rw [hg i i1, hg _ (by omega)]
 exact h i i0 (by omega)
theorem HOrd.first {n : Nat} {f : Nat → En} (h : HOrd n f) (i : Nat) (hi : i < n) : ¬ ltH (f i) (f 0) := by
 induction i using Nat.strongRecOn with
 | ind i ih =>
   rcases Nat.eq_zero_or_pos i with rfl | i0
   ·exact ltH.irrefl _
   ·have hpi := par_lt i0
    exact ltH.le_trans (ih (par i) hpi (by omega)) (h i i0 hi)
/-! ### The document's list. -/
def Rep (R : List En) (D : Nat → Option Int) : Prop := R.Pairwise ltH ∧ ∀ id d, (id, d) ∈ R ↔ D id = some d
theorem Rep.nil : Rep [] (fun _ => none) := ⟨List.Pairwise.nil, fun id d => by simp⟩
theorem Rep.put {R : List En} {D : Nat → Option Int} (h : Rep R D) {e : En} (hd : D e.1 = none) {k : Nat} (hk : k ≤ R.length) (h1 : ∀ j (hj : j < R.length), j < k → ltH R[j] e) (h2 : ∀ (hj : k < R.length), ¬ ltH R[k] e) :
 Rep (R.take k ++ e :: R.drop k) (upd D e.1 (some e.2)) := by
 have hne : ∀ b ∈ R, b.1 ≠ e.1 := fun b hb he => by
  have := (h.2 b.1 b.2).1 hb
  rw [he, hd] at this
  cases this
 have hp := h.1
 rw [← List.take_append_drop k R, List.pairwise_append] at hp
 have hdr : ∀ b ∈ R.drop k, ltH e b := by
  intro b hb
  by_cases hkl : k < R.length
  ·have hc : R.drop k = R[k] :: R.drop (k + 1) := (List.getElem_cons_drop hkl).symm
   have h3 : ltH e R[k] := ltH.tri (h2 hkl) (hne _ (List.getElem_mem hkl))
   have hp2 := hp.2.1
   rw [hc] at hb hp2
   rcases List.mem_cons.1 hb with rfl | hb
   ·exact h3
   ·exact h3.trans ((List.pairwise_cons.1 hp2).1 b hb)
  ·rw [List.drop_eq_nil_of_le (by omega)] at hb
   cases hb
 have htk : ∀ b ∈ R.take k, ltH b e := by
  intro b hb
  obtain ⟨j, hj, rfl⟩ := List.mem_iff_getElem.1 hb
  simp only [List.length_take] at hj
  rw [List.getElem_take]
  exact h1 j (by omega) (by omega)
 refine ⟨?_, fun id d => ?_⟩
 ·rw [List.pairwise_append]
  refine ⟨hp.1, List.pairwise_cons.2 ⟨hdr, hp.2.1⟩, fun a ha b hb => ?_⟩
  rcases List.mem_cons.1 hb with rfl | hb
  ·exact htk a ha
  ·exact hp.2.2 a ha b hb
 ·have hm : (id, d) ∈ R ↔ (id, d) ∈ R.take k ∨ (id, d) ∈ R.drop k := by rw [← List.mem_append, List.take_append_drop]
  rw [List.mem_append, List.mem_cons]
  by_cases he : id = e.1
  ·subst he
   rw [upd_at]
   constructor
   ·rintro (hx | hx | hx)
    ·exact absurd rfl (hne (e.1, d) (hm.2 (.inl hx)))
    ·rw [← hx]
    ·exact absurd rfl (hne (e.1, d) (hm.2 (.inr hx)))
   ·intro hx
    exact .inr (.inl (Prod.ext rfl (Option.some.inj hx).symm))
  ·rw [upd_ne _ _ he, ← h.2 id d, hm]
   constructor
   ·rintro (hx | hx | hx)
    ·exact .inl hx
    ·exact absurd (by rw [← hx]) he
    ·exact .inr hx
   ·rintro (hx | hx)
    ·exact .inl hx
    ·exact .inr (.inr hx)
theorem Rep.find {R : List En} {D : Nat → Option Int} (h : Rep R D) {k : Nat} (hk : k < R.length) : D R[k].1 = some R[k].2 := (h.2 _ _).1 (List.getElem_mem hk)
/-- The heap's list. -/
def rowH (n : Nat) (f : Nat → En) : List En := (List.range n).map f
theorem row_nodup {room n : Nat} {f : Nat → En} {x : Nat → Int} {D : Nat → Option Int} (h : Good room n f x D) : (rowH n f).Nodup := by
 unfold rowH List.Nodup
 rw [List.pairwise_map]
 exact (List.pairwise_lt_range (n := n)).imp_of_mem fun {a b} ha hb hlt e => by
  have := h.inj (List.mem_range.1 ha) (List.mem_range.1 hb) (by rw [e])
  omega
theorem rep_nodup {R : List En} {D : Nat → Option Int} (h : Rep R D) : R.Nodup := h.1.imp (S := fun a b => a ≠ b) fun {a b} hl e => by subst e; exact ltH.irrefl _ hl
theorem mem_row {room n : Nat} {f : Nat → En} {x : Nat → Int} {D : Nat → Option Int} (h : Good room n f x D) (id : Nat) (d : Int) : (id, d) ∈ rowH n f ↔ D id = some d := by
 unfold rowH
 rw [List.mem_map]
 constructor
 ·rintro ⟨i, hi, he⟩
  have := (h.ids i (List.mem_range.1 hi)).2.2
  rw [he] at this
  exact this
 ·intro hd
  obtain ⟨i, hi, _, he, _⟩ := h.place hd
  exact ⟨i, List.mem_range.2 hi, he⟩
theorem row_perm {room n : Nat} {f : Nat → En} {x : Nat → Int} {R : List En} {D : Nat → Option Int} (h : Good room n f x D) (k : Rep R D) : (rowH n f).Perm R := by
 rw [List.perm_iff_count]
 intro a
 have e : a ∈ rowH n f ↔ a ∈ R := by
  obtain ⟨id, d⟩ := a
  rw [mem_row h, k.2]
 by_cases ha : a ∈ R
 ·have h1 := List.nodup_iff_count.1 (row_nodup h) a
  have h2 := List.nodup_iff_count.1 (rep_nodup k) a
  have h3 := List.count_pos_iff.2 ha
  have h4 := List.count_pos_iff.2 (e.2 ha)
  omega
 ·rw [List.count_eq_zero.2 ha, List.count_eq_zero.2 (fun hx => ha (e.1 hx))]
theorem row_len {room n : Nat} {f : Nat → En} {x : Nat → Int} {R : List En} {D : Nat → Option Int} (h : Good room n f x D) (k : Rep R D) : n = R.length := by
 have := (row_perm h k).length_eq
 simpa [rowH] using this
/-- The first one. -/
theorem first_is {room n : Nat} {f : Nat → En} {x : Nat → Int} {R : List En} {D : Nat → Option Int} (h : Good room n f x D) (ho : HOrd n f) (k : Rep R D) (hn : 0 < R.length) : f 0 = R[0] := by
 have hl := row_len h k
 have h1 : f 0 ∈ R := (row_perm h k).subset (List.mem_map.2 ⟨0, List.mem_range.2 (by omega), rfl⟩)
 obtain ⟨i, hi, he⟩ := List.mem_map.1 ((row_perm h k).symm.subset (List.getElem_mem hn))
 have h2 := ho.first i (List.mem_range.1 hi)
 rw [he] at h2
 obtain ⟨j, hj, hje⟩ := List.mem_iff_getElem.1 h1
 rcases Nat.eq_zero_or_pos j with rfl | hj0
 ·exact hje.symm
 ·have := List.pairwise_iff_getElem.1 k.1 0 j hn hj hj0
  rw [hje] at this
  exact absurd this h2
end Go.Proofs.YtchbehnkkcjdgaaGreat
namespace Go.Proofs.YtchbehnkkcjdgaaGreat
open Go.ChangeShapes Go.WideShapes Go.ChangeAt Go.RowKit
set_option linter.unusedVariables false
def tkAt (ts : List Tk) (i : Nat) : Tk := ts.getD i ⟨false, 0, 0, 0, 0, 0⟩
theorem tkAt_eq {ts : List Tk} {i : Nat} (h : i < ts.length) : tkAt ts i = ts[i] := by unfold tkAt; rw [List.getD_eq_getElem?_getD, List.getElem?_eq_getElem h]; rfl
def laAt (la : List Int) (i : Nat) : Int := la.getD i (-1)
theorem laAt_eq {la : List Int} {i : Nat} (h : i < la.length) : laAt la i = la[i] := by unfold laAt; rw [List.getD_eq_getElem?_getD, List.getElem?_eq_getElem h]; rfl
def inT (ts : List Tk) (t : Int) : Bool := decide (0 ≤ t) && decide (t < (ts.length : Int))
theorem inT_t {ts : List Tk} {i : Nat} (h : i < ts.length) : inT ts i = true := by unfold inT; rw [decide_eq_true (by omega), decide_eq_true (by omega)]; rfl
theorem inT_nat {ts : List Tk} {t : Int} (h : inT ts t = true) : ∃ i : Nat, t = i ∧ i < ts.length := by
 simp only [inT, Bool.and_eq_true, decide_eq_true_eq] at h
 exact ⟨t.toNat, by omega, by omega⟩
def dropV (ts : List Tk) (hi : Bool) (t : Int) : Bool := inT ts t && (hi && !(tkAt ts t.toNat).hi)
theorem dropV_nat {ts : List Tk} {hi : Bool} {i : Nat} (h : i < ts.length) : dropV ts hi i = (hi && !(tkAt ts i).hi) := by unfold dropV; rw [inT_t h]; simp
def nowOk (now : Int) : Bool := decide (0 ≤ now) && decide (now ≤ 4611686018427387904)
def errP (ts : List Tk) (la : List Int) (hi : Bool) (t now : Int) : Int :=
 if inT ts t && nowOk now then (if dropV ts hi t then 42 else if decide (0 ≤ laAt la t.toNat) && decide (now - laAt la t.toNat < (tkAt ts t.toNat).t) then 40 else 0) else 1
theorem errP_arg {ts : List Tk} {la : List Int} {hi : Bool} {t now : Int} (h : inT ts t = false ∨ nowOk now = false) : errP ts la hi t now = 1 := by
 unfold errP; rcases h with h | h <;> simp [h]
theorem errP_drop {ts : List Tk} {la : List Int} {hi : Bool} {t now : Int} (h : inT ts t = true) (h1 : nowOk now = true) (h2 : dropV ts hi t = true) : errP ts la hi t now = 42 := by
 unfold errP; simp [h, h1, h2]
theorem errP_soon {ts : List Tk} {la : List Int} {hi : Bool} {i : Nat} {now : Int} (h : i < ts.length) (h1 : nowOk now = true) (h2 : dropV ts hi i = false) (h3 : 0 ≤ laAt la i) (h4 : now - laAt la i < (tkAt ts i).t) : errP ts la hi i now = 40 := by
 unfold errP; simp [inT_t h, h1, h2, h3, h4]
theorem errP_ok {ts : List Tk} {la : List Int} {hi : Bool} {i : Nat} {now : Int} (h : i < ts.length) (h1 : nowOk now = true) (h2 : dropV ts hi i = false) (h3 : 0 ≤ laAt la i → ¬ now - laAt la i < (tkAt ts i).t) : errP ts la hi i now = 0 := by
 unfold errP
 by_cases h0 : 0 ≤ laAt la i
 ·have := h3 h0; simp [inT_t h, h1, h2, h0, this]
 ·simp [inT_t h, h1, h2, h0]
theorem errP_zero {ts : List Tk} {la : List Int} {hi : Bool} {t now : Int} (h : errP ts la hi t now = 0) : inT ts t = true ∧ nowOk now = true := by
 unfold errP at h
 split at h
 ·rename_i h1; simpa using h1
 ·cases h
def takL (ts : List Tk) (la : List Int) (hi : Bool) (t now : Int) : List Int := if errP ts la hi t now = 0 then la.set t.toNat now else la
def okN (ts : List Tk) : Bool := decide (ts.length ≤ 6) && ts.all okTk
/-- When each was accepted last, or never. -/
structure LaOk (ts : List Tk) (la : List Int) : Prop where
 len : la.length = ts.length
 bd : ∀ x ∈ la, -1 ≤ x ∧ x ≤ 4611686018427387904
theorem LaOk.take {ts : List Tk} {la : List Int} (h : LaOk ts la) (hi : Bool) (t now : Int) : LaOk ts (takL ts la hi t now) := by
 unfold takL
 split
 ·rename_i h0
  have h1 := (errP_zero h0).2
  simp only [nowOk, Bool.and_eq_true, decide_eq_true_eq] at h1
  refine ⟨by rw [List.length_set]; exact h.len, fun x hx => ?_⟩
  rcases List.mem_or_eq_of_mem_set hx with h2 | h2
  ·exact h.bd x h2
  ·omega
 ·exact h
theorem LaOk.at_ {ts : List Tk} {la : List Int} (h : LaOk ts la) (i : Nat) : -1 ≤ laAt la i ∧ laAt la i ≤ 4611686018427387904 := by
 by_cases hi : i < la.length
 ·rw [laAt_eq hi]; exact h.bd _ (List.getElem_mem hi)
 ·unfold laAt; rw [List.getD_eq_getElem?_getD, List.getElem?_eq_none (by omega)]; decide
theorem LaOk.start (ts : List Tk) : LaOk ts (List.replicate ts.length (-1)) := ⟨by simp, fun x hx => by rw [List.eq_of_mem_replicate hx]; decide⟩
end Go.Proofs.YtchbehnkkcjdgaaGreat
namespace Go.Proofs.YtchbehnkkcjdgaaGreat
open Go.ChangeShapes Go.WideShapes Go.ChangeAt Go.RowKit
set_option linter.unusedVariables false
structure Jb where
 arr : Int
 work : Int
 done : Int
 ops : List Wn
/-- The jobs: of each task, if it has one. -/
abbrev Js := Nat → Option Jb
def hasJ (js : Js) (k : Nat) : Bool := (js k).isSome
def jbAt (js : Js) (k : Nat) : Jb := (js k).getD ⟨0, 0, 0, []⟩
theorem hasJ_some {js : Js} {k : Nat} {j : Jb} (h : js k = some j) : hasJ js k = true := by unfold hasJ; rw [h]; rfl
theorem hasJ_none {js : Js} {k : Nat} (h : js k = none) : hasJ js k = false := by unfold hasJ; rw [h]; rfl
theorem hasJ_t {js : Js} {k : Nat} (h : hasJ js k = true) : ∃ j, js k = some j := by unfold hasJ at h; exact Option.isSome_iff_exists.1 h
theorem hasJ_f {js : Js} {k : Nat} (h : hasJ js k = false) : js k = none := by
 unfold hasJ at h
 cases hj : js k with
 | none => rfl
 | some j => rw [hj] at h; cases h
/-- When a job is due. -/
def dueT (ts : List Tk) (hi : Bool) (k : Nat) (j : Jb) : Int := j.arr + (if hi = true then (tkAt ts k).d else (tkAt ts k).v)
def dmT (ts : List Tk) (hi : Bool) (js : Js) : Nat → Option Int := fun k => (js k).map (dueT ts hi k)
structure JsOk (ts : List Tk) (js : Js) : Prop where
 out : ∀ k, ts.length ≤ k → js k = none
 bd : ∀ k j, js k = some j → 0 ≤ j.arr ∧ j.arr ≤ 4611686018427387904 ∧ 1 ≤ j.work ∧ j.work ≤ 1048576 ∧ 0 ≤ j.done ∧ j.done < j.work ∧ j.ops.length ≤ 64
theorem JsOk.lt {ts : List Tk} {js : Js} (h : JsOk ts js) {k : Nat} {j : Jb} (e : js k = some j) : k < ts.length := by
 rcases Nat.lt_or_ge k ts.length with g | g
 ·exact g
 ·rw [h.out k g] at e; cases e
theorem JsOk.set {ts : List Tk} {js : Js} (h : JsOk ts js) {k : Nat} (hk : k < ts.length) {j : Jb} (hb : 0 ≤ j.arr ∧ j.arr ≤ 4611686018427387904 ∧ 1 ≤ j.work ∧ j.work ≤ 1048576 ∧ 0 ≤ j.done ∧ j.done < j.work ∧ j.ops.length ≤ 64) : JsOk ts (upd js k (some j)) :=
 ⟨fun i hi => by rw [upd_ne _ _ (by omega)]; exact h.out i hi, fun i x hx => by
  by_cases e : i = k
  ·subst e; rw [upd_at] at hx; cases hx; exact hb
  ·rw [upd_ne _ _ e] at hx; exact h.bd i x hx⟩
theorem JsOk.rem {ts : List Tk} {js : Js} (h : JsOk ts js) (k : Nat) : JsOk ts (upd js k none) :=
 ⟨fun i hi => by
  by_cases e : i = k
  ·subst e; rw [upd_at]
  ·rw [upd_ne _ _ e]; exact h.out i hi, fun i x hx => by
  by_cases e : i = k
  ·subst e; rw [upd_at] at hx; cases hx
  ·rw [upd_ne _ _ e] at hx; exact h.bd i x hx⟩
theorem JsOk.none (ts : List Tk) : JsOk ts (fun _ => Option.none) := ⟨fun _ _ => rfl, fun _ _ h => by cases h⟩
/-- The same, but a job may be done to its end. -/
structure JsW (ts : List Tk) (js : Js) : Prop where
 out : ∀ k, ts.length ≤ k → js k = Option.none
 bd : ∀ k j, js k = some j → 0 ≤ j.arr ∧ j.arr ≤ 4611686018427387904 ∧ 1 ≤ j.work ∧ j.work ≤ 1048576 ∧ 0 ≤ j.done ∧ j.done ≤ j.work ∧ j.ops.length ≤ 64
theorem JsOk.w {ts : List Tk} {js : Js} (h : JsOk ts js) : JsW ts js := ⟨h.out, fun k j e => by obtain ⟨a, b, c, d, f, g, i⟩ := h.bd k j e; exact ⟨a, b, c, d, f, by omega, i⟩⟩
theorem JsW.lt {ts : List Tk} {js : Js} (h : JsW ts js) {k : Nat} {j : Jb} (e : js k = some j) : k < ts.length := by
 rcases Nat.lt_or_ge k ts.length with g | g
 ·exact g
 ·rw [h.out k g] at e; cases e
theorem JsW.set {ts : List Tk} {js : Js} (h : JsW ts js) {k : Nat} (hk : k < ts.length) {j : Jb} (hb : 0 ≤ j.arr ∧ j.arr ≤ 4611686018427387904 ∧ 1 ≤ j.work ∧ j.work ≤ 1048576 ∧ 0 ≤ j.done ∧ j.done ≤ j.work ∧ j.ops.length ≤ 64) : JsW ts (upd js k (some j)) :=
 ⟨fun i hi => by rw [upd_ne _ _ (by omega)]; exact h.out i hi, fun i x hx => by
  by_cases e : i = k
  ·subst e; rw [upd_at] at hx; cases hx; exact hb
  ·rw [upd_ne _ _ e] at hx; exact h.bd i x hx⟩
theorem JsW.sub {ts : List Tk} {js js' : Js} (h : JsW ts js) (hj : ∀ k j, js' k = some j → js k = some j) : JsW ts js' :=
 ⟨fun k g => (by
  cases e : js' k with
  | none => rfl
  | some j => have := hj k j e; rw [h.out k g] at this; cases this), fun k j e => h.bd k j (hj k j e)⟩
theorem dm_upd (ts : List Tk) (hi : Bool) (js : Js) (k : Nat) (j : Jb) : dmT ts hi (upd js k (some j)) = upd (dmT ts hi js) k (some (dueT ts hi k j)) := by
 funext i
 unfold dmT
 by_cases e : i = k
 ·subst e; rw [upd_at, upd_at]; rfl
 ·rw [upd_ne _ _ e, upd_ne _ _ e]
theorem dm_rem (ts : List Tk) (hi : Bool) (js : Js) (k : Nat) : dmT ts hi (upd js k none) = upd (dmT ts hi js) k none := by
 funext i
 unfold dmT
 by_cases e : i = k
 ·subst e; rw [upd_at, upd_at]; rfl
 ·rw [upd_ne _ _ e, upd_ne _ _ e]
theorem dm_none (ts : List Tk) (hi : Bool) : dmT ts hi (fun _ => none) = fun _ => none := rfl
/-- How many there are. -/
def cntT (js : Js) : Nat → Nat
 | 0 => 0
 | k + 1 => cntT js k + (if hasJ js k = true then 1 else 0)
theorem cnt_le (js : Js) : ∀ n, cntT js n ≤ n
 | 0 => Nat.le_refl _
 | n + 1 => by have := cnt_le js n; unfold cntT; split <;> omega
theorem cnt_congr {js js' : Js} : ∀ n, (∀ k, k < n → hasJ js' k = hasJ js k) → cntT js' n = cntT js n
 | 0, _ => rfl
 | n + 1, h => by unfold cntT; rw [cnt_congr n (fun k hk => h k (by omega)), h n (by omega)]
theorem hasJ_ne (js : Js) {k i : Nat} (o : Option Jb) (h : i ≠ k) : hasJ (upd js k o) i = hasJ js i := by unfold hasJ; rw [upd_ne _ _ h]
theorem cnt_put {js : Js} {k : Nat} (j : Jb) (hn : js k = none) : ∀ n, k < n → cntT (upd js k (some j)) n = cntT js n + 1
 | 0, h => by omega
 | n + 1, h => by
   unfold cntT
   by_cases e : k = n
   ·subst e
    rw [cnt_congr k (fun i hi => hasJ_ne js _ (by omega)), hasJ_none hn, hasJ_some (upd_at _ _ _)]; simp
   ·rw [cnt_put j hn n (by omega), hasJ_ne js _ (by omega)]; omega
theorem cnt_rem {js : Js} {k : Nat} {j : Jb} (hn : js k = some j) : ∀ n, k < n → cntT (upd js k none) n + 1 = cntT js n
 | 0, h => by omega
 | n + 1, h => by
   unfold cntT
   by_cases e : k = n
   ·subst e
    rw [cnt_congr k (fun i hi => hasJ_ne js _ (by omega)), hasJ_some hn, hasJ_none (upd_at _ _ _)]; simp
   ·have := cnt_rem hn n (by omega)
    rw [hasJ_ne js _ (by omega)]; omega
theorem cnt_same {js : Js} {k : Nat} {j j' : Jb} (hn : js k = some j) (n : Nat) : cntT (upd js k (some j')) n = cntT js n :=
 cnt_congr n fun i _ => by
  by_cases e : i = k
  ·subst e; rw [hasJ_some hn, hasJ_some (upd_at _ _ _)]
  ·exact hasJ_ne js _ e
theorem cnt_none : ∀ n, cntT (fun _ => none) n = 0
 | 0 => rfl
 | n + 1 => by unfold cntT; rw [cnt_none n]; rfl
theorem cnt_zero {js : Js} : ∀ {n : Nat}, cntT js n = 0 → ∀ k, k < n → js k = none
 | 0, _, k, hk => by omega
 | n + 1, h, k, hk => by
   unfold cntT at h
   cases hj : hasJ js n with
   | true => rw [hj] at h; simp at h
   | false =>
     by_cases e : k = n
     ·subst e; exact hasJ_f hj
     ·exact cnt_zero (n := n) (by omega) k (by omega)
/-- Who is due first, of the first k tasks. -/
def bestT (ts : List Tk) (hi : Bool) (js : Js) : Nat → Option Nat
 | 0 => none
 | k + 1 => if hasJ js k = true then (match bestT ts hi js k with | none => some k | some b => if dueT ts hi k (jbAt js k) < dueT ts hi b (jbAt js b) then some k else some b) else bestT ts hi js k
theorem jbAt_some {js : Js} {k : Nat} {j : Jb} (h : js k = some j) : jbAt js k = j := by unfold jbAt; rw [h]; rfl
theorem best_none {ts : List Tk} {hi : Bool} {js : Js} : ∀ {n : Nat}, bestT ts hi js n = none ↔ ∀ k, k < n → js k = none
 | 0 => ⟨fun _ k hk => by omega, fun _ => rfl⟩
 | n + 1 => by
   unfold bestT
   cases hj : hasJ js n with
   | true =>
     refine ⟨fun h => ?_, fun h => ?_⟩
     ·rw [if_pos rfl] at h
      split at h
      ·cases h
      ·split at h <;> cases h
     ·rw [h n (by omega) |> hasJ_none] at hj; cases hj
   | false =>
     rw [if_neg (by simp), best_none (n := n)]
     refine ⟨fun h k hk => ?_, fun h k hk => h k (by omega)⟩
     by_cases e : k = n
     ·subst e; exact hasJ_f hj
     ·exact h k (by omega)
theorem best_some {ts : List Tk} {hi : Bool} {js : Js} : ∀ {n b : Nat}, bestT ts hi js n = some b → b < n ∧ hasJ js b = true ∧ ∀ k, k < n → hasJ js k = true → dueT ts hi b (jbAt js b) ≤ dueT ts hi k (jbAt js k) ∧ (dueT ts hi b (jbAt js b) = dueT ts hi k (jbAt js k) → b ≤ k)
 | 0, b, h => by cases h
 | n + 1, b, h => by
   unfold bestT at h
   cases hj : hasJ js n with
   | true =>
     rw [hj, if_pos rfl] at h
     cases hb : bestT ts hi js n with
     | none =>
       rw [hb] at h; cases h
       refine ⟨by omega, hj, fun k hk hkj => ?_⟩
       by_cases e : k = n
       ·subst e; exact ⟨Int.le_refl _, fun _ => Nat.le_refl _⟩
       ·rw [hasJ_none (best_none.1 hb k (by omega))] at hkj; cases hkj
     | some c =>
       rw [hb] at h
       obtain ⟨h1, h2, h3⟩ := best_some hb
       dsimp only at h
       split at h
       ·rename_i hlt
        cases h
        refine ⟨by omega, hj, fun k hk hkj => ?_⟩
        by_cases e : k = n
        ·subst e; exact ⟨Int.le_refl _, fun _ => Nat.le_refl _⟩
        ·have := (h3 k (by omega) hkj).1
         exact ⟨by omega, fun _ => by omega⟩
       ·rename_i hge
        cases h
        refine ⟨by omega, h2, fun k hk hkj => ?_⟩
        by_cases e : k = n
        ·subst e; exact ⟨by omega, fun _ => by omega⟩
        ·exact h3 k (by omega) hkj
   | false =>
     rw [hj, if_neg (by simp)] at h
     obtain ⟨h1, h2, h3⟩ := best_some h
     refine ⟨by omega, h2, fun k hk hkj => ?_⟩
     by_cases e : k = n
     ·subst e; rw [hj] at hkj; cases hkj
     ·exact h3 k (by omega) hkj
def foV (ts : List Tk) (hi : Bool) (js : Js) : Bool := (bestT ts hi js ts.length).isSome
def fkV (ts : List Tk) (hi : Bool) (js : Js) : Int := match bestT ts hi js ts.length with | none => 0 | some b => b
def fdV (ts : List Tk) (hi : Bool) (js : Js) : Int := match bestT ts hi js ts.length with | none => 0 | some b => dueT ts hi b (jbAt js b)
theorem fo_f {ts : List Tk} {hi : Bool} {js : Js} (h : foV ts hi js = false) : bestT ts hi js ts.length = none := by
 unfold foV at h
 cases hb : bestT ts hi js ts.length with
 | none => rfl
 | some b => rw [hb] at h; cases h
theorem fo_t {ts : List Tk} {hi : Bool} {js : Js} (h : foV ts hi js = true) : ∃ b, bestT ts hi js ts.length = some b ∧ fkV ts hi js = b ∧ b < ts.length ∧ ∃ j, js b = some j := by
 unfold foV at h
 obtain ⟨b, hb⟩ := Option.isSome_iff_exists.1 h
 obtain ⟨h1, h2, _⟩ := best_some hb
 exact ⟨b, hb, by unfold fkV; rw [hb], h1, hasJ_t h2⟩
/-- The head of what a heap holds is the first. -/
theorem first_rep {ts : List Tk} {hi : Bool} {js : Js} {R : List En} (ho : JsOk ts js) (hR : Rep R (dmT ts hi js)) : (R = [] ∧ bestT ts hi js ts.length = none) ∨ ∃ b d R', R = (b, d) :: R' ∧ bestT ts hi js ts.length = some b ∧ d = dueT ts hi b (jbAt js b) := by
 cases hb : bestT ts hi js ts.length with
 | none =>
   refine .inl ⟨?_, rfl⟩
   cases R with
   | nil => rfl
   | cons e R' =>
     have h1 := (hR.2 e.1 e.2).1 List.mem_cons_self
     unfold dmT at h1
     obtain ⟨j, hj, _⟩ := Option.map_eq_some_iff.1 h1
     rw [best_none.1 hb e.1 (ho.lt hj)] at hj; cases hj
 | some b =>
   obtain ⟨h1, h2, h3⟩ := best_some hb
   obtain ⟨j, hj⟩ := hasJ_t h2
   have hm : (b, dueT ts hi b j) ∈ R := (hR.2 _ _).2 (by unfold dmT; rw [hj]; rfl)
   refine .inr ?_
   cases R with
   | nil => cases hm
   | cons e R' =>
     obtain ⟨i, d⟩ := e
     have hi1 := (hR.2 i d).1 List.mem_cons_self
     unfold dmT at hi1
     obtain ⟨j', hj', hd⟩ := Option.map_eq_some_iff.1 hi1
     have h4 := h3 i (ho.lt hj') (hasJ_some hj')
     rw [jbAt_some hj, jbAt_some hj', hd] at h4
     rcases List.mem_cons.1 hm with h5 | h5
     ·cases h5
      exact ⟨b, _, R', rfl, rfl, by rw [jbAt_some hj]⟩
     ·have h6 := (List.pairwise_cons.1 hR.1).1 _ h5
      exfalso
      unfold ltH at h6
      dsimp only at h6
      omega
/-- Put's answer, and what it leaves. -/
def errT (ts : List Tk) (hi : Bool) (js : Js) (t arr work done : Int) (n : Nat) : Int :=
 if inT ts t = true ∧ 0 ≤ arr ∧ arr ≤ 4611686018427387904 ∧ 1 ≤ work ∧ work ≤ 1048576 ∧ done = 0 ∧ n ≤ 64 then (if hasJ js t.toNat = true then 4 else if hi = true ∧ (tkAt ts t.toNat).hi = false then 42 else 0) else 1
def putT (ts : List Tk) (hi : Bool) (js : Js) (t arr work done : Int) (ops : List Wn) : Js :=
 if errT ts hi js t arr work done ops.length = 0 then upd js t.toNat (some ⟨arr, work, 0, ops⟩) else js
theorem err_arg {ts : List Tk} {hi : Bool} {js : Js} {t arr work done : Int} {n : Nat} (h : ¬ (inT ts t = true ∧ 0 ≤ arr ∧ arr ≤ 4611686018427387904 ∧ 1 ≤ work ∧ work ≤ 1048576 ∧ done = 0 ∧ n ≤ 64)) : errT ts hi js t arr work done n = 1 := by unfold errT; rw [if_neg h]
theorem err_there {ts : List Tk} {hi : Bool} {js : Js} {t arr work done : Int} {n : Nat} (h : inT ts t = true ∧ 0 ≤ arr ∧ arr ≤ 4611686018427387904 ∧ 1 ≤ work ∧ work ≤ 1048576 ∧ done = 0 ∧ n ≤ 64) (h1 : hasJ js t.toNat = true) : errT ts hi js t arr work done n = 4 := by unfold errT; rw [if_pos h, if_pos h1]
theorem err_drop {ts : List Tk} {hi : Bool} {js : Js} {t arr work done : Int} {n : Nat} (h : inT ts t = true ∧ 0 ≤ arr ∧ arr ≤ 4611686018427387904 ∧ 1 ≤ work ∧ work ≤ 1048576 ∧ done = 0 ∧ n ≤ 64) (h1 : hasJ js t.toNat = false) (h2 : hi = true ∧ (tkAt ts t.toNat).hi = false) : errT ts hi js t arr work done n = 42 := by unfold errT; rw [if_pos h, if_neg (by rw [h1]; simp), if_pos h2]
theorem err_ok {ts : List Tk} {hi : Bool} {js : Js} {t arr work done : Int} {n : Nat} (h : inT ts t = true ∧ 0 ≤ arr ∧ arr ≤ 4611686018427387904 ∧ 1 ≤ work ∧ work ≤ 1048576 ∧ done = 0 ∧ n ≤ 64) (h1 : hasJ js t.toNat = false) (h2 : ¬ (hi = true ∧ (tkAt ts t.toNat).hi = false)) : errT ts hi js t arr work done n = 0 := by unfold errT; rw [if_pos h, if_neg (by rw [h1]; simp), if_neg h2]
theorem err_zero {ts : List Tk} {hi : Bool} {js : Js} {t arr work done : Int} {n : Nat} (h : errT ts hi js t arr work done n = 0) : (inT ts t = true ∧ 0 ≤ arr ∧ arr ≤ 4611686018427387904 ∧ 1 ≤ work ∧ work ≤ 1048576 ∧ done = 0 ∧ n ≤ 64) ∧ hasJ js t.toNat = false ∧ ¬ (hi = true ∧ (tkAt ts t.toNat).hi = false) := by
 unfold errT at h
 split at h
 ·rename_i h1
  split at h
  ·cases h
  ·rename_i h2
   split at h
   ·cases h
   ·rename_i h3
    exact ⟨h1, by simpa using h2, h3⟩
 ·cases h
theorem put_no {ts : List Tk} {hi : Bool} {js : Js} {t arr work done : Int} {ops : List Wn} (h : errT ts hi js t arr work done ops.length ≠ 0) : putT ts hi js t arr work done ops = js := by unfold putT; rw [if_neg h]
theorem put_yes {ts : List Tk} {hi : Bool} {js : Js} {t arr work done : Int} {ops : List Wn} (h : errT ts hi js t arr work done ops.length = 0) : putT ts hi js t arr work done ops = upd js t.toNat (some ⟨arr, work, 0, ops⟩) := by unfold putT; rw [if_pos h]
/-- Run's answer, and what it leaves. -/
def zWn : Wn := ⟨0, 0, 0⟩
def thereT (ts : List Tk) (js : Js) (t : Int) : Bool := inT ts t && hasJ js t.toNat
def opT (ts : List Tk) (js : Js) (t : Int) : Wn := if thereT ts js t = true then (jbAt js t.toNat).ops.getD (jbAt js t.toNat).done.toNat zWn else zWn
def budT (ts : List Tk) (hi : Bool) (k : Nat) : Int := if hi = true then (tkAt ts k).top else (tkAt ts k).lo
def outJ (ts : List Tk) (hi : Bool) (k : Nat) (j : Jb) : Int :=
 if j.done + 1 = j.work then 1 else if j.done + 1 < budT ts hi k then 0 else if hi = false ∧ (tkAt ts k).hi = true ∧ (tkAt ts k).lo < (tkAt ts k).top then 3 else 2
def outT (ts : List Tk) (hi : Bool) (js : Js) (t : Int) : Int := if thereT ts js t = true then outJ ts hi t.toNat (jbAt js t.toNat) else 4
def runT (ts : List Tk) (hi : Bool) (js : Js) (t : Int) : Js :=
 if thereT ts js t = true then (if outJ ts hi t.toNat (jbAt js t.toNat) = 0 ∨ outJ ts hi t.toNat (jbAt js t.toNat) = 3 then upd js t.toNat (some { jbAt js t.toNat with done := (jbAt js t.toNat).done + 1 }) else upd js t.toNat none) else js
theorem there_no {ts : List Tk} {hi : Bool} {js : Js} {t : Int} (h : thereT ts js t = false) : opT ts js t = zWn ∧ outT ts hi js t = 4 ∧ runT ts hi js t = js := by
 unfold opT outT runT; rw [h]; exact ⟨rfl, rfl, rfl⟩
theorem there_nat {ts : List Tk} {js : Js} {t : Int} (h : thereT ts js t = true) : ∃ (k : Nat) (j : Jb), t = k ∧ k < ts.length ∧ js k = some j := by
 unfold thereT at h
 simp only [Bool.and_eq_true] at h
 obtain ⟨k, rfl, hk⟩ := inT_nat h.1
 obtain ⟨j, hj⟩ := hasJ_t h.2
 exact ⟨k, j, rfl, hk, hj⟩
theorem there_yes {ts : List Tk} {js : Js} {k : Nat} {j : Jb} (hk : k < ts.length) (hj : js k = some j) : thereT ts js k = true := by
 unfold thereT; rw [inT_t hk, Int.toNat_natCast, hasJ_some hj]; rfl
theorem there_f {ts : List Tk} {js : Js} {k : Nat} (hj : js k = none) : thereT ts js k = false := by
 unfold thereT; rw [Int.toNat_natCast, hasJ_none hj, Bool.and_false]
theorem op_yes {ts : List Tk} {js : Js} {k : Nat} {j : Jb} (hk : k < ts.length) (hj : js k = some j) : opT ts js k = j.ops.getD j.done.toNat zWn := by
 unfold opT; rw [if_pos (there_yes hk hj), Int.toNat_natCast, jbAt_some hj]
theorem out_yes {ts : List Tk} {hi : Bool} {js : Js} {k : Nat} {j : Jb} (hk : k < ts.length) (hj : js k = some j) : outT ts hi js k = outJ ts hi k j := by
 unfold outT; rw [if_pos (there_yes hk hj), Int.toNat_natCast, jbAt_some hj]
theorem run_yes {ts : List Tk} {hi : Bool} {js : Js} {k : Nat} {j : Jb} (hk : k < ts.length) (hj : js k = some j) : runT ts hi js k = if outJ ts hi k j = 0 ∨ outJ ts hi k j = 3 then upd js k (some { j with done := j.done + 1 }) else upd js k none := by
 unfold runT; rw [if_pos (there_yes hk hj), Int.toNat_natCast, jbAt_some hj]
/-- Get's answer: its job, or the zero one. -/
def getT (ts : List Tk) (js : Js) (t : Int) : Int := if thereT ts js t = true then t else 0
def getJ (ts : List Tk) (js : Js) (t : Int) : Jb := if thereT ts js t = true then jbAt js t.toNat else ⟨0, 0, 0, []⟩
theorem get_no {ts : List Tk} {js : Js} {t : Int} (h : thereT ts js t = false) : getT ts js t = 0 ∧ getJ ts js t = ⟨0, 0, 0, []⟩ := by unfold getT getJ; rw [h]; exact ⟨rfl, rfl⟩
theorem get_yes {ts : List Tk} {js : Js} {k : Nat} {j : Jb} (hk : k < ts.length) (hj : js k = some j) : getT ts js k = k ∧ getJ ts js k = j := by
 unfold getT getJ; rw [if_pos (there_yes hk hj), if_pos (there_yes hk hj), Int.toNat_natCast, jbAt_some hj]; exact ⟨rfl, rfl⟩
/-- Some are gone: those of the first k of which p holds. -/
def goneT (p : Nat → Jb → Bool) (js : Js) (i : Nat) : Bool := match js i with | some j => p i j | none => false
def remT {α : Type} (p : Nat → Jb → Bool) (js : Js) (k : Nat) (D : Nat → Option α) : Nat → Option α := fun i => if i < k ∧ goneT p js i = true then none else D i
def lisT (p : Nat → Jb → Bool) (js : Js) : Nat → List Int
 | 0 => []
 | k + 1 => lisT p js k ++ (if goneT p js k = true then [(k : Int)] else [])
theorem rem_zero {α : Type} (p : Nat → Jb → Bool) (js : Js) (D : Nat → Option α) : remT p js 0 D = D := by
 funext i; unfold remT; rw [if_neg (by omega)]
theorem rem_yes {α : Type} {p : Nat → Jb → Bool} {js : Js} {k : Nat} (h : goneT p js k = true) (D : Nat → Option α) : remT p js (k + 1) D = upd (remT p js k D) k none := by
 funext i
 by_cases e : i = k
 ·subst e; rw [upd_at]; unfold remT; rw [if_pos ⟨by omega, h⟩]
 ·rw [upd_ne _ _ e]
  unfold remT
  by_cases c : i < k ∧ goneT p js i = true
  ·rw [if_pos c, if_pos ⟨by omega, c.2⟩]
  ·rw [if_neg c, if_neg (fun c' => c ⟨by omega, c'.2⟩)]
theorem rem_no {α : Type} {p : Nat → Jb → Bool} {js : Js} {k : Nat} (h : goneT p js k = false) (D : Nat → Option α) : remT p js (k + 1) D = remT p js k D := by
 funext i
 unfold remT
 by_cases c : i < k ∧ goneT p js i = true
 ·rw [if_pos c, if_pos ⟨by omega, c.2⟩]
 ·rw [if_neg c, if_neg (fun c' => c ⟨by
   rcases Nat.lt_or_ge i k with g | g
   ·exact g
   ·have : i = k := by omega
    subst this; rw [h] at c'; exact absurd c'.2 (by simp), c'.2⟩)]
theorem rem_here {α : Type} (p : Nat → Jb → Bool) (js : Js) (k : Nat) (D : Nat → Option α) : remT p js k D k = D k := by unfold remT; rw [if_neg (by omega)]
theorem lis_yes {p : Nat → Jb → Bool} {js : Js} {k : Nat} (h : goneT p js k = true) : lisT p js (k + 1) = lisT p js k ++ [(k : Int)] := by
 show lisT p js k ++ _ = _; rw [if_pos h]
theorem lis_no {p : Nat → Jb → Bool} {js : Js} {k : Nat} (h : goneT p js k = false) : lisT p js (k + 1) = lisT p js k := by
 show lisT p js k ++ _ = _; rw [if_neg (by rw [h]; simp), List.append_nil]
theorem lis_len (p : Nat → Jb → Bool) (js : Js) : ∀ n, (lisT p js n).length ≤ n
 | 0 => Nat.le_refl _
 | n + 1 => by have := lis_len p js n; show (lisT p js n ++ _).length ≤ _; rw [List.length_append]; split <;> simp <;> omega
theorem gone_some {p : Nat → Jb → Bool} {js : Js} {k : Nat} {j : Jb} (h : js k = some j) : goneT p js k = p k j := by unfold goneT; rw [h]
theorem gone_none {p : Nat → Jb → Bool} {js : Js} {k : Nat} (h : js k = none) : goneT p js k = false := by unfold goneT; rw [h]
theorem rem_sub {p : Nat → Jb → Bool} {js : Js} {k i : Nat} {j : Jb} (h : remT p js k js i = some j) : js i = some j ∧ (i < k → p i j = false) := by
 unfold remT at h
 split at h
 ·cases h
 ·rename_i hc
  refine ⟨h, fun hk => ?_⟩
  have hg : ¬ goneT p js i = true := fun hg => hc ⟨hk, hg⟩
  rw [gone_some h] at hg
  simpa using hg
theorem JsOk.remOk {ts : List Tk} {js : Js} (h : JsOk ts js) (p : Nat → Jb → Bool) (k : Nat) : JsOk ts (remT p js k js) :=
 ⟨fun i hi => (by
  cases e : remT p js k js i with
  | none => rfl
  | some j => have := (rem_sub e).1; rw [h.out i hi] at this; cases this), fun i j hj => h.bd i j (rem_sub hj).1⟩
theorem rem_dm (p : Nat → Jb → Bool) (ts : List Tk) (hi : Bool) (js : Js) (k : Nat) : remT p js k (dmT ts hi js) = dmT ts hi (remT p js k js) := by
 funext i
 by_cases c : i < k ∧ goneT p js i = true
 ·simp only [remT, dmT, if_pos c]; rfl
 ·simp only [remT, dmT, if_neg c]
theorem rem_all {ts : List Tk} {js : Js} (h : JsOk ts js) : remT (fun _ _ => true) js ts.length js = fun _ => none := by
 funext i
 cases e : remT (fun _ _ => true) js ts.length js i with
 | none => rfl
 | some j =>
   obtain ⟨h1, h2⟩ := rem_sub e
   exact absurd (h2 (h.lt h1)) (by simp)
/-- Those whose tasks are not high. -/
def lowP (ts : List Tk) : Nat → Jb → Bool := fun k _ => !(tkAt ts k).hi
def riseT (ts : List Tk) (js : Js) : Js := remT (lowP ts) js ts.length js
def riseL (ts : List Tk) (js : Js) : List Int := lisT (lowP ts) js ts.length
/-- Those that have to be done by now. -/
def misP (ts : List Tk) (now : Int) : Nat → Jb → Bool := fun k j => decide (j.arr + (tkAt ts k).d ≤ now)
def misT (ts : List Tk) (js : Js) (now : Int) : Js := remT (misP ts now) js ts.length js
def misL (ts : List Tk) (js : Js) (now : Int) : List Int := lisT (misP ts now) js ts.length
/-- Fall's answer. -/
def falV (ts : List Tk) (hi : Bool) (js : Js) : Bool := hi && decide (cntT js ts.length = 0)
def falH (ts : List Tk) (hi : Bool) (js : Js) : Bool := hi && !falV ts hi js
theorem fal_dm (ts : List Tk) (hi : Bool) (js : Js) (ho : JsOk ts js) (h : falV ts hi js = true) : js = fun _ => none := by
 unfold falV at h
 simp only [Bool.and_eq_true, decide_eq_true_eq] at h
 funext k
 rcases Nat.lt_or_ge k ts.length with g | g
 ·exact cnt_zero h.2 k g
 ·exact ho.out k g
theorem JsOk.putOk {ts : List Tk} {hi : Bool} {js : Js} (h : JsOk ts js) (t arr work done : Int) (ops : List Wn) : JsOk ts (putT ts hi js t arr work done ops) := by
 by_cases he : errT ts hi js t arr work done ops.length = 0
 ·rw [put_yes he]
  obtain ⟨⟨h1, h2, h3, h4, h5, h6, h7⟩, _⟩ := err_zero he
  obtain ⟨k, rfl, hk⟩ := inT_nat h1
  rw [Int.toNat_natCast]
  exact h.set hk ⟨h2, h3, h4, h5, Int.le_refl _, by show (0 : Int) < work; omega, h7⟩
 ·rw [put_no he]; exact h
theorem out_stays {ts : List Tk} {hi : Bool} {k : Nat} {j : Jb} (h : outJ ts hi k j = 0 ∨ outJ ts hi k j = 3) : j.done + 1 ≠ j.work := by
 intro e
 unfold outJ at h
 rw [if_pos e] at h
 omega
theorem JsOk.runOk {ts : List Tk} {hi : Bool} {js : Js} (h : JsOk ts js) (t : Int) : JsOk ts (runT ts hi js t) := by
 cases ht : thereT ts js t with
 | false => rw [(there_no (hi := hi) ht).2.2]; exact h
 | true =>
   obtain ⟨k, j, rfl, hk, hj⟩ := there_nat ht
   rw [run_yes hk hj]
   split
   ·rename_i hc
    have h1 := out_stays hc
    obtain ⟨b1, b2, b3, b4, b5, b6, b7⟩ := h.bd k j hj
    exact h.set hk ⟨b1, b2, b3, b4, by show 0 ≤ j.done + 1; omega, by show j.done + 1 < j.work; omega, b7⟩
   ·exact h.rem k
end Go.Proofs.YtchbehnkkcjdgaaGreat
namespace Go.Proofs.YtchbehnkkcjdgaaGreat
open Go.ChangeShapes Go.WideShapes Go.ChangeAt Go.RowKit
set_option linter.unusedVariables false
/-- A budget, of one kind or the other. -/
inductive Bud where
 | c (b : Bd)
 | r (b : Rd)
def Bud.go (s : Sv) (st now : Int) (busy : Bool) : Bud → Bud
 | .c b => .c (goB b now busy)
 | .r b => .r (rGo s.c s.t st b now busy)
def Bud.use (s : Sv) : Bud → Bud
 | .c b => .c (useB s.t b)
 | .r b => .r (rUse b)
def Bud.done (s : Sv) : Bud → Bud
 | .c b => .c (doneB s.t b)
 | .r b => .r (rDone b)
def Bud.stop (s : Sv) : Bud → Bud
 | .c b => .c (stopB (doneB s.t b) true)
 | .r b => .r (rStop (rDone b) true)
def Bud.resume : Bud → Bud
 | .c b => .c (stopB b false)
 | .r b => .r (rStop b false)
def Bud.reset (s : Sv) : Bud → Bud
 | .c b => .c (resetB s.c)
 | .r b => .r (rReset s.c b)
def Bud.due (s : Sv) : Bud → Int
 | .c b => dueV s.t b
 | .r b => rDue s.t b
def Bud.has : Bud → Bool
 | .c b => useOk b
 | .r b => rUseOk b
def Bud.new (s : Sv) (st : Int) : Bud := if s.re = true then .r ⟨st, s.c, [], false⟩ else .c (resetB s.c)
/-- Which kind. -/
def Bud.isR : Bud → Bool
 | .c _ => false
 | .r _ => true
/-- When it went last, at the latest. -/
def Bud.by_ (now : Int) : Bud → Prop
 | .c _ => True
 | .r b => b.now ≤ now
/-- A desk: its budget; what is left of each request; the number of the first one. -/
structure Dk where
 bud : Bud
 q : List Int
 first : Int
def Dk.busy (d : Dk) : Bool := decide (0 < d.q.length)
def Dk.taken (d : Dk) : Int := d.first + d.q.length - 1
def Dk.room (d : Dk) : Bool := decide (d.q.length < 8)
def Dk.take (work : Int) (d : Dk) : Dk := if d.room = true then ⟨d.bud, d.q ++ [work], d.first⟩ else d
def Dk.go (s : Sv) (st now : Int) (d : Dk) : Dk := ⟨d.bud.go s st now d.busy, d.q, d.first⟩
def Dk.dueOk (d : Dk) : Bool := d.busy && d.bud.has
def Dk.dueV (s : Sv) (d : Dk) : Int := if d.busy = true then d.bud.due s else 0
def Dk.stop (s : Sv) (d : Dk) : Dk := ⟨d.bud.stop s, d.q, d.first⟩
def Dk.resume (d : Dk) : Dk := ⟨d.bud.resume, d.q, d.first⟩
def Dk.empty (s : Sv) (d : Dk) : Dk := ⟨d.bud.reset s, [], d.first + d.q.length⟩
def Dk.new (s : Sv) (st : Int) : Dk := ⟨Bud.new s st, [], 1⟩
/-- A tick of it: is the first request done; what is left. -/
def Dk.ends (d : Dk) : Bool := decide (d.q.headD 1 - 1 ≤ 0)
def Dk.serve (s : Sv) (d : Dk) : Dk :=
 if d.ends = true then (if d.q.tail = [] then ⟨(d.bud.use s).done s, [], d.first + 1⟩ else ⟨d.bud.use s, d.q.tail, d.first + 1⟩)
 else ⟨d.bud.use s, (d.q.headD 1 - 1) :: d.q.tail, d.first⟩
structure Dk.Ok (d : Dk) : Prop where
 len : d.q.length ≤ 8
 bd : ∀ x ∈ d.q, 1 ≤ x ∧ x ≤ 1048576
 f0 : 1 ≤ d.first
 f1 : d.first + d.q.length ≤ 2199023255552
def svAt (ss : List Sv) (i : Nat) : Sv := ss.getD i ⟨false, 0, 0⟩
theorem svAt_eq {ss : List Sv} {i : Nat} (h : i < ss.length) : svAt ss i = ss[i] := by unfold svAt; rw [List.getD_eq_getElem?_getD, List.getElem?_eq_getElem h]; rfl
theorem Dk.Ok.new (s : Sv) (st : Int) : (Dk.new s st).Ok := ⟨by simp [Dk.new], by simp [Dk.new], by simp [Dk.new], by simp [Dk.new]⟩
theorem Dk.Ok.same {d d' : Dk} (h : d.Ok) (h1 : d'.q = d.q) (h2 : d'.first = d.first) : d'.Ok := ⟨by rw [h1]; exact h.len, by rw [h1]; exact h.bd, by rw [h2]; exact h.f0, by rw [h1, h2]; exact h.f1⟩
theorem Dk.Ok.empty {d : Dk} (h : d.Ok) (s : Sv) : (d.empty s).Ok := ⟨by simp [Dk.empty], by simp [Dk.empty], by have := h.f0; simp only [Dk.empty]; omega, by have := h.f1; simp only [Dk.empty, List.length_nil]; omega⟩
theorem Dk.Ok.take {d : Dk} (h : d.Ok) {work : Int} (h1 : 1 ≤ work ∧ work ≤ 1048576) (h2 : d.first + d.q.length < 2199023255552) : (d.take work).Ok := by
 unfold Dk.take
 split
 ·rename_i hr
  simp only [Dk.room, decide_eq_true_eq] at hr
  exact ⟨by simp; omega, fun x hx => by
   rcases List.mem_append.1 hx with h3 | h3
   ·exact h.bd x h3
   ·rw [List.mem_singleton.1 h3]; exact h1, h.f0, by simp only [List.length_append, List.length_cons, List.length_nil]; omega⟩
 ·exact h
theorem Dk.Ok.serve {d : Dk} (h : d.Ok) (s : Sv) (hb : d.busy = true) : (d.serve s).Ok := by
 obtain ⟨bud, q, first⟩ := d
 obtain ⟨h1, h2, h3, h4⟩ := h
 simp only [Dk.busy, decide_eq_true_eq] at hb
 cases q with
 | nil => simp at hb
 | cons x r =>
   have hx := h2 x List.mem_cons_self
   simp only [List.length_cons] at h1 h4
   replace h3 : 1 ≤ first := h3
   replace h4 : first + ((r.length + 1 : Nat) : Int) ≤ 2199023255552 := h4
   unfold Dk.serve
   split
   ·split
    ·exact ⟨by simp, by simp, by show 1 ≤ first + 1; omega, by show first + 1 + ((0 : Nat) : Int) ≤ _; omega⟩
    ·exact ⟨by simp only [List.tail_cons]; omega, fun y hy => h2 y (List.mem_cons_of_mem _ (by simpa using hy)), by show 1 ≤ first + 1; omega, by show first + 1 + (r.length : Int) ≤ _; omega⟩
   ·rename_i he
    have he : 0 < x - 1 := by simpa [Dk.ends] using he
    refine ⟨by simp only [List.tail_cons, List.length_cons]; omega, fun y hy => ?_, h3, by show first + ((r.length + 1 : Nat) : Int) ≤ _; omega⟩
    simp only [List.headD_cons, List.tail_cons] at hy
    rcases List.mem_cons.1 hy with e | hy
    ·omega
    ·exact h2 y (List.mem_cons_of_mem _ hy)
/-- A partition: when each task's job came last; the mode; the jobs; the desks; is it up. -/
structure Px where
 la : List Int
 hi : Bool
 js : Js
 ds : Nat → Dk
 up : Bool
def evK (k : Int) (l : List Int) : List Wn := l.map fun t => ⟨k, t, 0⟩
def newPx (ts : List Tk) (ss : List Sv) (st : Int) : Px := ⟨List.replicate ts.length (-1), false, fun _ => none, fun i => Dk.new (svAt ss i) st, true⟩
/-- Arrive. -/
def arrE (ts : List Tk) (x : Px) (now t work done : Int) (n : Nat) : Int :=
 if x.up = true then (if errP ts x.la x.hi t now = 0 then errT ts x.hi x.js t now work done n else errP ts x.la x.hi t now) else 41
def arrX (ts : List Tk) (x : Px) (now t work done : Int) (ops : List Wn) : Px :=
 if arrE ts x now t work done ops.length = 0 then ⟨takL ts x.la x.hi t now, x.hi, putT ts x.hi x.js t now work done ops, x.ds, x.up⟩ else x
/-- Request. -/
def hasS (n : Nat) (s : Int) : Bool := decide (0 ≤ s) && decide (s < (n : Int))
def workOk (work : Int) : Bool := decide (1 ≤ work) && decide (work ≤ 1048576)
def reqE (ss : List Sv) (x : Px) (s work : Int) : Int :=
 if x.up = true then (if hasS ss.length s && workOk work then (if (x.ds s.toNat).room = true then 0 else 5) else 1) else 41
def updD (ds : Nat → Dk) (i : Nat) (d : Dk) : Nat → Dk := fun j => if j = i then d else ds j
def reqX (ss : List Sv) (x : Px) (s work : Int) : Px :=
 if reqE ss x s work = 0 then ⟨x.la, x.hi, x.js, updD x.ds s.toNat ((x.ds s.toNat).take work), x.up⟩ else x
/-- Settle, rise. -/
def setE (ts : List Tk) (x : Px) : List Wn := if falV ts x.hi x.js = true then [⟨5, 0, 0⟩] else []
def setX (ts : List Tk) (x : Px) : Px := if falV ts x.hi x.js = true then ⟨x.la, false, x.js, fun i => (x.ds i).resume, x.up⟩ else x
def risE (ts : List Tk) (x : Px) : List Wn := evK 4 (riseL ts x.js) ++ [⟨3, 0, 0⟩]
def risX (ts : List Tk) (ss : List Sv) (x : Px) : Px := ⟨x.la, true, riseT ts x.js, fun i => (x.ds i).stop (svAt ss i), x.up⟩
/-- Begin. -/
def misX (ts : List Tk) (x : Px) (now : Int) : Px := ⟨x.la, x.hi, misT ts x.js now, x.ds, x.up⟩
def begE (ts : List Tk) (x : Px) (now : Int) : List Wn := if x.up = true then evK 2 (misL ts x.js now) ++ setE ts (misX ts x now) else []
def goX (ss : List Sv) (st now : Int) (x : Px) : Px := ⟨x.la, x.hi, x.js, fun i => (x.ds i).go (svAt ss i) st now, x.up⟩
def begX (ts : List Tk) (ss : List Sv) (st : Int) (x : Px) (now : Int) : Px := if x.up = true then goX ss st now (setX ts (misX ts x now)) else x
/-- Pick. -/
structure Pk where
 ok : Bool
 sv : Bool
 n : Int
 due : Int
def pickT (ts : List Tk) (ss : List Sv) (x : Px) : Nat → Pk
 | 0 => ⟨foV ts x.hi x.js, false, fkV ts x.hi x.js, fdV ts x.hi x.js⟩
 | k + 1 => if (x.ds k).dueOk && (!(pickT ts ss x k).ok || decide ((x.ds k).bud.due (svAt ss k) < (pickT ts ss x k).due)) then ⟨true, true, k, (x.ds k).bud.due (svAt ss k)⟩ else pickT ts ss x k
def noPk : Pk := ⟨false, false, 0, 0⟩
def pickV (ts : List Tk) (ss : List Sv) (x : Px) : Pk := if x.up = true then pickT ts ss x ss.length else noPk
/-- Run. -/
def jobX (ts : List Tk) (x : Px) (t : Int) : Px := ⟨x.la, x.hi, runT ts x.hi x.js t, x.ds, x.up⟩
def runJE (ts : List Tk) (x : Px) (t : Int) : List Wn :=
 if outT ts x.hi x.js t = 1 then [⟨0, t, 0⟩] ++ setE ts (jobX ts x t) else if outT ts x.hi x.js t = 2 then [⟨1, t, 0⟩] ++ setE ts (jobX ts x t) else if outT ts x.hi x.js t = 3 then risE ts (jobX ts x t) else []
def runJX (ts : List Tk) (ss : List Sv) (x : Px) (t : Int) : Px :=
 if outT ts x.hi x.js t = 1 then setX ts (jobX ts x t) else if outT ts x.hi x.js t = 2 then setX ts (jobX ts x t) else if outT ts x.hi x.js t = 3 then risX ts ss (jobX ts x t) else jobX ts x t
def runSE (x : Px) (i : Nat) : List Wn := if (x.ds i).ends = true then [⟨6, i, (x.ds i).first⟩] else []
def runSX (ss : List Sv) (x : Px) (i : Nat) : Px := ⟨x.la, x.hi, x.js, updD x.ds i ((x.ds i).serve (svAt ss i)), x.up⟩
def runE (ts : List Tk) (ss : List Sv) (x : Px) : List Wn := if (pickV ts ss x).ok = true then (if (pickV ts ss x).sv = true then runSE x (pickV ts ss x).n.toNat else runJE ts x (pickV ts ss x).n) else []
def runO (ts : List Tk) (ss : List Sv) (x : Px) : Wn := if (pickV ts ss x).ok = true ∧ (pickV ts ss x).sv = false then opT ts x.js (pickV ts ss x).n else zWn
def runX (ts : List Tk) (ss : List Sv) (x : Px) : Px := if (pickV ts ss x).ok = true then (if (pickV ts ss x).sv = true then runSX ss x (pickV ts ss x).n.toNat else runJX ts ss x (pickV ts ss x).n) else x
def quV (ss : List Sv) (x : Px) (s : Int) : Int := if hasS ss.length s = true then ((x.ds s.toNat).q.length : Int) else 0
/-- All desks are in order. -/
def DsOk (n : Nat) (ds : Nat → Dk) : Prop := ∀ i, i < n → (ds i).Ok
def DsBy (n : Nat) (now : Int) (ds : Nat → Dk) : Prop := ∀ i, i < n → (ds i).bud.by_ now
def DsLow (n : Nat) (m : Int) (ds : Nat → Dk) : Prop := ∀ i, i < n → (ds i).first + (ds i).q.length ≤ m
theorem hasS_nat {n : Nat} {s : Int} (h : hasS n s = true) : ∃ i : Nat, s = i ∧ i < n := by
 simp only [hasS, Bool.and_eq_true, decide_eq_true_eq] at h
 exact ⟨s.toNat, by omega, by omega⟩
theorem hasS_of {n i : Nat} (h : i < n) : hasS n i = true := by unfold hasS; rw [decide_eq_true (by omega), decide_eq_true (by omega)]; rfl
end Go.Proofs.YtchbehnkkcjdgaaGreat
namespace Go.Proofs.YtchbehnkkcjdgaaGreat
open Go.ChangeShapes Go.WideShapes Go.ChangeAt Go.RowKit
set_option linter.unusedVariables false
section
variable {ts : List Tk} {ss : List Sv} {st : Int} {x : Px}
theorem pickT_at : ∀ (m : Nat), (pickT ts ss x m).sv = true → ∃ i : Nat, i < m ∧ (pickT ts ss x m).n = i ∧ (x.ds i).busy = true
 | 0, h => by cases h
 | k + 1, h => by
   unfold pickT at h ⊢
   split at h
   ·rename_i hc
    rw [if_pos hc]
    rw [Bool.and_eq_true, Dk.dueOk, Bool.and_eq_true] at hc
    exact ⟨k, by omega, rfl, hc.1.1⟩
   ·rename_i hc
    rw [if_neg hc]
    obtain ⟨i, h1, h2, h3⟩ := pickT_at k h
    exact ⟨i, by omega, h2, h3⟩
theorem pickT_no : ∀ (m : Nat), (pickT ts ss x m).ok = false → (pickT ts ss x m).sv = false ∧ (pickT ts ss x m).n = 0
 | 0, h => ⟨rfl, by
   have hb := fo_f (h : foV ts x.hi x.js = false)
   show fkV ts x.hi x.js = 0
   unfold fkV
   rw [hb]⟩
 | k + 1, h => by
   unfold pickT at h ⊢
   split at h
   ·cases h
   ·rename_i hc
    rw [if_neg hc]
    exact pickT_no k h
theorem pickV_at (h : (pickV ts ss x).sv = true) : ∃ i : Nat, i < ss.length ∧ (pickV ts ss x).n = i ∧ (x.ds i).busy = true ∧ x.up = true := by
 unfold pickV at h ⊢
 split at h
 ·rename_i hu
  rw [if_pos hu]
  obtain ⟨i, h1, h2, h3⟩ := pickT_at _ h
  exact ⟨i, h1, h2, h3, hu⟩
 ·cases h
theorem pickV_no (h : (pickV ts ss x).ok = false) : (pickV ts ss x).sv = false ∧ (pickV ts ss x).n = 0 := by
 unfold pickV at h ⊢
 split at h
 ·rename_i hu
  rw [if_pos hu]
  exact pickT_no _ h
 ·rename_i hu
  rw [if_neg hu]
  exact ⟨rfl, rfl⟩
/-- What a desk keeps: its requests are in order, few were ever taken, its budget went by now. -/
structure DkIn (now m : Int) (d : Dk) : Prop where
 ok : d.Ok
 low : d.first + d.q.length ≤ m
 at_ : d.bud.by_ now
def DsIn (n : Nat) (now m : Int) (ds : Nat → Dk) : Prop := ∀ i, i < n → DkIn now m (ds i)
theorem DsIn.ok {n : Nat} {now m : Int} {ds : Nat → Dk} (h : DsIn n now m ds) : DsOk n ds := fun i hi => (h i hi).ok
theorem DsIn.by_ {n : Nat} {now now' m : Int} {ds : Nat → Dk} (h : DsIn n now m ds) (hn : now ≤ now') : DsBy n now' ds := fun i hi => by
 have := (h i hi).at_
 unfold Bud.by_ at this ⊢
 split <;> simp_all
 omega
theorem Bud.by_mono {b : Bud} {now now' : Int} (h : b.by_ now) (hn : now ≤ now') : b.by_ now' := by
 cases b with
 | c b => trivial
 | r b => exact Int.le_trans (h : b.now ≤ now) hn
theorem Bud.by_go {b : Bud} {s : Sv} {now : Int} {busy : Bool} : (b.go s st now busy).by_ now := by
 cases b with
 | c b => trivial
 | r b =>
   show (rGo s.c s.t st b now busy).now ≤ now
   unfold rGo
   dsimp only
   (repeat' split) <;> exact Int.le_refl _
theorem Bud.by_use {b : Bud} {s : Sv} {now : Int} (h : b.by_ now) : (b.use s).by_ now := by
 cases b with
 | c b => trivial
 | r b =>
   have h : b.now ≤ now := h
   show (rUse b).now ≤ now
   unfold rUse
   split
   ·exact h
   ·split <;> exact h
theorem Bud.by_done {b : Bud} {s : Sv} {now : Int} (h : b.by_ now) : (b.done s).by_ now := by
 cases b with
 | c b => trivial
 | r b => exact h
theorem Bud.by_stop {b : Bud} {s : Sv} {now : Int} (h : b.by_ now) : (b.stop s).by_ now := by
 cases b with
 | c b => trivial
 | r b => exact h
theorem Bud.by_resume {b : Bud} {now : Int} (h : b.by_ now) : b.resume.by_ now := by
 cases b with
 | c b => trivial
 | r b => exact h
theorem Bud.by_reset {b : Bud} {s : Sv} {now : Int} (h : b.by_ now) : (b.reset s).by_ now := by
 cases b with
 | c b => trivial
 | r b => exact h
theorem Bud.by_new {s : Sv} : (Bud.new s st).by_ st := by
 unfold Bud.new
 split
 ·exact Int.le_refl _
 ·trivial
theorem DkIn.mono {d : Dk} {now now' m m' : Int} (h : DkIn now m d) (hn : now ≤ now') (hm : m ≤ m') : DkIn now' m' d := ⟨h.ok, Int.le_trans h.low hm, Bud.by_mono h.at_ hn⟩
theorem DkIn.new {s : Sv} : DkIn st 1 (Dk.new s st) := ⟨Dk.Ok.new s st, by simp [Dk.new], Bud.by_new⟩
theorem DkIn.go {d : Dk} {s : Sv} {now now' m : Int} (h : DkIn now m d) : DkIn now' m (d.go s st now') := ⟨h.ok.same rfl rfl, h.low, Bud.by_go⟩
theorem DkIn.stop {d : Dk} {s : Sv} {now m : Int} (h : DkIn now m d) : DkIn now m (d.stop s) := ⟨h.ok.same rfl rfl, h.low, Bud.by_stop h.at_⟩
theorem DkIn.resume {d : Dk} {now m : Int} (h : DkIn now m d) : DkIn now m d.resume := ⟨h.ok.same rfl rfl, h.low, Bud.by_resume h.at_⟩
theorem DkIn.empty {d : Dk} {s : Sv} {now m : Int} (h : DkIn now m d) : DkIn now m (d.empty s) := ⟨h.ok.empty s, by have := h.low; simp only [Dk.empty, List.length_nil]; omega, Bud.by_reset h.at_⟩
theorem DkIn.take {d : Dk} {now m work : Int} (h : DkIn now m d) (h1 : 1 ≤ work ∧ work ≤ 1048576) (hm : m < 2199023255552) : DkIn now (m + 1) (d.take work) := by
 have hl := h.low
 refine ⟨h.ok.take h1 (by omega), ?_, ?_⟩
 ·unfold Dk.take
  split
  ·simp only [List.length_append, List.length_cons, List.length_nil]; omega
  ·omega
 ·unfold Dk.take
  split <;> exact h.at_
theorem DkIn.serve {d : Dk} {s : Sv} {now m : Int} (h : DkIn now m d) (hb : d.busy = true) : DkIn now m (d.serve s) := by
 have hl := h.low
 have ho := h.ok.serve s hb
 refine ⟨ho, ?_, ?_⟩
 ·obtain ⟨bud, q, first⟩ := d
  cases q with
  | nil => simp [Dk.busy] at hb
  | cons y r =>
    replace hl : first + ((r.length + 1 : Nat) : Int) ≤ m := hl
    unfold Dk.serve
    split
    ·split
     ·show first + 1 + ((0 : Nat) : Int) ≤ m; omega
     ·show first + 1 + (r.length : Int) ≤ m; omega
    ·show first + ((r.length + 1 : Nat) : Int) ≤ m; omega
 ·unfold Dk.serve
  split
  ·split
   ·exact Bud.by_done (Bud.by_use h.at_)
   ·exact Bud.by_use h.at_
  ·exact Bud.by_use h.at_
/-- Call by call. -/
theorem DsIn.newPx {n : Nat} : DsIn n st 1 (newPx ts ss st).ds := fun i _ => DkIn.new
theorem DsIn.mono {n : Nat} {now now' m m' : Int} {ds : Nat → Dk} (h : DsIn n now m ds) (hn : now ≤ now') (hm : m ≤ m') : DsIn n now' m' ds := fun i hi => (h i hi).mono hn hm
theorem DsIn.arrX {n : Nat} {now m a t work done : Int} {ops : List Wn} (h : DsIn n now m x.ds) : DsIn n now m (arrX ts x a t work done ops).ds := by
 unfold Proofs.YtchbehnkkcjdgaaGreat.arrX; split <;> exact h
theorem DsIn.reqX {now m s work : Int} (h : DsIn ss.length now m x.ds) (hm : m < 2199023255552) : DsIn ss.length now (m + 1) (reqX ss x s work).ds := by
 unfold Proofs.YtchbehnkkcjdgaaGreat.reqX
 split
 ·rename_i he
  have hw : workOk work = true := by
   unfold reqE at he
   split at he
   ·split at he
    ·rename_i hc; rw [Bool.and_eq_true] at hc; exact hc.2
    ·omega
   ·omega
  simp only [workOk, Bool.and_eq_true, decide_eq_true_eq] at hw
  intro i hi
  show DkIn now (m + 1) (updD x.ds s.toNat ((x.ds s.toNat).take work) i)
  unfold updD
  split
  ·rename_i e
   subst e
   exact (h _ hi).take hw hm
  ·exact (h i hi).mono (Int.le_refl _) (by omega)
 ·exact h.mono (Int.le_refl _) (by omega)
theorem DsIn.setX {n : Nat} {now m : Int} (h : DsIn n now m x.ds) : DsIn n now m (setX ts x).ds := by
 unfold Proofs.YtchbehnkkcjdgaaGreat.setX
 split
 ·exact fun i hi => (h i hi).resume
 ·exact h
theorem DsIn.begX {n : Nat} {now now' m : Int} (h : DsIn n now m x.ds) (hn : now ≤ now') : DsIn n now' m (begX ts ss st x now').ds := by
 unfold Proofs.YtchbehnkkcjdgaaGreat.begX
 split
 ·exact fun i hi => ((DsIn.setX (x := misX ts x now') h) i hi).go
 ·exact h.mono hn (Int.le_refl _)
theorem DsIn.risX {n : Nat} {now m : Int} (h : DsIn n now m x.ds) : DsIn n now m (risX ts ss x).ds := fun i hi => (h i hi).stop
theorem DsIn.runX {now m : Int} (h : DsIn ss.length now m x.ds) : DsIn ss.length now m (runX ts ss x).ds := by
 unfold Proofs.YtchbehnkkcjdgaaGreat.runX
 split
 ·split
  ·rename_i hs
   obtain ⟨k, hk, e, hb, _⟩ := pickV_at hs
   rw [e, Int.toNat_natCast]
   intro i hi
   show DkIn now m (updD x.ds k ((x.ds k).serve (svAt ss k)) i)
   unfold updD
   split
   ·rename_i e
    subst e
    exact (h _ hi).serve hb
   ·exact h i hi
  ·unfold runJX
   split
   ·exact DsIn.setX (x := jobX ts x _) h
   ·split
    ·exact DsIn.setX (x := jobX ts x _) h
    ·split
     ·exact DsIn.risX (x := jobX ts x _) h
     ·exact h
 ·exact h
end
end Go.Proofs.YtchbehnkkcjdgaaGreat
namespace Go.Proofs.YtchbehnkkcjdgaaGreat
open Go.ChangeShapes Go.WideShapes Go.ChangeAt Go.RowKit
set_option linter.unusedVariables false
def OnlyHi (ts : List Tk) (js : Js) : Prop := ∀ k j, js k = some j → (tkAt ts k).hi = true
def SomeJ (ts : List Tk) (js : Js) : Prop := cntT js ts.length ≠ 0
structure PxM (ts : List Tk) (n : Nat) (x : Px) : Prop where
 hi : x.hi = true → OnlyHi ts x.js ∧ SomeJ ts x.js
 down : x.up = false → x.hi = false ∧ (∀ k, x.js k = none) ∧ ∀ i, i < n → (x.ds i).q = []
section
variable {ts : List Tk} {ss : List Sv} {st : Int} {x : Px} {n : Nat}
theorem arr_up {a t work done : Int} {m : Nat} (h : arrE ts x a t work done m = 0) : x.up = true ∧ errP ts x.la x.hi t a = 0 ∧ errT ts x.hi x.js t a work done m = 0 := by
 unfold arrE at h
 split at h
 ·rename_i hu
  split at h
  ·rename_i hp
   exact ⟨hu, hp, h⟩
  ·rename_i hp
   exact absurd h hp
 ·omega
theorem OnlyHi.rem {p : Nat → Jb → Bool} {js : Js} {k : Nat} (h : OnlyHi ts js) : OnlyHi ts (remT p js k js) := fun i j hj => h i j (rem_sub hj).1
end
end Go.Proofs.YtchbehnkkcjdgaaGreat
namespace Go.Proofs.YtchbehnkkcjdgaaGreat
open Go.ChangeShapes Go.WideShapes Go.ChangeAt Go.RowKit
set_option linter.unusedVariables false
/-- Since when each live chunk is there. -/
def Bud.ats : Bud → List Int
 | .c b => b.live.map (·.at_)
 | .r b => b.live.map (·.at_)
/-- A budget as it was used: now: the tick of the last Go. -/
def Bud.Nv (s : Sv) (M now : Int) (fr : List Int) : Bud → Prop
 | .c b => BdOk s.c s.t M b ∧ Never s.c s.t now b fr
 | .r b => RdOk s.c 4611687117939015680 b ∧ NeverR s.c s.t 0 b fr ∧ b.now = max 0 now
structure SvN (s : Sv) (M now : Int) (b : Bud) (fr : List Int) : Prop where
 kind : b.isR = s.re
 nv : b.Nv s M now fr
 st : b.ats.Pairwise (· ≤ ·)
 le : ∀ z ∈ b.ats, 0 ≤ z ∧ z ≤ now
section
variable {s : Sv} {M now : Int} {b : Bud} {fr : List Int}
theorem cnt_snoc_in {fr : List Int} {r a y : Int} (h1 : a ≤ r) (h2 : r ≤ y) : ((fr ++ [r]).filter fun z => decide (a ≤ z) && decide (z ≤ y)).length = (fr.filter fun z => decide (a ≤ z) && decide (z ≤ y)).length + 1 := by
 rw [List.filter_append, List.length_append]
 congr 1
 rw [List.filter_cons, if_pos (by simp [h1, h2])]
 rfl
/-- What it has got of chunks from a on, due by r + T, and one more. -/
theorem SvN.cnt (h : SvN s M now b fr) (ho : okSv s = true) {r : Int} {l : List Int} (hl : b.ats = r :: l) {a : Int} (ha : a ≤ r) : (((fr.filter fun z => decide (a ≤ z) && decide (z ≤ r)).length : Nat) : Int) + 1 ≤ servAt s (r + s.t - a) := by
 obtain ⟨o1, o2, o3⟩ := okSv_t ho
 have hk := h.kind
 have hn := h.nv
 cases b with
 | c b =>
   obtain ⟨ok, nv⟩ := hn
   have hre : s.re = false := hk.symm
   cases hlv : b.live with
   | nil => simp only [Bud.ats, hlv, List.map_nil] at hl; cases hl
   | cons x lv =>
     simp only [Bud.ats, hlv, List.map_cons, List.cons.injEq] at hl
     obtain ⟨rfl, _⟩ := hl
     have n2 := nv.use ok (by omega) hlv
     have := never_more n2 (ok.use (by omega)) (by omega) ha
     rw [cnt_snoc_in ha (Int.le_refl _)] at this
     unfold servAt
     rw [hre, if_neg (by simp)]
     push_cast at this
     exact this
 | r b =>
   obtain ⟨ok, nv, _⟩ := hn
   have hre : s.re = true := hk.symm
   cases hlv : b.live with
   | nil => simp only [Bud.ats, hlv, List.map_nil] at hl; cases hl
   | cons x lv =>
     simp only [Bud.ats, hlv, List.map_cons, List.cons.injEq] at hl
     obtain ⟨rfl, _⟩ := hl
     have n2 := nv.use (by omega) ok hlv
     have := never_moreR (by omega) n2 ok.use ha
     rw [cnt_snoc_in ha (Int.le_refl _)] at this
     unfold servAt
     rw [hre, if_pos rfl, if_neg (by omega)]
     push_cast at this
     exact this
end
/-! ### sums -/
def sumZ (f : Nat → Int) : Nat → Int
 | 0 => 0
 | m + 1 => sumZ f m + f m
theorem sumZ_le {f : Nat → Nat} {g : Nat → Int} : ∀ m, (∀ i, i < m → (f i : Int) ≤ g i) → ((sumN f m : Nat) : Int) ≤ sumZ g m
 | 0, _ => by simp [sumN, sumZ]
 | m + 1, h => by have := sumZ_le m (fun i hi => h i (by omega)); have := h m (by omega); simp only [sumN, sumZ]; push_cast; omega
theorem sumZ_congr {f g : Nat → Int} : ∀ m, (∀ i, i < m → f i = g i) → sumZ f m = sumZ g m
 | 0, _ => rfl
 | m + 1, h => by simp only [sumZ]; rw [sumZ_congr m (fun i hi => h i (by omega)), h m (by omega)]
theorem sumZ_list (f : Tk → Int) : ∀ (n : Nat) (l : List Tk), l.length = n → sumZ (fun i => f (tkAt l i)) n = sumI (l.map f)
 | 0, l, hl => by rw [List.eq_nil_of_length_eq_zero hl]; rfl
 | n + 1, l, hl => by
   have hne : l ≠ [] := by intro e; subst e; cases hl
   obtain ⟨ys, y, rfl⟩ : ∃ ys y, l = ys ++ [y] := ⟨l.dropLast, l.getLast hne, (List.dropLast_concat_getLast hne).symm⟩
   have hy : ys.length = n := by simpa using hl
   have ih := sumZ_list f n ys hy
   rw [List.map_append, List.map_cons, List.map_nil, sumI_snoc, ← ih]
   simp only [sumZ]
   rw [sumZ_congr (g := fun i => f (tkAt ys i)) n (fun i hi => by
    unfold tkAt
    rw [List.getD_eq_getElem?_getD, List.getElem?_append_left (by omega), ← List.getD_eq_getElem?_getD])]
   congr 2
   unfold tkAt
   rw [List.getD_eq_getElem?_getD, List.getElem?_append_right (by omega), hy]
   simp
theorem sumI_mem {l : List Int} : (∀ x ∈ l, 0 ≤ x) → 0 ≤ sumI l ∧ ∀ x ∈ l, x ≤ sumI l := by
 have key : ∀ (n : Nat) (l : List Int), l.length = n → (∀ x ∈ l, 0 ≤ x) → 0 ≤ sumI l ∧ ∀ x ∈ l, x ≤ sumI l := by
  intro n
  induction n with
  | zero => intro l hl _; rw [List.eq_nil_of_length_eq_zero hl]; exact ⟨by simp [sumI], fun x hx => (by cases hx)⟩
  | succ n ih =>
    intro l hl h
    have hne : l ≠ [] := by intro e; subst e; cases hl
    obtain ⟨ys, y, rfl⟩ : ∃ ys y, l = ys ++ [y] := ⟨l.dropLast, l.getLast hne, (List.dropLast_concat_getLast hne).symm⟩
    obtain ⟨h1, h2⟩ := ih ys (by simpa using hl) fun x hx => h x (by simp [hx])
    have h3 := h y (by simp)
    rw [sumI_snoc]
    refine ⟨by omega, fun x hx => ?_⟩
    rcases List.mem_append.1 hx with hx | hx
    ·have := h2 x hx; omega
    ·rw [List.mem_singleton.1 hx]; omega
 exact key _ l rfl
/-! ### nothing is late -/
/-- How long each has: the tasks their V, the server (behind them) its T. -/
def dlV (ts : List Tk) (s : Sv) (i : Nat) : Int := if i < ts.length then (tkAt ts i).v else s.t
theorem no_late {ts : List Tk} {ss : List Sv} {q : Nat} {h : Hs} {pend : Nat → Int → Prop} {la : Nat → Int} {oj : Nat → Option (Int × Int)} {M now : Int} {b : Bud} {p : Pt} (hE : Edf (dlV ts (svAt ss q)) h pend) (hm : ∀ e ∈ h, ∀ k r, e = some (k, r) → k < ts.length + 1)
 (hpt : p.ts = ts) (hps : p.ss = ss) (ht : ∀ k ∈ ts, okTk k = true) (hs : ∀ s ∈ ss, okSv s = true) (hq : q < ss.length) (hT : ∀ i, i < ts.length → TkN (tkAt ts i) (la i) (oj i) (frOf h i)) (hS : SvN (svAt ss q) M now b (frOf h ts.length))
 (hfit : ∀ t : Int, 0 ≤ t → t ≤ 1099511627776 → lowV p t ≤ t) (hlen : h.length ≤ 1000000) {r : Int} {l : List Int} (hl : b.ats = r :: l) (hp : pend ts.length r) : h.length < r + (svAt ss q).t := by
 rcases Int.lt_or_le h.length (r + (svAt ss q).t) with g | g
 ·exact g
 exfalso
 have hok : okSv (svAt ss q) = true := by rw [svAt_eq hq]; exact hs _ (List.getElem_mem hq)
 have o := okSv_t hok
 have hd : dlV ts (svAt ss q) ts.length = (svAt ss q).t := by unfold dlV; rw [if_neg (by omega)]
 obtain ⟨a, ha, hc⟩ := hE.count hm hp (by rw [hd]; exact g) (by rw [hd]; omega)
 rw [hd] at hc
 have h0 := (hE.pend _ _ hp).1
 obtain ⟨t, htt⟩ : ∃ t, t = r + (svAt ss q).t - a := ⟨_, rfl⟩
 have t0 : 0 ≤ t ∧ t ≤ 1099511627776 := by omega
 have hb1 : ((cntD (dlV ts (svAt ss q)) h a (r + (svAt ss q).t) ts.length : Nat) : Int) + 1 ≤ servAt (svAt ss q) t := by
  have := hS.cnt hok hl ha
  unfold cntD
  rw [hd, show r + (svAt ss q).t - (svAt ss q).t = r by omega, htt]
  exact this
 have hb2 : ((sumN (cntD (dlV ts (svAt ss q)) h a (r + (svAt ss q).t)) ts.length : Nat) : Int) ≤ sumI (ts.map fun k => ofV k t false) := by
  rw [← sumZ_list (fun k => ofV k t false) _ ts rfl]
  refine sumZ_le _ (fun i hi => ?_)
  have hki : okTk (tkAt ts i) = true := by rw [tkAt_eq hi]; exact ht _ (List.getElem_mem hi)
  have := task_cnt hki (fun a => (hT i hi).all a) (a := a) (d := r + (svAt ss q).t)
  unfold cntD
  rw [show dlV ts (svAt ss q) i = (tkAt ts i).v by unfold dlV; rw [if_pos hi]]
  unfold ofV
  rw [if_pos hki, if_neg (by simp), cutT_of t0.1 t0.2, htt]
  exact this
 have hb3 : servAt (svAt ss q) t ≤ sumI (ss.map fun s => servV s t) := by
  have := (sumI_mem (l := ss.map fun s => servV s t) (fun x hx => by
   obtain ⟨s, hs', rfl⟩ := List.mem_map.1 hx
   unfold servV
   rw [if_pos (hs s hs')]
   exact (servAt_bd (hs s hs') (cutT_in t).1 (cutT_in t).2).1)).2 (servV (svAt ss q) t) (List.mem_map.2 ⟨_, by rw [svAt_eq hq]; exact List.getElem_mem hq, rfl⟩)
  have e : servV (svAt ss q) t = servAt (svAt ss q) t := by unfold servV; rw [if_pos hok, cutT_of t0.1 t0.2]
  rw [e] at this
  exact this
 have hf := hfit t t0.1 t0.2
 unfold lowV at hf
 rw [hpt, hps] at hf
 simp only [sumN] at hc
 push_cast at hc
 omega
end Go.Proofs.YtchbehnkkcjdgaaGreat
namespace Go.Proofs.YtchbehnkkcjdgaaGreat
open Go.ChangeShapes Go.WideShapes Go.ChangeAt Go.RowKit
set_option linter.unusedVariables false
/-- What is got, and is yet to come, of chunks ahead of c. -/
def potH (c T : Int) (l : List Wn) : Int := (l.map fun x => (if x.at_ < c then x.len else 0) + (if x.at_ + T < c then x.len + x.part else 0)).sum
def potG (c T now : Int) (b : Bd) (g : Int) : Int := g + potH c T b.live + (if now < c then b.free else 0) + potB c b.backs
theorem potH_append (c T : Int) (l m : List Wn) : potH c T (l ++ m) = potH c T l + potH c T m := by simp [potH]
theorem potH_late {c T : Int} : ∀ l : List Wn, (∀ x ∈ l, c ≤ x.at_ + T ∧ x.at_ < c) → potH c T l = sumLeft l
 | [], _ => rfl
 | x :: l, h => by
   have ih := potH_late l (fun y hy => h y (List.mem_cons_of_mem _ hy))
   have hx := h x (List.mem_cons_self ..)
   simp only [potH, sumLeft, List.map_cons, List.sum_cons] at ih ⊢
   rw [if_pos hx.2, if_neg (by omega)]; omega
theorem potH_past {c T : Int} : ∀ l : List Wn, (∀ x ∈ l, c ≤ x.at_ + T ∧ c ≤ x.at_) → potH c T l = 0
 | [], _ => rfl
 | x :: l, h => by
   have ih := potH_past l (fun y hy => h y (List.mem_cons_of_mem _ hy))
   have hx := h x (List.mem_cons_self ..)
   simp only [potH, List.map_cons, List.sum_cons] at ih ⊢
   rw [if_neg (by omega), if_neg (by omega)]; omega
theorem potH_full {c T : Int} : ∀ l : List Wn, (∀ x ∈ l, x.at_ < c ∧ x.at_ + T < c) → potH c T l = sumLeft l + (sumLeft l + sumUsed l)
 | [], _ => rfl
 | x :: l, h => by
   have ih := potH_full l (fun y hy => h y (List.mem_cons_of_mem _ hy))
   have hx := h x (List.mem_cons_self ..)
   simp only [potH, sumLeft, sumUsed, List.map_cons, List.sum_cons] at ih ⊢
   rw [if_pos hx.1, if_pos hx.2]; omega
theorem potB_all {c : Int} : ∀ l : List Bk, (∀ x ∈ l, x.at_ < c) → potB c l = sumB l
 | [], _ => rfl
 | x :: l, h => by
   have ih := potB_all l (fun y hy => h y (List.mem_cons_of_mem _ hy))
   have hx := h x (List.mem_cons_self ..)
   simp only [potB, sumB, List.map_cons, List.sum_cons] at ih ⊢
   rw [if_pos hx]; omega
theorem potB_no {c : Int} : ∀ l : List Bk, (∀ x ∈ l, c ≤ x.at_) → potB c l = 0
 | [], _ => rfl
 | x :: l, h => by
   have ih := potB_no l (fun y hy => h y (List.mem_cons_of_mem _ hy))
   have hx := h x (List.mem_cons_self ..)
   simp only [potB, List.map_cons, List.sum_cons] at ih ⊢
   rw [if_neg (by omega)]; omega
theorem potB_come {c now : Int} (hc : now < c) : ∀ l : List Bk, potB c l = potB c (stayN now l) + comeN now l
 | [] => rfl
 | x :: l => by
   have ih := potB_come hc l
   unfold stayN comeN at ih ⊢
   by_cases h0 : x.at_ ≤ now
   ·rw [List.filter_cons_of_pos (p := fun x : Bk => decide (x.at_ ≤ now)) (by simp [h0]), List.filter_cons_of_neg (by simp [h0])]
    simp only [potB, sumB, List.map_cons, List.sum_cons] at ih ⊢
    rw [if_pos (by omega)]; omega
   ·rw [List.filter_cons_of_neg (p := fun x : Bk => decide (x.at_ ≤ now)) (by simp [h0]), List.filter_cons_of_pos (by simp [h0])]
    simp only [potB, sumB, List.map_cons, List.sum_cons] at ih ⊢
    omega
theorem potH_pos {c T : Int} : ∀ l : List Wn, (∀ x ∈ l, 1 ≤ x.len ∧ 0 ≤ x.part) → 0 ≤ potH c T l
 | [], _ => by simp [potH]
 | x :: l, h => by
   have ih := potH_pos (c := c) (T := T) l (fun y hy => h y (List.mem_cons_of_mem _ hy))
   have hx := h x (List.mem_cons_self ..)
   simp only [potH, List.map_cons, List.sum_cons] at ih ⊢
   split <;> split <;> omega
/-- A request that came at ak: at now, ahead of its Begin, it has got g. -/
structure SrC (C T ak now : Int) (b : Bd) (g : Int) : Prop where
 pot : ∀ j : Nat, 1 ≤ j → ak + ((j : Int) - 1) * T ≤ now → (j : Int) * C ≤ potG (ak + (j : Int) * T) T now b g
 nf : ak < now → b.free = 0 ∧ ∀ y ∈ b.backs, now ≤ y.at_
/-- In the midst of the tick. -/
structure SrD (C T ak now : Int) (b : Bd) (g : Int) : Prop where
 pot : ∀ j : Nat, 1 ≤ j → ak + ((j : Int) - 1) * T ≤ now → (j : Int) * C ≤ potG (ak + (j : Int) * T) T (now + 1) b g
 nf : b.free = 0 ∧ ∀ y ∈ b.backs, now + 1 ≤ y.at_
section
variable {C T ak now : Int} {b : Bd} {g : Int}
theorem step_eq (ak T : Int) (j : Nat) : ak + (j : Int) * T = ak + ((j : Int) - 1) * T + T := by rw [Int.sub_mul]; omega
theorem SrC.start (ok : BdOk C T (now - 1) b) (hT : 1 ≤ T) (hl : b.live = []) : SrC C T now now b 0 := by
 refine ⟨fun j h1 h2 => ?_, fun h => by omega⟩
 have hj : j = 1 := by
  rcases Nat.lt_or_ge 1 j with h | h
  ·have : 1 * 1 ≤ ((j : Int) - 1) * T := Int.mul_le_mul (by omega) hT (by omega) (by omega)
   omega
  ·omega
 subst hj
 have ha := ok.all
 rw [hl] at ha
 simp only [sumLeft, sumUsed, List.map_nil, List.sum_nil] at ha
 unfold potG
 rw [hl, if_pos (by omega), potB_all _ (fun x hx => by have := ok.bk x hx; omega)]
 simp only [potH, List.map_nil, List.sum_nil]
 omega
theorem SrC.go {M : Int} (h : SrC C T ak now b g) (ok : BdOk C T M b) (hT : 1 ≤ T) (has : ak ≤ now) (hst : b.stop = false) : SrD C T ak now (goB b now true) g := by
 have hc := comeN_pos now b.backs (fun x hx => (ok.bk x hx).2.2)
 have hf := ok.f0
 have key : ∀ j : Nat, 1 ≤ j → ak + ((j : Int) - 1) * T ≤ now → potB (ak + (j : Int) * T) b.backs ≤ potB (ak + (j : Int) * T) (stayN now b.backs) + (if now < ak + (j : Int) * T then comeN now b.backs else 0) ∧ (¬ now < ak + (j : Int) * T → b.free = 0 ∧ comeN now b.backs = comeN now b.backs) := fun j h1 h2 => by
  by_cases h3 : now < ak + (j : Int) * T
  ·rw [if_pos h3, potB_come h3 b.backs]
   exact ⟨Int.le_refl _, fun h => absurd h3 h⟩
  ·have h4 : ak < now := by
    have : 1 * 1 ≤ (j : Int) * T := Int.mul_le_mul (by omega) hT (by omega) (by omega)
    omega
   obtain ⟨n1, n2⟩ := h.nf h4
   rw [if_neg h3, potB_no b.backs (fun x hx => by have := n2 x hx; omega), potB_no (stayN now b.backs) (fun x hx => by have := n2 x (stayN_sub hx).1; omega)]
   exact ⟨by omega, fun _ => ⟨n1, rfl⟩⟩
 unfold goB
 split
 ·rename_i hb
  refine ⟨fun j h1 h2 => ?_, ⟨rfl, fun y hy => by have := (stayN_sub hy).2; omega⟩⟩
  have hp := h.pot j h1 h2
  obtain ⟨k1, k2⟩ := key j h1 h2
  unfold potG at hp ⊢
  dsimp only
  rw [potH_append]
  simp only [Bool.and_eq_true, decide_eq_true_eq] at hb
  by_cases h3 : now < ak + (j : Int) * T
  ·rw [if_pos h3] at hp k1
   have e1 : b.free + comeN now b.backs ≤ potH (ak + (j : Int) * T) T [⟨now, b.free + comeN now b.backs, 0⟩] := by
    simp only [potH, List.map_cons, List.map_nil, List.sum_cons, List.sum_nil]
    rw [if_pos h3]
    split <;> omega
   split <;> omega
  ·rw [if_neg h3] at hp k1
   have e1 := potH_pos (c := ak + (j : Int) * T) (T := T) [⟨now, b.free + comeN now b.backs, 0⟩] (fun x hx => by rw [List.mem_singleton.1 hx]; exact ⟨by show 1 ≤ b.free + comeN now b.backs; omega, Int.le_refl _⟩)
   rw [if_neg (by omega)]
   omega
 ·rename_i hb
  have h0 : b.free + comeN now b.backs = 0 := by
   rw [hst] at hb
   simp only [Bool.not_false, Bool.and_self, Bool.true_and, decide_eq_true_eq, Bool.true_and] at hb
   omega
  refine ⟨fun j h1 h2 => ?_, ⟨h0, fun y hy => by have := (stayN_sub hy).2; omega⟩⟩
  have hp := h.pot j h1 h2
  obtain ⟨k1, k2⟩ := key j h1 h2
  unfold potG at hp ⊢
  dsimp only
  by_cases h3 : now < ak + (j : Int) * T
  ·rw [if_pos h3] at hp k1; split <;> omega
  ·rw [if_neg h3] at hp k1; split <;> omega
theorem SrD.use {M : Int} {x : Wn} {l : List Wn} (h : SrD C T ak now b g) (ok : BdOk C T M b) (hT : 1 ≤ T) (hl : b.live = x :: l) (hnl : now < x.at_ + T) : SrD C T ak now (useB T b) (g + 1) := by
 obtain ⟨f, lv, bk, st⟩ := b
 dsimp only at hl
 subst hl
 have hx := ok.lv x (List.mem_cons_self ..)
 obtain ⟨n1, n2⟩ := h.nf
 unfold useB
 dsimp only at n1 n2 ⊢
 split
 ·refine ⟨fun j h1 h2 => ?_, ⟨n1, fun y hy => ?_⟩⟩
  ·have hp := h.pot j h1 h2
   unfold potG at hp ⊢
   dsimp only at hp ⊢
   rw [potB_append]
   simp only [potH, potB, List.map_cons, List.map_nil, List.sum_cons, List.sum_nil] at hp ⊢
   split at hp <;> split at hp <;> split at hp <;> split <;> omega
  ·rcases List.mem_append.1 hy with hy | hy
   ·exact n2 y hy
   ·rw [List.mem_singleton.1 hy]; show now + 1 ≤ x.at_ + T; omega
 ·refine ⟨fun j h1 h2 => ?_, ⟨n1, n2⟩⟩
  have hp := h.pot j h1 h2
  unfold potG at hp ⊢
  dsimp only at hp ⊢
  simp only [potH, List.map_cons, List.sum_cons] at hp ⊢
  split at hp <;> split at hp <;> split at hp <;> omega
/-- The tick is over. -/
theorem SrD.over (h : SrD C T ak now b g) (ok : BdOk C T now b) (hT : 1 ≤ T) (hla : ∀ x ∈ b.live, x.at_ ≤ now) (hnl : ∀ x ∈ b.live, now + 1 < x.at_ + T) (has : ak ≤ now) : SrC C T ak (now + 1) b g := by
 refine ⟨fun j h1 h2 => ?_, fun _ => h.nf⟩
 by_cases h3 : ak + ((j : Int) - 1) * T ≤ now
 ·exact h.pot j h1 h3
 ·obtain ⟨i, rfl⟩ : ∃ i : Nat, j = i + 2 := ⟨j - 2, by
   rcases Nat.lt_or_ge j 2 with g1 | g1
   ·have : j = 1 := by omega
    subst this
    simp at h3; omega
   ·omega⟩
  obtain ⟨n1, n2⟩ := h.nf
  have e0 : ak + (((i + 2 : Nat) : Int) - 1) * T = now + 1 := by omega
  have e1 : ak + (((i + 1 : Nat) : Int)) * T = now + 1 := by
   have : ((i + 1 : Nat) : Int) = ((i + 2 : Nat) : Int) - 1 := by push_cast; omega
   rw [this]; exact e0
  have hp := h.pot (i + 1) (by omega) (by
   have := step_eq ak T (i + 1)
   omega)
  rw [e1] at hp
  have e2 : ak + ((i + 2 : Nat) : Int) * T = now + 1 + T := by rw [step_eq, e0]
  rw [e2]
  unfold potG at hp ⊢
  rw [potH_late _ (fun x hx => by have := hla x hx; have := hnl x hx; omega), if_neg (by omega), potB_no _ n2] at hp
  rw [potH_full _ (fun x hx => by have := hla x hx; omega), if_pos (by omega), potB_all _ (fun x hx => by have := ok.bk x hx; omega)]
  have ha := ok.all
  have e3 : ((i + 2 : Nat) : Int) * C = ((i + 1 : Nat) : Int) * C + C := by
   rw [show ((i + 2 : Nat) : Int) = ((i + 1 : Nat) : Int) + 1 by push_cast; omega, Int.add_mul]; omega
  omega
/-- Enough ticks. -/
theorem SrC.got (h : SrC C T ak now b g) (hT : 1 ≤ T) (hnl : ∀ x ∈ b.live, now < x.at_ + T) {k : Nat} (hk : 1 ≤ k) (hn : ak + ((k : Int) + 1) * T < now) : (k : Int) * C ≤ g := by
 have e1 : ak + ((k : Int) + 1) * T = ak + (k : Int) * T + T := by rw [Int.add_mul]; omega
 have e2 := step_eq ak T k
 have h0 : 0 ≤ (k : Int) * T := Int.mul_nonneg (by omega) (by omega)
 have hp := h.pot k hk (by omega)
 obtain ⟨n1, n2⟩ := h.nf (by omega)
 unfold potG at hp
 rw [potH_past _ (fun x hx => by have := hnl x hx; omega), if_neg (by omega), potB_no _ (fun x hx => by have := n2 x hx; omega)] at hp
 omega
end
/-! ### a budget that is filled again -/
/-- How many of its periods began from ak on, ahead of now. -/
def begunN (T ak now : Int) : Int := (now - 1) / T - (ak - 1) / T
theorem begun_step {T ak now : Int} (hT : 1 ≤ T) (h0 : 0 ≤ now) : begunN T ak (now + 1) = begunN T ak now + (if now % T = 0 then 1 else 0) := by
 unfold begunN
 have e : (now + 1 - 1) / T = (now - 1) / T + (if now % T = 0 then 1 else 0) := by
  rw [show now + 1 - 1 = now by omega]
  have g1 := Int.emod_add_mul_ediv now T
  have g2 := Int.emod_nonneg now (show T ≠ 0 by omega)
  have g3 := Int.emod_lt_of_pos now (show 0 < T by omega)
  obtain ⟨q, hq⟩ : ∃ q, q = now / T := ⟨_, rfl⟩
  obtain ⟨r, hr⟩ : ∃ r, r = now % T := ⟨_, rfl⟩
  rw [← hq, ← hr] at g1
  rw [← hr] at g2 g3
  rw [← hq, ← hr]
  by_cases h1 : r = 0
  ·rw [if_pos h1]
   have e1 : now - 1 = (T - 1) + T * (q - 1) := by rw [Int.mul_sub]; omega
   rw [e1, Int.add_mul_ediv_left _ _ (by omega), Int.ediv_eq_zero_of_lt (by omega) (by omega)]
   omega
  ·rw [if_neg h1]
   have e1 : now - 1 = (r - 1) + T * q := by omega
   rw [e1, Int.add_mul_ediv_left _ _ (by omega), Int.ediv_eq_zero_of_lt (by omega) (by omega)]
   omega
 omega
theorem begun_zero (T ak : Int) : begunN T ak ak = 0 := by unfold begunN; omega
theorem begun_many {T ak now : Int} (hT : 1 ≤ T) {k : Nat} (hn : ak + (k : Int) * T < now) : (k : Int) ≤ begunN T ak now := by
 unfold begunN
 have h1 : (ak - 1 + (k : Int) * T) / T = (ak - 1) / T + k := Int.add_mul_ediv_right _ _ (by omega)
 have h2 : (ak - 1 + (k : Int) * T) / T ≤ (now - 1) / T := Int.ediv_le_ediv (by omega) (by omega)
 omega
/-- A request that came at ak: at now, ahead of its Begin. -/
structure SrR (C T ak now : Int) (b : Rd) (g : Int) : Prop where
 pot : begunN T ak now * C ≤ g + sumB b.live
 nf : ak < now → b.free = 0
 lv : ∀ x ∈ b.live, x.at_ < now ∧ (x.at_ = ak ∨ x.at_ % T = 0)
 g0 : 0 ≤ g
 n0 : ak ≤ now
section
variable {C T ak now : Int} {b : Rd} {g : Int}
theorem SrR.start (hl : b.live = []) : SrR C T now now b 0 := ⟨by rw [begun_zero, hl]; simp [sumB], fun h => by omega, fun x hx => (by rw [hl] at hx; cases hx), Int.le_refl _, Int.le_refl _⟩
theorem perOf_next {T now : Int} (hT : 1 ≤ T) (h0 : 0 ≤ now) : perOf T 0 now < perOf T 0 (now + 1) ↔ (now + 1) % T = 0 := by
 unfold perOf
 rw [Int.sub_zero, Int.sub_zero]
 have := begun_step (T := T) (ak := 1) (now := now + 1) hT (by omega)
 unfold begunN at this
 rw [show now + 1 + 1 - 1 = now + 1 by omega, show now + 1 - 1 = now by omega] at this
 split at this
 ·rename_i h; exact ⟨fun _ => h, fun _ => by omega⟩
 ·rename_i h; exact ⟨fun h2 => by omega, fun h2 => absurd h2 h⟩
/-- What a Begin makes of it. -/
theorem SrR.go {M : Int} (h : SrR C T ak now b g) (ok : RdOk C M b) (hT : 1 ≤ T) (hC : 1 ≤ C) (hst : b.stop = false) (hak : 0 ≤ ak) (hbn : b.now = max 0 (now - 1)) (hin : now = 0 → b.free = C) (hnl : ∀ x ∈ b.live, now < x.at_ + T) :
 begunN T ak (now + 1) * C ≤ g + sumB (rGo C T 0 b now true).live ∧ (rGo C T 0 b now true).free = 0 ∧ (rGo C T 0 b now true).stop = false ∧ ∀ x ∈ (rGo C T 0 b now true).live, x.at_ < now + 1 ∧ (x.at_ = ak ∨ x.at_ % T = 0) := by
 have hn0 := h.n0
 have hf := fillV_bd (T := T) (start := 0) ok now
 have hp := h.pot
 have hbs := begun_step (ak := ak) hT (show 0 ≤ now by omega)
 -- at a boundary what is free fills it up
 have hfill : now % T = 0 → fillV C T 0 b now + sumB b.live = C := fun hm => by
  unfold fillV
  by_cases h0 : now = 0
  ·have hl0 : sumB b.live = 0 := by
    have h1 : ∀ x ∈ b.live, False := fun x hx => by
     have := (h.lv x hx).1
     have := (ok.lv x hx).1
     omega
    rw [List.eq_nil_iff_forall_not_mem.2 h1]; simp [sumB]
   rw [show b.now = now by omega, if_neg (Int.lt_irrefl _), hin h0, hl0]; omega
  ·have e : b.now = now - 1 := by rw [hbn]; omega
   have := (perOf_next hT (show 0 ≤ now - 1 by omega)).2 (by rw [show now - 1 + 1 = now by omega]; exact hm)
   rw [show now - 1 + 1 = now by omega] at this
   rw [e, if_pos this]; omega
 have hnof : now % T ≠ 0 → ak < now → fillV C T 0 b now = 0 := fun hm hlt => by
  unfold fillV
  have e : b.now = now - 1 := by rw [hbn]; omega
  have : ¬ perOf T 0 (now - 1) < perOf T 0 now := fun hc => hm (by
   have := (perOf_next hT (show 0 ≤ now - 1 by omega)).1 (by rw [show now - 1 + 1 = now by omega]; exact hc)
   rwa [show now - 1 + 1 = now by omega] at this)
  rw [e, if_neg this]
  exact h.nf hlt
 -- and what was there ahead of it is used up
 have hbd : now % T = 0 → ak < now → 1 ≤ begunN T ak now → sumB b.live = 0 := fun hm hlt h1 => by
  have h2 : ∀ x ∈ b.live, False := fun x hx => by
   obtain ⟨l1, l2⟩ := h.lv x hx
   have l3 := hnl x hx
   have g1 := Int.emod_add_mul_ediv now T
   rw [hm] at g1
   rcases l2 with l2 | l2
   ·-- no period began between ak and now, but one did
    unfold begunN at h1
    have e1 : (now - 1) / T = now / T - 1 := by
     have e2 : now - 1 = (T - 1) + T * (now / T - 1) := by rw [Int.mul_sub]; omega
     rw [e2, Int.add_mul_ediv_left _ _ (by omega), Int.ediv_eq_zero_of_lt (by omega) (by omega)]
     have e3 : (T - 1 + T * (now / T - 1) + 1) = now := by omega
     omega
    have e4 : now / T - 1 ≤ (ak - 1) / T := by
     rw [Int.le_ediv_iff_mul_le (by omega), Int.sub_mul, Int.mul_comm]
     omega
    omega
   ·have g2 := Int.emod_add_mul_ediv x.at_ T
    rw [l2] at g2
    have g3 : x.at_ / T < now / T := by
     rcases Int.lt_or_le (x.at_ / T) (now / T) with c | c
     ·exact c
     ·have := Int.mul_le_mul_of_nonneg_left c (show 0 ≤ T by omega); omega
    have g4 : T * (x.at_ / T) ≤ T * (now / T - 1) := Int.mul_le_mul_of_nonneg_left (by omega) (by omega)
    rw [Int.mul_sub] at g4
    omega
  rw [List.eq_nil_iff_forall_not_mem.2 h2]; simp [sumB]
 have hpot : begunN T ak (now + 1) * C ≤ g + (sumB b.live + fillV C T 0 b now) := by
  rw [hbs]
  by_cases hm : now % T = 0
  ·rw [if_pos hm, Int.add_mul]
   have := hfill hm
   by_cases h1 : 1 ≤ begunN T ak now
   ·have hlt : ak < now := by
     rcases Int.lt_or_le ak now with c | c
     ·exact c
     ·have : ak = now := by omega
      rw [this, begun_zero] at h1; omega
    have := hbd hm hlt h1
    omega
   ·have h2 : begunN T ak now * C ≤ 0 * C := Int.mul_le_mul_of_nonneg_right (by omega) (by omega)
    have := h.g0
    omega
  ·rw [if_neg hm, Int.add_zero]
   have := hf.1
   omega
 rw [rGo_eq]
 split
 ·rename_i hb
  refine ⟨?_, rfl, hst, fun x hx => ?_⟩
  ·show begunN T ak (now + 1) * C ≤ g + sumB (b.live ++ _)
   rw [sumB_append]
   simp only [sumB, List.map_cons, List.map_nil, List.sum_cons, List.sum_nil] at hpot ⊢
   omega
  ·rcases List.mem_append.1 hx with hx | hx
   ·have := h.lv x hx; exact ⟨by omega, this.2⟩
   ·rw [List.mem_singleton.1 hx]
    simp only [Bool.and_eq_true, decide_eq_true_eq] at hb
    refine ⟨by show now < now + 1; omega, ?_⟩
    show now = ak ∨ now % T = 0
    by_cases hm : now % T = 0
    ·exact .inr hm
    ·rcases Int.lt_or_le ak now with c | c
     ·have := hnof hm c; omega
     ·exact .inl (by omega)
 ·rename_i hb
  have h0 : fillV C T 0 b now = 0 := by
   rw [hst] at hb
   simp only [Bool.not_false, Bool.and_self, Bool.true_and, decide_eq_true_eq] at hb
   have := hf.1
   omega
  refine ⟨by show begunN T ak (now + 1) * C ≤ g + sumB b.live; omega, h0, hst, fun x hx => ?_⟩
  have := h.lv x hx
  exact ⟨by omega, this.2⟩
theorem SrR.use {x : Bk} {l : List Bk} (h : SrR C T ak now b g) (hl : b.live = x :: l) : SrR C T ak now (rUse b) (g + 1) := by
 obtain ⟨nw, f, lv, st⟩ := b
 dsimp only at hl
 subst hl
 have hp := h.pot
 have h0 := h.g0
 simp only [sumB, List.map_cons, List.sum_cons] at hp
 unfold rUse
 dsimp only
 split
 ·refine ⟨?_, h.nf, fun y hy => h.lv y (List.mem_cons_of_mem _ hy), by omega, h.n0⟩
  show begunN T ak now * C ≤ g + 1 + sumB l
  unfold sumB; omega
 ·refine ⟨?_, h.nf, fun y hy => ?_, by omega, h.n0⟩
  ·show begunN T ak now * C ≤ g + 1 + sumB (_ :: l)
   simp only [sumB, List.map_cons, List.sum_cons]; omega
  ·rcases List.mem_cons.1 hy with hy | hy
   ·rw [hy]; exact h.lv x (List.mem_cons_self ..)
   ·exact h.lv y (List.mem_cons_of_mem _ hy)
theorem SrR.got {M : Int} (h : SrR C T ak now b g) (ok : RdOk C M b) (hT : 1 ≤ T) {k : Nat} (hn : ak + ((k : Int) + 1) * T < now) : (k : Int) * C ≤ g := by
 have h1 := begun_many (k := k + 1) hT (by push_cast; exact hn)
 have hb := ok.bounds
 have hC : 0 ≤ C := by have := ok.f0; omega
 have h2 : ((k + 1 : Nat) : Int) * C ≤ begunN T ak now * C := Int.mul_le_mul_of_nonneg_right h1 hC
 have hp := h.pot
 have e3 : ((k + 1 : Nat) : Int) * C = (k : Int) * C + C := by push_cast; rw [Int.add_mul]; omega
 omega
end
end Go.Proofs.YtchbehnkkcjdgaaGreat
namespace Go.Proofs.YtchbehnkkcjdgaaGreat
open Go.ChangeShapes Go.WideShapes Go.ChangeAt Go.RowKit
set_option linter.unusedVariables false
def ojOf (js : Js) (i : Nat) : Option (Int × Int) := (js i).map fun j => (j.arr, j.done)
def Bud.stp : Bud → Bool
 | .c b => b.stop
 | .r b => b.stop
/-- What is there: each task's job, and the chunks of server q. -/
def pendS (n q : Nat) (x : Px) : Nat → Int → Prop := fun k r => (k < n ∧ ∃ j, x.js k = some j ∧ j.arr = r) ∨ (k = n ∧ r ∈ (x.ds q).bud.ats)
/-- A partition in low mode, of whose servers q alone has requests: L: the tick of the last Begin. -/
structure SvI (ts : List Tk) (ss : List Sv) (q : Nat) (x : Px) (L : Int) (h : Hs) : Prop where
 up : x.up = true
 lo : x.hi = false
 len : x.la.length = ts.length
 jin : ∀ k j, x.js k = some j → k < ts.length
 tk : ∀ i, i < ts.length → TkN (tkAt ts i) (laAt x.la i) (ojOf x.js i) (frOf h i)
 sv : SvN (svAt ss q) L L (x.ds q).bud (frOf h ts.length)
 em : (x.ds q).q = [] → (x.ds q).bud.ats = []
 ot : ∀ j, j < ss.length → j ≠ q → (x.ds j).q = []
 edf : Edf (dlV ts (svAt ss q)) h (pendS ts.length q x)
 src : ∀ e ∈ h, ∀ k r, e = some (k, r) → k < ts.length + 1
 stp : (x.ds q).bud.stp = false
 ini : L = -1 → (x.ds q).bud = Bud.new (svAt ss q) 0
section
variable {ts : List Tk} {ss : List Sv} {q : Nat} {x : Px} {L : Int} {h : Hs}
theorem fr_pos {dl : Nat → Int} {pend : Nat → Int → Prop} (hE : Edf dl h pend) {i : Nat} {z : Int} (hz : z ∈ frOf h i) : 0 ≤ z := by
 unfold frOf at hz
 obtain ⟨e, he, hi⟩ := List.mem_filterMap.1 hz
 obtain ⟨t, ht, rfl⟩ := List.getElem_of_mem he
 cases hh : h[t] with
 | none => rw [hh] at hi; cases hi
 | some p =>
   obtain ⟨k, r⟩ := p
   rw [hh] at hi
   simp only [isOf] at hi
   split at hi
   ·cases hi
    exact (hE.hist t k z (by rw [List.getElem?_eq_getElem ht, hh])).1
   ·cases hi
theorem newBud_ats (s : Sv) (st : Int) : (Bud.new s st).ats = [] := by unfold Bud.new; split <;> rfl
theorem SvN.start {s : Sv} (ho : okSv s = true) : SvN s (-1) (-1) (Bud.new s 0) [] := by
 have o := okSv_t ho
 refine ⟨?_, ?_, by rw [newBud_ats]; exact List.Pairwise.nil, fun z hz => by rw [newBud_ats] at hz; cases hz⟩
 ·unfold Bud.new
  split
  ·rename_i h; rw [h]; rfl
  ·rename_i h; exact (Bool.eq_false_iff.2 h).symm
 ·unfold Bud.new
  split
  ·exact ⟨RdOk.begin_ (by omega) (by omega) (by omega), NeverR.begin_ (by omega) _ _, rfl⟩
  ·exact ⟨BdOk.start (by omega) _ _, Never.start (by omega) _ _⟩
theorem laAt_repS (n i : Nat) : laAt (List.replicate n (-1)) i = -1 := by
 unfold laAt
 rw [List.getD_eq_getElem?_getD]
 by_cases h : i < n
 ·rw [List.getElem?_replicate, if_pos h]; rfl
 ·rw [List.getElem?_replicate, if_neg h]; rfl
theorem SvI.start (ht : ∀ k ∈ ts, okTk k = true) (hs : ∀ s ∈ ss, okSv s = true) (hq : q < ss.length) : SvI ts ss q (newPx ts ss 0) (-1) [] where
 up := rfl
 lo := rfl
 len := by simp [newPx]
 jin := fun k j hj => (by cases hj)
 tk := fun i hi => by
  show TkN _ (laAt (List.replicate ts.length (-1)) i) none []
  rw [laAt_repS]
  exact TkN.start (by rw [tkAt_eq hi]; exact ht _ (List.getElem_mem hi))
 sv := SvN.start (by rw [svAt_eq hq]; exact hs _ (List.getElem_mem hq))
 em := fun _ => newBud_ats _ _
 ot := fun _ _ _ => rfl
 edf := Edf.start.sub (fun k r hp => by
  rcases hp with ⟨_, j, hj, _⟩ | ⟨_, hr⟩
  ·cases hj
  ·rw [show ((newPx ts ss 0).ds q).bud.ats = [] from newBud_ats _ _] at hr; cases hr)
 src := fun e he => (by cases he)
 stp := by show (Bud.new _ _).stp = false; unfold Bud.new; split <;> rfl
 ini := fun _ => rfl
/-- Arrive. -/
theorem SvI.arr (I : SvI ts ss q x L h) (ht : ∀ k ∈ ts, okTk k = true) {now : Int} (hn : now = h.length) (t work done : Int) (ops : List Wn) : SvI ts ss q (arrX ts x now t work done ops) L h := by
 unfold arrX
 split
 ·rename_i he
  obtain ⟨_, hp, het⟩ := arr_up he
  obtain ⟨⟨h1, h2, _⟩, h3, _⟩ := err_zero het
  obtain ⟨k, rfl, hk⟩ := inT_nat h1
  rw [Int.toNat_natCast] at h3
  have hnone := hasJ_f h3
  have hput : putT ts x.hi x.js (k : Int) now work done ops = upd x.js k (some ⟨now, work, 0, ops⟩) := by rw [put_yes het, Int.toNat_natCast]
  have htak : takL ts x.la x.hi (k : Int) now = x.la.set k now := by unfold takL; rw [if_pos hp, Int.toNat_natCast]
  have hkl : k < x.la.length := by rw [I.len]; exact hk
  have hok : okTk (tkAt ts k) = true := by rw [tkAt_eq hk]; exact ht _ (List.getElem_mem hk)
  refine ⟨I.up, I.lo, ?_, fun i j hj => ?_, fun i hi => ?_, I.sv, I.em, I.ot, I.edf.sub (fun i r hpn => ?_), I.src, I.stp, I.ini⟩
  ·show (takL ts x.la x.hi k now).length = _
   rw [htak, List.length_set]; exact I.len
  ·have hj : putT ts x.hi x.js (k : Int) now work done ops i = some j := hj
   rw [hput] at hj
   by_cases e : i = k
   ·rw [e]; exact hk
   ·rw [upd_ne _ _ e] at hj; exact I.jin i j hj
  ·show TkN (tkAt ts i) (laAt (takL ts x.la x.hi k now) i) (ojOf (putT ts x.hi x.js k now work done ops) i) (frOf h i)
   rw [htak, hput]
   by_cases e : i = k
   ·subst e
    have e1 : laAt (x.la.set i now) i = now := by unfold laAt; rw [List.getD_eq_getElem?_getD, List.getElem?_set_self hkl]; rfl
    have e2 : ojOf (upd x.js i (some ⟨now, work, 0, ops⟩)) i = some (now, 0) := by unfold ojOf; rw [upd_at]; rfl
    rw [e1, e2]
    have hT := I.tk i hi
    have e3 : ojOf x.js i = none := by unfold ojOf; rw [hnone]; rfl
    rw [e3] at hT
    refine hT.come hok h2 (fun h0 => ?_) (fun z hz => fr_pos I.edf hz)
    unfold errP at hp
    rw [if_pos (by rw [h1]; simp [nowOk]; omega)] at hp
    split at hp
    ·omega
    ·split at hp
     ·omega
     ·rename_i hc
      rw [Int.toNat_natCast] at hc
      simp only [Bool.and_eq_true, decide_eq_true_eq, not_and] at hc
      have := hc h0
      omega
   ·have e1 : laAt (x.la.set k now) i = laAt x.la i := by unfold laAt; rw [List.getD_eq_getElem?_getD, List.getElem?_set_ne (Ne.symm e), ← List.getD_eq_getElem?_getD]
    have e2 : ojOf (upd x.js k (some ⟨now, work, 0, ops⟩)) i = ojOf x.js i := by unfold ojOf; rw [upd_ne _ _ e]
    rw [e1, e2]
    exact I.tk i hi
  ·rcases hpn with ⟨hi, j, hj, hr⟩ | hpn
   ·have hj : putT ts x.hi x.js (k : Int) now work done ops i = some j := hj
    rw [hput] at hj
    by_cases e : i = k
    ·subst e
     rw [upd_at] at hj
     cases hj
     exact .inr (by rw [← hr]; exact hn)
    ·rw [upd_ne _ _ e] at hj
     exact .inl (.inl ⟨hi, j, hj, hr⟩)
   ·exact .inl (.inr hpn)
 ·exact I
/-- Request. -/
theorem SvI.req (I : SvI ts ss q x L h) {work : Int} : SvI ts ss q (reqX ss x q work) L h := by
 unfold reqX
 split
 ·rename_i he
  rw [Int.toNat_natCast]
  have e1 : (updD x.ds q ((x.ds q).take work) q).bud = (x.ds q).bud := by
   unfold updD; rw [if_pos rfl]; unfold Dk.take; split <;> rfl
  have e2 : ∀ j, j ≠ q → updD x.ds q ((x.ds q).take work) j = x.ds j := fun j hj => by unfold updD; rw [if_neg hj]
  refine ⟨I.up, I.lo, I.len, I.jin, I.tk, ?_, fun hq => ?_, fun j hj hne => ?_, ?_, I.src, ?_, ?_⟩
  ·show SvN _ _ _ (updD x.ds q ((x.ds q).take work) q).bud _; rw [e1]; exact I.sv
  ·have hq : (updD x.ds q ((x.ds q).take work) q).q = [] := hq
   show (updD x.ds q ((x.ds q).take work) q).bud.ats = []
   rw [e1]
   refine I.em ?_
   unfold updD at hq
   rw [if_pos rfl] at hq
   unfold Dk.take at hq
   split at hq
   ·simp at hq
   ·exact hq
  ·show (updD x.ds q ((x.ds q).take work) j).q = []
   rw [e2 j hne]; exact I.ot j hj hne
  ·have : pendS ts.length q ⟨x.la, x.hi, x.js, updD x.ds q ((x.ds q).take work), x.up⟩ = pendS ts.length q x := by
    unfold pendS
    dsimp only
    rw [e1]
   rw [this]; exact I.edf
  ·show (updD x.ds q ((x.ds q).take work) q).bud.stp = false; rw [e1]; exact I.stp
  ·show L = -1 → (updD x.ds q ((x.ds q).take work) q).bud = _; rw [e1]; exact I.ini
 ·exact I
/-- A budget's Go. -/
theorem SvN.go {s : Sv} {b : Bud} {fr : List Int} {now : Int} (hS : SvN s (now - 1) (now - 1) b fr) (ho : okSv s = true) (h0 : 0 ≤ now) (h1 : now ≤ 4611687117939015680) (busy : Bool) : SvN s now now (b.go s 0 now busy) fr ∧ (∀ z ∈ (b.go s 0 now busy).ats, z ∈ b.ats ∨ z = now) ∧ (busy = false → (b.go s 0 now busy).ats = b.ats) ∧ (b.go s 0 now busy).stp = b.stp := by
 have o := okSv_t ho
 have hk := hS.kind
 have hn := hS.nv
 have hle := hS.le
 have hst := hS.st
 cases b with
 | c b =>
   obtain ⟨ok, nv⟩ := hn
   have ok' : BdOk s.c s.t now b := ⟨ok.f0, fun x hx => by have := ok.lv x hx; exact ⟨this.1, by omega, this.2.2⟩, fun x hx => by have := ok.bk x hx; exact ⟨this.1, by omega, this.2.2⟩, ok.all⟩
   have hats : (goB b now busy).live.map (·.at_) = b.live.map (·.at_) ∨ (busy = true ∧ (goB b now busy).live.map (·.at_) = b.live.map (·.at_) ++ [now]) := by
    unfold goB
    split
    ·rename_i hb
     simp only [Bool.and_eq_true] at hb
     exact .inr ⟨hb.1.1, by simp⟩
    ·exact .inl rfl
   have hm : ∀ z ∈ (goB b now busy).live.map (·.at_), z ∈ b.live.map (·.at_) ∨ z = now := fun z hz => by
    rcases hats with e | ⟨_, e⟩
    ·rw [e] at hz; exact .inl hz
    ·rw [e] at hz
     rcases List.mem_append.1 hz with hz | hz
     ·exact .inl hz
     ·exact .inr (List.mem_singleton.1 hz)
   refine ⟨⟨hk, ⟨ok'.go h0 (Int.le_refl _) busy, nv.go ok (by omega) busy⟩, ?_, fun z hz => ?_⟩, hm, fun hb => ?_, ?_⟩
   ·show ((goB b now busy).live.map (·.at_)).Pairwise _
    rcases hats with e | ⟨_, e⟩
    ·rw [e]; exact hst
    ·rw [e]
     refine List.pairwise_append.2 ⟨hst, List.pairwise_singleton _ _, fun a ha c hc => ?_⟩
     rw [List.mem_singleton.1 hc]
     have := hle a ha
     omega
   ·rcases hm z hz with hz | hz
    ·have := hle z hz; omega
    ·omega
   ·rcases hats with e | ⟨e, _⟩
    ·exact e
    ·rw [hb] at e; cases e
   ·show (goB b now busy).stop = b.stop
    unfold goB; split <;> rfl
 | r b =>
   obtain ⟨ok, nv, hnw⟩ := hn
   have hbn : b.now ≤ now := by omega
   have hats : (rGo s.c s.t 0 b now busy).live.map (·.at_) = b.live.map (·.at_) ∨ (busy = true ∧ (rGo s.c s.t 0 b now busy).live.map (·.at_) = b.live.map (·.at_) ++ [now]) := by
    rw [rGo_eq]
    split
    ·rename_i hb
     simp only [Bool.and_eq_true] at hb
     exact .inr ⟨hb.1.1, by simp⟩
    ·exact .inl rfl
   have hm : ∀ z ∈ (rGo s.c s.t 0 b now busy).live.map (·.at_), z ∈ b.live.map (·.at_) ∨ z = now := fun z hz => by
    rcases hats with e | ⟨_, e⟩
    ·rw [e] at hz; exact .inl hz
    ·rw [e] at hz
     rcases List.mem_append.1 hz with hz | hz
     ·exact .inl hz
     ·exact .inr (List.mem_singleton.1 hz)
   refine ⟨⟨hk, ⟨ok.go hbn h1 busy, nv.go (by omega) ok hbn busy, ?_⟩, ?_, fun z hz => ?_⟩, hm, fun hb => ?_, ?_⟩
   ·rw [rGo_eq]; split <;> (show now = _; omega)
   ·show ((rGo s.c s.t 0 b now busy).live.map (·.at_)).Pairwise _
    rcases hats with e | ⟨_, e⟩
    ·rw [e]; exact hst
    ·rw [e]
     refine List.pairwise_append.2 ⟨hst, List.pairwise_singleton _ _, fun a ha c hc => ?_⟩
     rw [List.mem_singleton.1 hc]
     have := hle a ha
     omega
   ·rcases hm z hz with hz | hz
    ·have := hle z hz; omega
    ·omega
   ·rcases hats with e | ⟨e, _⟩
    ·exact e
    ·rw [hb] at e; cases e
   ·show (rGo s.c s.t 0 b now busy).stop = b.stop
    rw [rGo_eq]; split <;> rfl
theorem set_low {x : Px} (hl : x.hi = false) : setX ts x = x ∧ setE ts x = [] := by
 have : falV ts x.hi x.js = false := by unfold falV; rw [hl]; rfl
 unfold setX setE
 rw [this]
 exact ⟨by simp, by simp⟩
/-- Begin. -/
theorem SvI.beg {now : Int} (I : SvI ts ss q x (now - 1) h) (hs : ∀ s ∈ ss, okSv s = true) (hq : q < ss.length) (hn : now = h.length) (h1 : now ≤ 4611687117939015680) : SvI ts ss q (begX ts ss 0 x now) now h := by
 have hok : okSv (svAt ss q) = true := by rw [svAt_eq hq]; exact hs _ (List.getElem_mem hq)
 obtain ⟨g1, g2, g3, g4⟩ := I.sv.go hok (by omega) h1 (x.ds q).busy
 have hlo : (misX ts x now).hi = false := I.lo
 unfold begX
 rw [if_pos I.up, (set_low (ts := ts) hlo).1]
 refine ⟨I.up, I.lo, I.len, fun k j hj => I.jin k j (rem_sub hj).1, fun i hi => ?_, g1, fun he => ?_, fun j hj hne => I.ot j hj hne, I.edf.sub (fun k r hp => ?_), I.src, g4.trans I.stp, fun e => by omega⟩
 ·show TkN _ _ (ojOf (misT ts x.js now) i) _
  have hT := I.tk i hi
  have : ojOf (misT ts x.js now) i = ojOf x.js i ∨ ojOf (misT ts x.js now) i = none := by
   unfold ojOf misT remT
   split
   ·exact .inr rfl
   ·exact .inl rfl
  rcases this with e | e
  ·rw [e]; exact hT
  ·rw [e]; exact hT.gone
 ·have he : (x.ds q).q = [] := he
  have hb : (x.ds q).busy = false := by unfold Dk.busy; rw [he]; rfl
  exact (g3 hb).trans (I.em he)
 ·rcases hp with ⟨hk, j, hj, hr⟩ | ⟨hk, hr⟩
  ·exact .inl (.inl ⟨hk, j, (rem_sub hj).1, hr⟩)
  ·rcases g2 r hr with h3 | h3
   ·exact .inl (.inr ⟨hk, h3⟩)
   ·exact .inr (h3.trans hn)
end
end Go.Proofs.YtchbehnkkcjdgaaGreat
namespace Go.Proofs.YtchbehnkkcjdgaaGreat
open Go.ChangeShapes Go.WideShapes Go.ChangeAt Go.RowKit
set_option linter.unusedVariables false
section
variable {ts : List Tk} {ss : List Sv} {q : Nat} {x : Px} {L : Int} {h : Hs}
theorem Bud.has_ats {b : Bud} : b.has = true ↔ b.ats ≠ [] := by
 cases b with
 | c b => show useOk b = true ↔ b.live.map (·.at_) ≠ []; unfold useOk; cases b.live <;> simp
 | r b => show rUseOk b = true ↔ b.live.map (·.at_) ≠ []; unfold rUseOk; cases b.live <;> simp
theorem Bud.due_ats {s : Sv} {b : Bud} {r : Int} {l : List Int} (hl : b.ats = r :: l) : b.due s = r + s.t := by
 cases b with
 | c b =>
   have hl : b.live.map (·.at_) = r :: l := hl
   show dueV s.t b = _
   unfold dueV
   cases hb : b.live with
   | nil => rw [hb] at hl; cases hl
   | cons y m => rw [hb] at hl; simp only [List.map_cons, List.cons.injEq] at hl; rw [← hl.1]
 | r b =>
   have hl : b.live.map (·.at_) = r :: l := hl
   show rDue s.t b = _
   unfold rDue
   cases hb : b.live with
   | nil => rw [hb] at hl; cases hl
   | cons y m => rw [hb] at hl; simp only [List.map_cons, List.cons.injEq] at hl; rw [← hl.1]
/-- A budget's tick. -/
theorem SvN.use {s : Sv} {b : Bud} {fr : List Int} {M now : Int} (hS : SvN s M now b fr) (ho : okSv s = true) {r : Int} {l : List Int} (hl : b.ats = r :: l) : SvN s M now (b.use s) (fr ++ [r]) ∧ (∀ z ∈ (b.use s).ats, z ∈ b.ats) ∧ (b.use s).stp = b.stp := by
 have o := okSv_t ho
 have hk := hS.kind
 have hn := hS.nv
 have hle := hS.le
 have hst := hS.st
 cases b with
 | c b =>
   obtain ⟨ok, nv⟩ := hn
   have hl : b.live.map (·.at_) = r :: l := hl
   cases hb : b.live with
   | nil => rw [hb] at hl; cases hl
   | cons y m =>
     have n2 := nv.use ok (by omega) hb
     have hl2 := hl
     rw [hb] at hl2
     simp only [List.map_cons, List.cons.injEq] at hl2
     obtain ⟨e1, e2⟩ := hl2
     have hats : (useB s.t b).live.map (·.at_) = l ∨ (useB s.t b).live.map (·.at_) = r :: l := by
      unfold useB
      rw [hb]
      dsimp only
      split
      ·exact .inl e2
      ·exact .inr (by simp [e1, e2])
     have hm : ∀ z ∈ (useB s.t b).live.map (·.at_), z ∈ b.live.map (·.at_) := fun z hz => by
      rw [hl]
      rcases hats with e | e
      ·rw [e] at hz; exact List.mem_cons_of_mem _ hz
      ·rw [e] at hz; exact hz
     have hst : (b.live.map (·.at_)).Pairwise (· ≤ ·) := hst
     rw [hl] at hst
     refine ⟨⟨hk, ⟨ok.use (by omega), by rw [← e1]; exact n2⟩, ?_, fun z hz => hle z (hm z hz)⟩, hm, ?_⟩
     ·show ((useB s.t b).live.map (·.at_)).Pairwise _
      rcases hats with e | e
      ·rw [e]; exact (List.pairwise_cons.1 hst).2
      ·rw [e]; exact hst
     ·show (useB s.t b).stop = b.stop
      unfold useB; rw [hb]; dsimp only; split <;> rfl
 | r b =>
   obtain ⟨ok, nv, hnw⟩ := hn
   have hl : b.live.map (·.at_) = r :: l := hl
   cases hb : b.live with
   | nil => rw [hb] at hl; cases hl
   | cons y m =>
     have n2 := nv.use (by omega) ok hb
     have hl2 := hl
     rw [hb] at hl2
     simp only [List.map_cons, List.cons.injEq] at hl2
     obtain ⟨e1, e2⟩ := hl2
     have hats : (rUse b).live.map (·.at_) = l ∨ (rUse b).live.map (·.at_) = r :: l := by
      unfold rUse
      rw [hb]
      dsimp only
      split
      ·exact .inl e2
      ·exact .inr (by simp [e1, e2])
     have hm : ∀ z ∈ (rUse b).live.map (·.at_), z ∈ b.live.map (·.at_) := fun z hz => by
      rw [hl]
      rcases hats with e | e
      ·rw [e] at hz; exact List.mem_cons_of_mem _ hz
      ·rw [e] at hz; exact hz
     have hst : (b.live.map (·.at_)).Pairwise (· ≤ ·) := hst
     rw [hl] at hst
     have hnow : (rUse b).now = b.now := by unfold rUse; rw [hb]; dsimp only; split <;> rfl
     refine ⟨⟨hk, ⟨ok.use, by rw [← e1]; exact n2, hnow.trans hnw⟩, ?_, fun z hz => hle z (hm z hz)⟩, hm, ?_⟩
     ·show ((rUse b).live.map (·.at_)).Pairwise _
      rcases hats with e | e
      ·rw [e]; exact (List.pairwise_cons.1 hst).2
      ·rw [e]; exact hst
     ·show (rUse b).stop = b.stop
      unfold rUse; rw [hb]; dsimp only; split <;> rfl
theorem SvN.done {s : Sv} {b : Bud} {fr : List Int} {M now : Int} (hS : SvN s M now b fr) (ho : okSv s = true) : SvN s M now (b.done s) fr ∧ (b.done s).ats = [] ∧ (b.done s).stp = b.stp := by
 have o := okSv_t ho
 have hn := hS.nv
 have hk := hS.kind
 cases b with
 | c b =>
   obtain ⟨ok, nv⟩ := hn
   exact ⟨⟨hk, ⟨ok.done (by omega), nv.done ok (by omega)⟩, List.Pairwise.nil, fun z hz => (by cases hz)⟩, rfl, rfl⟩
 | r b =>
   obtain ⟨ok, nv, hnw⟩ := hn
   exact ⟨⟨hk, ⟨ok.done, nv.done ok, hnw⟩, List.Pairwise.nil, fun z hz => (by cases hz)⟩, rfl, rfl⟩
/-- Who is picked: server q, or who is first of the jobs. -/
def takesQ (ts : List Tk) (ss : List Sv) (q : Nat) (x : Px) : Bool := (x.ds q).dueOk && (!foV ts x.hi x.js || decide ((x.ds q).bud.due (svAt ss q) < fdV ts x.hi x.js))
theorem pick_only (I : SvI ts ss q x L h) : ∀ m, m ≤ ss.length → pickT ts ss x m = if q < m ∧ takesQ ts ss q x = true then ⟨true, true, q, (x.ds q).bud.due (svAt ss q)⟩ else ⟨foV ts x.hi x.js, false, fkV ts x.hi x.js, fdV ts x.hi x.js⟩
 | 0, _ => by rw [if_neg (by omega)]; rfl
 | m + 1, hm => by
   have ih := pick_only I m (by omega)
   unfold pickT
   rw [ih]
   by_cases e : m = q
   ·subst e
    rw [if_neg (show ¬ (m < m ∧ takesQ ts ss m x = true) by omega)]
    dsimp only
    by_cases ht : takesQ ts ss m x = true
    ·rw [if_pos (by unfold takesQ at ht; exact ht), if_pos ⟨by omega, ht⟩]
    ·rw [if_neg (by unfold takesQ at ht; exact ht), if_neg (fun c => ht c.2)]
   ·have hd : (x.ds m).dueOk = false := by
     unfold Dk.dueOk Dk.busy
     rw [I.ot m (by omega) e]; rfl
    rw [hd, Bool.false_and, if_neg (by simp)]
    by_cases c : q < m ∧ takesQ ts ss q x = true
    ·rw [if_pos c, if_pos ⟨by omega, c.2⟩]
    ·rw [if_neg c, if_neg (fun c' => c ⟨by omega, c'.2⟩)]
theorem pick_is (I : SvI ts ss q x L h) (hq : q < ss.length) : pickV ts ss x = if takesQ ts ss q x = true then ⟨true, true, q, (x.ds q).bud.due (svAt ss q)⟩ else ⟨foV ts x.hi x.js, false, fkV ts x.hi x.js, fdV ts x.hi x.js⟩ := by
 unfold pickV
 rw [if_pos I.up, pick_only I ss.length (Nat.le_refl _)]
 by_cases c : takesQ ts ss q x = true
 ·rw [if_pos ⟨hq, c⟩, if_pos c]
 ·rw [if_neg (fun c' => c c'.2), if_neg c]
theorem ats_of_due (I : SvI ts ss q x L h) (hd : (x.ds q).dueOk = false) : (x.ds q).bud.ats = [] := by
 unfold Dk.dueOk at hd
 rw [Bool.and_eq_false_iff] at hd
 rcases hd with hb | hb
 ·refine I.em ?_
  unfold Dk.busy at hb
  have := of_decide_eq_false hb
  exact List.eq_nil_of_length_eq_zero (by omega)
 ·rcases Decidable.em ((x.ds q).bud.ats = []) with e | e
  ·exact e
  ·rw [Bud.has_ats.2 e] at hb; cases hb
/-- What a tick left of the server. -/
inductive SrvTick (ts : List Tk) (ss : List Sv) (q : Nat) (x x' : Px) (E : List Wn) : Prop where
 | ran {r : Int} {l : List Int} (hq : (x.ds q).q ≠ []) (hl : (x.ds q).bud.ats = r :: l) (he : E = runSE x q) (hd : x'.ds q = (x.ds q).serve (svAt ss q)) : SrvTick ts ss q x x' E
 | not (hd : x'.ds q = x.ds q) (he : ∀ ev ∈ E, ev.at_ ≠ 6) : SrvTick ts ss q x x' E
/-- Run. -/
theorem SvI.run {now : Int} (I : SvI ts ss q x now h) (hs : ∀ s ∈ ss, okSv s = true) (hq : q < ss.length) (hn : now = h.length) :
 (⟨3, 0, 0⟩ : Wn) ∈ runE ts ss x ∨ ∃ e, SvI ts ss q (runX ts ss x) now (h ++ [e]) ∧ SrvTick ts ss q x (runX ts ss x) (runE ts ss x) := by
 have hok : okSv (svAt ss q) = true := by rw [svAt_eq hq]; exact hs _ (List.getElem_mem hq)
 have hp := pick_is I hq
 have hdq : dlV ts (svAt ss q) ts.length = (svAt ss q).t := by unfold dlV; rw [if_neg (by omega)]
 have hdk : ∀ i, i < ts.length → dlV ts (svAt ss q) i = (tkAt ts i).v := fun i hi => by unfold dlV; rw [if_pos hi]
 have hsrc : ∀ k0 r0, k0 < ts.length + 1 → ∀ e ∈ h ++ [some (k0, r0)], ∀ k r, e = some (k, r) → k < ts.length + 1 := fun k0 r0 hk e he k r hr => by
  rcases List.mem_append.1 he with he | he
  ·exact I.src e he k r hr
  ·rw [List.mem_singleton.1 he] at hr; cases hr; exact hk
 have hini : now = -1 → ∀ b : Bud, b = Bud.new (svAt ss q) 0 := fun e => by omega
 by_cases c : takesQ ts ss q x = true
 ·rw [if_pos c] at hp
  have h1 : (pickV ts ss x).ok = true := by rw [hp]
  have h2 : (pickV ts ss x).sv = true := by rw [hp]
  have h3 : (pickV ts ss x).n = q := by rw [hp]
  unfold takesQ at c
  rw [Bool.and_eq_true] at c
  obtain ⟨c1, c2⟩ := c
  have hne : (x.ds q).q ≠ [] := fun e => by
   unfold Dk.dueOk Dk.busy at c1; rw [e] at c1; simp at c1
  have hhas : (x.ds q).bud.has = true := by unfold Dk.dueOk at c1; rw [Bool.and_eq_true] at c1; exact c1.2
  cases hl : (x.ds q).bud.ats with
  | nil => exact absurd hl (Bud.has_ats.1 hhas)
  | cons r l =>
    obtain ⟨u1, u2, u3⟩ := I.sv.use hok hl
    have hrx : runX ts ss x = runSX ss x q := by unfold runX; rw [if_pos h1, if_pos h2, h3, Int.toNat_natCast]
    have hre : runE ts ss x = runSE x q := by unfold runE; rw [if_pos h1, if_pos h2, h3, Int.toNat_natCast]
    have hds : (runX ts ss x).ds q = (x.ds q).serve (svAt ss q) := by rw [hrx]; show updD x.ds q _ q = _; unfold updD; rw [if_pos rfl]
    -- the budget behind it
    have hb : SvN (svAt ss q) now now ((x.ds q).serve (svAt ss q)).bud (frOf h ts.length ++ [r]) ∧ (∀ z ∈ ((x.ds q).serve (svAt ss q)).bud.ats, z ∈ (x.ds q).bud.ats) ∧ ((x.ds q).serve (svAt ss q)).bud.stp = false ∧ (((x.ds q).serve (svAt ss q)).q = [] → ((x.ds q).serve (svAt ss q)).bud.ats = []) := by
     unfold Dk.serve
     split
     ·split
      ·obtain ⟨d1, d2, d3⟩ := u1.done hok
       exact ⟨d1, fun z hz => (by have hz : z ∈ (((x.ds q).bud.use (svAt ss q)).done (svAt ss q)).ats := hz; rw [d2] at hz; cases hz), (d3.trans u3).trans I.stp, fun _ => d2⟩
      ·rename_i ht
       exact ⟨u1, u2, u3.trans I.stp, fun e => absurd e ht⟩
     ·exact ⟨u1, u2, u3.trans I.stp, fun e => (by cases e)⟩
    refine .inr ⟨some (ts.length, r), ?_, .ran hne hl hre hds⟩
    have hE := I.edf.run (k := ts.length) (r := r) (pend' := pendS ts.length q (runX ts ss x)) (.inr ⟨rfl, by rw [hl]; exact List.mem_cons_self⟩) (fun k' r' hp' => ?_) (fun k' r' hp' => ?_)
    ·rw [hrx] at hds hE ⊢
     refine ⟨I.up, I.lo, I.len, I.jin, fun i hi => ?_, ?_, fun e => ?_, fun j hj hne' => ?_, hE, hsrc _ _ (by omega), ?_, fun e => hini e _⟩
     ·rw [fr_other h r (show i ≠ ts.length by omega)]; exact I.tk i hi
     ·rw [hds, fr_same]; exact hb.1
     ·rw [hds] at e ⊢; exact hb.2.2.2 e
     ·show (updD x.ds q _ j).q = []
      unfold updD; rw [if_neg hne']; exact I.ot j hj hne'
     ·rw [hds]; exact hb.2.2.1
    ·rw [hdq]
     rcases hp' with ⟨hk, j, hj, hr⟩ | ⟨hk, hr⟩
     ·rw [hdk k' hk]
      have hf : foV ts x.hi x.js = true := by
       cases hf : foV ts x.hi x.js with
       | true => rfl
       | false => rw [best_none.1 (fo_f hf) k' hk] at hj; cases hj
      obtain ⟨b, hb1, hb2, hb3, jb, hjb⟩ := fo_t hf
      have hbs := (best_some hb1).2.2 k' hk (hasJ_some hj)
      rw [hf] at c2
      simp only [Bool.not_true, Bool.false_or, decide_eq_true_eq] at c2
      rw [Bud.due_ats hl] at c2
      have hfd : fdV ts x.hi x.js = dueT ts x.hi b (jbAt x.js b) := by unfold fdV; rw [hb1]
      have e2 : dueT ts x.hi k' (jbAt x.js k') = r' + (tkAt ts k').v := by unfold dueT; rw [jbAt_some hj, I.lo, if_neg (by simp), hr]
      omega
     ·rw [hk, hdq]
      have hst := I.sv.st
      rw [hl] at hst hr
      rcases List.mem_cons.1 hr with e | e
      ·omega
      ·have := (List.pairwise_cons.1 hst).1 r' e; omega
    ·rcases hp' with ⟨hk, j, hj, hr⟩ | ⟨hk, hr⟩
     ·rw [hrx] at hj; exact .inl ⟨hk, j, hj, hr⟩
     ·rw [hds] at hr; exact .inr ⟨hk, hb.2.1 r' hr⟩
 ·rw [if_neg c] at hp
  have h2 : (pickV ts ss x).sv = false := by rw [hp]
  have h3 : (pickV ts ss x).n = fkV ts x.hi x.js := by rw [hp]
  have h1 : (pickV ts ss x).ok = foV ts x.hi x.js := by rw [hp]
  cases hf : foV ts x.hi x.js with
  | false =>
    rw [hf] at h1
    have hrx : runX ts ss x = x := by unfold runX; rw [if_neg (by rw [h1]; simp)]
    have hre : runE ts ss x = [] := by unfold runE; rw [if_neg (by rw [h1]; simp)]
    have hd : (x.ds q).dueOk = false := by
     unfold takesQ at c
     rw [hf] at c
     simpa using c
    have ha := ats_of_due I hd
    have hno : ∀ k r, ¬ pendS ts.length q x k r := fun k r hp' => by
     rcases hp' with ⟨hk, j, hj, hr⟩ | ⟨hk, hr⟩
     ·rw [best_none.1 (fo_f hf) k hk] at hj; cases hj
     ·rw [ha] at hr; cases hr
    refine .inr ⟨none, ?_, .not (by rw [hrx]) (by rw [hre]; intro ev he; cases he)⟩
    rw [hrx]
    refine ⟨I.up, I.lo, I.len, I.jin, fun i hi => by rw [fr_idle]; exact I.tk i hi, by rw [fr_idle]; exact I.sv, I.em, I.ot, I.edf.idle hno hno, fun e he k r hr => ?_, I.stp, I.ini⟩
    rcases List.mem_append.1 he with he | he
    ·exact I.src e he k r hr
    ·rw [List.mem_singleton.1 he] at hr; cases hr
  | true =>
    rw [hf] at h1
    obtain ⟨b, hb1, hb2, hb3, j, hj⟩ := fo_t hf
    rw [hb2] at h3
    have hrx : runX ts ss x = runJX ts ss x b := by unfold runX; rw [if_pos h1, if_neg (by rw [h2]; simp), h3]
    have hre : runE ts ss x = runJE ts x b := by unfold runE; rw [if_pos h1, if_neg (by rw [h2]; simp), h3]
    have hout := out_yes (hi := x.hi) hb3 hj
    have hrun := run_yes (hi := x.hi) hb3 hj
    have hlo : (jobX ts x b).hi = false := I.lo
    by_cases h4 : outJ ts x.hi b j = 3
    ·left
     rw [hre]
     unfold runJE
     rw [hout, h4, if_neg (by omega), if_neg (by omega), if_pos rfl]
     unfold risE
     exact List.mem_append.2 (.inr List.mem_cons_self)
    right
    have hrx2 : runX ts ss x = jobX ts x b := by
     rw [hrx]
     unfold runJX
     rw [hout, (set_low hlo).1]
     split
     ·rfl
     ·split
      ·rfl
      ·first | rfl | rw [if_neg h4]
    have hev : ∀ ev ∈ runE ts ss x, ev.at_ ≠ 6 := by
     rw [hre]
     unfold runJE
     rw [hout, (set_low hlo).2]
     intro ev he
     split at he
     ·simp at he; rw [he]; simp
     ·split at he
      ·simp at he; rw [he]; simp
      ·first | cases he | (rw [if_neg h4] at he; cases he)
    refine ⟨some (b, j.arr), ?_, .not (by rw [hrx2]; rfl) hev⟩
    have hsub : ∀ i y, (runX ts ss x).js i = some y → ∃ y', x.js i = some y' ∧ y'.arr = y.arr := fun i y hy => by
     rw [hrx2] at hy
     have hy : runT ts x.hi x.js b i = some y := hy
     rw [hrun] at hy
     by_cases e : i = b
     ·subst e
      split at hy
      ·rw [upd_at] at hy; cases hy; exact ⟨j, hj, rfl⟩
      ·rw [upd_at] at hy; cases hy
     ·split at hy
      ·rw [upd_ne _ _ e] at hy; exact ⟨y, hy, rfl⟩
      ·rw [upd_ne _ _ e] at hy; exact ⟨y, hy, rfl⟩
    have hE := I.edf.run (k := b) (r := j.arr) (pend' := pendS ts.length q (runX ts ss x)) (.inl ⟨hb3, j, hj, rfl⟩) (fun k' r' hp' => ?_) (fun k' r' hp' => ?_)
    ·rw [hrx2] at hE ⊢
     refine ⟨I.up, I.lo, I.len, fun k y hy => ?_, fun i hi => ?_, ?_, I.em, I.ot, hE, hsrc _ _ (by omega), I.stp, I.ini⟩
     ·obtain ⟨y', hy', _⟩ := hsub k y (by rw [hrx2]; exact hy)
      exact I.jin k y' hy'
     ·show TkN _ _ (ojOf (runT ts x.hi x.js b) i) _
      have hT := I.tk i hi
      by_cases e : i = b
      ·subst e
       have e1 : ojOf x.js i = some (j.arr, j.done) := by unfold ojOf; rw [hj]; rfl
       rw [e1] at hT
       rw [fr_same, hrun]
       by_cases h0 : outJ ts x.hi i j = 0
       ·rw [if_pos (.inl h0)]
        have e2 : ojOf (upd x.js i (some { j with done := j.done + 1 })) i = some (j.arr, j.done + 1) := by unfold ojOf; rw [upd_at]; rfl
        rw [e2]
        refine hT.run ?_
        unfold outJ at h0
        split at h0
        ·omega
        ·split at h0
         ·rename_i hc
          unfold budT at hc
          rw [I.lo, if_neg (by simp)] at hc
          exact hc
         ·split at h0 <;> omega
       ·rw [if_neg (by omega)]
        have e2 : ojOf (upd x.js i none) i = none := by unfold ojOf; rw [upd_at]; rfl
        rw [e2]
        exact hT.end_
      ·rw [fr_other h j.arr e]
       have e2 : ojOf (runT ts x.hi x.js b) i = ojOf x.js i := by
        unfold ojOf
        rw [hrun]
        split <;> rw [upd_ne _ _ e]
       rw [e2]; exact hT
     ·rw [fr_other h j.arr (show ts.length ≠ b by omega)]; exact I.sv
    ·rw [hdk b hb3]
     rcases hp' with ⟨hk, j', hj', hr⟩ | ⟨hk, hr⟩
     ·rw [hdk k' hk]
      have hbs := ((best_some hb1).2.2 k' hk (hasJ_some hj')).1
      unfold dueT at hbs
      rw [I.lo, if_neg (by simp), if_neg (by simp), jbAt_some hj, jbAt_some hj'] at hbs
      omega
     ·rw [hk, hdq]
      cases hd : (x.ds q).dueOk with
      | false => rw [ats_of_due I hd] at hr; cases hr
      | true =>
        unfold takesQ at c
        rw [hd, hf] at c
        simp only [Bool.not_true, Bool.false_or, Bool.true_and, decide_eq_true_eq] at c
        cases hl : (x.ds q).bud.ats with
        | nil => rw [hl] at hr; cases hr
        | cons r l =>
          rw [Bud.due_ats hl] at c
          have hfd : fdV ts x.hi x.js = j.arr + (tkAt ts b).v := by
           unfold fdV; rw [hb1]
           show dueT ts x.hi b (jbAt x.js b) = _
           unfold dueT; rw [jbAt_some hj, I.lo, if_neg (by simp)]
          have hst := I.sv.st
          rw [hl] at hst hr
          rcases List.mem_cons.1 hr with e | e
          ·omega
          ·have := (List.pairwise_cons.1 hst).1 r' e; omega
    ·rcases hp' with ⟨hk, y, hy, hr⟩ | ⟨hk, hr⟩
     ·obtain ⟨y', hy', ha⟩ := hsub k' y hy
      exact .inl ⟨hk, y', hy', ha.trans hr⟩
     ·rw [hrx2] at hr; exact .inr ⟨hk, hr⟩
end
end Go.Proofs.YtchbehnkkcjdgaaGreat
namespace Go.Proofs.YtchbehnkkcjdgaaGreat
open Go.RowKit
set_option linter.unusedVariables false
def rest (a b : Int) : Int := if b < 1 then 0 else a % b
theorem divs {a b q r : Int} (hb : 0 < b) (h : r + b * q = a) (h0 : 0 ≤ r) (h1 : r < b) : a / b = q ∧ a % b = r := (Int.ediv_emod_unique hb).2 ⟨h, h0, h1⟩
theorem div_parts (a : Int) {b : Int} (hb : 0 < b) : a % b + b * (a / b) = a ∧ 0 ≤ a % b ∧ a % b < b := (Int.ediv_emod_unique hb).1 ⟨rfl, rfl⟩
theorem div_bd {a b : Int} (hb : 1 ≤ b) (h0 : 0 ≤ a) : 0 ≤ a / b ∧ a / b ≤ a := by
 have := hb; exact ⟨Int.ediv_nonneg h0 (by omega), Int.ediv_le_self _ h0⟩
theorem tneg {a b : Int} (h : a < 0) (hb : 1 ≤ b) : a.tdiv b = -((-a) / b) ∧ a.tmod b = -((-a) % b) := by
 have e : a = -(-a) := by omega
 constructor
 ·conv => lhs; rw [e, Int.neg_tdiv]
  rw [Int.tdiv_eq_ediv_of_nonneg (by omega)]
 ·conv => lhs; rw [e, Int.neg_tmod]
  rw [Int.tmod_eq_emod_of_nonneg (by omega)]
/-- What is left of -a, seen from a. -/
theorem neg_div0 {a b : Int} (hb : 1 ≤ b) (h : (-a) % b = 0) : a / b = -((-a) / b) ∧ a % b = 0 := by
 have p := div_parts (-a) (b := b) (by omega)
 exact divs (by omega) (by rw [Int.mul_neg]; omega) (by omega) (by omega)
theorem neg_div1 {a b : Int} (hb : 1 ≤ b) (h : 0 < (-a) % b) : a / b = -((-a) / b) - 1 ∧ a % b = b - (-a) % b := by
 have p := div_parts (-a) (b := b) (by omega)
 exact divs (by omega) (by rw [Int.mul_sub, Int.mul_neg, Int.mul_one]; omega) (by omega) (by omega)
theorem rest_pos {a b : Int} (hb : 1 ≤ b) : rest a b = a % b := by unfold rest; rw [if_neg (by omega)]
theorem mod_pos' {a b : Int} (hb : 1 ≤ b) : 0 ≤ a % b := Int.emod_nonneg _ (by omega)
theorem mod_lt' {a b : Int} (hb : 1 ≤ b) : a % b < b := Int.emod_lt_of_pos _ (by omega)
theorem rest_n1 {a b : Int} (h : a < 0) (hb : 1 ≤ b) (hi : b ≤ 9223372036854775807) (t : a.tmod b < 0) : a.tmod b + b = rest a b ∧ wrap64 (a.tmod b + b) = rest a b := by
 have f := (tneg h hb).2
 have p := div_parts (-a) (b := b) (by omega)
 have e : a.tmod b + b = rest a b := by
  rw [f] at t
  rw [rest_pos hb, f, (neg_div1 (a := a) hb (by omega)).2]; omega
 refine ⟨e, ?_⟩
 rw [← e]; exact IntWalk.wrap64_in _ (by omega)
theorem rest_n2 {a b : Int} (h : a < 0) (hb : 1 ≤ b) (t : 0 ≤ a.tmod b) : a.tmod b = rest a b := by
 have f := (tneg h hb).2
 have p := div_parts (-a) (b := b) (by omega)
 rw [f] at t
 rw [rest_pos hb, f, (neg_div0 (a := a) hb (by omega)).2]; omega
end Go.Proofs.YtchbehnkkcjdgaaGreat
namespace Go.Proofs.YtchbehnkkcjdgaaGreat
open Go.RowKit
set_option linter.unusedVariables false
/-- x and y are what is left of a and b, somewhere on the way. -/
def OnWay (a b x y : Int) : Prop := Nat.gcd x.toNat y.toNat = Nat.gcd a.toNat b.toNat ∧ 0 ≤ x ∧ 0 ≤ y ∧ x ≤ 9223372036854775807 ∧ y ≤ 9223372036854775807
def gcdI (a b : Int) : Int := if a < 0 ∨ b < 0 then 0 else (Nat.gcd a.toNat b.toNat : Nat)
theorem onWay_next {a b x y : Int} (h : OnWay a b x y) (hy : 1 ≤ y) : OnWay a b y (x % y) := by
 obtain ⟨g, x0, y0, x1, y1⟩ := h
 have m0 := mod_pos' (a := x) hy
 have m1 := mod_lt' (a := x) hy
 refine ⟨?_, y0, m0, y1, by omega⟩
 rw [← g]
 obtain ⟨m, rfl⟩ := Int.eq_ofNat_of_zero_le x0
 obtain ⟨n, rfl⟩ := Int.eq_ofNat_of_zero_le y0
 have e : ((m : Int) % (n : Int)).toNat = m % n := rfl
 rw [e]
 simp only [Int.toNat_natCast]
 rw [Nat.gcd_comm m n, Nat.gcd_rec n m, Nat.gcd_comm]
theorem onWay_end {a b x : Int} (h : OnWay a b x 0) (ha : 0 ≤ a) (hb : 0 ≤ b) : x = gcdI a b := by
 obtain ⟨g, x0, _, _, _⟩ := h
 unfold gcdI
 rw [if_neg (by omega), ← g]
 simp
 omega
theorem gcdI_neg {a b : Int} (h : a < 0 ∨ b < 0) : gcdI a b = 0 := by unfold gcdI; rw [if_pos h]
theorem gcdI_pos {a b : Int} (ha : 0 ≤ a) (hb : 0 ≤ b) : gcdI a b = (Nat.gcd a.toNat b.toNat : Nat) := by unfold gcdI; rw [if_neg (by omega)]
end Go.Proofs.YtchbehnkkcjdgaaGreat
namespace Go.Proofs.YtchbehnkkcjdgaaGreat
open Go.RowKit
set_option linter.unusedVariables false
def fitB (a : Int) : Bool := decide (0 ≤ a ∧ a ≤ 4611686018427387904)
def mulFits (a b : Int) : Bool := fitB a && fitB b && decide (a * b ≤ 4611686018427387904)
def mulTold (a b : Int) : Int := if mulFits a b then a * b else 0
theorem fitB_t {a : Int} (h : fitB a = true) : 0 ≤ a ∧ a ≤ 4611686018427387904 := by simpa [fitB] using h
theorem fitB_f {a : Int} (h : ¬ fitB a = true) : a < 0 ∨ 4611686018427387904 < a := by simp [fitB] at h; omega
theorem mulFits_t {a b : Int} (h : fitB a = true) (k : fitB b = true) (s : a * b ≤ 4611686018427387904) : mulFits a b = true := by
 simp [mulFits, h, k, s]
theorem mulFits_f {a b : Int} (h : fitB a = false ∨ fitB b = false ∨ 4611686018427387904 < a * b) : mulFits a b = false := by
 rcases h with h | h | h <;> simp [mulFits, h]
theorem mulTold_t {a b : Int} (h : mulFits a b = true) : mulTold a b = a * b := by simp [mulTold, h]
theorem mulTold_f {a b : Int} (h : mulFits a b = false) : mulTold a b = 0 := by simp [mulTold, h]
theorem mulFits_in {a b : Int} (h : mulFits a b = true) : (0 ≤ a ∧ a ≤ 4611686018427387904) ∧ (0 ≤ b ∧ b ≤ 4611686018427387904) ∧ a * b ≤ 4611686018427387904 := by
 simp [mulFits, fitB] at h; omega
theorem div_gt {m a b : Int} (h : 0 < a) : m / a < b ↔ m < a * b := by
 rw [Int.ediv_lt_iff_lt_mul h, Int.mul_comm]
/-- One number more. -/
def lcmNext (acc n : Int) : Int := acc / gcdI acc n * n
def lcmRun (acc : Int) : List Int → Option Int
 | [] => some acc
 | n :: r => if n < 1 then none else if mulFits (acc / gcdI acc n) n then lcmRun (lcmNext acc n) r else none
def lcmOk (most : Int) (l : List Int) : Bool := match lcmRun 1 l with | none => false | some n => !decide (most < n)
def lcmV (most : Int) (l : List Int) : Int := match lcmRun 1 l with | none => 0 | some n => if most < n then 0 else n
theorem lcmRun_stop1 {acc n : Int} {l : List Int} (h : n < 1) : lcmRun acc (n :: l) = none := by simp [lcmRun, h]
theorem lcmRun_stop2 {acc n : Int} {l : List Int} (h : mulFits (acc / gcdI acc n) n = false) : lcmRun acc (n :: l) = none := by simp [lcmRun, h]
theorem lcmRun_next {acc n : Int} {l : List Int} (h : 1 ≤ n) (k : mulFits (acc / gcdI acc n) n = true) : lcmRun acc (n :: l) = lcmRun (lcmNext acc n) l := by
 have : ¬ n < 1 := by omega
 simp [lcmRun, this, k]
theorem gcdI_one {acc n : Int} (h : 1 ≤ acc) (k : 1 ≤ n) : 1 ≤ gcdI acc n ∧ gcdI acc n ≤ acc ∧ gcdI acc n ≤ n := by
 rw [gcdI_pos (by omega) (by omega)]
 have h1 := Nat.gcd_le_left n.toNat (show 0 < acc.toNat by omega)
 have h2 := Nat.gcd_le_right acc.toNat (show 0 < n.toNat by omega)
 have h3 := Nat.gcd_pos_of_pos_left n.toNat (show 0 < acc.toNat by omega)
 omega
theorem gcdI_dvd {a b : Int} (h : 0 ≤ a) (k : 0 ≤ b) : gcdI a b ∣ a ∧ gcdI a b ∣ b := by
 rw [gcdI_pos h k]
 obtain ⟨m, rfl⟩ := Int.eq_ofNat_of_zero_le h
 obtain ⟨n, rfl⟩ := Int.eq_ofNat_of_zero_le k
 simp only [Int.toNat_natCast]
 exact ⟨Int.natCast_dvd_natCast.2 (Nat.gcd_dvd_left m n), Int.natCast_dvd_natCast.2 (Nat.gcd_dvd_right m n)⟩
theorem quo_one {acc n : Int} (h : 1 ≤ acc) (k : 1 ≤ n) : 1 ≤ acc / gcdI acc n ∧ acc / gcdI acc n ≤ acc := by
 obtain ⟨g1, g2, g3⟩ := gcdI_one h k
 exact ⟨(Int.le_ediv_iff_mul_le (by omega)).2 (by omega), (div_bd g1 (by omega)).2⟩
theorem lcmNext_one {acc n : Int} (h : 1 ≤ acc) (k : 1 ≤ n) (f : mulFits (acc / gcdI acc n) n = true) : 1 ≤ lcmNext acc n ∧ lcmNext acc n ≤ 4611686018427387904 := by
 refine ⟨?_, (mulFits_in f).2.2⟩
 have := Int.mul_le_mul (quo_one h k).1 k (by omega) (by have := (quo_one h k).1; omega)
 simpa [lcmNext] using this
/-- What was worked out so far divides what comes, and so does the number. -/
theorem lcmNext_dvd {acc n : Int} (h : 1 ≤ acc) (k : 1 ≤ n) : acc ∣ lcmNext acc n ∧ n ∣ lcmNext acc n := by
 obtain ⟨d1, d2⟩ := gcdI_dvd (show 0 ≤ acc by omega) (show 0 ≤ n by omega)
 refine ⟨?_, Int.dvd_mul_left _ _⟩
 obtain ⟨c, hc⟩ := d2
 obtain ⟨g1, _, _⟩ := gcdI_one h k
 have e : acc / gcdI acc n * gcdI acc n = acc := Int.ediv_mul_cancel d1
 have : lcmNext acc n = acc * c := by
  unfold lcmNext
  conv => lhs; rhs; rw [hc]
  rw [← Int.mul_assoc, e]
 exact ⟨c, this⟩
theorem lcmRun_all : ∀ (l : List Int) (acc n : Int), 1 ≤ acc → acc ≤ 4611686018427387904 → lcmRun acc l = some n → 1 ≤ n ∧ n ≤ 4611686018427387904 ∧ acc ∣ n ∧ ∀ x ∈ l, 1 ≤ x ∧ x ∣ n
 | [], acc, n, h, h2, e => by
   simp [lcmRun] at e; subst e; exact ⟨h, h2, Int.dvd_refl _, by simp⟩
 | x :: r, acc, n, h, h2, e => by
   by_cases k : x < 1
   ·rw [lcmRun_stop1 k] at e; cases e
   ·have k1 : 1 ≤ x := by omega
    cases f : mulFits (acc / gcdI acc x) x with
    | false => rw [lcmRun_stop2 f] at e; cases e
    | true =>
      rw [lcmRun_next k1 f] at e
      obtain ⟨a, b⟩ := lcmNext_one h k1 f
      obtain ⟨q1, q2, q3, q4⟩ := lcmRun_all r _ n a b e
      obtain ⟨d1, d2⟩ := lcmNext_dvd h k1
      refine ⟨q1, q2, Int.dvd_trans d1 q3, fun y hy => ?_⟩
      rcases List.mem_cons.1 hy with rfl | hy
      ·exact ⟨k1, Int.dvd_trans d2 q3⟩
      ·exact q4 y hy
theorem lcm_end_none {most : Int} {l : List Int} (h : lcmRun 1 l = none) : lcmV most l = 0 ∧ lcmOk most l = false := by simp [lcmV, lcmOk, h]
theorem lcm_end_over {most n : Int} {l : List Int} (h : lcmRun 1 l = some n) (k : most < n) : lcmV most l = 0 ∧ lcmOk most l = false := by simp [lcmV, lcmOk, h, k]
theorem lcm_end_in {most n : Int} {l : List Int} (h : lcmRun 1 l = some n) (k : ¬ most < n) : lcmV most l = n ∧ lcmOk most l = true := by simp [lcmV, lcmOk, h, k]
theorem drop_at {l : List Int} {k : Nat} (h : k < l.length) : l.drop k = l.getD k 0 :: l.drop (k + 1) := by
 rw [List.drop_eq_getElem_cons h]; simp [h]
theorem drop_end {l : List Int} {k : Nat} (h : l.length ≤ k) : l.drop k = [] := List.drop_of_length_le h
end Go.Proofs.YtchbehnkkcjdgaaGreat
namespace Go.Proofs.YtchbehnkkcjdgaaGreat
set_option linter.unusedVariables false
def periodsV (p : Pt) : List Int := (p.ts.filter okTk).map (·.t) ++ (p.ss.filter okSv).map (·.t)
def hyperV (F : Int) (p : Pt) : Int := lcmV 65536 (F :: periodsV p)
def hyperOk (F : Int) (p : Pt) : Bool := lcmOk 65536 (F :: periodsV p)
def mostI (a : Int) (l : List Int) : Int := l.foldl max a
def farV (p : Pt) : Int := mostI (mostI 1 ((p.ts.filter okTk).map (·.d))) ((p.ss.filter okSv).map (·.t))
def boundOk (F : Int) (p : Pt) : Bool := hyperOk F p && decide (hyperV F p + farV p ≤ 65536)
def boundV (F : Int) (p : Pt) : Int := if boundOk F p then hyperV F p + farV p else 0
theorem mostI_le : ∀ (l : List Int) (a : Int), a ≤ mostI a l ∧ ∀ x ∈ l, x ≤ mostI a l
 | [], a => ⟨Int.le_refl _, by simp⟩
 | y :: l, a => by
   obtain ⟨h1, h2⟩ := mostI_le l (max a y)
   have e : mostI a (y :: l) = mostI (max a y) l := rfl
   rw [e]
   refine ⟨by omega, fun x hx => ?_⟩
   rcases List.mem_cons.1 hx with rfl | hx
   ·omega
   ·exact h2 x hx
theorem mostI_bd {B : Int} : ∀ (l : List Int) (a : Int), a ≤ B → (∀ x ∈ l, x ≤ B) → mostI a l ≤ B
 | [], a, h, _ => h
 | y :: l, a, h, k => by
   have e : mostI a (y :: l) = mostI (max a y) l := rfl
   rw [e]
   exact mostI_bd l _ (by have := k y (by simp); omega) fun x hx => k x (by simp [hx])
theorem mostI_snoc (l : List Int) (a y : Int) : mostI a (l ++ [y]) = max (mostI a l) y := by simp [mostI]
theorem farV_bd (p : Pt) : 1 ≤ farV p ∧ farV p ≤ 1000 := by
 unfold farV
 constructor
 ·exact Int.le_trans (mostI_le _ 1).1 (mostI_le _ _).1
 ·refine mostI_bd _ _ (mostI_bd _ _ (by omega) fun x hx => ?_) fun x hx => ?_
  ·obtain ⟨k, hk, rfl⟩ := List.mem_map.1 hx
   have := okTk_t (List.mem_filter.1 hk).2
   omega
  ·obtain ⟨s, hs, rfl⟩ := List.mem_map.1 hx
   have := okSv_t (List.mem_filter.1 hs).2
   omega
theorem far_task {p : Pt} {k : Tk} (hk : k ∈ p.ts) (h : okTk k = true) : k.d ≤ farV p :=
 Int.le_trans ((mostI_le _ 1).2 _ (List.mem_map.2 ⟨k, List.mem_filter.2 ⟨hk, h⟩, rfl⟩)) (mostI_le _ _).1
theorem far_serv {p : Pt} {s : Sv} (hs : s ∈ p.ss) (h : okSv s = true) : s.t ≤ farV p :=
 (mostI_le _ _).2 _ (List.mem_map.2 ⟨s, List.mem_filter.2 ⟨hs, h⟩, rfl⟩)
theorem lcm_ok' {most : Int} {l : List Int} (h : lcmOk most l = true) : ∃ n, lcmRun 1 l = some n ∧ n ≤ most ∧ lcmV most l = n := by
 cases e : lcmRun 1 l with
 | none => rw [(lcm_end_none e).2] at h; cases h
 | some n =>
   by_cases k : most < n
   ·rw [(lcm_end_over e k).2] at h; cases h
   ·exact ⟨n, rfl, by omega, (lcm_end_in e k).1⟩
theorem hyper_ok {F : Int} {p : Pt} (h : hyperOk F p = true) : 1 ≤ hyperV F p ∧ hyperV F p ≤ 65536 ∧ (1 ≤ F ∧ F ∣ hyperV F p) ∧ (∀ k ∈ p.ts, okTk k = true → k.t ∣ hyperV F p) ∧ ∀ s ∈ p.ss, okSv s = true → s.t ∣ hyperV F p := by
 obtain ⟨n, h1, h2, h3⟩ := lcm_ok' h
 obtain ⟨g1, g2, g3, g4⟩ := lcmRun_all _ 1 n (by omega) (by omega) h1
 have e : hyperV F p = n := h3
 rw [e]
 refine ⟨g1, h2, g4 F (by simp), fun k hk ho => (g4 _ ?_).2, fun s hs ho => (g4 _ ?_).2⟩
 ·exact List.mem_cons_of_mem _ (List.mem_append.2 (.inl (List.mem_map.2 ⟨k, List.mem_filter.2 ⟨hk, ho⟩, rfl⟩)))
 ·exact List.mem_cons_of_mem _ (List.mem_append.2 (.inr (List.mem_map.2 ⟨s, List.mem_filter.2 ⟨hs, ho⟩, rfl⟩)))
theorem hyper_no {F : Int} {p : Pt} (h : hyperOk F p = false) : hyperV F p = 0 := by
 unfold hyperOk at h
 unfold hyperV
 cases e : lcmRun 1 (F :: periodsV p) with
 | none => exact (lcm_end_none e).1
 | some n =>
   by_cases k : 65536 < n
   ·exact (lcm_end_over e k).1
   ·rw [(lcm_end_in e k).2] at h; cases h
/-- What a round more brings. -/
def rateTk (n : Int) (high : Bool) (k : Tk) : Int := if okTk k = false ∨ (high = true ∧ k.hi = false) then 0 else n / k.t * (if high then k.top else k.lo)
def rateSv (n : Int) (s : Sv) : Int := if okSv s = false then 0 else n / s.t * s.c
def rateV (n : Int) (p : Pt) (high : Bool) : Int := sumI (p.ts.map (rateTk (cutT n) high)) + (if high then 0 else sumI (p.ss.map (rateSv (cutT n))))
theorem times {g : Int → Int} {T c a : Int} (h : ∀ t, a ≤ t → g (t + T) = g t + c) (hT : 0 ≤ T) : ∀ (m : Nat) (t : Int), a ≤ t → g (t + m * T) = g t + m * c
 | 0, t, ht => by simp
 | m + 1, t, ht => by
   have h0 : 0 ≤ (m : Int) * T := Int.mul_nonneg (by omega) hT
   have h1 := times h hT m t ht
   have h2 := h (t + m * T) (by omega)
   rw [show (((m + 1 : Nat) : Int)) * T = m * T + T by rw [Int.natCast_add, Int.add_mul]; simp, ← Int.add_assoc, h2, h1, show (((m + 1 : Nat) : Int)) * c = m * c + c by rw [Int.natCast_add, Int.add_mul]; simp]
   omega
theorem rounds {g : Int → Int} {T c a h : Int} (hg : ∀ t, a ≤ t → g (t + T) = g t + c) (hT : 1 ≤ T) (hh : 0 ≤ h) (hd : T ∣ h) (t : Int) (ht : a ≤ t) : g (t + h) = g t + h / T * c := by
 obtain ⟨q, rfl⟩ := hd
 have hq : 0 ≤ q := by
  rcases Int.lt_or_le q 0 with g | g
  ·have := Int.mul_neg_of_pos_of_neg (show 0 < T by omega) g; omega
  ·exact g
 have e : T * q / T = q := Int.mul_ediv_cancel_left _ (by omega)
 rw [e]
 have := times hg (by omega) q.toNat t ht
 rw [Int.toNat_of_nonneg hq] at this
 rw [Int.mul_comm T q, this]
theorem sum_more {α : Type} {f g r : α → Int} : ∀ (l : List α), (∀ x ∈ l, f x = g x + r x) → sumI (l.map f) = sumI (l.map g) + sumI (l.map r) := by
 intro l
 have key : ∀ (n : Nat) (l : List α), l.length = n → (∀ x ∈ l, f x = g x + r x) → sumI (l.map f) = sumI (l.map g) + sumI (l.map r) := by
  intro n
  induction n with
  | zero => intro l hl _; rw [List.eq_nil_of_length_eq_zero hl]; rfl
  | succ n ih =>
    intro l hl h
    have hne : l ≠ [] := by intro e; subst e; cases hl
    obtain ⟨ys, y, rfl⟩ : ∃ ys y, l = ys ++ [y] := ⟨l.dropLast, l.getLast hne, (List.dropLast_concat_getLast hne).symm⟩
    have h1 := ih ys (by simpa using hl) fun x hx => h x (by simp [hx])
    have h2 := h y (by simp)
    simp only [List.map_append, List.map_cons, List.map_nil, sumI_snoc]
    omega
 exact key _ l rfl
theorem low_round {p : Pt} {h t : Int} (h0 : 0 ≤ h) (ht : farV p ≤ t) (hb : t + h ≤ 1099511627776) (d1 : ∀ k ∈ p.ts, okTk k = true → k.t ∣ h) (d2 : ∀ s ∈ p.ss, okSv s = true → s.t ∣ h) : lowV p (t + h) = lowV p t + rateV h p false := by
 have hf := farV_bd p
 have c1 : cutT (t + h) = t + h := cutT_of (by omega) hb
 have c2 : cutT t = t := cutT_of (by omega) (by omega)
 have c3 : cutT h = h := cutT_of h0 (by omega)
 unfold lowV rateV
 rw [c3]
 rw [sum_more (g := fun k => ofV k t false) (r := rateTk h false) p.ts fun k hk => ?_, sum_more (g := fun s => servV s t) (r := rateSv h) p.ss fun s hs => ?_]
 ·simp only [Bool.false_eq_true, if_false]; omega
 ·unfold servV rateSv
  rw [c1, c2]
  cases ho : okSv s with
  | false => simp
  | true =>
    have q := okSv_t ho
    have := rounds (g := servAt s) (T := s.t) (c := s.c) (a := s.t) (fun u hu => servAt_period ho hu) (by omega) h0 (d2 s hs ho) t (Int.le_trans (far_serv hs ho) ht)
    simpa using this
 ·unfold ofV rateTk
  rw [c1, c2]
  cases ho : okTk k with
  | false => simp
  | true =>
    have q := okTk_t ho
    have := rounds (g := lowAt k) (T := k.t) (c := k.lo) (a := k.v) (fun u hu => lowAt_period ho hu) (by omega) h0 (d1 k hk ho) t (by have := far_task hk ho; omega)
    simpa using this
end Go.Proofs.YtchbehnkkcjdgaaGreat
namespace Go.Proofs.YtchbehnkkcjdgaaGreat
open Go.ChangeShapes Go.WideShapes Go.ChangeAt Go.RowKit
set_option linter.unusedVariables false
def Bud.Srv (s : Sv) (ak now g : Int) : Bud → Prop
 | .c b => SrC s.c s.t ak now b g
 | .r b => SrR s.c s.t ak now b g
def Bud.SrvM (s : Sv) (ak now g : Int) : Bud → Prop
 | .c b => SrD s.c s.t ak now b g
 | .r b => SrR s.c s.t ak (now + 1) b g
section
variable {s : Sv} {b : Bud} {fr : List Int} {ak now g : Int}
theorem mem_ats_c {b : Bd} {x : Wn} (hx : x ∈ b.live) : x.at_ ∈ (Bud.c b).ats := List.mem_map.2 ⟨x, hx, rfl⟩
theorem mem_ats_r {b : Rd} {x : Bk} (hx : x ∈ b.live) : x.at_ ∈ (Bud.r b).ats := List.mem_map.2 ⟨x, hx, rfl⟩
theorem Srv.start (hS : SvN s (now - 1) (now - 1) b fr) (ho : okSv s = true) (h0 : b.ats = []) : b.Srv s now now 0 := by
 have o := okSv_t ho
 have hn := hS.nv
 cases b with
 | c b => exact SrC.start hn.1 (by omega) (List.map_eq_nil_iff.1 h0)
 | r b => exact SrR.start (List.map_eq_nil_iff.1 h0)
theorem Srv.go (h : b.Srv s ak now g) (hS : SvN s (now - 1) (now - 1) b fr) (ho : okSv s = true) (hst : b.stp = false) (hak : 0 ≤ ak) (hn : ak ≤ now) (hin : now = 0 → b = Bud.new s 0) (hnl : ∀ z ∈ b.ats, now < z + s.t) : (b.go s 0 now true).SrvM s ak now g := by
 have o := okSv_t ho
 have hnv := hS.nv
 cases b with
 | c b => exact SrC.go h hnv.1 (by omega) hn hst
 | r b =>
   obtain ⟨ok, nv, hnw⟩ := hnv
   obtain ⟨g1, g2, g3, g4⟩ := SrR.go h ok (by omega) (by omega) hst hak hnw (fun e => by
    have := hin e
    unfold Bud.new at this
    split at this
    ·cases this; rfl
    ·cases this) (fun x hx => hnl _ (mem_ats_r hx))
   have h : SrR s.c s.t ak now b g := h
   exact ⟨g1, fun _ => g2, g4, h.g0, by omega⟩
theorem SrvM.use (h : b.SrvM s ak now g) (hS : SvN s now now b fr) (ho : okSv s = true) {r : Int} {l : List Int} (hl : b.ats = r :: l) (hnl : now < r + s.t) : (b.use s).SrvM s ak now (g + 1) := by
 have o := okSv_t ho
 have hnv := hS.nv
 cases b with
 | c b =>
   have hl : b.live.map (·.at_) = r :: l := hl
   cases hb : b.live with
   | nil => rw [hb] at hl; cases hl
   | cons y m =>
     rw [hb] at hl
     simp only [List.map_cons, List.cons.injEq] at hl
     exact SrD.use h hnv.1 (by omega) hb (by rw [hl.1]; exact hnl)
 | r b =>
   have hl : b.live.map (·.at_) = r :: l := hl
   cases hb : b.live with
   | nil => rw [hb] at hl; cases hl
   | cons y m => exact SrR.use h hb
theorem SrvM.over (h : b.SrvM s ak now g) (hS : SvN s now now b fr) (ho : okSv s = true) (hn : ak ≤ now) (hnl : ∀ z ∈ b.ats, now + 1 < z + s.t) : b.Srv s ak (now + 1) g := by
 have o := okSv_t ho
 have hnv := hS.nv
 cases b with
 | c b => exact SrD.over h hnv.1 (by omega) (fun x hx => (hS.le _ (mem_ats_c hx)).2) (fun x hx => hnl _ (mem_ats_c hx)) hn
 | r b => exact h
theorem Srv.got (h : b.Srv s ak now g) (hS : SvN s (now - 1) (now - 1) b fr) (ho : okSv s = true) (hnl : ∀ z ∈ b.ats, now < z + s.t) {k : Nat} (hk : 1 ≤ k) (hn : ak + ((k : Int) + 1) * s.t < now) : (k : Int) * s.c ≤ g := by
 have o := okSv_t ho
 have hnv := hS.nv
 cases b with
 | c b => exact SrC.got h (by omega) (fun x hx => hnl _ (mem_ats_c hx)) hk hn
 | r b => exact SrR.got h hnv.1 (by omega) hn
end
/-- What is asked of a partition: its demand is never more than the time. -/
structure Fit (ts : List Tk) (ss : List Sv) (p : Pt) : Prop where
 pt : p.ts = ts
 ps : p.ss = ss
 tk : ∀ k ∈ ts, okTk k = true
 sv : ∀ s ∈ ss, okSv s = true
 fit : ∀ t : Int, 0 ≤ t → t ≤ 1099511627776 → lowV p t ≤ t
section
variable {ts : List Tk} {ss : List Sv} {q : Nat} {x : Px} {L : Int} {h : Hs} {p : Pt}
/-- No chunk is late. -/
theorem SvI.late (I : SvI ts ss q x L h) (F : Fit ts ss p) (hq : q < ss.length) (hlen : h.length ≤ 1000000) : ∀ z ∈ (x.ds q).bud.ats, (h.length : Int) < z + (svAt ss q).t := by
 cases hl : (x.ds q).bud.ats with
 | nil => intro z hz; cases hz
 | cons r l =>
   have h1 := no_late I.edf I.src F.pt F.ps F.tk F.sv hq I.tk I.sv F.fit hlen hl (.inr ⟨rfl, by rw [hl]; exact List.mem_cons_self⟩)
   intro z hz
   have hst := I.sv.st
   rw [hl] at hst
   rcases List.mem_cons.1 hz with e | e
   ·rw [e]; exact h1
   ·have := (List.pairwise_cons.1 hst).1 z e; omega
/-- A request that came at ak is pending, ahead of now's Begin. -/
structure Pnd (ss : List Sv) (q : Nat) (x : Px) (ak work now id : Int) : Prop where
 one : ∃ l, (x.ds q).q = [l] ∧ 1 ≤ l ∧ l ≤ work ∧ (x.ds q).bud.Srv (svAt ss q) ak now (work - l)
 first : (x.ds q).first = id
 ak0 : 0 ≤ ak ∧ ak ≤ now
theorem Pnd.start (I : SvI ts ss q x L h) (F : Fit ts ss p) (hq : q < ss.length) {now work : Int} (hL : L = now - 1) (h0 : 0 ≤ now) (hw : 1 ≤ work ∧ work ≤ 1048576) (he : (x.ds q).q = []) : reqE ss x q work = 0 ∧ Pnd ss q (reqX ss x q work) now work now (x.ds q).first := by
 have hok : okSv (svAt ss q) = true := by rw [svAt_eq hq]; exact F.sv _ (List.getElem_mem hq)
 have hr : (x.ds q).room = true := by unfold Dk.room; rw [he]; rfl
 have hE : reqE ss x q work = 0 := by
  unfold reqE
  rw [if_pos I.up, if_pos (by rw [hasS_of hq]; simp [workOk]; omega), Int.toNat_natCast, if_pos hr]
 subst hL
 refine ⟨hE, ?_⟩
 have e : (reqX ss x q work).ds q = ⟨(x.ds q).bud, [work], (x.ds q).first⟩ := by
  unfold reqX
  rw [if_pos hE, Int.toNat_natCast]
  show updD x.ds q _ q = _
  unfold updD
  rw [if_pos rfl]
  unfold Dk.take
  rw [if_pos hr, he]; rfl
 refine ⟨⟨work, by rw [e], hw.1, Int.le_refl _, ?_⟩, by rw [e], h0, Int.le_refl _⟩
 rw [e, Int.sub_self]
 exact Srv.start I.sv hok (I.em he)
theorem Pnd.arr {ak work now id : Int} (P : Pnd ss q x ak work now id) {a t w done : Int} {ops : List Wn} : Pnd ss q (arrX ts x a t w done ops) ak work now id := by
 unfold arrX; split <;> exact ⟨P.one, P.first, P.ak0⟩
theorem arr_desk {a t w done : Int} {ops : List Wn} : (arrX ts x a t w done ops).ds = x.ds := by unfold arrX; split <;> rfl
theorem beg_desk {now : Int} (I : SvI ts ss q x L h) : (begX ts ss 0 x now).ds = fun i => (x.ds i).go (svAt ss i) 0 now := by
 unfold begX
 rw [if_pos I.up, (set_low (ts := ts) (show (misX ts x now).hi = false from I.lo)).1]
 rfl
/-- A whole tick. -/
theorem SvI.tick {now : Int} (I : SvI ts ss q x (now - 1) h) (F : Fit ts ss p) (hq : q < ss.length) (hn : now = h.length) (hlen : h.length ≤ 1000) :
 (⟨3, 0, 0⟩ : Wn) ∈ runE ts ss (begX ts ss 0 x now) ∨ ∃ e, SvI ts ss q (runX ts ss (begX ts ss 0 x now)) now (h ++ [e]) ∧
   ((x.ds q).q = [] → ((runX ts ss (begX ts ss 0 x now)).ds q).q = [] ∧ ((runX ts ss (begX ts ss 0 x now)).ds q).first = (x.ds q).first ∧ ∀ ev ∈ runE ts ss (begX ts ss 0 x now), ev.at_ ≠ 6) ∧
   ∀ ak work id, Pnd ss q x ak work now id → (∀ ev ∈ runE ts ss (begX ts ss 0 x now), ev.at_ = 6 → ev = ⟨6, q, id⟩) ∧
    (((⟨6, q, id⟩ : Wn) ∈ runE ts ss (begX ts ss 0 x now) ∧ ((runX ts ss (begX ts ss 0 x now)).ds q).q = [] ∧ ((runX ts ss (begX ts ss 0 x now)).ds q).first = id + 1) ∨
      ((⟨6, q, id⟩ : Wn) ∉ runE ts ss (begX ts ss 0 x now) ∧ Pnd ss q (runX ts ss (begX ts ss 0 x now)) ak work (now + 1) id)) := by
 have hok : okSv (svAt ss q) = true := by rw [svAt_eq hq]; exact F.sv _ (List.getElem_mem hq)
 have J := I.beg F.sv hq hn (by omega)
 have hds : (begX ts ss 0 x now).ds q = (x.ds q).go (svAt ss q) 0 now := by rw [beg_desk I]
 have hla := I.late F hq (by omega)
 have hlb := J.late F hq (by omega)
 rcases J.run F.sv hq hn with hr | ⟨e, K, hk⟩
 ·exact .inl hr
 right
 refine ⟨e, K, fun he => ?_, fun ak work id P => ?_⟩
 ·have he2 : ((begX ts ss 0 x now).ds q).q = [] := by rw [hds]; exact he
  cases hk with
  | ran h1 => exact absurd he2 h1
  | not h1 h2 => exact ⟨by rw [h1]; exact he2, by rw [h1, hds]; rfl, h2⟩
 ·have hlk := K.late F hq (by rw [List.length_append]; simp; omega)
  rw [List.length_append] at hlk
  simp only [List.length_cons, List.length_nil] at hlk
  obtain ⟨l, q1, q2, q3, q4⟩ := P.one
  have hbz : (x.ds q).busy = true := by unfold Dk.busy; rw [q1]; rfl
  have hM : ((begX ts ss 0 x now).ds q).bud.SrvM (svAt ss q) ak now (work - l) := by
   rw [hds]
   show ((x.ds q).bud.go (svAt ss q) 0 now (x.ds q).busy).SrvM _ _ _ _
   rw [hbz]
   exact Srv.go q4 I.sv hok I.stp P.ak0.1 P.ak0.2 (fun e => I.ini (by omega)) (fun z hz => by have := hla z hz; omega)
  have hq2 : ((begX ts ss 0 x now).ds q).q = [l] := by rw [hds]; exact q1
  have hf2 : ((begX ts ss 0 x now).ds q).first = id := by rw [hds]; exact P.first
  cases hk with
  | ran h1 hl he hd =>
    rename_i r m
    have hr : now < r + (svAt ss q).t := by have := hlb r (by rw [hl]; exact List.mem_cons_self); omega
    have hU := SrvM.use hM J.sv hok hl hr
    have hends : ((begX ts ss 0 x now).ds q).ends = decide (l - 1 ≤ 0) := by unfold Dk.ends; rw [hq2]; rfl
    by_cases h2 : l - 1 ≤ 0
    ·have hE : runE ts ss (begX ts ss 0 x now) = [⟨6, q, id⟩] := by
      rw [he]; unfold runSE; rw [hends, decide_eq_true h2, if_pos rfl, hf2]
     have hsv : (runX ts ss (begX ts ss 0 x now)).ds q = ⟨((((begX ts ss 0 x now).ds q).bud.use (svAt ss q)).done (svAt ss q)), [], id + 1⟩ := by
      rw [hd]
      unfold Dk.serve
      rw [hends, decide_eq_true h2, if_pos rfl, hq2, List.tail_cons, if_pos rfl, hf2]
     refine ⟨fun ev hev _ => ?_, .inl ⟨by rw [hE]; exact List.mem_cons_self, by rw [hsv], by rw [hsv]⟩⟩
     rw [hE] at hev
     exact List.mem_singleton.1 hev
    ·have hE : runE ts ss (begX ts ss 0 x now) = [] := by
      rw [he]; unfold runSE; rw [hends, decide_eq_false h2, if_neg (by simp)]
     have hsv : (runX ts ss (begX ts ss 0 x now)).ds q = ⟨((begX ts ss 0 x now).ds q).bud.use (svAt ss q), [l - 1], id⟩ := by
      rw [hd]
      unfold Dk.serve
      rw [hends, decide_eq_false h2, if_neg (by simp), hq2, hf2]; rfl
     refine ⟨fun ev hev _ => (by rw [hE] at hev; cases hev), .inr ⟨(by rw [hE]; intro hc; cases hc), ⟨⟨l - 1, by rw [hsv], by omega, by omega, ?_⟩, by rw [hsv], P.ak0.1, by have := P.ak0.2; omega⟩⟩⟩
     rw [hsv]
     have hKs := K.sv
     rw [hsv] at hKs hlk
     dsimp only at hKs hlk ⊢
     rw [show work - (l - 1) = work - l + 1 by omega]
     exact SrvM.over hU hKs hok P.ak0.2 (fun z hz => by have := hlk z hz; omega)
  | not hd hev =>
    refine ⟨fun ev hv h6 => absurd h6 (hev ev hv), .inr ⟨fun hc => hev _ hc rfl, ⟨⟨l, by rw [hd]; exact hq2, q2, q3, ?_⟩, by rw [hd]; exact hf2, P.ak0.1, by have := P.ak0.2; omega⟩⟩⟩
    have hKs := K.sv
    rw [hd] at hKs hlk ⊢
    exact SrvM.over hM hKs hok P.ak0.2 (fun z hz => by have := hlk z hz; omega)
/-- In time. -/
theorem Pnd.in_time {ak work now id : Int} (P : Pnd ss q x ak work now id) (I : SvI ts ss q x (now - 1) h) (F : Fit ts ss p) (hq : q < ss.length) (hn : now = h.length) (hlen : h.length ≤ 1000) : ¬ (svAt ss q).t * ((work + (svAt ss q).c - 1) / (svAt ss q).c + 1) < now - ak := by
 intro hc
 have hok : okSv (svAt ss q) = true := by rw [svAt_eq hq]; exact F.sv _ (List.getElem_mem hq)
 have o := okSv_t hok
 obtain ⟨l, q1, q2, q3, q4⟩ := P.one
 obtain ⟨c, hcc⟩ : ∃ c, c = (svAt ss q).c := ⟨_, rfl⟩
 obtain ⟨T, hTT⟩ : ∃ T, T = (svAt ss q).t := ⟨_, rfl⟩
 rw [← hcc, ← hTT] at hc o
 have hk0 : 1 ≤ (work + c - 1) / c := by
  rw [Int.le_ediv_iff_mul_le (by omega)]; omega
 obtain ⟨k, hk⟩ : ∃ k : Nat, (k : Int) = (work + c - 1) / c := ⟨((work + c - 1) / c).toNat, by omega⟩
 have hw : work ≤ (k : Int) * c := by
  have g1 := Int.emod_lt_of_pos (work + c - 1) (show 0 < c by omega)
  have g2 := Int.emod_add_mul_ediv (work + c - 1) c
  rw [← hk, Int.mul_comm] at g2
  omega
 have hla := I.late F hq (by omega)
 rw [← hk] at hc
 have := Srv.got q4 I.sv hok (fun z hz => by have := hla z hz; omega) (k := k) (by omega) (by rw [← hTT, Int.mul_comm]; omega)
 rw [← hcc] at this
 omega
end
/-- If it fits as far as one must look, and a round asks for no more than itself, it fits for ever. -/
theorem fit_all {p : Pt} (hb : boundOk 1 p = true) (h1 : ∀ t : Int, 0 ≤ t → t < boundV 1 p → lowV p t ≤ t) (h2 : rateV (hyperV 1 p) p false ≤ hyperV 1 p) : ∀ t : Int, 0 ≤ t → t ≤ 1099511627776 → lowV p t ≤ t := by
 have hb' := hb
 unfold boundOk at hb'
 rw [Bool.and_eq_true] at hb'
 obtain ⟨a1, a2, a3, a4, a5⟩ := hyper_ok hb'.1
 have hf := farV_bd p
 have hbv : boundV 1 p = hyperV 1 p + farV p := by unfold boundV; rw [if_pos hb]
 have key : ∀ n : Nat, ∀ t : Int, 0 ≤ t → t ≤ n → t ≤ 1099511627776 → lowV p t ≤ t := by
  intro n
  induction n with
  | zero => intro t h0 hn hm; exact h1 t h0 (by omega)
  | succ n ih =>
    intro t h0 hn hm
    by_cases hlt : t < boundV 1 p
    ·exact h1 t h0 hlt
    ·have e := low_round (p := p) (h := hyperV 1 p) (t := t - hyperV 1 p) (by omega) (by omega) (by omega) a4 a5
     rw [show t - hyperV 1 p + hyperV 1 p = t by omega] at e
     have := ih (t - hyperV 1 p) (by omega) (by omega) (by omega)
     omega
 exact fun t h0 hm => key t.toNat t h0 (by omega) hm
end Go.Proofs.YtchbehnkkcjdgaaGreat
namespace Go.Proofs.YtchbehnkkcjdgaaGreat
set_option linter.unusedVariables false
/-- What g tells of those of the first k that c takes. -/
def gath {α : Type} (c : α → Bool) (g : α → Int) (xs : List α) (k : Nat) : List Int := ((xs.take k).filter c).map g
theorem gath_zero {α : Type} (c : α → Bool) (g : α → Int) (xs : List α) : gath c g xs 0 = [] := rfl
theorem gath_yes {α : Type} {c : α → Bool} {g : α → Int} {xs : List α} {k : Nat} {x : α} (h : xs[k]? = some x) (hc : c x = true) : gath c g xs (k + 1) = gath c g xs k ++ [g x] := by
 unfold gath; rw [List.take_add_one, h]; simp [List.filter_append, hc]
theorem gath_no {α : Type} {c : α → Bool} {g : α → Int} {xs : List α} {k : Nat} {x : α} (h : xs[k]? = some x) (hc : c x = false) : gath c g xs (k + 1) = gath c g xs k := by
 unfold gath; rw [List.take_add_one, h]; simp [List.filter_append, hc]
theorem gath_end {α : Type} {c : α → Bool} {g : α → Int} {xs : List α} {k : Nat} (h : xs.length ≤ k) : gath c g xs k = (xs.filter c).map g := by
 unfold gath; rw [List.take_of_length_le h]
theorem gath_len {α : Type} (c : α → Bool) (g : α → Int) (xs : List α) (k : Nat) : (gath c g xs k).length ≤ k := by
 unfold gath
 rw [List.length_map]
 exact Nat.le_trans (List.length_filter_le _ _) (by rw [List.length_take]; omega)
theorem lcmNext_nat {acc n : Int} (h : 1 ≤ acc) (k : 1 ≤ n) : lcmNext acc n = ((Nat.lcm acc.toNat n.toNat : Nat) : Int) := by
 obtain ⟨a, rfl⟩ := Int.eq_ofNat_of_zero_le (show 0 ≤ acc by omega)
 obtain ⟨b, rfl⟩ := Int.eq_ofNat_of_zero_le (show 0 ≤ n by omega)
 unfold lcmNext
 rw [gcdI_pos (by omega) (by omega)]
 simp only [Int.toNat_natCast]
 rw [← Int.natCast_ediv, ← Int.natCast_mul]
 congr 1
 exact Nat.div_mul_right_comm (Nat.gcd_dvd_left a b) b
theorem lcmNext_least {acc n M : Int} (h : 1 ≤ acc) (k : 1 ≤ n) (hM : 1 ≤ M) (d1 : acc ∣ M) (d2 : n ∣ M) : lcmNext acc n ∣ M := by
 rw [lcmNext_nat h k]
 obtain ⟨a, rfl⟩ := Int.eq_ofNat_of_zero_le (show 0 ≤ acc by omega)
 obtain ⟨b, rfl⟩ := Int.eq_ofNat_of_zero_le (show 0 ≤ n by omega)
 obtain ⟨m, rfl⟩ := Int.eq_ofNat_of_zero_le (show 0 ≤ M by omega)
 simp only [Int.toNat_natCast]
 exact Int.natCast_dvd_natCast.2 (Nat.lcm_dvd (Int.natCast_dvd_natCast.1 d1) (Int.natCast_dvd_natCast.1 d2))
theorem fits_of_le {acc n : Int} (h : 1 ≤ acc) (k : 1 ≤ n) (hb : lcmNext acc n ≤ 4611686018427387904) : mulFits (acc / gcdI acc n) n = true := by
 obtain ⟨q1, q2⟩ := quo_one h k
 have e : acc / gcdI acc n * n = lcmNext acc n := rfl
 have m1 := Int.mul_le_mul_of_nonneg_left k (show 0 ≤ acc / gcdI acc n by omega)
 have m2 := Int.mul_le_mul_of_nonneg_right q1 (show 0 ≤ n by omega)
 rw [Int.mul_one, e] at m1
 rw [Int.one_mul, e] at m2
 exact mulFits_t (by unfold fitB; simp; omega) (by unfold fitB; simp; omega) (by rw [e]; exact hb)
theorem lcmRun_least : ∀ (l : List Int) (acc n M : Int), 1 ≤ acc → 1 ≤ M → acc ∣ M → (∀ x ∈ l, 1 ≤ x ∧ x ∣ M) → lcmRun acc l = some n → n ∣ M
 | [], acc, n, M, h, hM, d, _, e => by simp [lcmRun] at e; subst e; exact d
 | x :: r, acc, n, M, h, hM, d, hx, e => by
   obtain ⟨x1, x2⟩ := hx x (by simp)
   cases f : mulFits (acc / gcdI acc x) x with
   | false => rw [lcmRun_stop2 f] at e; cases e
   | true =>
     rw [lcmRun_next x1 f] at e
     exact lcmRun_least r _ n M (lcmNext_one h x1 f).1 hM (lcmNext_least h x1 hM d x2) (fun y hy => hx y (by simp [hy])) e
theorem lcmRun_some : ∀ (l : List Int) (acc M : Int), 1 ≤ acc → 1 ≤ M → M ≤ 4611686018427387904 → acc ∣ M → (∀ x ∈ l, 1 ≤ x ∧ x ∣ M) → ∃ n, lcmRun acc l = some n
 | [], acc, M, h, hM, hM2, d, _ => ⟨acc, rfl⟩
 | x :: r, acc, M, h, hM, hM2, d, hx => by
   obtain ⟨x1, x2⟩ := hx x (by simp)
   have d3 := lcmNext_least h x1 hM d x2
   have f := fits_of_le h x1 (by have := Int.le_of_dvd (by omega) d3; omega)
   obtain ⟨n, hn⟩ := lcmRun_some r _ M (lcmNext_one h x1 f).1 hM hM2 d3 (fun y hy => hx y (by simp [hy]))
   exact ⟨n, by rw [lcmRun_next x1 f, hn]⟩
theorem lcm_half {l l' : List Int} (h : ∀ x, x ∈ l ↔ x ∈ l') (ho : lcmOk 65536 l = true) : lcmOk 65536 l' = true ∧ lcmV 65536 l' = lcmV 65536 l := by
 obtain ⟨n, h1, h2, h3⟩ := lcm_ok' ho
 obtain ⟨g1, g2, g3, g4⟩ := lcmRun_all _ 1 n (by omega) (by omega) h1
 obtain ⟨n', hn'⟩ := lcmRun_some l' 1 n (by omega) g1 g2 (Int.one_dvd _) fun x hx => g4 x ((h x).2 hx)
 obtain ⟨k1, k2, k3, k4⟩ := lcmRun_all _ 1 n' (by omega) (by omega) hn'
 have d1 : n' ∣ n := lcmRun_least l' 1 n' n (by omega) g1 (Int.one_dvd _) (fun x hx => g4 x ((h x).2 hx)) hn'
 have d2 : n ∣ n' := lcmRun_least l 1 n n' (by omega) k1 (Int.one_dvd _) (fun x hx => k4 x ((h x).1 hx)) h1
 have e : n' = n := by
  have := Int.le_of_dvd (by omega) d1
  have := Int.le_of_dvd (by omega) d2
  omega
 subst e
 obtain ⟨a, b⟩ := lcm_end_in (most := 65536) hn' (by omega)
 exact ⟨b, by rw [a, h3]⟩
theorem lcm_no {most : Int} {l : List Int} (h : lcmOk most l = false) : lcmV most l = 0 := by
 cases e : lcmRun 1 l with
 | none => exact (lcm_end_none e).1
 | some n =>
   by_cases k : most < n
   ·exact (lcm_end_over e k).1
   ·rw [(lcm_end_in e k).2] at h; cases h
/-- The order of the periods is of no matter. -/
theorem lcm_same {l l' : List Int} (h : ∀ x, x ∈ l ↔ x ∈ l') : lcmV 65536 l = lcmV 65536 l' ∧ lcmOk 65536 l = lcmOk 65536 l' := by
 cases h1 : lcmOk 65536 l with
 | true => obtain ⟨a, b⟩ := lcm_half h h1; exact ⟨b.symm, a.symm⟩
 | false =>
   cases h2 : lcmOk 65536 l' with
   | true => obtain ⟨a, b⟩ := lcm_half (fun x => (h x).symm) h2; rw [a] at h1; cases h1
   | false => exact ⟨by rw [lcm_no h1, lcm_no h2], rfl⟩
theorem hyper_last (F : Int) (p : Pt) : lcmV 65536 (periodsV p ++ [F]) = hyperV F p ∧ lcmOk 65536 (periodsV p ++ [F]) = hyperOk F p :=
 lcm_same fun x => by simp [or_comm]
def farsV (p : Pt) : List Int := (p.ts.filter okTk).map Tk.d ++ (p.ss.filter okSv).map Sv.t
theorem fars_most (p : Pt) : mostI 1 (farsV p) = farV p := by unfold farsV farV mostI; rw [List.foldl_append]
theorem periods_in {p : Pt} {x : Int} (h : x ∈ periodsV p) : 1 ≤ x ∧ x ≤ 1000 := by
 rcases List.mem_append.1 h with h | h
 ·obtain ⟨k, hk, rfl⟩ := List.mem_map.1 h
  have := okTk_t (List.mem_filter.1 hk).2
  omega
 ·obtain ⟨s, hs, rfl⟩ := List.mem_map.1 h
  have := okSv_t (List.mem_filter.1 hs).2
  omega
theorem hyper_bd (F : Int) (p : Pt) : 0 ≤ hyperV F p ∧ hyperV F p ≤ 65536 := by
 cases h : hyperOk F p with
 | true => have := hyper_ok h; omega
 | false => rw [hyper_no h]; omega
theorem bound_ok {F : Int} {p : Pt} (h : boundOk F p = true) : hyperOk F p = true ∧ hyperV F p + farV p ≤ 65536 ∧ boundV F p = hyperV F p + farV p := by
 have e : boundV F p = hyperV F p + farV p := by unfold boundV; rw [if_pos h]
 unfold boundOk at h
 rw [Bool.and_eq_true, decide_eq_true_eq] at h
 exact ⟨h.1, h.2, e⟩
theorem bound_no {F : Int} {p : Pt} (h : boundOk F p = false) : boundV F p = 0 ∧ (hyperOk F p = false ∨ 65536 < hyperV F p + farV p) := by
 refine ⟨by unfold boundV; rw [h]; rfl, ?_⟩
 unfold boundOk at h
 rw [Bool.and_eq_false_iff, decide_eq_false_iff_not] at h
 rcases h with h | h
 ·exact .inl h
 ·exact .inr (by omega)
theorem sum_gath {α : Type} {c : α → Bool} {g f : α → Int} (h1 : ∀ x, c x = true → f x = g x) (h0 : ∀ x, c x = false → f x = 0) (xs : List α) : sumI ((xs.filter c).map g) = sumI (xs.map f) := by
 have key : ∀ (n : Nat) (l : List α), l.length = n → sumI ((l.filter c).map g) = sumI (l.map f) := by
  intro n
  induction n with
  | zero => intro l hl; rw [List.eq_nil_of_length_eq_zero hl]; rfl
  | succ n ih =>
    intro l hl
    have hne : l ≠ [] := by intro e; subst e; cases hl
    obtain ⟨ys, y, rfl⟩ : ∃ ys y, l = ys ++ [y] := ⟨l.dropLast, l.getLast hne, (List.dropLast_concat_getLast hne).symm⟩
    have h2 := ih ys (by simpa using hl)
    cases hc : c y with
    | true => simp only [List.filter_append, List.map_append, List.map_cons, List.map_nil, List.filter_cons, hc, if_true, List.filter_nil, sumI_snoc, h2, h1 y hc]
    | false => simp only [List.filter_append, List.map_append, List.map_cons, List.map_nil, List.filter_cons, hc, Bool.false_eq_true, if_false, List.filter_nil, List.append_nil, sumI_snoc, h2, h0 y hc, Int.add_zero]
 exact key _ xs rfl
end Go.Proofs.YtchbehnkkcjdgaaGreat
