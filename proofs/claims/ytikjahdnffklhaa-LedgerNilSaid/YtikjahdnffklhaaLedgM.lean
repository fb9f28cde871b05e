/- Plain facts of a ledger: what may be charged, what is told. -/
import Derived.Test.YtikjahdnffklhaaSumN
namespace Go.Proofs.Ytikjahdnffklhaa
open Go.ChangeShapes Go.WideShapes Go.ChangeAt Go.RowKit
set_option linter.unusedVariables false

/-- May it be charged? -/
def okC (n k p q : Int) : Bool := decide (0 ≤ k ∧ k ≤ 4) && (decide (k = 4) || (decide (0 ≤ p ∧ p < n) && (decide (k ≠ 1) || decide (0 ≤ q ∧ q < n ∧ q ≠ p))))
theorem okC_iff (n k p q : Int) : okC n k p q = true ↔ (0 ≤ k ∧ k ≤ 4) ∧ (k = 4 ∨ ((0 ≤ p ∧ p < n) ∧ (k ≠ 1 ∨ (0 ≤ q ∧ q < n ∧ q ≠ p)))) := by
  unfold okC; simp
theorem okC_t {n k p q : Int} (h : (0 ≤ k ∧ k ≤ 4) ∧ (k = 4 ∨ ((0 ≤ p ∧ p < n) ∧ (k ≠ 1 ∨ (0 ≤ q ∧ q < n ∧ q ≠ p))))) : okC n k p q = true := (okC_iff n k p q).2 h
theorem okC_f {n k p q : Int} (h : ¬ ((0 ≤ k ∧ k ≤ 4) ∧ (k = 4 ∨ ((0 ≤ p ∧ p < n) ∧ (k ≠ 1 ∨ (0 ≤ q ∧ q < n ∧ q ≠ p)))))) : okC n k p q = false := by
  cases e : okC n k p q with
  | false => rfl
  | true => exact absurd ((okC_iff n k p q).1 e) h
/-- What is charged: kind, giver, taker. -/
def entC (k p q : Int) : Wn := if k = 4 then ⟨4, -1, -1⟩ else ⟨k, p, if k = 1 then q else -1⟩
def chV (n : Int) (L : List Wn) (k p q : Int) : List Wn := if okC n k p q = true then L ++ [entC k p q] else L
def errV (n k p q : Int) : Int := if okC n k p q = true then 0 else 1
theorem ch_yes {n : Int} {L : List Wn} {k p q : Int} (h : okC n k p q = true) : chV n L k p q = L ++ [entC k p q] ∧ errV n k p q = 0 := ⟨if_pos h, if_pos h⟩
theorem ch_no {n : Int} {L : List Wn} {k p q : Int} (h : okC n k p q = false) : chV n L k p q = L ∧ errV n k p q = 1 := ⟨if_neg (by simp [h]), if_neg (by simp [h])⟩
theorem ch_len (n : Int) (L : List Wn) (k p q : Int) : (chV n L k p q).length ≤ L.length + 1 := by unfold chV; split <;> simp
/-- A tick as it stands in a ledger of n. -/
def EntOk (n : Int) (x : Wn) : Prop := okC n x.at_ x.len x.part = true ∧ entC x.at_ x.len x.part = x
theorem entC_ok {n k p q : Int} (h : okC n k p q = true) : EntOk n (entC k p q) := by
  have h1 := (okC_iff n k p q).1 h
  unfold EntOk
  by_cases h4 : k = 4
  · subst h4
    rw [show entC 4 p q = ⟨4, -1, -1⟩ from if_pos rfl]
    exact ⟨okC_t ⟨by decide, .inl rfl⟩, rfl⟩
  · have e : entC k p q = ⟨k, p, if k = 1 then q else -1⟩ := if_neg h4
    rw [e]
    refine ⟨okC_t ⟨h1.1, .inr ⟨by rcases h1.2 with h | h; exact absurd h h4; exact h.1, ?_⟩⟩, ?_⟩
    · by_cases h5 : k = 1
      · right
        rcases h1.2 with h | h
        · exact absurd h h4
        · rcases h.2 with h | h
          · exact absurd h5 h
          · simp only [if_pos h5]; exact h
      · left; exact h5
    · show entC k p _ = _
      unfold entC
      rw [if_neg h4]
      by_cases h5 : k = 1
      · simp [h5]
      · simp [h5]
theorem ch_ok {n : Int} {L : List Wn} {k p q : Int} (h : ∀ x ∈ L, EntOk n x) : ∀ x ∈ chV n L k p q, EntOk n x := by
  cases e : okC n k p q with
  | false => rw [(ch_no e).1]; exact h
  | true =>
    rw [(ch_yes e).1]
    intro x hx
    rcases List.mem_append.1 hx with h1 | h1
    · exact h x h1
    · rw [List.mem_singleton.1 h1]; exact entC_ok e
/-- How many are of a kind, of p, to q (-2: of any). -/
def cntB (k p q : Int) (x : Wn) : Bool := (x.at_ == k) && ((p == -2) || (x.len == p)) && ((q == -2) || (x.part == q))
def cntV (L : List Wn) (k p q : Int) : Nat := (L.filter (cntB k p q)).length
theorem cntV_le (L : List Wn) (k p q : Int) : cntV L k p q ≤ L.length := List.length_filter_le _ _
theorem cntV_cons (x : Wn) (L : List Wn) (k p q : Int) : cntV (x :: L) k p q = (if cntB k p q x = true then 1 else 0) + cntV L k p q := by
  unfold cntV
  rw [List.filter_cons]
  split <;> simp <;> omega
theorem cntV_snoc (L : List Wn) (x : Wn) (k p q : Int) : cntV (L ++ [x]) k p q = cntV L k p q + (if cntB k p q x = true then 1 else 0) := by
  unfold cntV
  rw [List.filter_append, List.length_append, List.filter_cons]
  split <;> simp
def ofV (L : List Wn) (k p : Int) : Int := if 0 ≤ p ∧ 0 ≤ k ∧ k < 4 then (cntV L k p (-2) : Nat) else 0
def gotV (L : List Wn) (p : Int) : Int := if 0 ≤ p then (cntV L 1 (-2) p : Nat) else 0
def gaveV (L : List Wn) (p q : Int) : Int := if 0 ≤ p ∧ 0 ≤ q then (cntV L 1 p q : Nat) else 0
theorem ofV_nat (L : List Wn) (k p : Nat) (h : k < 4) : ofV L k p = (cntV L k p (-2) : Nat) := if_pos (by omega)
theorem gotV_nat (L : List Wn) (p : Nat) : gotV L p = (cntV L 1 (-2) p : Nat) := if_pos (by omega)
theorem gaveV_nat (L : List Wn) (p q : Nat) : gaveV L p q = (cntV L 1 p q : Nat) := if_pos (by omega)
theorem cntB_pq (k p q : Nat) (x : Wn) : cntB k p q x = true ↔ x.at_ = k ∧ x.len = p ∧ x.part = q := by
  unfold cntB; simp; omega
theorem cntB_p (k p : Nat) (x : Wn) : cntB k p (-2) x = true ↔ x.at_ = k ∧ x.len = p := by
  unfold cntB; simp
theorem cntB_q (k q : Nat) (x : Wn) : cntB k (-2) q x = true ↔ x.at_ = k ∧ x.part = q := by
  unfold cntB; simp
theorem cntB_one (p q : Nat) (x : Wn) : cntB 1 p q x = true ↔ x.at_ = 1 ∧ x.len = p ∧ x.part = q := by
  have := cntB_pq 1 p q x; simpa using this
theorem cntB_oneP (p : Nat) (x : Wn) : cntB 1 p (-2) x = true ↔ x.at_ = 1 ∧ x.len = p := by
  have := cntB_p 1 p x; simpa using this
theorem cntB_oneQ (q : Nat) (x : Wn) : cntB 1 (-2) q x = true ↔ x.at_ = 1 ∧ x.part = q := by
  have := cntB_q 1 q x; simpa using this
/-- How many gaps. -/
def gapsV (L : List Wn) : Nat := (L.filter (fun x => x.at_ == 4)).length
theorem gapsV_cons (x : Wn) (L : List Wn) : gapsV (x :: L) = (if x.at_ = 4 then 1 else 0) + gapsV L := by
  unfold gapsV
  rw [List.filter_cons]
  by_cases h : x.at_ = 4
  · simp [h]; omega
  · simp [h]
theorem gapsV_snoc (L : List Wn) (x : Wn) : gapsV (L ++ [x]) = gapsV L + (if x.at_ = 4 then 1 else 0) := by
  unfold gapsV
  rw [List.filter_append, List.length_append, List.filter_cons]
  by_cases h : x.at_ = 4
  · simp [h]
  · simp [h]
theorem gapsV_le (L : List Wn) : gapsV L ≤ L.length := List.length_filter_le _ _
theorem ent_at {k p q : Int} : (entC k p q).at_ = k := by unfold entC; split <;> simp_all
/-- All kinds of one partition. -/
def colV (L : List Wn) (p : Nat) : Nat := sumN (fun k => cntV L k p (-2)) 4
theorem ent_ins {n : Int} {x : Wn} (hn : n ≤ 6) (h : EntOk n x) : (x.at_ = 4 ∨ (0 ≤ x.at_ ∧ x.at_ < 4 ∧ 0 ≤ x.len ∧ x.len < 6 ∧ (x.at_ = 1 → 0 ≤ x.part ∧ x.part < 6 ∧ x.part ≠ x.len))) := by
  have := (okC_iff n _ _ _).1 h.1
  omega
theorem ind_one {c : Int} {P : Nat → Prop} [∀ i, Decidable (P i)] {b : Prop} [Decidable b] (hP : ∀ i : Nat, P i ↔ b ∧ c = (i : Int)) (k : Nat) : sumN (fun i => if P i then 1 else 0) k = if b ∧ 0 ≤ c ∧ c < (k : Int) then 1 else 0 := by
  by_cases hb : b
  · rw [sumN_congr (g := fun i => if c = (i : Int) then 1 else 0) (fun i _ => by
      by_cases h : c = (i : Int)
      · rw [if_pos ((hP i).2 ⟨hb, h⟩), if_pos h]
      · rw [if_neg (fun h2 => h ((hP i).1 h2).2), if_neg h]), sumN_one]
    by_cases h : 0 ≤ c ∧ c < (k : Int)
    · rw [if_pos h, if_pos ⟨hb, h⟩]
    · rw [if_neg h, if_neg (fun h2 => h h2.2)]
  · rw [sumN_congr (g := fun _ => 0) (fun i _ => if_neg (fun h2 => hb ((hP i).1 h2).1)), sumN_zero, if_neg (fun h2 => hb h2.1)]
theorem col_cons (x : Wn) (L : List Wn) (p : Nat) : colV (x :: L) p = (if (0 ≤ x.at_ ∧ x.at_ < 4) ∧ x.len = (p : Int) then 1 else 0) + colV L p := by
  unfold colV
  rw [sumN_congr (g := fun k => (if cntB k p (-2) x = true then 1 else 0) + cntV L k p (-2)) (fun k _ => cntV_cons x L k p (-2)), sumN_add]
  congr 1
  rw [ind_one (c := x.at_) (b := x.len = (p : Int)) (fun i => by rw [cntB_p]; exact ⟨fun h => ⟨h.2, h.1⟩, fun h => ⟨h.2, h.1⟩⟩)]
  by_cases h : (0 ≤ x.at_ ∧ x.at_ < 4) ∧ x.len = (p : Int)
  · rw [if_pos h, if_pos ⟨h.2, h.1.1, h.1.2⟩]
  · rw [if_neg h, if_neg (fun h2 => h ⟨⟨h2.2.1, h2.2.2⟩, h2.1⟩)]
/-- All ticks are all kinds of all partitions, and the gaps. -/
theorem once_all {n : Int} (hn : n ≤ 6) : ∀ L : List Wn, (∀ x ∈ L, EntOk n x) → gapsV L + sumN (colV L) 6 = L.length
  | [], _ => rfl
  | x :: L, h => by
    have ih := once_all hn L (fun y hy => h y (List.mem_cons_of_mem _ hy))
    have hx := ent_ins hn (h x (List.mem_cons_self ..))
    rw [gapsV_cons, sumN_congr (fun p _ => col_cons x L p), sumN_add, ind_one (c := x.len) (b := 0 ≤ x.at_ ∧ x.at_ < 4) (fun i => Iff.rfl), List.length_cons]
    by_cases h4 : x.at_ = 4
    · rw [if_pos h4, if_neg (by omega)]; omega
    · rw [if_neg h4, if_pos (by omega)]; omega
/-- What p gave to each is what p gave. -/
theorem once_row {n : Int} (hn : n ≤ 6) (p : Nat) : ∀ L : List Wn, (∀ x ∈ L, EntOk n x) → sumN (fun q => cntV L 1 p q) 6 = cntV L 1 p (-2)
  | [], _ => rfl
  | x :: L, h => by
    have ih := once_row hn p L (fun y hy => h y (List.mem_cons_of_mem _ hy))
    have hx := ent_ins hn (h x (List.mem_cons_self ..))
    rw [sumN_congr (g := fun q => (if cntB 1 p q x = true then 1 else 0) + cntV L 1 p q) (fun q _ => cntV_cons x L 1 p q), sumN_add, ih, cntV_cons]
    congr 1
    rw [ind_one (c := x.part) (b := x.at_ = 1 ∧ x.len = (p : Int)) (fun i => by rw [cntB_one]; exact ⟨fun h => ⟨⟨h.1, h.2.1⟩, h.2.2⟩, fun h => ⟨h.1.1, h.1.2, h.2⟩⟩)]
    by_cases h1 : x.at_ = 1 ∧ x.len = (p : Int)
    · rw [if_pos ⟨h1, by omega⟩, if_pos ((cntB_oneP p x).2 h1)]
    · rw [if_neg (fun h2 => h1 h2.1), if_neg (fun h2 => h1 ((cntB_oneP p x).1 h2))]
theorem once_self {n : Int} (hn : n ≤ 6) (p : Nat) : ∀ L : List Wn, (∀ x ∈ L, EntOk n x) → cntV L 1 p p = 0
  | [], _ => rfl
  | x :: L, h => by
    have ih := once_self hn p L (fun y hy => h y (List.mem_cons_of_mem _ hy))
    have hx := ent_ins hn (h x (List.mem_cons_self ..))
    rw [cntV_cons, ih, if_neg (fun h2 => by have := (cntB_one p p x).1 h2; omega)]
/-- What all gave is what all got. -/
theorem once_gave {n : Int} (hn : n ≤ 6) : ∀ L : List Wn, (∀ x ∈ L, EntOk n x) → sumN (fun p => cntV L 1 p (-2)) 6 = sumN (fun p => cntV L 1 (-2) p) 6
  | [], _ => rfl
  | x :: L, h => by
    have ih := once_gave hn L (fun y hy => h y (List.mem_cons_of_mem _ hy))
    have hx := ent_ins hn (h x (List.mem_cons_self ..))
    rw [sumN_congr (g := fun p => (if cntB 1 p (-2) x = true then 1 else 0) + cntV L 1 p (-2)) (fun p _ => cntV_cons x L 1 p (-2)), sumN_add, ih, sumN_congr (f := fun p => cntV (x :: L) 1 (-2) p) (g := fun p => (if cntB 1 (-2) p x = true then 1 else 0) + cntV L 1 (-2) p) (fun p _ => cntV_cons x L 1 (-2) p), sumN_add,
      ind_one (c := x.len) (b := x.at_ = 1) (fun i => cntB_oneP i x), ind_one (c := x.part) (b := x.at_ = 1) (fun i => cntB_oneQ i x)]
    congr 1
    by_cases h1 : x.at_ = 1
    · rw [if_pos ⟨h1, by omega⟩, if_pos ⟨h1, by omega⟩]
    · rw [if_neg (fun h2 => h1 h2.1), if_neg (fun h2 => h1 h2.1)]
end Go.Proofs.Ytikjahdnffklhaa
