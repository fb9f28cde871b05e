/- Who gets a tick: no program in it. -/
import Derived.Test.YtmkohnpdpcefgaaValidM
import Derived.Test.YtmkohnpdpcefgaaFrameT
namespace Go.Proofs.Ytmkohnpdpcefgaa
set_option linter.unusedVariables false

/-- Is a partition ready? -/
def rdyV (rs : List Bool) (p : Int) : Bool := if 0 ≤ p then rs.getD p.toNat false else false
theorem rdyV_nat (rs : List Bool) (k : Nat) : rdyV rs (k : Int) = rs.getD k false := by unfold rdyV; rw [if_pos (by omega), Int.toNat_natCast]
theorem rdyV_neg {rs : List Bool} {p : Int} (h : p < 0) : rdyV rs p = false := by unfold rdyV; rw [if_neg (by omega)]
theorem rdyV_out {rs : List Bool} {p : Int} (h : (rs.length : Int) ≤ p) : rdyV rs p = false := by
  unfold rdyV
  rw [if_pos (by omega), List.getD_eq_getElem?_getD, List.getElem?_eq_none (by omega)]; rfl
theorem rdyV_at {rs : List Bool} {k : Nat} {b : Bool} (h : rs[k]? = some b) : rdyV rs (k : Int) = b := by rw [rdyV_nat, List.getD_eq_getElem?_getD, h]; rfl
/-- A partition's donees. -/
def donV (ps : List Pt) (p : Int) : List Int := if 0 ≤ p then (ps.getD p.toNat noPt).ds else []
theorem donV_at {ps : List Pt} {k : Nat} {x : Pt} (h : ps[k]? = some x) : donV ps (k : Int) = x.ds := by
  unfold donV
  rw [if_pos (by omega), Int.toNat_natCast, List.getD_eq_getElem?_getD, h]; rfl
theorem donV_out {ps : List Pt} {p : Int} (h : ¬ (0 ≤ p ∧ p < (ps.length : Int))) : donV ps p = [] := by
  unfold donV
  split
  · rw [List.getD_eq_getElem?_getD, List.getElem?_eq_none (by omega)]; rfl
  · rfl
/-- Who gets an open tick. -/
def openV (ds : List Int) (rs : List Bool) (o : Int) : Int × Int × Int :=
  if rdyV rs o = true then (0, o, o) else match ds.find? (rdyV rs) with
    | some p => (1, o, p)
    | none => (2, o, -1)
theorem openV_own {ds : List Int} {rs : List Bool} {o : Int} (h : rdyV rs o = true) : openV ds rs o = (0, o, o) := by unfold openV; rw [if_pos h]
theorem openV_given {ds : List Int} {rs : List Bool} {o : Int} (h : rdyV rs o = false) {k : Nat} {p : Int} (hp : ds[k]? = some p) (hr : rdyV rs p = true) (hn : ∀ (j : Nat) (q : Int), j < k → ds[j]? = some q → rdyV rs q = false) : openV ds rs o = (1, o, p) := by
  unfold openV
  rw [if_neg (by rw [h]; simp)]
  have : ds.find? (rdyV rs) = some p := by
    rw [List.find?_eq_some_iff_append]
    have hk := (List.getElem?_eq_some_iff.1 hp).1
    refine ⟨hr, ds.take k, ds.drop (k + 1), ?_, fun q hq => ?_⟩
    · rw [← drop_cons hp, List.take_append_drop]
    · obtain ⟨j, hj, rfl⟩ := List.getElem_of_mem hq
      rw [List.length_take] at hj
      rw [List.getElem_take, hn j _ (by omega) (List.getElem?_eq_getElem (by omega))]; rfl
  rw [this]
theorem openV_lost {ds : List Int} {rs : List Bool} {o : Int} (h : rdyV rs o = false) (hn : ∀ (j : Nat) (q : Int), ds[j]? = some q → rdyV rs q = false) : openV ds rs o = (2, o, -1) := by
  unfold openV
  rw [if_neg (by rw [h]; simp)]
  have : ds.find? (rdyV rs) = none := by
    rw [List.find?_eq_none]
    intro q hq
    obtain ⟨j, hj, rfl⟩ := List.getElem_of_mem hq
    rw [hn j _ (List.getElem?_eq_getElem hj)]; simp
  rw [this]
/-- Who gets a tick. -/
def choV (F : Nat) (c : Cf) (rs : List Bool) (t : Int) : Int × Int × Int :=
  if (owner F c.margin c.ws t).2 = 2 then openV (donV c.ps (owner F c.margin c.ws t).1) rs (owner F c.margin c.ws t).1 else
  if (owner F c.margin c.ws t).2 = 1 then (3, (owner F c.margin c.ws t).1, -1) else (4, -1, -1)
theorem badW_parts {F : Int} {pn : Nat} : ∀ {l : List Wn} {a : Int} {i : Nat}, badW F pn a l i = none → ∀ x ∈ l, 0 ≤ x.part ∧ x.part < (pn : Int)
  | [], a, i, h => fun x hx => by cases hx
  | y :: l, a, i, h => by
    unfold badW at h
    split at h
    · rename_i hy
      have hy' : a ≤ y.at_ ∧ y.at_ < F ∧ 1 ≤ y.len ∧ y.len ≤ F - y.at_ ∧ 0 ≤ y.part ∧ y.part < (pn : Int) := of_decide_eq_true hy
      intro x hx
      rcases List.mem_cons.1 hx with rfl | hx
      · exact hy'.2.2.2.2
      · exact badW_parts h x hx
    · cases h
theorem own_cases {m : Int} : ∀ {l : List Wn} {t : Int}, ownAt m l t = (-1, 0) ∨ ∃ x ∈ l, (ownAt m l t).1 = x.part ∧ ((ownAt m l t).2 = 1 ∨ (ownAt m l t).2 = 2)
  | [], t => .inl rfl
  | x :: l, t => by
    unfold ownAt
    by_cases h : x.at_ ≤ t ∧ t - x.at_ < x.len
    · rw [if_pos h]
      refine .inr ⟨x, by simp, rfl, ?_⟩
      simp only
      split
      · exact .inl rfl
      · exact .inr rfl
    · rw [if_neg h]
      rcases own_cases (m := m) (l := l) (t := t) with h1 | ⟨y, hy, h1⟩
      · exact .inl h1
      · exact .inr ⟨y, by simp [hy], h1⟩
/-- Of a system that may be: a tick is a gap, or of a partition. -/
theorem owner_ok {c : Cf} (h : (checkV c).1 = 0) (F : Nat) (t : Int) : owner F c.margin c.ws t = (-1, 0) ∨ ∃ k : Nat, k < c.ps.length ∧ (owner F c.margin c.ws t = ((k : Int), 1) ∨ owner F c.margin c.ws t = ((k : Int), 2)) := by
  obtain ⟨h1, h2, h3, h4, h5⟩ := (check_iff c).1 h
  unfold winV at h3
  split at h3
  · cases h3
  rcases own_cases (m := c.margin) (l := c.ws) (t := t % F) with h6 | ⟨x, hx, h6, h7⟩
  · exact .inl h6
  · have hp := badW_parts h3 x hx
    refine .inr ⟨x.part.toNat, by omega, ?_⟩
    unfold owner
    rcases h7 with h7 | h7
    · exact .inl (Prod.ext (by rw [h6]; show x.part = _; omega) h7)
    · exact .inr (Prod.ext (by rw [h6]; show x.part = _; omega) h7)
/-- Donees are partitions. -/
theorem don_ok {c : Cf} (h : (checkV c).1 = 0) {k : Nat} {x : Pt} (hx : c.ps[k]? = some x) : x.ds.length < c.ps.length ∧ ∀ d ∈ x.ds, 0 ≤ d ∧ d < (c.ps.length : Int) := by
  obtain ⟨h1, h2, h3, h4, h5⟩ := (check_iff c).1 h
  have h6 := h4 k x hx
  unfold okPt at h6
  rw [Bool.and_eq_true] at h6
  have h7 := of_decide_eq_true h6.2
  refine ⟨?_, fun d hd => h7.2 d (by simp [hd])⟩
  by_cases hl : x.ds.length < c.ps.length
  · exact hl
  · have := namesB_long (pn := c.ps.length) (p := (k : Int)) (l := x.ds) (by omega)
    rw [this] at h6; exact absurd h6.2 (by simp)
theorem far_ok {c : Cf} (h : (checkV c).1 = 0) : c.ps.length ≤ 6 ∧ 1 ≤ c.ps.length := by
  obtain ⟨h1, h2, h3, h4, h5⟩ := (check_iff c).1 h
  exact ⟨h2.2, h2.1⟩
end Go.Proofs.Ytmkohnpdpcefgaa
