/- Plain facts of a police: what is accepted, what is told. -/
import Derived.Test.YtchbehnkkcjdgaaGreatBase
namespace Go.Proofs.YtchbehnkkcjdgaaGreat
open Go.ChangeShapes Go.WideShapes Go.ChangeAt Go.RowKit
set_option linter.unusedVariables false

def tkAt (ts : List Tk) (i : Nat) : Tk := ts.getD i ⟨false, 0, 0, 0, 0, 0⟩
theorem tkAt_eq {ts : List Tk} {i : Nat} (h : i < ts.length) : tkAt ts i = ts[i] := by unfold tkAt; rw [List.getD_eq_getElem?_getD, List.getElem?_eq_getElem h]; rfl
def laAt (la : List Int) (i : Nat) : Int := la.getD i (-1)
theorem laAt_eq {la : List Int} {i : Nat} (h : i < la.length) : laAt la i = la[i] := by unfold laAt; rw [List.getD_eq_getElem?_getD, List.getElem?_eq_getElem h]; rfl
def inT (ts : List Tk) (t : Int) : Bool := decide (0 ≤ t) && decide (t < (ts.length : Int))
theorem inT_t {ts : List Tk} {i : Nat} (h : i < ts.length) : inT ts i = true := by unfold inT; rw [decide_eq_true (by omega), decide_eq_true (by omega)]; rfl
theorem inT_nat {ts : List Tk} {t : Int} (h : inT ts t = true) : ∃ i : Nat, t = i ∧ i < ts.length := by
  simp only [inT, Bool.and_eq_true, decide_eq_true_eq] at h
  exact ⟨t.toNat, by omega, by omega⟩
theorem inT_f {ts : List Tk} {t : Int} (h : inT ts t = false) : t < 0 ∨ (0 ≤ t ∧ (ts.length : Int) ≤ t) := by
  simp only [inT, Bool.and_eq_false_iff, decide_eq_false_iff_not] at h
  omega
def dropV (ts : List Tk) (hi : Bool) (t : Int) : Bool := inT ts t && (hi && !(tkAt ts t.toNat).hi)
theorem dropV_nat {ts : List Tk} {hi : Bool} {i : Nat} (h : i < ts.length) : dropV ts hi i = (hi && !(tkAt ts i).hi) := by unfold dropV; rw [inT_t h]; simp
def nowOk (now : Int) : Bool := decide (0 ≤ now) && decide (now ≤ 4611686018427387904)
def errP (ts : List Tk) (la : List Int) (hi : Bool) (t now : Int) : Int :=
  if inT ts t && nowOk now then (if dropV ts hi t then 42 else if decide (0 ≤ laAt la t.toNat) && decide (now - laAt la t.toNat < (tkAt ts t.toNat).t) then 40 else 0) else 1
theorem errP_arg {ts : List Tk} {la : List Int} {hi : Bool} {t now : Int} (h : inT ts t = false ∨ nowOk now = false) : errP ts la hi t now = 1 := by
  unfold errP; rcases h with h | h <;> simp [h]
theorem errP_drop {ts : List Tk} {la : List Int} {hi : Bool} {t now : Int} (h : inT ts t = true) (h1 : nowOk now = true) (h2 : dropV ts hi t = true) : errP ts la hi t now = 42 := by
  unfold errP; simp [h, h1, h2]
theorem errP_soon {ts : List Tk} {la : List Int} {hi : Bool} {i : Nat} {now : Int} (h : i < ts.length) (h1 : nowOk now = true) (h2 : dropV ts hi i = false) (h3 : 0 ≤ laAt la i) (h4 : now - laAt la i < (tkAt ts i).t) : errP ts la hi i now = 40 := by
  unfold errP; simp [inT_t h, h1, h2, h3, h4]
theorem errP_ok {ts : List Tk} {la : List Int} {hi : Bool} {i : Nat} {now : Int} (h : i < ts.length) (h1 : nowOk now = true) (h2 : dropV ts hi i = false) (h3 : 0 ≤ laAt la i → ¬ now - laAt la i < (tkAt ts i).t) : errP ts la hi i now = 0 := by
  unfold errP
  by_cases h0 : 0 ≤ laAt la i
  · have := h3 h0; simp [inT_t h, h1, h2, h0, this]
  · simp [inT_t h, h1, h2, h0]
theorem errP_zero {ts : List Tk} {la : List Int} {hi : Bool} {t now : Int} (h : errP ts la hi t now = 0) : inT ts t = true ∧ nowOk now = true := by
  unfold errP at h
  split at h
  · rename_i h1; simpa using h1
  · cases h
def takL (ts : List Tk) (la : List Int) (hi : Bool) (t now : Int) : List Int := if errP ts la hi t now = 0 then la.set t.toNat now else la
def wasV (ts : List Tk) (la : List Int) (t : Int) : Bool := inT ts t && decide (0 ≤ laAt la t.toNat)
def lastV (ts : List Tk) (la : List Int) (t : Int) : Int := if wasV ts la t = true then laAt la t.toNat else 0
def okN (ts : List Tk) : Bool := decide (ts.length ≤ 6) && ts.all okTk
/-- When each was accepted last, or never. -/
structure LaOk (ts : List Tk) (la : List Int) : Prop where
  len : la.length = ts.length
  bd : ∀ x ∈ la, -1 ≤ x ∧ x ≤ 4611686018427387904
theorem LaOk.take {ts : List Tk} {la : List Int} (h : LaOk ts la) (hi : Bool) (t now : Int) : LaOk ts (takL ts la hi t now) := by
  unfold takL
  split
  · rename_i h0
    have h1 := (errP_zero h0).2
    simp only [nowOk, Bool.and_eq_true, decide_eq_true_eq] at h1
    refine ⟨by rw [List.length_set]; exact h.len, fun x hx => ?_⟩
    rcases List.mem_or_eq_of_mem_set hx with h2 | h2
    · exact h.bd x h2
    · omega
  · exact h
theorem LaOk.at_ {ts : List Tk} {la : List Int} (h : LaOk ts la) (i : Nat) : -1 ≤ laAt la i ∧ laAt la i ≤ 4611686018427387904 := by
  by_cases hi : i < la.length
  · rw [laAt_eq hi]; exact h.bd _ (List.getElem_mem hi)
  · unfold laAt; rw [List.getD_eq_getElem?_getD, List.getElem?_eq_none (by omega)]; decide
theorem LaOk.start (ts : List Tk) : LaOk ts (List.replicate ts.length (-1)) := ⟨by simp, fun x hx => by rw [List.eq_of_mem_replicate hx]; decide⟩
end Go.Proofs.YtchbehnkkcjdgaaGreat
