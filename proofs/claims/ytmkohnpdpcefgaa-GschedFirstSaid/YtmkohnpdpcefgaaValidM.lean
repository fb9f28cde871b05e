/- Whether a system may be at all: no program in it. -/
import Derived.Test.YtmkohnpdpcefgaaFrameP
namespace Go.Proofs.Ytmkohnpdpcefgaa
set_option linter.unusedVariables false

/-- May a window be, behind the end of the one ahead? -/
def okWn (F a : Int) (pn : Nat) (x : Wn) : Bool := decide (a ≤ x.at_ ∧ x.at_ < F ∧ 1 ≤ x.len ∧ x.len ≤ F - x.at_ ∧ 0 ≤ x.part ∧ x.part < (pn : Int))
/-- The first window that may not be. -/
def badW (F : Int) (pn : Nat) : Int → List Wn → Nat → Option Nat
  | _, [], _ => none
  | a, x :: l, i => if okWn F a pn x then badW F pn (x.at_ + x.len) l (i + 1) else some i
def okPt (pn i : Nat) (p : Pt) : Bool := decide (wrongOf p.ts p.ss p.a0 p.a1 p.a2 = 0) && namesB pn (i : Int) p.ds
def errPt (pn i : Nat) (p : Pt) : Int := if wrongOf p.ts p.ss p.a0 p.a1 p.a2 = 0 then 24 else wrongOf p.ts p.ss p.a0 p.a1 p.a2
def badP (pn : Nat) : List Pt → Nat → Option (Int × Nat)
  | [], _ => none
  | p :: l, i => if okPt pn i p then badP pn l (i + 1) else some (errPt pn i p, i)
def okCh (pn : Nat) (h : Ch) : Bool := decide (0 ≤ h.from_ ∧ h.from_ < (pn : Int) ∧ 0 ≤ h.to ∧ h.to < (pn : Int) ∧ h.from_ ≠ h.to ∧ 1 ≤ h.size ∧ h.size ≤ if h.queue then 16 else 1000)
def badC (pn : Nat) : List Ch → Nat → Option Nat
  | [], _ => none
  | h :: l, i => if okCh pn h then badC pn l (i + 1) else some i
def winV (F : Int) (pn : Nat) (l : List Wn) : Option Nat := if 32 < l.length then some 32 else badW F pn 0 l 0
def chanV (pn : Nat) (l : List Ch) : Option Nat := if 8 < l.length then some 8 else badC pn l 0
def frameOk (F m : Int) : Bool := decide (1 ≤ F ∧ F ≤ 256 ∧ 0 ≤ m ∧ m ≤ 8)
/-- What is wrong with a system, and where. -/
def checkV (c : Cf) : Int × Int :=
  if frameOk c.frame c.margin = false then (20, 0) else
  if c.ps.length < 1 ∨ 6 < c.ps.length then (1, 0) else
  match winV c.frame c.ps.length c.ws with
  | some k => (21, (k : Int))
  | none => match badP c.ps.length c.ps 0 with
    | some x => (x.1, (x.2 : Int))
    | none => match chanV c.ps.length c.cs with
      | some k => (25, (k : Int))
      | none => (0, 0)
theorem badP_none {pn : Nat} : ∀ {l : List Pt} {i : Nat}, badP pn l i = none ↔ ∀ j p, l[j]? = some p → okPt pn (i + j) p = true
  | [], i => by simp [badP]
  | p :: l, i => by
    unfold badP
    by_cases h : okPt pn i p = true
    · rw [if_pos h, badP_none]
      constructor
      · intro k j q hq
        cases j with
        | zero => simp at hq; subst hq; exact h
        | succ j => have := k j q (by simpa using hq); rwa [show i + 1 + j = i + (j + 1) by omega] at this
      · intro k j q hq
        have := k (j + 1) q (by simpa using hq)
        rwa [show i + (j + 1) = i + 1 + j by omega] at this
    · rw [if_neg h]
      refine ⟨(fun e => by cases e), fun k => absurd (k 0 p rfl) h⟩
theorem badP_err {pn : Nat} : ∀ {l : List Pt} {i : Nat} {x : Int × Nat}, badP pn l i = some x → x.1 ≠ 0
  | [], i, x, h => by cases h
  | p :: l, i, x, h => by
    unfold badP at h
    split at h
    · exact badP_err h
    · cases h
      show errPt pn i p ≠ 0
      unfold errPt
      split <;> omega
theorem badC_none {pn : Nat} : ∀ {l : List Ch} {i : Nat}, badC pn l i = none ↔ ∀ h ∈ l, okCh pn h = true
  | [], i => by simp [badC]
  | h :: l, i => by
    unfold badC
    by_cases k : okCh pn h = true
    · rw [if_pos k, badC_none]; simp [k]
    · rw [if_neg k]
      refine ⟨(fun e => by cases e), fun g => absurd (g h (by simp)) k⟩
def OkC (c : Cf) : Prop := frameOk c.frame c.margin = true ∧ (1 ≤ c.ps.length ∧ c.ps.length ≤ 6) ∧ winV c.frame c.ps.length c.ws = none ∧ (∀ j p, c.ps[j]? = some p → okPt c.ps.length j p = true) ∧ chanV c.ps.length c.cs = none
theorem check_iff (c : Cf) : (checkV c).1 = 0 ↔ OkC c := by
  unfold checkV OkC
  cases h1 : frameOk c.frame c.margin with
  | false => simp
  | true =>
    by_cases h2 : c.ps.length < 1 ∨ 6 < c.ps.length
    · rw [if_neg (by simp), if_pos h2]
      constructor
      · intro e; exact absurd e (by decide)
      · rintro ⟨_, h3, _⟩; omega
    · have h2' : 1 ≤ c.ps.length ∧ c.ps.length ≤ 6 := by omega
      rw [if_neg (by simp), if_neg h2]
      cases h3 : winV c.frame c.ps.length c.ws with
      | some k => simp
      | none =>
        cases h4 : badP c.ps.length c.ps 0 with
        | some x =>
          have h5 := badP_err h4
          simp only
          constructor
          · intro e; exact absurd e h5
          · rintro ⟨_, _, _, k, _⟩
            have := (badP_none (i := 0)).2 (fun j p hp => by rw [Nat.zero_add]; exact k j p hp)
            rw [this] at h4; cases h4
        | none =>
          have h5 := badP_none.1 h4
          cases h6 : chanV c.ps.length c.cs with
          | some k => simp
          | none =>
            simp only [true_iff]
            refine ⟨trivial, h2', trivial, fun j p hp => ?_, trivial⟩
            have := h5 j p hp
            rwa [Nat.zero_add] at this
theorem check_zero {c : Cf} (h : (checkV c).1 = 0) : (checkV c).2 = 0 := by
  obtain ⟨h1, h2, h3, h4, h5⟩ := (check_iff c).1 h
  have h6 := (badP_none (i := 0)).2 (fun j p hp => by rw [Nat.zero_add]; exact h4 j p hp)
  unfold checkV
  rw [if_neg (by simp [h1]), if_neg (by omega), h3]
  simp only [h6, h5]
/-- A partition with nothing in it. -/
def noPt : Pt := ⟨[], [], [], 0, 0, 0⟩
theorem ok_noPt {pn i : Nat} (h : i < pn) : okPt pn i noPt = true := by
  unfold okPt noPt
  have : namesB pn (i : Int) [] = true := by unfold namesB; simp; omega
  rw [this]
  simp [wrongOf, okActs]
/-- A list with only one thing left as it is. -/
def onlyAt (i : Nat) (l : List Pt) : List Pt := (List.range l.length).map fun k => if k = i then l.getD k noPt else noPt
theorem onlyAt_len (i : Nat) (l : List Pt) : (onlyAt i l).length = l.length := by simp [onlyAt]
theorem onlyAt_get (i : Nat) (l : List Pt) (j : Nat) (hj : j < l.length) : (onlyAt i l)[j]? = some (if j = i then l.getD j noPt else noPt) := by simp [onlyAt, hj]
/-- A system with one partition alone, or with its windows and channels alone. -/
def aloneC (c : Cf) (i : Nat) : Cf := ⟨c.frame, c.margin, if i < c.ps.length then [] else c.ws, onlyAt i c.ps, if i < c.ps.length then [] else c.cs⟩
theorem alone_all {c : Cf} : (checkV c).1 = 0 ↔ ∀ i ≤ c.ps.length, (checkV (aloneC c i)).1 = 0 := by
  simp only [check_iff]
  constructor
  · rintro ⟨h1, h2, h3, h4, h5⟩ i hi
    refine ⟨h1, by show 1 ≤ (onlyAt i c.ps).length ∧ (onlyAt i c.ps).length ≤ 6; rw [onlyAt_len]; exact h2, ?_, ?_, ?_⟩
    · show winV c.frame (onlyAt i c.ps).length (if i < c.ps.length then [] else c.ws) = none
      rw [onlyAt_len]
      split
      · rfl
      · exact h3
    · intro j p hp
      have hp' : (onlyAt i c.ps)[j]? = some p := hp
      have hj : j < c.ps.length := by have := (List.getElem?_eq_some_iff.1 hp').1; rwa [onlyAt_len] at this
      rw [onlyAt_get _ _ _ hj] at hp'
      show okPt (onlyAt i c.ps).length j p = true
      rw [onlyAt_len]
      cases hp'
      split
      · refine h4 j _ ?_
        rw [List.getD_eq_getElem?_getD, List.getElem?_eq_getElem hj]; rfl
      · exact ok_noPt hj
    · show chanV (onlyAt i c.ps).length (if i < c.ps.length then [] else c.cs) = none
      rw [onlyAt_len]
      split
      · rfl
      · exact h5
  · intro h
    obtain ⟨h1, h2, h3, _, h5⟩ := h c.ps.length (Nat.le_refl _)
    have e1 : (aloneC c c.ps.length).ps.length = c.ps.length := onlyAt_len _ _
    rw [e1] at h2 h3 h5
    have e2 : (aloneC c c.ps.length).ws = c.ws := if_neg (Nat.lt_irrefl _)
    have e3 : (aloneC c c.ps.length).cs = c.cs := if_neg (Nat.lt_irrefl _)
    rw [e2] at h3
    rw [e3] at h5
    refine ⟨h1, h2, h3, fun j p hp => ?_, h5⟩
    have hj : j < c.ps.length := (List.getElem?_eq_some_iff.1 hp).1
    obtain ⟨_, _, _, h4, _⟩ := h j (Nat.le_of_lt hj)
    have := h4 j p (by
      show (onlyAt j c.ps)[j]? = some p
      rw [onlyAt_get _ _ _ hj, if_pos rfl, List.getD_eq_getElem?_getD, hp]; rfl)
    rwa [show (aloneC c j).ps.length = c.ps.length from onlyAt_len _ _] at this
/-- Windows that may be in a system may be in a frame. -/
theorem badW_ok {F : Int} {pn : Nat} (hp : pn ≤ 6) : ∀ {l : List Wn} {a : Int} {i : Nat}, badW F pn a l i = none → okW F a l = true
  | [], _, _, _ => rfl
  | x :: l, a, i, h => by
    unfold badW at h
    split at h
    · rename_i hx
      have hx' : a ≤ x.at_ ∧ x.at_ < F ∧ 1 ≤ x.len ∧ x.len ≤ F - x.at_ ∧ 0 ≤ x.part ∧ x.part < (pn : Int) := of_decide_eq_true hx
      obtain ⟨g1, g2, g3, g4, g5, g6⟩ := hx'
      have g7 : x.part < 6 := by omega
      unfold okW
      simp only [g1, g2, g3, g4, g5, g7, decide_true, Bool.true_and]
      exact badW_ok hp h
    · cases h
theorem winV_ok {F : Int} {pn : Nat} (hp : pn ≤ 6) {l : List Wn} (h : winV F pn l = none) : l.length ≤ 32 ∧ okW F 0 l = true := by
  unfold winV at h
  split at h
  · cases h
  · exact ⟨by omega, badW_ok hp h⟩
def tellP (pn k : Nat) (p : Pt) : Int := if okPt pn k p then 0 else errPt pn k p
theorem tellP_wrong {pn k : Nat} {p : Pt} (h : wrongOf p.ts p.ss p.a0 p.a1 p.a2 ≠ 0) : tellP pn k p = wrongOf p.ts p.ss p.a0 p.a1 p.a2 := by
  unfold tellP okPt errPt
  rw [if_neg (by simp [h]), if_neg h]
theorem tellP_names {pn k : Nat} {p : Pt} (h : wrongOf p.ts p.ss p.a0 p.a1 p.a2 = 0) (h2 : namesB pn (k : Int) p.ds = false) : tellP pn k p = 24 := by
  unfold tellP okPt errPt
  rw [if_neg (by simp [h2]), if_pos h]
theorem tellP_ok {pn k : Nat} {p : Pt} (h : wrongOf p.ts p.ss p.a0 p.a1 p.a2 = 0) (h2 : namesB pn (k : Int) p.ds = true) : tellP pn k p = 0 := by
  unfold tellP okPt
  rw [if_pos (by simp [h, h2])]
def tellC (pn : Nat) (x : Ch) : Int := if okCh pn x then 0 else 25
theorem names_one {pn : Nat} {a b : Int} : namesB pn a [b] = decide (0 ≤ a ∧ a < (pn : Int) ∧ 0 ≤ b ∧ b < (pn : Int) ∧ a ≠ b) := by
  unfold namesB
  rw [Bool.eq_iff_iff]
  simp
  constructor
  · rintro ⟨h, h1, h2⟩; exact ⟨h1.1, h1.2, h2.1, h2.2, h⟩
  · rintro ⟨h1, h2, h3, h4, h5⟩; exact ⟨h5, ⟨h1, h2⟩, h3, h4⟩
theorem tellC_names {pn : Nat} {x : Ch} (h : namesB pn x.from_ [x.to] = false) : tellC pn x = 25 := by
  rw [names_one] at h
  unfold tellC okCh
  rw [if_neg]
  intro g
  have g := of_decide_eq_true g
  exact of_decide_eq_false h ⟨g.1, g.2.1, g.2.2.1, g.2.2.2.1, g.2.2.2.2.1⟩
theorem tellC_size {pn : Nat} {x : Ch} (h : inB x.size 1 (mostV x.queue) = false) : tellC pn x = 25 := by
  unfold tellC okCh
  rw [if_neg]
  intro g
  have g := of_decide_eq_true g
  exact of_decide_eq_false h ⟨g.2.2.2.2.2.1, g.2.2.2.2.2.2⟩
theorem tellC_ok {pn : Nat} {x : Ch} (h : namesB pn x.from_ [x.to] = true) (h2 : inB x.size 1 (mostV x.queue) = true) : tellC pn x = 0 := by
  rw [names_one] at h
  have h := of_decide_eq_true h
  have h2 := of_decide_eq_true h2
  unfold tellC okCh
  rw [if_pos (decide_eq_true ⟨h.1, h.2.1, h.2.2.1, h.2.2.2.1, h.2.2.2.2, h2.1, h2.2⟩)]
end Go.Proofs.Ytmkohnpdpcefgaa
