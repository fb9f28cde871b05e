/- Who may ever learn of whom: no program in it. -/
import Derived.Test.YtkikapodobeaaaaBase
namespace Go.Proofs.Ytkikapodobeaaaa
set_option linter.unusedVariables false

/-- Does one stand ahead of the other one in a list? -/
def laterB (a b : Int) : List Int → Bool
  | [] => false
  | x :: l => (x == a && l.contains b) || laterB a b l
theorem laterB_snoc (a b y : Int) : ∀ l : List Int, laterB a b (l ++ [y]) = (laterB a b l || (l.contains a && y == b))
  | [] => by simp [laterB]
  | x :: l => by
    rw [List.cons_append, laterB, laterB, laterB_snoc a b y l]
    rw [Bool.eq_iff_iff]
    simp only [Bool.or_eq_true, Bool.and_eq_true, List.contains_iff_mem, List.mem_append, List.mem_cons, List.not_mem_nil, or_false, beq_iff_eq]
    constructor
    · rintro (⟨h1, h2 | h2⟩ | h | ⟨h1, h2⟩)
      · exact .inl (.inl ⟨h1, h2⟩)
      · exact .inr ⟨.inl h1.symm, h2.symm⟩
      · exact .inl (.inr h)
      · exact .inr ⟨.inr h1, h2⟩
    · rintro ((⟨h1, h2⟩ | h) | ⟨h1 | h1, h2⟩)
      · exact .inl ⟨h1, .inl h2⟩
      · exact .inr (.inl h)
      · exact .inl ⟨h1.symm, .inr h2.symm⟩
      · exact .inr (.inr ⟨h1, h2⟩)
def chB (a b : Int) (h : Ch) : Bool := h.from_ == a && h.to == b
/-- Does an edge lead from one to the other along lists of donees? -/
def donB (a b : Int) : List Pt → Nat → Bool
  | [], _ => false
  | p :: l, i => laterB a b ((i : Int) :: p.ds) || donB a b l (i + 1)
theorem donB_snoc (a b : Int) (p : Pt) : ∀ (l : List Pt) (i : Nat), donB a b (l ++ [p]) i = (donB a b l i || laterB a b (((i + l.length : Nat) : Int) :: p.ds))
  | [], i => by simp [donB]
  | q :: l, i => by
    rw [List.cons_append, donB, donB, donB_snoc a b p l (i + 1), Bool.or_assoc, List.length_cons, show i + 1 + l.length = i + (l.length + 1) by omega]
theorem donB_any {a b : Int} : ∀ {l : List Pt} {i : Nat}, donB a b l i = true ↔ ∃ (k : Nat) (p : Pt), l[k]? = some p ∧ laterB a b (((i + k : Nat) : Int) :: p.ds) = true
  | [], i => by simp [donB]
  | q :: l, i => by
    rw [donB, Bool.or_eq_true, donB_any]
    constructor
    · rintro (h | ⟨k, p, h1, h2⟩)
      · exact ⟨0, q, rfl, by simpa using h⟩
      · exact ⟨k + 1, p, by simpa using h1, by rwa [show i + (k + 1) = i + 1 + k by omega]⟩
    · rintro ⟨k, p, h1, h2⟩
      cases k with
      | zero => simp at h1; subst h1; exact .inl (by simpa using h2)
      | succ k => exact .inr ⟨k, p, by simpa using h1, by rwa [show i + 1 + k = i + (k + 1) by omega]⟩
/-- Is there an edge? -/
def isE (c : Cf) (a b : Int) : Bool := hasB c.ps.length a && (hasB c.ps.length b && (c.cs.any (chB a b) || donB a b c.ps 0))
theorem isE_has {c : Cf} {a b : Int} (h : isE c a b = true) : (0 ≤ a ∧ a < (c.ps.length : Int)) ∧ 0 ≤ b ∧ b < (c.ps.length : Int) := by
  unfold isE at h
  rw [Bool.and_eq_true, Bool.and_eq_true] at h
  exact ⟨hasB_true h.1, hasB_true h.2.1⟩
/-- Whom edges lead into some, one behind the other; and they themselves. -/
inductive Leads (c : Cf) (l : List Int) : Int → Prop
  | of {i : Int} : i ∈ l → hasB c.ps.length i = true → Leads c l i
  | on {a b : Int} : isE c a b = true → Leads c l b → Leads c l a
theorem Leads.has {c : Cf} {l : List Int} {i : Int} (h : Leads c l i) : 0 ≤ i ∧ i < (c.ps.length : Int) := by
  cases h with
  | of _ h => exact hasB_true h
  | on h _ => exact (isE_has h).1
theorem Leads.mono {c d : Cf} {l : List Int} (hn : c.ps.length = d.ps.length) (he : ∀ a b, isE c a b = true → isE d a b = true) {i : Int} (h : Leads c l i) : Leads d l i := by
  induction h with
  | of h1 h2 => exact .of h1 (by rw [← hn]; exact h2)
  | on h1 _ ih => exact .on (he _ _ h1) ih
theorem Leads.in_list {c : Cf} {l : List Int} {S : Int → Prop} (h0 : ∀ i ∈ l, hasB c.ps.length i = true → S i) (h1 : ∀ a b, isE c a b = true → S b → S a) {i : Int} (h : Leads c l i) : S i := by
  induction h with
  | of a b => exact h0 _ a b
  | on a _ ih => exact h1 _ _ a ih
/-- Those that lead into some, one truth for each partition. -/
def CutOf (c : Cf) (l : List Int) (s : List Bool) : Prop := s.length = c.ps.length ∧ ∀ i : Nat, s[i]? = some true ↔ Leads c l (i : Int)
theorem CutOf.same {c : Cf} {l : List Int} {s t : List Bool} (hs : CutOf c l s) (ht : CutOf c l t) : s = t := by
  refine List.ext_getElem (hs.1.trans ht.1.symm) fun i h1 h2 => ?_
  have h := (hs.2 i).trans (ht.2 i).symm
  rw [List.getElem?_eq_getElem h1, List.getElem?_eq_getElem h2, Option.some.injEq, Option.some.injEq] at h
  exact Bool.eq_iff_iff.2 h
/-! ### How it is found: rounds -/
def cntT (s : List Bool) : Nat := s.count true
theorem cntT_le (s : List Bool) : cntT s ≤ s.length := List.count_le_length
/-- Where all of one list are of the other one, too. -/
def Sub (s t : List Bool) : Prop := s.length = t.length ∧ ∀ i : Nat, s[i]? = some true → t[i]? = some true
theorem Sub.refl (s : List Bool) : Sub s s := ⟨rfl, fun _ h => h⟩
theorem Sub.trans {s t u : List Bool} (h : Sub s t) (k : Sub t u) : Sub s u := ⟨h.1.trans k.1, fun i hi => k.2 i (h.2 i hi)⟩
theorem Sub.set (s : List Bool) (a : Nat) : Sub s (s.set a true) := ⟨by simp, fun i hi => by
  rw [List.getElem?_set]
  split
  · rename_i e; subst e
    have := (List.getElem?_eq_some_iff.1 hi).1
    simp [this]
  · exact hi⟩
theorem set_true {s : List Bool} {a i : Nat} (ha : a < s.length) : (s.set a true)[i]? = some true ↔ i = a ∨ s[i]? = some true := by
  rw [List.getElem?_set]
  by_cases h : a = i
  · subst h; simp [ha]
  · simp [h]; intro e; exact absurd e.symm h
theorem Sub.count : ∀ {s t : List Bool}, Sub s t → s = t ∨ cntT s < cntT t
  | [], [], _ => .inl rfl
  | [], _ :: _, h => by have := h.1; simp at this
  | _ :: _, [], h => by have := h.1; simp at this
  | x :: s, y :: t, h => by
    have h' : Sub s t := ⟨by simpa using h.1, fun i hi => by simpa using h.2 (i + 1) (by simpa using hi)⟩
    have h0 := h.2 0
    simp only [List.getElem?_cons_zero, Option.some.injEq] at h0
    unfold cntT
    rcases h'.count with rfl | hlt
    · cases x with
      | true => left; rw [h0 rfl]
      | false => cases y with
        | true => right; simp
        | false => left; rfl
    · right
      unfold cntT at hlt
      cases x with
      | true => rw [h0 rfl]; simp; omega
      | false => cases y <;> simp <;> omega
/-- Does no edge lead in from without? -/
def Closed (c : Cf) (s : List Bool) : Prop := ∀ a b : Nat, isE c (a : Int) (b : Int) = true → s[b]? = some true → s[a]? = some true
theorem all_true {s : List Bool} (h : s.length ≤ cntT s) {i : Nat} (hi : i < s.length) : s[i]? = some true := by
  have h1 : cntT s = s.length := Nat.le_antisymm (cntT_le s) h
  unfold cntT at h1
  rw [List.count_eq_length] at h1
  rw [List.getElem?_eq_getElem hi, ← h1 _ (List.getElem_mem hi)]
theorem Closed.of_full {c : Cf} {s : List Bool} (hn : s.length = c.ps.length) (h : s.length ≤ cntT s) : Closed c s := fun a b he _ => all_true h (by have := (isE_has he).1; omega)
/-- Behind some rounds: what is begun with is there, only what leads there is, and nothing is missing or there are as many. -/
structure Inv (c : Cf) (l : List Int) (r : Nat) (s : List Bool) : Prop where
  len : s.length = c.ps.length
  base : ∀ i : Nat, (i : Int) ∈ l → i < c.ps.length → s[i]? = some true
  only : ∀ i : Nat, s[i]? = some true → Leads c l (i : Int)
  done : Closed c s ∨ r ≤ cntT s
theorem Inv.cut {c : Cf} {l : List Int} {s : List Bool} (hc : Closed c s) (h1 : s.length = c.ps.length) (h2 : ∀ i : Nat, (i : Int) ∈ l → i < c.ps.length → s[i]? = some true) (h3 : ∀ i : Nat, s[i]? = some true → Leads c l (i : Int)) : CutOf c l s := by
  refine ⟨h1, fun i => ⟨h3 i, fun hl => ?_⟩⟩
  have key : ∀ x : Int, Leads c l x → ∀ i : Nat, (i : Int) = x → s[i]? = some true := by
    intro x hx
    induction hx with
    | of a b =>
      intro i hi
      subst hi
      exact h2 i a (by have := hasB_true b; omega)
    | @on a b h _ ih =>
      intro i hi
      subst hi
      have hb := (isE_has h).2
      have e : ((b.toNat : Nat) : Int) = b := by omega
      exact hc i b.toNat (by rw [e]; exact h) (ih b.toNat e)
  exact key _ hl i rfl
theorem Inv.out {c : Cf} {l : List Int} {r : Nat} {s : List Bool} (h : Inv c l r s) (hr : c.ps.length ≤ r) : CutOf c l s := by
  rcases h.done with hd | hd
  · exact Inv.cut hd h.len h.base h.only
  · exact Inv.cut (Closed.of_full h.len (by have := h.len; omega)) h.len h.base h.only
/-- Within a round: what was there at its beginning has gone on along the edges that were looked at. -/
structure Mid' (c : Cf) (l : List Int) (s0 s : List Bool) (a b : Nat) : Prop where
  sub : Sub s0 s
  only : ∀ i : Nat, s[i]? = some true → Leads c l (i : Int)
  went : ∀ x y : Nat, (x < a ∨ (x = a ∧ y < b)) → isE c (x : Int) (y : Int) = true → s0[y]? = some true → s[x]? = some true
theorem Mid'.begin {c : Cf} {l : List Int} {s : List Bool} (h : ∀ i : Nat, s[i]? = some true → Leads c l (i : Int)) : Mid' c l s s 0 0 := ⟨Sub.refl s, h, fun x y h => by omega⟩
theorem Mid'.row {c : Cf} {l : List Int} {s0 s : List Bool} {a : Nat} (h : Mid' c l s0 s a c.ps.length) : Mid' c l s0 s (a + 1) 0 := ⟨h.sub, h.only, fun x y hx he hy => h.went x y (by have := (isE_has he).2; omega) he hy⟩
theorem Mid'.no {c : Cf} {l : List Int} {s0 s : List Bool} {a b : Nat} (h : Mid' c l s0 s a b) (hn : ¬ (s[b]? = some true ∧ isE c (a : Int) (b : Int) = true)) : Mid' c l s0 s a (b + 1) := ⟨h.sub, h.only, fun x y hx he hy => by
  rcases (show (x < a ∨ (x = a ∧ y < b)) ∨ (x = a ∧ y = b) by omega) with h1 | ⟨rfl, rfl⟩
  · exact h.went x y h1 he hy
  · exact absurd ⟨h.sub.2 _ hy, he⟩ hn⟩
theorem Mid'.yes {c : Cf} {l : List Int} {s0 s : List Bool} {a b : Nat} (h : Mid' c l s0 s a b) (hn : s.length = c.ps.length) (hb : s[b]? = some true) (he : isE c (a : Int) (b : Int) = true) : Mid' c l s0 (s.set a true) a (b + 1) := by
  have ha : a < s.length := by have := (isE_has he).1; omega
  refine ⟨h.sub.trans (Sub.set s a), fun i hi => ?_, fun x y hx hxy hy => ?_⟩
  · rcases (set_true ha).1 hi with rfl | hi
    · exact .on he (h.only _ hb)
    · exact h.only i hi
  · rcases (show (x < a ∨ (x = a ∧ y < b)) ∨ (x = a ∧ y = b) by omega) with h1 | ⟨rfl, rfl⟩
    · exact (set_true ha).2 (.inr (h.went x y h1 hxy hy))
    · exact (set_true ha).2 (.inl rfl)
theorem Mid'.done {c : Cf} {l : List Int} {s0 s : List Bool} {r : Nat} (h : Mid' c l s0 s c.ps.length 0) (h0 : Inv c l r s0) : Inv c l (r + 1) s := by
  refine ⟨h.sub.1.symm.trans h0.len, fun i hi hn => h.sub.2 i (h0.base i hi hn), h.only, ?_⟩
  have went : ∀ x y : Nat, isE c (x : Int) (y : Int) = true → s0[y]? = some true → s[x]? = some true := fun x y he hy => h.went x y (by have := (isE_has he).1; omega) he hy
  rcases h.sub.count with rfl | hlt
  · exact .inl went
  · rcases h0.done with hd | hd
    · left
      have hcut := Inv.cut hd h0.len h0.base h0.only
      have e : s0 = s := by
        refine List.ext_getElem h.sub.1 fun i h1 h2 => ?_
        have k1 := h.sub.2 i
        have k2 : s[i]? = some true → s0[i]? = some true := fun hi => (hcut.2 i).2 (h.only i hi)
        rw [List.getElem?_eq_getElem h1, List.getElem?_eq_getElem h2, Option.some.injEq, Option.some.injEq] at k1 k2
        exact Bool.eq_iff_iff.2 ⟨k1, k2⟩
      rw [← e]
      exact hd
    · right; omega
theorem Inv.start {c : Cf} {l : List Int} {s : List Bool} (hn : s.length = c.ps.length) (h : ∀ i : Nat, s[i]? = some true ↔ (i : Int) ∈ l ∧ i < c.ps.length) : Inv c l 0 s :=
  ⟨hn, fun i h1 h2 => (h i).2 ⟨h1, h2⟩, fun i hi => .of ((h i).1 hi).1 (by unfold hasB; have := ((h i).1 hi).2; simp; omega), .inr (Nat.zero_le _)⟩
/-- The edges, rising. -/
def edgesV (c : Cf) : List (Nat × Nat) := (List.range c.ps.length).flatMap fun (a : Nat) => ((List.range c.ps.length).filter fun (b : Nat) => isE c (a : Int) (b : Int)).map fun (b : Nat) => (a, b)
theorem edges_mem {c : Cf} {a b : Nat} : (a, b) ∈ edgesV c ↔ isE c (a : Int) (b : Int) = true := by
  unfold edgesV
  simp only [List.mem_flatMap, List.mem_map, List.mem_filter, List.mem_range, Prod.mk.injEq]
  constructor
  · rintro ⟨x, hx, y, ⟨hy, he⟩, rfl, rfl⟩; exact he
  · intro he
    have := isE_has he
    exact ⟨a, by omega, b, ⟨by omega, he⟩, rfl, rfl⟩
/-- Those of a cut, by numbers. -/
def toldV (s : List Bool) : List Nat := (List.range s.length).filter fun i => s.getD i false
end Go.Proofs.Ytkikapodobeaaaa
