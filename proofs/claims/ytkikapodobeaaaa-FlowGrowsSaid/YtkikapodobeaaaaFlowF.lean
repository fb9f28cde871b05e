/- A row without those that stand between two of the same number; what edges a row adds. -/
import Derived.Test.YtkikapodobeaaaaFlowE
namespace Go.Proofs.Ytkikapodobeaaaa
open Go.ChangeShapes Go.WideShapes Go.ChangeAt Go.RowKit Go.Maps
set_option linter.unusedVariables false
attribute [local go_sem ↓] Go.wp_at_zero Go.wp_at_succ

/-! ### plain -/
def lastR : List Int → Int → Nat
  | [], _ => 0
  | p :: r, x => if x = p then r.length else lastR r x
/-- Where a number stands last. -/
def lastV (l : List Int) (x : Int) : Nat := lastR l.reverse x
theorem lastV_snoc (l : List Int) (p x : Int) : lastV (l ++ [p]) x = if x = p then l.length else lastV l x := by
  unfold lastV
  rw [List.reverse_append]
  simp [lastR]
theorem lastV_at (a : List Int) (p : Int) : ∀ b : List Int, (lastV (a ++ p :: b) p = a.length ↔ p ∉ b) := by
  intro b
  obtain ⟨r, rfl⟩ : ∃ r, b = r.reverse := ⟨b.reverse, by simp⟩
  induction r with
  | nil => simp [lastV_snoc]
  | cons q r ih =>
    rw [List.reverse_cons, ← List.cons_append, ← List.append_assoc, lastV_snoc]
    by_cases h : p = q
    · subst h
      simp
    · rw [if_neg h, ih]
      simp [h]
def keepB (l : List Int) (k : Nat) (p : Int) : Bool := !decide (p ∈ l.take k) || decide (lastV l p = k)
def falTo (l : List Int) : Nat → List Int
  | 0 => []
  | k + 1 => falTo l k ++ (match l[k]? with | some p => if keepB l k p then [p] else [] | none => [])
/-- A row without those that stand between two of the same number. -/
def falV (l : List Int) : List Int := falTo l l.length
theorem falTo_len (l : List Int) : ∀ k, (falTo l k).length ≤ k
  | 0 => by simp [falTo]
  | k + 1 => by
    have := falTo_len l k
    unfold falTo
    rw [List.length_append]
    split
    · split <;> simp <;> omega
    · simp; omega
def falA (met : List Int) : List Int → List Int
  | [] => []
  | p :: l => (if p ∉ met ∨ p ∉ l then [p] else []) ++ falA (met ++ [p]) l
theorem falTo_is : ∀ (l a row : List Int), row = a ++ l → falTo row row.length = falTo row a.length ++ falA a l
  | [], a, row, h => by subst h; simp [falA]
  | p :: l, a, row, h => by
    rw [falTo_is l (a ++ [p]) row (by rw [h]; simp)]
    have hp : row[a.length]? = some p := by rw [h]; simp
    have hk : keepB row a.length p = decide (p ∉ a ∨ p ∉ l) := by
      unfold keepB
      have h1 : row.take a.length = a := by rw [h]; simp
      have h2 := lastV_at a p l
      rw [h1, h, Bool.eq_iff_iff]
      simp [h2]
    rw [List.length_append, List.length_singleton, falTo, hp]
    simp only [hk]
    rw [falA, List.append_assoc]
    congr 1
    by_cases h3 : p ∉ a ∨ p ∉ l
    · simp [h3]
    · simp [h3]
theorem falV_is (l : List Int) : falV l = falA [] l := by
  unfold falV
  rw [falTo_is l [] l rfl]
  simp [falTo]
theorem falA_mem (b : Int) : ∀ (l met : List Int), b ∈ falA met l ↔ b ∈ l
  | [], _ => by simp [falA]
  | p :: l, met => by
    rw [falA, List.mem_append, falA_mem b l]
    by_cases h : b ∈ l
    · simp [h]
    · by_cases hb : b = p
      · subst hb; simp [h]
      · simp [h, hb]
theorem falA_sub : ∀ (l met : List Int), (falA met l).Sublist l
  | [], _ => by simp [falA]
  | p :: l, met => by
    rw [falA]
    split
    · exact (falA_sub l _).cons_cons p
    · exact (falA_sub l _).cons p
theorem laterB_sub {a b : Int} : ∀ {l r : List Int}, l.Sublist r → laterB a b l = true → laterB a b r = true
  | _, _, .slnil, h => h
  | _, _, .cons x hs, h => by
    rw [laterB, Bool.or_eq_true]
    exact .inr (laterB_sub hs h)
  | _, _, .cons_cons x hs, h => by
    rw [laterB, Bool.or_eq_true, Bool.and_eq_true] at h ⊢
    rcases h with ⟨h1, h2⟩ | h
    · refine .inl ⟨h1, ?_⟩
      rw [List.contains_iff_mem] at h2 ⊢
      exact hs.subset h2
    · exact .inr (laterB_sub hs h)
theorem laterB_mem {a b : Int} : ∀ {l : List Int}, laterB a b l = true → b ∈ l
  | [], h => by simp [laterB] at h
  | x :: l, h => by
    rw [laterB, Bool.or_eq_true, Bool.and_eq_true, List.contains_iff_mem] at h
    rcases h with ⟨_, h⟩ | h
    · simp [h]
    · simp [laterB_mem h]
theorem laterB_fal {a b : Int} : ∀ (l met : List Int), a ∉ met → laterB a b l = true → laterB a b (falA met l) = true
  | [], _, _, h => h
  | x :: l, met, hm, h => by
    have hb : b ∈ l := by
      rw [laterB, Bool.or_eq_true, Bool.and_eq_true, List.contains_iff_mem] at h
      rcases h with ⟨_, h⟩ | h
      · exact h
      · exact laterB_mem h
    rw [falA]
    by_cases hx : x = a
    · subst hx
      rw [if_pos (.inl hm), List.singleton_append, laterB, Bool.or_eq_true, Bool.and_eq_true, List.contains_iff_mem]
      exact .inl ⟨by simp, (falA_mem b l _).2 hb⟩
    · rw [laterB, Bool.or_eq_true, Bool.and_eq_true] at h
      rcases h with ⟨h, _⟩ | h
      · exact absurd (by simpa using h) hx
      · have ih := laterB_fal l (met ++ [x]) (by simp [hm]; exact fun e => hx e.symm) h
        split
        · rw [List.singleton_append, laterB, ih]; simp
        · exact ih
theorem laterB_falV (a b : Int) (l : List Int) : laterB a b (falV l) = laterB a b l := by
  rw [falV_is, Bool.eq_iff_iff]
  exact ⟨laterB_sub (falA_sub l []), laterB_fal l [] (by simp)⟩
theorem laterB_iff {a b : Int} : ∀ {l : List Int}, laterB a b l = true ↔ ∃ x y : Nat, x < y ∧ l[x]? = some a ∧ l[y]? = some b
  | [] => by simp [laterB]
  | p :: l => by
    rw [laterB, Bool.or_eq_true, Bool.and_eq_true, laterB_iff, List.contains_iff_mem, beq_iff_eq]
    constructor
    · rintro (⟨rfl, h⟩ | ⟨x, y, h, h1, h2⟩)
      · obtain ⟨y, hy⟩ := List.mem_iff_getElem?.1 h
        exact ⟨0, y + 1, by omega, rfl, by simpa using hy⟩
      · exact ⟨x + 1, y + 1, by omega, by simpa using h1, by simpa using h2⟩
    · rintro ⟨x, y, h, h1, h2⟩
      obtain ⟨y, rfl⟩ : ∃ z, y = z + 1 := ⟨y - 1, by omega⟩
      cases x with
      | zero => exact .inl ⟨by simpa using h1, List.mem_iff_getElem?.2 ⟨y, by simpa using h2⟩⟩
      | succ x => exact .inr ⟨x, y, by omega, by simpa using h1, by simpa using h2⟩
/-- One next to the other. -/
def nextP (l : List Int) (e : Int × Int) : Prop := ∃ x : Nat, l[x]? = some e.1 ∧ l[x + 1]? = some e.2
theorem nextP.later {l : List Int} {e : Int × Int} (h : nextP l e) : laterB e.1 e.2 l = true := by
  obtain ⟨x, h1, h2⟩ := h
  exact laterB_iff.2 ⟨x, x + 1, by omega, h1, h2⟩

/-! ### sets and maps of ints -/
def SetI (w : World) (b n : Nat) (P : Int → Prop) : Prop := ∃ D : DataW Unit, w.ownsMap Try.prog 3 unitElem b n D ∧ ∀ x, I64 x → (Maps.has D (.int .i64 x) = true ↔ P x)
def MapI (w : World) (b n : Nat) (f : Int → Int) : Prop := ∃ D : DataW Unit, w.ownsMap Try.prog 3 (plainElem Try.prog 3) b n D ∧ ∀ x, I64 x → D.atKey (.int .i64 x) (.lit (.int .i64 0)) = .lit (.int .i64 (f x))
def SetP (w : World) (b n : Nat) (P : Int × Int → Prop) : Prop := ∃ S, SetE w b n S ∧ ∀ e, EIn e → (S e = true ↔ P e)
theorem Try.lawI : Keyed Try.prog 3 := int_keyed Try.underlying3
theorem SetP.later {w w' : World} {b n : Nat} {P : Int × Int → Prop} (h : SetP w b n P) (hb : Below w.heap.size w w') : SetP w' b n P := let ⟨S, h1, h2⟩ := h; ⟨S, h1.later hb, h2⟩
theorem SetP.mono {w : World} {b n m : Nat} {P : Int × Int → Prop} (h : SetP w b n P) (hn : n ≤ m) : SetP w b m P := let ⟨S, h1, h2⟩ := h; ⟨S, h1.mono hn, h2⟩
theorem SetP.lt {w : World} {b n : Nat} {P : Int × Int → Prop} (h : SetP w b n P) : b < w.heap.size := let ⟨S, h1, h2⟩ := h; h1.lt
theorem SetP.congr {w : World} {b n : Nat} {P Q : Int × Int → Prop} (h : SetP w b n P) (hq : ∀ e, P e ↔ Q e) : SetP w b n Q := let ⟨S, h1, h2⟩ := h; ⟨S, h1, fun e he => (h2 e he).trans (hq e)⟩
theorem SetP.made (w : World) : SetP (w.alloc (.map #[] 0)) w.heap.size 0 (fun _ => False) := ⟨_, SetE.made w, fun e _ => by simp⟩
theorem addP_any (b n : Nat) (x y : Int) (w : World) (P : Int × Int → Prop) (h : SetP w b n P) (hn : n < maxLen) (hx : I64 x) (hy : I64 y) :
    Calls Try.prog 35 #[.map (some b), .int .i64 x, .int .i64 y] w fun e w' => e = .returned (.tuple #[]) ∧ SetP w' b (n + 1) (fun z => P z ∨ z = (x, y)) ∧ But b w w' := by
  obtain ⟨S, h1, h2⟩ := h
  refine (add_any b n x y w S h1 hn hx hy).mono ?_
  rintro e w' ⟨rfl, h3, h4⟩
  refine ⟨rfl, ⟨_, h3, fun z hz => ?_⟩, h4⟩
  have := h2 z hz
  simp [this]
  exact Or.comm
end Go.Proofs.Ytkikapodobeaaaa
