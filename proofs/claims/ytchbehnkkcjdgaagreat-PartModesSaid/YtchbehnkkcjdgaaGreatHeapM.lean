/- Heaps, plain: both lists, the order of the places, the document's list. -/
import Derived.Test.YtchbehnkkcjdgaaGreatBase
namespace Go.Proofs.YtchbehnkkcjdgaaGreat
set_option linter.unusedVariables false

/-- A number, and when it is due. -/
abbrev En := Nat × Int
def ltH (a b : En) : Prop := a.2 < b.2 ∨ (a.2 = b.2 ∧ a.1 < b.1)
instance (a b : En) : Decidable (ltH a b) := inferInstanceAs (Decidable (_ ∨ _))
theorem ltH.irrefl (a : En) : ¬ ltH a a := by unfold ltH; omega
theorem ltH.asymm {a b : En} (h : ltH a b) : ¬ ltH b a := by unfold ltH at *; omega
theorem ltH.trans {a b c : En} (h : ltH a b) (k : ltH b c) : ltH a c := by unfold ltH at *; omega
theorem ltH.le_trans {a b c : En} (h : ¬ ltH b a) (k : ¬ ltH c b) : ¬ ltH c a := by unfold ltH at *; omega
theorem ltH.tri {a b : En} (h : ¬ ltH a b) (hn : a.1 ≠ b.1) : ltH b a := by unfold ltH at *; omega
def upd {α : Type} (f : Nat → α) (i : Nat) (e : α) : Nat → α := fun j => if j = i then e else f j
theorem upd_at {α : Type} (f : Nat → α) (i : Nat) (e : α) : upd f i e i = e := by simp [upd]
theorem upd_ne {α : Type} (f : Nat → α) {i j : Nat} (e : α) (h : j ≠ i) : upd f i e j = f j := by simp [upd, h]
/-- Those at two places change them. -/
def sw (f : Nat → En) (a b : Nat) : Nat → En := upd (upd f a (f b)) b (f a)
theorem sw_a (f : Nat → En) (a b : Nat) : sw f a b a = f b := by
  unfold sw
  by_cases h : a = b
  · subst h; rw [upd_at]
  · rw [upd_ne _ _ h, upd_at]
theorem sw_b (f : Nat → En) (a b : Nat) : sw f a b b = f a := by unfold sw; rw [upd_at]
theorem sw_ne (f : Nat → En) {a b i : Nat} (h1 : i ≠ a) (h2 : i ≠ b) : sw f a b i = f i := by unfold sw; rw [upd_ne _ _ h2, upd_ne _ _ h1]

/-- Both lists tell of the same numbers as D. -/
structure Good (room n : Nat) (f : Nat → En) (x : Nat → Int) (D : Nat → Option Int) : Prop where
  le : n ≤ room
  ids : ∀ i, i < n → (f i).1 < room ∧ x (f i).1 = i ∧ D (f i).1 = some (f i).2
  all : ∀ id, id < room → (x id = -1 ∧ D id = none) ∨ ∃ i, i < n ∧ x id = i ∧ (f i).1 = id
  out : ∀ id, room ≤ id → D id = none
section
variable {room n : Nat} {f : Nat → En} {x : Nat → Int} {D : Nat → Option Int}
theorem Good.inj (h : Good room n f x D) {i j : Nat} (hi : i < n) (hj : j < n) (e : (f i).1 = (f j).1) : i = j := by
  have h1 := (h.ids i hi).2.1
  have h2 := (h.ids j hj).2.1
  rw [e] at h1
  omega
theorem Good.has (h : Good room n f x D) {i : Nat} (hi : i < n) : D (f i).1 ≠ none := by rw [(h.ids i hi).2.2]; simp
/-- Where a number is. -/
theorem Good.place (h : Good room n f x D) {id : Nat} {d : Int} (hd : D id = some d) : ∃ i, i < n ∧ x id = i ∧ f i = (id, d) ∧ id < room := by
  have hr : id < room := by
    rcases Nat.lt_or_ge id room with k | k
    · exact k
    · rw [h.out id k] at hd; cases hd
  rcases h.all id hr with ⟨_, hn⟩ | ⟨i, hi, hx, he⟩
  · rw [hn] at hd; cases hd
  · have h3 := (h.ids i hi).2.2
    rw [he, hd] at h3
    exact ⟨i, hi, hx, Prod.ext he (Option.some.inj h3).symm, hr⟩
theorem Good.nowhere (h : Good room n f x D) {id : Nat} (hr : id < room) (hd : D id = none) : x id = -1 := by
  rcases h.all id hr with ⟨k, _⟩ | ⟨i, hi, hx, he⟩
  · exact k
  · exact absurd (he ▸ hd) (h.has hi)
theorem Good.some_of (h : Good room n f x D) {id : Nat} (hr : id < room) (hx : x id ≠ -1) : ∃ i, i < n ∧ x id = i ∧ (f i).1 = id ∧ D id = some (f i).2 := by
  rcases h.all id hr with ⟨k, _⟩ | ⟨i, hi, hx, he⟩
  · exact absurd k hx
  · exact ⟨i, hi, hx, he, by have := (h.ids i hi).2.2; rwa [he] at this⟩
theorem Good.swap (h : Good room n f x D) {a b : Nat} (ha : a < n) (hb : b < n) : Good room n (sw f a b) (upd (upd x (f b).1 a) (f a).1 b) D where
  le := h.le
  ids i hi := by
    by_cases h1 : i = b
    · subst h1
      rw [sw_b, upd_at]
      exact ⟨(h.ids a ha).1, rfl, (h.ids a ha).2.2⟩
    · by_cases h2 : i = a
      · subst h2
        rw [sw_a, upd_ne _ _ (fun e => h1 (h.inj hb hi e).symm), upd_at]
        exact ⟨(h.ids b hb).1, rfl, (h.ids b hb).2.2⟩
      · rw [sw_ne _ h2 h1, upd_ne _ _ (fun e => h2 (h.inj hi ha e)), upd_ne _ _ (fun e => h1 (h.inj hi hb e))]
        exact h.ids i hi
  all id hr := by
    rcases h.all id hr with ⟨hx, hn⟩ | ⟨i, hi, hx, he⟩
    · refine .inl ⟨?_, hn⟩
      rw [upd_ne _ _ (fun e : id = (f a).1 => h.has ha (e ▸ hn)), upd_ne _ _ (fun e : id = (f b).1 => h.has hb (e ▸ hn))]
      exact hx
    · refine .inr ?_
      subst he
      by_cases h2 : i = a
      · subst h2
        exact ⟨b, hb, by rw [upd_at], by rw [sw_b]⟩
      · by_cases h1 : i = b
        · subst h1
          exact ⟨a, ha, by rw [upd_ne _ _ (fun e => h2 (h.inj hi ha e)), upd_at], by rw [sw_a]⟩
        · exact ⟨i, hi, by rw [upd_ne _ _ (fun e => h2 (h.inj hi ha e)), upd_ne _ _ (fun e => h1 (h.inj hi hb e))]; exact hx, by rw [sw_ne _ h2 h1]⟩
  out := h.out
theorem pigeon : ∀ (m n : Nat) (g : Nat → Nat), (∀ i, i < n → g i < m) → (∀ i j, i < n → j < n → g i = g j → i = j) → n ≤ m
  | 0, n, g, h, _ => by
    rcases Nat.eq_zero_or_pos n with k | k
    · omega
    · exact absurd (h 0 k) (by omega)
  | m + 1, n, g, h, hj => by
    by_cases hx : ∃ i, i < n ∧ g i = m
    · obtain ⟨i, hi, he⟩ := hx
      have := pigeon m (n - 1) (fun j => if j = i then g (n - 1) else g j)
        (fun j hjn => by
          split
          · have h1 := h (n - 1) (by omega)
            have h2 : g (n - 1) ≠ m := fun e => by have := hj (n - 1) i (by omega) hi (by omega); omega
            omega
          · have h1 := h j (by omega)
            have h2 : g j ≠ m := fun e => by have := hj j i (by omega) hi (by omega); omega
            omega)
        (fun a b ha hb e => by
          split at e
          · split at e
            · omega
            · have := hj (n - 1) b (by omega) (by omega) e; omega
          · split at e
            · have := hj a (n - 1) (by omega) (by omega) e; omega
            · exact hj a b (by omega) (by omega) e)
      omega
    · have := pigeon m n g (fun i hi => by have := h i hi; have h2 : g i ≠ m := fun e => hx ⟨i, hi, e⟩; omega) hj
      omega
theorem Good.room_for (h : Good room n f x D) {id : Nat} (hr : id < room) (hd : D id = none) : n < room := by
  have := pigeon room (n + 1) (fun i => if i < n then (f i).1 else id)
    (fun i hi => by
      show (if i < n then (f i).1 else id) < room
      split
      · rename_i h1; exact (h.ids i h1).1
      · exact hr)
    (fun i j hi hj e => by
      split at e
      · rename_i h1
        split at e
        · exact h.inj h1 (by assumption) e
        · exact absurd (e ▸ hd) (h.has h1)
      · split at e
        · rename_i h2
          exact absurd (e ▸ hd) (h.has h2)
        · omega)
  omega
theorem Good.enter (h : Good room n f x D) {e : En} (hr : e.1 < room) (hd : D e.1 = none) : Good room (n + 1) (upd f n e) (upd x e.1 n) (upd D e.1 (some e.2)) where
  le := h.room_for hr hd
  ids i hi := by
    by_cases h1 : i = n
    · subst h1
      rw [upd_at, upd_at, upd_at]
      exact ⟨hr, rfl, rfl⟩
    · have hi' : i < n := by omega
      have hn : (f i).1 ≠ e.1 := fun k => h.has hi' (k ▸ hd)
      rw [upd_ne _ _ h1, upd_ne _ _ hn, upd_ne _ _ hn]
      exact h.ids i hi'
  all id hid := by
    by_cases h1 : id = e.1
    · subst h1
      exact .inr ⟨n, by omega, by rw [upd_at], by rw [upd_at]⟩
    · rcases h.all id hid with ⟨hx, hn⟩ | ⟨i, hi, hx, he⟩
      · exact .inl ⟨by rw [upd_ne _ _ h1]; exact hx, by rw [upd_ne _ _ h1]; exact hn⟩
      · exact .inr ⟨i, by omega, by rw [upd_ne _ _ h1]; exact hx, by rw [upd_ne _ _ (show i ≠ n by omega)]; exact he⟩
  out id hid := by rw [upd_ne _ _ (by omega)]; exact h.out id hid
theorem Good.change (h : Good room n f x D) {a : Nat} (ha : a < n) (d : Int) : Good room n (upd f a ((f a).1, d)) x (upd D (f a).1 (some d)) where
  le := h.le
  ids i hi := by
    by_cases h1 : i = a
    · subst h1
      rw [upd_at, upd_at]
      exact ⟨(h.ids i hi).1, (h.ids i hi).2.1, rfl⟩
    · rw [upd_ne _ _ h1, upd_ne _ _ (fun e => h1 (h.inj hi ha e))]
      exact h.ids i hi
  all id hid := by
    rcases h.all id hid with ⟨hx, hn⟩ | ⟨i, hi, hx, he⟩
    · exact .inl ⟨hx, by rw [upd_ne _ _ (fun e : id = (f a).1 => h.has ha (e ▸ hn))]; exact hn⟩
    · refine .inr ⟨i, hi, hx, ?_⟩
      by_cases h1 : i = a
      · subst h1; rw [upd_at]; exact he
      · rw [upd_ne _ _ h1]; exact he
  out id hid := by rw [upd_ne _ _ (by have := (h.ids a ha).1; omega)]; exact h.out id hid
theorem Good.leave {m : Nat} (h : Good room (m + 1) f x D) : Good room m f (upd x (f m).1 (-1)) (upd D (f m).1 none) where
  le := by have := h.le; omega
  ids i hi := by
    have hn : (f i).1 ≠ (f m).1 := fun e => by have := h.inj (by omega) (by omega) e; omega
    rw [upd_ne _ _ hn, upd_ne _ _ hn]
    exact h.ids i (by omega)
  all id hid := by
    by_cases h1 : id = (f m).1
    · subst h1; exact .inl ⟨by rw [upd_at], by rw [upd_at]⟩
    · rcases h.all id hid with ⟨hx, hn⟩ | ⟨i, hi, hx, he⟩
      · exact .inl ⟨by rw [upd_ne _ _ h1]; exact hx, by rw [upd_ne _ _ h1]; exact hn⟩
      · refine .inr ⟨i, ?_, by rw [upd_ne _ _ h1]; exact hx, he⟩
        have : i ≠ m := fun e => h1 (by rw [← he, e])
        omega
  out id hid := by
    by_cases h1 : id = (f m).1
    · subst h1; rw [upd_at]
    · rw [upd_ne _ _ h1]; exact h.out id hid
end

/-! ### The order of the places. -/
def par (i : Nat) : Nat := (i - 1) / 2
theorem par_lt {i : Nat} (h : 0 < i) : par i < i := by unfold par; omega
def HOrd (n : Nat) (f : Nat → En) : Prop := ∀ i, 0 < i → i < n → ¬ ltH (f i) (f (par i))
def GP (n : Nat) (f : Nat → En) (a : Nat) : Prop := 0 < a → ∀ i, 0 < i → i < n → par i = a → ¬ ltH (f i) (f (par a))
def UpI (n : Nat) (f : Nat → En) (a : Nat) : Prop := (∀ i, 0 < i → i < n → i ≠ a → par i ≠ a → ¬ ltH (f i) (f (par i))) ∧ GP n f a
def DnI (n : Nat) (f : Nat → En) (a : Nat) : Prop := (∀ i, 0 < i → i < n → par i ≠ a → ¬ ltH (f i) (f (par i))) ∧ GP n f a
def upV (f : Nat → En) (a : Nat) : Nat := if ltH (f a) (f (par a)) then par a else a
def dn1 (n : Nat) (f : Nat → En) (a : Nat) : Nat := if 2 * a + 1 < n ∧ ltH (f (2 * a + 1)) (f a) then 2 * a + 1 else a
def downV (n : Nat) (f : Nat → En) (a : Nat) : Nat := if 2 * a + 2 < n ∧ ltH (f (2 * a + 2)) (f (dn1 n f a)) then 2 * a + 2 else dn1 n f a
theorem up_lt {f : Nat → En} {a : Nat} (h : upV f a ≠ a) : upV f a < a ∧ upV f a = par a ∧ ltH (f a) (f (par a)) := by
  unfold upV at *
  split at h
  · rename_i hl
    rw [if_pos hl]
    refine ⟨?_, rfl, hl⟩
    rcases Nat.eq_zero_or_pos a with rfl | k
    · exact absurd rfl h
    · exact par_lt k
  · exact absurd rfl h
theorem up_step {n : Nat} {f : Nat → En} {a : Nat} (ha : a < n) (h : UpI n f a) (hs : upV f a ≠ a) : UpI n (sw f a (upV f a)) (upV f a) := by
  obtain ⟨h1, h2, h3⟩ := up_lt hs
  rw [h2] at h1 ⊢
  have ha0 : 0 < a := by omega
  constructor
  · intro i i0 i1 i2 i3
    by_cases e1 : i = a
    · subst e1; exact absurd rfl i3
    · rw [sw_ne _ e1 i2]
      by_cases e2 : par i = a
      · rw [e2, sw_a]
        exact h.2 ha0 i i0 i1 e2
      · rw [sw_ne _ e2 i3]
        exact h.1 i i0 i1 e1 e2
  · intro hp i i0 i1 i2
    have hpp := par_lt hp
    rw [sw_ne _ (show par (par a) ≠ a by omega) (show par (par a) ≠ par a by omega)]
    have k1 := h.1 (par a) hp (by omega) (by omega) (by omega)
    by_cases e1 : i = a
    · subst e1
      rw [sw_a]
      exact k1
    · have hpi := par_lt i0
      rw [sw_ne _ e1 (by omega)]
      have k2 := h.1 i i0 i1 e1 (by omega)
      rw [i2] at k2
      exact ltH.le_trans k1 k2
theorem up_end {n : Nat} {f : Nat → En} {a : Nat} (h : UpI n f a) (hs : upV f a = a) : DnI n f a := by
  refine ⟨fun i i0 i1 i2 => ?_, h.2⟩
  by_cases e1 : i = a
  · subst e1
    intro hl
    unfold upV at hs
    rw [if_pos hl] at hs
    have := par_lt i0
    omega
  · exact h.1 i i0 i1 e1 i2
theorem dn_is {n : Nat} {f : Nat → En} {a : Nat} (hs : downV n f a ≠ a) : a < downV n f a ∧ downV n f a < n ∧ par (downV n f a) = a ∧ ltH (f (downV n f a)) (f a) ∧ ∀ c, c < n → 0 < c → par c = a → ¬ ltH (f c) (f (downV n f a)) := by
  have hc : ∀ c, 0 < c → par c = a → c = 2 * a + 1 ∨ c = 2 * a + 2 := by unfold par; intro c h1 h2; omega
  have p1 : par (2 * a + 1) = a := by unfold par; omega
  have p2 : par (2 * a + 2) = a := by unfold par; omega
  unfold downV at *
  split at hs
  · rename_i h2
    rw [if_pos h2]
    have hd : ¬ ltH (f a) (f (dn1 n f a)) := by
      unfold dn1
      split
      · rename_i h1; exact h1.2.asymm
      · exact ltH.irrefl _
    have hlt : ltH (f (2 * a + 2)) (f a) := by
      unfold dn1 at h2
      split at h2
      · rename_i h1; exact h2.2.trans h1.2
      · exact h2.2
    refine ⟨by omega, h2.1, p2, hlt, fun c c1 c0 hp => ?_⟩
    rcases hc c c0 hp with rfl | rfl
    · have h3 := h2.2
      unfold dn1 at h3
      split at h3
      · exact h3.asymm
      · rename_i h4
        have h5 : ¬ ltH (f (2 * a + 1)) (f a) := fun k => h4 ⟨c1, k⟩
        exact ltH.le_trans hlt.asymm h5
    · exact ltH.irrefl _
  · rename_i h2
    rw [if_neg h2]
    unfold dn1 at h2 hs ⊢
    split at hs
    · rename_i h1
      rw [if_pos h1] at h2 ⊢
      refine ⟨by omega, h1.1, p1, h1.2, fun c c1 c0 hp => ?_⟩
      rcases hc c c0 hp with rfl | rfl
      · exact ltH.irrefl _
      · exact fun k => h2 ⟨c1, k⟩
    · exact absurd rfl hs
theorem dn_end {n : Nat} {f : Nat → En} {a : Nat} (h : DnI n f a) (hs : downV n f a = a) : HOrd n f := by
  intro i i0 i1
  by_cases e : par i = a
  · intro hl
    have hc : i = 2 * a + 1 ∨ i = 2 * a + 2 := by unfold par at e; omega
    rw [e] at hl
    unfold downV dn1 at hs
    rcases hc with rfl | rfl
    · rw [if_pos (show 2 * a + 1 < n ∧ _ from ⟨i1, hl⟩)] at hs
      split at hs <;> omega
    · by_cases h1 : 2 * a + 1 < n ∧ ltH (f (2 * a + 1)) (f a)
      · rw [if_pos h1] at hs
        split at hs <;> omega
      · rw [if_neg h1, if_pos ⟨i1, hl⟩] at hs
        omega
  · exact h.1 i i0 i1 e
theorem dn_step {n : Nat} {f : Nat → En} {a : Nat} (h : DnI n f a) (hs : downV n f a ≠ a) : DnI n (sw f a (downV n f a)) (downV n f a) := by
  obtain ⟨h1, h2, h3, h4, h5⟩ := dn_is hs
  generalize downV n f a = c at *
  constructor
  · intro i i0 i1 i2
    have hpi := par_lt i0
    by_cases e1 : i = a
    · subst e1
      rw [sw_a, sw_ne _ (by omega) i2]
      exact h.2 i0 c (by omega) h2 h3
    · by_cases e2 : i = c
      · subst e2
        rw [sw_b, h3, sw_a]
        exact h4.asymm
      · rw [sw_ne _ e1 e2]
        by_cases e3 : par i = a
        · rw [e3, sw_a]
          exact h5 i i1 i0 e3
        · rw [sw_ne _ e3 i2]
          exact h.1 i i0 i1 e3
  · intro hc i i0 i1 i2
    have hpi := par_lt i0
    rw [h3, sw_a, sw_ne _ (by omega) (by omega)]
    have := h.1 i i0 i1 (by omega)
    rw [i2] at this
    exact this
/-- Where one place alone has changed. -/
theorem HOrd.but {n m : Nat} {f g : Nat → En} {a : Nat} (h : HOrd n f) (hg : ∀ i, i < m → i ≠ a → i < n ∧ g i = f i) (hm : ∀ i, a < i → i < m → a < n) : UpI m g a := by
  constructor
  · intro i i0 i1 i2 i3
    have hpi := par_lt i0
    rw [(hg i i1 i2).2, (hg (par i) (by omega) i3).2]
    exact h i i0 (hg i i1 i2).1
  · intro ha i i0 i1 i2
    have hpi := par_lt i0
    have hpa := par_lt ha
    rw [(hg i i1 (by omega)).2, (hg (par a) (by omega) (by omega)).2]
    have k1 := h i i0 (hg i i1 (by omega)).1
    rw [i2] at k1
    exact ltH.le_trans (h a ha (hm i (by omega) i1)) k1
theorem HOrd.cut {n m : Nat} {f g : Nat → En} (h : HOrd n f) (hm : m ≤ n) (hg : ∀ i, i < m → g i = f i) : HOrd m g := by
  intro i i0 i1
  have hpi := par_lt i0
  rw [hg i i1, hg _ (by omega)]
  exact h i i0 (by omega)
theorem HOrd.first {n : Nat} {f : Nat → En} (h : HOrd n f) (i : Nat) (hi : i < n) : ¬ ltH (f i) (f 0) := by
  induction i using Nat.strongRecOn with
  | ind i ih =>
    rcases Nat.eq_zero_or_pos i with rfl | i0
    · exact ltH.irrefl _
    · have hpi := par_lt i0
      exact ltH.le_trans (ih (par i) hpi (by omega)) (h i i0 hi)

/-! ### The document's list. -/
def Rep (R : List En) (D : Nat → Option Int) : Prop := R.Pairwise ltH ∧ ∀ id d, (id, d) ∈ R ↔ D id = some d
theorem Rep.nil : Rep [] (fun _ => none) := ⟨List.Pairwise.nil, fun id d => by simp⟩
theorem Rep.id_eq {R : List En} {D : Nat → Option Int} (h : Rep R D) {a b : En} (ha : a ∈ R) (hb : b ∈ R) (e : a.1 = b.1) : a = b := by
  have h1 := (h.2 a.1 a.2).1 ha
  have h2 := (h.2 b.1 b.2).1 hb
  rw [e, h2] at h1
  exact Prod.ext e (Option.some.inj h1).symm
theorem Rep.remove {R : List En} {D : Nat → Option Int} (h : Rep R D) {k : Nat} (hk : k < R.length) : Rep (R.take k ++ R.drop (k + 1)) (upd D (R[k]).1 none) := by
  have hsub : (R.take k ++ R.drop (k + 1)).Sublist R := by
    have : R = R.take k ++ R.drop k := (List.take_append_drop k R).symm
    conv => rhs; rw [this]
    exact List.Sublist.append (List.Sublist.refl _) (List.drop_sublist_drop_left R (Nat.le_succ k))
  refine ⟨h.1.sublist hsub, fun id d => ?_⟩
  have hR : R = R.take k ++ R[k] :: R.drop (k + 1) := by rw [List.getElem_cons_drop, List.take_append_drop]
  have hnd : ∀ b ∈ R.take k ++ R.drop (k + 1), b.1 ≠ R[k].1 := by
    intro b hb e
    have h1 : b = R[k] := h.id_eq (hsub.subset hb) (List.getElem_mem hk) e
    have hp := h.1
    rw [hR, List.pairwise_append] at hp
    rcases List.mem_append.1 hb with hb | hb
    · have h9 := hp.2.2 b hb R[k] (List.mem_cons_self ..)
      rw [h1] at h9
      exact ltH.irrefl _ h9
    · have h9 := (List.pairwise_cons.1 hp.2.1).1 b hb
      rw [h1] at h9
      exact ltH.irrefl _ h9
  by_cases e : id = R[k].1
  · subst e
    rw [upd_at]
    constructor
    · intro hm; exact absurd rfl (hnd (R[k].1, d) hm)
    · intro hm; cases hm
  · rw [upd_ne _ _ e, ← h.2 id d]
    constructor
    · exact fun hm => hsub.subset hm
    · intro hm
      rw [hR] at hm
      rcases List.mem_append.1 hm with hm | hm
      · exact List.mem_append_left _ hm
      · rcases List.mem_cons.1 hm with hm | hm
        · exact absurd (by rw [← hm]) e
        · exact List.mem_append_right _ hm
theorem Rep.put {R : List En} {D : Nat → Option Int} (h : Rep R D) {e : En} (hd : D e.1 = none) {k : Nat} (hk : k ≤ R.length) (h1 : ∀ j (hj : j < R.length), j < k → ltH R[j] e) (h2 : ∀ (hj : k < R.length), ¬ ltH R[k] e) :
    Rep (R.take k ++ e :: R.drop k) (upd D e.1 (some e.2)) := by
  have hne : ∀ b ∈ R, b.1 ≠ e.1 := fun b hb he => by
    have := (h.2 b.1 b.2).1 hb
    rw [he, hd] at this
    cases this
  have hp := h.1
  rw [← List.take_append_drop k R, List.pairwise_append] at hp
  have hdr : ∀ b ∈ R.drop k, ltH e b := by
    intro b hb
    by_cases hkl : k < R.length
    · have hc : R.drop k = R[k] :: R.drop (k + 1) := (List.getElem_cons_drop hkl).symm
      have h3 : ltH e R[k] := ltH.tri (h2 hkl) (hne _ (List.getElem_mem hkl))
      have hp2 := hp.2.1
      rw [hc] at hb hp2
      rcases List.mem_cons.1 hb with rfl | hb
      · exact h3
      · exact h3.trans ((List.pairwise_cons.1 hp2).1 b hb)
    · rw [List.drop_eq_nil_of_le (by omega)] at hb
      cases hb
  have htk : ∀ b ∈ R.take k, ltH b e := by
    intro b hb
    obtain ⟨j, hj, rfl⟩ := List.mem_iff_getElem.1 hb
    simp only [List.length_take] at hj
    rw [List.getElem_take]
    exact h1 j (by omega) (by omega)
  refine ⟨?_, fun id d => ?_⟩
  · rw [List.pairwise_append]
    refine ⟨hp.1, List.pairwise_cons.2 ⟨hdr, hp.2.1⟩, fun a ha b hb => ?_⟩
    rcases List.mem_cons.1 hb with rfl | hb
    · exact htk a ha
    · exact hp.2.2 a ha b hb
  · have hm : (id, d) ∈ R ↔ (id, d) ∈ R.take k ∨ (id, d) ∈ R.drop k := by rw [← List.mem_append, List.take_append_drop]
    rw [List.mem_append, List.mem_cons]
    by_cases he : id = e.1
    · subst he
      rw [upd_at]
      constructor
      · rintro (hx | hx | hx)
        · exact absurd rfl (hne (e.1, d) (hm.2 (.inl hx)))
        · rw [← hx]
        · exact absurd rfl (hne (e.1, d) (hm.2 (.inr hx)))
      · intro hx
        exact .inr (.inl (Prod.ext rfl (Option.some.inj hx).symm))
    · rw [upd_ne _ _ he, ← h.2 id d, hm]
      constructor
      · rintro (hx | hx | hx)
        · exact .inl hx
        · exact absurd (by rw [← hx]) he
        · exact .inr hx
      · rintro (hx | hx)
        · exact .inl hx
        · exact .inr (.inr hx)
theorem Rep.find {R : List En} {D : Nat → Option Int} (h : Rep R D) {k : Nat} (hk : k < R.length) : D R[k].1 = some R[k].2 := (h.2 _ _).1 (List.getElem_mem hk)
theorem Rep.not_in {R : List En} {D : Nat → Option Int} (h : Rep R D) {id : Nat} (hn : ∀ j (hj : j < R.length), R[j].1 ≠ id) : D id = none := by
  cases hd : D id with
  | none => rfl
  | some d =>
    obtain ⟨j, hj, e⟩ := List.mem_iff_getElem.1 ((h.2 id d).2 hd)
    exact absurd (by rw [e]) (hn j hj)
/-- The heap's list. -/
def rowH (n : Nat) (f : Nat → En) : List En := (List.range n).map f
theorem row_nodup {room n : Nat} {f : Nat → En} {x : Nat → Int} {D : Nat → Option Int} (h : Good room n f x D) : (rowH n f).Nodup := by
  unfold rowH List.Nodup
  rw [List.pairwise_map]
  exact (List.pairwise_lt_range (n := n)).imp_of_mem fun {a b} ha hb hlt e => by
    have := h.inj (List.mem_range.1 ha) (List.mem_range.1 hb) (by rw [e])
    omega
theorem rep_nodup {R : List En} {D : Nat → Option Int} (h : Rep R D) : R.Nodup := h.1.imp (S := fun a b => a ≠ b) fun {a b} hl e => by subst e; exact ltH.irrefl _ hl
theorem mem_row {room n : Nat} {f : Nat → En} {x : Nat → Int} {D : Nat → Option Int} (h : Good room n f x D) (id : Nat) (d : Int) : (id, d) ∈ rowH n f ↔ D id = some d := by
  unfold rowH
  rw [List.mem_map]
  constructor
  · rintro ⟨i, hi, he⟩
    have := (h.ids i (List.mem_range.1 hi)).2.2
    rw [he] at this
    exact this
  · intro hd
    obtain ⟨i, hi, _, he, _⟩ := h.place hd
    exact ⟨i, List.mem_range.2 hi, he⟩
theorem row_perm {room n : Nat} {f : Nat → En} {x : Nat → Int} {R : List En} {D : Nat → Option Int} (h : Good room n f x D) (k : Rep R D) : (rowH n f).Perm R := by
  rw [List.perm_iff_count]
  intro a
  have e : a ∈ rowH n f ↔ a ∈ R := by
    obtain ⟨id, d⟩ := a
    rw [mem_row h, k.2]
  by_cases ha : a ∈ R
  · have h1 := List.nodup_iff_count.1 (row_nodup h) a
    have h2 := List.nodup_iff_count.1 (rep_nodup k) a
    have h3 := List.count_pos_iff.2 ha
    have h4 := List.count_pos_iff.2 (e.2 ha)
    omega
  · rw [List.count_eq_zero.2 ha, List.count_eq_zero.2 (fun hx => ha (e.1 hx))]
theorem row_len {room n : Nat} {f : Nat → En} {x : Nat → Int} {R : List En} {D : Nat → Option Int} (h : Good room n f x D) (k : Rep R D) : n = R.length := by
  have := (row_perm h k).length_eq
  simpa [rowH] using this
/-- The first one. -/
theorem first_is {room n : Nat} {f : Nat → En} {x : Nat → Int} {R : List En} {D : Nat → Option Int} (h : Good room n f x D) (ho : HOrd n f) (k : Rep R D) (hn : 0 < R.length) : f 0 = R[0] := by
  have hl := row_len h k
  have h1 : f 0 ∈ R := (row_perm h k).subset (List.mem_map.2 ⟨0, List.mem_range.2 (by omega), rfl⟩)
  obtain ⟨i, hi, he⟩ := List.mem_map.1 ((row_perm h k).symm.subset (List.getElem_mem hn))
  have h2 := ho.first i (List.mem_range.1 hi)
  rw [he] at h2
  obtain ⟨j, hj, hje⟩ := List.mem_iff_getElem.1 h1
  rcases Nat.eq_zero_or_pos j with rfl | hj0
  · exact hje.symm
  · have := List.pairwise_iff_getElem.1 k.1 0 j hn hj hj0
    rw [hje] at this
    exact absurd this h2
end Go.Proofs.YtchbehnkkcjdgaaGreat
