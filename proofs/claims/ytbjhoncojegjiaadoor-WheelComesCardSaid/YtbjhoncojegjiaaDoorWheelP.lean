/- Plain facts: which timer lies in which slot; a step of the wheel. -/
import Derived.Test.YtbjhoncojegjiaaDoorWheelD
import Derived.Test.YtbjhoncojegjiaaDoorWheelG
namespace Go.Proofs.YtbjhoncojegjiaaDoor
open Go.ChangeShapes Go.WideShapes Go.ChangeAt Go.RowKit
set_option linter.unusedVariables false

theorem nodup_le : ∀ (N : Nat) (l : List Nat), l.Nodup → (∀ i ∈ l, i < N) → l.length ≤ N
  | 0, l, _, h => by
    cases l with
    | nil => simp
    | cons a _ => exact absurd (h a (by simp)) (by omega)
  | N + 1, l, hn, h => by
    by_cases hN : N ∈ l
    · have h1 := nodup_le N (l.erase N) (hn.erase N) (fun i hi => by
        have h2 := (List.Nodup.mem_erase_iff hn).1 hi
        have := h i h2.2
        have := h2.1
        omega)
      rw [List.length_erase_of_mem hN] at h1
      omega
    · exact Nat.le_succ_of_le (nodup_le N l hn (fun i hi => by
        have := h i hi
        have : i ≠ N := fun e => hN (e ▸ hi)
        omega))
/-- Each timer that is set lies in the slot of its tick. -/
structure WLog (n : Nat) (y : Nat → Int) (L : Nat → List Nat) : Prop where
  rng : ∀ i, i < 256 → y i = 0 ∨ ∃ t : Nat, y i = t ∧ n < t ∧ t ≤ 4611686018427387904
  mem : ∀ k i, k < 256 → (i ∈ L k ↔ i < 256 ∧ ∃ t : Nat, y i = t ∧ n < t ∧ slotK n t = k)
  nodup : ∀ k, k < 256 → (L k).Nodup
theorem WLog.len {n : Nat} {y : Nat → Int} {L : Nat → List Nat} (h : WLog n y L) {k : Nat} (hk : k < 256) : (L k).length ≤ 256 := nodup_le 256 _ (h.nodup k hk) fun i hi => ((h.mem k i hk).1 hi).1
theorem WLog.new (n : Nat) : WLog n (fun _ => 0) (fun _ => []) := ⟨fun _ _ => .inl rfl, fun k i _ => ⟨fun h => by simp at h, fun ⟨_, t, h1, h2, _⟩ => by have h1 : (0 : Int) = t := h1; omega⟩, fun _ _ => List.nodup_nil⟩
theorem WLog.set {n t : Nat} {y : Nat → Int} {L : Nat → List Nat} (h : WLog n y L) {i : Nat} (hi : i < 256) (h0 : y i = 0) (h1 : n < t) (h2 : t ≤ 4611686018427387904) (hk : slotK n t < 256) : WLog n (updR y i t) (updR L (slotK n t) (L (slotK n t) ++ [i])) := by
  have hno : ∀ k, k < 256 → i ∉ L k := fun k hk hm => by
    obtain ⟨_, t', h3, h4, _⟩ := (h.mem k i hk).1 hm
    omega
  refine ⟨fun j hj => ?_, fun k j hk' => ?_, fun k hk' => ?_⟩
  · by_cases e : j = i
    · subst e; rw [updR_at]; exact .inr ⟨t, rfl, h1, h2⟩
    · rw [updR_ne _ _ e]; exact h.rng j hj
  · by_cases e : j = i
    · subst e
      rw [updR_at]
      by_cases ek : k = slotK n t
      · subst ek; rw [updR_at]; exact ⟨fun _ => ⟨hi, t, rfl, h1, rfl⟩, fun _ => by simp⟩
      · rw [updR_ne _ _ ek]
        refine ⟨fun hm => absurd hm (hno k hk'), fun ⟨_, t', h3, _, h5⟩ => ?_⟩
        have : t' = t := by omega
        subst this
        exact absurd h5.symm ek
    · rw [updR_ne _ _ e]
      by_cases ek : k = slotK n t
      · subst ek
        rw [updR_at, List.mem_append]
        exact ⟨fun hm => (h.mem _ j hk).1 (hm.elim id fun h9 => absurd (by simpa using h9) e), fun hm => .inl ((h.mem _ j hk).2 hm)⟩
      · rw [updR_ne _ _ ek]; exact h.mem k j hk'
  · by_cases ek : k = slotK n t
    · subst ek
      rw [updR_at]
      exact List.nodup_append.2 ⟨h.nodup _ hk, by simp, fun a ha b hb e => hno _ hk (by simp at hb; subst hb; subst e; exact ha)⟩
    · rw [updR_ne _ _ ek]; exact h.nodup k hk'
theorem WLog.cancel {n t : Nat} {y : Nat → Int} {L : Nat → List Nat} (h : WLog n y L) {i : Nat} (hi : i < 256) (h0 : y i = t) (h1 : n < t) (hk : slotK n t < 256) : ∃ l1 l2, L (slotK n t) = l1 ++ i :: l2 ∧ i ∉ l1 ∧ WLog n (updR y i 0) (updR L (slotK n t) (l1 ++ l2)) := by
  obtain ⟨l1, l2, hL, hn⟩ := List.eq_append_cons_of_mem ((h.mem _ i hk).2 ⟨hi, t, h0, h1, rfl⟩)
  refine ⟨l1, l2, hL, hn, ?_⟩
  have hd := h.nodup _ hk
  rw [hL] at hd
  have hd2 : (l1 ++ l2).Nodup ∧ i ∉ l2 := by
    rw [List.nodup_append] at hd
    obtain ⟨a, b, c⟩ := hd
    rw [List.nodup_cons] at b
    exact ⟨List.nodup_append.2 ⟨a, b.2, fun p hp q hq => c p hp q (List.mem_cons_of_mem _ hq)⟩, b.1⟩
  refine ⟨fun j hj => ?_, fun k j hk' => ?_, fun k hk' => ?_⟩
  · by_cases e : j = i
    · subst e; rw [updR_at]; exact .inl rfl
    · rw [updR_ne _ _ e]; exact h.rng j hj
  · by_cases e : j = i
    · subst e
      rw [updR_at]
      refine ⟨fun hm => ?_, fun ⟨_, t', h3, h4, _⟩ => by have h3 : (0 : Int) = t' := h3; omega⟩
      by_cases ek : k = slotK n t
      · subst ek
        rw [updR_at, List.mem_append] at hm
        exact (hm.elim hn hd2.2).elim
      · rw [updR_ne _ _ ek] at hm
        obtain ⟨_, t', h3, _, h5⟩ := (h.mem k j hk').1 hm
        have : t' = t := by omega
        subst this
        exact absurd h5.symm ek
    · rw [updR_ne _ _ e]
      by_cases ek : k = slotK n t
      · subst ek
        rw [updR_at, ← h.mem _ j hk, hL]
        simp only [List.mem_append, List.mem_cons]
        exact ⟨fun h9 => h9.elim .inl (fun h8 => .inr (.inr h8)), fun h9 => h9.elim .inl (fun h8 => h8.elim (fun h7 => absurd h7 e) .inr)⟩
      · rw [updR_ne _ _ ek]; exact h.mem k j hk'
  · by_cases ek : k = slotK n t
    · subst ek; rw [updR_at]; exact hd2.1
    · rw [updR_ne _ _ ek]; exact h.nodup k hk'
/-- In the midst of a step to n: what is left of the slot whose turn it is, and who has come. -/
structure GMid (n : Nat) (y0 y : Nat → Int) (L : Nat → List Nat) (rest C : List Nat) : Prop where
  is : L (turnK n) = rest
  rin : ∀ i, i ∈ rest → i < 256 ∧ ∃ t : Nat, y i = t ∧ n ≤ t ∧ t ≤ 4611686018427387904 ∧ slotK (n - 1) t = turnK n
  cin : ∀ i, i ∈ C ↔ i < 256 ∧ y0 i = n ∧ i ∉ rest
  cno : C.Nodup
  yc : ∀ i, y i = if i ∈ C then 0 else y0 i
  rng : ∀ i, i < 256 → i ∉ rest → y i = 0 ∨ ∃ t : Nat, y i = t ∧ n < t ∧ t ≤ 4611686018427387904
  mem : ∀ k i, k < 256 → k ≠ turnK n → (i ∈ L k ↔ i < 256 ∧ i ∉ rest ∧ ∃ t : Nat, y i = t ∧ n < t ∧ slotK n t = k)
  notk : ∀ i, i < 256 → i ∉ rest → ∀ t : Nat, y i = t → n < t → slotK n t ≠ turnK n
  nodup : ∀ k, k < 256 → (L k).Nodup
section
variable {n : Nat} {y0 y : Nat → Int} {L : Nat → List Nat} {rest C : List Nat}
theorem GMid.start (h0 : n ≠ 0) (hn : n ≤ 4611686018427387904) (h : WLog (n - 1) y0 L) : GMid n y0 y0 L (L (turnK n)) [] := by
  have ht := turnK_lt h0 (by omega : n < 2 ^ 64)
  have hin : ∀ i, i ∈ L (turnK n) ↔ i < 256 ∧ ∃ t : Nat, y0 i = t ∧ n - 1 < t ∧ slotK (n - 1) t = turnK n := fun i => h.mem _ i ht
  have hstay : ∀ i, i < 256 → i ∉ L (turnK n) → ∀ t : Nat, y0 i = t → n - 1 < t → t ≤ 4611686018427387904 → slotK n t = slotK (n - 1) t ∧ t ≠ n ∧ slotK (n - 1) t ≠ turnK n := fun i hi hno t e h1 h2 => by
    have hs : slotK (n - 1) t ≠ turnK n := fun e2 => hno ((hin i).2 ⟨hi, t, e, h1, e2⟩)
    have := slot_stay h0 (by omega) (by omega : t < 2 ^ 64) (by omega) hs
    exact ⟨this.1, this.2, hs⟩
  refine ⟨rfl, fun i hi => ?_, fun i => ?_, List.nodup_nil, fun i => by simp, fun i hi hno => ?_, fun k i hk hkt => ?_, fun i hi hno t e h1 => ?_, h.nodup⟩
  · obtain ⟨h1, t, h2, h3, h4⟩ := (hin i).1 hi
    refine ⟨h1, t, h2, by omega, ?_, h4⟩
    rcases h.rng i h1 with h5 | ⟨t', h5, _, h6⟩ <;> omega
  · refine ⟨fun h => by simp at h, fun ⟨h1, h2, h3⟩ => ?_⟩
    exact absurd ((hin i).2 ⟨h1, n, h2, by omega, slot_own h0 (by omega)⟩) h3
  · rcases h.rng i hi with h5 | ⟨t, h5, h6, h7⟩
    · exact .inl h5
    · have := hstay i hi hno t h5 h6 h7
      exact .inr ⟨t, h5, by omega, h7⟩
  · rw [h.mem k i hk]
    constructor
    · rintro ⟨h1, t, h2, h3, h4⟩
      have hno : i ∉ L (turnK n) := fun hm => by
        obtain ⟨_, t', h5, _, h6⟩ := (hin i).1 hm
        have : t' = t := by omega
        subst this
        omega
      have htl : t ≤ 4611686018427387904 := by rcases h.rng i h1 with h5 | ⟨t', h5, _, h6⟩ <;> omega
      have := hstay i h1 hno t h2 h3 htl
      exact ⟨h1, hno, t, h2, by omega, by rw [this.1, h4]⟩
    · rintro ⟨h1, hno, t, h2, h3, h4⟩
      have htl : t ≤ 4611686018427387904 := by rcases h.rng i h1 with h5 | ⟨t', h5, _, h6⟩ <;> omega
      have := hstay i h1 hno t h2 (by omega) htl
      exact ⟨h1, t, h2, by omega, by rw [← this.1, h4]⟩
  · have htl : t ≤ 4611686018427387904 := by rcases h.rng i hi with h5 | ⟨t', h5, _, h6⟩ <;> omega
    have := hstay i hi hno t e (by omega) htl
    rw [this.1]; exact this.2.2
theorem GMid.len (h : GMid n y0 y L rest C) {k : Nat} (hk : k < 256) : (L k).length ≤ 256 := nodup_le 256 _ (h.nodup k hk) fun i hi => by
  by_cases e : k = turnK n
  · rw [e, h.is] at hi; exact (h.rin i hi).1
  · exact ((h.mem k i hk e).1 hi).1
theorem GMid.last {l : List Nat} {x : Nat} (h : GMid n y0 y L (l ++ [x]) C) (ht : turnK n < 256) : x ∉ l ∧ l.Nodup ∧ x ∉ C := by
  have hd := h.nodup _ ht
  rw [h.is, List.nodup_append] at hd
  exact ⟨fun hx => hd.2.2 x hx x (by simp) rfl, hd.1, fun hx => ((h.cin x).1 hx).2.2 (by simp)⟩
/-- One comes. -/
theorem GMid.come {l : List Nat} {x : Nat} (h : GMid n y0 y L (l ++ [x]) C) (ht : turnK n < 256) (hx : y x = n) : GMid n y0 (updR y x 0) (updR L (turnK n) l) l (C ++ [x]) := by
  obtain ⟨h1, h2, h3⟩ := h.last ht
  have hxl := h.rin x (by simp)
  have hy0 : y0 x = n := by have := h.yc x; rw [if_neg h3] at this; rw [← this, hx]
  refine ⟨updR_at _ _ _, fun i hi => ?_, fun i => ?_, ?_, fun i => ?_, fun i hi hno => ?_, fun k i hk hkt => ?_, fun i hi hno t e h4 => ?_, fun k hk => ?_⟩
  · have hne : i ≠ x := fun e => h1 (e ▸ hi)
    rw [updR_ne _ _ hne]
    exact h.rin i (by simp [hi])
  · rw [List.mem_append, h.cin i, List.mem_append]
    by_cases e : i = x
    · subst e; simp [hxl.1, hy0, h1]
    · simp [e]
  · exact List.nodup_append.2 ⟨h.cno, by simp, fun a ha b hb e => h3 (by simp at hb; subst hb; subst e; exact ha)⟩
  · by_cases e : i = x
    · subst e; rw [updR_at, if_pos (by simp)]
    · rw [updR_ne _ _ e, h.yc i]; simp [e]
  · by_cases e : i = x
    · subst e; rw [updR_at]; exact .inl rfl
    · rw [updR_ne _ _ e]; exact h.rng i hi (by simp [hno, e])
  · rw [updR_ne _ _ hkt, h.mem k i hk hkt]
    by_cases e : i = x
    · subst e
      rw [updR_at]
      exact ⟨fun h9 => absurd h9.2.1 (by simp), fun ⟨_, _, t, h5, h6, _⟩ => by have h5 : (0 : Int) = t := h5; omega⟩
    · rw [updR_ne _ _ e]; simp [e]
  · by_cases e2 : i = x
    · subst e2; rw [updR_at] at e; have e : (0 : Int) = t := e; omega
    · rw [updR_ne _ _ e2] at e; exact h.notk i hi (by simp [hno, e2]) t e h4
  · by_cases e : k = turnK n
    · subst e; rw [updR_at]; exact h2
    · rw [updR_ne _ _ e]; exact h.nodup k hk
/-- One goes on to a lower level. -/
theorem GMid.lower {l : List Nat} {x t : Nat} (h0 : n ≠ 0) (hn : n ≤ 4611686018427387904) (h : GMid n y0 y L (l ++ [x]) C) (ht : turnK n < 256) (hx : y x = t) (hxn : t ≠ n) (hk2 : slotK n t < 256) : slotK n t ≠ turnK n ∧ GMid n y0 y (updR (updR L (turnK n) l) (slotK n t) (L (slotK n t) ++ [x])) l C := by
  obtain ⟨h1, h2, h3⟩ := h.last ht
  obtain ⟨hx1, t', ht1, ht2, ht3, ht4⟩ := h.rin x (by simp)
  have : t' = t := by omega
  subst this
  have hne := slot_go h0 (by omega) (by omega : t' < 2 ^ 64) ht2 ht4 hxn
  have hxno : ∀ k, k < 256 → k ≠ turnK n → x ∉ L k := fun k hk hkt hm => ((h.mem k x hk hkt).1 hm).2.1 (by simp)
  refine ⟨hne, ⟨by rw [updR_ne _ _ hne.symm, updR_at], fun i hi => h.rin i (by simp [hi]), fun i => ?_, h.cno, h.yc, fun i hi hno => ?_, fun k i hk hkt => ?_, fun i hi hno t e h4 => ?_, fun k hk => ?_⟩⟩
  · rw [h.cin i]
    by_cases e : i = x
    · subst e
      have hy0 := h.yc i
      rw [if_neg h3] at hy0
      simp [h1]
      omega
    · simp [e]
  · by_cases e : i = x
    · subst e; exact .inr ⟨t', hx, by omega, ht3⟩
    · exact h.rng i hi (by simp [hno, e])
  · by_cases ek : k = slotK n t'
    · subst ek
      rw [updR_at, List.mem_append, h.mem _ i hk hkt]
      by_cases e : i = x
      · subst e; simp [h1, hx1]; exact ⟨t', hx, by omega, rfl⟩
      · simp [e]
    · rw [updR_ne _ _ ek, updR_ne _ _ hkt, h.mem k i hk hkt]
      by_cases e : i = x
      · subst e
        refine ⟨fun h9 => absurd h9.2.1 (by simp), fun ⟨_, _, t, h5, _, h7⟩ => ?_⟩
        have : t = t' := by omega
        subst this
        exact absurd h7.symm ek
      · simp [e]
  · by_cases e2 : i = x
    · subst e2
      have : t = t' := by omega
      subst this
      exact hne
    · exact h.notk i hi (by simp [hno, e2]) t e h4
  · by_cases ek : k = slotK n t'
    · subst ek
      rw [updR_at]
      exact List.nodup_append.2 ⟨h.nodup _ hk, by simp, fun a ha b hb e => hxno _ hk hne (by simp at hb; subst hb; subst e; exact ha)⟩
    · rw [updR_ne _ _ ek]
      by_cases e : k = turnK n
      · subst e; rw [updR_at]; exact h2
      · rw [updR_ne _ _ e]; exact h.nodup k hk
/-- All are through. -/
theorem GMid.done (h : GMid n y0 y L [] C) : WLog n y L ∧ (∀ i, y i = if i < 256 ∧ y0 i = n then 0 else y0 i) ∧ (∀ i, i ∈ C ↔ i < 256 ∧ y0 i = n) := by
  have hc : ∀ i, i ∈ C ↔ i < 256 ∧ y0 i = n := fun i => by rw [h.cin i]; simp
  refine ⟨⟨fun i hi => h.rng i hi (by simp), fun k i hk => ?_, h.nodup⟩, fun i => ?_, hc⟩
  · by_cases e : k = turnK n
    · subst e
      rw [h.is]
      exact ⟨fun h9 => by simp at h9, fun ⟨h1, t, h2, h3, h4⟩ => absurd h4 (h.notk i h1 (by simp) t h2 h3)⟩
    · rw [h.mem k i hk e]; simp
  · rw [h.yc i]
    simp only [hc i]
end
end Go.Proofs.YtbjhoncojegjiaaDoor
