/- A reader of systems in memory: its state; truth, magic, fields. -/
import Derived.Test.YtiombjkjoehjpaaImageI
namespace Go.Proofs.Ytiombjkjoehjpaa
open Go.ChangeShapes Go.WideShapes Go.ChangeAt Go.RowKit
set_option linter.unusedVariables false

/-- All stays but these blocks. -/
structure ButL (S : List Nat) (w w' : World) : Prop where
  os : w'.os = w.os
  tape : w'.tape = w.tape
  output : w'.output = w.output
  size : w.heap.size ≤ w'.heap.size
  block : ∀ k, k < w.heap.size → k ∉ S → w'.heap[k]? = w.heap[k]?
theorem ButL.refl (S : List Nat) (w : World) : ButL S w w := ⟨rfl, rfl, rfl, Nat.le_refl _, fun _ _ _ => rfl⟩
theorem ButL.trans {S : List Nat} {a b c : World} (h : ButL S a b) (k : ButL S b c) : ButL S a c :=
  ⟨k.os.trans h.os, k.tape.trans h.tape, k.output.trans h.output, Nat.le_trans h.size k.size, fun i hi hx => (k.block i (Nat.lt_of_lt_of_le hi h.size) hx).trans (h.block i hi hx)⟩
theorem ButL.of_below {S : List Nat} {w w' : World} (h : Below w.heap.size w w') : ButL S w w' := ⟨h.os, h.tape, h.output, h.size, fun k hk _ => h.block k hk⟩
theorem ButL.alloc {S : List Nat} {a w : World} (h : ButL S a w) (o : Obj) : ButL S a (w.alloc o) := h.trans (ButL.of_below (below1 _ _))
theorem ButL.of_but {S : List Nat} {X : Nat} {w w' : World} (h : But X w w') (hX : X ∈ S) : ButL S w w' := ⟨h.os, h.tape, h.output, h.size, fun k hk hn => h.block k hk fun e => hn (e ▸ hX)⟩
theorem ButL.set {S : List Nat} {a w : World} (h : ButL S a w) {b : Nat} (hb : b ∈ S) (j : Nat) (u : Value) : ButL S a (w.setCell ⟨b, j, none⟩ u) :=
  h.trans ⟨rfl, rfl, rfl, by simp [World.setCell], fun k _ hx => Below.heap_setCell _ _ _ _ (fun e => hx (e ▸ hb))⟩
theorem ButL.more {S S' : List Nat} {w w' : World} (h : ButL S w w') (hs : ∀ k, k < w.heap.size → k ∈ S → k ∈ S') : ButL S' w w' := ⟨h.os, h.tape, h.output, h.size, fun k hk hn => h.block k hk fun e => hn (hs k hk e)⟩
theorem ButL.at {S : List Nat} {w w' : World} (h : ButL S w w') {b : Nat} {o : Obj} (hb : w.heap[b]? = some o) (hx : b ∉ S) : w'.heap[b]? = some o :=
  (h.block b (lt_of_block hb) hx).trans hb
theorem ButL.below {S : List Nat} {w w' : World} (h : ButL S w w') {B : Nat} (hX : ∀ k ∈ S, B ≤ k) (hB : B ≤ w.heap.size) : Below B w w' :=
  ⟨h.os, h.tape, h.output, h.size, fun k hk => h.block k (by omega) fun e => by have := hX k e; omega⟩
theorem ButL.owns {S : List Nat} {w w' : World} (h : ButL S w w') {base e sz : Nat} {v : Value} {n : Nat} {xs : List Value} (ho : w.ownsRow base e sz v n xs) (hX : ∀ k ∈ S, k < base) : w'.ownsRow base e sz v n xs := by
  obtain ⟨hl, ho⟩ := ho
  refine ⟨hl, ?_⟩
  rcases ho with ho | ⟨g, cap, cur, hv, hb, hgr, ho⟩
  · exact .inl ho
  · exact .inr ⟨g, cap, cur, hv, hb, h.at hgr (fun e => by have := hX g e; omega), ho⟩

/-- A reader of systems in memory: blocks X and Y; none: it has gone wrong. -/
def RdS (w : World) (X Y : Nat) (s : Option (List Int)) : Prop := ∃ (e : Int) (wr : Bool) (l : List Int), w.heap[Y]? = some (.cells #[.pointer (some ⟨X, 0, none⟩), .bool wr] 91 (0, 0)) ∧ Rx w X e l ∧ X < Y ∧ (match s with
  | none => e ≠ 0 ∨ wr = true
  | some l' => e = 0 ∧ wr = false ∧ l = l')
theorem RdS.lt {w : World} {X Y : Nat} {s : Option (List Int)} (h : RdS w X Y s) : X < Y ∧ Y < w.heap.size := by obtain ⟨e, wr, l, h1, h2, h3, _⟩ := h; exact ⟨h3, lt_of_block h1⟩
theorem RdS.keep {w w' : World} {X Y : Nat} {s : Option (List Int)} (h : RdS w X Y s) (k : Below w.heap.size w w') : RdS w' X Y s := by
  obtain ⟨e, wr, l, h1, h2, h3, h4⟩ := h
  have := lt_of_block h1
  exact ⟨e, wr, l, (k.block Y this).trans h1, h2.keep (SameIn.of_below k (by omega)), h3, h4⟩
/-- A store elsewhere, above. -/
theorem RdS.set {w : World} {X Y B : Nat} {s : Option (List Int)} (h : RdS w X Y s) (hB : Y < B) (j : Nat) (u : Value) : RdS (w.setCell ⟨B, j, none⟩ u) X Y s := by
  obtain ⟨e, wr, l, h1, h2, h3, h4⟩ := h
  have hb : Below (Y + 1) w (w.setCell ⟨B, j, none⟩ u) := (Below.refl _ _).setCell (p := ⟨B, j, none⟩) hB u
  exact ⟨e, wr, l, (hb.block Y (by omega)).trans h1, h2.keep (SameIn.of_below hb (by omega)), h3, h4⟩
theorem RdS.wrong {w : World} {X Y : Nat} {s : Option (List Int)} (h : RdS w X Y s) : RdS (w.setCell ⟨Y, 1, none⟩ (.bool true)) X Y none := by
  obtain ⟨e, wr, l, h1, h2, h3, h4⟩ := h
  have hb : Below Y w (w.setCell ⟨Y, 1, none⟩ (.bool true)) := (Below.refl _ _).setCell (p := ⟨Y, 1, none⟩) (Nat.le_refl _) _
  exact ⟨e, true, l, set_at (j := 1) h1, h2.keep (SameIn.of_below hb (by omega)), h3, .inr rfl⟩
/-- What was read of what was left. -/
def Got {α : Type} (s : Option (List Int)) (p : Rd α) (x : α) (s' : Option (List Int)) : Prop := match s with
  | none => s' = none
  | some l => match p l with
    | none => s' = none
    | some (y, l') => y = x ∧ s' = some l'
theorem Got.two {α β : Type} {s s1 s2 : Option (List Int)} {p : Rd α} {q : Rd β} {x : α} {y : β} (h : Got s p x s1) (k : Got s1 q y s2) : Got s (rdTwo p q) (x, y) s2 := by
  unfold Got rdTwo at *
  cases s with
  | none => simp only at h ⊢; subst h; exact k
  | some l =>
    simp only at h ⊢
    cases hp : p l with
    | none => rw [hp] at h; simp only at h ⊢; subst h; exact k
    | some z =>
      obtain ⟨z1, z2⟩ := z
      rw [hp] at h
      simp only at h ⊢
      obtain ⟨rfl, rfl⟩ := h
      simp only at k ⊢
      cases hq : q z2 with
      | none => rw [hq] at k; exact k
      | some u => rw [hq] at k; obtain ⟨u1, u2⟩ := u; simp only at k ⊢; exact ⟨by rw [k.1], k.2⟩
theorem Got.map {α β : Type} {s s1 : Option (List Int)} {p : Rd α} {x : α} (g : α → β) (h : Got s p x s1) : Got s (rdMap g p) (g x) s1 := by
  unfold Got rdMap at *
  cases s with
  | none => exact h
  | some l =>
    simp only at h ⊢
    cases hp : p l with
    | none => rw [hp] at h; exact h
    | some z => obtain ⟨z1, z2⟩ := z; rw [hp] at h; simp only at h ⊢; exact ⟨by rw [h.1], h.2⟩
theorem Got.nil {α : Type} (s : Option (List Int)) (p : Rd α) : Got s (rdList p 0) [] s := by
  unfold Got rdList
  cases s <;> simp
theorem Got.snoc {α : Type} {s s1 s2 : Option (List Int)} {p : Rd α} {n : Nat} {xs : List α} {x : α} (h : Got s (rdList p n) xs s1) (k : Got s1 p x s2) : Got s (rdList p (n + 1)) (xs ++ [x]) s2 := by
  unfold Got at *
  cases s with
  | none => simp only at h ⊢; subst h; exact k
  | some l =>
    simp only at h ⊢
    have e : rdList p (n + 1) l = (match rdList p n l with
      | none => none
      | some (xs, l1) => match p l1 with
        | none => none
        | some (x, l2) => some (xs ++ [x], l2)) := rfl
    rw [e]
    cases hp : rdList p n l with
    | none => rw [hp] at h; simp only at h ⊢; subst h; exact k
    | some z =>
      obtain ⟨z1, z2⟩ := z
      rw [hp] at h
      simp only at h ⊢
      obtain ⟨rfl, rfl⟩ := h
      simp only at k ⊢
      cases hq : p z2 with
      | none => rw [hq] at k; exact k
      | some u => rw [hq] at k; obtain ⟨u1, u2⟩ := u; simp only at k ⊢; exact ⟨by rw [k.1], k.2⟩
theorem Got.many {α : Type} {s s1 s2 : Option (List Int)} {p : Rd α} {n : Int} {xs : List α} (h : Got s (rdN 1) n s1) (k : Got s1 (rdList p n.toNat) xs s2) : Got s (rdMany p) xs s2 := by
  unfold Got rdMany at *
  cases s with
  | none => simp only at h ⊢; subst h; exact k
  | some l =>
    simp only at h ⊢
    cases hp : rdN 1 l with
    | none => rw [hp] at h; simp only at h ⊢; subst h; exact k
    | some z =>
      obtain ⟨z1, z2⟩ := z
      rw [hp] at h
      simp only at h ⊢
      obtain ⟨rfl, rfl⟩ := h
      exact k
theorem Got.flag {s s1 : Option (List Int)} {n : Int} (h : Got s (rdN 1) n s1) (h0 : n = 0 ∨ n = 1) : Got s rdFlag (n == 1) s1 := by
  unfold Got rdFlag at *
  cases s with
  | none => exact h
  | some l =>
    simp only at h ⊢
    cases hp : rdN 1 l with
    | none => rw [hp] at h; exact h
    | some z =>
      obtain ⟨z1, z2⟩ := z
      rw [hp] at h
      simp only at h ⊢
      obtain ⟨rfl, rfl⟩ := h
      rcases h0 with rfl | rfl <;> simp
theorem Got.flag_no {s s1 : Option (List Int)} {n : Int} (h : Got s (rdN 1) n s1) (h0 : ¬ n = 0) (h1 : ¬ n = 1) (b : Bool) : Got s rdFlag b none := by
  unfold Got at *
  cases s with
  | none => rfl
  | some l =>
    simp only at h ⊢
    have e : rdFlag l = none := by
      unfold rdFlag
      cases hp : rdN 1 l with
      | none => rfl
      | some z =>
        obtain ⟨z1, z2⟩ := z
        rw [hp] at h
        simp only at h ⊢
        obtain ⟨rfl, rfl⟩ := h
        rw [if_neg h0, if_neg h1]
    rw [e]
    first | trivial | simp
def rdMagic : Rd Unit := fun l => match rdN 4 l with
  | none => none
  | some (n, l1) => if n = magicV then some ((), l1) else none
theorem Got.magic {s s1 : Option (List Int)} {n : Int} (h : Got s (rdN 4) n s1) (h0 : n = magicV) : Got s rdMagic () s1 := by
  unfold Got rdMagic at *
  cases s with
  | none => exact h
  | some l =>
    simp only at h ⊢
    cases hp : rdN 4 l with
    | none => rw [hp] at h; exact h
    | some z => obtain ⟨z1, z2⟩ := z; rw [hp] at h; simp only at h ⊢; obtain ⟨rfl, rfl⟩ := h; rw [if_pos h0]; simp
theorem Got.magic_no {s s1 : Option (List Int)} {n : Int} (h : Got s (rdN 4) n s1) (h0 : ¬ n = magicV) : Got s rdMagic () none := by
  unfold Got rdMagic at *
  cases s with
  | none => rfl
  | some l =>
    simp only at h ⊢
    cases hp : rdN 4 l with
    | none => simp
    | some z => obtain ⟨z1, z2⟩ := z; rw [hp] at h; simp only at h ⊢; obtain ⟨rfl, rfl⟩ := h; rw [if_neg h0]; simp

theorem getV_bd {e : Int} {l : List Int} {s : Nat} (h : Bytes l) : 0 ≤ (getV e l s).1 ∧ (getV e l s).1 < 256 ^ s := by
  have h0 : (0 : Int) < 256 ^ s := Int.pow_pos (by omega)
  unfold getV
  split
  · split
    · exact ⟨Int.le_refl _, h0⟩
    · have := getL_bd (l.take s) (h.take s)
      rw [List.length_take, Nat.min_eq_left (by omega)] at this
      exact this
  · exact ⟨Int.le_refl _, h0⟩
theorem gGet_any (X Y : Nat) (w : World) (s : Option (List Int)) (z : Nat) (h : RdS w X Y s) (s1 : 1 ≤ z) (s7 : z ≤ 7) :
    Calls Try.prog 72 #[.pointer (some ⟨X, 0, none⟩), .int .i64 (z : Int)] w fun r w' => ∃ n s', r = .returned (.int .i64 n) ∧ 0 ≤ n ∧ n < 256 ^ z ∧ RdS w' X Y s' ∧ Got s (rdN z) n s' ∧ ButL [X, Y] w w' := by
  obtain ⟨e, wr, l, h1, h2, h3, h4⟩ := h
  have hby : Bytes l := by obtain ⟨_, _, _, _, _, _, _, h, _⟩ := h2; exact h
  refine (rGet_any X w e l z h2 s1 s7).mono ?_
  rintro r w' ⟨rfl, hr, hb⟩
  have hy := hb.at h1 (by omega)
  obtain ⟨b0, b1⟩ := getV_bd (e := e) (s := z) hby
  have hbl : ButL [X, Y] w w' := ButL.of_but hb (by simp)
  cases s with
  | none =>
    refine ⟨_, none, rfl, b0, b1, ⟨_, wr, _, hy, hr, h3, ?_⟩, rfl, hbl⟩
    rcases h4 with h4 | h4
    · exact .inl (by unfold getV; rw [if_neg h4]; exact h4)
    · exact .inr h4
  | some l' =>
    obtain ⟨rfl, rfl, rfl⟩ := h4
    by_cases hl : l.length < z
    · refine ⟨_, none, rfl, b0, b1, ⟨_, false, _, hy, hr, h3, .inl (by simp [getV, hl])⟩, ?_, hbl⟩
      unfold Got rdN
      simp [hl]
    · refine ⟨_, some (l.drop z), rfl, b0, b1, ⟨_, false, _, hy, hr, h3, by simp [getV, hl]⟩, ?_, hbl⟩
      unfold Got rdN
      simp [hl, getV]
end Go.Proofs.Ytiombjkjoehjpaa
