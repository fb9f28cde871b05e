/- How those that lead into some are found, round by round: no program in it. -/
import Derived.Test.YtkikapodobeaaaaFlowN
namespace Go.Proofs.Ytkikapodobeaaaa
open Go.ChangeShapes Go.WideShapes Go.ChangeAt Go.RowKit Go.Maps Go.Sort
set_option linter.unusedVariables false

/-- Those found, and those to be looked at. -/
structure Bfs (c : Cf) (l : List Int) (s : List Bool) (T : List Int) : Prop where
  len : s.length = c.ps.length
  only : ∀ i : Nat, s[i]? = some true → Leads c l (i : Int)
  todo : ∀ x ∈ T, hasB c.ps.length x = true → Leads c l x
  base : ∀ i : Nat, (i : Int) ∈ l → i < c.ps.length → s[i]? = some true ∨ (i : Int) ∈ T
  clos : ∀ a b : Nat, stepE c a b → s[b]? = some true → s[a]? = some true ∨ (a : Int) ∈ T
theorem Bfs.start (c : Cf) (l : List Int) : Bfs c l (List.replicate c.ps.length false) l := by
  have no : ∀ i : Nat, (List.replicate c.ps.length false)[i]? = some true → False := by
    intro i h
    have := (List.getElem?_eq_some_iff.1 h).2
    simp at this
  exact ⟨by simp, fun i h => (no i h).elim, fun x hx hh => .of hx hh, fun i hi _ => .inr hi, fun a b _ h => (no b h).elim⟩
theorem Bfs.perm {c : Cf} {l : List Int} {s : List Bool} {T U : List Int} (h : Bfs c l s T) (hU : ∀ x, x ∈ T ↔ x ∈ U) : Bfs c l s U :=
  ⟨h.len, h.only, fun x hx hh => h.todo x ((hU x).2 hx) hh, fun i h1 h2 => (h.base i h1 h2).imp id (hU _).1, fun a b h1 h2 => (h.clos a b h1 h2).imp id (hU _).1⟩
theorem has_nat {n : Nat} {i : Nat} (h : i < n) : hasB n (i : Int) = true := by unfold hasB; rw [decide_eq_true_eq]; omega
theorem Bfs.none {c : Cf} {l : List Int} {s : List Bool} {x : Int} {T : List Int} (h : Bfs c l s (x :: T)) (hx : hasB c.ps.length x = false) : Bfs c l s T := by
  have key : ∀ i : Nat, i < c.ps.length → (i : Int) ∈ x :: T → (i : Int) ∈ T := by
    intro i hi hm
    rcases List.mem_cons.1 hm with e | hm
    · rw [← e, has_nat hi] at hx; cases hx
    · exact hm
  refine ⟨h.len, h.only, fun y hy hh => h.todo y (List.mem_cons_of_mem _ hy) hh, fun i h1 h2 => (h.base i h1 h2).imp id (key i h2), fun a b h1 h2 => (h.clos a b h1 h2).imp id (key a ?_)⟩
  have := (isE_has h1.is).1; omega
theorem Bfs.there {c : Cf} {l : List Int} {s : List Bool} {j : Nat} {T : List Int} (h : Bfs c l s ((j : Int) :: T)) (hx : s[j]? = some true) : Bfs c l s T := by
  have key : ∀ i : Nat, (s[i]? = some true ∨ (i : Int) ∈ (j : Int) :: T) → s[i]? = some true ∨ (i : Int) ∈ T := by
    rintro i (hi | hm)
    · exact .inl hi
    · rcases List.mem_cons.1 hm with e | hm
      · have : i = j := by omega
        subst this; exact .inl hx
      · exact .inr hm
  exact ⟨h.len, h.only, fun y hy hh => h.todo y (List.mem_cons_of_mem _ hy) hh, fun i h1 h2 => key i (h.base i h1 h2), fun a b h1 h2 => key a (h.clos a b h1 h2)⟩
theorem Bfs.found {c : Cf} {l : List Int} {s : List Bool} {j : Nat} {T F : List Int} (h : Bfs c l s ((j : Int) :: T)) (hj : j < c.ps.length) (hF : ∀ a : Int, a ∈ F ↔ stepE c a (j : Int)) : Bfs c l (s.set j true) (T ++ F) := by
  have hjs : j < s.length := by rw [h.len]; exact hj
  have hl : Leads c l (j : Int) := h.todo _ (List.mem_cons_self ..) (has_nat hj)
  have key : ∀ i : Nat, (s[i]? = some true ∨ (i : Int) ∈ (j : Int) :: T) → (s.set j true)[i]? = some true ∨ (i : Int) ∈ T ++ F := by
    rintro i (hi | hm)
    · exact .inl ((set_true hjs).2 (.inr hi))
    · rcases List.mem_cons.1 hm with e | hm
      · exact .inl ((set_true hjs).2 (.inl (by omega)))
      · exact .inr (List.mem_append_left _ hm)
  refine ⟨by rw [List.length_set]; exact h.len, fun i hi => ?_, fun x hx hh => ?_, fun i h1 h2 => key i (h.base i h1 h2), fun a b h1 h2 => ?_⟩
  · rcases (set_true hjs).1 hi with rfl | hi
    · exact hl
    · exact h.only i hi
  · rcases List.mem_append.1 hx with hx | hx
    · exact h.todo x (List.mem_cons_of_mem _ hx) hh
    · exact .on ((hF x).1 hx).is hl
  · rcases (set_true hjs).1 h2 with rfl | h2
    · exact .inr (List.mem_append_right _ ((hF _).2 h1))
    · exact key a (h.clos a b h1 h2)
theorem Bfs.done {c : Cf} {l : List Int} {s : List Bool} (h : Bfs c l s []) : CutOf c l s := by
  have hs : ∀ a b : Nat, stepE c a b → s[b]? = some true → s[a]? = some true := fun a b h1 h2 => (h.clos a b h1 h2).resolve_right (by simp)
  have row : ∀ (r : List Int), r ∈ rowsV c → ∀ (d x : Nat) (u v : Nat), r[x]? = some (u : Int) → r[x + (d + 1)]? = some (v : Int) → s[v]? = some true → s[u]? = some true := by
    intro r hr d
    induction d with
    | zero => intro x u v h1 h2 h3; exact hs u v ⟨r, hr, x, h1, h2⟩ h3
    | succ d ih =>
      intro x u v h1 h2 h3
      have hlt := (List.getElem?_eq_some_iff.1 h2).1
      obtain ⟨m, hm⟩ : ∃ m, r[x + (d + 1)]? = some m := ⟨_, List.getElem?_eq_getElem (by omega)⟩
      have hh := hasB_true (rowsV_has hr m (List.mem_of_getElem? hm))
      have e : ((m.toNat : Nat) : Int) = m := by omega
      rw [← e] at hm
      exact ih x u m.toNat h1 hm (hs m.toNat v ⟨r, hr, x + (d + 1), hm, by rw [show x + (d + 1) + 1 = x + (d + 1 + 1) by omega]; exact h2⟩ h3)
  have hcl : Closed c s := by
    intro a b he hb
    obtain ⟨r, hr, hl⟩ := isE_rows.1 he
    obtain ⟨x, y, hxy, h1, h2⟩ := laterB_iff.1 hl
    obtain ⟨d, rfl⟩ : ∃ d, y = x + (d + 1) := ⟨y - x - 1, by omega⟩
    exact row r hr d x a b h1 h2 hb
  exact Inv.cut hcl h.len (fun i h1 h2 => (h.base i h1 h2).resolve_right (by simp)) h.only
theorem cntT_set : ∀ {s : List Bool} {j : Nat}, s[j]? = some false → cntT (s.set j true) = cntT s + 1
  | [], j, h => by simp at h
  | x :: s, 0, h => by simp at h; subst h; simp [cntT]
  | x :: s, j + 1, h => by
    have := cntT_set (s := s) (j := j) (by simpa using h)
    unfold cntT at this ⊢
    rw [List.set_cons_succ, List.count_cons, List.count_cons, this]
    omega
def isTr : Value → Bool
  | .bool b => b
  | _ => false
/-- How many are true in a block. -/
def cntW (w : World) (G : Nat) : Nat := match w.heap[G]? with
  | some (.cells arr _ _) => arr.toList.countP isTr
  | _ => 0
def BoolAt (w : World) (G : Nat) (s : List Bool) : Prop := w.heap[G]? = some (.cells (s.map Value.bool).toArray 4 (0, 0))
theorem BoolAt.cnt {w : World} {G : Nat} {s : List Bool} (h : BoolAt w G s) : cntW w G = cntT s := by
  unfold BoolAt at h
  unfold cntW cntT
  rw [h]
  simp only [List.countP_map]
  rw [List.count_eq_countP]
  congr 1
  funext b
  cases b <;> rfl
theorem BoolAt.later {w w' : World} {G : Nat} {s : List Bool} (h : BoolAt w G s) (hb : Below w.heap.size w w') : BoolAt w' G s := (hb.block G (lt_of_block h)).trans h
theorem BoolAt.set {w : World} {G : Nat} {s : List Bool} (h : BoolAt w G s) (j : Nat) (b : Bool) : BoolAt (w.setCell ⟨G, j, none⟩ (.bool b)) G (s.set j b) := by
  have := set_at (j := j) (u := .bool b) h
  unfold BoolAt
  rw [this]
  congr 2
  rw [List.map_set]
  simp
theorem BoolAt.cell {w : World} {G : Nat} {s : List Bool} (h : BoolAt w G s) {j : Nat} {b : Bool} (hb : s[j]? = some b) : w.cell? ⟨G, j, none⟩ = some (.bool b) ∧ w.frozen? ⟨G, j, none⟩ = false := ⟨cell_in h (by simp [hb]), free_in h j⟩
theorem BoolAt.lies {w : World} {G : Nat} {s : List Bool} (h : BoolAt w G s) {n : Nat} (hn : s.length = n) : Lies w G (G + 1) (.slice (some ⟨G, 0, none⟩) n n) n 1 (s.map Value.bool) :=
  ⟨_, _, rfl, by simp [hn], (fun e => by cases e), .inr ⟨G, 0, rfl, Nat.le_refl _, by omega, fun k u hu => by rw [Nat.zero_add]; exact cell_in h (by simpa using hu)⟩⟩
theorem Heads.but {w w' : World} {X base G n : Nat} {vs : List Value} {f : Nat → List Int} (h : Heads w base G n vs f) (hb : But X w w') {s : List Bool} (hX : BoolAt w X s) : Heads w' base G n vs f := by
  have ne : ∀ k cs t, w.heap[k]? = some (.cells cs t (0, 0)) → t ≠ 4 → k ≠ X := by
    rintro k cs t hk ht rfl
    unfold BoolAt at hX
    rw [hX] at hk
    cases hk
    exact ht rfl
  exact ⟨(hb.block G (lt_of_block h.blk) (ne _ _ _ h.blk (by decide))).trans h.blk, h.len, fun i v hv => owns_hold (h.own i v hv) ⟨hb.size, fun g hg => by
    obtain ⟨_, cs, hc⟩ := owns_block (h.own i v hv) g hg
    exact hb.block g (lt_of_block hc) (ne _ _ _ hc (by decide))⟩, h.dis⟩
theorem froms_short {c : Cf} {ss : List (Int × Int)} (h1 : ss.Nodup) (h2 : ∀ e, e ∈ ss ↔ stepE c e.1 e.2) (b : Nat) : (froms ss b).length ≤ c.ps.length :=
  pig _ _ (froms_nodup h1 b) (fun x hx => (isE_has ((h2 _).1 (froms_mem.1 hx)).is).1)
end Go.Proofs.Ytkikapodobeaaaa
