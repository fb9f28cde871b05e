/- Plain facts of a row that goes around. -/
import Derived.Test.YtoebbbghllkdgaaOwnS
namespace Go.Proofs.Ytoebbbghllkdgaa
set_option linter.unusedVariables false

def updF {α : Type} (v : Nat → α) (i : Nat) (x : α) : Nat → α := fun j => if j = i then x else v j
theorem updF_at {α : Type} (v : Nat → α) (i : Nat) (x : α) : updF v i x i = x := if_pos rfl
theorem updF_ne {α : Type} (v : Nat → α) {i j : Nat} (x : α) (h : j ≠ i) : updF v i x j = v j := if_neg h
/-- c of them, from f on, around at n. -/
def ringL {α : Type} (v : Nat → α) (f n c : Nat) : List α := (List.range c).map fun j => v ((f + j) % n)
theorem ringL_len {α : Type} (v : Nat → α) (f n c : Nat) : (ringL v f n c).length = c := by simp [ringL]
theorem ringL_get {α : Type} (v : Nat → α) (f n c j : Nat) (h : j < (ringL v f n c).length) : (ringL v f n c)[j] = v ((f + j) % n) := by simp [ringL]
theorem ringL_zero {α : Type} (v : Nat → α) (f n : Nat) : ringL v f n 0 = [] := rfl
theorem around {f n j : Nat} (hf : f < n) (hj : j ≤ n) : (f + j) % n = if f + j < n then f + j else f + j - n := by
  split
  · exact Nat.mod_eq_of_lt (by assumption)
  · rw [Nat.mod_eq_sub_mod (by omega), Nat.mod_eq_of_lt (by omega)]
theorem around_lt {f n j : Nat} (hf : f < n) : (f + j) % n < n := Nat.mod_lt _ (by omega)
theorem around_ne {f n j k : Nat} (hf : f < n) (hj : j < n) (hk : k < n) (h : j ≠ k) : (f + j) % n ≠ (f + k) % n := by
  rw [around hf (by omega), around hf (by omega)]
  split <;> split <;> omega
theorem ringL_congr {α : Type} {v v' : Nat → α} {f n c : Nat} (h : ∀ j, j < c → v ((f + j) % n) = v' ((f + j) % n)) : ringL v f n c = ringL v' f n c :=
  List.map_congr_left fun j hj => h j (List.mem_range.1 hj)
theorem ringL_push {α : Type} {v : Nat → α} {f n c : Nat} (x : α) (hf : f < n) (hc : c < n) : ringL (updF v ((f + c) % n) x) f n (c + 1) = ringL v f n c ++ [x] := by
  have h : ringL (updF v ((f + c) % n) x) f n c = ringL v f n c := ringL_congr fun j hj => updF_ne _ _ (around_ne hf (by omega) hc (by omega))
  rw [← h]
  unfold ringL
  rw [List.range_succ, List.map_append]
  simp [updF_at]
theorem ringL_cons {α : Type} {v : Nat → α} {f n c : Nat} (hf : f < n) : ringL v f n (c + 1) = v f :: ringL v ((f + 1) % n) n c := by
  unfold ringL
  rw [List.range_succ_eq_map, List.map_cons, List.map_map]
  have h0 : (f + 0) % n = f := Nat.mod_eq_of_lt hf
  rw [h0]
  congr 1
  apply List.map_congr_left
  intro j _
  show v ((f + (j + 1)) % n) = v (((f + 1) % n + j) % n)
  rw [Nat.mod_add_mod, show f + 1 + j = f + (j + 1) by omega]
theorem ringL_gone {α : Type} {v : Nat → α} {f n c : Nat} (z : α) (hf : f < n) (hc : c < n) : ringL (updF v f z) ((f + 1) % n) n c = ringL v ((f + 1) % n) n c :=
  ringL_congr fun j hj => updF_ne _ _ (by
    rw [Nat.mod_add_mod, show f + 1 + j = f + (j + 1) by omega]
    have := around_ne hf (show 0 < n by omega) (show j + 1 < n by omega) (by omega)
    rw [show f + 0 = f by omega, Nat.mod_eq_of_lt hf] at this
    exact fun h => this h.symm)
theorem ringL_set {α : Type} {v : Nat → α} {f n c i : Nat} (x : α) (hf : f < n) (hc : c ≤ n) (hi : i < c) : ringL (updF v ((f + i) % n) x) f n c = (ringL v f n c).set i x := by
  apply List.ext_getElem
  · simp [ringL_len]
  · intro j h1 h2
    have hj : j < c := by rw [ringL_len] at h1; exact h1
    rw [ringL_get, List.getElem_set]
    split
    · rename_i e
      subst e
      exact updF_at _ _ _
    · rename_i e
      rw [ringL_get]
      exact updF_ne _ _ (around_ne hf (by omega) (by omega) (fun h => e h.symm))
theorem ringL_take {α : Type} {v : Nat → α} {f n c k : Nat} (hk : k < c) : (ringL v f n c).take (k + 1) = (ringL v f n c).take k ++ [v ((f + k) % n)] := by
  rw [List.take_add_one, List.getElem?_eq_getElem (by rw [ringL_len]; exact hk), ringL_get]
  rfl
end Go.Proofs.Ytoebbbghllkdgaa
