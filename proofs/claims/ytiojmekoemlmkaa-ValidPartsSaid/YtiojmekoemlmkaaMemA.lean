/- What lies in memory: small facts on blocks, rows, stores; no name of the program in it but int. -/
import Derived.Test.YtiojmekoemlmkaaConfA
namespace Go.Proofs.Ytiojmekoemlmkaa
open Go.ChangeShapes Go.WideShapes Go.ChangeAt Go.RowKit
set_option linter.unusedVariables false

theorem b_alloc {B : Nat} {w w' : World} (h : Below B w w') (hB : B ≤ w.heap.size) (o : Obj) : Below B w (w'.alloc o) := h.alloc (Nat.le_trans hB h.size) o
theorem set_at {w : World} {b j : Nat} {cs : Array Value} {t : TypeId} {u : Value} (h : w.heap[b]? = some (.cells cs t (0, 0))) : (w.setCell ⟨b, j, none⟩ u).heap[b]? = some (.cells (cs.setIfInBounds j u) t (0, 0)) := by
  have hlt := lt_of_block h
  have h' : w.heap[b] = .cells cs t (0, 0) := by simpa [Array.getElem?_eq_getElem hlt] using h
  show (w.heap.modify b _)[b]? = _
  rw [Array.getElem?_eq_getElem (by simpa using hlt), Array.getElem_modify_self, h']
  rfl
theorem cell_in {w : World} {b j : Nat} {cs : Array Value} {t : TypeId} {u : Value} (h : w.heap[b]? = some (.cells cs t (0, 0))) (hu : cs[j]? = some u) : w.cell? ⟨b, j, none⟩ = some u := by
  rw [cell_of_row w b j cs t (0, 0) h]; exact hu
theorem free_in {w : World} {b : Nat} {cs : Array Value} {t : TypeId} (h : w.heap[b]? = some (.cells cs t (0, 0))) (j : Nat) : w.frozen? ⟨b, j, none⟩ = false := by simp [World.frozen?, h]
theorem one_lies {w : World} {b sz : Nat} {cs : Array Value} {t : TypeId} (h : w.heap[b]? = some (.cells cs t (0, 0))) (hs : cs.size = sz) : Lies w b (b + 1) (.slice (some ⟨b, 0, none⟩) 1 1) 1 sz cs.toList :=
  ⟨_, _, rfl, by simpa using hs, (fun h => by cases h), .inr ⟨b, 0, rfl, by omega, by omega, fun k u hu => by rw [Nat.zero_add]; exact cell_in h (by simpa using hu)⟩⟩
theorem flat_one {α : Type} (f : α → List Value) (hf : ∀ x u, u ∈ f x → u.oneCell' = true) (xs : List α) : ∀ u ∈ xs.flatMap f, u.oneCell' = true := by
  intro u hu
  obtain ⟨x, _, h⟩ := List.mem_flatMap.1 hu
  exact hf x u h
theorem tk_one (x : Tk) : ∀ u ∈ x.cells, u.oneCell' = true := by intro u hu; simp [Tk.cells] at hu; rcases hu with h | h | h | h | h | h <;> subst h <;> rfl
theorem sv_one (x : Sv) : ∀ u ∈ x.cells, u.oneCell' = true := by intro u hu; simp [Sv.cells] at hu; rcases hu with h | h | h <;> subst h <;> rfl
theorem wn_one (x : Wn) : ∀ u ∈ x.cells, u.oneCell' = true := by intro u hu; simp [Wn.cells] at hu; rcases hu with h | h | h <;> subst h <;> rfl
theorem ch_one (x : Ch) : ∀ u ∈ x.cells, u.oneCell' = true := by intro u hu; simp [Ch.cells] at hu; rcases hu with h | h | h | h <;> subst h <;> rfl
theorem in_one (x : Int) : ∀ u ∈ intCells x, u.oneCell' = true := by intro u hu; simp [intCells] at hu; subst hu; rfl
theorem take_flat {α : Type} (f : α → List Value) (xs : List α) (k : Nat) (x : α) (h : xs[k]? = some x) : (xs.take (k + 1)).flatMap f = (xs.take k).flatMap f ++ f x := by
  rw [List.take_add_one, h]; simp
theorem fresh_none (sz : Nat) : Fresh #[] 0 0 sz [] := ⟨by simp, by omega, by simp [maxLen], by simp, by simp⟩
theorem Lies.sv {w : World} {b off : Nat} {xs : List Sv} {i : Nat} {x : Sv} (h : ∀ k u, (xs.flatMap Sv.cells)[k]? = some u → w.cell? ⟨b, off + k, none⟩ = some u) (hx : xs[i]? = some x) :
    w.cell? ⟨b, off + i * 3, none⟩ = some (.bool x.re) ∧ w.cell? ⟨b, off + i * 3 + 1, none⟩ = some (.int .i64 x.c) ∧ w.cell? ⟨b, off + i * 3 + 2, none⟩ = some (.int .i64 x.t) := by
  have f := fun j hj => flat_at Sv.cells 3 (fun _ => rfl) xs i j x hx hj
  have g := fun j hj u hu => by
    have := h (i * 3 + j) u ((f j hj).trans hu)
    rwa [← Nat.add_assoc] at this
  exact ⟨g 0 (by omega) _ rfl, g 1 (by omega) _ rfl, g 2 (by omega) _ rfl⟩
theorem Try.infoInt : (Try.prog.info? 3).map (fun i => (i.zero, i.size, i.bytes)) = some (some (.int .i64 0), 1, 8) := by kernel_rfl
/-- All but blocks of the types E and T is kept. -/
def KeepsBut (E T : TypeId) (w w' : World) : Prop := ∀ (b : Nat) (cs : Array Value) (t : TypeId) (fr : Nat × Nat), w.heap[b]? = some (Obj.cells cs t fr) → t ≠ E → t ≠ T → w'.heap[b]? = some (Obj.cells cs t fr)
theorem KeepsBut.refl (E T : TypeId) (w : World) : KeepsBut E T w w := fun _ _ _ _ h _ _ => h
theorem KeepsBut.trans {E T : TypeId} {a b c : World} (h : KeepsBut E T a b) (k : KeepsBut E T b c) : KeepsBut E T a c := fun x cs t fr hx h1 h2 => k x cs t fr (h x cs t fr hx h1 h2) h1 h2
theorem KeepsBut.of_below {E T : TypeId} {w w' : World} (h : Below w.heap.size w w') : KeepsBut E T w w' := fun b cs t fr hb _ _ => (h.block b (lt_of_block hb)).trans hb
theorem KeepsBut.of_grown {E T : TypeId} {w w' : World} {base sz : Nat} {v : Value} {n : Nat} {xs : List Value} (hg : w.grownBy w' v.ownBlock) (hown : w.ownsRow base E sz v n xs) : KeepsBut E T w w' := fun b cs t fr hb h1 _ => grown_keep hg hown hb h1
theorem KeepsBut.set {E T : TypeId} {w : World} {a : Addr} {cs : Array Value} {fr : Nat × Nat} (hX : w.heap[a.block]? = some (.cells cs T fr)) (u : Value) : KeepsBut E T w (w.setCell a u) := fun b cs' t fr' hb _ h2 => by
  rw [Below.heap_setCell _ _ _ _ (fun e => ?_)]
  · exact hb
  · subst e; rw [hX] at hb; simp at hb; exact h2 hb.2.1.symm
theorem KeepsBut.owns {E T : TypeId} {w w' : World} (h : KeepsBut E T w w') {base e sz : Nat} {v : Value} {n : Nat} {xs : List Value} (ho : w.ownsRow base e sz v n xs) (h1 : e ≠ E) (h2 : e ≠ T) : w'.ownsRow base e sz v n xs := by
  obtain ⟨hl, ho⟩ := ho
  refine ⟨hl, ?_⟩
  rcases ho with ho | ⟨g, cap, cur, hv, hb, hgr, ho⟩
  · exact .inl ho
  · exact .inr ⟨g, cap, cur, hv, hb, h g cur e (0, 0) hgr h1 h2, ho⟩

theorem owns_base {w : World} {base base' e sz : Nat} {v : Value} {n : Nat} {xs : List Value} (ho : w.ownsRow base e sz v n xs) (hb : base' ≤ base) : w.ownsRow base' e sz v n xs := by
  obtain ⟨hl, ho⟩ := ho
  refine ⟨hl, ?_⟩
  rcases ho with ho | ⟨g, cap, cur, hv, hg, ho⟩
  · exact .inl ho
  · exact .inr ⟨g, cap, cur, hv, by omega, ho⟩
theorem owns_later {w w' : World} {base e sz : Nat} {v : Value} {n : Nat} {xs : List Value} (ho : w.ownsRow base e sz v n xs) (hb : Below w.heap.size w w') : w'.ownsRow base e sz v n xs :=
  (KeepsBut.of_below (E := e + 1) (T := e + 1) hb).owns ho (by omega) (by omega)
theorem Lies.wn {w : World} {b off : Nat} {xs : List Wn} {i : Nat} {x : Wn} (h : ∀ k u, (xs.flatMap Wn.cells)[k]? = some u → w.cell? ⟨b, off + k, none⟩ = some u) (hx : xs[i]? = some x) :
    w.cell? ⟨b, off + i * 3, none⟩ = some (.int .i64 x.at_) ∧ w.cell? ⟨b, off + i * 3 + 1, none⟩ = some (.int .i64 x.len) ∧ w.cell? ⟨b, off + i * 3 + 2, none⟩ = some (.int .i64 x.part) := by
  have f := fun j hj => flat_at Wn.cells 3 (fun _ => rfl) xs i j x hx hj
  have g := fun j hj u hu => by
    have := h (i * 3 + j) u ((f j hj).trans hu)
    rwa [← Nat.add_assoc] at this
  exact ⟨g 0 (by omega) _ rfl, g 1 (by omega) _ rfl, g 2 (by omega) _ rfl⟩
theorem Lies.ch {w : World} {b off : Nat} {xs : List Ch} {i : Nat} {x : Ch} (h : ∀ k u, (xs.flatMap Ch.cells)[k]? = some u → w.cell? ⟨b, off + k, none⟩ = some u) (hx : xs[i]? = some x) :
    w.cell? ⟨b, off + i * 4, none⟩ = some (.bool x.queue) ∧ w.cell? ⟨b, off + i * 4 + 1, none⟩ = some (.int .i64 x.from_) ∧ w.cell? ⟨b, off + i * 4 + 2, none⟩ = some (.int .i64 x.to) ∧ w.cell? ⟨b, off + i * 4 + 3, none⟩ = some (.int .i64 x.size) := by
  have f := fun j hj => flat_at Ch.cells 4 (fun _ => rfl) xs i j x hx hj
  have g := fun j hj u hu => by
    have := h (i * 4 + j) u ((f j hj).trans hu)
    rwa [← Nat.add_assoc] at this
  exact ⟨g 0 (by omega) _ rfl, g 1 (by omega) _ rfl, g 2 (by omega) _ rfl, g 3 (by omega) _ rfl⟩
end Go.Proofs.Ytiojmekoemlmkaa
