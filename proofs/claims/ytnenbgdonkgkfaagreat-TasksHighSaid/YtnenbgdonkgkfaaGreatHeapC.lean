/- Who is ahead of whom. -/
import Derived.Test.YtnenbgdonkgkfaaGreatHeapP
import Derived.Test.YtnenbgdonkgkfaaGreatCmp
import Derived.BigQuiet
import Derived.Shelf.SlSortCmp.WholeK
namespace Go.Proofs.YtnenbgdonkgkfaaGreat
open Go.ChangeShapes Go.WideShapes Go.ChangeAt Go.RowKit Go.Shelf Go.Lib Go.Sort
set_option linter.unusedVariables false

def enC (e : En) : List Value := [.int .i64 (e.1 : Nat), .int .i64 e.2]
def enV (e : En) : Value := .agg #[.int .i64 (e.1 : Nat), .int .i64 e.2]
def cmpH (x y : En) : Int := orV (Lib.compareInt x.2 y.2) (Lib.compareInt (x.1 : Nat) (y.1 : Nat))
theorem lt_cmpH : ltOf cmpH = fun x y => decide (ltH x y) := by
  funext x y
  unfold ltOf cmpH orV
  rw [compare_is, compare_is, Bool.eq_iff_iff, decide_eq_true_eq, decide_eq_true_eq]
  unfold ltH
  repeat' split
  all_goals omega
theorem cmpH_lt (x y : En) : decide (cmpH x y < 0) = decide (ltH x y) := by
  have := congrFun (congrFun lt_cmpH x) y
  simpa [ltOf] using this
set_option maxRecDepth 100000 in
set_option maxHeartbeats 4000000 in
theorem cmpH_any (x y : En) (W : World) : Calls Tryz.prog 71 #[.agg #[.int .i64 (x.1 : Nat), .int .i64 x.2], .agg #[.int .i64 (y.1 : Nat), .int .i64 y.2]] W fun e w' => e = .returned (.int .i64 (cmpH x y)) ∧ Gr W w' := by
  obtain ⟨x0, x1⟩ := x
  obtain ⟨y0, y1⟩ := y
  have HR0 : cmpH (x0, x1) (y0, y1) = orV (Lib.compareInt x1 y1) (Lib.compareInt (x0 : Nat) (y0 : Nat)) := rfl
  dsimp only
  generalize (x0 : Int) = a0 at HR0 ⊢
  generalize (y0 : Int) = c0 at HR0 ⊢
  have HR := Lib.hid HR0
  clear HR0
  obtain ⟨V, hV⟩ : ∃ V, V = (W.alloc (.cells #[.int .i64 a0, .int .i64 x1] 97)).alloc (.cells #[.int .i64 c0, .int .i64 y1] 97) := ⟨_, rfl⟩
  have HG : Hid (Gr W V) := Lib.hid (by rw [hV]; exact ((Gr.refl W).alloc _).alloc _)
  have b0 : V.heap[W.heap.size]? = some (.cells #[.int .i64 a0, .int .i64 x1] 97 (0, 0)) := by rw [hV]; exact (Below.heap_alloc _ _ _ (by simp)).trans (heap_alloc_new _ _)
  have b1 : V.heap[W.heap.size + 1]? = some (.cells #[.int .i64 c0, .int .i64 y1] 97 (0, 0)) := by
    rw [hV]
    have := heap_alloc_new (W.alloc (.cells #[.int .i64 a0, .int .i64 x1] 97)) (.cells #[.int .i64 c0, .int .i64 y1] 97)
    simpa using this
  have ks : ∀ X : World, Gr V X → (Gr V X ∧ X.cell? ⟨W.heap.size, 0, none⟩ = some (.int .i64 a0) ∧ X.cell? ⟨W.heap.size, 1, none⟩ = some (.int .i64 x1) ∧ X.cell? ⟨W.heap.size + 1, 0, none⟩ = some (.int .i64 c0) ∧ X.cell? ⟨W.heap.size + 1, 1, none⟩ = some (.int .i64 y1)) :=
    fun X h => ⟨h, cell_in (h.block b0) rfl, cell_in (h.block b0) rfl, cell_in (h.block b1) rfl, cell_in (h.block b1) rfl⟩
  have KS := Lib.hid ks
  have HV := Lib.hid hV
  obtain ⟨_, k0, k1, k2, k3⟩ := ks V (Gr.refl V)
  clear ks b0 b1 hV
  go_enter Tryz.func71, Tryz.ntmps71
  go_wp2_with fail
  rw [← HV.out]
  go_region_held3 (fun X => Gr V X ∧ X.cell? ⟨W.heap.size, 0, none⟩ = some (.int .i64 a0) ∧ X.cell? ⟨W.heap.size, 1, none⟩ = some (.int .i64 x1) ∧ X.cell? ⟨W.heap.size + 1, 0, none⟩ = some (.int .i64 c0) ∧ X.cell? ⟨W.heap.size + 1, 1, none⟩ = some (.int .i64 y1))
    (first | exact KS.out _ ((Gr.refl V).drew) | exact KS.out _ (((Gr.refl V).drew).alloc _) | exact KS.out _ (((Gr.refl V).alloc _).drew) | (go_split_ands; exact KS.out _ (Gr.drew (by assumption))) | (go_split_ands; exact KS.out _ (Gr.alloc (by assumption) _)) | (go_split_ands; exact KS.out _ (by assumption)) | fail "no")
    (first
    | (go_at_call 79; refine (or_any _ _ _ _ (cell_in (cs := #[.int .i64 (Lib.compareInt x1 y1), .int .i64 (Lib.compareInt a0 c0)]) (t := 3) (by (show (World.alloc _ _).heap[_]? = _; rw [heap_at, if_pos (by simp)])) rfl) (cell_in (cs := #[.int .i64 (Lib.compareInt x1 y1), .int .i64 (Lib.compareInt a0 c0)]) (t := 3) (by (show (World.alloc _ _).heap[_]? = _; rw [heap_at, if_pos (by simp)])) rfl)).mono ?_; rintro e w3 ⟨rfl, rfl⟩)
    | (go_at_call 80; refine (compare_any _ _ _).mono ?_; rintro e w4 ⟨rfl, rfl⟩)
    | fail "no arm")
  go_wp2_with fail
  go_ret
  exact ⟨by rw [HR.out]; rfl, (HG.out.alloc _).drew⟩
set_option maxRecDepth 100000 in
set_option maxHeartbeats 4000000 in
theorem ahead_any (W room n : Nat) (f : Nat → En) (w : World) (h : WhoAt w W room f) {a b : Nat} (hn : n ≤ room) (ha : a < n) (hb : b < n) : Calls Tryz.prog 82 #[.slice (some ⟨W, 0, none⟩) n room, .int .i64 a, .int .i64 b] w fun e w' => e = .returned (.bool (decide (ltH (f a) (f b)))) ∧ Below w.heap.size w w' := by
  have ks : ∀ X : World, Below w.heap.size w X → (Below w.heap.size w X ∧ X.cell? ⟨W, a * 2, none⟩ = some (.int .i64 ((f a).1 : Nat)) ∧ X.cell? ⟨W, a * 2 + 1, none⟩ = some (.int .i64 (f a).2) ∧ X.cell? ⟨W, b * 2, none⟩ = some (.int .i64 ((f b).1 : Nat)) ∧ X.cell? ⟨W, b * 2 + 1, none⟩ = some (.int .i64 (f b).2)) := fun X hX => by
    have h' : WhoAt X W room f := h.same (hX.block W h.lt)
    obtain ⟨a0, a1, _, _⟩ := h'.at_ (show a < room by omega)
    obtain ⟨b0, b1, _, _⟩ := h'.at_ (show b < room by omega)
    exact ⟨hX, a0, a1, b0, b1⟩
  have KS := Lib.hid ks
  obtain ⟨_, k0, k1, k2, k3⟩ := ks w (Below.refl _ w)
  have HR : Hid (∀ K, K = cmpH (f a) (f b) → decide (K < 0) = decide (ltH (f a) (f b))) := Lib.hid (fun K hK => by rw [hK]; exact cmpH_lt _ _)
  have a0 : (0 : Int) ≤ (a : Int) := by omega
  have a1 : (a : Int) < (n : Int) := by omega
  have a2 : decide ((a : Int) < (n : Int)) = true := decide_eq_true a1
  have b0 : (0 : Int) ≤ (b : Int) := by omega
  have b1 : (b : Int) < (n : Int) := by omega
  have b2 : decide ((b : Int) < (n : Int)) = true := decide_eq_true b1
  clear ks h
  obtain ⟨e1, he1⟩ : ∃ e, e = f a := ⟨_, rfl⟩
  obtain ⟨e2, he2⟩ : ∃ e, e = f b := ⟨_, rfl⟩
  rw [← he1] at k0 k1 HR KS
  rw [← he2] at k2 k3 HR KS
  have HE := Lib.hid (And.intro he1 he2)
  clear he1 he2
  go_enter Tryz.func82, Tryz.ntmps82
  go_wp2_with fail
  go_region_held3 (fun X => Below w.heap.size w X ∧ X.cell? ⟨W, a * 2, none⟩ = some (.int .i64 (e1.1 : Nat)) ∧ X.cell? ⟨W, a * 2 + 1, none⟩ = some (.int .i64 e1.2) ∧ X.cell? ⟨W, b * 2, none⟩ = some (.int .i64 (e2.1 : Nat)) ∧ X.cell? ⟨W, b * 2 + 1, none⟩ = some (.int .i64 e2.2))
    (first | exact KS.out _ ((Below.refl _ w).drew) | (go_split_ands; exact KS.out _ (Below.trans (by assumption) (hb4.mono (Below.size (by assumption))))) | (go_split_ands; exact KS.out _ (by assumption)) | exact KS.out _ (by assumption) | fail "no")
    (first
    | (go_at_call 71; refine (cmpH_any e1 e2 _).mono ?_; rintro e w4 ⟨rfl, hg4⟩; have hb4 := hg4.below; obtain ⟨K, hK⟩ : ∃ K, K = cmpH e1 e2 := ⟨_, rfl⟩; have HK4 := Lib.hid hK; rw [← hK]; clear hK)
    | fail "no arm")
  go_wp2_with fail
  go_ret
  obtain ⟨h1, h2⟩ := HE.out
  subst h1 h2
  rename_i hHeld
  rw [HR.out _ HK4.out]
  exact ⟨rfl, hHeld.1⟩
end Go.Proofs.YtnenbgdonkgkfaaGreat
