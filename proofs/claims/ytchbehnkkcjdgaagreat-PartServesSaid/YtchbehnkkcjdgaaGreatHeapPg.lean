/- Joined of HeapP, HeapC, HeapO, HeapS, HeapE, HeapG, HeapN, HeapL, HeapA, HeapLs: A heap in memory. -/
import Derived.Test.YtchbehnkkcjdgaaGreatPlains
import Derived.Test.YtchbehnkkcjdgaaGreatCells
import Derived.BigRegion
import Derived.Deep.RegionLaw
import Derived.Test.YtchbehnkkcjdgaaGreatCmp
import Derived.BigQuiet
import Derived.Shelf.SlSortCmp.WholeK
import Derived.Shelf.Bits.Mul64
import Derived.Laws.CopyOwn
import Derived.OwnWalk
import Derived.Test.YtchbehnkkcjdgaaGreatRead
import Derived.RangeFuncNested
import Derived.RangeFuncBound
import Derived.RangeFuncCalls
import Derived.RangeFuncLeaves
import Derived.Shelf.Abstract
import Derived.Sort.MapsRangeIn
import Derived.WalkKit
import Derived.OwnWalkIn
import Derived.TacticsInMore
import Derived.LoopNIn
import Derived.LoopIn
import Derived.Maps.AppendAt
import Derived.Shelf.SlSortCmp.NoneTotal
import Derived.Ground.SlsfProg
namespace Go.Proofs.YtchbehnkkcjdgaaGreat
open Go.ChangeShapes Go.WideShapes Go.ChangeAt Go.RowKit
set_option linter.unusedVariables false
theorem upd_setIf (cur : Array Value) (j : Nat) (u : Value) (i : Nat) : (cur.setIfInBounds j u)[i]? = if i = j ∧ i < cur.size then some u else cur[i]? := by
 rw [Array.getElem?_setIfInBounds]
 by_cases h : i = j
 ·subst h
  by_cases hi : i < cur.size <;> simp [hi]
 ·rw [if_neg (fun e => h e.symm), if_neg (fun e => h e.1)]
/-- Who is at each place. -/
def WhoAt (w : World) (G room : Nat) (f : Nat → En) : Prop := ∃ cur, w.heap[G]? = some (.cells cur 231 (0, 0)) ∧ cur.size = room * 2 ∧ ∀ i, i < room → cur[i * 2]? = some (.int .i64 ((f i).1 : Nat)) ∧ cur[i * 2 + 1]? = some (.int .i64 (f i).2)
/-- At which place each number is. -/
def WherAt (w : World) (G room : Nat) (x : Nat → Int) : Prop := ∃ cur, w.heap[G]? = some (.cells cur 3 (0, 0)) ∧ cur.size = room ∧ ∀ i, i < room → cur[i]? = some (.int .i64 (x i))
section
variable {w w' : World} {G room : Nat} {f : Nat → En} {x : Nat → Int}
theorem WhoAt.same (h : WhoAt w G room f) (hs : w'.heap[G]? = w.heap[G]?) : WhoAt w' G room f := by
 obtain ⟨cur, h1, h2⟩ := h
 exact ⟨cur, hs.trans h1, h2⟩
theorem WherAt.same (h : WherAt w G room x) (hs : w'.heap[G]? = w.heap[G]?) : WherAt w' G room x := by
 obtain ⟨cur, h1, h2⟩ := h
 exact ⟨cur, hs.trans h1, h2⟩
theorem WhoAt.lt (h : WhoAt w G room f) : G < w.heap.size := by obtain ⟨cur, h1, _⟩ := h; exact lt_of_block h1
theorem WherAt.lt (h : WherAt w G room x) : G < w.heap.size := by obtain ⟨cur, h1, _⟩ := h; exact lt_of_block h1
theorem WhoAt.at_ (h : WhoAt w G room f) {i : Nat} (hi : i < room) : w.cell? ⟨G, i * 2, none⟩ = some (.int .i64 ((f i).1 : Nat)) ∧ w.cell? ⟨G, i * 2 + 1, none⟩ = some (.int .i64 (f i).2) ∧ w.frozen? ⟨G, i * 2, none⟩ = false ∧ w.frozen? ⟨G, i * 2 + 1, none⟩ = false := by
 obtain ⟨cur, h1, _, h3⟩ := h
 exact ⟨cell_in h1 (h3 i hi).1, cell_in h1 (h3 i hi).2, free_in h1 _, free_in h1 _⟩
theorem WherAt.at_ (h : WherAt w G room x) {i : Nat} (hi : i < room) : w.cell? ⟨G, i, none⟩ = some (.int .i64 (x i)) ∧ w.frozen? ⟨G, i, none⟩ = false := by
 obtain ⟨cur, h1, _, h3⟩ := h
 exact ⟨cell_in h1 (h3 i hi), free_in h1 _⟩
theorem WhoAt.set (h : WhoAt w G room f) {i : Nat} (hi : i < room) (id : Nat) (d : Int) : WhoAt ((w.setCell ⟨G, i * 2, none⟩ (.int .i64 id)).setCell ⟨G, i * 2 + 1, none⟩ (.int .i64 d)) G room (upd f i (id, d)) := by
 obtain ⟨cur, h1, h2, h3⟩ := h
 refine ⟨_, set_at (set_at h1), by simp [h2], fun k hk => ?_⟩
 obtain ⟨a, b⟩ := h3 k hk
 simp only [upd_setIf, Array.size_setIfInBounds, h2]
 by_cases e : k = i
 ·subst e
  rw [upd_at]
  exact ⟨by rw [if_neg (by omega), if_pos (by omega)], by rw [if_pos (by omega)]⟩
 ·rw [upd_ne _ _ e]
  exact ⟨by rw [if_neg (by omega), if_neg (by omega)]; exact a, by rw [if_neg (by omega), if_neg (by omega)]; exact b⟩
theorem WhoAt.due (h : WhoAt w G room f) {i : Nat} (hi : i < room) (d : Int) : WhoAt (w.setCell ⟨G, i * 2 + 1, none⟩ (.int .i64 d)) G room (upd f i ((f i).1, d)) := by
 obtain ⟨cur, h1, h2, h3⟩ := h
 refine ⟨_, set_at h1, by simp [h2], fun k hk => ?_⟩
 obtain ⟨a, b⟩ := h3 k hk
 simp only [upd_setIf, h2]
 by_cases e : k = i
 ·subst e
  rw [upd_at]
  exact ⟨by rw [if_neg (by omega)]; exact a, by rw [if_pos (by omega)]⟩
 ·rw [upd_ne _ _ e]
  exact ⟨by rw [if_neg (by omega)]; exact a, by rw [if_neg (by omega)]; exact b⟩
theorem WherAt.set (h : WherAt w G room x) {i : Nat} (hi : i < room) (v : Int) : WherAt (w.setCell ⟨G, i, none⟩ (.int .i64 v)) G room (upd x i v) := by
 obtain ⟨cur, h1, h2, h3⟩ := h
 refine ⟨_, set_at h1, by simp [h2], fun k hk => ?_⟩
 simp only [upd_setIf, h2]
 by_cases e : k = i
 ·subst e
  rw [upd_at, if_pos (by omega)]
 ·rw [upd_ne _ _ e, if_neg (by omega)]; exact h3 k hk
end
/-- What lies below lo, and from hi on, stays. -/
structure Mv (lo hi : Nat) (w w' : World) : Prop where
 below : Below lo w w'
 above : SameIn w w' hi w.heap.size
section
variable {lo hi : Nat} {a b c w w' : World}
theorem Mv.refl (w : World) : Mv lo hi w w := ⟨Below.refl _ _, SameIn.refl _ _ _⟩
theorem Mv.trans (h : Mv lo hi a b) (k : Mv lo hi b c) : Mv lo hi a c := ⟨h.below.trans k.below, fun i h1 h2 => (k.above i h1 (Nat.lt_of_lt_of_le h2 h.below.size)).trans (h.above i h1 h2)⟩
theorem Mv.of_below (h : Below w.heap.size w w') (hl : lo ≤ w.heap.size) : Mv lo hi w w' := ⟨h.mono hl, SameIn.of_below h (Nat.le_refl _)⟩
theorem Mv.drew (h : Mv lo hi a b) : Mv lo hi a b.drew := ⟨h.below.drew, h.above⟩
theorem Mv.set (h : Mv lo hi a b) {G : Nat} (h1 : lo ≤ G) (h2 : G < hi) (j : Nat) (u : Value) : Mv lo hi a (b.setCell ⟨G, j, none⟩ u) :=
 ⟨h.below.setCell h1 u, fun i i1 i2 => (Below.heap_setCell _ _ _ _ (by show i ≠ G; omega)).trans (h.above i i1 i2)⟩
theorem Mv.block (h : Mv lo hi a b) {G : Nat} {o : Obj} (hb : a.heap[G]? = some o) (hG : hi ≤ G) : b.heap[G]? = some o := (h.above G hG (lt_of_block hb)).trans hb
end
/-- A heap, its two rows. -/
structure HpAt (w : World) (lo hi H W X room n : Nat) (f : Nat → En) (x : Nat → Int) : Prop where
 box : w.heap[H]? = some (.cells #[.slice (some ⟨W, 0, none⟩) n room, .slice (some ⟨X, 0, none⟩) room room] 238 (0, 0))
 who : WhoAt w W room f
 whr : WherAt w X room x
 ne : H ≠ W ∧ H ≠ X ∧ W ≠ X
 rng : lo ≤ H ∧ lo ≤ W ∧ lo ≤ X ∧ H < hi ∧ W < hi ∧ X < hi
 hiS : hi ≤ w.heap.size
 small : room ≤ 1024
section
variable {w w' : World} {lo hi H W X room n : Nat} {f : Nat → En} {x : Nat → Int}
theorem HpAt.keep (h : HpAt w lo hi H W X room n f x) (hs : SameIn w w' lo hi) (hz : w.heap.size ≤ w'.heap.size) : HpAt w' lo hi H W X room n f x :=
 ⟨(hs H h.rng.1 h.rng.2.2.2.1).trans h.box, h.who.same (hs W h.rng.2.1 h.rng.2.2.2.2.1), h.whr.same (hs X h.rng.2.2.1 h.rng.2.2.2.2.2), h.ne, h.rng, Nat.le_trans h.hiS hz, h.small⟩
theorem HpAt.later (h : HpAt w lo hi H W X room n f x) (hb : Below w.heap.size w w') : HpAt w' lo hi H W X room n f x := h.keep (SameIn.of_below hb h.hiS) hb.size
theorem HpAt.drew (h : HpAt w lo hi H W X room n f x) : HpAt w.drew lo hi H W X room n f x := h.later (Below.refl _ _).drew
theorem HpAt.cells (h : HpAt w lo hi H W X room n f x) : w.cell? ⟨H, 0, none⟩ = some (.slice (some ⟨W, 0, none⟩) n room) ∧ w.cell? ⟨H, 1, none⟩ = some (.slice (some ⟨X, 0, none⟩) room room) ∧ w.frozen? ⟨H, 0, none⟩ = false ∧ w.frozen? ⟨H, 1, none⟩ = false :=
 ⟨cell_in h.box rfl, cell_in h.box rfl, free_in h.box _, free_in h.box _⟩
theorem set_other (w : World) {G K : Nat} (j : Nat) (u : Value) (h : K ≠ G) : (w.setCell ⟨G, j, none⟩ u).heap[K]? = w.heap[K]? := Below.heap_setCell _ _ _ _ h
theorem HpAt.set (h : HpAt w lo hi H W X room n f x) {i : Nat} (hk : i < room) (id : Nat) (d : Int) : HpAt ((w.setCell ⟨W, i * 2, none⟩ (.int .i64 id)).setCell ⟨W, i * 2 + 1, none⟩ (.int .i64 d)) lo hi H W X room n (upd f i (id, d)) x :=
 ⟨by rw [set_other _ _ _ h.ne.1, set_other _ _ _ h.ne.1]; exact h.box, h.who.set hk id d, h.whr.same (by rw [set_other _ _ _ h.ne.2.2.symm, set_other _ _ _ h.ne.2.2.symm]), h.ne, h.rng, by simpa using h.hiS, h.small⟩
theorem HpAt.due (h : HpAt w lo hi H W X room n f x) {i : Nat} (hk : i < room) (d : Int) : HpAt (w.setCell ⟨W, i * 2 + 1, none⟩ (.int .i64 d)) lo hi H W X room n (upd f i ((f i).1, d)) x :=
 ⟨by rw [set_other _ _ _ h.ne.1]; exact h.box, h.who.due hk d, h.whr.same (by rw [set_other _ _ _ h.ne.2.2.symm]), h.ne, h.rng, by simpa using h.hiS, h.small⟩
theorem HpAt.put (h : HpAt w lo hi H W X room n f x) {i : Nat} (hk : i < room) (v : Int) : HpAt (w.setCell ⟨X, i, none⟩ (.int .i64 v)) lo hi H W X room n f (upd x i v) :=
 ⟨by rw [set_other _ _ _ h.ne.2.1]; exact h.box, h.who.same (by rw [set_other _ _ _ h.ne.2.2]), h.whr.set hk v, h.ne, h.rng, by simpa using h.hiS, h.small⟩
theorem HpAt.len (h : HpAt w lo hi H W X room n f x) (m : Nat) : HpAt (w.setCell ⟨H, 0, none⟩ (.slice (some ⟨W, 0, none⟩) m room)) lo hi H W X room m f x :=
 ⟨by rw [set_at h.box]; rfl, h.who.same (by rw [set_other _ _ _ h.ne.1.symm]), h.whr.same (by rw [set_other _ _ _ h.ne.2.1.symm]), h.ne, h.rng, by simpa using h.hiS, h.small⟩
end
set_option maxRecDepth 100000 in
set_option maxHeartbeats 2000000 in
theorem put_any (X room i : Nat) (x : Nat → Int) (v : Int) (w : World) (h : WherAt w X room x) (hi : i < room) : Calls Tryz.prog 199 #[.slice (some ⟨X, 0, none⟩) room room, .int .i64 i, .int .i64 v] w fun e w' => e = .returned (.tuple #[]) ∧ w' = w.setCell ⟨X, i, none⟩ (.int .i64 v) := by
 obtain ⟨c0, c1⟩ := h.at_ hi
 have i0 : (0 : Int) ≤ (i : Int) := by omega
 have i1 : (i : Int) < (room : Int) := by omega
 have i2 : decide ((i : Int) < (room : Int)) = true := decide_eq_true i1
 clear h
 go_enter Tryz.func199, Tryz.ntmps199
 go_wp2
 go_end0
 exact ⟨rfl, rfl⟩
end Go.Proofs.YtchbehnkkcjdgaaGreat
namespace Go.Proofs.YtchbehnkkcjdgaaGreat
open Go.ChangeShapes Go.WideShapes Go.ChangeAt Go.RowKit Go.Shelf Go.Lib Go.Sort
set_option linter.unusedVariables false
def enC (e : En) : List Value := [.int .i64 (e.1 : Nat), .int .i64 e.2]
def cmpH (x y : En) : Int := orV (Lib.compareInt x.2 y.2) (Lib.compareInt (x.1 : Nat) (y.1 : Nat))
theorem lt_cmpH : ltOf cmpH = fun x y => decide (ltH x y) := by
 funext x y
 unfold ltOf cmpH orV
 rw [compare_is, compare_is, Bool.eq_iff_iff, decide_eq_true_eq, decide_eq_true_eq]
 unfold ltH
 repeat' split
 all_goals omega
theorem cmpH_lt (x y : En) : decide (cmpH x y < 0) = decide (ltH x y) := by
 have := congrFun (congrFun lt_cmpH x) y
 simpa [ltOf] using this
set_option maxRecDepth 100000 in
set_option maxHeartbeats 4000000 in
theorem cmpH_any (x y : En) (W : World) : Calls Tryz.prog 205 #[.agg #[.int .i64 (x.1 : Nat), .int .i64 x.2], .agg #[.int .i64 (y.1 : Nat), .int .i64 y.2]] W fun e w' => e = .returned (.int .i64 (cmpH x y)) ∧ Gr W w' := by
 obtain ⟨x0, x1⟩ := x
 obtain ⟨y0, y1⟩ := y
 have HR0 : cmpH (x0, x1) (y0, y1) = orV (Lib.compareInt x1 y1) (Lib.compareInt (x0 : Nat) (y0 : Nat)) := rfl
 dsimp only
 generalize (x0 : Int) = a0 at HR0 ⊢
 generalize (y0 : Int) = c0 at HR0 ⊢
 have HR := Lib.hid HR0
 clear HR0
 obtain ⟨V, hV⟩ : ∃ V, V = (W.alloc (.cells #[.int .i64 a0, .int .i64 x1] 231)).alloc (.cells #[.int .i64 c0, .int .i64 y1] 231) := ⟨_, rfl⟩
 have HG : Hid (Gr W V) := Lib.hid (by rw [hV]; exact ((Gr.refl W).alloc _).alloc _)
 have b0 : V.heap[W.heap.size]? = some (.cells #[.int .i64 a0, .int .i64 x1] 231 (0, 0)) := by rw [hV]; exact (Below.heap_alloc _ _ _ (by simp)).trans (heap_alloc_new _ _)
 have b1 : V.heap[W.heap.size + 1]? = some (.cells #[.int .i64 c0, .int .i64 y1] 231 (0, 0)) := by
  rw [hV]
  have := heap_alloc_new (W.alloc (.cells #[.int .i64 a0, .int .i64 x1] 231)) (.cells #[.int .i64 c0, .int .i64 y1] 231)
  simpa using this
 have ks : ∀ X : World, Gr V X → (Gr V X ∧ X.cell? ⟨W.heap.size, 0, none⟩ = some (.int .i64 a0) ∧ X.cell? ⟨W.heap.size, 1, none⟩ = some (.int .i64 x1) ∧ X.cell? ⟨W.heap.size + 1, 0, none⟩ = some (.int .i64 c0) ∧ X.cell? ⟨W.heap.size + 1, 1, none⟩ = some (.int .i64 y1)) :=
  fun X h => ⟨h, cell_in (h.block b0) rfl, cell_in (h.block b0) rfl, cell_in (h.block b1) rfl, cell_in (h.block b1) rfl⟩
 have KS := Lib.hid ks
 have HV := Lib.hid hV
 obtain ⟨_, k0, k1, k2, k3⟩ := ks V (Gr.refl V)
 clear ks b0 b1 hV
 go_enter Tryz.func205, Tryz.ntmps205
 go_wp2_with fail
 rw [← HV.out]
 go_region_held3 (fun X => Gr V X ∧ X.cell? ⟨W.heap.size, 0, none⟩ = some (.int .i64 a0) ∧ X.cell? ⟨W.heap.size, 1, none⟩ = some (.int .i64 x1) ∧ X.cell? ⟨W.heap.size + 1, 0, none⟩ = some (.int .i64 c0) ∧ X.cell? ⟨W.heap.size + 1, 1, none⟩ = some (.int .i64 y1))
  (first | exact KS.out _ ((Gr.refl V).drew) | exact KS.out _ (((Gr.refl V).drew).alloc _) | exact KS.out _ (((Gr.refl V).alloc _).drew) | (go_split_ands; exact KS.out _ (Gr.drew (by assumption))) | (go_split_ands; exact KS.out _ (Gr.alloc (by assumption) _)) | (go_split_ands; exact KS.out _ (by assumption)) | fail "no")
  (first
  | (go_at_call 215; refine (or_any _ _ _ _ (cell_in (cs := #[.int .i64 (Lib.compareInt x1 y1), .int .i64 (Lib.compareInt a0 c0)]) (t := 3) (by (show (World.alloc _ _).heap[_]? = _; rw [heap_at, if_pos (by simp)])) rfl) (cell_in (cs := #[.int .i64 (Lib.compareInt x1 y1), .int .i64 (Lib.compareInt a0 c0)]) (t := 3) (by (show (World.alloc _ _).heap[_]? = _; rw [heap_at, if_pos (by simp)])) rfl)).mono ?_; rintro e w3 ⟨rfl, rfl⟩)
  | (go_at_call 216; refine (compare_any _ _ _).mono ?_; rintro e w4 ⟨rfl, rfl⟩)
  | fail "no arm")
 go_wp2_with fail
 go_ret
 exact ⟨by rw [HR.out]; rfl, (HG.out.alloc _).drew⟩
set_option maxRecDepth 100000 in
set_option maxHeartbeats 4000000 in
theorem ahead_any (W room n : Nat) (f : Nat → En) (w : World) (h : WhoAt w W room f) {a b : Nat} (hn : n ≤ room) (ha : a < n) (hb : b < n) : Calls Tryz.prog 207 #[.slice (some ⟨W, 0, none⟩) n room, .int .i64 a, .int .i64 b] w fun e w' => e = .returned (.bool (decide (ltH (f a) (f b)))) ∧ Below w.heap.size w w' := by
 have ks : ∀ X : World, Below w.heap.size w X → (Below w.heap.size w X ∧ X.cell? ⟨W, a * 2, none⟩ = some (.int .i64 ((f a).1 : Nat)) ∧ X.cell? ⟨W, a * 2 + 1, none⟩ = some (.int .i64 (f a).2) ∧ X.cell? ⟨W, b * 2, none⟩ = some (.int .i64 ((f b).1 : Nat)) ∧ X.cell? ⟨W, b * 2 + 1, none⟩ = some (.int .i64 (f b).2)) := fun X hX => by
  have h' : WhoAt X W room f := h.same (hX.block W h.lt)
  obtain ⟨a0, a1, _, _⟩ := h'.at_ (show a < room by omega)
  obtain ⟨b0, b1, _, _⟩ := h'.at_ (show b < room by omega)
  exact ⟨hX, a0, a1, b0, b1⟩
 have KS := Lib.hid ks
 obtain ⟨_, k0, k1, k2, k3⟩ := ks w (Below.refl _ w)
 have HR : Hid (∀ K, K = cmpH (f a) (f b) → decide (K < 0) = decide (ltH (f a) (f b))) := Lib.hid (fun K hK => by rw [hK]; exact cmpH_lt _ _)
 have a0 : (0 : Int) ≤ (a : Int) := by omega
 have a1 : (a : Int) < (n : Int) := by omega
 have a2 : decide ((a : Int) < (n : Int)) = true := decide_eq_true a1
 have b0 : (0 : Int) ≤ (b : Int) := by omega
 have b1 : (b : Int) < (n : Int) := by omega
 have b2 : decide ((b : Int) < (n : Int)) = true := decide_eq_true b1
 clear ks h
 obtain ⟨e1, he1⟩ : ∃ e, e = f a := ⟨_, rfl⟩
 obtain ⟨e2, he2⟩ : ∃ e, e = f b := ⟨_, rfl⟩
 rw [← he1] at k0 k1 HR KS
 rw [← he2] at k2 k3 HR KS
 have HE := Lib.hid (And.intro he1 he2)
 clear he1 he2
 go_enter Tryz.func207, Tryz.ntmps207
 go_wp2_with fail
 go_region_held3 (fun X => Below w.heap.size w X ∧ X.cell? ⟨W, a * 2, none⟩ = some (.int .i64 (e1.1 : Nat)) ∧ X.cell? ⟨W, a * 2 + 1, none⟩ = some (.int .i64 e1.2) ∧ X.cell? ⟨W, b * 2, none⟩ = some (.int .i64 (e2.1 : Nat)) ∧ X.cell? ⟨W, b * 2 + 1, none⟩ = some (.int .i64 e2.2))
  (first | exact KS.out _ ((Below.refl _ w).drew) | (go_split_ands; exact KS.out _ (Below.trans (by assumption) (hb4.mono (Below.size (by assumption))))) | (go_split_ands; exact KS.out _ (by assumption)) | exact KS.out _ (by assumption) | fail "no")
  (first
  | (go_at_call 205; refine (cmpH_any e1 e2 _).mono ?_; rintro e w4 ⟨rfl, hg4⟩; have hb4 := hg4.below; obtain ⟨K, hK⟩ : ∃ K, K = cmpH e1 e2 := ⟨_, rfl⟩; have HK4 := Lib.hid hK; rw [← hK]; clear hK)
  | fail "no arm")
 go_wp2_with fail
 go_ret
 obtain ⟨h1, h2⟩ := HE.out
 subst h1 h2
 rename_i hHeld
 rw [HR.out _ HK4.out]
 exact ⟨rfl, hHeld.1⟩
end Go.Proofs.YtchbehnkkcjdgaaGreat
namespace Go.Proofs.YtchbehnkkcjdgaaGreat
open Go.ChangeShapes Go.WideShapes Go.ChangeAt Go.RowKit
set_option linter.unusedVariables false
set_option maxRecDepth 100000 in
set_option maxHeartbeats 4000000 in
theorem up_any (B : Nat) (w : World) (lo hi H W X room n : Nat) (f : Nat → En) (x : Nat → Int) (h : HpAt w lo hi H W X room n f x) (hB : w.cell? ⟨B, 0, none⟩ = some (.pointer (some ⟨H, 0, none⟩))) {a : Nat} (hn : n ≤ room) (ha : a < n) :
 Calls Tryz.prog 206 #[.int .i64 a, .pointer (some ⟨B, 0, none⟩)] w fun e w' => e = .returned (.int .i64 (upV f a : Nat)) ∧ Below w.heap.size w w' := by
 obtain ⟨c0, _, _, _⟩ := h.cells
 have hsm := h.small
 have HA0 := ahead_any W room n f w h.who hn ha (show par a < n by unfold par; omega)
 have HU0 : upV f a = if ltH (f a) (f (par a)) then par a else a := rfl
 have hP2 : (max ((a : Int) - 1) 0) / 2 = ((par a : Nat) : Int) := by unfold par; omega
 obtain ⟨t, ht⟩ : ∃ t, t = decide (ltH (f a) (f (par a))) := ⟨_, rfl⟩
 rw [← ht] at HA0
 have HA := Lib.hid HA0
 have HU : Hid (((upV f a : Nat) : Int) = if t then (max ((a : Int) - 1) 0) / 2 else (a : Int)) := Lib.hid (by
  rw [HU0, hP2, ht]
  by_cases hl : ltH (f a) (f (par a)) <;> simp [hl])
 clear h ht HA0 HU0
 generalize ((upV f a : Nat) : Int) = R at HU ⊢
 rcases t with _ | _
 all_goals
  go_enter Tryz.func206, Tryz.ntmps206
  go_wp2_with (go_at_call 207; refine HA.out.mono ?_; rintro e w3 ⟨rfl, hb3⟩)
  go_ret
  rw [HU.out]
  first | exact ⟨rfl, hb3⟩ | exact ⟨by rw [← hP2]; rfl, hb3⟩
def Dst (n : Nat) (f : Nat → En) (a c m : Nat) : Prop := (c = 2 * a + 1 → m = a) ∧ (c = 2 * a + 2 → m = dn1 n f a) ∧ (c = 2 * a + 3 → m = downV n f a)
theorem Dst.next {n : Nat} {f : Nat → En} {a c m : Nat} (h : Dst n f a c m) (h1 : 2 * a + 1 ≤ c) (h2 : c ≤ 2 * a + 2) (h3 : c < n) : Dst n f a (c + 1) (if ltH (f c) (f m) then c else m) := by
 obtain ⟨e1, e2, e3⟩ := h
 rcases (show c = 2 * a + 1 ∨ c = 2 * a + 2 by omega) with rfl | rfl
 ·obtain rfl := e1 rfl
  refine ⟨by omega, fun _ => ?_, by omega⟩
  unfold dn1
  by_cases hl : ltH (f (2 * m + 1)) (f m)
  ·rw [if_pos hl, if_pos ⟨h3, hl⟩]
  ·rw [if_neg hl, if_neg (fun k => hl k.2)]
 ·obtain rfl := e2 rfl
  refine ⟨by omega, by omega, fun _ => ?_⟩
  unfold downV
  by_cases hl : ltH (f (2 * a + 2)) (f (dn1 n f a))
  ·rw [if_pos hl, if_pos ⟨h3, hl⟩]
  ·rw [if_neg hl, if_neg (fun k => hl k.2)]
theorem Dst.done {n : Nat} {f : Nat → En} {a c m : Nat} (h : Dst n f a c m) (h1 : 2 * a + 1 ≤ c) (h2 : c ≤ 2 * a + 3) (h3 : c = 2 * a + 3 ∨ n ≤ c) : m = downV n f a := by
 obtain ⟨e1, e2, e3⟩ := h
 rcases (show c = 2 * a + 1 ∨ c = 2 * a + 2 ∨ c = 2 * a + 3 by omega) with rfl | rfl | rfl
 ·obtain rfl := e1 rfl
  unfold downV dn1
  rw [if_neg (show ¬ (2 * m + 1 < n ∧ ltH (f (2 * m + 1)) (f m)) from fun k => by omega), if_neg (fun k => by omega)]
 ·obtain rfl := e2 rfl
  unfold downV
  rw [if_neg (fun k => by omega)]
 ·exact e3 rfl
set_option maxRecDepth 100000 in
set_option maxHeartbeats 4000000 in
theorem down_any (B : Nat) (w : World) (lo hi H W X room n : Nat) (f : Nat → En) (x : Nat → Int) (h : HpAt w lo hi H W X room n f x) (hB : w.heap[B]? = some (.cells #[.pointer (some ⟨H, 0, none⟩)] 260 (0, 0))) {a : Nat} (hn : n ≤ room) (ha : a < n) :
 Calls Tryz.prog 208 #[.int .i64 a, .pointer (some ⟨B, 0, none⟩)] w fun e w' => e = .returned (.int .i64 (downV n f a : Nat)) ∧ Below w.heap.size w w' := by
 have hsm : n ≤ 1024 := Nat.le_trans hn h.small
 have ks : ∀ Y : World, Below w.heap.size w Y → (Y.cell? ⟨H, 0, none⟩ = some (.slice (some ⟨W, 0, none⟩) n room) ∧ Y.cell? ⟨B, 0, none⟩ = some (.pointer (some ⟨H, 0, none⟩))) := fun Y hY => ⟨(h.later hY).cells.1, cell_in ((hY.block B (lt_of_block hB)).trans hB) rfl⟩
 have KS := Lib.hid ks
 have HW := Lib.hid (fun (Y : World) (hY : Below w.heap.size w Y) => (h.later hY).who)
 have HN := Lib.hid hn
 clear ks h hB hn
 go_enter Tryz.func208, Tryz.ntmps208
 go_wp2_with fail
 go_loopw [4, 5] (fun s4 s5 wr => ∃ c m : Nat, s4 = .int .i64 m ∧ s5 = .int .i64 c ∧ 2 * a + 1 ≤ c ∧ c ≤ 2 * a + 3 ∧ m < n ∧ Hid (Dst n f a c m) ∧ Below w.heap.size w wr) (fun _ i _ => 2 * a + 3 - (intOf i).toNat)
 case atStart => exact ⟨2 * a + 1, a, rfl, by go_num, by omega, by omega, ha, Lib.hid ⟨fun _ => rfl, by omega, by omega⟩, Below.refl _ _⟩
 case round =>
  obtain ⟨c, m, rfl, rfl, hc1, hc2, hm, HD, hb⟩ := hrel
  obtain ⟨q0, q1⟩ := KS.out _ hb
  by_cases hlt : c ≤ 2 * a + 2 ∧ c < n
  ·obtain ⟨l1, l2⟩ := hlt
   have tk : decide ((c : Int) ≤ 2 * (a : Int) + 2) = true := decide_eq_true (by omega)
   have tk2 : decide ((c : Int) < (n : Int)) = true := decide_eq_true (by omega)
   have HA0 := ahead_any W room n f wr (HW.out _ hb) HN.out l2 hm
   have HX := Lib.hid (HD.out.next hc1 l1 l2)
   obtain ⟨t, ht⟩ : ∃ t, t = decide (ltH (f c) (f m)) := ⟨_, rfl⟩
   rw [← ht] at HA0
   have HT : Hid (t = decide (ltH (f c) (f m))) := Lib.hid ht
   have HA := Lib.hid HA0
   clear HA0 ht
   rcases t with _ | _
   ·have hx : ¬ ltH (f c) (f m) := of_decide_eq_false HT.out.symm
    have HY : Hid (Dst n f a (c + 1) m) := Lib.hid (by have := HX.out; rwa [if_neg hx] at this)
    clear hx
    go_wp2_with (go_at_call 207; refine HA.out.mono ?_; rintro e w3 ⟨rfl, hb3⟩)
    all_goals go_roundw
    case rel => exact ⟨c + 1, m, rfl, by go_num, by omega, by omega, hm, HY, hb.trans (hb3.mono hb.size)⟩
    case measure => simp [intOf]; omega
   ·have hx : ltH (f c) (f m) := of_decide_eq_true HT.out.symm
    have HY : Hid (Dst n f a (c + 1) c) := Lib.hid (by have := HX.out; rwa [if_pos hx] at this)
    clear hx
    go_wp2_with (go_at_call 207; refine HA.out.mono ?_; rintro e w3 ⟨rfl, hb3⟩)
    all_goals go_roundw
    case rel => exact ⟨c + 1, c, rfl, by go_num, by omega, by omega, l2, HY, hb.trans (hb3.mono hb.size)⟩
    case measure => simp [intOf]; omega
  ·have HE : Hid (m = downV n f a) := Lib.hid (HD.out.done hc1 hc2 (by omega))
   by_cases l1 : c ≤ 2 * a + 2
   ·have tk : decide ((c : Int) ≤ 2 * (a : Int) + 2) = true := decide_eq_true (by omega)
    have tk2 : decide ((c : Int) < (n : Int)) = false := decide_eq_false (by omega)
    go_wp2_with fail
    go_ret
    exact ⟨by rw [← HE.out]; rfl, hb⟩
   ·have tk : decide ((c : Int) ≤ 2 * (a : Int) + 2) = false := decide_eq_false (by omega)
    go_wp2_with fail
    go_ret
    exact ⟨by rw [← HE.out]; rfl, hb⟩
set_option maxRecDepth 100000 in
set_option maxHeartbeats 8000000 in
theorem swap_any (w : World) (lo hi H W X room n : Nat) (f : Nat → En) (x : Nat → Int) (h : HpAt w lo hi H W X room n f x) {a b : Nat} (hn : n ≤ room) (ha : a < n) (hb : b < n) (ia : (f a).1 < room) (ib : (f b).1 < room) :
 Calls Tryz.prog 202 #[.pointer (some ⟨H, 0, none⟩), .int .i64 a, .int .i64 b] w fun e w' => e = .returned (.tuple #[]) ∧ HpAt w' lo hi H W X room n (sw f a b) (upd (upd x (f b).1 a) (f a).1 b) ∧ Mv lo hi w w' := by
 obtain ⟨c0, c1, _, _⟩ := h.cells
 obtain ⟨k0, k1, k2, k3⟩ := h.who.at_ (show a < room by omega)
 obtain ⟨m0, m1, m2, m3⟩ := h.who.at_ (show b < room by omega)
 have a0 : (0 : Int) ≤ (a : Int) := by omega
 have a1 : (a : Int) < (n : Int) := by omega
 have a2 : decide ((a : Int) < (n : Int)) = true := decide_eq_true a1
 have b0 : (0 : Int) ≤ (b : Int) := by omega
 have b1 : (b : Int) < (n : Int) := by omega
 have b2 : decide ((b : Int) < (n : Int)) = true := decide_eq_true b1
 obtain ⟨n1, n2, n3⟩ := h.ne
 have n1' := n1.symm
 have H0 := Lib.hid h
 have hr := h.rng
 obtain ⟨⟨i1, d1⟩, he1⟩ : ∃ e, e = f a := ⟨_, rfl⟩
 obtain ⟨⟨i2, d2⟩, he2⟩ : ∃ e, e = f b := ⟨_, rfl⟩
 rw [← he1] at k0 k1 ia ⊢
 rw [← he2] at m0 m1 ib ⊢
 dsimp only at k0 k1 m0 m1 ia ib ⊢
 obtain ⟨V, hV⟩ : ∃ V, V = ((((w.setCell ⟨W, a * 2, none⟩ (.int .i64 i2)).setCell ⟨W, a * 2 + 1, none⟩ (.int .i64 d2)).setCell ⟨W, b * 2, none⟩ (.int .i64 i1)).setCell ⟨W, b * 2 + 1, none⟩ (.int .i64 d1)).drew := ⟨_, rfl⟩
 have HV : Hid (HpAt V lo hi H W X room n (sw f a b) x ∧ Mv lo hi w V) := Lib.hid (by
  rw [hV]
  have := (h.set (show a < room by omega) i2 d2).set (show b < room by omega) i1 d1
  rw [he1, he2] at this
  exact ⟨this.drew, ((((Mv.refl w).set hr.2.1 hr.2.2.2.2.1 _ _).set hr.2.1 hr.2.2.2.2.1 _ _).set hr.2.1 hr.2.2.2.2.1 _ _).set hr.2.1 hr.2.2.2.2.1 _ _ |>.drew⟩)
 have ks : ∀ (Y : World) (x' : Nat → Int), HpAt Y lo hi H W X room n (sw f a b) x' → (Y.cell? ⟨H, 0, none⟩ = some (.slice (some ⟨W, 0, none⟩) n room) ∧ Y.cell? ⟨H, 1, none⟩ = some (.slice (some ⟨X, 0, none⟩) room room) ∧ Y.cell? ⟨W, a * 2, none⟩ = some (.int .i64 i2) ∧ Y.cell? ⟨W, b * 2, none⟩ = some (.int .i64 i1)) := fun Y x' hY => by
  obtain ⟨q0, q1, _, _⟩ := hY.cells
  have r0 := (hY.who.at_ (show a < room by omega)).1
  have r1 := (hY.who.at_ (show b < room by omega)).1
  rw [sw_a, ← he2] at r0
  rw [sw_b, ← he1] at r1
  exact ⟨q0, q1, r0, r1⟩
 have KS := Lib.hid ks
 have HW := Lib.hid hV
 have HR : Hid (lo ≤ X ∧ X < hi) := Lib.hid ⟨hr.2.2.1, hr.2.2.2.2.2⟩
 clear h ks hV hr he1 he2 H0
 rcases Nat.decEq a b with hab | hab
 ·have e1 : a * 2 ≠ b * 2 := by omega
  have e2 : a * 2 ≠ b * 2 + 1 := by omega
  have e3 : a * 2 + 1 ≠ b * 2 := by omega
  have e4 : a * 2 + 1 ≠ b * 2 + 1 := by omega
  go_enter Tryz.func202, Tryz.ntmps202
  go_wp2_with fail
  go_region
  rw [← HW.out]
  clear k0 k1 k2 k3 m0 m1 m2 m3 c0 c1
  obtain ⟨q0, q1, q2, q3⟩ := KS.out _ _ HV.out.1
  have i20 : (0 : Int) ≤ (i2 : Int) := by omega
  go_wp2_with fail
  go_region_held3 (fun Y => Y.cell? ⟨H, 0, none⟩ = some (.slice (some ⟨W, 0, none⟩) n room) ∧ Y.cell? ⟨H, 1, none⟩ = some (.slice (some ⟨X, 0, none⟩) room room) ∧ Y.cell? ⟨W, a * 2, none⟩ = some (.int .i64 i2) ∧ Y.cell? ⟨W, b * 2, none⟩ = some (.int .i64 i1))
   (first | exact KS.out _ _ HV.out.1.drew | exact KS.out _ _ hp4.out | fail "no")
   (first | (go_at_call 199; refine (put_any X room i2 x a _ HV.out.1.drew.whr ib).mono ?_; rintro e w4 ⟨rfl, hw4⟩; have hp4 := Lib.hid (show HpAt w4 lo hi H W X room n _ _ from by rw [hw4]; exact HV.out.1.drew.put ib a); have hm4 := Lib.hid (show Mv lo hi w w4 from by rw [hw4]; exact HV.out.2.drew.set HR.out.1 HR.out.2 _ _); clear hw4) | fail "no arm")
  clear q0 q1 q2 q3
  obtain ⟨q0, q1, q2, q3⟩ := KS.out _ _ hp4.out
  go_wp2_with fail
  go_region_held3 (fun Y => Y.cell? ⟨H, 0, none⟩ = some (.slice (some ⟨W, 0, none⟩) n room) ∧ Y.cell? ⟨H, 1, none⟩ = some (.slice (some ⟨X, 0, none⟩) room room) ∧ Y.cell? ⟨W, a * 2, none⟩ = some (.int .i64 i2) ∧ Y.cell? ⟨W, b * 2, none⟩ = some (.int .i64 i1))
   (first | exact KS.out _ _ hp4.out.drew | exact KS.out _ _ hp5.out | fail "no")
   (first | (go_at_call 199; refine (put_any X room i1 (upd x i2 a) b _ hp4.out.drew.whr ia).mono ?_; rintro e w5 ⟨rfl, hw5⟩; have hp5 := Lib.hid (show HpAt w5 lo hi H W X room n _ _ from by rw [hw5]; exact hp4.out.drew.put ia b); have hm5 := Lib.hid (show Mv lo hi w w5 from by rw [hw5]; exact hm4.out.drew.set HR.out.1 HR.out.2 _ _); clear hw5) | fail "no arm")
  go_end0
  exact ⟨rfl, hp5.out, hm5.out⟩
 ·subst hab
  obtain ⟨rfl, rfl⟩ : i1 = i2 ∧ d1 = d2 := by
   rw [k0] at m0
   rw [k1] at m1
   simp only [Option.some.injEq, Value.int.injEq, true_and] at m0 m1
   exact ⟨by omega, m1⟩
  go_enter Tryz.func202, Tryz.ntmps202
  go_wp2_with fail
  go_region
  rw [← HW.out]
  clear k0 k1 k2 k3 m0 m1 m2 m3 c0 c1
  obtain ⟨q0, q1, q2, q3⟩ := KS.out _ _ HV.out.1
  have i10 : (0 : Int) ≤ (i1 : Int) := by omega
  go_wp2_with fail
  go_region_held3 (fun Y => Y.cell? ⟨H, 0, none⟩ = some (.slice (some ⟨W, 0, none⟩) n room) ∧ Y.cell? ⟨H, 1, none⟩ = some (.slice (some ⟨X, 0, none⟩) room room) ∧ Y.cell? ⟨W, a * 2, none⟩ = some (.int .i64 i1) ∧ Y.cell? ⟨W, a * 2, none⟩ = some (.int .i64 i1))
   (first | exact KS.out _ _ HV.out.1.drew | exact KS.out _ _ hp4.out | fail "no")
   (first | (go_at_call 199; refine (put_any X room i1 x a _ HV.out.1.drew.whr ib).mono ?_; rintro e w4 ⟨rfl, hw4⟩; have hp4 := Lib.hid (show HpAt w4 lo hi H W X room n _ _ from by rw [hw4]; exact HV.out.1.drew.put ib a); have hm4 := Lib.hid (show Mv lo hi w w4 from by rw [hw4]; exact HV.out.2.drew.set HR.out.1 HR.out.2 _ _); clear hw4) | fail "no arm")
  clear q0 q1 q2 q3
  obtain ⟨q0, q1, q2, q3⟩ := KS.out _ _ hp4.out
  go_wp2_with fail
  go_region_held3 (fun Y => Y.cell? ⟨H, 0, none⟩ = some (.slice (some ⟨W, 0, none⟩) n room) ∧ Y.cell? ⟨H, 1, none⟩ = some (.slice (some ⟨X, 0, none⟩) room room) ∧ Y.cell? ⟨W, a * 2, none⟩ = some (.int .i64 i1) ∧ Y.cell? ⟨W, a * 2, none⟩ = some (.int .i64 i1))
   (first | exact KS.out _ _ hp4.out.drew | exact KS.out _ _ hp5.out | fail "no")
   (first | (go_at_call 199; refine (put_any X room i1 (upd x i1 a) a _ hp4.out.drew.whr ia).mono ?_; rintro e w5 ⟨rfl, hw5⟩; have hp5 := Lib.hid (show HpAt w5 lo hi H W X room n _ _ from by rw [hw5]; exact hp4.out.drew.put ia a); have hm5 := Lib.hid (show Mv lo hi w w5 from by rw [hw5]; exact hm4.out.drew.set HR.out.1 HR.out.2 _ _); clear hw5) | fail "no arm")
  go_end0
  exact ⟨rfl, hp5.out, hm5.out⟩
end Go.Proofs.YtchbehnkkcjdgaaGreat
namespace Go.Proofs.YtchbehnkkcjdgaaGreat
open Go.ChangeShapes Go.WideShapes Go.ChangeAt Go.RowKit
set_option linter.unusedVariables false
theorem up_end' {n : Nat} {f : Nat → En} {a : Nat} (HI : UpI n f a) (HS : upV f a = a) : DnI n f a := up_end HI HS
theorem dn_end' {n : Nat} {f : Nat → En} {a : Nat} (HI : DnI n f a) (HS : downV n f a = a) : HOrd n f := dn_end HI HS
theorem up_at {B : Nat} {w : World} {lo hi H W X room n : Nat} {f : Nat → En} {x : Nat → Int} {D : Nat → Option Int} {a : Nat} (HH : HpAt w lo hi H W X room n f x) (HB : w.heap[B]? = some (.cells #[.pointer (some ⟨H, 0, none⟩)] 260 (0, 0))) (hn : n ≤ room) (ha : a < n) :
 Calls Tryz.prog 206 #[.int .i64 a, .pointer (some ⟨B, 0, none⟩)] w fun e w' => e = .returned (.int .i64 (upV f a : Nat)) ∧ Below w.heap.size w w' := up_any B w lo hi H W X room n f x HH (cell_in HB rfl) hn ha
theorem down_at {B : Nat} {w : World} {lo hi H W X room n : Nat} {f : Nat → En} {x : Nat → Int} {D : Nat → Option Int} {a : Nat} (HH : HpAt w lo hi H W X room n f x) (HB : w.heap[B]? = some (.cells #[.pointer (some ⟨H, 0, none⟩)] 260 (0, 0))) (hn : n ≤ room) (ha : a < n) :
 Calls Tryz.prog 208 #[.int .i64 a, .pointer (some ⟨B, 0, none⟩)] w fun e w' => e = .returned (.int .i64 (downV n f a : Nat)) ∧ Below w.heap.size w w' := down_any B w lo hi H W X room n f x HH HB hn ha
set_option maxRecDepth 100000 in
set_option maxHeartbeats 4000000 in
theorem moveUp_any (B : Nat) (w : World) (lo hi H W X room n : Nat) (f : Nat → En) (x : Nat → Int) (D : Nat → Option Int) (h : HpAt w lo hi H W X room n f x) (hB : w.heap[B]? = some (.cells #[.pointer (some ⟨H, 0, none⟩)] 260 (0, 0))) (hBr : hi ≤ B) {a : Nat} (hG : Good room n f x D) (ha : a < n) (hI : UpI n f a) :
 Calls Tryz.prog 209 #[.pointer (some ⟨H, 0, none⟩), .int .i64 a, .func (.func 206) #[] #[.pointer (some ⟨B, 0, none⟩)]] w fun e w' => ∃ (f' : Nat → En) (x' : Nat → Int) (a' : Nat), e = .returned (.int .i64 a') ∧ a' < n ∧ HpAt w' lo hi H W X room n f' x' ∧ Good room n f' x' D ∧ DnI n f' a' ∧ Mv lo hi w w' := by
 have hlo : lo ≤ w.heap.size := by have := h.rng; have := h.hiS; omega
 have HB := Lib.hid hB
 have HH := Lib.hid h
 have HG := Lib.hid hG
 have HI := Lib.hid hI
 clear hB h hG hI
 go_enter Tryz.func209, Tryz.ntmps209
 go_wp2_with (go_at_call 206; refine (up_at (D := D) HH.out HB.out HG.out.le ha).mono ?_; rintro e w3 ⟨rfl, hb3⟩)
 go_loopw [1, 7] (fun s1 s7 wr => ∃ (f' : Nat → En) (x' : Nat → Int) (a' : Nat), s1 = .int .i64 a' ∧ s7 = .int .i64 (upV f' a' : Nat) ∧ a' < n ∧ Hid (HpAt wr lo hi H W X room n f' x') ∧ Hid (Good room n f' x' D) ∧ Hid (UpI n f' a') ∧ Mv lo hi w wr) (fun i _ _ => (intOf i).toNat)
 case atStart => exact ⟨f, x, a, rfl, rfl, ha, Lib.hid (HH.out.later hb3), HG, HI, Mv.of_below hb3 hlo⟩
 case round =>
  obtain ⟨f1, x1, a1, rfl, rfl, ha1, HH1, HG1, HI1, hm⟩ := hrel
  by_cases hs : upV f1 a1 = a1
  ·have HS := Lib.hid hs
   have tk : decide ((((upV f1 a1 : Nat) : Int)) = (a1 : Int)) = true := decide_eq_true (by omega)
   have HE := Lib.hid (up_end' (HI := HI1.out) (HS := hs))
   clear hs
   rw [HS.out] at *
   go_wp2_with fail
   go_ret
   exact ⟨f1, x1, a1, rfl, ha1, HH1.out, HG1.out, HE.out, hm⟩
  ·obtain ⟨b1, hb1⟩ : ∃ b, b = upV f1 a1 := ⟨_, rfl⟩
   rw [← hb1] at hs ⊢
   have hlt : b1 < n := by rw [hb1]; have := (up_lt (f := f1) (a := a1) (by omega)).1; omega
   have HB1 := Lib.hid hb1
   have HI2 : Hid (UpI n (sw f1 a1 b1) b1) := Lib.hid (by rw [hb1]; exact up_step ha1 HI1.out (by omega))
   have hmeas : b1 < a1 := by rw [hb1]; exact (up_lt (f := f1) (a := a1) (by omega)).1
   have tk : decide ((b1 : Int) = (a1 : Int)) = false := decide_eq_false (by omega)
   have tk' : ¬ ((b1 : Int) = (a1 : Int)) := by omega
   have HNB : Hid ((f1 a1).1 < room ∧ (f1 b1).1 < room) := Lib.hid ⟨(HG1.out.ids a1 ha1).1, (HG1.out.ids b1 hlt).1⟩
   have HNR : Hid (n ≤ room) := Lib.hid HG1.out.le
   have HB2 : Hid (wr.heap[B]? = some (.cells #[.pointer (some ⟨H, 0, none⟩)] 260 (0, 0))) := Lib.hid (hm.block HB.out hBr)
   clear hs hb1
   go_wp2_with (first
    | (go_at_call 206; have _z := hm4; refine (up_at (D := D) hh4.out (hm4.block HB2.out hBr) HNR.out hlt).mono ?_; rintro e w5 ⟨rfl, hb5⟩)
    | (go_at_call 202; refine (swap_any _ lo hi H W X room n f1 x1 HH1.out HNR.out ha1 hlt HNB.out.1 HNB.out.2).mono ?_; rintro e w4 ⟨rfl, hh4', hm4⟩; have hh4 := Lib.hid hh4'; clear hh4')
    | fail "no arm")
   all_goals go_roundw
   case rel => exact ⟨_, _, b1, rfl, rfl, hlt, Lib.hid (hh4.out.later hb5), Lib.hid (HG1.out.swap ha1 hlt), HI2, (hm.trans hm4).trans (Mv.of_below hb5 (by have := hm4.below.size; have := hm.below.size; omega))⟩
   case measure => simp [intOf]; omega
set_option maxRecDepth 100000 in
set_option maxHeartbeats 4000000 in
theorem moveDown_any (B : Nat) (w : World) (lo hi H W X room n : Nat) (f : Nat → En) (x : Nat → Int) (D : Nat → Option Int) (h : HpAt w lo hi H W X room n f x) (hB : w.heap[B]? = some (.cells #[.pointer (some ⟨H, 0, none⟩)] 260 (0, 0))) (hBr : hi ≤ B) {a : Nat} (hG : Good room n f x D) (ha : a < n) (hI : DnI n f a) :
 Calls Tryz.prog 209 #[.pointer (some ⟨H, 0, none⟩), .int .i64 a, .func (.func 208) #[] #[.pointer (some ⟨B, 0, none⟩)]] w fun e w' => ∃ (f' : Nat → En) (x' : Nat → Int) (a' : Nat), e = .returned (.int .i64 a') ∧ a' < n ∧ HpAt w' lo hi H W X room n f' x' ∧ Good room n f' x' D ∧ HOrd n f' ∧ Mv lo hi w w' := by
 have hlo : lo ≤ w.heap.size := by have := h.rng; have := h.hiS; omega
 have HB := Lib.hid hB
 have HH := Lib.hid h
 have HG := Lib.hid hG
 have HI := Lib.hid hI
 clear hB h hG hI
 go_enter Tryz.func209, Tryz.ntmps209
 go_wp2_with (go_at_call 208; refine (down_at (D := D) HH.out HB.out HG.out.le ha).mono ?_; rintro e w3 ⟨rfl, hb3⟩)
 go_loopw [1, 7] (fun s1 s7 wr => ∃ (f' : Nat → En) (x' : Nat → Int) (a' : Nat), s1 = .int .i64 a' ∧ s7 = .int .i64 (downV n f' a' : Nat) ∧ a' < n ∧ Hid (HpAt wr lo hi H W X room n f' x') ∧ Hid (Good room n f' x' D) ∧ Hid (DnI n f' a') ∧ Mv lo hi w wr) (fun i _ _ => n - (intOf i).toNat)
 case atStart => exact ⟨f, x, a, rfl, rfl, ha, Lib.hid (HH.out.later hb3), HG, HI, Mv.of_below hb3 hlo⟩
 case round =>
  obtain ⟨f1, x1, a1, rfl, rfl, ha1, HH1, HG1, HI1, hm⟩ := hrel
  by_cases hs : downV n f1 a1 = a1
  ·have HS := Lib.hid hs
   have tk : decide ((((downV n f1 a1 : Nat) : Int)) = (a1 : Int)) = true := decide_eq_true (by omega)
   have HE := Lib.hid (dn_end' (HI := HI1.out) (HS := hs))
   clear hs
   rw [HS.out] at *
   go_wp2_with fail
   go_ret
   exact ⟨f1, x1, a1, rfl, ha1, HH1.out, HG1.out, HE.out, hm⟩
  ·obtain ⟨b1, hb1⟩ : ∃ b, b = downV n f1 a1 := ⟨_, rfl⟩
   rw [← hb1] at hs ⊢
   have hlt : b1 < n := by rw [hb1]; exact (dn_is (n := n) (f := f1) (a := a1) (by omega)).2.1
   have HB1 := Lib.hid hb1
   have HI2 : Hid (DnI n (sw f1 a1 b1) b1) := Lib.hid (by rw [hb1]; exact dn_step HI1.out (by omega))
   have hmeas : a1 < b1 := by rw [hb1]; exact (dn_is (n := n) (f := f1) (a := a1) (by omega)).1
   have tk : decide ((b1 : Int) = (a1 : Int)) = false := decide_eq_false (by omega)
   have tk' : ¬ ((b1 : Int) = (a1 : Int)) := by omega
   have HNB : Hid ((f1 a1).1 < room ∧ (f1 b1).1 < room) := Lib.hid ⟨(HG1.out.ids a1 ha1).1, (HG1.out.ids b1 hlt).1⟩
   have HNR : Hid (n ≤ room) := Lib.hid HG1.out.le
   have HB2 : Hid (wr.heap[B]? = some (.cells #[.pointer (some ⟨H, 0, none⟩)] 260 (0, 0))) := Lib.hid (hm.block HB.out hBr)
   clear hs hb1
   go_wp2_with (first
    | (go_at_call 208; have _z := hm4; refine (down_at (D := D) hh4.out (hm4.block HB2.out hBr) HNR.out hlt).mono ?_; rintro e w5 ⟨rfl, hb5⟩)
    | (go_at_call 202; refine (swap_any _ lo hi H W X room n f1 x1 HH1.out HNR.out ha1 hlt HNB.out.1 HNB.out.2).mono ?_; rintro e w4 ⟨rfl, hh4', hm4⟩; have hh4 := Lib.hid hh4'; clear hh4')
    | fail "no arm")
   all_goals go_roundw
   case rel => exact ⟨_, _, b1, rfl, rfl, hlt, Lib.hid (hh4.out.later hb5), Lib.hid (HG1.out.swap ha1 hlt), HI2, (hm.trans hm4).trans (Mv.of_below hb5 (by have := hm4.below.size; have := hm.below.size; omega))⟩
   case measure => simp [intOf]; omega
set_option maxRecDepth 100000 in
set_option maxHeartbeats 4000000 in
theorem settle_any (w : World) (lo hi H W X room n : Nat) (f : Nat → En) (x : Nat → Int) (D : Nat → Option Int) (h : HpAt w lo hi H W X room n f x) {a : Nat} (hG : Good room n f x D) (ha : a < n) (hI : UpI n f a) :
 Calls Tryz.prog 200 #[.pointer (some ⟨H, 0, none⟩), .int .i64 a] w fun e w' => ∃ (f' : Nat → En) (x' : Nat → Int), e = .returned (.tuple #[]) ∧ HpAt w' lo hi H W X room n f' x' ∧ Good room n f' x' D ∧ HOrd n f' ∧ Mv lo hi w w' := by
 have hlo : lo ≤ w.heap.size := by have := h.rng; have := h.hiS; omega
 have hhi := h.hiS
 obtain ⟨V, hV⟩ : ∃ V, V = w.alloc (.cells #[.pointer (some ⟨H, 0, none⟩)] 260) := ⟨_, rfl⟩
 have HHV : Hid (HpAt V lo hi H W X room n f x) := Lib.hid (by rw [hV]; exact h.later (below1 _ _))
 have HMV : Hid (Mv lo hi w V) := Lib.hid (by rw [hV]; exact Mv.of_below (below1 _ _) hlo)
 have HBV : Hid (V.heap[w.heap.size]? = some (.cells #[.pointer (some ⟨H, 0, none⟩)] 260 (0, 0))) := Lib.hid (by rw [hV]; exact heap_alloc_new _ _)
 have KS : Hid (∀ Y, Mv lo hi V Y → Y.cell? ⟨w.heap.size, 0, none⟩ = some (.pointer (some ⟨H, 0, none⟩))) := Lib.hid (fun Y hY => cell_in (hY.block HBV.out hhi) rfl)
 have k0 := KS.out V (Mv.refl V)
 have HG := Lib.hid hG
 have HI := Lib.hid hI
 have HV := Lib.hid hV
 clear hG hI h hV
 go_enter Tryz.func200, Tryz.ntmps200
 go_wp2_with fail
 rw [← HV.out]
 go_region_held3 (fun Y => Y.cell? ⟨w.heap.size, 0, none⟩ = some (.pointer (some ⟨H, 0, none⟩)))
  (first | exact KS.out _ (Mv.refl V).drew | exact KS.out _ hm5 | exact KS.out _ hm4 | fail "no")
  (first
  | (go_at_call 209; have _z := hm4; refine (moveDown_any w.heap.size _ lo hi H W X room n f4 x4 D hh4.out (hm4.block HBV.out hhi) hhi hg4.out ha4 hd4.out).mono ?_; rintro e w5 ⟨f5, x5, a5, rfl, ha5, hh5', hg5', ho5', hm5'⟩; have hm5 : Mv lo hi V w5 := hm4.trans hm5'; have hh5 := Lib.hid hh5'; have hg5 := Lib.hid hg5'; have ho5 := Lib.hid ho5'; clear hh5' hg5' ho5' hm5')
  | (go_at_call 209; refine (moveUp_any w.heap.size _ lo hi H W X room n f x D HHV.out.drew (((Mv.refl (lo := lo) (hi := hi) V).drew).block HBV.out hhi) hhi HG.out ha HI.out).mono ?_; rintro e w4 ⟨f4, x4, a4, rfl, ha4, hh4', hg4', hd4', hm4'⟩; have hm4 : Mv lo hi V w4 := ((Mv.refl V).drew).trans hm4'; have hh4 := Lib.hid hh4'; have hg4 := Lib.hid hg4'; have hd4 := Lib.hid hd4'; clear hh4' hg4' hd4' hm4')
  | fail "no arm")
 go_end0
 exact ⟨f5, x5, rfl, hh5.out, hg5.out, ho5.out, HMV.out.trans hm5⟩
end Go.Proofs.YtchbehnkkcjdgaaGreat
namespace Go.Proofs.YtchbehnkkcjdgaaGreat
open Go.ChangeShapes Go.WideShapes Go.ChangeAt Go.RowKit
set_option linter.unusedVariables false
set_option maxRecDepth 100000 in
set_option maxHeartbeats 4000000 in
theorem enter_any (w : World) (lo hi H W X room n : Nat) (f : Nat → En) (x : Nat → Int) (D : Nat → Option Int) (h : HpAt w lo hi H W X room n f x) (hG : Good room n f x D) (hO : HOrd n f) (id : Nat) (d : Int) (hid : id < room) (hD : D id = none) :
 Calls Tryz.prog 190 #[.pointer (some ⟨H, 0, none⟩), .agg #[.int .i64 id, .int .i64 d]] w fun e w' => ∃ (f' : Nat → En) (x' : Nat → Int), e = .returned (.tuple #[]) ∧ HpAt w' lo hi H W X room (n + 1) f' x' ∧ Good room (n + 1) f' x' (upd D id (some d)) ∧ HOrd (n + 1) f' ∧ Mv lo hi w w' := by
 have hn : n < room := hG.room_for hid hD
 have hlo : lo ≤ w.heap.size := by have := h.rng; have := h.hiS; omega
 have hhi := h.hiS
 have hr := h.rng
 obtain ⟨V, hV⟩ : ∃ V, V = w.alloc (.cells #[.int .i64 id, .int .i64 d] 231) := ⟨_, rfl⟩
 have hsz : V.heap.size = w.heap.size + 1 := by rw [hV]; simp
 have hHV : HpAt V lo hi H W X room n f x := by rw [hV]; exact h.later (below1 _ _)
 have HMV : Hid (Mv lo hi w V) := Lib.hid (by rw [hV]; exact Mv.of_below (below1 _ _) hlo)
 have hBV : V.heap[w.heap.size]? = some (.cells #[.int .i64 id, .int .i64 d] 231 (0, 0)) := by rw [hV]; exact heap_alloc_new _ _
 obtain ⟨A, hA⟩ : ∃ A, A = V.alloc (.cells #[.int .i64 id, .int .i64 d] 231) := ⟨_, rfl⟩
 have hHA : HpAt A lo hi H W X room n f x := by rw [hA]; exact hHV.later (below1 _ _)
 have hMA : Mv lo hi w A := by rw [hA]; exact HMV.out.trans (Mv.of_below (below1 _ _) (by show lo ≤ V.heap.size; omega))
 have hBA : A.heap[w.heap.size]? = some (.cells #[.int .i64 id, .int .i64 d] 231 (0, 0)) := by rw [hA]; exact (Below.heap_alloc _ _ _ (by show _ < V.heap.size; omega)).trans hBV
 have hSA : A.heap[w.heap.size + 1]? = some (.cells #[.int .i64 id, .int .i64 d] 231 (0, 0)) := by rw [hA, ← hsz]; exact heap_alloc_new V _
 obtain ⟨r0, r1, r2, r3⟩ := hHA.who.at_ hn
 obtain ⟨s0, s1, s2, s3⟩ := hHA.cells
 rw [hA] at r0 r1 r2 r3 s0 s2
 have n1 : n + 1 ≤ room := hn
 have n2 : W ≠ H := h.ne.1.symm
 have n3 : H ≠ W := h.ne.1
 obtain ⟨c0, c1, c2, c3⟩ := hHV.cells
 have k0 : V.cell? ⟨w.heap.size, 0, none⟩ = some (.int .i64 id) := cell_in hBV rfl
 have k1 : V.cell? ⟨w.heap.size, 1, none⟩ = some (.int .i64 d) := cell_in hBV rfl
 obtain ⟨Y, hY⟩ : ∃ Y, Y = (((A.setCell ⟨W, n * 2, none⟩ (.int .i64 id)).setCell ⟨W, n * 2 + 1, none⟩ (.int .i64 d)).setCell ⟨H, 0, none⟩ (.slice (some ⟨W, 0, none⟩) (n + 1) room)).drew := ⟨_, rfl⟩
 have HHY : Hid (HpAt Y lo hi H W X room (n + 1) (upd f n (id, d)) x) := Lib.hid (by rw [hY]; exact ((hHA.set hn id d).len (n + 1)).drew)
 have HMY : Hid (Mv lo hi w Y) := Lib.hid (by rw [hY]; exact (((hMA.set hr.2.1 hr.2.2.2.2.1 _ _).set hr.2.1 hr.2.2.2.2.1 _ _).set hr.1 hr.2.2.2.1 _ _).drew)
 have HBY : Hid (Y.heap[w.heap.size]? = some (.cells #[.int .i64 id, .int .i64 d] 231 (0, 0))) := Lib.hid (by rw [hY, heap_drew, set_other _ _ _ (by omega), set_other _ _ _ (by omega), set_other _ _ _ (by omega)]; exact hBA)
 have HG2 := Lib.hid (hG.enter (e := (id, d)) hid hD)
 have HU2 : Hid (UpI (n + 1) (upd f n (id, d)) n) := Lib.hid (hO.but (fun i h1 h2 => ⟨by omega, upd_ne _ _ h2⟩) (fun i h1 h2 => by omega))
 have KS : Hid (∀ Z x', HpAt Z lo hi H W X room (n + 1) (upd f n (id, d)) x' → Mv lo hi Y Z → Z.cell? ⟨H, 1, none⟩ = some (.slice (some ⟨X, 0, none⟩) room room) ∧ Z.cell? ⟨w.heap.size, 0, none⟩ = some (.int .i64 id)) := Lib.hid (fun Z x' h1 h2 => ⟨h1.cells.2.1, cell_in (h2.block HBY.out hhi) rfl⟩)
 have HV := Lib.hid hV
 have HA := Lib.hid hA
 have HY := Lib.hid hY
 have HR : Hid (lo ≤ X ∧ X < hi) := Lib.hid ⟨hr.2.2.1, hr.2.2.2.2.2⟩
 have n0 : (0 : Int) ≤ (n : Int) := by omega
 have u1 : H < V.heap.size := by have := hHV.hiS; omega
 have u2 : w.heap.size < V.heap.size := by omega
 have u3 : W < V.heap.size := by have := hHV.hiS; omega
 obtain ⟨b0, _, _, _⟩ := h.cells
 have u0 : H < w.heap.size := by omega
 clear hG hO h hV hHV hBV hMA hHA hBA hSA hY hr
 go_enter Tryz.func190, Tryz.ntmps190
 go_wp2_with fail
 rw [← HV.out]
 go_region
 rw [← HA.out, ← HY.out]
 clear b0 c0 c1 c2 c3 k0 k1 r0 r1 r2 r3 s0 s1 s2 s3 u1 u2 u3 hsz
 obtain ⟨q0, q1⟩ := KS.out _ _ HHY.out (Mv.refl _)
 have i0 : (0 : Int) ≤ (id : Int) := by omega
 go_wp2_with fail
 go_region_held3 (fun Z => Z.cell? ⟨H, 1, none⟩ = some (.slice (some ⟨X, 0, none⟩) room room) ∧ Z.cell? ⟨w.heap.size, 0, none⟩ = some (.int .i64 id))
  (first | exact KS.out _ _ HHY.out.drew (Mv.refl Y).drew | exact KS.out _ _ hp4.out hm4.out | fail "no")
  (first | (go_at_call 199; refine (put_any X room id x n _ HHY.out.drew.whr hid).mono ?_; rintro e w4 ⟨rfl, hw4⟩; have hp4 := Lib.hid (show HpAt w4 lo hi H W X room (n + 1) _ _ from by rw [hw4]; exact HHY.out.drew.put hid n); have hm4 := Lib.hid (show Mv lo hi Y w4 from by rw [hw4]; exact ((Mv.refl Y).drew).set HR.out.1 HR.out.2 _ _); clear hw4) | fail "no arm")
 go_wp2_with (go_at_call 200; refine (settle_any _ lo hi H W X room (n + 1) _ _ _ hp4.out HG2.out (Nat.lt_succ_self n) HU2.out).mono ?_; rintro e w5 ⟨f5, x5, rfl, hh5', hg5', ho5', hm5'⟩; have hh5 := Lib.hid hh5'; have hg5 := Lib.hid hg5'; have ho5 := Lib.hid ho5'; have hm5 := Lib.hid hm5'; clear hh5' hg5' ho5' hm5')
 go_end0
 exact ⟨f5, x5, rfl, hh5.out, hg5.out, ho5.out, (HMY.out.trans hm4.out).trans hm5.out⟩
set_option maxRecDepth 100000 in
set_option maxHeartbeats 4000000 in
theorem leave_any (w : World) (lo hi H W X room n m : Nat) (f : Nat → En) (x : Nat → Int) (D : Nat → Option Int) (h : HpAt w lo hi H W X room n f x) (hG : Good room n f x D) (hO : HOrd n f) {a : Nat} (ha : a < n) (hm : n = m + 1) :
 Calls Tryz.prog 195 #[.pointer (some ⟨H, 0, none⟩), .int .i64 a] w fun e w' => ∃ (f' : Nat → En) (x' : Nat → Int), e = .returned (.tuple #[]) ∧ HpAt w' lo hi H W X room m f' x' ∧ Good room m f' x' (upd D (f a).1 none) ∧ HOrd m f' ∧ Mv lo hi w w' := by
 have hnr := hG.le
 have hsm := h.small
 obtain ⟨b0, b1, b2, b3⟩ := h.cells
 have hr := h.rng
 obtain ⟨n1, n2, n3⟩ := h.ne
 have n1' := n1.symm
 have n2' := n2.symm
 have hmn : m < n := by omega
 have hG1 := hG.swap ha hmn
 have HL := Lib.hid (show Good room m (sw f a m) (upd (upd (upd x (f m).1 a) (f a).1 m) (f a).1 (-1)) (upd D (f a).1 none) from by
  have hG2 := hG1
  rw [hm] at hG2
  have := hG2.leave
  rw [sw_b] at this
  exact this)
 have hia := (hG.ids a ha).1
 have HI := Lib.hid (show (f a).1 < room ∧ (f m).1 < room from ⟨(hG.ids a ha).1, (hG.ids m hmn).1⟩)
 have HO1 : Hid (a < m → UpI m (sw f a m) a) := Lib.hid (fun hlt => hO.but (fun i h1 h2 => ⟨by omega, sw_ne f h2 (by omega)⟩) (fun i h1 h2 => by omega))
 have HO2 : Hid (¬ a < m → HOrd m (sw f a m)) := Lib.hid (fun hlt => hO.cut (by omega) (fun i h1 => sw_ne f (by omega) (by omega)))
 have HH := Lib.hid h
 have HR : Hid (lo ≤ H ∧ H < hi ∧ lo ≤ X ∧ X < hi) := Lib.hid ⟨hr.1, hr.2.2.2.1, hr.2.2.1, hr.2.2.2.2.2⟩
 have HNR := Lib.hid hnr
 obtain ⟨fa, hfa⟩ : ∃ fa, fa = f a := ⟨_, rfl⟩
 have KS : Hid (∀ Z x', HpAt Z lo hi H W X room n (sw f a m) x' → Z.cell? ⟨H, 0, none⟩ = some (.slice (some ⟨W, 0, none⟩) n room) ∧ Z.cell? ⟨H, 1, none⟩ = some (.slice (some ⟨X, 0, none⟩) room room) ∧ Z.cell? ⟨W, m * 2, none⟩ = some (.int .i64 fa.1)) := Lib.hid (fun Z x' h1 => ⟨h1.cells.1, h1.cells.2.1, by have := (h1.who.at_ (show m < room by omega)).1; rw [sw_b, ← hfa] at this; exact this⟩)
 rw [← hfa] at HL HI hia ⊢
 have HFA := Lib.hid hfa
 have m0 : (n : Int) - 1 = (m : Int) := by omega
 have m1 : (0 : Int) ≤ (m : Int) := by omega
 have m2 : (m : Int) < (n : Int) := by omega
 have m3 : decide ((m : Int) < (n : Int)) = true := decide_eq_true m2
 have m4 : (m : Int) ≤ (room : Int) := by omega
 have m5 : m ≤ room := by omega
 have ia0 : (0 : Int) ≤ (fa.1 : Int) := by omega
 have HN := Lib.hid hm
 clear hG hO h hG1 hr hfa hm
 go_enter Tryz.func195, Tryz.ntmps195
 go_wp2_with (go_at_call 202; refine (swap_any _ lo hi H W X room n f x HH.out HNR.out ha hmn (by rw [← HFA.out]; exact HI.out.1) HI.out.2).mono ?_; rintro e w4 ⟨rfl, hh4', hm4'⟩; have hh4 := Lib.hid hh4'; have hm4 := Lib.hid hm4'; clear hh4' hm4')
 clear b0 b1 b2 b3
 obtain ⟨q0, q1, q2⟩ := KS.out _ _ hh4.out
 go_wp2_with fail
 go_region_held3 (fun Z => Z.cell? ⟨H, 0, none⟩ = some (.slice (some ⟨W, 0, none⟩) n room) ∧ Z.cell? ⟨H, 1, none⟩ = some (.slice (some ⟨X, 0, none⟩) room room) ∧ Z.cell? ⟨W, m * 2, none⟩ = some (.int .i64 fa.1))
  (first | exact KS.out _ _ hh4.out.drew | exact KS.out _ _ hp5.out | fail "no")
  (first | (go_at_call 199; refine (put_any X room fa.1 _ (-1) _ hh4.out.drew.whr HI.out.1).mono ?_; rintro e w5 ⟨rfl, hw5⟩; have hp5 := Lib.hid (show HpAt w5 lo hi H W X room n _ _ from by rw [hw5]; exact hh4.out.drew.put HI.out.1 (-1)); have hm5 := Lib.hid (show Mv lo hi w w5 from by rw [hw5]; exact hm4.out.drew.set HR.out.2.2.1 HR.out.2.2.2 _ _); clear hw5) | fail "no arm")
 clear q0 q1 q2
 obtain ⟨q0, q1, q2, q3⟩ := hp5.out.cells
 obtain ⟨Y, hY⟩ : ∃ Y, Y = w5.setCell ⟨H, 0, none⟩ (.slice (some ⟨W, 0, none⟩) m room) := ⟨_, rfl⟩
 have HHY : Hid (HpAt Y lo hi H W X room m (sw f a m) (upd (upd (upd x (f m).1 a) fa.1 m) fa.1 (-1))) := Lib.hid (by rw [hY]; have := hp5.out.len m; rwa [← HFA.out] at this)
 have HMY : Hid (Mv lo hi w Y) := Lib.hid (by rw [hY]; exact hm5.out.set HR.out.1 HR.out.2.1 _ _)
 have HY := Lib.hid hY
 clear hY
 by_cases hlt : a < m
 ·have tk : decide ((a : Int) < (m : Int)) = true := decide_eq_true (by omega)
  have HU := Lib.hid (HO1.out hlt)
  go_wp2_with (go_at_call 200; rw [← HY.out]; refine (settle_any _ lo hi H W X room m _ _ _ HHY.out HL.out hlt HU.out).mono ?_; rintro e w6 ⟨f6, x6, rfl, hh6', hg6', ho6', hm6'⟩; have hh6 := Lib.hid hh6'; have hg6 := Lib.hid hg6'; have ho6 := Lib.hid ho6'; have hm6 := Lib.hid hm6'; clear hh6' hg6' ho6' hm6')
  go_end0
  exact ⟨f6, x6, rfl, hh6.out, hg6.out, ho6.out, HMY.out.trans hm6.out⟩
 ·have tk : decide ((a : Int) < (m : Int)) = false := decide_eq_false (by omega)
  have HU := Lib.hid (HO2.out hlt)
  go_wp2_with fail
  go_end0
  rw [← HY.out]
  exact ⟨_, _, rfl, HHY.out, HL.out, HU.out, HMY.out⟩
end Go.Proofs.YtchbehnkkcjdgaaGreat
namespace Go.Proofs.YtchbehnkkcjdgaaGreat
open Go.ChangeShapes Go.WideShapes Go.ChangeAt Go.RowKit
set_option linter.unusedVariables false
def Dv (D : Nat → Option Int) (id : Int) : Option Int := if 0 ≤ id then D id.toNat else none
def InR (room : Nat) (id : Int) : Bool := decide (0 ≤ id) && decide (id < room)
theorem Dv.nat (D : Nat → Option Int) (i : Nat) : Dv D (i : Int) = D i := by unfold Dv; rw [if_pos (by omega)]; simp
/-- A heap that holds what D tells. -/
def HpD (w : World) (lo hi H W X room n : Nat) (D : Nat → Option Int) : Prop := ∃ f x, HpAt w lo hi H W X room n f x ∧ Good room n f x D ∧ HOrd n f
theorem HpD.keep {w w' : World} {lo hi H W X room n : Nat} {D : Nat → Option Int} (h : HpD w lo hi H W X room n D) (hs : SameIn w w' lo hi) (hz : w.heap.size ≤ w'.heap.size) : HpD w' lo hi H W X room n D := by
 obtain ⟨f, x, h1, h2⟩ := h
 exact ⟨f, x, h1.keep hs hz, h2⟩
theorem HpD.later {w w' : World} {lo hi H W X room n : Nat} {D : Nat → Option Int} (h : HpD w lo hi H W X room n D) (hb : Below w.heap.size w w') : HpD w' lo hi H W X room n D := by
 obtain ⟨f, x, h1, h2⟩ := h
 exact ⟨f, x, h1.later hb, h2⟩
theorem HpD.lo {w : World} {lo hi H W X room n : Nat} {D : Nat → Option Int} (h : HpD w lo hi H W X room n D) : lo ≤ w.heap.size ∧ hi ≤ w.heap.size := by
 obtain ⟨f, x, h1, _⟩ := h
 have := h1.rng
 have := h1.hiS
 omega
set_option maxRecDepth 100000 in
set_option maxHeartbeats 2000000 in
theorem isNumber_any (w : World) (lo hi H W X room n : Nat) (f : Nat → En) (x : Nat → Int) (h : HpAt w lo hi H W X room n f x) (id : Int) :
 Calls Tryz.prog 188 #[.pointer (some ⟨H, 0, none⟩), .int .i64 id] w fun e w' => e = .returned (.bool (InR room id)) ∧ w' = w := by
 obtain ⟨b0, b1, b2, b3⟩ := h.cells
 have HR : Hid (∀ a b, a = decide (0 ≤ id) → b = decide (id < room) → InR room id = (a && b)) := Lib.hid (fun a b h1 h2 => by rw [h1, h2]; rfl)
 clear h
 by_cases h0 : 0 ≤ id
 ·have t0 : decide (0 ≤ id) = true := decide_eq_true h0
  have HT := Lib.hid t0.symm
  by_cases h1 : id < (room : Int)
  ·have t1 : decide (id < (room : Int)) = true := decide_eq_true h1
   have HU := Lib.hid t1.symm
   go_enter Tryz.func188, Tryz.ntmps188
   go_wp2
   go_ret
   rw [HR.out _ _ HT.out HU.out]
   exact ⟨rfl, rfl⟩
  ·have t1 : decide (id < (room : Int)) = false := decide_eq_false h1
   have HU := Lib.hid t1.symm
   go_enter Tryz.func188, Tryz.ntmps188
   go_wp2
   go_ret
   rw [HR.out _ _ HT.out HU.out]
   exact ⟨rfl, rfl⟩
 ·have t0 : decide (0 ≤ id) = false := decide_eq_false h0
  have HT := Lib.hid t0.symm
  go_enter Tryz.func188, Tryz.ntmps188
  go_wp2
  go_ret
  rw [HR.out _ _ HT.out rfl]
  exact ⟨by simp, rfl⟩
set_option maxRecDepth 100000 in
set_option maxHeartbeats 2000000 in
theorem place_no (w : World) (lo hi H W X room n : Nat) (f : Nat → En) (x : Nat → Int) (D : Nat → Option Int) (h : HpAt w lo hi H W X room n f x) (hG : Good room n f x D) (id : Int) (hD : Dv D id = none) :
 Calls Tryz.prog 189 #[.pointer (some ⟨H, 0, none⟩), .int .i64 id] w fun e w' => e = .returned (.tuple #[.int .i64 0, .bool false]) ∧ w' = w := by
 obtain ⟨b0, b1, b2, b3⟩ := h.cells
 have HI := Lib.hid (isNumber_any w lo hi H W X room n f x h id)
 cases hin : InR room id with
 | false =>
   rw [hin] at HI
   clear h hG
   go_enter Tryz.func189, Tryz.ntmps189
   go_wp2_with (go_at_call 188; refine HI.out.mono ?_; rintro e w3 ⟨rfl, rfl⟩)
   ((try simp only [Exit.inBlock, Exit.then]); refine bodyPost_ret (results_tmp2 rfl _ _ _) rfl ?_)
   exact ⟨rfl, rfl⟩
 | true =>
   rw [hin] at HI
   obtain ⟨i, rfl⟩ : ∃ i : Nat, id = i := ⟨id.toNat, by simp only [InR, Bool.and_eq_true, decide_eq_true_eq] at hin; omega⟩
   have hir : i < room := by simp only [InR, Bool.and_eq_true, decide_eq_true_eq] at hin; omega
   rw [Dv.nat] at hD
   have k0 := (h.whr.at_ hir).1
   rw [hG.nowhere hir hD] at k0
   have i0 : (0 : Int) ≤ (i : Int) := by omega
   have i1 : (i : Int) < (room : Int) := by omega
   have i2 : decide ((i : Int) < (room : Int)) = true := decide_eq_true i1
   clear h hG
   go_enter Tryz.func189, Tryz.ntmps189
   go_wp2_with (go_at_call 188; refine HI.out.mono ?_; rintro e w3 ⟨rfl, rfl⟩)
   ((try simp only [Exit.inBlock, Exit.then]); refine bodyPost_ret (results_tmp2 rfl _ _ _) rfl ?_)
   exact ⟨rfl, rfl⟩
set_option maxRecDepth 100000 in
set_option maxHeartbeats 2000000 in
theorem place_yes (w : World) (lo hi H W X room n : Nat) (f : Nat → En) (x : Nat → Int) (D : Nat → Option Int) (h : HpAt w lo hi H W X room n f x) (hG : Good room n f x D) (i k : Nat) (hk : k < n) (hf : (f k).1 = i) :
 Calls Tryz.prog 189 #[.pointer (some ⟨H, 0, none⟩), .int .i64 i] w fun e w' => e = .returned (.tuple #[.int .i64 k, .bool true]) ∧ w' = w := by
 obtain ⟨b0, b1, b2, b3⟩ := h.cells
 have HI := Lib.hid (isNumber_any w lo hi H W X room n f x h i)
 obtain ⟨g1, g2, g3⟩ := hG.ids k hk
 rw [hf] at g1 g2
 have hin : InR room (i : Int) = true := by simp only [InR, Bool.and_eq_true, decide_eq_true_eq]; omega
 rw [hin] at HI
 have k0 := (h.whr.at_ g1).1
 rw [g2] at k0
 have i0 : (0 : Int) ≤ (i : Int) := by omega
 have i1 : (i : Int) < (room : Int) := by omega
 have i2 : decide ((i : Int) < (room : Int)) = true := decide_eq_true i1
 have t0 : decide ((k : Int) = -1) = false := decide_eq_false (by omega)
 have t1 : ¬ ((k : Int) = -1) := by omega
 clear h hG g1 g2 g3
 go_enter Tryz.func189, Tryz.ntmps189
 go_wp2_with (go_at_call 188; refine HI.out.mono ?_; rintro e w3 ⟨rfl, rfl⟩)
 ((try simp only [Exit.inBlock, Exit.then]); refine bodyPost_ret (results_tmp2 rfl _ _ _) rfl ?_)
 exact ⟨rfl, rfl⟩
set_option maxRecDepth 100000 in
set_option maxHeartbeats 2000000 in
theorem hput_in (w : World) (lo hi H W X room n : Nat) (D : Nat → Option Int) (h : HpD w lo hi H W X room n D) (i : Nat) (due : Int) (hir : i < room) (hd : D i = none) :
 Calls Tryz.prog 162 #[.pointer (some ⟨H, 0, none⟩), .int .i64 i, .int .i64 due] w fun e w' => e = .returned (.int .i64 0) ∧ HpD w' lo hi H W X room (n + 1) (upd D i (some due)) ∧ Mv lo hi w w' := by
 obtain ⟨f, x, h1, h2, h3⟩ := h
 have HI := Lib.hid (isNumber_any w lo hi H W X room n f x h1 i)
 have HP := Lib.hid (place_no w lo hi H W X room n f x D h1 h2 i (by rw [Dv.nat]; exact hd))
 rw [show InR room (i : Int) = true by simp only [InR, Bool.and_eq_true, decide_eq_true_eq]; omega] at HI
 have HE := Lib.hid (enter_any w lo hi H W X room n f x D h1 h2 h3 i due hir hd)
 clear h1 h2 h3
 go_enter Tryz.func162, Tryz.ntmps162
 go_wp2_with (first | (go_at_call 188; refine HI.out.mono ?_; rintro e w3 ⟨rfl, rfl⟩) | (go_at_call 189; refine HP.out.mono ?_; rintro e w3 ⟨rfl, rfl⟩) | (go_at_call 190; refine HE.out.mono ?_; rintro e w5 ⟨f5, x5, rfl, hh5', hg5', ho5', hm5'⟩; have hh5 := Lib.hid hh5'; have hg5 := Lib.hid hg5'; have ho5 := Lib.hid ho5'; have hm5 := Lib.hid hm5'; clear hh5' hg5' ho5' hm5') | fail "no arm")
 go_ret
 exact ⟨rfl, ⟨f5, x5, hh5.out, hg5.out, ho5.out⟩, hm5.out⟩
set_option maxRecDepth 100000 in
set_option maxHeartbeats 2000000 in
theorem hchange_in (w : World) (lo hi H W X room n : Nat) (D : Nat → Option Int) (h : HpD w lo hi H W X room n D) (i : Nat) (due d : Int) (hd : D i = some d) :
 Calls Tryz.prog 198 #[.pointer (some ⟨H, 0, none⟩), .int .i64 i, .int .i64 due] w fun e w' => e = .returned (.int .i64 0) ∧ HpD w' lo hi H W X room n (upd D i (some due)) ∧ Mv lo hi w w' := by
 obtain ⟨f, x, h1, h2, h3⟩ := h
 obtain ⟨k, hk, _, hf, hir⟩ := h2.place hd
 have hnr := h2.le
 have hr := h1.rng
 obtain ⟨b0, b1, b2, b3⟩ := h1.cells
 obtain ⟨c0, c1, c2, c3⟩ := h1.who.at_ (show k < room by omega)
 have HI := Lib.hid (isNumber_any w lo hi H W X room n f x h1 i)
 have HP := Lib.hid (place_yes w lo hi H W X room n f x D h1 h2 i k hk (by rw [hf]))
 rw [show InR room (i : Int) = true by simp only [InR, Bool.and_eq_true, decide_eq_true_eq]; omega] at HI
 obtain ⟨Y, hY⟩ : ∃ Y, Y = w.setCell ⟨W, k * 2 + 1, none⟩ (.int .i64 due) := ⟨_, rfl⟩
 have hHY : HpAt Y lo hi H W X room n (upd f k ((f k).1, due)) x := by rw [hY]; exact h1.due (show k < room by omega) due
 have HMY : Hid (Mv lo hi w Y) := Lib.hid (by rw [hY]; exact (Mv.refl w).set hr.2.1 hr.2.2.2.2.1 _ _)
 have hg := h2.change hk due
 rw [hf] at hg hHY
 have HE := Lib.hid (settle_any Y lo hi H W X room n _ x _ hHY hg hk (h3.but (fun j hj hjk => ⟨hj, upd_ne _ _ hjk⟩) (fun j _ _ => by omega)))
 have HY := Lib.hid hY
 have k0 : (0 : Int) ≤ (k : Int) := by omega
 have k1 : (k : Int) < (n : Int) := by omega
 have k2 : decide ((k : Int) < (n : Int)) = true := decide_eq_true k1
 clear h1 h2 h3 hY hHY hg hr hd
 go_enter Tryz.func198, Tryz.ntmps198
 go_wp2_with (first | (go_at_call 188; refine HI.out.mono ?_; rintro e w3 ⟨rfl, rfl⟩) | (go_at_call 189; refine HP.out.mono ?_; rintro e w3 ⟨rfl, rfl⟩) | (go_at_call 200; rw [← HY.out]; refine HE.out.mono ?_; rintro e w5 ⟨f5, x5, rfl, hh5', hg5', ho5', hm5'⟩; have hh5 := Lib.hid hh5'; have hg5 := Lib.hid hg5'; have ho5 := Lib.hid ho5'; have hm5 := Lib.hid hm5'; clear hh5' hg5' ho5' hm5') | fail "no arm")
 go_ret
 exact ⟨rfl, ⟨f5, x5, hh5.out, hg5.out, ho5.out⟩, HMY.out.trans hm5.out⟩
set_option maxRecDepth 100000 in
set_option maxHeartbeats 2000000 in
theorem hremove_in (w : World) (lo hi H W X room n : Nat) (D : Nat → Option Int) (h : HpD w lo hi H W X room n D) (i : Nat) (d : Int) (hd : D i = some d) :
 Calls Tryz.prog 180 #[.pointer (some ⟨H, 0, none⟩), .int .i64 i] w fun e w' => ∃ m, e = .returned (.bool true) ∧ n = m + 1 ∧ HpD w' lo hi H W X room m (upd D i none) ∧ Mv lo hi w w' := by
 obtain ⟨f, x, h1, h2, h3⟩ := h
 obtain ⟨k, hk, _, hf, hir⟩ := h2.place hd
 have HP := Lib.hid (place_yes w lo hi H W X room n f x D h1 h2 i k hk (by rw [hf]))
 obtain ⟨m, hm⟩ : ∃ m, n = m + 1 := ⟨n - 1, by omega⟩
 have HE := Lib.hid (leave_any w lo hi H W X room n m f x D h1 h2 h3 hk hm)
 rw [hf] at HE
 have HM := Lib.hid hm
 clear h1 h2 h3 hm hd
 go_enter Tryz.func180, Tryz.ntmps180
 go_wp2_with (first | (go_at_call 189; refine HP.out.mono ?_; rintro e w3 ⟨rfl, rfl⟩) | (go_at_call 195; refine HE.out.mono ?_; rintro e w5 ⟨f5, x5, rfl, hh5', hg5', ho5', hm5'⟩; have hh5 := Lib.hid hh5'; have hg5 := Lib.hid hg5'; have ho5 := Lib.hid ho5'; have hm5 := Lib.hid hm5'; clear hh5' hg5' ho5' hm5') | fail "no arm")
 go_ret
 exact ⟨m, rfl, HM.out, ⟨f5, x5, hh5.out, hg5.out, ho5.out⟩, hm5.out⟩
set_option maxRecDepth 100000 in
set_option maxHeartbeats 2000000 in
theorem hdue_any (w : World) (lo hi H W X room n : Nat) (D : Nat → Option Int) (h : HpD w lo hi H W X room n D) (id : Int) :
 Calls Tryz.prog 179 #[.pointer (some ⟨H, 0, none⟩), .int .i64 id] w fun e w' => e = .returned (.tuple #[.int .i64 ((Dv D id).getD 0), .bool (Dv D id).isSome]) ∧ w' = w := by
 obtain ⟨f, x, h1, h2, h3⟩ := h
 cases hd : Dv D id with
 | none =>
   have HP := Lib.hid (place_no w lo hi H W X room n f x D h1 h2 id hd)
   clear h1 h2 h3
   go_enter Tryz.func179, Tryz.ntmps179
   go_wp2_with (go_at_call 189; refine HP.out.mono ?_; rintro e w3 ⟨rfl, rfl⟩)
   ((try simp only [Exit.inBlock, Exit.then]); refine bodyPost_ret (results_tmp2 rfl _ _ _) rfl ?_)
   exact ⟨rfl, rfl⟩
 | some d =>
   obtain ⟨i, rfl⟩ : ∃ i : Nat, id = i := ⟨id.toNat, by unfold Dv at hd; split at hd; omega; cases hd⟩
   rw [Dv.nat] at hd
   obtain ⟨k, hk, _, hf, hir⟩ := h2.place hd
   have hnr := h2.le
   obtain ⟨b0, b1, b2, b3⟩ := h1.cells
   have c1 := (h1.who.at_ (show k < room by omega)).2.1
   rw [hf] at c1
   have HP := Lib.hid (place_yes w lo hi H W X room n f x D h1 h2 i k hk (by rw [hf]))
   have k0 : (0 : Int) ≤ (k : Int) := by omega
   have k1 : (k : Int) < (n : Int) := by omega
   have k2 : decide ((k : Int) < (n : Int)) = true := decide_eq_true k1
   clear h1 h2 h3 hd
   go_enter Tryz.func179, Tryz.ntmps179
   go_wp2_with (go_at_call 189; refine HP.out.mono ?_; rintro e w3 ⟨rfl, rfl⟩)
   ((try simp only [Exit.inBlock, Exit.then]); refine bodyPost_ret (results_tmp2 rfl _ _ _) rfl ?_)
   exact ⟨rfl, rfl⟩
set_option maxRecDepth 100000 in
set_option maxHeartbeats 2000000 in
theorem hlen_any (w : World) (lo hi H W X room n : Nat) (f : Nat → En) (x : Nat → Int) (h : HpAt w lo hi H W X room n f x) :
 Calls Tryz.prog 169 #[.pointer (some ⟨H, 0, none⟩)] w fun e w' => e = .returned (.int .i64 (n : Nat)) ∧ w' = w := by
 obtain ⟨b0, b1, b2, b3⟩ := h.cells
 clear h
 go_enter Tryz.func169, Tryz.ntmps169
 go_wp2
 go_ret
 exact ⟨rfl, rfl⟩
def fstV (R : List En) : Value := match R with | [] => .tuple #[.int .i64 0, .int .i64 0, .bool false] | e :: _ => .tuple #[.int .i64 (e.1 : Nat), .int .i64 e.2, .bool true]
set_option maxRecDepth 100000 in
set_option maxHeartbeats 2000000 in
theorem hfirst_any (w : World) (lo hi H W X room n : Nat) (f : Nat → En) (x : Nat → Int) (D : Nat → Option Int) (R : List En) (h : HpAt w lo hi H W X room n f x) (hG : Good room n f x D) (hO : HOrd n f) (hR : Rep R D) :
 Calls Tryz.prog 124 #[.pointer (some ⟨H, 0, none⟩)] w fun e w' => e = .returned (fstV R) ∧ Below w.heap.size w w' := by
 have HL := Lib.hid (hlen_any w lo hi H W X room n f x h)
 have hl := row_len hG hR
 rcases R with _ | ⟨e0, R⟩
 ·obtain rfl : n = 0 := hl
  clear h hG hO hR
  go_enter Tryz.func124, Tryz.ntmps124
  go_wp2_with (go_at_call 169; refine HL.out.mono ?_; rintro e w3 ⟨rfl, rfl⟩)
  ((try simp only [Exit.inBlock, Exit.then]); refine bodyPost_ret (results_tmp3 rfl _ _ _) rfl ?_)
  exact ⟨rfl, Below.refl _ _⟩
 ·have hf := first_is hG hO hR (by simp)
  simp only [List.length_cons] at hl
  have hnr := hG.le
  obtain ⟨b0, b1, b2, b3⟩ := h.cells
  obtain ⟨c0, c1, _, _⟩ := h.who.at_ (show 0 < room by omega)
  rw [hf] at c0 c1
  simp only [Nat.zero_mul, Nat.zero_add, List.getElem_cons_zero] at c0 c1
  obtain ⟨i0, d0⟩ := e0
  dsimp only at c0 c1
  have HW := Lib.hid (h.who.lt)
  have u0 : W < w.heap.size := h.who.lt
  have n0 : (0 : Int) < (n : Int) := by omega
  have n1 : decide ((0 : Int) < (n : Int)) = true := decide_eq_true n0
  have n2 : decide ((n : Int) = 0) = false := decide_eq_false (by omega)
  have n3 : ¬ ((n : Int) = 0) := by omega
  have n4 : ¬ (n = 0) := by omega
  clear h hG hO hR hf hl
  go_enter Tryz.func124, Tryz.ntmps124
  go_wp2_with (go_at_call 169; refine HL.out.mono ?_; rintro e w3 ⟨rfl, rfl⟩)
  go_region
  go_wp2
  ((try simp only [Exit.inBlock, Exit.then]); refine bodyPost_ret (results_tmp3 rfl _ _ _) rfl ?_)
  refine ⟨rfl, ?_⟩
  repeat first | exact Below.refl _ _ | refine Below.drew ?_ | refine Below.setCell ?_ (Nat.le_refl _) _ | exact below1 _ _ | refine b_alloc ?_ (Nat.le_refl _) _
end Go.Proofs.YtchbehnkkcjdgaaGreat
namespace Go.Proofs.YtchbehnkkcjdgaaGreat
open Go.ChangeShapes Go.WideShapes Go.ChangeAt Go.RowKit
set_option linter.unusedVariables false
set_option linter.unusedSimpArgs false
set_option maxRecDepth 100000 in
set_option maxHeartbeats 2000000 in
theorem mul64_any (y : Nat) (hy : y ≤ 1024) (w : World) :
 Calls Tryz.prog 211 #[.int .u64 1, .int .u64 y] w fun e w' => e = .returned (.tuple #[.int .u64 0, .int .u64 y]) ∧ w' = w := by
 have m1 : bits .and .u64 1 4294967295 = 1 := by kernel_rfl
 have m0 : bits .and .u64 0 4294967295 = 0 := by kernel_rfl
 have y0 : y % 4294967296 = y := Nat.mod_eq_of_lt (by omega)
 have y1 : y / 4294967296 = 0 := Nat.div_eq_of_lt (by omega)
 have w0 : IntKind.u64.wrap (0 : Int) = 0 := by kernel_rfl
 have wy : IntKind.u64.wrap (y : Int) = (y : Int) := Mul64.wrapN y (by omega)
 go_enter Tryz.func211, Tryz.ntmps211
 go_wp2
 simp only [Mul64.maskN y (by omega), Mul64.divN, y0, y1, m1, Int.one_mul, wy, Int.natCast_zero, Int.mul_zero, Int.zero_mul, w0, Int.add_zero, Int.zero_add, Int.zero_ediv, m0]
 go_ret2
 exact ⟨rfl, rfl⟩
set_option maxRecDepth 100000 in
set_option maxHeartbeats 2000000 in
theorem mul_any (y : Nat) (hy : y ≤ 1024) (w : World) :
 Calls Tryz.prog 201 #[.int .u64 1, .int .u64 y] w fun e w' => e = .returned (.tuple #[.int .u64 0, .int .u64 y]) ∧ w' = w := by
 go_enter Tryz.func201, Tryz.ntmps201
 go_wp2_with (go_at_call 211; refine (mul64_any y hy _).mono ?_; rintro e w3 ⟨rfl, rfl⟩)
 go_ret2
 exact ⟨rfl, rfl⟩
theorem Tryz.infoInt' : (Tryz.prog.info? 3).map (·.size) = some 1 := by kernel_rfl
/-- The row of where, so far. -/
def ones (k room : Nat) : List Value := List.replicate k (.int .i64 (-1)) ++ List.replicate (room - k) (.int .i64 0)
theorem ones_len {k room : Nat} (h : k ≤ room) : (ones k room).length = room := by simp [ones]; omega
theorem ones_none (room : Nat) : List.replicate room (Value.int .i64 0) = ones 0 room := by simp [ones]
theorem ones_at {k room j : Nat} {u : Value} (h : (List.replicate k (Value.int .i64 (-1)))[j]? = some u) : (ones k room)[j]? = some u := by
 have hj : j < k := by
  rcases Nat.lt_or_ge j k with h1 | h1
  ·exact h1
  ·rw [List.getElem?_eq_none (by simpa using h1)] at h; cases h
 unfold ones
 rw [List.getElem?_append_left (by simpa using hj)]
 exact h
theorem ones_splice {k m room : Nat} (h : k + m ≤ room) : Go.splice (ones k room) k (List.replicate m (.int .i64 (-1))) = ones (k + m) room := by
 unfold Go.splice ones
 rw [List.take_append, List.drop_append]
 simp only [List.length_replicate, List.take_replicate, List.drop_replicate, Nat.sub_self, Nat.min_self, List.take_zero, List.append_nil]
 rw [show k - (k + m) = 0 by omega, show k + m - k = m by omega, show room - k - m = room - (k + m) by omega]
 simp [← List.replicate_append_replicate]
theorem ones_wher {w : World} {G room : Nat} (h : CellsAt w G 3 (ones room room)) : WherAt w G room (fun _ => -1) :=
 ⟨_, h, by simp [ones], fun i hi => by simp [ones, hi]⟩
theorem copy_ones {A : World} {G S k room m sLen sCap dCap : Nat} (hC : CellsAt A G 3 (ones k room)) (hsrc : ∀ j u, (List.replicate m (Value.int .i64 (-1)))[j]? = some u → A.cell? ⟨S, j, none⟩ = some u) (hm : m = min sLen (room - k)) (hk : k + m ≤ room) :
 ∃ A', (Builtin.copy_ #[234, 234] 3 #[.slice (some ⟨G, k, none⟩) (room - k) dCap, .slice (some ⟨S, 0, none⟩) sLen sCap]).run Tryz.prog A = .ok (.int .i64 m) A' ∧ CellsAt A' G 3 (ones (k + m) room) ∧ ∀ B w, B ≤ G → Below B w A → Below B w A' := by
 have hl : (List.replicate m (Value.int .i64 (-1))).length = m := List.length_replicate
 have h := run_copy_row (P := Tryz.prog) A 234 234 3 3 G k (room - k) dCap ⟨S, 0, none⟩ sLen sCap (ones k room).toArray 3 (List.replicate m (Value.int .i64 (-1))) Tryz.underlying234 Tryz.infoInt' hC (by rw [hl]; exact hm)
  (fun j v hj => by rw [add_at, Nat.zero_add]; exact hsrc j v hj) (by rw [hl, List.size_toArray, ones_len (by omega)]; exact hk) (by intro v hv; rw [List.eq_of_mem_replicate hv]; rfl)
 refine ⟨_, h.trans (by rw [hl]; rfl), ?_, fun B w hB hb => below_setRow hb hB _⟩
 have h2 := setRow_heap A G (ones k room).toArray ((ones k room).take k ++ List.replicate m (Value.int .i64 (-1)) ++ (ones k room).drop (k + m)).toArray 3 _ hC
 unfold CellsAt
 rw [← ones_splice hk]
 unfold Go.splice
 rw [hl, ← List.append_assoc]
 simpa using h2
set_option maxRecDepth 100000 in
set_option maxHeartbeats 4000000 in
/-- slices.Repeat of one -1. -/
theorem repeat_any (S room : Nat) (hr : room ≤ 1024) (w : World) (hS : w.heap[S]? = some (.cells #[.int .i64 (-1)] 3 (0, 0))) :
 Calls Tryz.prog 194 #[.slice (some ⟨S, 0, none⟩) 1 1, .int .i64 room] w fun e w' => e = .returned (.slice (some ⟨w.heap.size, 0, none⟩) room room) ∧ WherAt w' w.heap.size room (fun _ => -1) ∧ Below w.heap.size w w' := by
 have k0 : w.cell? ⟨S, 0, none⟩ = some (.int .i64 (-1)) := cell_in hS rfl
 have r0 : decide ((room : Int) < 0) = false := decide_eq_false (by omega)
 have r1 : ¬ (room : Int) < 0 := by omega
 have r2 : decide ((9223372036854775807 : Int) < (room : Int)) = false := decide_eq_false (by omega)
 have r3 : IntKind.u64.wrap (room : Int) = (room : Int) := Mul64.wrapN room (by omega)
 obtain ⟨i0, hi0, hz0, hz1, hz2⟩ := info_parts Tryz.infoInt
 obtain ⟨w2, hrun, hown, hgrow⟩ := run_make_full (P := Tryz.prog) (w := w) w.heap.size 234 3 i0 _ 1 Tryz.underlying234 hi0 hz0 hz1 .i64 .i64 room (by rw [hz2]; omega) (by simp [maxLen]; omega) (Nat.le_refl _)
 have hb2 : Below w.heap.size w w2 := ⟨hgrow.os, hgrow.tape, hgrow.output, hgrow.size, fun k hk => hgrow.block k hk (by simp)⟩
 have hC2 : CellsAt w2 w.heap.size 3 (ones 0 room) := by
  have := CellsAt.of_own hown (by rw [made_cells _ rfl]; simp)
  rw [Nat.mul_one, made_cells _ rfl, ones_none] at this
  exact this
 have hS2 := (hb2.block S (lt_of_block hS)).trans hS
 obtain ⟨w4, hcopy, hC4, hB4⟩ := copy_ones (S := S) (m := min 1 room) (sLen := 1) (sCap := 1) (dCap := room) hC2 (fun j u hj => by
  rcases Nat.eq_zero_or_pos j with h | h
  ·subst h
   rw [List.getElem?_replicate] at hj
   split at hj
   ·cases hj; exact cell_in hS2 rfl
   ·cases hj
  ·rw [List.getElem?_eq_none (by simp; omega)] at hj; cases hj) (by omega) (by omega)
 rw [Nat.sub_zero] at hcopy
 rw [Nat.zero_add] at hC4
 have HC4 := Lib.hid hC4
 have HB4 := Lib.hid (hB4 _ _ (Nat.le_refl _) hb2)
 obtain ⟨G, hG⟩ : ∃ G, G = w.heap.size := ⟨_, rfl⟩
 rw [← hG] at HC4 hrun hcopy HB4 ⊢
 have HG := Lib.hid hG
 clear hS hi0 hz0 hz1 hz2 hown hgrow hb2 hC2 hG hS2 hC4 hB4
 obtain ⟨k1, hk1⟩ : ∃ k, k = min 1 room := ⟨_, rfl⟩
 rw [← hk1] at HC4 hcopy
 have hk2 : k1 ≤ room ∧ (room ≠ 0 → 1 ≤ k1) := by omega
 have HK2 := Lib.hid hk2
 clear hk1 hk2
 go_enter Tryz.func194, Tryz.ntmps194
 go_wp2_with (go_at_call 201; refine (mul_any room hr _).mono ?_; rintro e w3 ⟨rfl, hw3⟩; rw [hw3]; clear hw3)
 go_loopw [8] (fun s wr => ∃ k : Nat, k ≤ room ∧ (room ≠ 0 → 1 ≤ k) ∧ s = .int .i64 k ∧ Hid (CellsAt wr G 3 (ones k room)) ∧ Hid (Below G w wr)) (fun s _ => room - (intOf s).toNat)
 case atStart => exact ⟨k1, HK2.out.1, HK2.out.2, rfl, HC4, HB4⟩
 case round =>
  obtain ⟨k, hk, hk1, rfl, HCk, HBk⟩ := hrel
  by_cases hlt : k < room
  ·have l0 : decide ((k : Int) < (room : Int)) = true := decide_eq_true (by omega)
   have l1 : (k : Int) ≤ (room : Int) := by omega
   have l2 : (0 : Int) ≤ (k : Int) := by omega
   have l3 : k ≤ room := hk
   obtain ⟨m, hm⟩ : ∃ m, m = min k (room - k) := ⟨_, rfl⟩
   obtain ⟨w5, hcopy5, hC5, hB5⟩ := copy_ones (A := wr.drew) (S := G) (m := m) (sLen := k) (sCap := room) (dCap := room - k) (k := k) (room := room) (G := G) HCk.out (fun j u hj => (CellsAt.cell HCk.out (ones_at (by
    rw [List.getElem?_replicate] at hj ⊢
    split at hj
    ·rw [if_pos (by omega)]; exact hj
    ·cases hj))).1) hm (by omega)
   have HC5 := Lib.hid hC5
   have HB5 := Lib.hid (hB5 _ _ (Nat.le_refl _) HBk.out.drew)
   have m0 : (k : Int) + (m : Int) ≤ 1024 := by omega
   have m3 : (0 : Int) ≤ (m : Int) := by omega
   have m1 : 1 ≤ m := by omega
   have m2 : k + m ≤ room := by omega
   clear hC5 hB5 hm
   go_wp2_with fail
   go_region
   go_wp2_with fail
   go_roundw
   case rel => exact ⟨k + m, m2, by omega, by go_num, HC5, HB5⟩
   case measure => simp [intOf]; omega
  ·have l0 : decide ((k : Int) < (room : Int)) = false := decide_eq_false (by omega)
   have hkr : k = room := by omega
   have HE := Lib.hid hkr
   clear hkr
   go_wp2_with fail
   go_ret
   have hC := HCk.out
   rw [HE.out] at hC
   exact ⟨rfl, ones_wher hC, HBk.out⟩
theorem Tryz.infoEn : (Tryz.prog.info? 231).map (fun i => (i.zero, i.size, i.bytes)) = some (some (.agg #[.int .i64 0, .int .i64 0]), 2, 16) := by kernel_rfl
theorem Tryz.sizeOrder : (Tryz.prog.info? 236).map (·.size) = some 2 := by kernel_rfl
/-- A row of who, made. -/
def whoObj (room : Nat) : Obj := .cells (madeCells (Value.agg #[.int .i64 0, .int .i64 0]).cells (room * 2)) 231
theorem who_made {w : World} {G room : Nat} (h : w.heap[G]? = some (whoObj room)) : WhoAt w G room (fun _ => (0, 0)) := by
 refine ⟨_, h, by simp [madeCells], fun i hi => ?_⟩
 simp only [madeCells, Value.cells]
 constructor
 ·simp [show i * 2 < room * 2 by omega]
 ·simp [show i * 2 + 1 < room * 2 by omega, show (i * 2 + 1) % 2 = 1 by omega]
theorem run_make_who (room : Nat) (hr : room ≤ 1024) (W : World) : (Instr.makeSlice 233 (.int .i64 0) (.int .i64 (room : Int))).run Tryz.prog W = .ok (.slice (some ⟨W.heap.size, 0, none⟩) 0 room) (W.alloc (whoObj room)) := by
 obtain ⟨i0, hi0, hz0, hz1, hz2⟩ := info_parts Tryz.infoEn
 have h := run_make (P := Tryz.prog) W 233 231 i0 _ Tryz.underlying233 hi0 hz0 .i64 .i64 0 (room : Int) (by omega) (by omega) (by rw [hz2]; omega) (by omega)
 rw [h, hz1]
 rfl
theorem order_end {w3 : World} {a X room : Nat} {x : Nat → Int} (s1 s2 : Value) (hb : w3.heap[a]? = some (.cells #[.slice none 0 0, .slice none 0 0] 236 (0, 0))) (hX : WherAt w3 X room x) (h2 : X ≠ a) :
 ((w3.setCell ⟨a, 0, none⟩ s1).setCell ⟨a, 1, none⟩ s2).heap[a]? = some (.cells #[s1, s2] 236 (0, 0)) ∧ WherAt ((w3.setCell ⟨a, 0, none⟩ s1).setCell ⟨a, 1, none⟩ s2) X room x ∧ (∀ B, B ≠ a → ((w3.setCell ⟨a, 0, none⟩ s1).setCell ⟨a, 1, none⟩ s2).heap[B]? = w3.heap[B]?) :=
 ⟨by rw [set_at (set_at hb)]; rfl, hX.same (by rw [set_other _ _ _ h2, set_other _ _ _ h2]), fun B hB => by rw [set_other _ _ _ hB, set_other _ _ _ hB]⟩
set_option maxRecDepth 100000 in
set_option maxHeartbeats 4000000 in
theorem newOrder_any (room : Nat) (hr : room ≤ 1024) (w : World) :
 Calls Tryz.prog 178 #[.int .i64 room] w fun e w' => ∃ W X, e = .returned (.agg #[.slice (some ⟨W, 0, none⟩) 0 room, .slice (some ⟨X, 0, none⟩) room room]) ∧ w.heap.size ≤ W ∧ w.heap.size ≤ X ∧ W ≠ X ∧ WhoAt w' W room (fun _ => (0, 0)) ∧ WherAt w' X room (fun _ => -1) ∧ Below w.heap.size w w' := by
 have hmk := run_make_who room hr
 have HRP := Lib.hid (fun S W hS => repeat_any S room hr W hS)
 obtain ⟨V, hV⟩ : ∃ V, V = w.alloc (.cells #[.slice none 0 0, .slice none 0 0] 236) := ⟨_, rfl⟩
 have HV := Lib.hid hV
 have hbv : V.heap[w.heap.size]? = some (.cells #[.slice none 0 0, .slice none 0 0] 236 (0, 0)) := by rw [hV]; exact heap_alloc_new _ _
 have HBV := Lib.hid hbv
 have KB : Hid (∀ A, Below V.heap.size V A → A.cell? ⟨w.heap.size, 0, none⟩ = some (.slice none 0 0) ∧ A.cell? ⟨w.heap.size, 1, none⟩ = some (.slice none 0 0) ∧ A.frozen? ⟨w.heap.size, 0, none⟩ = false ∧ A.frozen? ⟨w.heap.size, 1, none⟩ = false ∧ w.heap.size < A.heap.size) := Lib.hid (fun A hA => by
  have h1 := (hA.block _ (lt_of_block hbv)).trans hbv
  exact ⟨cell_in h1 rfl, cell_in h1 rfl, free_in h1 _, free_in h1 _, lt_of_block h1⟩)
 clear hV hbv
 go_enter Tryz.func178, Tryz.ntmps178
 go_wp2_with fail
 rw [← HV.out]
 go_region_held3 (fun X => True)
  (first | trivial | fail "no")
  (first | (go_at_call 194; refine (HRP.out _ _ (by first | (show (World.alloc _ _).heap[_]? = _; rw [heap_at, if_pos (by simp)]; done) | (show (World.alloc _ _).heap[_]? = _; rw [heap_at, if_neg (by simp)]; show (World.alloc _ _).heap[_]? = _; rw [heap_at, if_pos (by simp)]; done))).mono ?_; rintro e w3 ⟨rfl, hw3, hb3⟩; have hb5 : Below V.heap.size V w3 := Below.trans (by repeat first | exact Below.refl _ _ | refine b_alloc ?_ (Nat.le_refl _) _ | refine Below.drew ?_) (hb3.mono (by simp <;> omega)); obtain ⟨q0, q1, q2, q3, q4⟩ := KB.out _ hb5) | fail "no arm")
 ·have hv : w.heap.size < V.heap.size := lt_of_block HBV.out
  simp only [World.size_alloc, heap_drew] at hw3
  obtain ⟨r0, r1, r2⟩ := order_end (.slice (some ⟨V.heap.size, 0, none⟩) 0 room) (.slice (some ⟨V.heap.size + 1 + 1, 0, none⟩) room room) ((hb5.block _ hv).trans HBV.out) hw3 (by omega)
  have hwho : w3.heap[V.heap.size]? = some (whoObj room) := (hb3.block _ (by simp; omega)).trans (by rw [heap_drew, heap_at, if_neg (by simp), heap_at, if_pos rfl])
  have HR0 := Lib.hid r0
  have hBV2 : Below w.heap.size w V := by rw [HV.out]; exact below1 _ _
  go_wp2
  refine bodyPost_ret (results_cell_row (P := Tryz.prog) rfl _ _ w.heap.size _ _ (0, 0) _ rfl HR0.out Tryz.underlying236 rfl Tryz.sizeOrder) rfl ?_
  exact ⟨_, _, rfl, by omega, by omega, by omega, who_made ((r2 _ (by omega)).trans hwho), r1, ((hBV2.trans (hb5.mono (by omega))).setCell (Nat.le_refl _) _).setCell (Nat.le_refl _) _⟩
 ·have hv : w.heap.size < V.heap.size := lt_of_block HBV.out
  simp only [World.size_alloc, heap_drew] at hw3
  obtain ⟨r0, r1, r2⟩ := order_end (.slice (some ⟨V.heap.size + 1, 0, none⟩) 0 room) (.slice (some ⟨V.heap.size + 1 + 1, 0, none⟩) room room) ((hb5.block _ hv).trans HBV.out) hw3 (by omega)
  have hwho : w3.heap[V.heap.size + 1]? = some (whoObj room) := (hb3.block _ (by simp)).trans (by rw [heap_drew, heap_at, if_pos (by simp)])
  have HR0 := Lib.hid r0
  have hBV2 : Below w.heap.size w V := by rw [HV.out]; exact below1 _ _
  go_wp2
  refine bodyPost_ret (results_cell_row (P := Tryz.prog) rfl _ _ w.heap.size _ _ (0, 0) _ rfl HR0.out Tryz.underlying236 rfl Tryz.sizeOrder) rfl ?_
  exact ⟨_, _, rfl, by omega, by omega, by omega, who_made ((r2 _ (by omega)).trans hwho), r1, ((hBV2.trans (hb5.mono (by omega))).setCell (Nat.le_refl _) _).setCell (Nat.le_refl _) _⟩
 ·have hv : w.heap.size < V.heap.size := lt_of_block HBV.out
  simp only [World.size_alloc, heap_drew] at hw3
  obtain ⟨r0, r1, r2⟩ := order_end (.slice (some ⟨w3.heap.size, 0, none⟩) 0 room) (.slice (some ⟨V.heap.size + 1, 0, none⟩) room room) ((hb5.block _ hv).trans HBV.out) hw3 (by omega)
  have hxl := hw3.lt
  have hwho := heap_alloc_new ((w3.setCell ⟨w.heap.size, 0, none⟩ (.slice (some ⟨w3.heap.size, 0, none⟩) 0 room)).setCell ⟨w.heap.size, 1, none⟩ (.slice (some ⟨V.heap.size + 1, 0, none⟩) room room)) (whoObj room)
  rw [World.size_setCell, World.size_setCell] at hwho
  have hl : ∀ k, k < w3.heap.size → (((w3.setCell ⟨w.heap.size, 0, none⟩ (.slice (some ⟨w3.heap.size, 0, none⟩) 0 room)).setCell ⟨w.heap.size, 1, none⟩ (.slice (some ⟨V.heap.size + 1, 0, none⟩) room room)).alloc (whoObj room)).heap[k]? = ((w3.setCell ⟨w.heap.size, 0, none⟩ (.slice (some ⟨w3.heap.size, 0, none⟩) 0 room)).setCell ⟨w.heap.size, 1, none⟩ (.slice (some ⟨V.heap.size + 1, 0, none⟩) room room)).heap[k]? := fun k hk => Below.heap_alloc _ _ _ (by simpa using hk)
  have HR0 := Lib.hid ((hl _ q4).trans r0)
  have hBV2 : Below w.heap.size w V := by rw [HV.out]; exact below1 _ _
  have hX2 := r1.same (hl _ hxl)
  have HX2 := Lib.hid hX2
  have HWH := Lib.hid (who_made hwho)
  clear hl hX2 hwho r0 r1 r2
  go_wp2
  refine bodyPost_ret (results_cell_row (P := Tryz.prog) rfl _ _ w.heap.size _ _ (0, 0) _ rfl HR0.out Tryz.underlying236 rfl Tryz.sizeOrder) rfl ?_
  exact ⟨_, _, rfl, by omega, by omega, by omega, HWH.out, HX2.out, b_alloc (((hBV2.trans (hb5.mono (by omega))).setCell (Nat.le_refl _) _).setCell (Nat.le_refl _) _) (Nat.le_refl _) _⟩
set_option maxRecDepth 100000 in
set_option maxHeartbeats 4000000 in
/-- A heap that none is in. -/
theorem hnew_any (room : Int) (w : World) :
 Calls Tryz.prog 140 #[.int .i64 room] w fun e w' => ∃ hi H W X, e = .returned (.pointer (some ⟨H, 0, none⟩)) ∧ HpD w' w.heap.size hi H W X (min (max room 0) 1024).toNat 0 (fun _ => none) ∧ Below w.heap.size w w' := by
 obtain ⟨r, hr⟩ : ∃ r : Nat, r = (min (max room 0) 1024).toNat := ⟨_, rfl⟩
 have hr1 : r ≤ 1024 := by omega
 have hr2 : min (max room 0) 1024 = (r : Int) := by omega
 have HN := Lib.hid (newOrder_any r hr1 w)
 rw [← hr]
 clear hr
 go_enter Tryz.func140, Tryz.ntmps140
 go_wp2_with (go_at_call 178; refine HN.out.mono ?_; rintro e w3 ⟨W, X, rfl, hW, hX, hWX, hwho, hwhr, hb3⟩)
 go_ret
 have l1 := hwho.lt
 have l2 := hwhr.lt
 refine ⟨w3.heap.size + 1, w3.heap.size, W, X, rfl, ⟨fun _ => (0, 0), fun _ => -1, ⟨heap_alloc_new _ _, hwho.same (Below.heap_alloc _ _ _ l1), hwhr.same (Below.heap_alloc _ _ _ l2), ⟨by omega, by omega, hWX⟩, ⟨hb3.size, hW, hX, by omega, by omega, by omega⟩, by simp, hr1⟩, ⟨Nat.zero_le _, fun i hi => by omega, fun id _ => .inl ⟨rfl, rfl⟩, fun _ _ => rfl⟩, fun i h0 h1 => by omega⟩, b_alloc hb3 (Nat.le_refl _) _⟩
end Go.Proofs.YtchbehnkkcjdgaaGreat
namespace Go.Proofs.YtchbehnkkcjdgaaGreat
open Go.RowKit Go.Sort Go.Shelf Go.Lib
set_option linter.unusedVariables false
set_option linter.unusedSimpArgs false
attribute [local go_sem] Oper.semAt_some
/-- All below B0 stays. -/
structure KeepB (B0 : Nat) (A C : World) : Prop where
 size : A.heap.size ≤ C.heap.size
 same : ∀ k, k < B0 → C.heap[k]? = A.heap[k]?
theorem KeepB.trans {B0 : Nat} {A B C : World} (h : KeepB B0 A B) (k : KeepB B0 B C) : KeepB B0 A C := ⟨Nat.le_trans h.size k.size, fun i hi => (k.same i hi).trans (h.same i hi)⟩
theorem KeepB.of_below {B0 B : Nat} {A C : World} (h : Below B A C) (hB : B0 ≤ B) : KeepB B0 A C := ⟨h.size, fun k hk => h.block k (by omega)⟩
theorem keepB_put {B0 l : Nat} (W : World) (hl : B0 ≤ l) (o' : Obj) : KeepB B0 W (W.putObj l o') :=
 ⟨by simp [World.putObj], fun k hk => by simp [World.putObj, Array.getElem?_setIfInBounds, show l ≠ k by omega]⟩
theorem enC_len (e : En) : (enC e).length = 2 := rfl
theorem enC_one (e : En) : ∀ u ∈ enC e, u.oneCell' = true := by intro u hu; simp [enC] at hu; rcases hu with h | h <;> subst h <;> rfl
theorem But.of_grownH {w w' : World} {b : Nat} (h : w.grownBy w' (some b)) : But b w w' := ⟨h.os, h.tape, h.output, h.size, fun k hk hne => h.block k hk (fun e => hne (by cases e; rfl))⟩
theorem rowH_succ (k : Nat) (f : Nat → En) : rowH (k + 1) f = rowH k f ++ [f k] := by simp [rowH, List.range_succ]
theorem eq_of_not {x y : En} (h1 : ¬ ltH x y) (h2 : ¬ ltH y x) : x = y := by
 unfold ltH at h1 h2
 exact Prod.ext (by omega) (by omega)
theorem swoH : SWO (ltOf cmpH) where
 irrefl x := by rw [lt_cmpH]; simp [ltH.irrefl]
 trans x y z h1 h2 := by rw [lt_cmpH] at *; simp only [decide_eq_true_eq] at *; exact h1.trans h2
 ntrans x y z h1 h2 := by rw [lt_cmpH] at *; simp only [decide_eq_false_iff_not] at *; exact ltH.le_trans h2 h1
def Tryz.sortEn_ren : Go.Shelf.Ren := ⟨fun | 6 => 213 | 15 => 219 | 14 => 218 | 28 => 229 | 29 => 230 | 20 => 221 | 21 => 222 | 22 => 223 | 23 => 224 | 24 => 225 | 25 => 226 | 26 => 227 | 27 => 228 | 46 => 231 | 47 => 232 | 48 => 233 | 49 => 234 | 50 => 235 | 57 => 236 | n => n, fun | 22 => 232 | 24 => 231 | 25 => 269 | 3 => 3 | 39 => 262 | 0 => 0 | 53 => 272 | 55 => 275 | 4 => 4 | 46 => 286 | 45 => 285 | 50 => 145 | 5 => 5 | 9 => 9 | 66 => 293 | 70 => 297 | 76 => 299 | 77 => 300 | n => n, fun | n => n⟩
theorem Tryz.sortEn : Go.Proofs.SlLaysF0.n6 Tryz.prog Tryz.sortEn_ren := {
 mixed := by kernel_rfl
 f6 := ⟨Tryz.f213.name, by decide, Tryz.func213.trans (congrArg some (by kernel_rfl))⟩
 f14 := ⟨Tryz.f218.name, by decide, Tryz.func218.trans (congrArg some (by kernel_rfl))⟩
 f15 := Tryz.func219.trans (congrArg some (by kernel_rfl))
 f20 := ⟨Tryz.f221.name, by decide, Tryz.func221.trans (congrArg some (by kernel_rfl))⟩
 f21 := ⟨Tryz.f222.name, by decide, Tryz.func222.trans (congrArg some (by kernel_rfl))⟩
 f22 := ⟨Tryz.f223.name, by decide, Tryz.func223.trans (congrArg some (by kernel_rfl))⟩
 f23 := ⟨Tryz.f224.name, by decide, Tryz.func224.trans (congrArg some (by kernel_rfl))⟩
 f24 := ⟨Tryz.f225.name, by decide, Tryz.func225.trans (congrArg some (by kernel_rfl))⟩
 f25 := ⟨Tryz.f226.name, by decide, Tryz.func226.trans (congrArg some (by kernel_rfl))⟩
 f26 := ⟨Tryz.f227.name, by decide, Tryz.func227.trans (congrArg some (by kernel_rfl))⟩
 f27 := ⟨Tryz.f228.name, by decide, Tryz.func228.trans (congrArg some (by kernel_rfl))⟩
 f28 := Tryz.func229.trans (congrArg some (by kernel_rfl))
 f29 := Tryz.func230.trans (congrArg some (by kernel_rfl))
 f46 := ⟨Tryz.f231.name, by decide, Tryz.func231.trans (congrArg some (by kernel_rfl))⟩
 f47 := Tryz.func232.trans (congrArg some (by kernel_rfl))
 f48 := Tryz.func233.trans (congrArg some (by kernel_rfl))
 f49 := ⟨Tryz.f234.name, by decide, Tryz.func234.trans (congrArg some (by kernel_rfl))⟩
 f50 := ⟨Tryz.f235.name, by decide, Tryz.func235.trans (congrArg some (by kernel_rfl))⟩
 f57 := ⟨Tryz.f236.name, by decide, Tryz.func236.trans (congrArg some (by kernel_rfl))⟩
 t0 := Tryz.underlying0
 a0 := Tryz.isAgg0
 z0 := Tryz.sizeOf0
 v0 := Tryz.zeroValue0
 t3 := Tryz.underlying3
 a3 := Tryz.isAgg3
 z3 := Tryz.sizeOf3
 v3 := Tryz.zeroValue3
 t4 := Tryz.underlying4
 a4 := Tryz.isAgg4
 z4 := Tryz.sizeOf4
 v4 := Tryz.zeroValue4
 t5 := Tryz.underlying5
 a5 := Tryz.isAgg5
 z5 := Tryz.sizeOf5
 v5 := Tryz.zeroValue5
 t9 := Tryz.underlying9
 a9 := Tryz.isAgg9
 z9 := Tryz.sizeOf9
 v9 := Tryz.zeroValue9
 t22 := Tryz.underlying232
 a22 := Tryz.isAgg232
 z22 := Tryz.sizeOf232
 v22 := Tryz.zeroValue232
 t25 := Tryz.underlying269
 a25 := Tryz.isAgg269
 z25 := Tryz.sizeOf269
 v25 := Tryz.zeroValue269
 t39 := Tryz.underlying262
 a39 := Tryz.isAgg262
 z39 := Tryz.sizeOf262
 v39 := Tryz.zeroValue262
 t45 := Tryz.underlying285
 a45 := Tryz.isAgg285
 z45 := Tryz.sizeOf285
 v45 := Tryz.zeroValue285
 t46 := Tryz.underlying286
 a46 := Tryz.isAgg286
 z46 := Tryz.sizeOf286
 v46 := Tryz.zeroValue286
 t50 := Tryz.underlying145
 a50 := Tryz.isAgg145
 z50 := Tryz.sizeOf145
 v50 := Tryz.zeroValue145
 t53 := Tryz.underlying272
 a53 := Tryz.isAgg272
 z53 := Tryz.sizeOf272
 v53 := Tryz.zeroValue272
 t55 := Tryz.underlying275
 a55 := Tryz.isAgg275
 z55 := Tryz.sizeOf275
 v55 := Tryz.zeroValue275
 t66 := Tryz.underlying293
 a66 := Tryz.isAgg293
 z66 := Tryz.sizeOf293
 v66 := Tryz.zeroValue293
 t70 := Tryz.underlying297
 a70 := Tryz.isAgg297
 z70 := Tryz.sizeOf297
 v70 := Tryz.zeroValue297
 t76 := Tryz.underlying299
 a76 := Tryz.isAgg299
 z76 := Tryz.sizeOf299
 v76 := Tryz.zeroValue299
 t77 := Tryz.underlying300
 a77 := Tryz.isAgg300
 z77 := Tryz.sizeOf300
 v77 := Tryz.zeroValue300 }
theorem Tryz.infoEn2 : (Tryz.prog.info? 231).map (fun i => (i.zero, i.size, i.bytes)) = some (some (.agg #[.int .i64 0, .int .i64 0]), 2, 16) := by kernel_rfl
/-- The round's own edge. -/
def Box2 (W : World) (B : Nat) (e : En) : Prop := W.heap[B]? = some (.cells #[.int .i64 e.1, .int .i64 e.2] 231 (0, 0))
theorem Box2.kept {W W' : World} {row : Option Nat} {B : Nat} {e : En} (h : Box2 W B e) (hg : W.grownBy W' row) (hne : some B ≠ row) : Box2 W' B e := (hg.block B (lt_of_block h) hne).trans h
theorem Box2.own {β : Type} (B : Nat) (f : β → En) : Own (fun s W => Box2 W B (f s)) := fun s X Y row hs hg hrow =>
 hs.kept hg (fun e' => by obtain ⟨o, ho, hc⟩ := hrow B e'.symm; rw [show X.heap[B]? = _ from hs] at ho; cases ho; cases hc)
theorem cell_two_new (w : World) (x y : Value) (t : TypeId) : ∀ j u, [x, y][j]? = some u → (w.alloc (.cells #[x, y] t)).cell? ((⟨w.heap.size, 0, none⟩ : Addr).add j) = some u := by
 intro j u hu
 rw [add_at, Nat.zero_add]
 exact cell_in (heap_alloc_new w _) (by simpa using hu)
set_option maxRecDepth 100000 in
set_option maxHeartbeats 4000000 in
theorem appendE_in (F : Fence) (n : Nat) (h11 : F.fn 217) (hro : F.round = none) (hn : 2 ≤ n) (g : Nat) (lb : Array Value) (hFg : F.fn g) (eg : ∀ args w, (callFunc g args).run Tryz.prog w = .ok (.enter g args) w)
 (S : List (En) → Prop) (N : Nat) (hN : N ≤ maxLen) (hNb : N * 16 ≤ 140737488355328) (w : World)
 (hseq : SeqStopsK F (n - 1) Tryz.prog g lb (fun x : En => #[.agg #[.int .i64 x.1, .int .i64 x.2]]) (KeepB w.heap.size) S (fun _ => True) N w) :
 CallsIn F n Tryz.prog 217 #[.slice none 0 0, .func (.func g) #[] lb] w fun e w' => ∃ (v : Value) (ss : List (En)), e = .returned v ∧ S ss ∧ w'.ownsRow w.heap.size 231 2 v ss.length (ss.flatMap enC) ∧ Below w.heap.size w w' := by
 have h1 : 1 ≤ n := by omega
 obtain ⟨i0, hi, hz0, hz1, hz2⟩ := info_parts Tryz.infoEn2
 refine callsIn_of_wp_marks Tryz.func217 rfl h11 ?_ hro
 simp only [Tryz.ntmps217, List.size_toArray, List.length_cons, List.length_nil, Nat.reduceAdd, Nat.reduceSub, Array.replicate_succ, Array.replicate_zero, List.push_toArray, List.append_toArray, List.nil_append, List.cons_append]
 gi_wp2
 have bv := Boxed.new w 232 (.slice none 0 0)
 have hB0 := below1 w (.cells #[.slice none 0 0] 232)
 have hs1 : (w.alloc (.cells #[.slice none 0 0] 232)).heap.size = w.heap.size + 1 := by simp
 obtain ⟨W0, hW0⟩ : ∃ W0, w.alloc (.cells #[.slice none 0 0] 232) = W0 := ⟨_, rfl⟩
 rw [hW0] at bv hB0 hs1 ⊢
 clear hW0
 refine wpIn_rangeFunc_ownH hro h1 (gf := g) (lb := lb) rfl hFg eg hseq (fun h k => h.trans k) (fun W l o o' hl h _ _ => keepB_put W (by omega) o') hB0 (fun _ => rfl)
  (fun pre W => (∃ v, Boxed W w.heap.size 232 v ∧ W.ownsRow w.heap.size 231 2 v pre.length (pre.flatMap enC) ∧ True) ∧ Below w.heap.size w W)
  (fun _ _ _ => False)
  (OwnFrom.and (Own.from (holdsRow_own w.heap.size w.heap.size 232 231 2 (fun pre : List (En) => pre.length) (fun pre => pre.flatMap enC) (fun _ _ => True)) _) (ownFrom_below (Nat.le_refl _) (by omega)))
  (fun _ _ _ _ _ hs _ _ => hs)
  ⟨⟨_, bv, World.ownsRow_nil _ _ _ _, trivial⟩, hB0⟩
  (fun x a' W => ∃ Bx, w.heap.size < Bx ∧ Box2 W Bx x ∧ a' = { tmps := #[.slice none 0 0, .func (.func g) #[] lb, .pointer (some ⟨w.heap.size, 0, none⟩), undef, .slice none 0 0, .pointer (some ⟨Bx, 0, none⟩), .func (.func g) #[] lb, .agg #[.int .i64 x.1, .int .i64 x.2], undef, undef, undef, undef, undef], defers := [] })
  (fun x a' _ A B row hs hg hr => by
    obtain ⟨Bx, h1, h2, h3⟩ := hs
    exact ⟨Bx, h1, Box2.own (β := Unit) Bx (fun _ => x) () A B row h2 hg (fun r e => (hr r e).2), h3⟩)
  ?assign ?body ?done ?stop
 case assign =>
  rintro l pre ⟨x, y⟩ W K ⟨⟨v, hv, hrow, _⟩, hB⟩ hK
  gi_wp2
  exact hK _ _ ((KeepsOthers.alloc _ _).from _) (KeepB.of_below (below1 _ _) (by have := hB.size; omega)) ⟨⟨v, hv.alloc _, hrow.alloc _, trivial⟩, hB.alloc hB.size _⟩ ⟨W.heap.size, hv.lt, heap_alloc_new _ _, rfl⟩
 case body =>
  rintro l pre ⟨x, y⟩ a' W hl ⟨r, hr⟩ ⟨⟨v, hv, hrow, _⟩, hB⟩ ⟨Bx, hBx, hbx, rfl⟩ hlen
  have hbx' : W.heap[Bx]? = some (.cells #[.int .i64 x, .int .i64 y] 231 (0, 0)) := hbx
  have c0 := hv.cell
  have c1 : W.cell? ⟨Bx, 0, none⟩ = some (.int .i64 x) := cell_in hbx' rfl
  have c2 : W.cell? ⟨Bx, 1, none⟩ = some (.int .i64 y) := cell_in hbx' rfl
  have hle := hv.lt
  gi_wp2_with (first
   | (gi_at_builtin; refine wpListIn_append_own _ rfl _ _ 232 rfl w.heap.size 231 i0 (.agg #[.int .i64 0, .int .i64 0]) 2 16 Tryz.underlying232 hi hz0 hz1 hz2 rfl (by decide) _ _ _ rfl (hrow.alloc _) ⟨W.heap.size, 0, none⟩ 1 1 [.int .i64 x, .int .i64 y] rfl rfl (cell_two_new _ _ _ _) (enC_one (x, y)) (by omega) (by omega) (by have := hB.size; simp; omega) ?_; intro v' w1 hown' hgrow _; obtain ⟨g', cap', rfl⟩ := ownsRow_succ hown'; obtain ⟨hv1, hv2, hr2, hk2, hb2⟩ := hv.appended (by decide) hrow hB.size (Nat.le_refl _) hown' hgrow; have hc1 := hv1.cell; have hf1 := hv1.frozen)
   | gi_in)
  exact ⟨hk2.from _, KeepB.of_below hb2 (Nat.le_refl _), ⟨⟨_, hv2, by simpa [List.flatMap_append, enC] using hr2⟩, hB.trans hb2⟩⟩
 case done =>
  rintro D xs W hD hS ⟨⟨v, hv, hrow, _⟩, hB⟩ hK
  have c0 := hv.cell
  gi_wp2
  refine ⟨by simp, .inl ⟨_, _, rfl, run_takeDeferred hK, ?_⟩⟩
  exact ⟨_, results_tmp rfl _ _ _, v, xs, rfl, hS, ownsRow_putObj hrow _ hK rfl, hB.trans (belowK_b (w := w) (Nat.le_refl _) W D _ _ (by omega) hK rfl rfl)⟩
 case stop =>
  rintro D c pre W _ _ h _
  exact h.elim
set_option maxHeartbeats 1000000 in
theorem collectE_in (F : Fence) (n : Nat) (h8 : F.fn 212) (h11 : F.fn 217) (hro : F.round = none) (hn : 3 ≤ n) (g : Nat) (lb : Array Value) (hFg : F.fn g) (eg : ∀ args w, (callFunc g args).run Tryz.prog w = .ok (.enter g args) w)
 (S : List (En) → Prop) (N : Nat) (hN : N ≤ maxLen) (hNb : N * 16 ≤ 140737488355328) (w : World)
 (hseq : SeqStopsK F (n - 1 - 1) Tryz.prog g lb (fun x : En => #[.agg #[.int .i64 x.1, .int .i64 x.2]]) (KeepB w.heap.size) S (fun _ => True) N w) :
 CallsIn F n Tryz.prog 212 #[.func (.func g) #[] lb] w fun e w' => ∃ (v : Value) (ss : List (En)), e = .returned v ∧ S ss ∧ w'.ownsRow w.heap.size 231 2 v ss.length (ss.flatMap enC) ∧ Below w.heap.size w w' := by
 have h1 : 1 ≤ n := by omega
 refine callsIn_of_wp Tryz.func212 rfl h8 ?_ hro
 simp only [Tryz.ntmps212, List.size_toArray, List.length_cons, List.length_nil, Nat.reduceAdd, Nat.reduceSub, Array.replicate_succ, Array.replicate_zero, List.push_toArray, List.append_toArray, List.nil_append, List.cons_append]
 gi_wp2_with (gi_at_call 217; refine (appendE_in F (n - 1) h11 hro (by omega) g lb hFg eg S N hN hNb _ hseq).mono ?_; rintro e w' ⟨v, ss, rfl, hS, hrow, hb⟩)
 go_ret
 exact ⟨v, ss, rfl, hS, hrow, hb⟩
theorem flatEn (ts : List (En)) : (flatK enC 2 ts.toArray).toList = ts.flatMap enC := by
 apply List.ext_getElem?
 intro j
 by_cases hj : j < ts.length * 2
 ·have h1 : j / 2 < ts.length := by omega
  have h2 : j % 2 < 2 := by omega
  have h3 := flat_at enC 2 enC_len ts (j / 2) (j % 2) ts[j / 2] (by simp [h1]) h2
  rw [show j / 2 * 2 + j % 2 = j by omega] at h3
  rw [h3, Array.getElem?_toList]
  have h4 : j < (flatK enC 2 ts.toArray).size := by simpa using hj
  have h5 := get_flatK enC 2 ts.toArray j (by simpa using hj)
  rw [Array.getElem?_eq_getElem h4, ← getElem!_pos _ j h4, h5]
  have h6 : ts.toArray[j / 2]! = ts[j / 2] := by rw [getElem!_pos _ _ (by simpa using h1)]; simp
  rw [h6]
  have h7 : j % 2 < (enC (ts[j / 2])).length := h2
  rw [List.getElem?_eq_getElem h7, getElem!_pos (enC (ts[j / 2])) (j % 2) h7]
 ·rw [List.getElem?_eq_none (by simpa using hj), List.getElem?_eq_none (by rw [flat_len enC 2 enC_len]; omega)]
theorem holdsEn {w : World} {g : Nat} {cur : Array Value} {e : TypeId} {ss : List (En)} (hb : w.heap[g]? = some (.cells cur e (0, 0))) (ht : cur.toList.take (ss.length * 2) = ss.flatMap enC) : HoldsK enC 2 w g 0 ss.toArray := by
 intro j hj
 have hj' : j < ss.length * 2 := by simpa using hj
 refine ⟨?_, by simp [World.frozen?, hb]⟩
 have h1 : (cur.toList.take (ss.length * 2))[j]? = (flatK enC 2 ss.toArray).toList[j]? := by rw [ht, flatEn]
 rw [List.getElem?_take_of_lt hj'] at h1
 simp only [World.cell?, hb, Nat.zero_add]
 simp only [Option.isSome_none, Bool.false_eq_true, if_false]
 rw [← Array.getElem?_toList, h1, Array.getElem?_toList, Array.getElem?_eq_getElem hj, getElem!_pos _ j hj]
 rfl
theorem heap_sortedEn {w : World} {g n : Nat} {os : Array Obj} {cur : Array Value} {e : TypeId} {fr : Nat × Nat} (d : Array (En)) (hb : w.heap[g]? = some (.cells cur e fr)) :
 (sortWorldK enC 2 w g 0 n d os).heap[g]? = some (.cells (putCells id 0 (flatK enC 2 d) cur) e fr) := by
 have hg : g < w.heap.size := (Array.getElem?_eq_some_iff.1 hb).1
 unfold sortWorldK putRowK
 rw [heap_grow_old _ _ (by simpa using hg)]
 simp [putRow, mapBlock, Sort.ahead, Array.getElem?_modify, hb, onCells]
theorem grownBy_sortedEn {w : World} {g n : Nat} {os : Array Obj} (d : Array (En)) : w.grownBy (sortWorldK enC 2 w g 0 n d os) (some g) := by
 unfold sortWorldK putRowK
 refine ⟨rfl, rfl, rfl, by simp, fun k hk hne => ?_⟩
 rw [heap_grow_old _ _ (by simpa using hk)]
 have : g ≠ k := fun e => hne (by rw [e])
 simp [putRow, mapBlock, Sort.ahead, Array.getElem?_modify, this]
theorem take_putCellsEn (cur : Array Value) (ts : List (En)) (h : ts.length * 2 ≤ cur.size) : (putCells id 0 (flatK enC 2 ts.toArray) cur).toList.take (ts.length * 2) = ts.flatMap enC := by
 rw [← flatEn]
 apply List.ext_getElem?
 intro j
 by_cases hj : j < ts.length * 2
 ·rw [List.getElem?_take_of_lt hj, Array.getElem?_toList, Array.getElem?_toList]
  have h4 : j < (flatK enC 2 ts.toArray).size := by simpa using hj
  rw [Array.getElem?_eq_getElem h4, ← getElem!_pos _ j h4]
  simp [putCells, hj, show j < cur.size by omega]
 ·rw [List.getElem?_take_eq_none (by omega), List.getElem?_eq_none (by simpa using hj)]
theorem Tryz.aggEn (w : World) : (isAgg 231).run Tryz.prog w = .ok true w := by kernel_rfl
theorem Tryz.sizeEn (w : World) : (Go.sizeOf 231).run Tryz.prog w = .ok 2 w := by kernel_rfl
/-- As they would be popped. -/
def sortH (ss : List (En)) : List (En) := ss.mergeSort fun x y => !(ltOf cmpH) y x
theorem sortH_len (ss : List (En)) : (sortH ss).length = ss.length := List.length_mergeSort _
set_option maxHeartbeats 1000000 in
theorem sortEn_any (v : Value) (base : Nat) (ss : List (En)) (w : World) (hown : w.ownsRow base 231 2 v ss.length (ss.flatMap enC)) (hlen : ss.length < 4611686018427387904) :
 Calls Tryz.prog 213 #[v, .func (.func 205) #[] #[]] w fun e w' => e = .returned (.tuple #[]) ∧ w'.ownsRow base 231 2 v ss.length ((sortH ss).flatMap enC) ∧ Below base w w' := by
 rcases hown.2 with ⟨rfl, h0⟩ | ⟨g, cap, cur, rfl, hbase, hb, h1, h2, h3, h4⟩
 ·have hs : ss = [] := List.eq_nil_of_length_eq_zero h0
  subst hs
  refine Calls.mono (AnyF.slices_SortFunc_none Tryz.sortEn none 0 (.func (.func 205) #[] #[]) w) ?_
  rintro e w' ⟨rfl, rfl⟩
  refine ⟨rfl, ?_, Below.refl _ _⟩
  simpa [sortH] using hown
 ·have eg : ∀ args w, (callFunc 205 args).run Tryz.prog w = .ok (.enter 205 args) w := enters_of Tryz.func205 (by kernel_rfl) rfl
  have hcon := AnyQ.slices_SortFunc_total Tryz.sortEn 2 Tryz.aggEn Tryz.sizeEn enC enC_len enC_one cmpH swoH 205 #[] g 0 cap ss.toArray w eg (fun _ _ _ _ x y => cmpH_any x y _) (holdsEn hb h4) (lt_of_block hb) (by simpa using hlen)
   (fun x y h1 h2 => by rw [lt_cmpH] at h1 h2; exact eq_of_not (of_decide_eq_false h1) (of_decide_eq_false h2))
  change Calls Tryz.prog 213 _ _ _ at hcon
  simp only [List.size_toArray] at hcon
  refine hcon.mono ?_
  rintro e w' ⟨rfl, n, os, rfl⟩
  refine ⟨rfl, ⟨by rw [flat_len enC 2 enC_len, sortH_len], .inr ⟨g, cap, _, rfl, hbase, heap_sortedEn _ hb, h1, h2, by simp [putCells, h3], ?_⟩⟩, ?_⟩
  ·have := take_putCellsEn cur (sortH ss) (by rw [sortH_len, h3]; exact Nat.mul_le_mul_right _ h1)
   rw [sortH_len] at this
   exact this
  ·exact ((But.of_grownH (grownBy_sortedEn _)).below hbase (by have := lt_of_block hb; omega))
set_option maxRecDepth 100000 in
set_option maxHeartbeats 1000000 in
theorem values_in (F : Fence) (nn : Nat) (h10 : F.fn 214) (hro : F.round = none) (hn : 1 ≤ nn) (l Bm G n room : Nat) (f : Nat → En) (hnr : n ≤ room) (hroom : room ≤ 1024) (w0 : World) (hm : w0.heap[Bm]? = some (.cells #[.slice (some ⟨G, 0, none⟩) n room] 233 (0, 0))) (hG : WhoAt w0 G room f) (J Jx : List En → World → Prop)
 (hY : ∀ pre x W, J pre W → pre.length < n → YieldAt F (nn - 1) Tryz.prog l #[.agg #[.int .i64 x.1, .int .i64 x.2]] W fun e W' =>
   (e = .returned (.bool true) ∧ J (pre ++ [x]) W' ∧ KeepB w0.heap.size W W') ∨ (e = .returned (.bool false) ∧ Jx (pre ++ [x]) W'))
 (W : World) (hJ : AbidesFrom W.heap.size J) (hb0 : Below w0.heap.size w0 W) (h0 : J [] W) :
 CallsIn F nn Tryz.prog 214 #[.func (.yield l) #[] #[], .pointer (some ⟨Bm, 0, none⟩)] W fun e W' => (∃ v, e = .returned v) ∧
  ((∃ ss, ss = rowH n f ∧ J ss W') ∨ (∃ pre, True ∧ Jx pre W')) := by
 have ks : ∀ Y : World, KeepB w0.heap.size w0 Y → Y.cell? ⟨Bm, 0, none⟩ = some (.slice (some ⟨G, 0, none⟩) n room) ∧ WhoAt Y G room f := fun Y hY => ⟨cell_in ((hY.same _ (lt_of_block hm)).trans hm) rfl, hG.same (hY.same _ hG.lt)⟩
 have hk0 : KeepB w0.heap.size w0 W := KeepB.of_below hb0 (Nat.le_refl _)
 have q0 := (ks W hk0).1
 have KS := Lib.hid ks
 have HGL := Lib.hid hG.lt
 clear ks hm hG
 refine callsIn_of_wp Tryz.func214 rfl h10 ?_ hro
 simp only [Tryz.ntmps214, List.size_toArray, List.length_cons, List.length_nil, Nat.reduceAdd, Nat.reduceSub, Array.replicate_succ, Array.replicate_zero, List.push_toArray, List.append_toArray, List.nil_append, List.cons_append]
 gi_wp2
 gi_loopw [7] (fun s wr => ∃ k : Nat, k ≤ n ∧ s = .int .i64 k ∧ KeepB w0.heap.size w0 wr ∧ J (rowH k f) wr) (fun s _ => n - (RowKit.intOf s).toNat)
 case atStart =>
  exact ⟨0, Nat.zero_le _, rfl, hk0, h0⟩
 case round =>
  obtain ⟨k, hk, rfl, hkb, hJk⟩ := hrel
  by_cases hlt : k < n
  ·have l0 : decide ((k : Int) < (n : Int)) = true := decide_eq_true (by omega)
   have l1 : (0 : Int) ≤ (k : Int) := by omega
   have l2 : (k : Int) < (n : Int) := by omega
   obtain ⟨c0, c1, _, _⟩ := (KS.out _ hkb).2.at_ (show k < room by omega)
   have hGl : G < wr.heap.size := (KS.out _ hkb).2.lt
   have hJ3 : J (rowH k f) (wr.alloc (.cells #[.int .i64 ((f k).1 : Nat), .int .i64 (f k).2] 231)) := hJ _ wr _ none hJk (World.grownBy_alloc _ _ none) (fun r e => by cases e)
   obtain ⟨fn, tmps, assign, body, hy, hR⟩ := hY (rowH k f) (f k) _ hJ3 (by simp [rowH]; omega)
   have HKB := Lib.hid hkb
   clear hkb
   gi_wp2
   refine hR.mono ?_
   rintro e W3 (⟨rfl, hJ4, hk4⟩ | ⟨rfl, hJx4⟩)
   ·gi_wp2
    go_roundw
    case rel => exact ⟨k + 1, by omega, by go_num, (HKB.out.trans (KeepB.of_below (below1 _ _) HKB.out.size)).trans hk4, by rw [rowH_succ]; exact hJ4⟩
    case measure => simp [RowKit.intOf]; omega
   ·gi_wp2
    refine bodyPost_ret (results_none rfl _ _ _) rfl ?_
    exact ⟨⟨_, rfl⟩, .inr ⟨_, trivial, hJx4⟩⟩
  ·have l0 : decide ((k : Int) < (n : Int)) = false := decide_eq_false (by omega)
   gi_wp2
   go_end0
   obtain rfl : k = n := by omega
   exact ⟨⟨_, rfl⟩, .inl ⟨_, rfl, hJk⟩⟩
theorem values_stops (F : Fence) (nn : Nat) (h10 : F.fn 214) (hro : F.round = none) (hn : 1 ≤ nn) (Bm G n room : Nat) (f : Nat → En) (hnr : n ≤ room) (hroom : room ≤ 1024) (w0 : World) (hm : w0.heap[Bm]? = some (.cells #[.slice (some ⟨G, 0, none⟩) n room] 233 (0, 0))) (hG : WhoAt w0 G room f) :
 SeqStopsK F nn Tryz.prog 214 #[.pointer (some ⟨Bm, 0, none⟩)] (fun x : En => #[.agg #[.int .i64 x.1, .int .i64 x.2]]) (KeepB w0.heap.size) (fun ss => ss = rowH n f) (fun _ => True) n w0 := fun l J Jx W hW hJ _ hY h0 =>
 values_in F nn h10 hro hn l Bm G n room f hnr hroom w0 hm hG J Jx hY W hJ hW h0
theorem collect_any (Bm G n room : Nat) (f : Nat → En) (hnr : n ≤ room) (hroom : room ≤ 1024) (w : World) (hm : w.heap[Bm]? = some (.cells #[.slice (some ⟨G, 0, none⟩) n room] 233 (0, 0))) (hG : WhoAt w G room f) :
 Calls Tryz.prog 212 #[.func (.func 214) #[] #[.pointer (some ⟨Bm, 0, none⟩)]] w fun e w' => ∃ (v : Value) (ss : List En), e = .returned v ∧ ss = rowH n f ∧ w'.ownsRow w.heap.size 231 2 v ss.length (ss.flatMap enC) ∧ Below w.heap.size w w' :=
 (callsIn_wide (n := 3)).1 (collectE_in Fence.wide 3 trivial trivial rfl (by omega) _ _ trivial (enters_of Tryz.func214 (by kernel_rfl) rfl) _ n (by unfold maxLen; omega) (by omega) w (values_stops Fence.wide _ trivial rfl (by omega) Bm G n room f hnr hroom w hm hG))
set_option maxRecDepth 100000 in
set_option maxHeartbeats 2000000 in
theorem sorted_any (Bm G n room : Nat) (f : Nat → En) (hnr : n ≤ room) (hroom : room ≤ 1024) (w : World) (hm : w.heap[Bm]? = some (.cells #[.slice (some ⟨G, 0, none⟩) n room] 233 (0, 0))) (hG : WhoAt w G room f) :
 Calls Tryz.prog 203 #[.func (.func 214) #[] #[.pointer (some ⟨Bm, 0, none⟩)], .func (.func 205) #[] #[]] w fun e w' => ∃ v, e = .returned v ∧ w'.ownsRow w.heap.size 231 2 v n ((sortH (rowH n f)).flatMap enC) ∧ Below w.heap.size w w' := by
 have HC := Lib.hid (collect_any Bm G n room f hnr hroom w hm hG)
 have hl : (rowH n f).length = n := by simp [rowH]
 clear hm hG
 go_enter Tryz.func203, Tryz.ntmps203
 go_wp2_with (first
  | (go_at_call 213; refine (sortEn_any v3 w.heap.size (rowH n f) _ ho3.out (by rw [hl]; omega)).mono ?_; rintro e w4 ⟨rfl, ho4, hb4⟩)
  | (go_at_call 212; refine HC.out.mono ?_; rintro e w3 ⟨v3, ss, rfl, rfl, ho3', hb3⟩; have ho3 := Lib.hid ho3'; clear ho3')
  | fail "no arm")
 go_ret
 rw [hl] at ho4
 exact ⟨_, rfl, ho4, hb3.trans hb4⟩
end Go.Proofs.YtchbehnkkcjdgaaGreat
namespace Go.Proofs.YtchbehnkkcjdgaaGreat
open Go.ChangeShapes Go.WideShapes Go.ChangeAt Go.RowKit
set_option linter.unusedVariables false
open Go.Shelf Go.Lib Go.Sort in
theorem sortH_is {room n : Nat} {f : Nat → En} {x : Nat → Int} {R : List En} {D : Nat → Option Int} (h : Good room n f x D) (k : Rep R D) : sortH (rowH n f) = R := by
 have hp := row_perm h k
 have hlt : ∀ a b, (!(ltOf cmpH) b a) = true ↔ ¬ ltH b a := fun a b => by rw [lt_cmpH]; simp
 have hs : R.Pairwise (fun a b => (!(ltOf cmpH) b a) = true) := k.1.imp fun {a b} hl => (hlt a b).2 hl.asymm
 unfold sortH
 refine List.Perm.eq_of_pairwise (le := fun x y => (!(ltOf cmpH) y x) = true) ?_ ?_ hs ((List.mergeSort_perm _ _).trans hp)
 ·intro a b _ _ h1 h2
  exact eq_of_not ((hlt b a).1 h2) ((hlt a b).1 h1)
 ·exact List.pairwise_mergeSort (le := fun x y => !(ltOf cmpH) y x)
   (fun a b c h1 h2 => (hlt a c).2 (ltH.le_trans ((hlt a b).1 h1) ((hlt b c).1 h2)))
   (fun a b => by
     rw [Bool.or_eq_true, hlt, hlt]
     by_cases hc : ltH b a
     ·exact .inr hc.asymm
     ·exact .inl hc) _
set_option maxRecDepth 100000 in
set_option maxHeartbeats 2000000 in
theorem valuesMade_any (ad : Option Addr) (ln cp : Nat) (w : World) : Calls Tryz.prog 204 #[.slice ad ln cp] w fun e w' => e = .returned (.func (.func 214) #[] #[.pointer (some ⟨w.heap.size, 0, none⟩)]) ∧ w' = w.alloc (.cells #[.slice ad ln cp] 233) := by
 go_enter Tryz.func204, Tryz.ntmps204
 go_wp2
 go_ret
 exact ⟨rfl, rfl⟩
theorem owns_en {w : World} {base n : Nat} {v : Value} {R : List En} (h : w.ownsRow base 231 2 v n (R.flatMap enC)) (hn : n = R.length) : ∃ ao cap, v = .slice ao n cap ∧ (n = 0 ∨ ∃ g, ao = some ⟨g, 0, none⟩ ∧ base ≤ g ∧ g < w.heap.size ∧ ∀ Y : World, Y.heap[g]? = w.heap[g]? → ∀ i (hi : i < R.length), Y.cell? ⟨g, i * 2, none⟩ = some (.int .i64 ((R[i]).1 : Nat)) ∧ Y.cell? ⟨g, i * 2 + 1, none⟩ = some (.int .i64 (R[i]).2)) := by
 rcases h.2 with ⟨h1, h2⟩ | ⟨g, cap, cur, hv, hb, hg, h1, h2, h3, h4⟩
 ·subst h2
  exact ⟨none, 0, h1, .inl rfl⟩
 ·refine ⟨_, cap, hv, .inr ⟨g, rfl, hb, lt_of_block hg, fun Y hY i hi => ?_⟩⟩
  have hx : R[i]? = some R[i] := List.getElem?_eq_getElem hi
  have a0 := flat_at enC 2 enC_len R i 0 _ hx (by omega)
  have a1 := flat_at enC 2 enC_len R i 1 _ hx (by omega)
  rw [← h4, List.getElem?_take_of_lt (by omega)] at a0 a1
  exact ⟨cell_in (hY.trans hg) (by simpa [enC] using a0), cell_in (hY.trans hg) (by simpa [enC] using a1)⟩
/-- A row of ints, made. -/
def numObj (n : Nat) : Obj := .cells (madeCells (Value.int .i64 0).cells n) 3
theorem wher_made {w : World} {G n : Nat} (h : w.heap[G]? = some (numObj n)) : WherAt w G n (fun _ => 0) :=
 ⟨_, h, by simp [madeCells], fun i hi => by simp [madeCells, Value.cells, hi, Nat.mod_one]⟩
set_option maxRecDepth 100000 in
set_option maxHeartbeats 4000000 in
theorem hall_any (w : World) (lo hi H W X room n : Nat) (f : Nat → En) (x : Nat → Int) (D : Nat → Option Int) (R : List En) (h : HpAt w lo hi H W X room n f x) (hG : Good room n f x D) (hR : Rep R D) :
 Calls Tryz.prog 197 #[.pointer (some ⟨H, 0, none⟩)] w fun e w' => ∃ G y, e = .returned (.slice (some ⟨G, 0, none⟩) n n) ∧ w.heap.size ≤ G ∧ WherAt w' G n y ∧ (∀ i (hi : i < R.length), y i = ((R[i]).1 : Nat)) ∧ Below w.heap.size w w' := by
 have hl := row_len hG hR
 have hnr := hG.le
 have hsm := h.small
 obtain ⟨b0, b1, b2, b3⟩ := h.cells
 obtain ⟨V, hV⟩ : ∃ V, V = w.alloc (.cells #[.slice (some ⟨W, 0, none⟩) n room] 233) := ⟨_, rfl⟩
 have HBV : Hid (Below w.heap.size w V) := Lib.hid (by rw [hV]; exact below1 _ _)
 have HS := sorted_any w.heap.size W n room f hnr hsm V (by rw [hV]; exact heap_alloc_new _ _) ((h.later (by rw [hV]; exact below1 _ _)).who)
 rw [sortH_is hG hR] at HS
 have HS := Lib.hid HS
 have HV := Lib.hid hV
 have HL := Lib.hid hl
 obtain ⟨i0, hi0, hz0, hz1, hz2⟩ := info_parts Tryz.infoInt
 have hmk : ∀ W : World, (Instr.makeSlice 24 (.int .i64 (n : Int)) (.int .i64 (n : Int))).run Tryz.prog W = .ok (.slice (some ⟨W.heap.size, 0, none⟩) n n) (W.alloc (numObj n)) := fun W => by
  have := run_make (P := Tryz.prog) W 24 3 i0 _ Tryz.underlying24 hi0 hz0 .i64 .i64 (n : Int) (n : Int) (by omega) (by omega) (by rw [hz2]; omega) (by omega)
  rw [this, hz1]
  simp [numObj]
 clear h hG hR hV hl hi0 hz0 hz1 hz2
 go_enter Tryz.func197, Tryz.ntmps197
 go_wp2_with (first
  | (go_at_call 203; refine HS.out.mono ?_; rintro e w3 ⟨v3, rfl, ho3', hb3'⟩; obtain ⟨ao, cap, rfl, hr3'⟩ := owns_en ho3' HL.out; have hr3 := Lib.hid hr3'; have hb3 := Lib.hid hb3'; clear ho3' hb3' hr3')
  | (go_at_call 204; refine (valuesMade_any _ _ _ _).mono ?_; rintro e w2 ⟨rfl, hw2⟩; rw [← HV.out] at hw2; rw [hw2]; clear hw2)
  | fail "no arm")
 have hb4 := Lib.hid (below1 w3 (numObj n))
 have hG4 := Lib.hid (heap_alloc_new w3 (numObj n))
 obtain ⟨w4, hw4⟩ : ∃ w4, w4 = w3.alloc (numObj n) := ⟨_, rfl⟩
 rw [← hw4] at hb4 hG4 ⊢
 clear hw4 hmk
 obtain ⟨G, hG⟩ : ∃ G, G = w3.heap.size := ⟨_, rfl⟩
 rw [← hG] at hb4 hG4 ⊢
 have HG := Lib.hid hG
 clear hG
 go_loopw [21] (fun s wr => ∃ (k : Nat) (y : Nat → Int), k ≤ n ∧ s = .int .i64 k ∧ Hid (WherAt wr G n y) ∧ Hid (∀ i (hi : i < R.length), i < k → y i = ((R[i]).1 : Nat)) ∧ Hid (Below G w3 wr)) (fun s _ => n - (intOf s).toNat)
 case atStart => exact ⟨0, fun _ => 0, Nat.zero_le _, rfl, Lib.hid (wher_made hG4.out), Lib.hid (fun i _ h => by omega), hb4⟩
 case round =>
  obtain ⟨k, y, hk, rfl, HY, HK, HB⟩ := hrel
  by_cases hlt : k < n
  ·have l0 : decide ((k : Int) < (n : Int)) = true := decide_eq_true (by omega)
   have l1 : (0 : Int) ≤ (k : Int) := by omega
   have l2 : (k : Int) < (n : Int) := by omega
   rcases hr3.out with h0 | ⟨g, rfl, hg1, hg2, hg3⟩
   ·omega
   have hkR : k < R.length := by rw [← HL.out]; exact hlt
   obtain ⟨c0, c1⟩ := hg3 wr (HB.out.block g (by rw [HG.out]; exact hg2)) k hkR
   obtain ⟨e0, he0⟩ : ∃ e0, e0 = R[k] := ⟨_, rfl⟩
   rw [← he0] at c0 c1
   have HE := Lib.hid he0
   obtain ⟨d0, d1⟩ := HY.out.at_ hlt
   have u0 : G < wr.heap.size := HY.out.lt
   have u1 : g < wr.heap.size := by have := HB.out.size; omega
   obtain ⟨i0, t0⟩ := e0
   dsimp only at c0 c1
   have HBX := Lib.hid (below1 wr (.cells #[.int .i64 (i0 : Nat), .int .i64 t0] 231))
   clear he0 hg3
   go_wp2
   go_roundw
   case rel =>
    refine ⟨k + 1, upd y k (i0 : Nat), by omega, by go_num, Lib.hid ((HY.out.set hlt _).same (Below.heap_alloc _ _ _ (by simpa using u0))), Lib.hid (fun i hi hik => ?_), Lib.hid (b_alloc (HB.out.setCell (Nat.le_refl _) _) (by rw [HG.out]; exact Nat.le_refl _) _)⟩
    by_cases e : i = k
    ·subst e
     rw [upd_at, ← HE.out]
    ·rw [upd_ne _ _ e]; exact HK.out i hi (by omega)
   case measure => simp [intOf]; omega
  ·have l0 : decide ((k : Int) < (n : Int)) = false := decide_eq_false (by omega)
   have HN : Hid (n ≤ k) := Lib.hid (by omega)
   go_wp2
   go_ret
   have h1 : Below w.heap.size w w3 := HBV.out.trans (hb3.out.mono HBV.out.size)
   exact ⟨G, y, rfl, by rw [HG.out]; exact h1.size, HY.out, fun i hi => HK.out i hi (by rw [← HL.out] at hi; have := HN.out; omega), h1.trans (HB.out.mono (by rw [HG.out]; exact h1.size))⟩
end Go.Proofs.YtchbehnkkcjdgaaGreat
namespace Go.Proofs.YtchbehnkkcjdgaaGreat
open Go.ChangeShapes Go.WideShapes Go.ChangeAt Go.RowKit
set_option linter.unusedVariables false
/-- The sorted list of what a heap holds. -/
theorem HpD.list {w : World} {lo hi H W X room n : Nat} {D : Nat → Option Int} (h : HpD w lo hi H W X room n D) : ∃ R : List En, Rep R D ∧ R.length = n := by
 obtain ⟨f, x, _, hG, _⟩ := h
 have hlt : ∀ a b, (!(ltOf cmpH) b a) = true ↔ ¬ ltH b a := fun a b => by rw [lt_cmpH]; simp
 have hp : ((rowH n f).mergeSort (fun x y => !(ltOf cmpH) y x)).Perm (rowH n f) := List.mergeSort_perm _ _
 have hs : ((rowH n f).mergeSort (fun x y => !(ltOf cmpH) y x)).Pairwise (fun a b => (!(ltOf cmpH) b a) = true) := List.pairwise_mergeSort (le := fun x y => !(ltOf cmpH) y x)
  (fun a b c h1 h2 => (hlt a c).2 (ltH.le_trans ((hlt a b).1 h1) ((hlt b c).1 h2)))
  (fun a b => by
    rw [Bool.or_eq_true, hlt, hlt]
    by_cases hc : ltH b a
    ·exact .inr hc.asymm
    ·exact .inl hc) _
 refine ⟨(rowH n f).mergeSort (fun x y => !(ltOf cmpH) y x), ⟨?_, fun id d => ?_⟩, ?_⟩
 ·have hnd : ((rowH n f).mergeSort (fun x y => !(ltOf cmpH) y x)).Pairwise (fun a b => a ≠ b) := (hp.nodup_iff).2 (row_nodup hG)
  refine (hs.and hnd).imp fun {a b} hab => ?_
  have h1 := (hlt a b).1 hab.1
  rcases Decidable.em (ltH a b) with h2 | h2
  ·exact h2
  ·exact absurd (eq_of_not h2 h1) hab.2
 ·rw [hp.mem_iff]; exact mem_row hG id d
 ·rw [hp.length_eq]; simp [rowH]
end Go.Proofs.YtchbehnkkcjdgaaGreat
