/- What must come of demands; the walk of the statement on the demand of any task and server. -/
import Derived.Test.YtlmgphomklpplaaDemandR
namespace Go.Proofs.Ytlmgphomklpplaa
open Go.ChangeShapes Go.WideShapes Go.ChangeAt Go.RowKit
set_option linter.unusedVariables false

theorem sure9 : ofV ⟨true, 10, 10, 6, 2, 5⟩ 6 false = 2 ∧ ofV ⟨true, 10, 10, 6, 2, 5⟩ 16 false = 4 ∧ ofV ⟨true, 10, 10, 6, 2, 5⟩ 4 true = 3 ∧ ofV ⟨true, 10, 10, 6, 2, 5⟩ 6 true = 5 ∧ ofV ⟨true, 10, 10, 6, 2, 5⟩ 3 true = 0 := by decide +kernel
/-- What a box of six and a box of three say later. -/
theorem box6_says (w : World) (v0 v1 v2 v3 v4 v5 : Value) (T : TypeId) (W : World) (h : Below (w.alloc (.cells #[v0, v1, v2, v3, v4, v5] T)).heap.size (w.alloc (.cells #[v0, v1, v2, v3, v4, v5] T)) W) :
    W.cell? ⟨w.heap.size, 0, none⟩ = some v0 ∧ W.cell? ⟨w.heap.size, 1, none⟩ = some v1 ∧ W.cell? ⟨w.heap.size, 2, none⟩ = some v2 ∧ W.cell? ⟨w.heap.size, 3, none⟩ = some v3 ∧ W.cell? ⟨w.heap.size, 4, none⟩ = some v4 ∧ W.cell? ⟨w.heap.size, 5, none⟩ = some v5 :=
  have k := box_says w #[v0, v1, v2, v3, v4, v5] T W h
  ⟨k 0 _ rfl, k 1 _ rfl, k 2 _ rfl, k 3 _ rfl, k 4 _ rfl, k 5 _ rfl⟩
theorem box3_says (w : World) (v0 v1 v2 : Value) (T : TypeId) (W : World) (h : Below (w.alloc (.cells #[v0, v1, v2] T)).heap.size (w.alloc (.cells #[v0, v1, v2] T)) W) :
    W.cell? ⟨w.heap.size, 0, none⟩ = some v0 ∧ W.cell? ⟨w.heap.size, 1, none⟩ = some v1 ∧ W.cell? ⟨w.heap.size, 2, none⟩ = some v2 :=
  have k := box_says w #[v0, v1, v2] T W h
  ⟨k 0 _ rfl, k 1 _ rfl, k 2 _ rfl⟩
set_option maxRecDepth 100000 in
set_option maxHeartbeats 2000000 in
theorem knows9_any (w : World) : Calls Try.prog 12 #[] w fun e w' => e = .returned (.bool true) ∧ Below w.heap.size w w' := by
  obtain ⟨k1, k2, k3, k4, k5⟩ := sure9
  have K1 := Lib.hid k1; have K2 := Lib.hid k2; have K3 := Lib.hid k3; have K4 := Lib.hid k4; have K5 := Lib.hid k5
  clear k1 k2 k3 k4 k5
  have KS := Lib.hid (box6_says w (.bool true) (.int .i64 10) (.int .i64 10) (.int .i64 6) (.int .i64 2) (.int .i64 5) 27)
  have B1 := Lib.hid (below1 w (.cells #[.bool true, .int .i64 10, .int .i64 10, .int .i64 6, .int .i64 2, .int .i64 5] 27))
  have R0 := Lib.hid (Below.refl (w.alloc (.cells #[.bool true, .int .i64 10, .int .i64 10, .int .i64 6, .int .i64 2, .int .i64 5] 27)).heap.size (w.alloc (.cells #[.bool true, .int .i64 10, .int .i64 10, .int .i64 6, .int .i64 2, .int .i64 5] 27)))
  go_enter Try.func12, Try.ntmps12
  go_wp2_with (first
    | (go_at_call 8; refine (of_any _ _ _ _ _ _ _ _ _).mono ?_; rintro e w1 ⟨rfl, hb1⟩; (first | rw [K1.out] | rw [K2.out] | rw [K3.out] | rw [K4.out] | rw [K5.out])
       have hbn := bel_thenD (by first | assumption | exact R0.out) (Nat.le_refl _) hb1; clear hb1
       obtain ⟨k0, k1, k2, k3, k4, k5⟩ := KS.out _ hbn))
  go_ret
  exact ⟨rfl, bel_thenD B1.out (Nat.le_refl _) (by assumption)⟩
set_option maxRecDepth 100000 in
set_option maxHeartbeats 2000000 in
theorem DemandOnes_walk (b : Bool) (t d v lo top : Int) (re : Bool) (c u : Int) (n : Int) (high : Bool) (w : World) :
    Calls Try.prog 3 #[.agg #[.bool b, .int .i64 t, .int .i64 d, .int .i64 v, .int .i64 lo, .int .i64 top], .agg #[.bool re, .int .i64 c, .int .i64 u], .int .i64 n, .bool high] w fun e w' => e = .returned (.bool true) ∧ Below w.heap.size w w' := by
  obtain ⟨x, hx⟩ : ∃ x, x = ofV ⟨b, t, d, v, lo, top⟩ n high := ⟨_, rfl⟩
  obtain ⟨y, hy⟩ : ∃ y, y = servV ⟨re, c, u⟩ n := ⟨_, rfl⟩
  have HX := Lib.hid hx; have HY := Lib.hid hy
  clear hx hy
  have B2 := Lib.hid (b_alloc (below1 w (.cells #[.bool b, .int .i64 t, .int .i64 d, .int .i64 v, .int .i64 lo, .int .i64 top] 23)) (Nat.le_refl _) (.cells #[.bool re, .int .i64 c, .int .i64 u] 25))
  have ks : ∀ W : World, Below ((w.alloc (.cells #[.bool b, .int .i64 t, .int .i64 d, .int .i64 v, .int .i64 lo, .int .i64 top] 23)).alloc (.cells #[.bool re, .int .i64 c, .int .i64 u] 25)).heap.size ((w.alloc (.cells #[.bool b, .int .i64 t, .int .i64 d, .int .i64 v, .int .i64 lo, .int .i64 top] 23)).alloc (.cells #[.bool re, .int .i64 c, .int .i64 u] 25)) W → W.cell? ⟨w.heap.size, 0, none⟩ = some (.bool b) ∧ W.cell? ⟨w.heap.size, 1, none⟩ = some (.int .i64 t) ∧ W.cell? ⟨w.heap.size, 2, none⟩ = some (.int .i64 d) ∧ W.cell? ⟨w.heap.size, 3, none⟩ = some (.int .i64 v) ∧ W.cell? ⟨w.heap.size, 4, none⟩ = some (.int .i64 lo) ∧ W.cell? ⟨w.heap.size, 5, none⟩ = some (.int .i64 top) ∧ W.cell? ⟨w.heap.size + 1, 0, none⟩ = some (.bool re) ∧ W.cell? ⟨w.heap.size + 1, 1, none⟩ = some (.int .i64 c) ∧ W.cell? ⟨w.heap.size + 1, 2, none⟩ = some (.int .i64 u) := fun W h => by
    obtain ⟨k0, k1, k2, k3, k4, k5⟩ := box6_says w (.bool b) (.int .i64 t) (.int .i64 d) (.int .i64 v) (.int .i64 lo) (.int .i64 top) 23 W (bel_thenD (below1 _ _) (Nat.le_refl _) h)
    obtain ⟨k6, k7, k8⟩ := box3_says (w.alloc (.cells #[.bool b, .int .i64 t, .int .i64 d, .int .i64 v, .int .i64 lo, .int .i64 top] 23)) (.bool re) (.int .i64 c) (.int .i64 u) 25 W h
    simp only [World.size_alloc] at k6 k7 k8
    exact ⟨k0, k1, k2, k3, k4, k5, k6, k7, k8⟩
  obtain ⟨V, hV⟩ : ∃ V, V = ((w.alloc (.cells #[.bool b, .int .i64 t, .int .i64 d, .int .i64 v, .int .i64 lo, .int .i64 top] 23)).alloc (.cells #[.bool re, .int .i64 c, .int .i64 u] 25)) := ⟨_, rfl⟩
  rw [← hV] at ks B2
  have KS := Lib.hid (fun (W : World) (h : Below V.heap.size V W) => And.intro h (ks W h))
  have HV := Lib.hid hV
  clear ks hV
  go_enter Try.func3, Try.ntmps3
  go_wp2_with fail
  rw [← HV.out]
  obtain ⟨_, k0, k1, k2, k3, k4, k5, k6, k7, k8⟩ := KS.out _ (Below.refl _ _)
  go_region_held3 (fun W => Below V.heap.size V W ∧ W.cell? ⟨w.heap.size, 0, none⟩ = some (.bool b) ∧ W.cell? ⟨w.heap.size, 1, none⟩ = some (.int .i64 t) ∧ W.cell? ⟨w.heap.size, 2, none⟩ = some (.int .i64 d) ∧ W.cell? ⟨w.heap.size, 3, none⟩ = some (.int .i64 v) ∧ W.cell? ⟨w.heap.size, 4, none⟩ = some (.int .i64 lo) ∧ W.cell? ⟨w.heap.size, 5, none⟩ = some (.int .i64 top) ∧ W.cell? ⟨w.heap.size + 1, 0, none⟩ = some (.bool re) ∧ W.cell? ⟨w.heap.size + 1, 1, none⟩ = some (.int .i64 c) ∧ W.cell? ⟨w.heap.size + 1, 2, none⟩ = some (.int .i64 u))
    (first | exact KS.out _ ((Below.refl _ _).drew) | exact KS.out _ (by assumption))
    (first
      | (go_at_call 8; refine (of_any _ _ _ _ _ _ _ _ _).mono ?_; rintro e w1 ⟨rfl, hb1⟩; rw [← HX.out]; have hbn : Below V.heap.size V w1 := (by go_split_ands; exact bel_thenD (by assumption) (Nat.le_refl _) hb1))
      | (go_at_call 9; refine (rOf_any _ _ _ _ _ _ _ _ _).mono ?_; rintro e w1 ⟨rfl, hb1⟩; rw [← HX.out]; have hbn : Below V.heap.size V w1 := (by go_split_ands; exact bel_thenD (by assumption) (Nat.le_refl _) hb1))
      | (go_at_call 10; refine (serve_any _ _ _ _ _).mono ?_; rintro e w1 ⟨rfl, hb1⟩; rw [← HY.out]; have hbn : Below V.heap.size V w1 := (by go_split_ands; exact bel_thenD (by assumption) (Nat.le_refl _) hb1))
      | (go_at_call 11; refine (rServe_any _ _ _ _ _).mono ?_; rintro e w1 ⟨rfl, hb1⟩; rw [← HY.out]; have hbn : Below V.heap.size V w1 := (by go_split_ands; exact bel_thenD (by assumption) (Nat.le_refl _) hb1))
      | (go_at_call 12; refine (knows9_any _).mono ?_; rintro e w1 ⟨rfl, hb1⟩; have hbn : Below V.heap.size V w1 := (by go_split_ands; exact bel_thenD (by assumption) (Nat.le_refl _) hb1)))
  all_goals
    (go_wp2_with fail
     go_ret
     exact ⟨rfl, B2.out.trans (Below.mono (by repeat first | assumption | refine below_drewD _ ?_) B2.out.size)⟩)
end Go.Proofs.Ytlmgphomklpplaa
