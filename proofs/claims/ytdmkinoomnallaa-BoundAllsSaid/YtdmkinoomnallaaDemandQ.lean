/- The demands of one task and of one server: the program's and the document's. -/
import Derived.Test.YtdmkinoomnallaaDemandP
namespace Go.Proofs.Ytdmkinoomnallaa
open Go.ChangeShapes Go.WideShapes Go.ChangeAt Go.RowKit
set_option linter.unusedVariables false

set_option maxRecDepth 100000 in
set_option maxHeartbeats 1000000 in
theorem done_any (b : Bool) (t d v lo top : Int) (n : Int) (w : World) (h : okTk ⟨b, t, d, v, lo, top⟩ = true) (h0 : 0 ≤ n) (h1 : n ≤ 1000) :
    Calls Try.prog 48 #[.agg #[.bool b, .int .i64 t, .int .i64 d, .int .i64 v, .int .i64 lo, .int .i64 top], .int .i64 n] w fun e w' => e = .returned (.int .i64 (doneV ⟨b, t, d, v, lo, top⟩ n)) ∧ Below w.heap.size w w' := by
  have B1 := Lib.hid (below1 w (.cells #[.bool b, .int .i64 t, .int .i64 d, .int .i64 v, .int .i64 lo, .int .i64 top] 60))
  obtain ⟨a1, a2, a3, a4, a5, a6, a7, a8⟩ := okTk_t h
  simp at a1 a2 a3 a4 a5 a6 a7
  obtain ⟨k, hk⟩ : ∃ k : Int, k = doneV ⟨b, t, d, v, lo, top⟩ n := ⟨_, rfl⟩
  rw [← hk]
  unfold doneV at hk
  simp only at hk
  clear h a8
  rcases (show (n < d - v ∧ k = 0) ∨ (d - v ≤ n ∧ d ≤ n ∧ k = 0) ∨ (d - v ≤ n ∧ n < d ∧ lo - (n - (d - v)) < 0 ∧ k = 0) ∨ (d - v ≤ n ∧ n < d ∧ 0 ≤ lo - (n - (d - v)) ∧ k = lo - (n - (d - v))) by split at hk <;> omega) with ⟨e1, e2⟩ | ⟨e1, e2, e3⟩ | ⟨e1, e2, e3, e4⟩ | ⟨e1, e2, e3, e4⟩
  all_goals
    ((first | subst e4 | subst e3 | subst e2)
     clear hk
     go_enter Try.func48, Try.ntmps48
     go_wp2_with fail
     go_ret
     exact ⟨rfl, B1.out⟩)
theorem modT {n t : Int} (h0 : 0 ≤ n) (ht : 1 ≤ t) : n.tmod t = n % t ∧ 0 ≤ n % t ∧ n % t < t :=
  ⟨Int.tmod_eq_emod_of_nonneg h0, Int.emod_nonneg _ (by omega), Int.emod_lt_of_pos _ (by omega)⟩
theorem divT {n t : Int} (h0 : 0 ≤ n) (ht : 1 ≤ t) : n.tdiv t = n / t ∧ 0 ≤ n / t ∧ n / t ≤ n :=
  ⟨Int.tdiv_eq_ediv_of_nonneg h0, Int.ediv_nonneg h0 (by omega), div_le_self h0 ht⟩
set_option maxRecDepth 100000 in
set_option maxHeartbeats 2000000 in
theorem highOf_any (t d v lo top : Int) (n : Int) (w : World) (h : okTk ⟨true, t, d, v, lo, top⟩ = true) (h0 : 0 ≤ n) (h1 : n ≤ 1099511627776) :
    Calls Try.prog 43 #[.agg #[.bool true, .int .i64 t, .int .i64 d, .int .i64 v, .int .i64 lo, .int .i64 top], .int .i64 n] w fun e w' => e = .returned (.int .i64 (highAt ⟨true, t, d, v, lo, top⟩ n)) ∧ Below w.heap.size w w' := by
  have B1 := Lib.hid (below1 w (.cells #[.bool true, .int .i64 t, .int .i64 d, .int .i64 v, .int .i64 lo, .int .i64 top] 60))
  have KS := Lib.hid (fun (W : World) (hb : Below (w.alloc (.cells #[.bool true, .int .i64 t, .int .i64 d, .int .i64 v, .int .i64 lo, .int .i64 top] 60)).heap.size (w.alloc (.cells #[.bool true, .int .i64 t, .int .i64 d, .int .i64 v, .int .i64 lo, .int .i64 top] 60)) W) =>
    have k := box_says w #[.bool true, .int .i64 t, .int .i64 d, .int .i64 v, .int .i64 lo, .int .i64 top] 60 W hb
    (⟨hb, k 0 _ rfl, k 1 _ rfl, k 2 _ rfl, k 3 _ rfl, k 4 _ rfl, k 5 _ rfl⟩ : Below (w.alloc (.cells #[.bool true, .int .i64 t, .int .i64 d, .int .i64 v, .int .i64 lo, .int .i64 top] 60)).heap.size (w.alloc (.cells #[.bool true, .int .i64 t, .int .i64 d, .int .i64 v, .int .i64 lo, .int .i64 top] 60)) W ∧ W.cell? ⟨w.heap.size, 0, none⟩ = some (.bool true) ∧ W.cell? ⟨w.heap.size, 1, none⟩ = some (.int .i64 t) ∧ W.cell? ⟨w.heap.size, 2, none⟩ = some (.int .i64 d) ∧ W.cell? ⟨w.heap.size, 3, none⟩ = some (.int .i64 v) ∧ W.cell? ⟨w.heap.size, 4, none⟩ = some (.int .i64 lo) ∧ W.cell? ⟨w.heap.size, 5, none⟩ = some (.int .i64 top)))
  obtain ⟨a1, a2, a3, a4, a5, a6, a7, a8⟩ := okTk_t h
  have HE := Lib.hid (highAt_begun h rfl h0)
  have hdn := doneAt_bd (t := n) h
  rw [doneAt_eq] at hdn
  simp only [doneAt_eq] at HE
  simp only at a1 a2 a3 a4 a5 a6 a7 HE hdn
  have CB := Lib.hid (fun (W : World) => begun_any n (d - v) t W h0 h1 (by omega) (by omega) (by omega) (by omega))
  obtain ⟨e1, r0, r1⟩ := modT (t := t) h0 (by omega)
  have CD := Lib.hid (fun (W : World) => done_any true t d v lo top (n % t) W h r0 (by omega))
  obtain ⟨q0, q1⟩ := stepsTo_bd (f := d - v) (T := t) h0 h1 (by omega) (by omega)
  generalize stepsTo (d - v) t n = q at *
  obtain ⟨p0, p1⟩ := mul_bdD (a := top) (b := q) (by omega) (by omega) q0 q1
  have e2 : n % t = n % t := rfl
  generalize doneV ⟨true, t, d, v, lo, top⟩ (n % t) = y at *
  obtain ⟨r, hr⟩ : ∃ r, r = n % t := ⟨_, rfl⟩
  rw [← hr] at e1 r0 r1 CD
  have e3 : n % t = r := hr.symm
  clear h a8 e2 hr
  have s1 : IntKind.i64.wrap (top * q) = top * q := IntWalk.i64_in _ (by omega)
  have s2 : IntKind.i64.wrap (d - v) = d - v := IntWalk.i64_in _ (by omega)
  have s3 : IntKind.i64.wrap r = r := IntWalk.i64_in _ (by omega)
  have s4 : IntKind.i64.wrap (top * q - y) = top * q - y := IntWalk.i64_in _ (by omega)
  have nz : (t == 0) = false := by simp; omega
  have nz2 : ¬ t = 0 := by omega
  go_enter Try.func43, Try.ntmps43
  go_wp2_with fail
  obtain ⟨_, k0, k1, k2, k3, k4, k5⟩ := KS.out _ (Below.refl _ _)
  go_region_held3 (fun W => Below (w.alloc (.cells #[.bool true, .int .i64 t, .int .i64 d, .int .i64 v, .int .i64 lo, .int .i64 top] 60)).heap.size (w.alloc (.cells #[.bool true, .int .i64 t, .int .i64 d, .int .i64 v, .int .i64 lo, .int .i64 top] 60)) W ∧ W.cell? ⟨w.heap.size, 0, none⟩ = some (.bool true) ∧ W.cell? ⟨w.heap.size, 1, none⟩ = some (.int .i64 t) ∧ W.cell? ⟨w.heap.size, 2, none⟩ = some (.int .i64 d) ∧ W.cell? ⟨w.heap.size, 3, none⟩ = some (.int .i64 v) ∧ W.cell? ⟨w.heap.size, 4, none⟩ = some (.int .i64 lo) ∧ W.cell? ⟨w.heap.size, 5, none⟩ = some (.int .i64 top))
    (first | exact KS.out _ ((Below.refl _ _).drew) | exact KS.out _ (by assumption))
    (first
      | (go_at_call 45; refine (CB.out _).mono ?_; rintro e w1 ⟨rfl, rfl⟩)
      | (go_at_call 48; refine (CD.out _).mono ?_; rintro e w2 ⟨rfl, hb5⟩; have hbn : Below (w.alloc (.cells #[.bool true, .int .i64 t, .int .i64 d, .int .i64 v, .int .i64 lo, .int .i64 top] 60)).heap.size (w.alloc (.cells #[.bool true, .int .i64 t, .int .i64 d, .int .i64 v, .int .i64 lo, .int .i64 top] 60)) w2 := (by go_split_ands; exact bel_thenD (by assumption) (Nat.le_refl _) hb5)))
  all_goals
    (go_wp2_with fail
     go_ret
     exact ⟨ret_iD HE.out.symm, bel_thenD B1.out (Nat.le_refl _) (by repeat first | assumption | refine below_drewD _ ?_)⟩)
end Go.Proofs.Ytdmkinoomnallaa
