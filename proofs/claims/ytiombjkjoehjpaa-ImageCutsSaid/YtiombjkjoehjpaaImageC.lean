/- The things of a system put into a writer in memory: one by one. -/
import Derived.Test.YtiombjkjoehjpaaImageB
import Derived.Test.YtiombjkjoehjpaaMemW
namespace Go.Proofs.Ytiombjkjoehjpaa
open Go.ChangeShapes Go.WideShapes Go.ChangeAt Go.RowKit
set_option linter.unusedVariables false

/-- There is room for as many of these as fit. -/
def Room (s : Option (List Fl)) (l : List Fl) : Prop := ∀ fs, s = some fs → ∀ k, fitL (l.take k) = true → szL fs + szL (l.take k) ≤ 4611686018427387840
theorem Room.left {s : Option (List Fl)} {a b : List Fl} (h : Room s (a ++ b)) : Room s a := fun fs e k hk => by
  have e1 : a.take k = (a ++ b).take (min k a.length) := by
    rw [List.take_append_of_le_length (by omega)]
    rcases Nat.le_total k a.length with g | g
    · rw [Nat.min_eq_left g]
    · rw [Nat.min_eq_right g, List.take_of_length_le g, List.take_length]
  rw [e1] at hk ⊢
  exact h fs e _ hk
theorem Room.right {s : Option (List Fl)} {a b : List Fl} (h : Room s (a ++ b)) : Room (putS s a) b := fun fs e k hk => by
  cases s with
  | none => cases e
  | some x =>
    unfold putS at e
    simp only at e
    split at e
    · rename_i hf
      cases e
      have e1 : (a ++ b).take (a.length + k) = a ++ b.take k := by rw [List.take_length_add_append]
      have h1 := h x rfl (a.length + k) (by rw [e1, fitL_append, hf, hk]; rfl)
      rw [e1, szL_append] at h1
      rw [szL_append]
      omega
    · cases e
theorem Room.all {s : Option (List Fl)} {l : List Fl} (h : ∀ fs, s = some fs → szL fs + szL l ≤ 4611686018427387840) : Room s l := fun fs e k _ => by
  have h1 := h fs e
  have h2 : szL l = szL (l.take k) + szL (l.drop k) := by rw [← szL_append, List.take_append_drop]
  omega
theorem Room.base {s : Option (List Fl)} {l : List Fl} (h : Room s l) (fs : List Fl) (e : s = some fs) : szL fs ≤ 4611686018427387840 := by
  have := h fs e 0 rfl
  omega
theorem row_lies {w : World} {b n : Nat} {cs : Array Value} {t : TypeId} {l : List Int} (h : w.heap[b]? = some (.cells cs t (0, 0))) (hc : cs.toList = ints l) (hn : l.length = n) : Lies w b (b + 1) (.slice (some ⟨b, 0, none⟩) n n) n 1 (ints l) :=
  ⟨_, _, rfl, by rw [ints, flat_len intCells 1 (fun _ => rfl), hn], (fun h => by cases h), .inr ⟨b, 0, rfl, by omega, by omega, fun k u hu => by rw [Nat.zero_add]; rw [← hc] at hu; exact cell_in h (by simpa using hu)⟩⟩
theorem heap_new_at {w : World} {o : Obj} {b : Nat} (h : b = w.heap.size) : (w.alloc o).heap[b]? = some o := by subst h; exact heap_alloc_new w o
theorem lt_alloc {w : World} {X : Nat} (h : X < w.heap.size) (o : Obj) : X < (w.alloc o).heap.size := by simp; omega
theorem at_alloc {w : World} {b : Nat} {o : Obj} (h : w.heap[b]? = some o) {p : Obj} : (w.alloc p).heap[b]? = some o := (Below.heap_alloc _ _ _ (lt_of_block h)).trans h
/-- Numbers put that stand in a row made for that. -/
theorem put_new (X : Nat) (s : Option (List Fl)) (sz : Nat) (l : List Int) (b n : Nat) (w : World) {cs : Array Value} {t : TypeId} (hw : WrS w X s) (hn : l.length = n) (hr : w.heap[b]? = some (.cells cs t (0, 0))) (hc : cs.toList = ints l) (hX : X ≠ b) (s1 : 1 ≤ sz) (s7 : sz ≤ 7) (hb : Room s (sized sz l)) (hn8 : n ≤ 9 := by omega) :
    Calls Try.prog 39 #[.pointer (some ⟨X, 0, none⟩), .int .i64 (sz : Int), .slice (some ⟨b, 0, none⟩) n n] w fun e w' => e = .returned (.tuple #[]) ∧ WrS w' X (putS s (sized sz l)) ∧ But X w w' :=
  put_any X s sz l _ n n w b (b + 1) hw hn (row_lies hr hc hn) (by omega) (lt_of_block hr) s1 s7 (fun fs e => by
    have h1 := hb.base fs e
    have h2 : sz * n ≤ 7 * 9 := Nat.mul_le_mul s7 hn8
    omega)

set_option maxRecDepth 100000 in
theorem wTruth_any (X : Nat) (s : Option (List Fl)) (x : Bool) (w : World) (hw : WrS w X s) (hr : Room s [(1, flagV x)]) :
    Calls Try.prog 70 #[.agg #[.pointer (some ⟨X, 0, none⟩)], .bool x] w fun e w' => e = .returned (.tuple #[]) ∧ WrS w' X (putS s [(1, flagV x)]) ∧ But X w w' := by
  have hlt := hw.lt
  have HW := Lib.hid (fun (o p : Obj) => (hw.keep (below1 w o)).keep (below1 (w.alloc o) p))
  clear hw
  cases x
  all_goals
    go_enter Try.func70, Try.ntmps70
    go_wp2_with (first | (go_at_call 39; refine (put_new X s 1 [_] (w.heap.size + 1) 1 _ (HW.out _ _) rfl (heap_new_at (by simp)) (by rfl) (by omega) (by omega) (by omega) hr).mono ?_; rintro e w1 ⟨rfl, hw1, hb1⟩))
    (first | go_end0 | refine bodyPost_ret (results_none rfl _ _ _) rfl ?_)
    exact ⟨rfl, hw1, (But.of_below ((below1 _ _).alloc (by simp) _)).trans hb1⟩
set_option maxRecDepth 100000 in
theorem wDonee_any (X : Nat) (s : Option (List Fl)) (x : Int) (w : World) (hw : WrS w X s) (hr : Room s [(1, x)]) :
    Calls Try.prog 69 #[.agg #[.pointer (some ⟨X, 0, none⟩)], .int .i64 x] w fun e w' => e = .returned (.tuple #[]) ∧ WrS w' X (putS s [(1, x)]) ∧ But X w w' := by
  have hlt := hw.lt
  have HW := Lib.hid (fun (o p : Obj) => (hw.keep (below1 w o)).keep (below1 (w.alloc o) p))
  clear hw
  go_enter Try.func69, Try.ntmps69
  go_wp2_with (first | (go_at_call 39; refine (put_new X s 1 [_] (w.heap.size + 1) 1 _ (HW.out _ _) rfl (heap_new_at (by simp)) (by rfl) (by omega) (by omega) (by omega) hr).mono ?_; rintro e w1 ⟨rfl, hw1, hb1⟩))
  (first | go_end0 | refine bodyPost_ret (results_none rfl _ _ _) rfl ?_)
  exact ⟨rfl, hw1, (But.of_below ((below1 _ _).alloc (by simp) _)).trans hb1⟩
set_option maxRecDepth 100000 in
set_option maxHeartbeats 2000000 in
theorem wWindow_any (X : Nat) (s : Option (List Fl)) (xa xn xp : Int) (w : World) (hw : WrS w X s) (hr : Room s (wnF ⟨xa, xn, xp⟩)) :
    Calls Try.prog 41 #[.agg #[.pointer (some ⟨X, 0, none⟩)], .agg #[.int .i64 xa, .int .i64 xn, .int .i64 xp]] w fun e w' => e = .returned (.tuple #[]) ∧ WrS w' X (putS s (wnF ⟨xa, xn, xp⟩)) ∧ But X w w' := by
  have hlt := hw.lt
  have hr' : Room s (sized 2 [xa, xn] ++ (sized 1 [xp])) := hr
  have R0 := Lib.hid (hr'.left)
  have R1 := Lib.hid (hr'.right)
  have HF : Hid (wnF ⟨xa, xn, xp⟩ = sized 2 [xa, xn] ++ (sized 1 [xp])) := Lib.hid rfl
  have HW := Lib.hid (fun (o p : Obj) => (hw.keep (below1 w o)).keep (below1 (w.alloc o) p))
  clear hw hr hr'
  go_enter Try.func41, Try.ntmps41
  go_wp2_with (first
    | (go_at_call 39; refine (put_new X (putS s (sized 2 [xa, xn])) 1 [xp] w1.heap.size 1 _ ((hw1).keep (below1 _ _)) rfl (heap_new_at (by simp)) (by rfl) (by omega) (by omega) (by omega) R1.out).mono ?_; rintro e w2 ⟨rfl, hw2, hb2⟩)
    | (go_at_call 39; refine (put_new X s 2 [xa, xn] (w.heap.size + 2) 2 _ ((HW.out _ _).keep (below1 _ _)) rfl (heap_new_at (by simp)) (by rfl) (by omega) (by omega) (by omega) R0.out).mono ?_; rintro e w1 ⟨rfl, hw1, hb1⟩; have KA1 := Lib.hid (hb1.at (at_alloc (at_alloc (heap_new_at rfl))) (show w.heap.size ≠ X by omega)); have KB1 := Lib.hid (hb1.at (at_alloc (heap_new_at (by simp))) (show w.heap.size + 1 ≠ X by omega)); have g1 := cell_in (j := 0) KA1.out rfl; have g1_2 := cell_in (j := 2) KB1.out rfl; have z1 : X < w1.heap.size := hw1.lt; have y1 : w.heap.size + 1 < w1.heap.size := lt_of_block KB1.out))
  (first | go_end0 | refine bodyPost_ret (results_none rfl _ _ _) rfl ?_)
  rw [HF.out]
  exact ⟨rfl, by rw [putS_append]; exact hw2, ((((But.of_below ((((below1 w _).alloc (by simp) _)).alloc (by simp; omega) _)).trans hb1).alloc _).trans hb2)⟩
set_option maxRecDepth 100000 in
set_option maxHeartbeats 2000000 in
theorem wChannel_any (X : Nat) (s : Option (List Fl)) (xq : Bool) (xf xt xs : Int) (w : World) (hw : WrS w X s) (hr : Room s (chF ⟨xq, xf, xt, xs⟩)) :
    Calls Try.prog 45 #[.agg #[.pointer (some ⟨X, 0, none⟩)], .agg #[.bool xq, .int .i64 xf, .int .i64 xt, .int .i64 xs]] w fun e w' => e = .returned (.tuple #[]) ∧ WrS w' X (putS s (chF ⟨xq, xf, xt, xs⟩)) ∧ But X w w' := by
  have hlt := hw.lt
  have hr' : Room s ([(1, flagV xq)] ++ (sized 1 [xf, xt] ++ (sized 2 [xs]))) := hr
  have R0 := Lib.hid (hr'.left)
  have R1 := Lib.hid ((hr'.right).left)
  have R2 := Lib.hid ((hr'.right).right)
  have HF : Hid (chF ⟨xq, xf, xt, xs⟩ = [(1, flagV xq)] ++ (sized 1 [xf, xt] ++ (sized 2 [xs]))) := Lib.hid rfl
  have HW := Lib.hid (fun (o p : Obj) => (hw.keep (below1 w o)).keep (below1 (w.alloc o) p))
  clear hw hr hr'
  go_enter Try.func45, Try.ntmps45
  go_wp2_with (first
    | (go_at_call 39; refine (put_new X (putS (putS s ([(1, flagV xq)])) (sized 1 [xf, xt])) 2 [xs] w2.heap.size 1 _ ((hw2).keep (below1 _ _)) rfl (heap_new_at (by simp)) (by rfl) (by omega) (by omega) (by omega) R2.out).mono ?_; rintro e w3 ⟨rfl, hw3, hb3⟩)
    | (go_at_call 39; refine (put_new X (putS s ([(1, flagV xq)])) 1 [xf, xt] w1.heap.size 2 _ ((hw1).keep (below1 _ _)) rfl (heap_new_at (by simp)) (by rfl) (by omega) (by omega) (by omega) R1.out).mono ?_; rintro e w2 ⟨rfl, hw2, hb2⟩; have KA2 := Lib.hid (hb2.at (at_alloc KA1.out) (show w.heap.size ≠ X by omega)); have KB2 := Lib.hid (hb2.at (at_alloc KB1.out) (show w.heap.size + 1 ≠ X by omega)); have g2 := cell_in (j := 0) KA2.out rfl; have g2_3 := cell_in (j := 3) KB2.out rfl; have z2 : X < w2.heap.size := hw2.lt; have y2 : w.heap.size + 1 < w2.heap.size := lt_of_block KB2.out)
    | (go_at_call 70; refine (wTruth_any X s _ _ (HW.out _ _) R0.out).mono ?_; rintro e w1 ⟨rfl, hw1, hb1⟩; have KA1 := Lib.hid (hb1.at (at_alloc (heap_new_at rfl)) (show w.heap.size ≠ X by omega)); have KB1 := Lib.hid (hb1.at (heap_new_at (by simp)) (show w.heap.size + 1 ≠ X by omega)); have g1 := cell_in (j := 0) KA1.out rfl; have g1_1 := cell_in (j := 1) KB1.out rfl; have g1_2 := cell_in (j := 2) KB1.out rfl; have z1 : X < w1.heap.size := hw1.lt; have y1 : w.heap.size + 1 < w1.heap.size := lt_of_block KB1.out))
  (first | go_end0 | refine bodyPost_ret (results_none rfl _ _ _) rfl ?_)
  rw [HF.out]
  exact ⟨rfl, by rw [putS_append, putS_append]; exact hw3, ((((((But.of_below (((below1 w _).alloc (by simp) _))).trans hb1).alloc _).trans hb2).alloc _).trans hb3)⟩
set_option maxRecDepth 100000 in
set_option maxHeartbeats 2000000 in
theorem wTask_any (X : Nat) (s : Option (List Fl)) (xh : Bool) (xt xd xv xl xp : Int) (w : World) (hw : WrS w X s) (hr : Room s (tkF ⟨xh, xt, xd, xv, xl, xp⟩)) :
    Calls Try.prog 65 #[.agg #[.pointer (some ⟨X, 0, none⟩)], .agg #[.bool xh, .int .i64 xt, .int .i64 xd, .int .i64 xv, .int .i64 xl, .int .i64 xp]] w fun e w' => e = .returned (.tuple #[]) ∧ WrS w' X (putS s (tkF ⟨xh, xt, xd, xv, xl, xp⟩)) ∧ But X w w' := by
  have hlt := hw.lt
  have hr' : Room s ([(1, flagV xh)] ++ (sized 2 [xt, xd, xv, xl, xp])) := hr
  have R0 := Lib.hid (hr'.left)
  have R1 := Lib.hid (hr'.right)
  have HF : Hid (tkF ⟨xh, xt, xd, xv, xl, xp⟩ = [(1, flagV xh)] ++ (sized 2 [xt, xd, xv, xl, xp])) := Lib.hid rfl
  have HW := Lib.hid (fun (o p : Obj) => (hw.keep (below1 w o)).keep (below1 (w.alloc o) p))
  clear hw hr hr'
  go_enter Try.func65, Try.ntmps65
  go_wp2_with (first
    | (go_at_call 39; refine (put_new X (putS s ([(1, flagV xh)])) 2 [xt, xd, xv, xl, xp] w1.heap.size 5 _ ((hw1).keep (below1 _ _)) rfl (heap_new_at (by simp)) (by rfl) (by omega) (by omega) (by omega) R1.out).mono ?_; rintro e w2 ⟨rfl, hw2, hb2⟩)
    | (go_at_call 70; refine (wTruth_any X s _ _ (HW.out _ _) R0.out).mono ?_; rintro e w1 ⟨rfl, hw1, hb1⟩; have KA1 := Lib.hid (hb1.at (at_alloc (heap_new_at rfl)) (show w.heap.size ≠ X by omega)); have KB1 := Lib.hid (hb1.at (heap_new_at (by simp)) (show w.heap.size + 1 ≠ X by omega)); have g1 := cell_in (j := 0) KA1.out rfl; have g1_1 := cell_in (j := 1) KB1.out rfl; have g1_2 := cell_in (j := 2) KB1.out rfl; have g1_3 := cell_in (j := 3) KB1.out rfl; have g1_4 := cell_in (j := 4) KB1.out rfl; have g1_5 := cell_in (j := 5) KB1.out rfl; have z1 : X < w1.heap.size := hw1.lt; have y1 : w.heap.size + 1 < w1.heap.size := lt_of_block KB1.out))
  (first | go_end0 | refine bodyPost_ret (results_none rfl _ _ _) rfl ?_)
  rw [HF.out]
  exact ⟨rfl, by rw [putS_append]; exact hw2, ((((But.of_below (((below1 w _).alloc (by simp) _))).trans hb1).alloc _).trans hb2)⟩
set_option maxRecDepth 100000 in
set_option maxHeartbeats 2000000 in
theorem wServer_any (X : Nat) (s : Option (List Fl)) (xr : Bool) (xc xt : Int) (w : World) (hw : WrS w X s) (hr : Room s (svF ⟨xr, xc, xt⟩)) :
    Calls Try.prog 67 #[.agg #[.pointer (some ⟨X, 0, none⟩)], .agg #[.bool xr, .int .i64 xc, .int .i64 xt]] w fun e w' => e = .returned (.tuple #[]) ∧ WrS w' X (putS s (svF ⟨xr, xc, xt⟩)) ∧ But X w w' := by
  have hlt := hw.lt
  have hr' : Room s ([(1, flagV xr)] ++ (sized 2 [xc, xt])) := hr
  have R0 := Lib.hid (hr'.left)
  have R1 := Lib.hid (hr'.right)
  have HF : Hid (svF ⟨xr, xc, xt⟩ = [(1, flagV xr)] ++ (sized 2 [xc, xt])) := Lib.hid rfl
  have HW := Lib.hid (fun (o p : Obj) => (hw.keep (below1 w o)).keep (below1 (w.alloc o) p))
  clear hw hr hr'
  go_enter Try.func67, Try.ntmps67
  go_wp2_with (first
    | (go_at_call 39; refine (put_new X (putS s ([(1, flagV xr)])) 2 [xc, xt] w1.heap.size 2 _ ((hw1).keep (below1 _ _)) rfl (heap_new_at (by simp)) (by rfl) (by omega) (by omega) (by omega) R1.out).mono ?_; rintro e w2 ⟨rfl, hw2, hb2⟩)
    | (go_at_call 70; refine (wTruth_any X s _ _ (HW.out _ _) R0.out).mono ?_; rintro e w1 ⟨rfl, hw1, hb1⟩; have KA1 := Lib.hid (hb1.at (at_alloc (heap_new_at rfl)) (show w.heap.size ≠ X by omega)); have KB1 := Lib.hid (hb1.at (heap_new_at (by simp)) (show w.heap.size + 1 ≠ X by omega)); have g1 := cell_in (j := 0) KA1.out rfl; have g1_1 := cell_in (j := 1) KB1.out rfl; have g1_2 := cell_in (j := 2) KB1.out rfl; have z1 : X < w1.heap.size := hw1.lt; have y1 : w.heap.size + 1 < w1.heap.size := lt_of_block KB1.out))
  (first | go_end0 | refine bodyPost_ret (results_none rfl _ _ _) rfl ?_)
  rw [HF.out]
  exact ⟨rfl, by rw [putS_append]; exact hw2, ((((But.of_below (((below1 w _).alloc (by simp) _))).trans hb1).alloc _).trans hb2)⟩
end Go.Proofs.Ytiombjkjoehjpaa
