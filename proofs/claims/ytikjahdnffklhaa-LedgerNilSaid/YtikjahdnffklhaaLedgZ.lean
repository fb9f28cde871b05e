/- The program's ledger: Of, Got, New; the contracts. -/
import Derived.Test.YtikjahdnffklhaaLedgS
namespace Go.Proofs.Ytikjahdnffklhaa
open Go.ChangeShapes Go.WideShapes Go.ChangeAt Go.RowKit
set_option linter.unusedVariables false
/-- All together. -/
def sumI6 : List Int → Int
  | [] => 0
  | x :: l => x + sumI6 l
theorem sumI6_pos : ∀ {l : List Int}, (∀ x ∈ l, 0 ≤ x) → 0 ≤ sumI6 l
  | [], _ => by unfold sumI6; omega
  | x :: l, h => by
    have := sumI6_pos (l := l) (fun y hy => h y (List.mem_cons_of_mem _ hy))
    have h0 := h x (List.mem_cons_self ..)
    unfold sumI6; omega
theorem sumRun_fits : ∀ (l : List Int) (acc : Int), 0 ≤ acc → (∀ x ∈ l, 0 ≤ x) → acc + sumI6 l ≤ 4611686018427387904 → l.foldl sumStep (acc, true) = (acc + sumI6 l, true)
  | [], acc, _, _, _ => by show (acc, true) = _; rw [show acc + sumI6 [] = acc by unfold sumI6; omega]
  | x :: l, acc, h0, h, hs => by
    have hx := h x (List.mem_cons_self ..)
    have hl := sumI6_pos (l := l) (fun y hy => h y (List.mem_cons_of_mem _ hy))
    have e : sumI6 (x :: l) = x + sumI6 l := rfl
    rw [e] at hs
    have hf : addFits acc x = true := by
      unfold addFits fitB
      simp
      omega
    have ht : addTold acc x = acc + x := by unfold addTold; rw [if_pos hf]
    show l.foldl sumStep (sumStep (acc, true) x) = _
    rw [show sumStep (acc, true) x = (acc + x, true) by unfold sumStep; rw [hf, ht]; rfl, sumRun_fits l (acc + x) (by omega) (fun y hy => h y (List.mem_cons_of_mem _ hy)) (by omega), e, Int.add_assoc]
theorem sumT_fits {l : List Int} (h : ∀ x ∈ l, 0 ≤ x) (hs : sumI6 l ≤ 4611686018427387904) : sumT l = sumI6 l := by
  have := sumRun_fits l 0 (by omega) h (by omega)
  have e : sumRun l = (0 + sumI6 l, true) := this
  unfold sumT sumB
  rw [e, if_pos rfl]; omega
theorem sumT_nats (f : Nat → Nat) (h : sumN f 6 ≤ 1000) : sumT [(f 0 : Int), (f 1 : Int), (f 2 : Int), (f 3 : Int), (f 4 : Int), (f 5 : Int)] = (sumN f 6 : Nat) := by
  have e : sumI6 [(f 0 : Int), (f 1 : Int), (f 2 : Int), (f 3 : Int), (f 4 : Int), (f 5 : Int)] = (sumN f 6 : Nat) := by
    simp only [sumI6, sumN]; omega
  rw [sumT_fits (fun x hx => by
    simp only [List.mem_cons, List.not_mem_nil, or_false] at hx
    omega) (by omega), e]
/-- What each gave to q is what q got. -/
theorem once_col {n : Int} (hn : n ≤ 6) (q : Nat) : ∀ L : List Wn, (∀ x ∈ L, EntOk n x) → sumN (fun p => cntV L 1 p q) 6 = cntV L 1 (-2) q
  | [], _ => rfl
  | x :: L, h => by
    have ih := once_col hn q L (fun y hy => h y (List.mem_cons_of_mem _ hy))
    have hx := ent_ins hn (h x (List.mem_cons_self ..))
    rw [sumN_congr (g := fun p => (if cntB 1 p q x = true then 1 else 0) + cntV L 1 p q) (fun p _ => cntV_cons x L 1 p q), sumN_add, ih, cntV_cons]
    congr 1
    rw [ind_one (c := x.len) (b := x.at_ = 1 ∧ x.part = (q : Int)) (fun i => by rw [cntB_one]; exact ⟨fun h => ⟨⟨h.1, h.2.2⟩, h.2.1⟩, fun h => ⟨h.1.1, h.2, h.1.2⟩⟩)]
    by_cases h1 : x.at_ = 1 ∧ x.part = (q : Int)
    · rw [if_pos ⟨h1, by omega⟩, if_pos ((cntB_oneQ q x).2 h1)]
    · rw [if_neg (fun h2 => h1 h2.1), if_neg (fun h2 => h1 ((cntB_oneQ q x).1 h2))]
theorem cnt_nil {L : List Wn} {k p q : Int} (h : ∀ x ∈ L, ¬ cntB k p q x = true) : cntV L k p q = 0 := by
  unfold cntV
  rw [List.filter_eq_nil_iff.2 h]; rfl
theorem ent_n {n : Int} {x : Wn} (h : EntOk n x) : x.at_ = 4 ∨ (0 ≤ x.len ∧ x.len < n ∧ (x.at_ = 1 → 0 ≤ x.part ∧ x.part < n)) := by
  have := (okC_iff n _ _ _).1 h.1
  omega
theorem gaveB_is {n : Int} {L : List Wn} (h6 : n ≤ 6) (h : ∀ x ∈ L, EntOk n x) (p q : Int) : gaveB n (ledV n L) p q = gaveV L p q := by
  unfold gaveB gaveV
  by_cases c : 0 ≤ p ∧ 0 ≤ q
  · rw [if_pos c]
    obtain ⟨x, rfl⟩ := Int.eq_ofNat_of_zero_le c.1
    obtain ⟨y, rfl⟩ := Int.eq_ofNat_of_zero_le c.2
    by_cases d : (x : Int) < n ∧ (y : Int) < n
    · rw [if_pos ⟨hasP_t ⟨c.1, d.1⟩, hasP_t ⟨c.2, d.2⟩⟩]
      exact ledV_gave n L (by omega) (by omega)
    · rw [if_neg (fun e => d ⟨(of_decide_eq_true e.1).2, (of_decide_eq_true e.2).2⟩), cnt_nil (fun z hz e => by
        have h1 := (cntB_one x y z).1 e
        have h2 := ent_n (h z hz)
        omega)]
      rfl
  · rw [if_neg c, if_neg (fun e => c ⟨(of_decide_eq_true e.1).1, (of_decide_eq_true e.2).1⟩)]
set_option maxRecDepth 100000 in
set_option maxHeartbeats 4000000 in
theorem together_any (a0 a1 a2 a3 a4 a5 : Int) (w : World) : Calls Try.prog 22 #[.agg #[.int .i64 a0, .int .i64 a1, .int .i64 a2, .int .i64 a3, .int .i64 a4, .int .i64 a5]] w fun e w' => e = .returned (.int .i64 (sumT [a0, a1, a2, a3, a4, a5])) ∧ Below w.heap.size w w' := by
  obtain ⟨V, hV⟩ : ∃ V, V = w.alloc (.cells #[.int .i64 a0, .int .i64 a1, .int .i64 a2, .int .i64 a3, .int .i64 a4, .int .i64 a5] 47) := ⟨_, rfl⟩
  obtain ⟨E, hE⟩ : ∃ E, E = w.heap.size := ⟨_, rfl⟩
  have hbV : Below w.heap.size w V := by rw [hV]; exact below1 _ _
  have hEV : V.heap[E]? = some (.cells #[.int .i64 a0, .int .i64 a1, .int .i64 a2, .int .i64 a3, .int .i64 a4, .int .i64 a5] 47 (0, 0)) := by rw [hV, hE]; exact heap_alloc_new _ _
  have hlies : Lies V 0 V.heap.size (.slice (some ⟨E, 0, none⟩) 6 6) 6 1 ([a0, a1, a2, a3, a4, a5].flatMap intCells) := ⟨_, _, rfl, rfl, (fun h => by cases h), .inr ⟨E, 0, rfl, by omega, lt_of_block hEV, fun k u hu => by rw [Nat.zero_add]; exact cell_in hEV (by simpa [intCells] using hu)⟩⟩
  have HA := Lib.hid (ledgSum_any V (some ⟨E, 0, none⟩) 6 6 [a0, a1, a2, a3, a4, a5] rfl (by omega) hlies)
  have HB := Lib.hid hbV
  have HV := Lib.hid hV
  have HE := Lib.hid hE
  obtain ⟨s, hs⟩ : ∃ s, s = sumT [a0, a1, a2, a3, a4, a5] := ⟨_, rfl⟩
  obtain ⟨b, hb⟩ : ∃ b, b = sumB [a0, a1, a2, a3, a4, a5] := ⟨_, rfl⟩
  rw [← hs, ← hb] at HA
  rw [← hs]
  clear hbV hEV hV hE hlies hs hb
  go_enter Try.func22, Try.ntmps22
  go_upto_region 1 with fail
  rw [← HV.out, ← HE.out]
  go_wp2_with (first
    | (go_at_call 19; refine HA.out.mono ?_; rintro e w3 ⟨rfl, b3'⟩; have b3 := Lib.hid (HB.out.trans (b3'.mono HB.out.size)); clear b3')
    | fail "no arm")
  go_ret
  exact ⟨rfl, b3.out⟩
set_option maxRecDepth 100000 in
set_option maxHeartbeats 4000000 in
theorem of_no (w : World) (a : Option Addr) (k p : Int) (HM : Hid (Calls Try.prog 21 #[.pointer a, .int .i64 p] w fun e w' => e = .returned (.bool false) ∧ w' = w)) : Calls Try.prog 14 #[.pointer a, .int .i64 k, .int .i64 p] w fun e w' => e = .returned (.int .i64 0) ∧ Below w.heap.size w w' := by
  go_enter Try.func14, Try.ntmps14
  go_wp2_with (first
    | (go_at_call 21; refine HM.out.mono ?_; rintro e w2 ⟨rfl, hw2⟩; rw [hw2]; clear hw2)
    | fail "no arm")
  go_ret
  exact ⟨rfl, Below.refl _ _⟩
set_option maxRecDepth 100000 in
set_option maxHeartbeats 4000000 in
theorem of_own (w : World) (H : Nat) (v : Nat → Int) (x : Nat) (h : LCells w H true v) (hx : x < 6) (HM : Hid (Calls Try.prog 21 #[.pointer (some ⟨H, 0, none⟩), .int .i64 x] w fun e w' => e = .returned (.bool true) ∧ w' = w)) : Calls Try.prog 14 #[.pointer (some ⟨H, 0, none⟩), .int .i64 0, .int .i64 x] w fun e w' => e = .returned (.int .i64 (v (2 + x))) ∧ Below w.heap.size w w' := by
  obtain ⟨u, hu⟩ : ∃ u, u = v (2 + x) := ⟨_, rfl⟩
  have c0 := (h.at_ (i := 2 + x) (by omega) (by omega)).1
  rw [← hu] at c0 ⊢
  have m0 : (0 : Int) ≤ (x : Int) := by omega
  have m1 : (x : Int) < 6 := by omega
  clear h hu
  go_enter Try.func14, Try.ntmps14
  go_wp2_with (first
    | (go_at_call 21; refine HM.out.mono ?_; rintro e w2 ⟨rfl, hw2⟩; rw [hw2]; clear hw2)
    | fail "no arm")
  go_ret
  exact ⟨rfl, Below.refl _ _⟩
set_option maxRecDepth 100000 in
set_option maxHeartbeats 4000000 in
theorem of_lost (w : World) (H : Nat) (v : Nat → Int) (x : Nat) (h : LCells w H true v) (hx : x < 6) (HM : Hid (Calls Try.prog 21 #[.pointer (some ⟨H, 0, none⟩), .int .i64 x] w fun e w' => e = .returned (.bool true) ∧ w' = w)) : Calls Try.prog 14 #[.pointer (some ⟨H, 0, none⟩), .int .i64 2, .int .i64 x] w fun e w' => e = .returned (.int .i64 (v (8 + x))) ∧ Below w.heap.size w w' := by
  obtain ⟨u, hu⟩ : ∃ u, u = v (8 + x) := ⟨_, rfl⟩
  have c0 := (h.at_ (i := 8 + x) (by omega) (by omega)).1
  rw [← hu] at c0 ⊢
  have m0 : (0 : Int) ≤ (x : Int) := by omega
  have m1 : (x : Int) < 6 := by omega
  clear h hu
  go_enter Try.func14, Try.ntmps14
  go_wp2_with (first
    | (go_at_call 21; refine HM.out.mono ?_; rintro e w2 ⟨rfl, hw2⟩; rw [hw2]; clear hw2)
    | fail "no arm")
  go_ret
  exact ⟨rfl, Below.refl _ _⟩
set_option maxRecDepth 100000 in
set_option maxHeartbeats 4000000 in
theorem of_margin (w : World) (H : Nat) (v : Nat → Int) (x : Nat) (h : LCells w H true v) (hx : x < 6) (HM : Hid (Calls Try.prog 21 #[.pointer (some ⟨H, 0, none⟩), .int .i64 x] w fun e w' => e = .returned (.bool true) ∧ w' = w)) : Calls Try.prog 14 #[.pointer (some ⟨H, 0, none⟩), .int .i64 3, .int .i64 x] w fun e w' => e = .returned (.int .i64 (v (14 + x))) ∧ Below w.heap.size w w' := by
  obtain ⟨u, hu⟩ : ∃ u, u = v (14 + x) := ⟨_, rfl⟩
  have c0 := (h.at_ (i := 14 + x) (by omega) (by omega)).1
  rw [← hu] at c0 ⊢
  have m0 : (0 : Int) ≤ (x : Int) := by omega
  have m1 : (x : Int) < 6 := by omega
  clear h hu
  go_enter Try.func14, Try.ntmps14
  go_wp2_with (first
    | (go_at_call 21; refine HM.out.mono ?_; rintro e w2 ⟨rfl, hw2⟩; rw [hw2]; clear hw2)
    | fail "no arm")
  go_ret
  exact ⟨rfl, Below.refl _ _⟩
set_option maxRecDepth 100000 in
set_option maxHeartbeats 4000000 in
theorem of_given (w : World) (H : Nat) (v : Nat → Int) (x : Nat) (h : LCells w H true v) (hx : x < 6) (HM : Hid (Calls Try.prog 21 #[.pointer (some ⟨H, 0, none⟩), .int .i64 x] w fun e w' => e = .returned (.bool true) ∧ w' = w)) : Calls Try.prog 14 #[.pointer (some ⟨H, 0, none⟩), .int .i64 1, .int .i64 x] w fun e w' => e = .returned (.int .i64 (sumT [v (20 + x * 6), v (20 + x * 6 + 1), v (20 + x * 6 + 2), v (20 + x * 6 + 3), v (20 + x * 6 + 4), v (20 + x * 6 + 5)])) ∧ Below w.heap.size w w' := by
  have c0 := (h.at_ (i := 20 + x * 6) (by omega) (by omega)).1
  generalize v (20 + x * 6) = a0 at c0 ⊢
  have c1 := (h.at_ (i := 20 + x * 6 + 1) (by omega) (by omega)).1
  generalize v (20 + x * 6 + 1) = a1 at c1 ⊢
  have c2 := (h.at_ (i := 20 + x * 6 + 2) (by omega) (by omega)).1
  generalize v (20 + x * 6 + 2) = a2 at c2 ⊢
  have c3 := (h.at_ (i := 20 + x * 6 + 3) (by omega) (by omega)).1
  generalize v (20 + x * 6 + 3) = a3 at c3 ⊢
  have c4 := (h.at_ (i := 20 + x * 6 + 4) (by omega) (by omega)).1
  generalize v (20 + x * 6 + 4) = a4 at c4 ⊢
  have c5 := (h.at_ (i := 20 + x * 6 + 5) (by omega) (by omega)).1
  generalize v (20 + x * 6 + 5) = a5 at c5 ⊢
  have m0 : (0 : Int) ≤ (x : Int) := by omega
  have m1 : (x : Int) < 6 := by omega
  have HT := Lib.hid (together_any a0 a1 a2 a3 a4 a5 w)
  obtain ⟨s, hs⟩ : ∃ s, s = sumT [a0, a1, a2, a3, a4, a5] := ⟨_, rfl⟩
  rw [← hs] at HT ⊢
  clear h hs
  go_enter Try.func14, Try.ntmps14
  go_wp2_with (first
    | (go_at_call 22; refine HT.out.mono ?_; rintro e w3 ⟨rfl, b3'⟩; have b3 := Lib.hid b3'; clear b3')
    | (go_at_call 21; refine HM.out.mono ?_; rintro e w2 ⟨rfl, hw2⟩; rw [hw2]; clear hw2)
    | fail "no arm")
  go_ret
  exact ⟨rfl, b3.out⟩
set_option maxRecDepth 100000 in
set_option maxHeartbeats 4000000 in
theorem of_else (w : World) (H : Nat) (k : Int) (x : Nat) (h0 : k ≠ 0) (h1 : k ≠ 1) (h2 : k ≠ 2) (h3 : k ≠ 3) (HM : Hid (Calls Try.prog 21 #[.pointer (some ⟨H, 0, none⟩), .int .i64 x] w fun e w' => e = .returned (.bool true) ∧ w' = w)) : Calls Try.prog 14 #[.pointer (some ⟨H, 0, none⟩), .int .i64 k, .int .i64 x] w fun e w' => e = .returned (.int .i64 0) ∧ Below w.heap.size w w' := by
  have t0 : (k == 0) = false := by simpa using h0
  have t1 : (k == 1) = false := by simpa using h1
  have t2 : (k == 2) = false := by simpa using h2
  have t3 : (k == 3) = false := by simpa using h3
  clear h0 h1 h2 h3
  go_enter Try.func14, Try.ntmps14
  go_wp2_with (first
    | (go_at_call 21; refine HM.out.mono ?_; rintro e w2 ⟨rfl, hw2⟩; rw [hw2]; clear hw2)
    | fail "no arm")
  go_ret
  exact ⟨rfl, Below.refl _ _⟩
theorem of_any (w : World) (H : Nat) (S : Nat → Prop) (n : Int) (L : List Wn) (k p : Int) (h : LedgAt w H S n L) (hl : L.length ≤ 1000) : Calls Try.prog 14 #[.pointer (some ⟨H, 0, none⟩), .int .i64 k, .int .i64 p] w fun e w' => e = .returned (.int .i64 (ofV L k p)) ∧ Below w.heap.size w w' := by
  have HM := has_any w H n p h.c (ledV_n n L)
  have n6 := h.n6
  by_cases c : 0 ≤ p ∧ p < n
  · rw [hasP_t c] at HM
    obtain ⟨x, rfl⟩ := Int.eq_ofNat_of_zero_le c.1
    by_cases k0 : k = 0
    · subst k0
      rw [show ofV L 0 x = ledV n L (2 + x) from (ofV_nat L 0 x (by omega)).trans (ledV_own n L (by omega)).symm]
      exact of_own w H _ x h.c (by omega) (Lib.hid HM)
    by_cases k1 : k = 1
    · subst k1
      have hr := once_row n6 x L h.ok
      have hle := cntV_le L 1 x (-2)
      have e : sumT [ledV n L (20 + x * 6), ledV n L (20 + x * 6 + 1), ledV n L (20 + x * 6 + 2), ledV n L (20 + x * 6 + 3), ledV n L (20 + x * 6 + 4), ledV n L (20 + x * 6 + 5)] = ofV L 1 x := by
        rw [show ledV n L (20 + x * 6) = _ from ledV_gave n L (p := x) (q := 0) (by omega) (by omega), ledV_gave n L (q := 1) (by omega) (by omega), ledV_gave n L (q := 2) (by omega) (by omega), ledV_gave n L (q := 3) (by omega) (by omega), ledV_gave n L (q := 4) (by omega) (by omega), ledV_gave n L (q := 5) (by omega) (by omega)]
        rw [sumT_nats (fun q => cntV L 1 x q) (by omega), hr]
        exact (ofV_nat L 1 x (by omega)).symm
      rw [← e]
      exact of_given w H _ x h.c (by omega) (Lib.hid HM)
    by_cases k2 : k = 2
    · subst k2
      rw [show ofV L 2 x = ledV n L (8 + x) from (ofV_nat L 2 x (by omega)).trans (ledV_lost n L (by omega)).symm]
      exact of_lost w H _ x h.c (by omega) (Lib.hid HM)
    by_cases k3 : k = 3
    · subst k3
      rw [show ofV L 3 x = ledV n L (14 + x) from (ofV_nat L 3 x (by omega)).trans (ledV_margin n L (by omega)).symm]
      exact of_margin w H _ x h.c (by omega) (Lib.hid HM)
    · rw [show ofV L k x = 0 from if_neg (by omega)]
      exact of_else w H k x k0 k1 k2 k3 (Lib.hid HM)
  · rw [hasP_f c] at HM
    rw [show ofV L k p = 0 from by
      unfold ofV
      by_cases d : 0 ≤ p ∧ 0 ≤ k ∧ k < 4
      · rw [if_pos d]
        obtain ⟨y, rfl⟩ := Int.eq_ofNat_of_zero_le d.1
        obtain ⟨j, rfl⟩ := Int.eq_ofNat_of_zero_le d.2.1
        rw [cnt_nil (fun z hz e => by
          have h1 := (cntB_p j y z).1 e
          have h2 := ent_n (h.ok z hz)
          omega)]
        rfl
      · rw [if_neg d]]
    exact of_no w _ k p (Lib.hid HM)
/-- The row of what was given to one: k of its cells are set. -/
def gotK (g : Nat → Int) (k i : Nat) : Int := if i < k then g i else 0
def gotArr (g : Nat → Int) (k : Nat) : Array Value := #[.int .i64 (gotK g k 0), .int .i64 (gotK g k 1), .int .i64 (gotK g k 2), .int .i64 (gotK g k 3), .int .i64 (gotK g k 4), .int .i64 (gotK g k 5)]
theorem gotArr_zero (g : Nat → Int) : gotArr g 0 = #[.int .i64 0, .int .i64 0, .int .i64 0, .int .i64 0, .int .i64 0, .int .i64 0] := rfl
theorem gotArr_all (g : Nat → Int) : gotArr g 6 = #[.int .i64 (g 0), .int .i64 (g 1), .int .i64 (g 2), .int .i64 (g 3), .int .i64 (g 4), .int .i64 (g 5)] := rfl
theorem gotArr_next (g : Nat → Int) {k : Nat} (h : k < 6) : (gotArr g k).setIfInBounds k (.int .i64 (g k)) = gotArr g (k + 1) := by
  rcases (show k = 0 ∨ k = 1 ∨ k = 2 ∨ k = 3 ∨ k = 4 ∨ k = 5 by omega) with rfl | rfl | rfl | rfl | rfl | rfl <;> rfl
theorem gotArr_at (g : Nat → Int) {k : Nat} (h : k < 6) : (gotArr g k)[k]? = some (.int .i64 0) := by
  rcases (show k = 0 ∨ k = 1 ∨ k = 2 ∨ k = 3 ∨ k = 4 ∨ k = 5 by omega) with rfl | rfl | rfl | rfl | rfl | rfl <;> rfl
set_option maxRecDepth 100000 in
set_option maxHeartbeats 4000000 in
theorem got_core (w : World) (a : Option Addr) (q : Int) (g : Nat → Int) (HG : Hid (∀ (i : Nat) (Y : World), i < 6 → Below w.heap.size w Y → Calls Try.prog 16 #[.pointer a, .int .i64 i, .int .i64 q] Y fun e w' => e = .returned (.int .i64 (g i)) ∧ w' = Y)) : Calls Try.prog 15 #[.pointer a, .int .i64 q] w fun e w' => e = .returned (.int .i64 (sumT [g 0, g 1, g 2, g 3, g 4, g 5])) ∧ Below w.heap.size w w' := by
  obtain ⟨V, hV⟩ : ∃ V, V = w.alloc (.cells #[.int .i64 0, .int .i64 0, .int .i64 0, .int .i64 0, .int .i64 0, .int .i64 0] 47) := ⟨_, rfl⟩
  obtain ⟨E, hE⟩ : ∃ E, E = w.heap.size := ⟨_, rfl⟩
  have hbV : Below w.heap.size w V := by rw [hV]; exact below1 _ _
  have hEV : V.heap[E]? = some (.cells (gotArr g 0) 47 (0, 0)) := by rw [hV, hE, gotArr_zero]; exact heap_alloc_new _ _
  have HEV := Lib.hid hEV
  have HBV := Lib.hid hbV
  have HV := Lib.hid hV
  have HE := Lib.hid hE
  have hbE : ∀ (Y : World), But E V Y → Below w.heap.size w Y := fun Y hY => hbV.trans (hY.below (by rw [hE]; exact Nat.le_refl _) hbV.size)
  have HBE := Lib.hid hbE
  obtain ⟨s, hs⟩ : ∃ s, s = sumT [g 0, g 1, g 2, g 3, g 4, g 5] := ⟨_, rfl⟩
  have HSUM := Lib.hid hs
  rw [← hs]
  clear hbV hEV hV hE hbE hs
  go_enter Try.func15, Try.ntmps15
  go_upto_region 2 with fail
  rw [← HV.out, ← HE.out]
  go_wp2_with fail
  go_loopw [7] (fun s wr => ∃ (k : Nat), k ≤ 6 ∧ s = .int .i64 k ∧ Hid (wr.heap[E]? = some (.cells (gotArr g k) 47 (0, 0))) ∧ Hid (But E V wr)) (fun s _ => 6 - (intOf s).toNat)
  case atStart => exact ⟨0, Nat.zero_le _, rfl, HEV, Lib.hid (But.refl _ _)⟩
  case round =>
    obtain ⟨k, hk, rfl, HS, HB⟩ := hrel
    by_cases hlt : k < 6
    · have d0 : decide ((k : Int) < 6) = true := decide_eq_true (by omega)
      have d1 : (0 : Int) ≤ (k : Int) := by omega
      have d2 : (k : Int) < 6 := by omega
      have c0 : wr.cell? ⟨E, k, none⟩ = some (.int .i64 0) := cell_in HS.out (gotArr_at g hlt)
      have f0 : wr.frozen? ⟨E, k, none⟩ = false := free_in HS.out _
      obtain ⟨y, hy⟩ : ∃ y, y = g k := ⟨_, rfl⟩
      have HC := Lib.hid (show Calls Try.prog 16 #[.pointer a, .int .i64 k, .int .i64 q] wr fun e w' => e = .returned (.int .i64 y) ∧ w' = wr from by rw [hy]; exact HG.out k wr hlt (HBE.out _ HB.out))
      have HNX := Lib.hid (show (wr.setCell ⟨E, k, none⟩ (.int .i64 y)).heap[E]? = some (.cells (gotArr g (k + 1)) 47 (0, 0)) ∧ But E V (wr.setCell ⟨E, k, none⟩ (.int .i64 y)) from ⟨by rw [set_at HS.out, hy, gotArr_next g hlt], HB.out.set _ _⟩)
      clear hy
      go_wp2_with (first
        | (go_at_call 16; refine HC.out.mono ?_; rintro e w2 ⟨rfl, hw2⟩; rw [hw2]; clear hw2)
        | fail "no arm")
      go_roundw
      case rel => exact ⟨k + 1, by omega, by go_num, Lib.hid HNX.out.1, Lib.hid HNX.out.2⟩
      case measure => simp [intOf]; omega
    · have d0 : decide ((k : Int) < 6) = false := decide_eq_false (by omega)
      have hk6 : k = 6 := by omega
      have hA := HS.out
      rw [hk6, gotArr_all] at hA
      have c0 : wr.cell? ⟨E, 0, none⟩ = some (.int .i64 (g 0)) := cell_in hA rfl
      have c1 : wr.cell? ⟨E, 1, none⟩ = some (.int .i64 (g 1)) := cell_in hA rfl
      have c2 : wr.cell? ⟨E, 2, none⟩ = some (.int .i64 (g 2)) := cell_in hA rfl
      have c3 : wr.cell? ⟨E, 3, none⟩ = some (.int .i64 (g 3)) := cell_in hA rfl
      have c4 : wr.cell? ⟨E, 4, none⟩ = some (.int .i64 (g 4)) := cell_in hA rfl
      have c5 : wr.cell? ⟨E, 5, none⟩ = some (.int .i64 (g 5)) := cell_in hA rfl
      have hs := HSUM.out
      obtain ⟨a0, ha0⟩ : ∃ a0, a0 = g 0 := ⟨_, rfl⟩
      rw [← ha0] at c0 hs
      obtain ⟨a1, ha1⟩ : ∃ a1, a1 = g 1 := ⟨_, rfl⟩
      rw [← ha1] at c1 hs
      obtain ⟨a2, ha2⟩ : ∃ a2, a2 = g 2 := ⟨_, rfl⟩
      rw [← ha2] at c2 hs
      obtain ⟨a3, ha3⟩ : ∃ a3, a3 = g 3 := ⟨_, rfl⟩
      rw [← ha3] at c3 hs
      obtain ⟨a4, ha4⟩ : ∃ a4, a4 = g 4 := ⟨_, rfl⟩
      rw [← ha4] at c4 hs
      obtain ⟨a5, ha5⟩ : ∃ a5, a5 = g 5 := ⟨_, rfl⟩
      rw [← ha5] at c5 hs
      have HT := Lib.hid (together_any a0 a1 a2 a3 a4 a5 wr)
      rw [← hs] at HT
      clear hA hs hk6 ha0 ha1 ha2 ha3 ha4 ha5
      go_wp2_with (first
        | (go_at_call 22; refine HT.out.mono ?_; rintro e w3 ⟨rfl, b3'⟩; have b3 := Lib.hid ((HBE.out _ HB.out).trans (b3'.mono (HBE.out _ HB.out).size)); clear b3')
        | fail "no arm")
      go_ret
      exact ⟨rfl, b3.out⟩
theorem got_any (w : World) (H : Nat) (S : Nat → Prop) (n : Int) (L : List Wn) (p : Int) (h : LedgAt w H S n L) (hl : L.length ≤ 1000) : Calls Try.prog 15 #[.pointer (some ⟨H, 0, none⟩), .int .i64 p] w fun e w' => e = .returned (.int .i64 (gotV L p)) ∧ Below w.heap.size w w' := by
  have n6 := h.n6
  have HC := got_core w (some ⟨H, 0, none⟩) p (fun i => gaveV L i p) (Lib.hid (fun i Y hi hY => by
    have hc : LCells Y H true (ledV n L) := h.c.same (hY.block H h.c.lt)
    have := gave_any Y H n i p hc (ledV_n n L) n6
    rwa [gaveB_is n6 h.ok] at this))
  by_cases c : 0 ≤ p
  · obtain ⟨y, rfl⟩ := Int.eq_ofNat_of_zero_le c
    have hr := once_col n6 y L h.ok
    have hle := cntV_le L 1 (-2) y
    have e : sumT [gaveV L (0 : Nat) y, gaveV L (1 : Nat) y, gaveV L (2 : Nat) y, gaveV L (3 : Nat) y, gaveV L (4 : Nat) y, gaveV L (5 : Nat) y] = gotV L y := by
      simp only [gaveV_nat]
      rw [sumT_nats (fun p => cntV L 1 p y) (by omega), hr]
      exact (gotV_nat L y).symm
    rw [← e]
    exact HC
  · have z : ∀ i : Nat, gaveV L i p = 0 := fun i => if_neg (by omega)
    rw [show gotV L p = 0 from if_neg c]
    simp only [z] at HC
    exact HC
theorem gaveok_any (w : World) (H : Nat) (S : Nat → Prop) (n : Int) (L : List Wn) (p q : Int) (h : LedgAt w H S n L) : Calls Try.prog 16 #[.pointer (some ⟨H, 0, none⟩), .int .i64 p, .int .i64 q] w fun e w' => e = .returned (.int .i64 (gaveV L p q)) ∧ Below w.heap.size w w' := by
  have := gave_any w H n p q h.c (ledV_n n L) h.n6
  rw [gaveB_is h.n6 h.ok] at this
  exact this.mono (by rintro e w' ⟨rfl, rfl⟩; exact ⟨rfl, Below.refl _ _⟩)
/-- The cells of a new ledger. -/
def ledC (n : Int) : Array Value := #[.bool true, .int .i64 n, .int .i64 0, .int .i64 0, .int .i64 0, .int .i64 0, .int .i64 0, .int .i64 0, .int .i64 0, .int .i64 0, .int .i64 0, .int .i64 0, .int .i64 0, .int .i64 0, .int .i64 0, .int .i64 0, .int .i64 0, .int .i64 0, .int .i64 0, .int .i64 0, .int .i64 0, .int .i64 0, .int .i64 0, .int .i64 0, .int .i64 0, .int .i64 0, .int .i64 0, .int .i64 0, .int .i64 0, .int .i64 0, .int .i64 0, .int .i64 0, .int .i64 0, .int .i64 0, .int .i64 0, .int .i64 0, .int .i64 0, .int .i64 0, .int .i64 0, .int .i64 0, .int .i64 0, .int .i64 0, .int .i64 0, .int .i64 0, .int .i64 0, .int .i64 0, .int .i64 0, .int .i64 0, .int .i64 0, .int .i64 0, .int .i64 0, .int .i64 0, .int .i64 0, .int .i64 0, .int .i64 0, .int .i64 0, .int .i64 0]
set_option maxRecDepth 100000 in
theorem built_led (n : Int) : Try.prog.built 50 [(0, .bool true), (1, .int .i64 n)] = some (ledC n) := by kernel_rfl
theorem ledV_nil (n : Int) (i : Nat) (h : i ≠ 1) : ledV n [] i = 0 := by
  unfold ledV
  rw [if_neg h]
  split
  · rfl
  split
  · rfl
  split
  · rfl
  split
  · rfl
  · rfl
theorem arr_cells (l : List Value) (k : Nat) (h : l = List.replicate k (Value.int .i64 0)) {i : Nat} (hi : i < k) : l[i]? = some (.int .i64 0) := by
  rw [h, List.getElem?_replicate, if_pos hi]
theorem ledC_cells {w : World} {H : Nat} {n : Int} (h : w.heap[H]? = some (.cells (ledC n) 50 (0, 0))) : LCells w H true (ledV n []) := by
  refine ⟨_, h, rfl, rfl, fun i hi => ?_⟩
  match i with
  | 0 => rfl
  | i + 1 =>
    rw [ledV_nil n _ (by omega)]
    have := arr_cells ((ledC n).toList.drop 2) 55 rfl (i := i) (by omega)
    rw [List.getElem?_drop] at this
    rw [show 1 + (i + 1) = 2 + i by omega, ← Array.getElem?_toList]
    exact this
theorem zc_cells {w : World} {H : Nat} (h : w.heap[H]? = some (.cells zc15 50 (0, 0))) : LCells w H false (fun _ => 0) := by
  refine ⟨_, h, rfl, rfl, fun i hi => ?_⟩
  have := arr_cells (zc15.toList.drop 1) 56 rfl (i := i) (by omega)
  rw [List.getElem?_drop] at this
  rw [← Array.getElem?_toList]
  exact this
set_option maxRecDepth 100000 in
set_option maxHeartbeats 4000000 in
theorem new_any (parts : Int) (w : World) : Calls Try.prog 8 #[.int .i64 parts] w fun e w' => ∃ (H : Nat) (S : Nat → Prop), e = .returned (.pointer (some ⟨H, 0, none⟩)) ∧ LedgAt w' H S (partsV parts) [] ∧ (∀ k, S k → w.heap.size ≤ k) ∧ Below w.heap.size w w' := by
  obtain ⟨now, hnow⟩ : ∃ now, now = partsV parts := ⟨_, rfl⟩
  have hbd := partsV_bd parts
  rw [← hnow] at hbd ⊢
  have HB := Lib.hid (built_led now)
  have HBD := Lib.hid hbd
  rcases (show (parts < 0 ∧ now = 0) ∨ (0 ≤ parts ∧ parts ≤ 6 ∧ now = parts) ∨ (6 < parts ∧ now = 6) by unfold partsV at hnow; omega) with ⟨g1, g3⟩ | ⟨g1, g2, g3⟩ | ⟨g1, g3⟩
  all_goals
    subst g3
    clear hnow hbd
    go_enter Try.func8, Try.ntmps8
    go_wp2_with (first
      | (refine wpList_build3 (by rfl) 50 _ (by rfl) [(0, .bool true), (1, .int .i64 _)] (by rfl) (ledC _) HB.out ?_)
      | fail "no arm")
    go_ret
    first | exact ⟨_, fun k => k = w.heap.size, rfl, ⟨ledC_cells (heap_alloc_new _ _), HBD.out.1, HBD.out.2, fun x hx => absurd hx List.not_mem_nil, rfl⟩, fun k hk => by rw [hk]; exact Nat.le_refl _, below1 _ _⟩ | exact ⟨_, rfl, fun k => k = w.heap.size, ⟨ledC_cells (heap_alloc_new _ _), HBD.out.1, HBD.out.2, fun x hx => absurd hx List.not_mem_nil, rfl⟩, fun k hk => by rw [hk]; exact Nat.le_refl _, below1 _ _⟩
def ledgerOk : LedgerOk where
  Lg := LedgAt
  keep := fun h hs hz => h.same (hs _ (by rw [h.s]))
  lt := fun h k hk => by rw [h.s] at hk; rw [show k = _ from hk]; exact h.c.lt
  bd := fun h => ⟨h.n0, h.n6, h.ok⟩
  new := new_any
  charge := charge_any
  of := of_any
  got := got_any
  gave := fun w H S n L p q h _ => gaveok_any w H S n L p q h
  total := fun w H S n L h _ => (total_any w H h.c).mono (by rintro e w' ⟨rfl, rfl⟩; exact ⟨rfl, Below.refl _ _⟩)
/-- No ledger, or one that nobody made. -/
def NoL (w : World) (p : Option Addr) : Prop := p = none ∨ ∃ H, p = some ⟨H, 0, none⟩ ∧ LCells w H false (fun _ => 0)
theorem no_has (w : World) (p : Option Addr) (a : Int) (h : NoL w p) : Calls Try.prog 21 #[.pointer p, .int .i64 a] w fun e w' => e = .returned (.bool false) ∧ w' = w := by
  rcases h with rfl | ⟨H, rfl, h⟩
  · exact has_nil w a
  · have := has_any w H 0 a h rfl
    rwa [hasP_f (by omega)] at this
theorem no_may (w : World) (p : Option Addr) (k a b : Int) (h : NoL w p) : Calls Try.prog 20 #[.pointer p, .int .i64 k, .int .i64 a, .int .i64 b] w fun e w' => e = .returned (.bool false) ∧ w' = w := by
  rcases h with rfl | ⟨H, rfl, h⟩
  · exact may_nil w k a b
  · exact may_zero w H h rfl k a b
theorem no_later {w w' : World} {p : Option Addr} (h : NoL w p) (hb : Below w.heap.size w w') : NoL w' p := by
  rcases h with rfl | ⟨H, rfl, h⟩
  · exact .inl rfl
  · exact .inr ⟨H, rfl, h.same (hb.block H h.lt)⟩
set_option maxRecDepth 100000 in
set_option maxHeartbeats 4000000 in
theorem no_gave (w : World) (a : Option Addr) (p q : Int) (h : NoL w a) : Calls Try.prog 16 #[.pointer a, .int .i64 p, .int .i64 q] w fun e w' => e = .returned (.int .i64 0) ∧ w' = w := by
  have HM := Lib.hid (no_has w a p h)
  clear h
  go_enter Try.func16, Try.ntmps16
  go_wp2_with (first
    | (go_at_call 21; refine HM.out.mono ?_; rintro e w2 ⟨rfl, hw2⟩; rw [hw2]; clear hw2)
    | fail "no arm")
  go_ret
  exact ⟨rfl, rfl⟩
theorem no_got (w : World) (a : Option Addr) (q : Int) (h : NoL w a) : Calls Try.prog 15 #[.pointer a, .int .i64 q] w fun e w' => e = .returned (.int .i64 0) ∧ Below w.heap.size w w' :=
  got_core w a q (fun _ => 0) (Lib.hid (fun i Y hi hY => no_gave Y a i q (no_later h hY)))
theorem no_total (w : World) (a : Option Addr) (h : NoL w a) : Calls Try.prog 17 #[.pointer a] w fun e w' => e = .returned (.int .i64 0) ∧ w' = w := by
  rcases h with rfl | ⟨H, rfl, h⟩
  · exact total_nil w
  · exact total_any w H h
theorem bel_of {w w' : World} {e : Ending} {v : Value} (h : e = .returned v ∧ w' = w) : e = .returned v ∧ Below w.heap.size w w' := ⟨h.1, by rw [h.2]; exact Below.refl _ _⟩
def ledgerNo : LedgerNo where
  No := NoL
  later := no_later
  nil := fun w => .inl rfl
  zero := fun w H h => .inr ⟨H, rfl, zc_cells h⟩
  charge := fun w p a b c h => (charge_no w p a b c (Lib.hid (no_may w p a b c h))).mono (fun _ _ => bel_of)
  of := fun w p a b h => of_no w p a b (Lib.hid (no_has w p b h))
  got := no_got
  gave := fun w p a b h => (no_gave w p a b h).mono (fun _ _ => bel_of)
  total := fun w p h => (no_total w p h).mono (fun _ _ => bel_of)
end Go.Proofs.Ytikjahdnffklhaa
