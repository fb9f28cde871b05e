/- The program's police: accept, Take, Last, Drop. -/
import Derived.Test.YtackgfjgephhoaaPolP
namespace Go.Proofs.Ytackgfjgephhoaa
open Go.ChangeShapes Go.WideShapes Go.ChangeAt Go.RowKit
set_option linter.unusedVariables false

set_option maxRecDepth 100000 in
set_option maxHeartbeats 4000000 in
theorem accept_any (w : World) (H o : Nat) (now : Int) (u6 u7 : Value) (b6 : w.cell? ⟨H, o + 6, none⟩ = some u6) (f6 : w.frozen? ⟨H, o + 6, none⟩ = false) (b7 : (w.setCell ⟨H, o + 6, none⟩ (.bool true)).cell? ⟨H, o + 7, none⟩ = some u7) (f7 : (w.setCell ⟨H, o + 6, none⟩ (.bool true)).frozen? ⟨H, o + 7, none⟩ = false) :
    Calls Try.prog 21 #[.pointer (some ⟨H, o, none⟩), .int .i64 now] w fun e w' => e = .returned (.tuple #[]) ∧ w' = (w.setCell ⟨H, o + 6, none⟩ (.bool true)).setCell ⟨H, o + 7, none⟩ (.int .i64 now) := by
  go_enter Try.func21, Try.ntmps21
  go_wp2_with fail
  go_end0
  exact ⟨rfl, rfl⟩
theorem errP_vals (ts : List Tk) (la : List Int) (hi : Bool) (t now : Int) : errP ts la hi t now = 0 ∨ errP ts la hi t now = 1 ∨ errP ts la hi t now = 40 ∨ errP ts la hi t now = 42 := by
  unfold errP
  split
  · split
    · simp
    · split <;> simp
  · simp
theorem polV_acc {n : Nat} {ts : List Tk} {la : List Int} {hi : Bool} {k : Nat} {now : Int} (hk : k < 6) (hl : k < la.length) (h0 : 0 ≤ now) : ∀ i, i < 50 → updP (updP (polV n ts la hi) (k * 8 + 6) (.bool true)) (k * 8 + 7) (.int .i64 now) i = polV n ts (la.set k now) hi i := by
  refine polV_ext ?_ ?_ (fun j r hj hr => ?_)
  · rw [updP_ne _ _ (by omega), updP_ne _ _ (by omega)]; rfl
  · rw [updP_ne _ _ (by omega), updP_ne _ _ (by omega)]; rfl
  by_cases c7 : j * 8 + r = k * 8 + 7
  · have e1 : j = k := by omega
    have e2 : r = 7 := by omega
    subst e1 e2
    rw [updP_at, polV_7 _ _ _ _ hj]
    unfold lasI
    rw [laAt_set hl, if_pos rfl, if_pos h0]
  by_cases c6 : j * 8 + r = k * 8 + 6
  · have e1 : j = k := by omega
    have e2 : r = 6 := by omega
    subst e1 e2
    rw [updP_ne _ _ (by omega), updP_at, polV_6 _ _ _ _ hj, laAt_set hl, if_pos rfl, decide_eq_true h0]
  · rw [updP_ne _ _ c7, updP_ne _ _ c6, polV_k _ _ _ _ _ _ hj hr, polV_k _ _ _ _ _ _ hj hr]
    unfold lasI
    rw [laAt_set hl]
    by_cases e : j = k
    · subst e
      rw [if_pos rfl]
      have : r < 6 := by omega
      match r, this with
      | 0, _ => rfl
      | 1, _ => rfl
      | 2, _ => rfl
      | 3, _ => rfl
      | 4, _ => rfl
      | 5, _ => rfl
    · rw [if_neg e]
set_option maxRecDepth 100000 in
set_option maxHeartbeats 4000000 in
theorem take_no (w : World) (p : Option Addr) (t now x : Int) (hx : x = 1 ∨ x = 40 ∨ x = 42) (HM : Hid (Calls Try.prog 12 #[.pointer p, .int .i64 t, .int .i64 now] w fun e w' => e = .returned (.int .i64 x) ∧ Below w.heap.size w w')) : Calls Try.prog 10 #[.pointer p, .int .i64 t, .int .i64 now] w fun e w' => e = .returned (.int .i64 x) ∧ Below w.heap.size w w' := by
  rcases hx with rfl | rfl | rfl
  all_goals
    (go_enter Try.func10, Try.ntmps10
     go_wp2_with (first
       | (go_at_call 12; refine HM.out.mono ?_; rintro e w2 ⟨rfl, hb2'⟩; have hb2 := Lib.hid hb2'; clear hb2')
       | fail "no arm")
     go_ret
     exact ⟨rfl, hb2.out⟩)
set_option maxRecDepth 100000 in
set_option maxHeartbeats 4000000 in
theorem take_yes (w : World) (H : Nat) (ts : List Tk) (la : List Int) (hi : Bool) (k : Nat) (now : Int) (h : PCells w H (polV ts.length ts la hi)) (hk : k < 6) (hl : k < la.length) (h0 : 0 ≤ now) (HM : Hid (Calls Try.prog 12 #[.pointer (some ⟨H, 0, none⟩), .int .i64 k, .int .i64 now] w fun e w' => e = .returned (.int .i64 0) ∧ Below w.heap.size w w')) :
    Calls Try.prog 10 #[.pointer (some ⟨H, 0, none⟩), .int .i64 k, .int .i64 now] w fun e w' => e = .returned (.int .i64 0) ∧ PCells w' H (polV ts.length ts (la.set k now) hi) ∧ But H w w' := by
  have KS : Hid (∀ W, Below w.heap.size w W → Calls Try.prog 21 #[.pointer (some ⟨H, k * 8, none⟩), .int .i64 now] W fun e w' => e = .returned (.tuple #[]) ∧ PCells w' H (polV ts.length ts (la.set k now) hi) ∧ But H w w') := Lib.hid (fun W hW => by
    have h1 := h.same (hW.block H h.lt)
    have h2 := h1.set (i := k * 8 + 6) (by omega) (.bool true)
    refine (accept_any W H (k * 8) now _ _ (h1.at_ (by omega)).1 (h1.at_ (by omega)).2 (h2.at_ (by omega)).1 (h2.at_ (by omega)).2).mono ?_
    rintro e w' ⟨rfl, rfl⟩
    exact ⟨rfl, (h2.set (by omega) _).congr (polV_acc hk hl h0), ((But.of_below hW).set _ _).set _ _⟩)
  have m0 : (0 : Int) ≤ (k : Int) := by omega
  have m1 : (k : Int) < 6 := by omega
  clear h hk hl h0
  go_enter Try.func10, Try.ntmps10
  go_wp2_with (first
    | (go_at_call 21; have _z := hb2; refine (KS.out _ hb2.out).mono ?_; rintro e w3 ⟨rfl, h3', b3'⟩; have h3 := Lib.hid h3'; have b3 := Lib.hid b3'; clear h3' b3')
    | (go_at_call 12; refine HM.out.mono ?_; rintro e w2 ⟨rfl, hb2'⟩; have hb2 := Lib.hid hb2'; clear hb2')
    | fail "no arm")
  go_ret
  exact ⟨rfl, h3.out, b3.out⟩
theorem dropV_of {ts : List Tk} {g hi : Bool} (h : ts = [] ∨ g = hi) (t : Int) : dropV ts g t = dropV ts hi t := by
  rcases h with h | h
  · subst h
    unfold dropV inT
    by_cases c : 0 ≤ t
    · rw [decide_eq_false (p := t < _) (by simp; omega)]; simp
    · rw [decide_eq_false c]; simp
  · rw [h]
theorem errP_of {ts : List Tk} {la : List Int} {g hi : Bool} (h : ts = [] ∨ g = hi) (t now : Int) : errP ts la g t now = errP ts la hi t now := by
  unfold errP; rw [dropV_of h]
theorem mayok_any (w : World) (H : Nat) (S : Nat → Prop) (ts : List Tk) (la : List Int) (hi : Bool) (t now : Int) (h : PolAt H ts la hi w S) : Calls Try.prog 12 #[.pointer (some ⟨H, 0, none⟩), .int .i64 t, .int .i64 now] w fun e w' => e = .returned (.int .i64 (errP ts la hi t now)) ∧ Below w.heap.size w w' := by
  obtain ⟨g, hc, hg⟩ := h.c
  rw [← errP_of hg]
  exact may_any w H ts la g t now hc h.n6 h.la
theorem takeok_any (w : World) (H : Nat) (S : Nat → Prop) (ts : List Tk) (la : List Int) (hi : Bool) (t now : Int) (h : PolAt H ts la hi w S) : Calls Try.prog 10 #[.pointer (some ⟨H, 0, none⟩), .int .i64 t, .int .i64 now] w fun e w' => ∃ S', e = .returned (.int .i64 (errP ts la hi t now)) ∧ PolAt H ts (takL ts la hi t now) hi w' S' ∧ GrowS S S' w w' := by
  have hM := mayok_any w H S ts la hi t now h
  obtain ⟨g, hc, hg⟩ := h.c
  have hs := h.s
  subst hs
  rcases errP_vals ts la hi t now with e | e
  · rw [e] at hM ⊢
    obtain ⟨q1, q2⟩ := errP_zero e
    obtain ⟨k, rfl, hk⟩ := inT_nat q1
    simp only [nowOk, Bool.and_eq_true, decide_eq_true_eq] at q2
    have hl := h.la.len
    have hT := h.la.take hi k now
    refine (take_yes w H ts la g k now hc (by have := h.n6; omega) (by omega) q2.1 (Lib.hid hM)).mono ?_
    rintro e' w' ⟨rfl, c', b'⟩
    refine ⟨_, rfl, ⟨⟨g, ?_, hg⟩, h.n6, h.ok, hT, rfl⟩, grow_pol b'⟩
    unfold takL
    rw [if_pos e]
    exact c'
  · refine (take_no w _ t now _ e (Lib.hid hM)).mono ?_
    rintro e' w' ⟨rfl, b'⟩
    refine ⟨_, rfl, ⟨⟨g, ?_, hg⟩, h.n6, h.ok, h.la.take hi t now, rfl⟩, grow_pol (But.of_below b')⟩
    unfold takL
    rw [if_neg (by rcases e with e | e | e <;> rw [e] <;> decide)]
    exact hc.same (b'.block H hc.lt)
set_option maxRecDepth 100000 in
set_option maxHeartbeats 4000000 in
theorem last_no (w : World) (p : Option Addr) (t : Int) (HM : Hid (Calls Try.prog 22 #[.pointer p, .int .i64 t] w fun e w' => e = .returned (.bool false) ∧ w' = w)) : Calls Try.prog 15 #[.pointer p, .int .i64 t] w fun e w' => e = .returned (.tuple #[.int .i64 0, .bool false]) ∧ Below w.heap.size w w' := by
  go_enter Try.func15, Try.ntmps15
  go_wp2_with (first
    | (go_at_call 22; refine HM.out.mono ?_; rintro e w2 ⟨rfl, hw2⟩; rw [hw2]; clear hw2)
    | fail "no arm")
  go_ret2
  exact ⟨rfl, Below.refl _ _⟩
set_option maxRecDepth 100000 in
set_option maxHeartbeats 4000000 in
theorem last_yes (w : World) (H : Nat) (ts : List Tk) (la : List Int) (hi : Bool) (k : Nat) (h : PCells w H (polV ts.length ts la hi)) (hk : k < 6) (HM : Hid (Calls Try.prog 22 #[.pointer (some ⟨H, 0, none⟩), .int .i64 k] w fun e w' => e = .returned (.bool true) ∧ w' = w)) :
    Calls Try.prog 15 #[.pointer (some ⟨H, 0, none⟩), .int .i64 k] w fun e w' => e = .returned (.tuple #[.int .i64 (lasI la k), .bool (decide (0 ≤ laAt la k))]) ∧ Below w.heap.size w w' := by
  have b0 := (h.at_ (i := k * 8) (by omega)).1
  have b1 := (h.at_ (i := k * 8 + 1) (by omega)).1
  have b2 := (h.at_ (i := k * 8 + 2) (by omega)).1
  have b3 := (h.at_ (i := k * 8 + 3) (by omega)).1
  have b4 := (h.at_ (i := k * 8 + 4) (by omega)).1
  have b5 := (h.at_ (i := k * 8 + 5) (by omega)).1
  have b6 := (h.at_ (i := k * 8 + 6) (by omega)).1
  have b7 := (h.at_ (i := k * 8 + 7) (by omega)).1
  rw [polV_0 _ _ _ _ (by omega)] at b0
  rw [polV_1 _ _ _ _ (by omega)] at b1
  rw [polV_2 _ _ _ _ (by omega)] at b2
  rw [polV_3 _ _ _ _ (by omega)] at b3
  rw [polV_4 _ _ _ _ (by omega)] at b4
  rw [polV_5 _ _ _ _ (by omega)] at b5
  rw [polV_6 _ _ _ _ (by omega)] at b6
  rw [polV_7 _ _ _ _ (by omega)] at b7
  have m0 : (0 : Int) ≤ (k : Int) := by omega
  have m1 : (k : Int) < 6 := by omega
  obtain ⟨x, hx⟩ : ∃ x, x = tkAt ts k := ⟨_, rfl⟩
  obtain ⟨l, hl⟩ : ∃ l, l = lasI la k := ⟨_, rfl⟩
  obtain ⟨a, ha⟩ : ∃ a, a = decide (0 ≤ laAt la k) := ⟨_, rfl⟩
  rw [← hx] at b0 b1 b2 b3 b4 b5
  rw [← hl] at b7 ⊢
  rw [← ha] at b6 ⊢
  obtain ⟨x0, x1, x2, x3, x4, x5⟩ := x
  dsimp only at b0 b1 b2 b3 b4 b5
  have HB : Hid (Below w.heap.size w (w.alloc (.cells #[.bool x0, .int .i64 x1, .int .i64 x2, .int .i64 x3, .int .i64 x4, .int .i64 x5, .bool a, .int .i64 l] 52))) := Lib.hid (below1 _ _)
  clear h hk hx hl ha
  go_enter Try.func15, Try.ntmps15
  go_wp2_with (first
    | (go_at_call 22; refine HM.out.mono ?_; rintro e w2 ⟨rfl, hw2⟩; rw [hw2]; clear hw2)
    | fail "no arm")
  go_quiet (fail)
  go_wp2_with fail
  go_ret2
  exact ⟨rfl, by repeat first | exact HB.out | refine below_drewP _ ?_⟩
theorem lastok_any (w : World) (H : Nat) (S : Nat → Prop) (ts : List Tk) (la : List Int) (hi : Bool) (t : Int) (h : PolAt H ts la hi w S) : Calls Try.prog 15 #[.pointer (some ⟨H, 0, none⟩), .int .i64 t] w fun e w' => e = .returned (.tuple #[.int .i64 (lastV ts la t), .bool (wasV ts la t)]) ∧ Below w.heap.size w w' := by
  obtain ⟨g, hc, hg⟩ := h.c
  have hM := has_any w H (ts.length : Int) t (by rw [(hc.at_ (i := 48) (by omega)).1, polV_n])
  rw [hasP_in] at hM
  cases ci : inT ts t with
  | false =>
    rw [ci] at hM
    have e : wasV ts la t = false := by unfold wasV; rw [ci]; rfl
    rw [show lastV ts la t = 0 by unfold lastV; rw [e]; simp, e]
    exact last_no w _ t (Lib.hid hM)
  | true =>
    rw [ci] at hM
    obtain ⟨k, rfl, hk⟩ := inT_nat ci
    have e : wasV ts la k = decide (0 ≤ laAt la k) := by unfold wasV; rw [ci]; simp
    rw [show lastV ts la k = lasI la k by unfold lastV lasI; rw [e]; simp, e]
    exact last_yes w H ts la g k hc (by have := h.n6; omega) (Lib.hid hM)
theorem droppedok_any (w : World) (H : Nat) (S : Nat → Prop) (ts : List Tk) (la : List Int) (hi : Bool) (t : Int) (h : PolAt H ts la hi w S) : Calls Try.prog 16 #[.pointer (some ⟨H, 0, none⟩), .int .i64 t] w fun e w' => e = .returned (.bool (dropV ts hi t)) ∧ Below w.heap.size w w' := by
  obtain ⟨g, hc, hg⟩ := h.c
  rw [← dropV_of hg]
  exact (dropped_any w H ts la g t hc h.n6).mono (by rintro e w' ⟨rfl, rfl⟩; exact ⟨rfl, Below.refl _ _⟩)
set_option maxRecDepth 100000 in
set_option maxHeartbeats 4000000 in
theorem drop_no (w : World) (p : Option Addr) (b : Bool) (HM : Hid (Calls Try.prog 22 #[.pointer p, .int .i64 0] w fun e w' => e = .returned (.bool false) ∧ w' = w)) : Calls Try.prog 14 #[.pointer p, .bool b] w fun e w' => e = .returned (.tuple #[]) ∧ w' = w := by
  go_enter Try.func14, Try.ntmps14
  go_wp2_with (first
    | (go_at_call 22; refine HM.out.mono ?_; rintro e w2 ⟨rfl, hw2⟩; rw [hw2]; clear hw2)
    | fail "no arm")
  go_end0
  exact ⟨rfl, rfl⟩
theorem polV_drop {n : Nat} {ts : List Tk} {la : List Int} {hi b : Bool} : ∀ i, i < 50 → updP (polV n ts la hi) 49 (.bool b) i = polV n ts la b i := by
  refine polV_ext ?_ ?_ (fun j r hj hr => ?_)
  · rw [updP_ne _ _ (by omega)]; rfl
  · rw [updP_at]; rfl
  · rw [updP_ne _ _ (by omega), polV_k _ _ _ _ _ _ hj hr, polV_k _ _ _ _ _ _ hj hr]
set_option maxRecDepth 100000 in
set_option maxHeartbeats 4000000 in
theorem drop_yes (w : World) (H : Nat) (ts : List Tk) (la : List Int) (hi b : Bool) (h : PCells w H (polV ts.length ts la hi)) (HM : Hid (Calls Try.prog 22 #[.pointer (some ⟨H, 0, none⟩), .int .i64 0] w fun e w' => e = .returned (.bool true) ∧ w' = w)) :
    Calls Try.prog 14 #[.pointer (some ⟨H, 0, none⟩), .bool b] w fun e w' => e = .returned (.tuple #[]) ∧ PCells w' H (polV ts.length ts la b) ∧ But H w w' := by
  obtain ⟨b49, f49⟩ := h.at_ (i := 49) (by omega)
  have HF := Lib.hid (And.intro ((h.set (i := 49) (by omega) (.bool b)).congr polV_drop) ((But.refl H w).set 49 (.bool b)))
  clear h
  go_enter Try.func14, Try.ntmps14
  go_wp2_with (first
    | (go_at_call 22; refine HM.out.mono ?_; rintro e w2 ⟨rfl, hw2⟩; rw [hw2]; clear hw2)
    | fail "no arm")
  go_end0
  exact ⟨rfl, HF.out⟩
theorem dropok_any (w : World) (H : Nat) (S : Nat → Prop) (ts : List Tk) (la : List Int) (hi b : Bool) (h : PolAt H ts la hi w S) : Calls Try.prog 14 #[.pointer (some ⟨H, 0, none⟩), .bool b] w fun e w' => ∃ S', e = .returned (.tuple #[]) ∧ PolAt H ts la b w' S' ∧ GrowS S S' w w' := by
  obtain ⟨g, hc, hg⟩ := h.c
  have hs := h.s
  subst hs
  have hM := has_any w H (ts.length : Int) 0 (by rw [(hc.at_ (i := 48) (by omega)).1, polV_n])
  by_cases c : ts = []
  · rw [hasP_f (by rw [c]; simp)] at hM
    refine (drop_no w _ b (Lib.hid hM)).mono ?_
    rintro e w' ⟨rfl, rfl⟩
    exact ⟨_, rfl, ⟨⟨g, hc, .inl c⟩, h.n6, h.ok, h.la, rfl⟩, grow_pol (But.refl _ _)⟩
  · have : 0 < ts.length := List.length_pos_iff.2 c
    rw [hasP_t (by omega)] at hM
    refine (drop_yes w H ts la g b hc (Lib.hid hM)).mono ?_
    rintro e w' ⟨rfl, c', b'⟩
    exact ⟨_, rfl, ⟨⟨b, c', .inr rfl⟩, h.n6, h.ok, h.la, rfl⟩, grow_pol b'⟩
end Go.Proofs.Ytackgfjgephhoaa
