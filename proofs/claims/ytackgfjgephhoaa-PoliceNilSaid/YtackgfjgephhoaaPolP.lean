/- The program's police in memory; has, soon, Dropped, May. -/
import Derived.Test.YtackgfjgephhoaaLawSixteenC
import Derived.BigQuiet
import Derived.BigRegion
namespace Go.Proofs.Ytackgfjgephhoaa
open Go.ChangeShapes Go.WideShapes Go.ChangeAt Go.RowKit
set_option linter.unusedVariables false

/-- A whole of which one thing is another one. -/
def updP (v : Nat → Value) (i : Nat) (u : Value) : Nat → Value := fun j => if j = i then u else v j
theorem updP_at (v : Nat → Value) (i : Nat) (u : Value) : updP v i u i = u := by simp [updP]
theorem updP_ne (v : Nat → Value) {i j : Nat} (u : Value) (h : j ≠ i) : updP v i u j = v j := by simp [updP, h]
/-- The cells of a police, by a function. -/
def PCells (w : World) (H : Nat) (v : Nat → Value) : Prop := ∃ cur, w.heap[H]? = some (.cells cur 55 (0, 0)) ∧ cur.size = 50 ∧ ∀ i, i < 50 → cur[i]? = some (v i)
section
variable {w w' : World} {H : Nat} {v v' : Nat → Value}
theorem PCells.same (h : PCells w H v) (hs : w'.heap[H]? = w.heap[H]?) : PCells w' H v := by
  obtain ⟨cur, h1, h2⟩ := h
  exact ⟨cur, hs.trans h1, h2⟩
theorem PCells.drew (h : PCells w H v) : PCells w.drew H v := h
theorem PCells.lt (h : PCells w H v) : H < w.heap.size := by obtain ⟨cur, h1, _⟩ := h; exact lt_of_block h1
theorem PCells.at_ (h : PCells w H v) {i : Nat} (h1 : i < 50) : w.cell? ⟨H, i, none⟩ = some (v i) ∧ w.frozen? ⟨H, i, none⟩ = false := by
  obtain ⟨cur, k1, _, k4⟩ := h
  exact ⟨cell_in k1 (k4 i h1), free_in k1 _⟩
theorem PCells.set (h : PCells w H v) {i : Nat} (h1 : i < 50) (u : Value) : PCells (w.setCell ⟨H, i, none⟩ u) H (updP v i u) := by
  obtain ⟨cur, k1, k2, k4⟩ := h
  refine ⟨_, set_at k1, by simpa using k2, fun j hj => ?_⟩
  rw [Array.getElem?_setIfInBounds]
  by_cases e : j = i
  · subst e; rw [updP_at, if_pos rfl, if_pos (by omega)]
  · rw [updP_ne _ _ e, if_neg (by omega)]; exact k4 j hj
theorem PCells.congr (h : PCells w H v) (hv : ∀ i, i < 50 → v i = v' i) : PCells w H v' := by
  obtain ⟨cur, k1, k2, k4⟩ := h
  exact ⟨cur, k1, k2, fun i hi => by rw [k4 i hi, hv _ hi]⟩
end
/-- When one was accepted last, as it stands in a cell. -/
def lasI (la : List Int) (i : Nat) : Int := if 0 ≤ laAt la i then laAt la i else 0
/-- What stands in the cells of a police of n tasks. -/
def polV (n : Nat) (ts : List Tk) (la : List Int) (hi : Bool) (i : Nat) : Value :=
  if i = 48 then .int .i64 (n : Int) else if i = 49 then .bool hi else
  if i % 8 = 0 then .bool (tkAt ts (i / 8)).hi else if i % 8 = 1 then .int .i64 (tkAt ts (i / 8)).t else if i % 8 = 2 then .int .i64 (tkAt ts (i / 8)).d else if i % 8 = 3 then .int .i64 (tkAt ts (i / 8)).v else
  if i % 8 = 4 then .int .i64 (tkAt ts (i / 8)).lo else if i % 8 = 5 then .int .i64 (tkAt ts (i / 8)).top else if i % 8 = 6 then .bool (decide (0 ≤ laAt la (i / 8))) else .int .i64 (lasI la (i / 8))
section
variable (n : Nat) (ts : List Tk) (la : List Int) (hi : Bool)
theorem polV_n : polV n ts la hi 48 = .int .i64 (n : Int) := rfl
theorem polV_hi : polV n ts la hi 49 = .bool hi := rfl
theorem polV_k (k r : Nat) (hk : k < 6) (hr : r < 8) : polV n ts la hi (k * 8 + r) = if r = 0 then .bool (tkAt ts k).hi else if r = 1 then .int .i64 (tkAt ts k).t else if r = 2 then .int .i64 (tkAt ts k).d else if r = 3 then .int .i64 (tkAt ts k).v else if r = 4 then .int .i64 (tkAt ts k).lo else if r = 5 then .int .i64 (tkAt ts k).top else if r = 6 then .bool (decide (0 ≤ laAt la k)) else .int .i64 (lasI la k) := by
  unfold polV
  rw [if_neg (by omega), if_neg (by omega), show (k * 8 + r) % 8 = r by omega, show (k * 8 + r) / 8 = k by omega]
theorem polV_0 {k : Nat} (hk : k < 6) : polV n ts la hi (k * 8) = .bool (tkAt ts k).hi := polV_k n ts la hi k 0 hk (by omega)
theorem polV_1 {k : Nat} (hk : k < 6) : polV n ts la hi (k * 8 + 1) = .int .i64 (tkAt ts k).t := polV_k n ts la hi k 1 hk (by omega)
theorem polV_2 {k : Nat} (hk : k < 6) : polV n ts la hi (k * 8 + 2) = .int .i64 (tkAt ts k).d := polV_k n ts la hi k 2 hk (by omega)
theorem polV_3 {k : Nat} (hk : k < 6) : polV n ts la hi (k * 8 + 3) = .int .i64 (tkAt ts k).v := polV_k n ts la hi k 3 hk (by omega)
theorem polV_4 {k : Nat} (hk : k < 6) : polV n ts la hi (k * 8 + 4) = .int .i64 (tkAt ts k).lo := polV_k n ts la hi k 4 hk (by omega)
theorem polV_5 {k : Nat} (hk : k < 6) : polV n ts la hi (k * 8 + 5) = .int .i64 (tkAt ts k).top := polV_k n ts la hi k 5 hk (by omega)
theorem polV_6 {k : Nat} (hk : k < 6) : polV n ts la hi (k * 8 + 6) = .bool (decide (0 ≤ laAt la k)) := polV_k n ts la hi k 6 hk (by omega)
theorem polV_7 {k : Nat} (hk : k < 6) : polV n ts la hi (k * 8 + 7) = .int .i64 (lasI la k) := polV_k n ts la hi k 7 hk (by omega)
end
/-- Two such functions of cells are the same, if they are at each task's eight, and behind. -/
theorem polV_ext {v v' : Nat → Value} (h1 : v 48 = v' 48) (h2 : v 49 = v' 49) (h : ∀ k r, k < 6 → r < 8 → v (k * 8 + r) = v' (k * 8 + r)) : ∀ i, i < 50 → v i = v' i := by
  intro i hi
  by_cases e : i = 48
  · rw [e, h1]
  by_cases e2 : i = 49
  · rw [e2, h2]
  · have := h (i / 8) (i % 8) (by omega) (by omega)
    rwa [show i / 8 * 8 + i % 8 = i by omega] at this
theorem laAt_set {la : List Int} {i : Nat} {x : Int} (h : i < la.length) (j : Nat) : laAt (la.set i x) j = if j = i then x else laAt la j := by
  unfold laAt
  rw [List.getD_eq_getElem?_getD, List.getD_eq_getElem?_getD, List.getElem?_set]
  by_cases e : i = j
  · subst e; simp [h]
  · rw [if_neg e, if_neg (fun c => e c.symm)]
/-- A police: its block alone. -/
structure PolAt (H : Nat) (ts : List Tk) (la : List Int) (hi : Bool) (w : World) (S : Nat → Prop) : Prop where
  c : ∃ g, PCells w H (polV ts.length ts la g) ∧ (ts = [] ∨ g = hi)
  n6 : ts.length ≤ 6
  ok : ∀ x ∈ ts, okTk x = true
  la : LaOk ts la
  s : S = fun k => k = H
theorem grow_pol {w w' : World} {H : Nat} (h : But H w w') : GrowS (fun k => k = H) (fun k => k = H) w w' := ⟨h.os, h.tape, h.output, h.size, fun k hk hn => h.block k hk hn, fun k hk => .inl hk⟩

/-- Is p one of n tasks? -/
def hasP (n p : Int) : Bool := decide (0 ≤ p ∧ p < n)
theorem hasP_t {n p : Int} (h : 0 ≤ p ∧ p < n) : hasP n p = true := decide_eq_true h
theorem hasP_f {n p : Int} (h : ¬ (0 ≤ p ∧ p < n)) : hasP n p = false := decide_eq_false h
theorem hasP_in (ts : List Tk) (t : Int) : hasP (ts.length : Int) t = inT ts t := by
  unfold hasP inT
  by_cases h : 0 ≤ t <;> simp [h]
set_option maxRecDepth 100000 in
set_option maxHeartbeats 4000000 in
theorem has_any (w : World) (H : Nat) (n p : Int) (b1 : w.cell? ⟨H, 48, none⟩ = some (.int .i64 n)) : Calls Try.prog 22 #[.pointer (some ⟨H, 0, none⟩), .int .i64 p] w fun e w' => e = .returned (.bool (hasP n p)) ∧ w' = w := by
  by_cases c0 : 0 ≤ p
  · have t0 : decide (0 ≤ p) = true := decide_eq_true c0
    by_cases c1 : p < n
    · have t1 : decide (p < n) = true := decide_eq_true c1
      rw [hasP_t ⟨c0, c1⟩]
      go_enter Try.func22, Try.ntmps22
      go_wp2
      go_ret
      exact ⟨rfl, rfl⟩
    · have t1 : decide (p < n) = false := decide_eq_false c1
      rw [hasP_f (fun e => c1 e.2)]
      go_enter Try.func22, Try.ntmps22
      go_wp2
      go_ret
      exact ⟨rfl, rfl⟩
  · have t0 : decide (0 ≤ p) = false := decide_eq_false c0
    rw [hasP_f (fun e => c0 e.1)]
    go_enter Try.func22, Try.ntmps22
    go_wp2
    go_ret
    exact ⟨rfl, rfl⟩
set_option maxRecDepth 100000 in
set_option maxHeartbeats 4000000 in
theorem has_nil (w : World) (p : Int) : Calls Try.prog 22 #[.pointer none, .int .i64 p] w fun e w' => e = .returned (.bool false) ∧ w' = w := by
  go_enter Try.func22, Try.ntmps22
  go_wp2
  go_ret
  exact ⟨rfl, rfl⟩
theorem below_drewP {B : Nat} {a w : World} (n : Nat) (h : Below B a w) : Below B a (w.drewN n) := ⟨h.os, h.tape, h.output, h.size, h.block⟩
/-- Is now too soon? -/
def sooB (a : Bool) (l t now : Int) : Bool := a && decide (now - l < t)
set_option maxRecDepth 100000 in
set_option maxHeartbeats 4000000 in
theorem soon_any (w : World) (H o : Nat) (a : Bool) (l t now : Int) (b1 : w.cell? ⟨H, o + 1, none⟩ = some (.int .i64 t)) (b6 : w.cell? ⟨H, o + 6, none⟩ = some (.bool a)) (b7 : w.cell? ⟨H, o + 7, none⟩ = some (.int .i64 l)) (h0 : 0 ≤ l ∧ l ≤ 4611686018427387904) (h1 : 0 ≤ now ∧ now ≤ 4611686018427387904) :
    Calls Try.prog 23 #[.pointer (some ⟨H, o, none⟩), .int .i64 now] w fun e w' => e = .returned (.bool (sooB a l t now)) ∧ Below w.heap.size w w' := by
  have e1 : IntKind.i64.wrap (now - l) = now - l := IntWalk.i64_in _ (by omega)
  have e2 : wrap64 (now - l) = now - l := IntWalk.wrap64_in _ (by omega)
  clear h0 h1
  cases a with
  | false =>
    rw [show sooB false l t now = false from rfl]
    go_enter Try.func23, Try.ntmps23
    go_wp2_with fail
    go_quiet (fail)
    go_wp2_with fail
    go_ret
    exact ⟨rfl, by repeat first | exact Below.refl _ _ | refine below_drewP _ ?_⟩
  | true =>
    by_cases c : now - l < t
    · have t1 : decide (now - l < t) = true := decide_eq_true c
      rw [show sooB true l t now = true by unfold sooB; rw [t1]; rfl]
      go_enter Try.func23, Try.ntmps23
      go_wp2_with fail
      go_quiet (fail)
      go_wp2_with fail
      go_ret
      exact ⟨rfl, by repeat first | exact Below.refl _ _ | refine below_drewP _ ?_⟩
    · have t1 : decide (now - l < t) = false := decide_eq_false c
      rw [show sooB true l t now = false by unfold sooB; rw [t1]; rfl]
      go_enter Try.func23, Try.ntmps23
      go_wp2_with fail
      go_quiet (fail)
      go_wp2_with fail
      go_ret
      exact ⟨rfl, by repeat first | exact Below.refl _ _ | refine below_drewP _ ?_⟩
set_option maxRecDepth 100000 in
set_option maxHeartbeats 4000000 in
theorem dropped_no (w : World) (p : Option Addr) (t : Int) (HM : Hid (Calls Try.prog 22 #[.pointer p, .int .i64 t] w fun e w' => e = .returned (.bool false) ∧ w' = w)) : Calls Try.prog 16 #[.pointer p, .int .i64 t] w fun e w' => e = .returned (.bool false) ∧ w' = w := by
  go_enter Try.func16, Try.ntmps16
  go_wp2_with (first
    | (go_at_call 22; refine HM.out.mono ?_; rintro e w2 ⟨rfl, hw2⟩; rw [hw2]; clear hw2)
    | fail "no arm")
  go_ret
  exact ⟨rfl, rfl⟩
set_option maxRecDepth 100000 in
set_option maxHeartbeats 4000000 in
theorem dropped_any (w : World) (H : Nat) (ts : List Tk) (la : List Int) (hi : Bool) (t : Int) (h : PCells w H (polV ts.length ts la hi)) (h6 : ts.length ≤ 6) : Calls Try.prog 16 #[.pointer (some ⟨H, 0, none⟩), .int .i64 t] w fun e w' => e = .returned (.bool (dropV ts hi t)) ∧ w' = w := by
  have hM := has_any w H (ts.length : Int) t (by rw [(h.at_ (i := 48) (by omega)).1, polV_n])
  rw [hasP_in] at hM
  cases ci : inT ts t with
  | false =>
    rw [ci] at hM
    rw [show dropV ts hi t = false by unfold dropV; rw [ci]; rfl]
    exact dropped_no w _ t (Lib.hid hM)
  | true =>
    rw [ci] at hM
    obtain ⟨k, rfl, hk⟩ := inT_nat ci
    have HM := Lib.hid hM
    have b49 := (h.at_ (i := 49) (by omega)).1
    rw [polV_hi] at b49
    have b0 := (h.at_ (i := k * 8) (by omega)).1
    rw [polV_0 _ _ _ _ (by omega)] at b0
    rw [dropV_nat hk]
    obtain ⟨g, hg⟩ : ∃ g, g = (tkAt ts k).hi := ⟨_, rfl⟩
    rw [← hg] at b0 ⊢
    have m0 : (0 : Int) ≤ (k : Int) := by omega
    have m1 : (k : Int) < 6 := by omega
    clear h h6 hM ci hk hg
    cases hi <;> cases g
    all_goals
      (go_enter Try.func16, Try.ntmps16
       go_wp2_with (first
         | (go_at_call 22; refine HM.out.mono ?_; rintro e w2 ⟨rfl, hw2⟩; rw [hw2]; clear hw2)
         | fail "no arm")
       go_ret
       exact ⟨rfl, rfl⟩)
set_option maxRecDepth 100000 in
set_option maxHeartbeats 4000000 in
theorem may_no (w : World) (p : Option Addr) (t now : Int) (HM : Hid (Calls Try.prog 22 #[.pointer p, .int .i64 t] w fun e w' => e = .returned (.bool false) ∧ w' = w)) : Calls Try.prog 12 #[.pointer p, .int .i64 t, .int .i64 now] w fun e w' => e = .returned (.int .i64 1) ∧ w' = w := by
  go_enter Try.func12, Try.ntmps12
  go_wp2_with (first
    | (go_at_call 22; refine HM.out.mono ?_; rintro e w2 ⟨rfl, hw2⟩; rw [hw2]; clear hw2)
    | fail "no arm")
  go_ret
  exact ⟨rfl, rfl⟩
set_option maxRecDepth 100000 in
set_option maxHeartbeats 4000000 in
theorem may_any (w : World) (H : Nat) (ts : List Tk) (la : List Int) (hi : Bool) (t now : Int) (h : PCells w H (polV ts.length ts la hi)) (h6 : ts.length ≤ 6) (hla : LaOk ts la) : Calls Try.prog 12 #[.pointer (some ⟨H, 0, none⟩), .int .i64 t, .int .i64 now] w fun e w' => e = .returned (.int .i64 (errP ts la hi t now)) ∧ Below w.heap.size w w' := by
  have hM := has_any w H (ts.length : Int) t (by rw [(h.at_ (i := 48) (by omega)).1, polV_n])
  rw [hasP_in] at hM
  cases ci : inT ts t with
  | false =>
    rw [ci] at hM
    rw [errP_arg (.inl ci)]
    exact (may_no w _ t now (Lib.hid hM)).mono (by rintro e w' ⟨rfl, rfl⟩; exact ⟨rfl, Below.refl _ _⟩)
  | true =>
    rw [ci] at hM
    have HM := Lib.hid hM
    by_cases n0 : now < 0
    · have t0 : decide (now < 0) = true := decide_eq_true n0
      rw [errP_arg (.inr (by unfold nowOk; rw [decide_eq_false (by omega)]; rfl))]
      clear h h6 hla hM ci
      go_enter Try.func12, Try.ntmps12
      go_wp2_with (first
        | (go_at_call 22; refine HM.out.mono ?_; rintro e w2 ⟨rfl, hw2⟩; rw [hw2]; clear hw2)
        | fail "no arm")
      go_ret
      exact ⟨rfl, Below.refl _ _⟩
    have t0 : decide (now < 0) = false := decide_eq_false n0
    by_cases n1 : 4611686018427387904 < now
    · have t1 : decide (4611686018427387904 < now) = true := decide_eq_true n1
      rw [errP_arg (.inr (by unfold nowOk; rw [decide_eq_false (p := now ≤ _) (by omega)]; simp))]
      clear h h6 hla hM ci
      go_enter Try.func12, Try.ntmps12
      go_wp2_with (first
        | (go_at_call 22; refine HM.out.mono ?_; rintro e w2 ⟨rfl, hw2⟩; rw [hw2]; clear hw2)
        | fail "no arm")
      go_ret
      exact ⟨rfl, Below.refl _ _⟩
    have t1 : decide (4611686018427387904 < now) = false := decide_eq_false n1
    have hno : nowOk now = true := by unfold nowOk; rw [decide_eq_true (by omega), decide_eq_true (by omega)]; rfl
    have HD := Lib.hid (dropped_any w H ts la hi t h h6)
    cases cd : dropV ts hi t with
    | true =>
      have CD := Lib.hid cd
      rw [errP_drop ci hno cd]
      clear h h6 hla hM ci hno cd
      go_enter Try.func12, Try.ntmps12
      go_wp2_with (first
        | (go_at_call 16; refine HD.out.mono ?_; rintro e w2 ⟨rfl, hw2⟩; rw [hw2, CD.out]; clear hw2)
        | (go_at_call 22; refine HM.out.mono ?_; rintro e w2 ⟨rfl, hw2⟩; rw [hw2]; clear hw2)
        | fail "no arm")
      go_ret
      exact ⟨rfl, Below.refl _ _⟩
    | false =>
      obtain ⟨k, rfl, hk⟩ := inT_nat ci
      have CD := Lib.hid cd
      have m0 : (0 : Int) ≤ (k : Int) := by omega
      have m1 : (k : Int) < 6 := by omega
      have hbd := hla.at_ k
      have b1 := (h.at_ (i := k * 8 + 1) (by omega)).1
      have b6 := (h.at_ (i := k * 8 + 6) (by omega)).1
      have b7 := (h.at_ (i := k * 8 + 7) (by omega)).1
      rw [polV_1 _ _ _ _ (by omega)] at b1
      rw [polV_6 _ _ _ _ (by omega)] at b6
      rw [polV_7 _ _ _ _ (by omega)] at b7
      have hS := soon_any w H (k * 8) _ _ _ now b1 b6 b7 (by unfold lasI; split <;> omega) (by omega)
      cases cs : sooB (decide (0 ≤ laAt la k)) (lasI la k) (tkAt ts k).t now with
      | true =>
        rw [cs] at hS
        have HS := Lib.hid hS
        have hx : errP ts la hi k now = 40 := by
          unfold sooB at cs
          rw [Bool.and_eq_true, decide_eq_true_eq, decide_eq_true_eq] at cs
          obtain ⟨c1, c2⟩ := cs
          unfold lasI at c2
          rw [if_pos c1] at c2
          exact errP_soon hk hno cd c1 c2
        rw [hx]
        clear h h6 hla hM ci hno cd cs hS b1 b6 b7 hx hbd
        go_enter Try.func12, Try.ntmps12
        go_wp2_with (first
          | (go_at_call 23; refine HS.out.mono ?_; rintro e w2 ⟨rfl, hb2'⟩; have hb2 := Lib.hid hb2'; clear hb2')
          | (go_at_call 16; refine HD.out.mono ?_; rintro e w2 ⟨rfl, hw2⟩; rw [hw2, CD.out]; clear hw2)
          | (go_at_call 22; refine HM.out.mono ?_; rintro e w2 ⟨rfl, hw2⟩; rw [hw2]; clear hw2)
          | fail "no arm")
        go_ret
        exact ⟨rfl, hb2.out⟩
      | false =>
        rw [cs] at hS
        have HS := Lib.hid hS
        have hx : errP ts la hi k now = 0 := by
          refine errP_ok hk hno cd (fun c1 c2 => ?_)
          unfold sooB lasI at cs
          rw [if_pos c1, decide_eq_true c1, decide_eq_true c2] at cs
          cases cs
        rw [hx]
        clear h h6 hla hM ci hno cd cs hS b1 b6 b7 hx hbd
        go_enter Try.func12, Try.ntmps12
        go_wp2_with (first
          | (go_at_call 23; refine HS.out.mono ?_; rintro e w2 ⟨rfl, hb2'⟩; have hb2 := Lib.hid hb2'; clear hb2')
          | (go_at_call 16; refine HD.out.mono ?_; rintro e w2 ⟨rfl, hw2⟩; rw [hw2, CD.out]; clear hw2)
          | (go_at_call 22; refine HM.out.mono ?_; rintro e w2 ⟨rfl, hw2⟩; rw [hw2]; clear hw2)
          | fail "no arm")
        go_ret
        exact ⟨rfl, hb2.out⟩
end Go.Proofs.Ytackgfjgephhoaa
