/- The program's ledger in memory; its small calls. -/
import Derived.Test.YtikjahdnffklhaaLedgC
import Derived.BigQuiet
import Derived.BigRegion
import Derived.Lib.SliceRun
namespace Go.Proofs.Ytikjahdnffklhaa
open Go.ChangeShapes Go.WideShapes Go.ChangeAt Go.RowKit
set_option linter.unusedVariables false

/-- A whole of which one thing is another one. -/
def updL (f : Nat → Int) (i : Nat) (e : Int) : Nat → Int := fun j => if j = i then e else f j
theorem updL_at (f : Nat → Int) (i : Nat) (e : Int) : updL f i e i = e := by simp [updL]
theorem updL_ne (f : Nat → Int) {i j : Nat} (e : Int) (h : j ≠ i) : updL f i e j = f j := by simp [updL, h]
/-- The cells of a ledger: made or not; the others are v's. -/
def LCells (w : World) (H : Nat) (m : Bool) (v : Nat → Int) : Prop := ∃ cur, w.heap[H]? = some (.cells cur 50 (0, 0)) ∧ cur.size = 57 ∧ cur[0]? = some (.bool m) ∧ ∀ i, i < 56 → cur[1 + i]? = some (.int .i64 (v (1 + i)))
section
variable {w w' : World} {H : Nat} {m : Bool} {v v' : Nat → Int}
theorem LCells.same (h : LCells w H m v) (hs : w'.heap[H]? = w.heap[H]?) : LCells w' H m v := by
  obtain ⟨cur, h1, h2⟩ := h
  exact ⟨cur, hs.trans h1, h2⟩
theorem LCells.lt (h : LCells w H m v) : H < w.heap.size := by obtain ⟨cur, h1, _⟩ := h; exact lt_of_block h1
theorem LCells.made (h : LCells w H m v) : w.cell? ⟨H, 0, none⟩ = some (.bool m) := by obtain ⟨cur, h1, _, h3, _⟩ := h; exact cell_in h1 h3
theorem LCells.at_ (h : LCells w H m v) {i : Nat} (h0 : 1 ≤ i) (h1 : i < 57) : w.cell? ⟨H, i, none⟩ = some (.int .i64 (v i)) ∧ w.frozen? ⟨H, i, none⟩ = false := by
  obtain ⟨cur, k1, _, _, k4⟩ := h
  have := k4 (i - 1) (by omega)
  rw [show 1 + (i - 1) = i by omega] at this
  exact ⟨cell_in k1 this, free_in k1 _⟩
theorem LCells.set (h : LCells w H m v) {i : Nat} (h0 : 1 ≤ i) (h1 : i < 57) (u : Int) : LCells (w.setCell ⟨H, i, none⟩ (.int .i64 u)) H m (updL v i u) := by
  obtain ⟨cur, k1, k2, k3, k4⟩ := h
  refine ⟨_, set_at k1, by simpa using k2, ?_, fun j hj => ?_⟩ <;> rw [Array.getElem?_setIfInBounds]
  · rw [if_neg (by omega)]; exact k3
  · by_cases e : 1 + j = i
    · subst e; rw [updL_at, if_pos rfl, if_pos (by omega)]
    · rw [updL_ne _ _ e, if_neg (by omega)]; exact k4 j hj
theorem LCells.congr (h : LCells w H m v) (hv : ∀ i, 1 ≤ i → i < 57 → v i = v' i) : LCells w H m v' := by
  obtain ⟨cur, k1, k2, k3, k4⟩ := h
  exact ⟨cur, k1, k2, k3, fun i hi => by rw [k4 i hi, hv _ (by omega) (by omega)]⟩
end
/-- What stands in the cells of a ledger of n partitions: L is what was charged. -/
def ledV (n : Int) (L : List Wn) (i : Nat) : Int :=
  if i = 1 then n else if i < 8 then (cntV L 0 ((i - 2 : Nat) : Int) (-2) : Nat) else if i < 14 then (cntV L 2 ((i - 8 : Nat) : Int) (-2) : Nat) else if i < 20 then (cntV L 3 ((i - 14 : Nat) : Int) (-2) : Nat)
  else if i < 56 then (cntV L 1 (((i - 20) / 6 : Nat) : Int) (((i - 20) % 6 : Nat) : Int) : Nat) else (L.length : Nat)
theorem ledV_n (n : Int) (L : List Wn) : ledV n L 1 = n := rfl
theorem ledV_own (n : Int) (L : List Wn) {p : Nat} (h : p < 6) : ledV n L (2 + p) = (cntV L 0 p (-2) : Nat) := by
  unfold ledV; rw [if_neg (by omega), if_pos (by omega), show 2 + p - 2 = p by omega]
theorem ledV_lost (n : Int) (L : List Wn) {p : Nat} (h : p < 6) : ledV n L (8 + p) = (cntV L 2 p (-2) : Nat) := by
  unfold ledV; rw [if_neg (by omega), if_neg (by omega), if_pos (by omega), show 8 + p - 8 = p by omega]
theorem ledV_margin (n : Int) (L : List Wn) {p : Nat} (h : p < 6) : ledV n L (14 + p) = (cntV L 3 p (-2) : Nat) := by
  unfold ledV; rw [if_neg (by omega), if_neg (by omega), if_neg (by omega), if_pos (by omega), show 14 + p - 14 = p by omega]
theorem ledV_gave (n : Int) (L : List Wn) {p q : Nat} (h : p < 6) (hq : q < 6) : ledV n L (20 + p * 6 + q) = (cntV L 1 p q : Nat) := by
  unfold ledV; rw [if_neg (by omega), if_neg (by omega), if_neg (by omega), if_neg (by omega), if_pos (by omega), show (20 + p * 6 + q - 20) / 6 = p by omega, show (20 + p * 6 + q - 20) % 6 = q by omega]
theorem ledV_total (n : Int) (L : List Wn) : ledV n L 56 = (L.length : Nat) := rfl
theorem ledV_le (n : Int) (L : List Wn) {i : Nat} (h : 2 ≤ i) : 0 ≤ ledV n L i ∧ ledV n L i ≤ (L.length : Nat) := by
  have := cntV_le L
  unfold ledV
  rw [if_neg (by omega)]
  split
  · have := this 0 ((i - 2 : Nat) : Int) (-2); omega
  split
  · have := this 2 ((i - 8 : Nat) : Int) (-2); omega
  split
  · have := this 3 ((i - 14 : Nat) : Int) (-2); omega
  split
  · have := this 1 (((i - 20) / 6 : Nat) : Int) (((i - 20) % 6 : Nat) : Int); omega
  · omega
/-- Is x counted in the i-th cell? -/
def hitL (x : Wn) (i : Nat) : Prop := (i < 8 ∧ x.at_ = 0 ∧ x.len = ((i - 2 : Nat) : Int)) ∨ (8 ≤ i ∧ i < 14 ∧ x.at_ = 2 ∧ x.len = ((i - 8 : Nat) : Int)) ∨ (14 ≤ i ∧ i < 20 ∧ x.at_ = 3 ∧ x.len = ((i - 14 : Nat) : Int)) ∨ (20 ≤ i ∧ x.at_ = 1 ∧ x.len = (((i - 20) / 6 : Nat) : Int) ∧ x.part = (((i - 20) % 6 : Nat) : Int))
instance (x : Wn) (i : Nat) : Decidable (hitL x i) := by unfold hitL; infer_instance
theorem cnt_hit {x : Wn} {L : List Wn} {k p q : Int} {P : Prop} [Decidable P] (h : cntB k p q x = true ↔ P) : ((cntV (L ++ [x]) k p q : Nat) : Int) = (cntV L k p q : Nat) + if P then 1 else 0 := by
  rw [cntV_snoc]
  by_cases c : P
  · rw [if_pos c, if_pos (h.2 c)]; rfl
  · rw [if_neg c, if_neg (fun e => c (h.1 e))]; rfl
theorem ledV_snoc (n : Int) (L : List Wn) (x : Wn) {i : Nat} (h : 2 ≤ i) (h2 : i < 56) : ledV n (L ++ [x]) i = ledV n L i + if hitL x i then 1 else 0 := by
  unfold ledV
  simp only [if_neg (show ¬ i = 1 by omega)]
  split
  · rename_i c
    exact cnt_hit (by have := cntB_p 0 (i - 2) x; rw [show ((0 : Nat) : Int) = 0 from rfl] at this; rw [this]; unfold hitL; omega)
  split
  · rename_i c
    exact cnt_hit (by have := cntB_p 2 (i - 8) x; rw [show ((2 : Nat) : Int) = 2 from rfl] at this; rw [this]; unfold hitL; omega)
  split
  · rename_i c
    exact cnt_hit (by have := cntB_p 3 (i - 14) x; rw [show ((3 : Nat) : Int) = 3 from rfl] at this; rw [this]; unfold hitL; omega)
  · rename_i c1 c2 c3
    exact cnt_hit (by rw [cntB_one]; unfold hitL; omega)
theorem ledV_hit {n : Int} {L : List Wn} {x : Wn} {s : Nat} (hs : ∀ i, 2 ≤ i → i < 56 → (hitL x i ↔ i = s)) : ∀ i, 1 ≤ i → i < 57 → updL (updL (ledV n L) 56 ((L.length : Nat) + 1)) s (ledV n L s + 1) i = ledV n (L ++ [x]) i ∨ s < 2 ∨ 55 < s := by
  intro i h1 h2
  by_cases hr : s < 2 ∨ 55 < s
  · exact .inr hr
  left
  by_cases e1 : i = 1
  · subst e1
    rw [updL_ne _ _ (by omega), updL_ne _ _ (by omega), ledV_n, ledV_n]
  by_cases e6 : i = 56
  · subst e6
    rw [updL_ne _ _ (by omega), updL_at, ledV_total, List.length_append]; rfl
  rw [ledV_snoc n L x (by omega) (by omega)]
  by_cases e : i = s
  · subst e
    rw [updL_at, if_pos ((hs i (by omega) (by omega)).2 rfl)]
  · rw [updL_ne _ _ e, updL_ne _ _ e6, if_neg (fun c => e ((hs i (by omega) (by omega)).1 c))]; omega
theorem ledV_gap {n : Int} {L : List Wn} : ∀ i, 1 ≤ i → i < 57 → updL (ledV n L) 56 ((L.length : Nat) + 1) i = ledV n (L ++ [⟨4, -1, -1⟩]) i := by
  intro i h1 h2
  by_cases e1 : i = 1
  · subst e1
    rw [updL_ne _ _ (by omega), ledV_n, ledV_n]
  by_cases e6 : i = 56
  · subst e6
    rw [updL_at, ledV_total, List.length_append]; rfl
  rw [ledV_snoc n L _ (by omega) (by omega), updL_ne _ _ e6, if_neg (by
    unfold hitL
    show ¬ ((_ ∧ (4 : Int) = 0 ∧ _) ∨ (_ ∧ _ ∧ (4 : Int) = 2 ∧ _) ∨ (_ ∧ _ ∧ (4 : Int) = 3 ∧ _) ∨ (_ ∧ (4 : Int) = 1 ∧ _))
    omega)]
  omega
theorem ledV_own1 {n : Int} {L : List Wn} {p : Nat} (h : p < 6) {i : Nat} (h1 : 1 ≤ i) (h2 : i < 57) : updL (updL (ledV n L) 56 ((L.length : Nat) + 1)) (2 + p) (ledV n L (2 + p) + 1) i = ledV n (L ++ [⟨0, p, -1⟩]) i :=
  (ledV_hit (x := ⟨0, p, -1⟩) (s := 2 + p) (fun i h1 h2 => by unfold hitL; show ((_ ∧ (0 : Int) = 0 ∧ (p : Int) = _) ∨ (_ ∧ _ ∧ (0 : Int) = 2 ∧ _) ∨ (_ ∧ _ ∧ (0 : Int) = 3 ∧ _) ∨ (_ ∧ (0 : Int) = 1 ∧ _)) ↔ _; omega) i h1 h2).resolve_right (by omega)
theorem ledV_lost1 {n : Int} {L : List Wn} {p : Nat} (h : p < 6) {i : Nat} (h1 : 1 ≤ i) (h2 : i < 57) : updL (updL (ledV n L) 56 ((L.length : Nat) + 1)) (8 + p) (ledV n L (8 + p) + 1) i = ledV n (L ++ [⟨2, p, -1⟩]) i :=
  (ledV_hit (x := ⟨2, p, -1⟩) (s := 8 + p) (fun i h1 h2 => by unfold hitL; show ((_ ∧ (2 : Int) = 0 ∧ _) ∨ (_ ∧ _ ∧ (2 : Int) = 2 ∧ (p : Int) = _) ∨ (_ ∧ _ ∧ (2 : Int) = 3 ∧ _) ∨ (_ ∧ (2 : Int) = 1 ∧ _)) ↔ _; omega) i h1 h2).resolve_right (by omega)
theorem ledV_margin1 {n : Int} {L : List Wn} {p : Nat} (h : p < 6) {i : Nat} (h1 : 1 ≤ i) (h2 : i < 57) : updL (updL (ledV n L) 56 ((L.length : Nat) + 1)) (14 + p) (ledV n L (14 + p) + 1) i = ledV n (L ++ [⟨3, p, -1⟩]) i :=
  (ledV_hit (x := ⟨3, p, -1⟩) (s := 14 + p) (fun i h1 h2 => by unfold hitL; show ((_ ∧ (3 : Int) = 0 ∧ _) ∨ (_ ∧ _ ∧ (3 : Int) = 2 ∧ _) ∨ (_ ∧ _ ∧ (3 : Int) = 3 ∧ (p : Int) = _) ∨ (_ ∧ (3 : Int) = 1 ∧ _)) ↔ _; omega) i h1 h2).resolve_right (by omega)
theorem ledV_gave1 {n : Int} {L : List Wn} {p q : Nat} (h : p < 6) (hq : q < 6) {i : Nat} (h1 : 1 ≤ i) (h2 : i < 57) : updL (updL (ledV n L) 56 ((L.length : Nat) + 1)) (20 + p * 6 + q) (ledV n L (20 + p * 6 + q) + 1) i = ledV n (L ++ [⟨1, p, q⟩]) i :=
  (ledV_hit (x := ⟨1, p, q⟩) (s := 20 + p * 6 + q) (fun i h1 h2 => by unfold hitL; show ((_ ∧ (1 : Int) = 0 ∧ _) ∨ (_ ∧ _ ∧ (1 : Int) = 2 ∧ _) ∨ (_ ∧ _ ∧ (1 : Int) = 3 ∧ _) ∨ (_ ∧ (1 : Int) = 1 ∧ (p : Int) = _ ∧ (q : Int) = _)) ↔ _; omega) i h1 h2).resolve_right (by omega)

/-- Is p one of n partitions? -/
def hasP (n p : Int) : Bool := decide (0 ≤ p ∧ p < n)
theorem hasP_t {n p : Int} (h : 0 ≤ p ∧ p < n) : hasP n p = true := decide_eq_true h
theorem hasP_f {n p : Int} (h : ¬ (0 ≤ p ∧ p < n)) : hasP n p = false := decide_eq_false h
set_option maxRecDepth 100000 in
set_option maxHeartbeats 4000000 in
theorem has_any {m : Bool} {v : Nat → Int} (w : World) (H : Nat) (n p : Int) (h : LCells w H m v) (hn : v 1 = n) : Calls Try.prog 21 #[.pointer (some ⟨H, 0, none⟩), .int .i64 p] w fun e w' => e = .returned (.bool (hasP n p)) ∧ w' = w := by
  have b1 : w.cell? ⟨H, 1, none⟩ = some (.int .i64 n) := by rw [(h.at_ (i := 1) (by omega) (by omega)).1, hn]
  clear h hn
  by_cases c0 : 0 ≤ p
  · have t0 : decide (0 ≤ p) = true := decide_eq_true c0
    by_cases c1 : p < n
    · have t1 : decide (p < n) = true := decide_eq_true c1
      rw [hasP_t ⟨c0, c1⟩]
      go_enter Try.func21, Try.ntmps21
      go_wp2
      go_ret
      exact ⟨rfl, rfl⟩
    · have t1 : decide (p < n) = false := decide_eq_false c1
      rw [hasP_f (fun e => c1 e.2)]
      go_enter Try.func21, Try.ntmps21
      go_wp2
      go_ret
      exact ⟨rfl, rfl⟩
  · have t0 : decide (0 ≤ p) = false := decide_eq_false c0
    rw [hasP_f (fun e => c0 e.1)]
    go_enter Try.func21, Try.ntmps21
    go_wp2
    go_ret
    exact ⟨rfl, rfl⟩
set_option maxRecDepth 100000 in
set_option maxHeartbeats 4000000 in
theorem has_nil (w : World) (p : Int) : Calls Try.prog 21 #[.pointer none, .int .i64 p] w fun e w' => e = .returned (.bool false) ∧ w' = w := by
  go_enter Try.func21, Try.ntmps21
  go_wp2
  go_ret
  exact ⟨rfl, rfl⟩
set_option maxRecDepth 100000 in
set_option maxHeartbeats 4000000 in
theorem total_any {m : Bool} {v : Nat → Int} (w : World) (H : Nat) (h : LCells w H m v) : Calls Try.prog 17 #[.pointer (some ⟨H, 0, none⟩)] w fun e w' => e = .returned (.int .i64 (v 56)) ∧ w' = w := by
  have b1 := (h.at_ (i := 56) (by omega) (by omega)).1
  obtain ⟨x, hx⟩ : ∃ x, x = v 56 := ⟨_, rfl⟩
  rw [← hx] at b1 ⊢
  clear h hx
  go_enter Try.func17, Try.ntmps17
  go_wp2
  go_ret
  exact ⟨rfl, rfl⟩
set_option maxRecDepth 100000 in
set_option maxHeartbeats 4000000 in
theorem total_nil (w : World) : Calls Try.prog 17 #[.pointer none] w fun e w' => e = .returned (.int .i64 0) ∧ w' = w := by
  go_enter Try.func17, Try.ntmps17
  go_wp2
  go_ret
  exact ⟨rfl, rfl⟩
/-- What Gave tells. -/
def gaveB (n : Int) (v : Nat → Int) (p q : Int) : Int := if hasP n p = true ∧ hasP n q = true then v (20 + p.toNat * 6 + q.toNat) else 0
set_option maxRecDepth 100000 in
set_option maxHeartbeats 4000000 in
theorem gave_any {m : Bool} {v : Nat → Int} (w : World) (H : Nat) (n p q : Int) (h : LCells w H m v) (hn : v 1 = n) (h6 : n ≤ 6) : Calls Try.prog 16 #[.pointer (some ⟨H, 0, none⟩), .int .i64 p, .int .i64 q] w fun e w' => e = .returned (.int .i64 (gaveB n v p q)) ∧ w' = w := by
  have A1 := Lib.hid (has_any w H n p h hn)
  have A2 := Lib.hid (has_any w H n q h hn)
  by_cases c1 : 0 ≤ p ∧ p < n
  · have e1 := Lib.hid (hasP_t c1)
    by_cases c2 : 0 ≤ q ∧ q < n
    · have e2 := Lib.hid (hasP_t c2)
      obtain ⟨x, rfl⟩ := Int.eq_ofNat_of_zero_le c1.1
      obtain ⟨y, rfl⟩ := Int.eq_ofNat_of_zero_le c2.1
      have b1 := (h.at_ (i := 20 + x * 6 + y) (by omega) (by omega)).1
      have d1 : (0 : Int) ≤ (x : Int) := by omega
      have d2 : (x : Int) < 6 := by omega
      have d3 : (0 : Int) ≤ (y : Int) := by omega
      have d4 : (y : Int) < 6 := by omega
      obtain ⟨g, hg⟩ : ∃ g, g = gaveB n v x y := ⟨_, rfl⟩
      have hg' : v (20 + x * 6 + y) = g := by rw [hg]; unfold gaveB; rw [if_pos ⟨e1.out, e2.out⟩]; rfl
      rw [← hg]
      rw [hg'] at b1
      clear h hn c1 c2 hg hg'
      go_enter Try.func16, Try.ntmps16
      go_wp2_with (first
        | (go_at_call 21; have _z := k1; refine A2.out.mono ?_; rintro e w2 ⟨rfl, hw2⟩; rw [hw2, e2.out]; clear hw2)
        | (go_at_call 21; refine A1.out.mono ?_; rintro e w2 ⟨rfl, hw2⟩; rw [hw2, e1.out]; clear hw2; have k1 := True.intro)
        | fail "no arm")
      go_ret
      exact ⟨rfl, rfl⟩
    · have e2 := Lib.hid (hasP_f c2)
      have e0 : gaveB n v p q = 0 := by unfold gaveB; rw [e2.out]; simp
      rw [e0]
      clear h hn c1 c2
      go_enter Try.func16, Try.ntmps16
      go_wp2_with (first
        | (go_at_call 21; have _z := k1; refine A2.out.mono ?_; rintro e w2 ⟨rfl, hw2⟩; rw [hw2, e2.out]; clear hw2)
        | (go_at_call 21; refine A1.out.mono ?_; rintro e w2 ⟨rfl, hw2⟩; rw [hw2, e1.out]; clear hw2; have k1 := True.intro)
        | fail "no arm")
      go_ret
      exact ⟨rfl, rfl⟩
  · have e1 := Lib.hid (hasP_f c1)
    have e0 : gaveB n v p q = 0 := by unfold gaveB; rw [e1.out]; simp
    rw [e0]
    clear h hn c1
    go_enter Try.func16, Try.ntmps16
    go_wp2_with (first
      | (go_at_call 21; refine A1.out.mono ?_; rintro e w2 ⟨rfl, hw2⟩; rw [hw2, e1.out]; clear hw2)
      | fail "no arm")
    go_ret
    exact ⟨rfl, rfl⟩
end Go.Proofs.Ytikjahdnffklhaa
