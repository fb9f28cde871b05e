/- Joined of PolP, PolQ, PolY, PolZ: The program's police in memory; has, soon, Dropped, May. -/
import Derived.Test.YtchbehnkkcjdgaaGreatLawSixteenC
import Derived.BigQuiet
import Derived.BigRegion
import Derived.Test.YtchbehnkkcjdgaaGreatBuild
import Derived.Lib.SliceRun
import Derived.Deep.CutRange
import Derived.Deep.CutBlock
namespace Go.Proofs.YtchbehnkkcjdgaaGreat
open Go.ChangeShapes Go.WideShapes Go.ChangeAt Go.RowKit
set_option linter.unusedVariables false
/-- A whole of which one thing is another one. -/
def updP (v : Nat → Value) (i : Nat) (u : Value) : Nat → Value := fun j => if j = i then u else v j
theorem updP_at (v : Nat → Value) (i : Nat) (u : Value) : updP v i u i = u := by simp [updP]
theorem updP_ne (v : Nat → Value) {i j : Nat} (u : Value) (h : j ≠ i) : updP v i u j = v j := by simp [updP, h]
/-- The cells of a police, by a function. -/
def PCells (w : World) (H : Nat) (v : Nat → Value) : Prop := ∃ cur, w.heap[H]? = some (.cells cur 218 (0, 0)) ∧ cur.size = 50 ∧ ∀ i, i < 50 → cur[i]? = some (v i)
section
variable {w w' : World} {H : Nat} {v v' : Nat → Value}
theorem PCells.same (h : PCells w H v) (hs : w'.heap[H]? = w.heap[H]?) : PCells w' H v := by
 obtain ⟨cur, h1, h2⟩ := h
 exact ⟨cur, hs.trans h1, h2⟩
theorem PCells.drew (h : PCells w H v) : PCells w.drew H v := h
theorem PCells.lt (h : PCells w H v) : H < w.heap.size := by obtain ⟨cur, h1, _⟩ := h; exact lt_of_block h1
theorem PCells.at_ (h : PCells w H v) {i : Nat} (h1 : i < 50) : w.cell? ⟨H, i, none⟩ = some (v i) ∧ w.frozen? ⟨H, i, none⟩ = false := by
 obtain ⟨cur, k1, _, k4⟩ := h
 exact ⟨cell_in k1 (k4 i h1), free_in k1 _⟩
theorem PCells.set (h : PCells w H v) {i : Nat} (h1 : i < 50) (u : Value) : PCells (w.setCell ⟨H, i, none⟩ u) H (updP v i u) := by
 obtain ⟨cur, k1, k2, k4⟩ := h
 refine ⟨_, set_at k1, by simpa using k2, fun j hj => ?_⟩
 rw [Array.getElem?_setIfInBounds]
 by_cases e : j = i
 ·subst e; rw [updP_at, if_pos rfl, if_pos (by omega)]
 ·rw [updP_ne _ _ e, if_neg (by omega)]; exact k4 j hj
theorem PCells.congr (h : PCells w H v) (hv : ∀ i, i < 50 → v i = v' i) : PCells w H v' := by
 obtain ⟨cur, k1, k2, k4⟩ := h
 exact ⟨cur, k1, k2, fun i hi => by rw [k4 i hi, hv _ hi]⟩
end
/-- When one was accepted last, as it stands in a cell. -/
def lasI (la : List Int) (i : Nat) : Int := if 0 ≤ laAt la i then laAt la i else 0
/-- What stands in the cells of a police of n tasks. -/
def polV (n : Nat) (ts : List Tk) (la : List Int) (hi : Bool) (i : Nat) : Value :=
 if i = 48 then .int .i64 (n : Int) else if i = 49 then .bool hi else
 if i % 8 = 0 then .bool (tkAt ts (i / 8)).hi else if i % 8 = 1 then .int .i64 (tkAt ts (i / 8)).t else if i % 8 = 2 then .int .i64 (tkAt ts (i / 8)).d else if i % 8 = 3 then .int .i64 (tkAt ts (i / 8)).v else
 if i % 8 = 4 then .int .i64 (tkAt ts (i / 8)).lo else if i % 8 = 5 then .int .i64 (tkAt ts (i / 8)).top else if i % 8 = 6 then .bool (decide (0 ≤ laAt la (i / 8))) else .int .i64 (lasI la (i / 8))
section
variable (n : Nat) (ts : List Tk) (la : List Int) (hi : Bool)
theorem polV_n : polV n ts la hi 48 = .int .i64 (n : Int) := rfl
theorem polV_hi : polV n ts la hi 49 = .bool hi := rfl
theorem polV_k (k r : Nat) (hk : k < 6) (hr : r < 8) : polV n ts la hi (k * 8 + r) = if r = 0 then .bool (tkAt ts k).hi else if r = 1 then .int .i64 (tkAt ts k).t else if r = 2 then .int .i64 (tkAt ts k).d else if r = 3 then .int .i64 (tkAt ts k).v else if r = 4 then .int .i64 (tkAt ts k).lo else if r = 5 then .int .i64 (tkAt ts k).top else if r = 6 then .bool (decide (0 ≤ laAt la k)) else .int .i64 (lasI la k) := by
 unfold polV
 rw [if_neg (by omega), if_neg (by omega), show (k * 8 + r) % 8 = r by omega, show (k * 8 + r) / 8 = k by omega]
theorem polV_0 {k : Nat} (hk : k < 6) : polV n ts la hi (k * 8) = .bool (tkAt ts k).hi := polV_k n ts la hi k 0 hk (by omega)
theorem polV_1 {k : Nat} (hk : k < 6) : polV n ts la hi (k * 8 + 1) = .int .i64 (tkAt ts k).t := polV_k n ts la hi k 1 hk (by omega)
theorem polV_6 {k : Nat} (hk : k < 6) : polV n ts la hi (k * 8 + 6) = .bool (decide (0 ≤ laAt la k)) := polV_k n ts la hi k 6 hk (by omega)
theorem polV_7 {k : Nat} (hk : k < 6) : polV n ts la hi (k * 8 + 7) = .int .i64 (lasI la k) := polV_k n ts la hi k 7 hk (by omega)
end
/-- Two such functions of cells are the same, if they are at each task's eight, and behind. -/
theorem polV_ext {v v' : Nat → Value} (h1 : v 48 = v' 48) (h2 : v 49 = v' 49) (h : ∀ k r, k < 6 → r < 8 → v (k * 8 + r) = v' (k * 8 + r)) : ∀ i, i < 50 → v i = v' i := by
 intro i hi
 by_cases e : i = 48
 ·rw [e, h1]
 by_cases e2 : i = 49
 ·rw [e2, h2]
 ·have := h (i / 8) (i % 8) (by omega) (by omega)
  rwa [show i / 8 * 8 + i % 8 = i by omega] at this
theorem laAt_set {la : List Int} {i : Nat} {x : Int} (h : i < la.length) (j : Nat) : laAt (la.set i x) j = if j = i then x else laAt la j := by
 unfold laAt
 rw [List.getD_eq_getElem?_getD, List.getD_eq_getElem?_getD, List.getElem?_set]
 by_cases e : i = j
 ·subst e; simp [h]
 ·rw [if_neg e, if_neg (fun c => e c.symm)]
/-- A police: its block alone. -/
structure PolAt (H : Nat) (ts : List Tk) (la : List Int) (hi : Bool) (w : World) (S : Nat → Prop) : Prop where
 c : ∃ g, PCells w H (polV ts.length ts la g) ∧ (ts = [] ∨ g = hi)
 n6 : ts.length ≤ 6
 ok : ∀ x ∈ ts, okTk x = true
 la : LaOk ts la
 s : S = fun k => k = H
theorem grow_pol {w w' : World} {H : Nat} (h : But H w w') : GrowS (fun k => k = H) (fun k => k = H) w w' := ⟨h.os, h.tape, h.output, h.size, fun k hk hn => h.block k hk hn, fun k hk => .inl hk⟩
/-- Is p one of n tasks? -/
def hasP (n p : Int) : Bool := decide (0 ≤ p ∧ p < n)
theorem hasP_t {n p : Int} (h : 0 ≤ p ∧ p < n) : hasP n p = true := decide_eq_true h
theorem hasP_f {n p : Int} (h : ¬ (0 ≤ p ∧ p < n)) : hasP n p = false := decide_eq_false h
theorem hasP_in (ts : List Tk) (t : Int) : hasP (ts.length : Int) t = inT ts t := by
 unfold hasP inT
 by_cases h : 0 ≤ t <;> simp [h]
set_option maxRecDepth 100000 in
set_option maxHeartbeats 4000000 in
theorem has_any (w : World) (H : Nat) (n p : Int) (b1 : w.cell? ⟨H, 48, none⟩ = some (.int .i64 n)) : Calls Tryz.prog 156 #[.pointer (some ⟨H, 0, none⟩), .int .i64 p] w fun e w' => e = .returned (.bool (hasP n p)) ∧ w' = w := by
 by_cases c0 : 0 ≤ p
 ·have t0 : decide (0 ≤ p) = true := decide_eq_true c0
  by_cases c1 : p < n
  ·have t1 : decide (p < n) = true := decide_eq_true c1
   rw [hasP_t ⟨c0, c1⟩]
   go_enter Tryz.func156, Tryz.ntmps156
   go_wp2
   go_ret
   exact ⟨rfl, rfl⟩
  ·have t1 : decide (p < n) = false := decide_eq_false c1
   rw [hasP_f (fun e => c1 e.2)]
   go_enter Tryz.func156, Tryz.ntmps156
   go_wp2
   go_ret
   exact ⟨rfl, rfl⟩
 ·have t0 : decide (0 ≤ p) = false := decide_eq_false c0
  rw [hasP_f (fun e => c0 e.1)]
  go_enter Tryz.func156, Tryz.ntmps156
  go_wp2
  go_ret
  exact ⟨rfl, rfl⟩
theorem below_drewP {B : Nat} {a w : World} (n : Nat) (h : Below B a w) : Below B a (w.drewN n) := ⟨h.os, h.tape, h.output, h.size, h.block⟩
/-- Is now too soon? -/
def sooB (a : Bool) (l t now : Int) : Bool := a && decide (now - l < t)
set_option maxRecDepth 100000 in
set_option maxHeartbeats 4000000 in
theorem soon_any (w : World) (H o : Nat) (a : Bool) (l t now : Int) (b1 : w.cell? ⟨H, o + 1, none⟩ = some (.int .i64 t)) (b6 : w.cell? ⟨H, o + 6, none⟩ = some (.bool a)) (b7 : w.cell? ⟨H, o + 7, none⟩ = some (.int .i64 l)) (h0 : 0 ≤ l ∧ l ≤ 4611686018427387904) (h1 : 0 ≤ now ∧ now ≤ 4611686018427387904) :
 Calls Tryz.prog 158 #[.pointer (some ⟨H, o, none⟩), .int .i64 now] w fun e w' => e = .returned (.bool (sooB a l t now)) ∧ Below w.heap.size w w' := by
 have e1 : IntKind.i64.wrap (now - l) = now - l := IntWalk.i64_in _ (by omega)
 have e2 : wrap64 (now - l) = now - l := IntWalk.wrap64_in _ (by omega)
 clear h0 h1
 cases a with
 | false =>
   rw [show sooB false l t now = false from rfl]
   go_enter Tryz.func158, Tryz.ntmps158
   go_wp2_with fail
   go_quiet (fail)
   go_wp2_with fail
   go_ret
   exact ⟨rfl, by repeat first | exact Below.refl _ _ | refine below_drewP _ ?_⟩
 | true =>
   by_cases c : now - l < t
   ·have t1 : decide (now - l < t) = true := decide_eq_true c
    rw [show sooB true l t now = true by unfold sooB; rw [t1]; rfl]
    go_enter Tryz.func158, Tryz.ntmps158
    go_wp2_with fail
    go_quiet (fail)
    go_wp2_with fail
    go_ret
    exact ⟨rfl, by repeat first | exact Below.refl _ _ | refine below_drewP _ ?_⟩
   ·have t1 : decide (now - l < t) = false := decide_eq_false c
    rw [show sooB true l t now = false by unfold sooB; rw [t1]; rfl]
    go_enter Tryz.func158, Tryz.ntmps158
    go_wp2_with fail
    go_quiet (fail)
    go_wp2_with fail
    go_ret
    exact ⟨rfl, by repeat first | exact Below.refl _ _ | refine below_drewP _ ?_⟩
set_option maxRecDepth 100000 in
set_option maxHeartbeats 4000000 in
theorem dropped_no (w : World) (p : Option Addr) (t : Int) (HM : Hid (Calls Tryz.prog 156 #[.pointer p, .int .i64 t] w fun e w' => e = .returned (.bool false) ∧ w' = w)) : Calls Tryz.prog 157 #[.pointer p, .int .i64 t] w fun e w' => e = .returned (.bool false) ∧ w' = w := by
 go_enter Tryz.func157, Tryz.ntmps157
 go_wp2_with (first
  | (go_at_call 156; refine HM.out.mono ?_; rintro e w2 ⟨rfl, hw2⟩; rw [hw2]; clear hw2)
  | fail "no arm")
 go_ret
 exact ⟨rfl, rfl⟩
set_option maxRecDepth 100000 in
set_option maxHeartbeats 4000000 in
theorem dropped_any (w : World) (H : Nat) (ts : List Tk) (la : List Int) (hi : Bool) (t : Int) (h : PCells w H (polV ts.length ts la hi)) (h6 : ts.length ≤ 6) : Calls Tryz.prog 157 #[.pointer (some ⟨H, 0, none⟩), .int .i64 t] w fun e w' => e = .returned (.bool (dropV ts hi t)) ∧ w' = w := by
 have hM := has_any w H (ts.length : Int) t (by rw [(h.at_ (i := 48) (by omega)).1, polV_n])
 rw [hasP_in] at hM
 cases ci : inT ts t with
 | false =>
   rw [ci] at hM
   rw [show dropV ts hi t = false by unfold dropV; rw [ci]; rfl]
   exact dropped_no w _ t (Lib.hid hM)
 | true =>
   rw [ci] at hM
   obtain ⟨k, rfl, hk⟩ := inT_nat ci
   have HM := Lib.hid hM
   have b49 := (h.at_ (i := 49) (by omega)).1
   rw [polV_hi] at b49
   have b0 := (h.at_ (i := k * 8) (by omega)).1
   rw [polV_0 _ _ _ _ (by omega)] at b0
   rw [dropV_nat hk]
   obtain ⟨g, hg⟩ : ∃ g, g = (tkAt ts k).hi := ⟨_, rfl⟩
   rw [← hg] at b0 ⊢
   have m0 : (0 : Int) ≤ (k : Int) := by omega
   have m1 : (k : Int) < 6 := by omega
   clear h h6 hM ci hk hg
   cases hi <;> cases g
   all_goals
    (go_enter Tryz.func157, Tryz.ntmps157
     go_wp2_with (first
      | (go_at_call 156; refine HM.out.mono ?_; rintro e w2 ⟨rfl, hw2⟩; rw [hw2]; clear hw2)
      | fail "no arm")
     go_ret
     exact ⟨rfl, rfl⟩)
set_option maxRecDepth 100000 in
set_option maxHeartbeats 4000000 in
theorem may_no (w : World) (p : Option Addr) (t now : Int) (HM : Hid (Calls Tryz.prog 156 #[.pointer p, .int .i64 t] w fun e w' => e = .returned (.bool false) ∧ w' = w)) : Calls Tryz.prog 114 #[.pointer p, .int .i64 t, .int .i64 now] w fun e w' => e = .returned (.int .i64 1) ∧ w' = w := by
 go_enter Tryz.func114, Tryz.ntmps114
 go_wp2_with (first
  | (go_at_call 156; refine HM.out.mono ?_; rintro e w2 ⟨rfl, hw2⟩; rw [hw2]; clear hw2)
  | fail "no arm")
 go_ret
 exact ⟨rfl, rfl⟩
set_option maxRecDepth 100000 in
set_option maxHeartbeats 4000000 in
theorem may_any (w : World) (H : Nat) (ts : List Tk) (la : List Int) (hi : Bool) (t now : Int) (h : PCells w H (polV ts.length ts la hi)) (h6 : ts.length ≤ 6) (hla : LaOk ts la) : Calls Tryz.prog 114 #[.pointer (some ⟨H, 0, none⟩), .int .i64 t, .int .i64 now] w fun e w' => e = .returned (.int .i64 (errP ts la hi t now)) ∧ Below w.heap.size w w' := by
 have hM := has_any w H (ts.length : Int) t (by rw [(h.at_ (i := 48) (by omega)).1, polV_n])
 rw [hasP_in] at hM
 cases ci : inT ts t with
 | false =>
   rw [ci] at hM
   rw [errP_arg (.inl ci)]
   exact (may_no w _ t now (Lib.hid hM)).mono (by rintro e w' ⟨rfl, rfl⟩; exact ⟨rfl, Below.refl _ _⟩)
 | true =>
   rw [ci] at hM
   have HM := Lib.hid hM
   by_cases n0 : now < 0
   ·have t0 : decide (now < 0) = true := decide_eq_true n0
    rw [errP_arg (.inr (by unfold nowOk; rw [decide_eq_false (by omega)]; rfl))]
    clear h h6 hla hM ci
    go_enter Tryz.func114, Tryz.ntmps114
    go_wp2_with (first
     | (go_at_call 156; refine HM.out.mono ?_; rintro e w2 ⟨rfl, hw2⟩; rw [hw2]; clear hw2)
     | fail "no arm")
    go_ret
    exact ⟨rfl, Below.refl _ _⟩
   have t0 : decide (now < 0) = false := decide_eq_false n0
   by_cases n1 : 4611686018427387904 < now
   ·have t1 : decide (4611686018427387904 < now) = true := decide_eq_true n1
    rw [errP_arg (.inr (by unfold nowOk; rw [decide_eq_false (p := now ≤ _) (by omega)]; simp))]
    clear h h6 hla hM ci
    go_enter Tryz.func114, Tryz.ntmps114
    go_wp2_with (first
     | (go_at_call 156; refine HM.out.mono ?_; rintro e w2 ⟨rfl, hw2⟩; rw [hw2]; clear hw2)
     | fail "no arm")
    go_ret
    exact ⟨rfl, Below.refl _ _⟩
   have t1 : decide (4611686018427387904 < now) = false := decide_eq_false n1
   have hno : nowOk now = true := by unfold nowOk; rw [decide_eq_true (by omega), decide_eq_true (by omega)]; rfl
   have HD := Lib.hid (dropped_any w H ts la hi t h h6)
   cases cd : dropV ts hi t with
   | true =>
     have CD := Lib.hid cd
     rw [errP_drop ci hno cd]
     clear h h6 hla hM ci hno cd
     go_enter Tryz.func114, Tryz.ntmps114
     go_wp2_with (first
      | (go_at_call 157; refine HD.out.mono ?_; rintro e w2 ⟨rfl, hw2⟩; rw [hw2, CD.out]; clear hw2)
      | (go_at_call 156; refine HM.out.mono ?_; rintro e w2 ⟨rfl, hw2⟩; rw [hw2]; clear hw2)
      | fail "no arm")
     go_ret
     exact ⟨rfl, Below.refl _ _⟩
   | false =>
     obtain ⟨k, rfl, hk⟩ := inT_nat ci
     have CD := Lib.hid cd
     have m0 : (0 : Int) ≤ (k : Int) := by omega
     have m1 : (k : Int) < 6 := by omega
     have hbd := hla.at_ k
     have b1 := (h.at_ (i := k * 8 + 1) (by omega)).1
     have b6 := (h.at_ (i := k * 8 + 6) (by omega)).1
     have b7 := (h.at_ (i := k * 8 + 7) (by omega)).1
     rw [polV_1 _ _ _ _ (by omega)] at b1
     rw [polV_6 _ _ _ _ (by omega)] at b6
     rw [polV_7 _ _ _ _ (by omega)] at b7
     have hS := soon_any w H (k * 8) _ _ _ now b1 b6 b7 (by unfold lasI; split <;> omega) (by omega)
     cases cs : sooB (decide (0 ≤ laAt la k)) (lasI la k) (tkAt ts k).t now with
     | true =>
       rw [cs] at hS
       have HS := Lib.hid hS
       have hx : errP ts la hi k now = 40 := by
        unfold sooB at cs
        rw [Bool.and_eq_true, decide_eq_true_eq, decide_eq_true_eq] at cs
        obtain ⟨c1, c2⟩ := cs
        unfold lasI at c2
        rw [if_pos c1] at c2
        exact errP_soon hk hno cd c1 c2
       rw [hx]
       clear h h6 hla hM ci hno cd cs hS b1 b6 b7 hx hbd
       go_enter Tryz.func114, Tryz.ntmps114
       go_wp2_with (first
        | (go_at_call 158; refine HS.out.mono ?_; rintro e w2 ⟨rfl, hb2'⟩; have hb2 := Lib.hid hb2'; clear hb2')
        | (go_at_call 157; refine HD.out.mono ?_; rintro e w2 ⟨rfl, hw2⟩; rw [hw2, CD.out]; clear hw2)
        | (go_at_call 156; refine HM.out.mono ?_; rintro e w2 ⟨rfl, hw2⟩; rw [hw2]; clear hw2)
        | fail "no arm")
       go_ret
       exact ⟨rfl, hb2.out⟩
     | false =>
       rw [cs] at hS
       have HS := Lib.hid hS
       have hx : errP ts la hi k now = 0 := by
        refine errP_ok hk hno cd (fun c1 c2 => ?_)
        unfold sooB lasI at cs
        rw [if_pos c1, decide_eq_true c1, decide_eq_true c2] at cs
        cases cs
       rw [hx]
       clear h h6 hla hM ci hno cd cs hS b1 b6 b7 hx hbd
       go_enter Tryz.func114, Tryz.ntmps114
       go_wp2_with (first
        | (go_at_call 158; refine HS.out.mono ?_; rintro e w2 ⟨rfl, hb2'⟩; have hb2 := Lib.hid hb2'; clear hb2')
        | (go_at_call 157; refine HD.out.mono ?_; rintro e w2 ⟨rfl, hw2⟩; rw [hw2, CD.out]; clear hw2)
        | (go_at_call 156; refine HM.out.mono ?_; rintro e w2 ⟨rfl, hw2⟩; rw [hw2]; clear hw2)
        | fail "no arm")
       go_ret
       exact ⟨rfl, hb2.out⟩
end Go.Proofs.YtchbehnkkcjdgaaGreat
namespace Go.Proofs.YtchbehnkkcjdgaaGreat
open Go.ChangeShapes Go.WideShapes Go.ChangeAt Go.RowKit
set_option linter.unusedVariables false
set_option maxRecDepth 100000 in
set_option maxHeartbeats 4000000 in
theorem accept_any (w : World) (H o : Nat) (now : Int) (u6 u7 : Value) (b6 : w.cell? ⟨H, o + 6, none⟩ = some u6) (f6 : w.frozen? ⟨H, o + 6, none⟩ = false) (b7 : (w.setCell ⟨H, o + 6, none⟩ (.bool true)).cell? ⟨H, o + 7, none⟩ = some u7) (f7 : (w.setCell ⟨H, o + 6, none⟩ (.bool true)).frozen? ⟨H, o + 7, none⟩ = false) :
 Calls Tryz.prog 164 #[.pointer (some ⟨H, o, none⟩), .int .i64 now] w fun e w' => e = .returned (.tuple #[]) ∧ w' = (w.setCell ⟨H, o + 6, none⟩ (.bool true)).setCell ⟨H, o + 7, none⟩ (.int .i64 now) := by
 go_enter Tryz.func164, Tryz.ntmps164
 go_wp2_with fail
 go_end0
 exact ⟨rfl, rfl⟩
theorem errP_vals (ts : List Tk) (la : List Int) (hi : Bool) (t now : Int) : errP ts la hi t now = 0 ∨ errP ts la hi t now = 1 ∨ errP ts la hi t now = 40 ∨ errP ts la hi t now = 42 := by
 unfold errP
 split
 ·split
  ·simp
  ·split <;> simp
 ·simp
theorem polV_acc {n : Nat} {ts : List Tk} {la : List Int} {hi : Bool} {k : Nat} {now : Int} (hk : k < 6) (hl : k < la.length) (h0 : 0 ≤ now) : ∀ i, i < 50 → updP (updP (polV n ts la hi) (k * 8 + 6) (.bool true)) (k * 8 + 7) (.int .i64 now) i = polV n ts (la.set k now) hi i := by
 refine polV_ext ?_ ?_ (fun j r hj hr => ?_)
 ·rw [updP_ne _ _ (by omega), updP_ne _ _ (by omega)]; rfl
 ·rw [updP_ne _ _ (by omega), updP_ne _ _ (by omega)]; rfl
 by_cases c7 : j * 8 + r = k * 8 + 7
 ·have e1 : j = k := by omega
  have e2 : r = 7 := by omega
  subst e1 e2
  rw [updP_at, polV_7 _ _ _ _ hj]
  unfold lasI
  rw [laAt_set hl, if_pos rfl, if_pos h0]
 by_cases c6 : j * 8 + r = k * 8 + 6
 ·have e1 : j = k := by omega
  have e2 : r = 6 := by omega
  subst e1 e2
  rw [updP_ne _ _ (by omega), updP_at, polV_6 _ _ _ _ hj, laAt_set hl, if_pos rfl, decide_eq_true h0]
 ·rw [updP_ne _ _ c7, updP_ne _ _ c6, polV_k _ _ _ _ _ _ hj hr, polV_k _ _ _ _ _ _ hj hr]
  unfold lasI
  rw [laAt_set hl]
  by_cases e : j = k
  ·subst e
   rw [if_pos rfl]
   have : r < 6 := by omega
   match r, this with
   | 0, _ => rfl
   | 1, _ => rfl
   | 2, _ => rfl
   | 3, _ => rfl
   | 4, _ => rfl
   | 5, _ => rfl
  ·rw [if_neg e]
set_option maxRecDepth 100000 in
set_option maxHeartbeats 4000000 in
theorem take_no (w : World) (p : Option Addr) (t now x : Int) (hx : x = 1 ∨ x = 40 ∨ x = 42) (HM : Hid (Calls Tryz.prog 114 #[.pointer p, .int .i64 t, .int .i64 now] w fun e w' => e = .returned (.int .i64 x) ∧ Below w.heap.size w w')) : Calls Tryz.prog 116 #[.pointer p, .int .i64 t, .int .i64 now] w fun e w' => e = .returned (.int .i64 x) ∧ Below w.heap.size w w' := by
 rcases hx with rfl | rfl | rfl
 all_goals
  (go_enter Tryz.func116, Tryz.ntmps116
   go_wp2_with (first
    | (go_at_call 114; refine HM.out.mono ?_; rintro e w2 ⟨rfl, hb2'⟩; have hb2 := Lib.hid hb2'; clear hb2')
    | fail "no arm")
   go_ret
   exact ⟨rfl, hb2.out⟩)
set_option maxRecDepth 100000 in
set_option maxHeartbeats 4000000 in
theorem take_yes (w : World) (H : Nat) (ts : List Tk) (la : List Int) (hi : Bool) (k : Nat) (now : Int) (h : PCells w H (polV ts.length ts la hi)) (hk : k < 6) (hl : k < la.length) (h0 : 0 ≤ now) (HM : Hid (Calls Tryz.prog 114 #[.pointer (some ⟨H, 0, none⟩), .int .i64 k, .int .i64 now] w fun e w' => e = .returned (.int .i64 0) ∧ Below w.heap.size w w')) :
 Calls Tryz.prog 116 #[.pointer (some ⟨H, 0, none⟩), .int .i64 k, .int .i64 now] w fun e w' => e = .returned (.int .i64 0) ∧ PCells w' H (polV ts.length ts (la.set k now) hi) ∧ But H w w' := by
 have KS : Hid (∀ W, Below w.heap.size w W → Calls Tryz.prog 164 #[.pointer (some ⟨H, k * 8, none⟩), .int .i64 now] W fun e w' => e = .returned (.tuple #[]) ∧ PCells w' H (polV ts.length ts (la.set k now) hi) ∧ But H w w') := Lib.hid (fun W hW => by
  have h1 := h.same (hW.block H h.lt)
  have h2 := h1.set (i := k * 8 + 6) (by omega) (.bool true)
  refine (accept_any W H (k * 8) now _ _ (h1.at_ (by omega)).1 (h1.at_ (by omega)).2 (h2.at_ (by omega)).1 (h2.at_ (by omega)).2).mono ?_
  rintro e w' ⟨rfl, rfl⟩
  exact ⟨rfl, (h2.set (by omega) _).congr (polV_acc hk hl h0), ((But.of_below hW).set _ _).set _ _⟩)
 have m0 : (0 : Int) ≤ (k : Int) := by omega
 have m1 : (k : Int) < 6 := by omega
 clear h hk hl h0
 go_enter Tryz.func116, Tryz.ntmps116
 go_wp2_with (first
  | (go_at_call 164; have _z := hb2; refine (KS.out _ hb2.out).mono ?_; rintro e w3 ⟨rfl, h3', b3'⟩; have h3 := Lib.hid h3'; have b3 := Lib.hid b3'; clear h3' b3')
  | (go_at_call 114; refine HM.out.mono ?_; rintro e w2 ⟨rfl, hb2'⟩; have hb2 := Lib.hid hb2'; clear hb2')
  | fail "no arm")
 go_ret
 exact ⟨rfl, h3.out, b3.out⟩
theorem dropV_of {ts : List Tk} {g hi : Bool} (h : ts = [] ∨ g = hi) (t : Int) : dropV ts g t = dropV ts hi t := by
 rcases h with h | h
 ·subst h
  unfold dropV inT
  by_cases c : 0 ≤ t
  ·rw [decide_eq_false (p := t < _) (by simp; omega)]; simp
  ·rw [decide_eq_false c]; simp
 ·rw [h]
theorem errP_of {ts : List Tk} {la : List Int} {g hi : Bool} (h : ts = [] ∨ g = hi) (t now : Int) : errP ts la g t now = errP ts la hi t now := by
 unfold errP; rw [dropV_of h]
theorem mayok_any (w : World) (H : Nat) (S : Nat → Prop) (ts : List Tk) (la : List Int) (hi : Bool) (t now : Int) (h : PolAt H ts la hi w S) : Calls Tryz.prog 114 #[.pointer (some ⟨H, 0, none⟩), .int .i64 t, .int .i64 now] w fun e w' => e = .returned (.int .i64 (errP ts la hi t now)) ∧ Below w.heap.size w w' := by
 obtain ⟨g, hc, hg⟩ := h.c
 rw [← errP_of hg]
 exact may_any w H ts la g t now hc h.n6 h.la
theorem takeok_any (w : World) (H : Nat) (S : Nat → Prop) (ts : List Tk) (la : List Int) (hi : Bool) (t now : Int) (h : PolAt H ts la hi w S) : Calls Tryz.prog 116 #[.pointer (some ⟨H, 0, none⟩), .int .i64 t, .int .i64 now] w fun e w' => ∃ S', e = .returned (.int .i64 (errP ts la hi t now)) ∧ PolAt H ts (takL ts la hi t now) hi w' S' ∧ GrowS S S' w w' := by
 have hM := mayok_any w H S ts la hi t now h
 obtain ⟨g, hc, hg⟩ := h.c
 have hs := h.s
 subst hs
 rcases errP_vals ts la hi t now with e | e
 ·rw [e] at hM ⊢
  obtain ⟨q1, q2⟩ := errP_zero e
  obtain ⟨k, rfl, hk⟩ := inT_nat q1
  simp only [nowOk, Bool.and_eq_true, decide_eq_true_eq] at q2
  have hl := h.la.len
  have hT := h.la.take hi k now
  refine (take_yes w H ts la g k now hc (by have := h.n6; omega) (by omega) q2.1 (Lib.hid hM)).mono ?_
  rintro e' w' ⟨rfl, c', b'⟩
  refine ⟨_, rfl, ⟨⟨g, ?_, hg⟩, h.n6, h.ok, hT, rfl⟩, grow_pol b'⟩
  unfold takL
  rw [if_pos e]
  exact c'
 ·refine (take_no w _ t now _ e (Lib.hid hM)).mono ?_
  rintro e' w' ⟨rfl, b'⟩
  refine ⟨_, rfl, ⟨⟨g, ?_, hg⟩, h.n6, h.ok, h.la.take hi t now, rfl⟩, grow_pol (But.of_below b')⟩
  unfold takL
  rw [if_neg (by rcases e with e | e | e <;> rw [e] <;> decide)]
  exact hc.same (b'.block H hc.lt)
theorem droppedok_any (w : World) (H : Nat) (S : Nat → Prop) (ts : List Tk) (la : List Int) (hi : Bool) (t : Int) (h : PolAt H ts la hi w S) : Calls Tryz.prog 157 #[.pointer (some ⟨H, 0, none⟩), .int .i64 t] w fun e w' => e = .returned (.bool (dropV ts hi t)) ∧ Below w.heap.size w w' := by
 obtain ⟨g, hc, hg⟩ := h.c
 rw [← dropV_of hg]
 exact (dropped_any w H ts la g t hc h.n6).mono (by rintro e w' ⟨rfl, rfl⟩; exact ⟨rfl, Below.refl _ _⟩)
set_option maxRecDepth 100000 in
set_option maxHeartbeats 4000000 in
theorem drop_no (w : World) (p : Option Addr) (b : Bool) (HM : Hid (Calls Tryz.prog 156 #[.pointer p, .int .i64 0] w fun e w' => e = .returned (.bool false) ∧ w' = w)) : Calls Tryz.prog 120 #[.pointer p, .bool b] w fun e w' => e = .returned (.tuple #[]) ∧ w' = w := by
 go_enter Tryz.func120, Tryz.ntmps120
 go_wp2_with (first
  | (go_at_call 156; refine HM.out.mono ?_; rintro e w2 ⟨rfl, hw2⟩; rw [hw2]; clear hw2)
  | fail "no arm")
 go_end0
 exact ⟨rfl, rfl⟩
theorem polV_drop {n : Nat} {ts : List Tk} {la : List Int} {hi b : Bool} : ∀ i, i < 50 → updP (polV n ts la hi) 49 (.bool b) i = polV n ts la b i := by
 refine polV_ext ?_ ?_ (fun j r hj hr => ?_)
 ·rw [updP_ne _ _ (by omega)]; rfl
 ·rw [updP_at]; rfl
 ·rw [updP_ne _ _ (by omega), polV_k _ _ _ _ _ _ hj hr, polV_k _ _ _ _ _ _ hj hr]
set_option maxRecDepth 100000 in
set_option maxHeartbeats 4000000 in
theorem drop_yes (w : World) (H : Nat) (ts : List Tk) (la : List Int) (hi b : Bool) (h : PCells w H (polV ts.length ts la hi)) (HM : Hid (Calls Tryz.prog 156 #[.pointer (some ⟨H, 0, none⟩), .int .i64 0] w fun e w' => e = .returned (.bool true) ∧ w' = w)) :
 Calls Tryz.prog 120 #[.pointer (some ⟨H, 0, none⟩), .bool b] w fun e w' => e = .returned (.tuple #[]) ∧ PCells w' H (polV ts.length ts la b) ∧ But H w w' := by
 obtain ⟨b49, f49⟩ := h.at_ (i := 49) (by omega)
 have HF := Lib.hid (And.intro ((h.set (i := 49) (by omega) (.bool b)).congr polV_drop) ((But.refl H w).set 49 (.bool b)))
 clear h
 go_enter Tryz.func120, Tryz.ntmps120
 go_wp2_with (first
  | (go_at_call 156; refine HM.out.mono ?_; rintro e w2 ⟨rfl, hw2⟩; rw [hw2]; clear hw2)
  | fail "no arm")
 go_end0
 exact ⟨rfl, HF.out⟩
theorem dropok_any (w : World) (H : Nat) (S : Nat → Prop) (ts : List Tk) (la : List Int) (hi b : Bool) (h : PolAt H ts la hi w S) : Calls Tryz.prog 120 #[.pointer (some ⟨H, 0, none⟩), .bool b] w fun e w' => ∃ S', e = .returned (.tuple #[]) ∧ PolAt H ts la b w' S' ∧ GrowS S S' w w' := by
 obtain ⟨g, hc, hg⟩ := h.c
 have hs := h.s
 subst hs
 have hM := has_any w H (ts.length : Int) 0 (by rw [(hc.at_ (i := 48) (by omega)).1, polV_n])
 by_cases c : ts = []
 ·rw [hasP_f (by rw [c]; simp)] at hM
  refine (drop_no w _ b (Lib.hid hM)).mono ?_
  rintro e w' ⟨rfl, rfl⟩
  exact ⟨_, rfl, ⟨⟨g, hc, .inl c⟩, h.n6, h.ok, h.la, rfl⟩, grow_pol (But.refl _ _)⟩
 ·have : 0 < ts.length := List.length_pos_iff.2 c
  rw [hasP_t (by omega)] at hM
  refine (drop_yes w H ts la g b hc (Lib.hid hM)).mono ?_
  rintro e w' ⟨rfl, c', b'⟩
  exact ⟨_, rfl, ⟨⟨b, c', .inr rfl⟩, h.n6, h.ok, h.la, rfl⟩, grow_pol b'⟩
end Go.Proofs.YtchbehnkkcjdgaaGreat
namespace Go.Proofs.YtchbehnkkcjdgaaGreat
open Go.ChangeShapes Go.WideShapes Go.ChangeAt Go.RowKit
set_option linter.unusedVariables false
/-- The cells of a police that New has just made of n tasks. -/
def polC (n : Int) : Array Value := #[.bool false, .int .i64 0, .int .i64 0, .int .i64 0, .int .i64 0, .int .i64 0, .bool false, .int .i64 0, .bool false, .int .i64 0, .int .i64 0, .int .i64 0, .int .i64 0, .int .i64 0, .bool false, .int .i64 0, .bool false, .int .i64 0, .int .i64 0, .int .i64 0, .int .i64 0, .int .i64 0, .bool false, .int .i64 0, .bool false, .int .i64 0, .int .i64 0, .int .i64 0, .int .i64 0, .int .i64 0, .bool false, .int .i64 0, .bool false, .int .i64 0, .int .i64 0, .int .i64 0, .int .i64 0, .int .i64 0, .bool false, .int .i64 0, .bool false, .int .i64 0, .int .i64 0, .int .i64 0, .int .i64 0, .int .i64 0, .bool false, .int .i64 0, .int .i64 n, .bool false]
set_option maxRecDepth 100000 in
theorem built_pol (n : Int) : Tryz.prog.built 218 [(1, .int .i64 n)] = some (polC n) := by kernel_rfl
set_option maxRecDepth 100000 in
theorem built_part16 (a : Option Addr) (n c : Nat) : Tryz.prog.built 37 [(0, .slice a n c)] = some #[.slice a n c, .slice none 0 0, .slice none 0 0, .int .u8 0, .int .u8 0, .int .u8 0] := by kernel_rfl
theorem polC_cells {w : World} {H n : Nat} (h : w.heap[H]? = some (.cells (polC n) 218 (0, 0))) : PCells w H (polV n [] [] false) := by
 have h1 : PCells w H (fun i => ((polC n)[i]?).getD (.bool false)) := ⟨_, h, rfl, fun i hi => by
  have : i < (polC n).size := hi
  show _ = some (((polC n)[i]?).getD _)
  rw [Array.getElem?_eq_getElem this]; rfl⟩
 refine h1.congr (polV_ext rfl rfl (fun k r hk hr => ?_))
 rw [polV_k _ _ _ _ _ _ hk hr]
 rw [show tkAt [] k = ⟨false, 0, 0, 0, 0, 0⟩ by unfold tkAt; simp, show laAt [] k = -1 by unfold laAt; simp, show lasI [] k = 0 by unfold lasI laAt; simp]
 clear h h1
 match k, hk, r, hr with
 | 0, _, 0, _ => rfl
 | 0, _, 1, _ => rfl
 | 0, _, 2, _ => rfl
 | 0, _, 3, _ => rfl
 | 0, _, 4, _ => rfl
 | 0, _, 5, _ => rfl
 | 0, _, 6, _ => rfl
 | 0, _, 7, _ => rfl
 | 1, _, 0, _ => rfl
 | 1, _, 1, _ => rfl
 | 1, _, 2, _ => rfl
 | 1, _, 3, _ => rfl
 | 1, _, 4, _ => rfl
 | 1, _, 5, _ => rfl
 | 1, _, 6, _ => rfl
 | 1, _, 7, _ => rfl
 | 2, _, 0, _ => rfl
 | 2, _, 1, _ => rfl
 | 2, _, 2, _ => rfl
 | 2, _, 3, _ => rfl
 | 2, _, 4, _ => rfl
 | 2, _, 5, _ => rfl
 | 2, _, 6, _ => rfl
 | 2, _, 7, _ => rfl
 | 3, _, 0, _ => rfl
 | 3, _, 1, _ => rfl
 | 3, _, 2, _ => rfl
 | 3, _, 3, _ => rfl
 | 3, _, 4, _ => rfl
 | 3, _, 5, _ => rfl
 | 3, _, 6, _ => rfl
 | 3, _, 7, _ => rfl
 | 4, _, 0, _ => rfl
 | 4, _, 1, _ => rfl
 | 4, _, 2, _ => rfl
 | 4, _, 3, _ => rfl
 | 4, _, 4, _ => rfl
 | 4, _, 5, _ => rfl
 | 4, _, 6, _ => rfl
 | 4, _, 7, _ => rfl
 | 5, _, 0, _ => rfl
 | 5, _, 1, _ => rfl
 | 5, _, 2, _ => rfl
 | 5, _, 3, _ => rfl
 | 5, _, 4, _ => rfl
 | 5, _, 5, _ => rfl
 | 5, _, 6, _ => rfl
 | 5, _, 7, _ => rfl
theorem laAt_rep (n i : Nat) : laAt (List.replicate n (-1)) i = -1 := by
 unfold laAt
 rw [List.getD_eq_getElem?_getD, List.getElem?_replicate]
 split <;> rfl
theorem polV_made {n : Nat} {ts : List Tk} : ∀ i, i < 50 → polV n ts [] false i = polV n ts (List.replicate n (-1)) false i := by
 refine polV_ext rfl rfl (fun j r hj hr => ?_)
 rw [polV_k _ _ _ _ _ _ hj hr, polV_k _ _ _ _ _ _ hj hr]
 unfold lasI
 rw [laAt_rep]
 rfl
/-- One task more. -/
theorem polV_more {n : Nat} {ts : List Tk} {k : Nat} (hk : k < 6) (h : k < ts.length) : ∀ i, i < 50 → updP (updP (updP (updP (updP (updP (polV n (ts.take k) [] false) (k * 8) (.bool (tkAt ts k).hi)) (k * 8 + 1) (.int .i64 (tkAt ts k).t)) (k * 8 + 2) (.int .i64 (tkAt ts k).d)) (k * 8 + 3) (.int .i64 (tkAt ts k).v)) (k * 8 + 4) (.int .i64 (tkAt ts k).lo)) (k * 8 + 5) (.int .i64 (tkAt ts k).top) i = polV n (ts.take (k + 1)) [] false i := by
 refine polV_ext ?_ ?_ (fun j r hj hr => ?_)
 ·rw [updP_ne _ _ (by omega), updP_ne _ _ (by omega), updP_ne _ _ (by omega), updP_ne _ _ (by omega), updP_ne _ _ (by omega), updP_ne _ _ (by omega)]; rfl
 ·rw [updP_ne _ _ (by omega), updP_ne _ _ (by omega), updP_ne _ _ (by omega), updP_ne _ _ (by omega), updP_ne _ _ (by omega), updP_ne _ _ (by omega)]; rfl
 rw [polV_k _ _ _ _ _ _ hj hr, tkAt_take h]
 by_cases e : j = k
 ·subst e
  rw [if_pos rfl]
  match r, hr with
  | 0, _ => rw [updP_ne _ _ (by omega), updP_ne _ _ (by omega), updP_ne _ _ (by omega), updP_ne _ _ (by omega), updP_ne _ _ (by omega)]; exact updP_at _ _ _
  | 1, _ => rw [updP_ne _ _ (by omega), updP_ne _ _ (by omega), updP_ne _ _ (by omega), updP_ne _ _ (by omega), updP_at]; rfl
  | 2, _ => rw [updP_ne _ _ (by omega), updP_ne _ _ (by omega), updP_ne _ _ (by omega), updP_at]; rfl
  | 3, _ => rw [updP_ne _ _ (by omega), updP_ne _ _ (by omega), updP_at]; rfl
  | 4, _ => rw [updP_ne _ _ (by omega), updP_at]; rfl
  | 5, _ => rw [updP_at]; rfl
  | 6, _ => rw [updP_ne _ _ (by omega), updP_ne _ _ (by omega), updP_ne _ _ (by omega), updP_ne _ _ (by omega), updP_ne _ _ (by omega), updP_ne _ _ (by omega), polV_6 _ _ _ _ hj]; rfl
  | 7, _ => rw [updP_ne _ _ (by omega), updP_ne _ _ (by omega), updP_ne _ _ (by omega), updP_ne _ _ (by omega), updP_ne _ _ (by omega), updP_ne _ _ (by omega), polV_7 _ _ _ _ hj]; rfl
 ·rw [if_neg e, updP_ne _ _ (by omega), updP_ne _ _ (by omega), updP_ne _ _ (by omega), updP_ne _ _ (by omega), updP_ne _ _ (by omega), updP_ne _ _ (by omega), polV_k _ _ _ _ _ _ hj hr]
end Go.Proofs.YtchbehnkkcjdgaaGreat
namespace Go.Proofs.YtchbehnkkcjdgaaGreat
open Go.ChangeShapes Go.WideShapes Go.ChangeAt Go.RowKit
set_option linter.unusedVariables false
set_option maxRecDepth 100000 in
set_option maxHeartbeats 8000000 in
theorem new_any (w : World) (a : Option Addr) (n c : Nat) (ts : List Tk) (hn : ts.length = n) (hl : Lies w 0 w.heap.size (.slice a n c) n 6 (ts.flatMap Tk.cells)) :
 Calls Tryz.prog 91 #[.slice a n c] w fun e w' => (okN ts = true → ∃ H S, e = .returned (.pointer (some ⟨H, 0, none⟩)) ∧ PolAt H ts (List.replicate n (-1)) false w' S ∧ ∀ k, S k → w.heap.size ≤ k) ∧ (okN ts = false → e = .returned (.pointer none)) ∧ Below w.heap.size w w' := by
 have hR := rights_tasks a n c w ts hn hl
 have HP := Lib.hid (built_part16 a n c)
 cases ho : okN ts with
 | false =>
   rw [ho] at hR
   have HR := Lib.hid hR
   clear hR ho hl hn
   go_enter Tryz.func91, Tryz.ntmps91
   go_wp2_with (first
    | (go_at_call 37; refine HR.out.mono ?_; rintro e w2 ⟨rfl, hb2'⟩; have hb2 := Lib.hid hb2'; clear hb2')
    | (refine wpList_build3 (by rfl) 37 _ (by rfl) [(0, .slice a n c)] (by rfl) _ HP.out ?_)
    | fail "no arm")
   go_ret
   exact ⟨fun h => (by cases h), fun _ => rfl, hb2.out⟩
 | true =>
   rw [ho] at hR
   have HR := Lib.hid hR
   have hn6 : n ≤ 6 := by
    unfold okN at ho
    rw [Bool.and_eq_true, decide_eq_true_eq] at ho
    omega
   have HO : Hid (∀ x ∈ ts, okTk x = true) := Lib.hid (by
    unfold okN at ho
    rw [Bool.and_eq_true, List.all_eq_true] at ho
    exact ho.2)
   have HC := Lib.hid (built_pol (n : Int))
   have KA := Lib.hid (tks_read hn hl)
   have HNN := Lib.hid hn
   clear hR ho hl hn
   go_enter Tryz.func91, Tryz.ntmps91
   go_upto_region 3 with (first
    | (go_at_call 37; refine HR.out.mono ?_; rintro e w2 ⟨rfl, hb2'⟩; have hb2 := Lib.hid hb2'; clear hb2')
    | (refine wpList_build3 (by rfl) 37 _ (by rfl) [(0, .slice a n c)] (by rfl) _ HP.out ?_)
    | fail "no arm")
   go_cut [3] from 10 to 13 (fun s3 wx => ∃ H, s3 = .pointer (some ⟨H, 0, none⟩) ∧ Hid (w.heap.size ≤ H) ∧ Hid (PCells wx H (polV n (ts.take 0) [] false)) ∧ Hid (Below w.heap.size w wx))
   case first =>
    go_wp2_with (first
     | (refine wpList_build3 (by rfl) 218 _ (by rfl) [(1, .int .i64 (n : Int))] (by rfl) _ HC.out ?_)
     | fail "no arm")
    go_meet
    case rel => exact ⟨w2.heap.size, rfl, Lib.hid hb2.out.size, Lib.hid (polC_cells (heap_alloc_new _ _)), Lib.hid (hb2.out.alloc hb2.out.size _)⟩
   case rest =>
   obtain ⟨H, rfl, HH, HS0, HB0⟩ := hcut
   clear HC HP HR
   go_wp2_with fail
   go_loopw [16] (fun s wr => ∃ (k : Nat), k ≤ n ∧ s = .int .i64 k ∧ Hid (PCells wr H (polV n (ts.take k) [] false)) ∧ Hid (Below w.heap.size w wr)) (fun s _ => n - (intOf s).toNat)
   case atStart => exact ⟨0, Nat.zero_le _, rfl, HS0, HB0⟩
   case round =>
    clear HS0 HB0
    obtain ⟨k, hk, rfl, HC1, HB⟩ := hrel
    by_cases hlt : k < n
    ·have d0 : decide ((k : Int) < (n : Int)) = true := decide_eq_true (by omega)
     have d1 : (0 : Int) ≤ (k : Int) := by omega
     have d2 : (k : Int) < (n : Int) := by omega
     have d3 : (k : Int) < 6 := by omega
     have hkL : k < ts.length := by have := HNN.out; omega
     obtain ⟨b, off, ea, ⟨k0, k1, k2, k3, k4, k5⟩, hb⟩ := KA.out wr HB.out k hlt
     subst ea
     have HM := Lib.hid (polV_more (n := n) (show k < 6 by omega) hkL)
     obtain ⟨x, hx⟩ : ∃ x, x = tkAt ts k := ⟨_, rfl⟩
     rw [← hx] at k0 k1 k2 k3 k4 k5 HM
     clear hb hx hkL
     obtain ⟨x0, x1, x2, x3, x4, x5⟩ := x
     dsimp only at k0 k1 k2 k3 k4 k5 HM
     obtain ⟨V, hV⟩ : ∃ V, V = wr.alloc (.cells #[.bool x0, .int .i64 x1, .int .i64 x2, .int .i64 x3, .int .i64 x4, .int .i64 x5] 111) := ⟨_, rfl⟩
     obtain ⟨E, hE⟩ : ∃ E, E = wr.heap.size := ⟨_, rfl⟩
     have hbl : V.heap[E]? = some (.cells #[.bool x0, .int .i64 x1, .int .i64 x2, .int .i64 x3, .int .i64 x4, .int .i64 x5] 111 (0, 0)) := by rw [hV, hE]; exact heap_alloc_new _ _
     have hVB : Below wr.heap.size wr V := by rw [hV]; exact below1 _ _
     have hC0 : PCells V H (polV n (ts.take k) [] false) := HC1.out.same (hVB.block H HC1.out.lt)
     have hC1 := hC0.set (i := k * 8) (by omega) (.bool x0)
     have hC2 := hC1.set (i := k * 8 + 1) (by omega) (.int .i64 x1)
     have hC3 := hC2.set (i := k * 8 + 2) (by omega) (.int .i64 x2)
     have hC4 := hC3.set (i := k * 8 + 3) (by omega) (.int .i64 x3)
     have hC5 := hC4.set (i := k * 8 + 4) (by omega) (.int .i64 x4)
     have hC6 := hC5.set (i := k * 8 + 5) (by omega) (.int .i64 x5)
     have HFIN := Lib.hid (show PCells _ H (polV n (ts.take (k + 1)) [] false) ∧ Below w.heap.size w _ from And.intro (hC6.congr HM.out).drew (by
      have hz := HH.out
      exact (((((((HB.out.trans (hVB.mono HB.out.size)).setCell (p := ⟨H, k * 8, none⟩) hz (.bool x0)).setCell (p := ⟨H, k * 8 + 1, none⟩) hz (.int .i64 x1)).setCell (p := ⟨H, k * 8 + 2, none⟩) hz (.int .i64 x2)).setCell (p := ⟨H, k * 8 + 3, none⟩) hz (.int .i64 x3)).setCell (p := ⟨H, k * 8 + 4, none⟩) hz (.int .i64 x4)).setCell (p := ⟨H, k * 8 + 5, none⟩) hz (.int .i64 x5)).drew))
     have e0 : V.cell? ⟨E, 0, none⟩ = some (.bool x0) := cell_in hbl rfl
     have e1 : V.cell? ⟨E, 1, none⟩ = some (.int .i64 x1) := cell_in hbl rfl
     have e2 : V.cell? ⟨E, 2, none⟩ = some (.int .i64 x2) := cell_in hbl rfl
     have e3 : V.cell? ⟨E, 3, none⟩ = some (.int .i64 x3) := cell_in hbl rfl
     have e4 : V.cell? ⟨E, 4, none⟩ = some (.int .i64 x4) := cell_in hbl rfl
     have e5 : V.cell? ⟨E, 5, none⟩ = some (.int .i64 x5) := cell_in hbl rfl
     obtain ⟨p0, f0⟩ := hC0.at_ (i := k * 8) (by omega)
     obtain ⟨p1, f1⟩ := hC0.at_ (i := k * 8 + 1) (by omega)
     obtain ⟨p2, f2⟩ := hC0.at_ (i := k * 8 + 2) (by omega)
     obtain ⟨p3, f3⟩ := hC0.at_ (i := k * 8 + 3) (by omega)
     obtain ⟨p4, f4⟩ := hC0.at_ (i := k * 8 + 4) (by omega)
     obtain ⟨p5, f5⟩ := hC0.at_ (i := k * 8 + 5) (by omega)
     have HV := Lib.hid hV
     have HE := Lib.hid hE
     clear hbl hVB hC0 hC1 hC2 hC3 hC4 hC5 hC6 hV hE
     go_upto_region 7 with fail
     rw [← HV.out, ← HE.out]
     clear k0 k1 k2 k3 k4 k5
     go_region
     go_wp2_with fail
     go_roundw
     case rel => exact ⟨k + 1, by omega, by go_num, Lib.hid HFIN.out.1, Lib.hid HFIN.out.2⟩
     case measure => simp [intOf]; omega
    ·have d0 : decide ((k : Int) < (n : Int)) = false := decide_eq_false (by omega)
     have hkn : k = n := by omega
     subst hkn
     go_wp2_with fail
     go_ret
     refine ⟨fun _ => ⟨H, _, rfl, ⟨⟨false, ?_, .inr rfl⟩, by have := HNN.out; omega, HO.out, ?_, rfl⟩, fun j hj => by rw [hj]; exact HH.out⟩, fun h => (by cases h), HB.out⟩
     ·have := HC1.out.congr polV_made
      rw [HNN.out]
      rwa [List.take_of_length_le (by have := HNN.out; omega)] at this
     ·have := LaOk.start ts
      rwa [HNN.out] at this
theorem pol_own (H : Nat) (ts : List Tk) (la : List Int) (hi : Bool) : OwnP (PolAt H ts la hi) where
 keep := fun h hs hz => { h with c := by obtain ⟨g, hc, hg⟩ := h.c; exact ⟨g, hc.same (hs H (by rw [h.s])), hg⟩ }
 lt := fun h k hk => by
  obtain ⟨g, hc, hg⟩ := h.c
  rw [h.s] at hk
  rw [show k = _ from hk]
  exact hc.lt
def policeOk : PoliceOk where
 Pl := fun H ts la hi w S => PolAt H ts la hi w S
 own := pol_own
 bd := fun h => ⟨h.n6, h.ok, h.la⟩
 new := fun w a n c ts hn hl _ => new_any w a n c ts hn hl
 take := takeok_any
 may := mayok_any
 drop := dropok_any
 dropped := droppedok_any
end Go.Proofs.YtchbehnkkcjdgaaGreat
