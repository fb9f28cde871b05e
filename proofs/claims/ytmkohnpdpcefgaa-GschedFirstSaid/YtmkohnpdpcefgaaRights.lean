/- Joined of ConfB, ConfC, ConfG, ConfH, ConfI: The walks of the layer of systems: what is right. -/
import Derived.Test.YtmkohnpdpcefgaaBase
namespace Go.Proofs.Ytmkohnpdpcefgaa
open Go.ChangeShapes Go.WideShapes Go.ChangeAt Go.RowKit
set_option linter.unusedVariables false

theorem few_any (ta sa da : Option Addr) (tn tc sn sc dn dc : Nat) (x0 x1 x2 : Int) (w : World) :
    Calls Try.prog 17 #[.agg #[.slice ta tn tc, .slice sa sn sc, .slice da dn dc, .int .u8 x0, .int .u8 x1, .int .u8 x2]] w fun e w' => e = .returned (.bool (decide (tn ≤ 20) && (decide (sn ≤ 20) && decide (dn ≤ 20)))) ∧ Below w.heap.size w w' := by
  go_enter Try.func17, Try.ntmps17
  go_wp2
  all_goals go_ret
  all_goals exact ⟨ret_b (by rw [Bool.eq_iff_iff]; simp <;> omega), below1 _ _⟩

set_option maxHeartbeats 2000000 in
theorem taskRight_any (b : Bool) (t d v lo top : Int) (w : World) :
    Calls Try.prog 86 #[.agg #[.bool b, .int .i64 t, .int .i64 d, .int .i64 v, .int .i64 lo, .int .i64 top]] w fun e w' => e = .returned (.bool (okTk ⟨b, t, d, v, lo, top⟩)) ∧ Below w.heap.size w w' := by
  rcases (show 1000 < t ∨ (t ≤ 1000 ∧ t < d) ∨ (t ≤ 1000 ∧ d ≤ t ∧ d < v) ∨ (t ≤ 1000 ∧ d ≤ t ∧ v ≤ d ∧ v < lo) ∨ (t ≤ 1000 ∧ d ≤ t ∧ v ≤ d ∧ lo ≤ v ∧ lo < 1) ∨ (t ≤ 1000 ∧ d ≤ t ∧ v ≤ d ∧ lo ≤ v ∧ 1 ≤ lo ∧ top < lo)
      ∨ (t ≤ 1000 ∧ d ≤ t ∧ v ≤ d ∧ lo ≤ v ∧ 1 ≤ lo ∧ lo ≤ top ∧ d < top) ∨ (t ≤ 1000 ∧ d ≤ t ∧ v ≤ d ∧ lo ≤ v ∧ 1 ≤ lo ∧ lo ≤ top ∧ top ≤ d) from by omega) with h | ⟨h, h⟩ | ⟨h, h, h⟩ | ⟨h, h, h, h⟩ | ⟨h, h, h, h, h⟩ | ⟨h, h, h, h, h, h⟩ | ⟨h, h, h, h, h, h, h⟩ | ⟨h, h, h, h, h, h, h⟩
  all_goals try
    (go_enter Try.func86, Try.ntmps86
     go_wp2
     go_ret
     exact ⟨ret_b (by simp [okTk]; omega), below1 _ _⟩)
  cases b
  · by_cases e1 : v = d
    · have k1 : (v == d) = true := by simpa using e1
      by_cases e2 : top = lo
      · have k2 : (top == lo) = true := by simpa using e2
        go_enter Try.func86, Try.ntmps86
        go_wp2
        go_ret
        exact ⟨ret_b (by simp [okTk]; omega), below1 _ _⟩
      · have k2 : (top == lo) = false := by simpa using e2
        go_enter Try.func86, Try.ntmps86
        go_wp2
        go_ret
        exact ⟨ret_b (by simp [okTk]; omega), below1 _ _⟩
    · have k1 : (v == d) = false := by simpa using e1
      go_enter Try.func86, Try.ntmps86
      go_wp2
      go_ret
      exact ⟨ret_b (by simp [okTk]; omega), below1 _ _⟩
  · go_enter Try.func86, Try.ntmps86
    go_wp2
    go_ret
    exact ⟨ret_b (by simp [okTk]; omega), below1 _ _⟩

theorem serverRight_any (b : Bool) (c t : Int) (w : World) :
    Calls Try.prog 87 #[.agg #[.bool b, .int .i64 c, .int .i64 t]] w fun e w' => e = .returned (.bool (okSv ⟨b, c, t⟩)) ∧ Below w.heap.size w w' := by
  rcases (show c < 1 ∨ (1 ≤ c ∧ t < c) ∨ (1 ≤ c ∧ c ≤ t ∧ 1000 < t) ∨ (1 ≤ c ∧ c ≤ t ∧ t ≤ 1000) from by omega) with h | ⟨h, h⟩ | ⟨h, h, h⟩ | ⟨h, h, h⟩
  all_goals
    (go_enter Try.func87, Try.ntmps87
     go_wp2
     go_ret
     exact ⟨ret_b (by rw [Bool.eq_iff_iff]; simp [okSv]; omega), below1 _ _⟩)
end Go.Proofs.Ytmkohnpdpcefgaa
namespace Go.Proofs.Ytmkohnpdpcefgaa
open Go.ChangeShapes Go.WideShapes Go.ChangeAt Go.RowKit
set_option linter.unusedVariables false

set_option maxHeartbeats 2000000 in
theorem refTask_any (b : Bool) (t d v lo top : Int) (w : World) :
    Calls Try.prog 52 #[.agg #[.bool b, .int .i64 t, .int .i64 d, .int .i64 v, .int .i64 lo, .int .i64 top]] w fun e w' => e = .returned (.bool (okTk ⟨b, t, d, v, lo, top⟩)) ∧ Below w.heap.size w w' := by
  rcases (show t < 1 ∨ 1000 < t ∨ (1 ≤ t ∧ t ≤ 1000 ∧ lo < 1) ∨ (1 ≤ t ∧ t ≤ 1000 ∧ 1 ≤ lo ∧ v < lo) ∨ (1 ≤ t ∧ t ≤ 1000 ∧ 1 ≤ lo ∧ lo ≤ v ∧ d < v) ∨ (1 ≤ t ∧ t ≤ 1000 ∧ 1 ≤ lo ∧ lo ≤ v ∧ v ≤ d ∧ t < d) ∨ (1 ≤ t ∧ t ≤ 1000 ∧ 1 ≤ lo ∧ lo ≤ v ∧ v ≤ d ∧ d ≤ t ∧ top < lo)
      ∨ (1 ≤ t ∧ t ≤ 1000 ∧ 1 ≤ lo ∧ lo ≤ v ∧ v ≤ d ∧ d ≤ t ∧ lo ≤ top ∧ d < top) ∨ (1 ≤ t ∧ t ≤ 1000 ∧ 1 ≤ lo ∧ lo ≤ v ∧ v ≤ d ∧ d ≤ t ∧ lo ≤ top ∧ top ≤ d) from by omega) with h | h | ⟨h, h, h⟩ | ⟨h, h, h, h⟩ | ⟨h, h, h, h, h⟩ | ⟨h, h, h, h, h, h⟩ | ⟨h, h, h, h, h, h, h⟩ | ⟨h, h, h, h, h, h, h, h⟩ | ⟨h, h, h, h, h, h, h, h⟩
  all_goals try
    (go_enter Try.func52, Try.ntmps52
     go_wp2
     go_ret
     exact ⟨ret_b (by simp [okTk]; omega), below1 _ _⟩)
  cases b
  · by_cases e1 : v = d
    · have k1 : (v == d) = true := by simpa using e1
      by_cases e2 : top = lo
      · have k2 : (top == lo) = true := by simpa using e2
        go_enter Try.func52, Try.ntmps52
        go_wp2
        go_ret
        exact ⟨ret_b (by simp [okTk]; omega), below1 _ _⟩
      · have k2 : (top == lo) = false := by simpa using e2
        go_enter Try.func52, Try.ntmps52
        go_wp2
        go_ret
        exact ⟨ret_b (by simp [okTk]; omega), below1 _ _⟩
    · have k1 : (v == d) = false := by simpa using e1
      go_enter Try.func52, Try.ntmps52
      go_wp2
      go_ret
      exact ⟨ret_b (by simp [okTk]; omega), below1 _ _⟩
  · go_enter Try.func52, Try.ntmps52
    go_wp2
    go_ret
    exact ⟨ret_b (by simp [okTk]; omega), below1 _ _⟩

theorem refServer_any (b : Bool) (c t : Int) (w : World) :
    Calls Try.prog 53 #[.agg #[.bool b, .int .i64 c, .int .i64 t]] w fun e w' => e = .returned (.bool (okSv ⟨b, c, t⟩)) ∧ Below w.heap.size w w' := by
  rcases (show c < 1 ∨ (1 ≤ c ∧ t < c) ∨ (1 ≤ c ∧ c ≤ t ∧ 1000 < t) ∨ (1 ≤ c ∧ c ≤ t ∧ t ≤ 1000) from by omega) with h | ⟨h, h⟩ | ⟨h, h, h⟩ | ⟨h, h, h⟩
  all_goals
    (go_enter Try.func53, Try.ntmps53
     go_wp2
     go_ret
     exact ⟨ret_b (by rw [Bool.eq_iff_iff]; simp [okSv]; omega), below1 _ _⟩)
end Go.Proofs.Ytmkohnpdpcefgaa
namespace Go.Proofs.Ytmkohnpdpcefgaa
open Go.ChangeShapes Go.WideShapes Go.ChangeAt Go.RowKit
set_option linter.unusedVariables false

theorem all_next {α : Type} (f : α → Bool) (xs : List α) (k : Nat) (x : α) (h : xs[k]? = some x) (ha : (xs.take k).all f = true) (hx : f x = true) : (xs.take (k + 1)).all f = true := by
  rw [List.take_add_one, h]; simp [ha, hx]
theorem all_not {α : Type} (f : α → Bool) (xs : List α) (k : Nat) (x : α) (h : xs[k]? = some x) (hx : f x = false) : xs.all f = false := by
  have hm : x ∈ xs := List.mem_of_getElem? h
  cases e : xs.all f with
  | false => rfl
  | true => rw [List.all_eq_true.1 e x hm] at hx; cases hx
theorem all_end {α : Type} (f : α → Bool) (xs : List α) (k : Nat) (h : xs.length ≤ k) (ha : (xs.take k).all f = true) : xs.all f = true := by
  rwa [List.take_of_length_le h] at ha

set_option maxRecDepth 100000 in
set_option maxHeartbeats 2000000 in
theorem allTk_any (ta : Option Addr) (tn tc : Nat) (w : World) (lo hi : Nat) (ts : List Tk) (htn : ts.length = tn) (hts : Lies w lo hi (.slice ta tn tc) tn 6 (ts.flatMap Tk.cells)) (hhi : hi ≤ w.heap.size) (ht2 : tn ≤ 1000) :
    Calls Try.prog 66 #[.slice ta tn tc] w fun e w' => e = .returned (.bool (ts.all okTk)) ∧ Below w.heap.size w w' := by
  have HT := Lib.hid hts
  have HTN := Lib.hid htn
  clear hts htn
  go_enter Try.func66, Try.ntmps66
  go_wp2
  go_loopw [7] (fun i wr => ∃ k : Nat, k ≤ tn ∧ i = .int .i64 k ∧ Hid ((ts.take k).all okTk = true) ∧ Below w.heap.size w wr) (fun i _ => tn - (intOf i).toNat)
  case atStart => exact ⟨0, by omega, rfl, Lib.hid rfl, Below.refl _ _⟩
  case round =>
    obtain ⟨k, hk, rfl, HA, hb⟩ := hrel
    by_cases hlt : k < tn
    · have tk : decide ((k : Int) < (tn : Int)) = true := by simpa using hlt
      obtain ⟨x, hx⟩ : ∃ x, ts[k]? = some x := ⟨_, List.getElem?_eq_getElem (by rw [HTN.out]; exact hlt)⟩
      have hlies := HT.out.keep (SameIn.of_below hb hhi)
      obtain ⟨a2, c2, e2, _, _, hc⟩ := hlies
      cases e2
      rcases hc with h0 | ⟨b, off, rfl, hb1, hb2, hc⟩
      · omega
      obtain ⟨s0, s1, s2, s3, s4, s5⟩ := Lies.tk hc hx
      have HX := Lib.hid hx
      have hbw : b < wr.heap.size := by have := hb.size; omega
      have l0 : (0 : Int) ≤ (k : Int) := by omega
      have l1 : (k : Int) < (tn : Int) := by omega
      clear hc hx
      obtain ⟨x0, x1, x2, x3, x4, x5⟩ := x
      simp only at s0 s1 s2 s3 s4 s5
      cases hok : okTk ⟨x0, x1, x2, x3, x4, x5⟩ with
      | true =>
        have HN := Lib.hid (all_next okTk ts k _ HX.out HA.out hok)
        go_wp2_with fail
        refine Calls.mono (taskRight_any x0 x1 x2 x3 x4 x5 _) ?_
        rintro e w' ⟨rfl, hb3⟩
        go_wp2_with fail
        go_roundw
        case rel => exact ⟨k + 1, by omega, by go_num, HN, (hb.alloc hb.size _).trans (hb3.mono (by simp; have := hb.size; omega))⟩
        case measure => simp [intOf]; omega
      | false =>
        have HN := Lib.hid (all_not okTk ts k _ HX.out hok)
        go_wp2_with fail
        refine Calls.mono (taskRight_any x0 x1 x2 x3 x4 x5 _) ?_
        rintro e w' ⟨rfl, hb3⟩
        go_wp2_with fail
        go_ret
        exact ⟨ret_b HN.out.symm, (hb.alloc hb.size _).trans (hb3.mono (by simp; have := hb.size; omega))⟩
    · have tk : decide ((k : Int) < (tn : Int)) = false := by simp; omega
      have HN := Lib.hid (all_end okTk ts k (by rw [HTN.out]; omega) HA.out)
      go_wp2
      go_ret
      exact ⟨ret_b HN.out.symm, hb⟩
set_option maxRecDepth 100000 in
set_option maxHeartbeats 2000000 in
theorem allSv_any (ta : Option Addr) (tn tc : Nat) (w : World) (lo hi : Nat) (ts : List Sv) (htn : ts.length = tn) (hts : Lies w lo hi (.slice ta tn tc) tn 3 (ts.flatMap Sv.cells)) (hhi : hi ≤ w.heap.size) (ht2 : tn ≤ 1000) :
    Calls Try.prog 67 #[.slice ta tn tc] w fun e w' => e = .returned (.bool (ts.all okSv)) ∧ Below w.heap.size w w' := by
  have HT := Lib.hid hts
  have HTN := Lib.hid htn
  clear hts htn
  go_enter Try.func67, Try.ntmps67
  go_wp2
  go_loopw [7] (fun i wr => ∃ k : Nat, k ≤ tn ∧ i = .int .i64 k ∧ Hid ((ts.take k).all okSv = true) ∧ Below w.heap.size w wr) (fun i _ => tn - (intOf i).toNat)
  case atStart => exact ⟨0, by omega, rfl, Lib.hid rfl, Below.refl _ _⟩
  case round =>
    obtain ⟨k, hk, rfl, HA, hb⟩ := hrel
    by_cases hlt : k < tn
    · have tk : decide ((k : Int) < (tn : Int)) = true := by simpa using hlt
      obtain ⟨x, hx⟩ : ∃ x, ts[k]? = some x := ⟨_, List.getElem?_eq_getElem (by rw [HTN.out]; exact hlt)⟩
      have hlies := HT.out.keep (SameIn.of_below hb hhi)
      obtain ⟨a2, c2, e2, _, _, hc⟩ := hlies
      cases e2
      rcases hc with h0 | ⟨b, off, rfl, hb1, hb2, hc⟩
      · omega
      obtain ⟨s0, s1, s2⟩ := Lies.sv hc hx
      have HX := Lib.hid hx
      have hbw : b < wr.heap.size := by have := hb.size; omega
      have l0 : (0 : Int) ≤ (k : Int) := by omega
      have l1 : (k : Int) < (tn : Int) := by omega
      clear hc hx
      obtain ⟨x0, x1, x2⟩ := x
      simp only at s0 s1 s2
      cases hok : okSv ⟨x0, x1, x2⟩ with
      | true =>
        have HN := Lib.hid (all_next okSv ts k _ HX.out HA.out hok)
        go_wp2_with fail
        refine Calls.mono (serverRight_any x0 x1 x2 _) ?_
        rintro e w' ⟨rfl, hb3⟩
        go_wp2_with fail
        go_roundw
        case rel => exact ⟨k + 1, by omega, by go_num, HN, (hb.alloc hb.size _).trans (hb3.mono (by simp; have := hb.size; omega))⟩
        case measure => simp [intOf]; omega
      | false =>
        have HN := Lib.hid (all_not okSv ts k _ HX.out hok)
        go_wp2_with fail
        refine Calls.mono (serverRight_any x0 x1 x2 _) ?_
        rintro e w' ⟨rfl, hb3⟩
        go_wp2_with fail
        go_ret
        exact ⟨ret_b HN.out.symm, (hb.alloc hb.size _).trans (hb3.mono (by simp; have := hb.size; omega))⟩
    · have tk : decide ((k : Int) < (tn : Int)) = false := by simp; omega
      have HN := Lib.hid (all_end okSv ts k (by rw [HTN.out]; omega) HA.out)
      go_wp2
      go_ret
      exact ⟨ret_b HN.out.symm, hb⟩
end Go.Proofs.Ytmkohnpdpcefgaa
namespace Go.Proofs.Ytmkohnpdpcefgaa
open Go.ChangeShapes Go.WideShapes Go.ChangeAt Go.RowKit
set_option linter.unusedVariables false


set_option maxRecDepth 100000 in
set_option maxHeartbeats 2000000 in
theorem knowsActs_any (ta sa da : Option Addr) (tn tc sn sc dn dc : Nat) (x0 x1 x2 : Int) (w : World) :
    Calls Try.prog 68 #[.agg #[.slice ta tn tc, .slice sa sn sc, .slice da dn dc, .int .u8 x0, .int .u8 x1, .int .u8 x2]] w fun e w' => e = .returned (.bool (okActs x0 x1 x2)) ∧ Below w.heap.size w w' := by
  have i0 : ∀ w, (Instr.index 44 (.agg #[.int .u8 x0, .int .u8 x1, .int .u8 x2]) (.int .i64 0)).run Try.prog w = .ok (.int .u8 x0) w := fun _ => by kernel_rfl
  have i1 : ∀ w, (Instr.index 44 (.agg #[.int .u8 x0, .int .u8 x1, .int .u8 x2]) (.int .i64 1)).run Try.prog w = .ok (.int .u8 x1) w := fun _ => by kernel_rfl
  have i2 : ∀ w, (Instr.index 44 (.agg #[.int .u8 x0, .int .u8 x1, .int .u8 x2]) (.int .i64 2)).run Try.prog w = .ok (.int .u8 x2) w := fun _ => by kernel_rfl
  go_enter Try.func68, Try.ntmps68
  go_wp2
  go_loopw [7] (fun i wr => ∃ k : Nat, k ≤ 3 ∧ i = .int .i64 k ∧ (0 < k → x0 ≤ 2) ∧ (1 < k → x1 ≤ 2) ∧ (2 < k → x2 ≤ 2) ∧ Below w.heap.size w wr) (fun i _ => 3 - (intOf i).toNat)
  case atStart => exact ⟨0, by omega, rfl, by omega, by omega, by omega, below1 _ _⟩
  case round =>
    obtain ⟨k, hk, rfl, a0, a1, a2, hb⟩ := hrel
    have hk4 : k = 0 ∨ k = 1 ∨ k = 2 ∨ k = 3 := by omega
    rcases hk4 with rfl | rfl | rfl | rfl
    · by_cases h : 2 < x0
      · have t : decide (2 < x0) = true := by simpa using h
        go_wp2
        go_ret
        exact ⟨ret_b (by simp [okActs]; omega), hb⟩
      · have t : decide (2 < x0) = false := by simpa using h
        go_wp2
        go_roundw
        case rel => exact ⟨1, by omega, by go_num, by omega, by omega, by omega, hb⟩
        case measure => simp [intOf]
    · by_cases h : 2 < x1
      · have t : decide (2 < x1) = true := by simpa using h
        go_wp2
        go_ret
        exact ⟨ret_b (by simp [okActs]; omega), hb⟩
      · have t : decide (2 < x1) = false := by simpa using h
        go_wp2
        go_roundw
        case rel => exact ⟨2, by omega, by go_num, by omega, by omega, by omega, hb⟩
        case measure => simp [intOf]
    · by_cases h : 2 < x2
      · have t : decide (2 < x2) = true := by simpa using h
        go_wp2
        go_ret
        exact ⟨ret_b (by simp [okActs]; omega), hb⟩
      · have t : decide (2 < x2) = false := by simpa using h
        go_wp2
        go_roundw
        case rel => exact ⟨3, by omega, by go_num, by omega, by omega, by omega, hb⟩
        case measure => simp [intOf]
    · go_wp2
      go_ret
      exact ⟨ret_b (by have := a0 (by omega); have := a1 (by omega); have := a2 (by omega); simp [okActs]; omega), hb⟩

set_option maxRecDepth 100000 in
set_option maxHeartbeats 4000000 in
theorem rights_any (ta sa da : Option Addr) (tn tc sn sc dn dc : Nat) (x0 x1 x2 : Int) (w : World) (lo hi : Nat) (ts : List Tk) (ss : List Sv) (htn : ts.length = tn) (hsn : ss.length = sn)
    (hts : Lies w lo hi (.slice ta tn tc) tn 6 (ts.flatMap Tk.cells)) (hss : Lies w lo hi (.slice sa sn sc) sn 3 (ss.flatMap Sv.cells)) (hhi : hi ≤ w.heap.size) (ht2 : tn ≤ 1000) (hs2 : sn ≤ 1000) :
    Calls Try.prog 61 #[.agg #[.slice ta tn tc, .slice sa sn sc, .slice da dn dc, .int .u8 x0, .int .u8 x1, .int .u8 x2]] w fun e w' => e = .returned (.int .i64 (wrongOf ts ss x0 x1 x2)) ∧ Below w.heap.size w w' := by
  have HT := Lib.hid hts; have HS := Lib.hid hss; have HTN := Lib.hid htn; have HSN := Lib.hid hsn
  have ctn : ∀ wr, Below w.heap.size w wr → Calls Try.prog 66 #[.slice ta tn tc] wr fun e w' => e = .returned (.bool (ts.all okTk)) ∧ Below wr.heap.size wr w' := fun wr h => allTk_any ta tn tc wr lo hi ts htn (hts.keep (SameIn.of_below h hhi)) (Nat.le_trans hhi h.size) ht2
  have csn : ∀ wr, Below w.heap.size w wr → Calls Try.prog 67 #[.slice sa sn sc] wr fun e w' => e = .returned (.bool (ss.all okSv)) ∧ Below wr.heap.size wr w' := fun wr h => allSv_any sa sn sc wr lo hi ss hsn (hss.keep (SameIn.of_below h hhi)) (Nat.le_trans hhi h.size) hs2
  have C1 := Lib.hid ctn; have C2 := Lib.hid csn
  clear hts hss ctn csn
  have B1 : Below w.heap.size w (w.alloc (.cells #[.slice ta tn tc, .slice sa sn sc, .slice da dn dc, .int .u8 x0, .int .u8 x1, .int .u8 x2] 70)) := below1 _ _
  have HB1 := Lib.hid B1; clear B1
  by_cases l1 : 6 < tn
  · have t1 : decide (6 < (tn : Int)) = true := by simp; omega
    have HR : Hid (wrongOf ts ss x0 x1 x2 = 22) := Lib.hid (by unfold wrongOf; rw [if_pos (by omega)])
    go_enter Try.func61, Try.ntmps61
    go_wp2_with fail
    go_ret
    exact ⟨by rw [HR.out]; rfl, HB1.out⟩
  have t1 : decide (6 < (tn : Int)) = false := by simp; omega
  cases a1 : ts.all okTk with
  | false =>
    have HR : Hid (wrongOf ts ss x0 x1 x2 = 22) := Lib.hid (by unfold wrongOf; rw [if_neg (by omega), if_pos a1])
    clear htn hsn
    go_enter Try.func61, Try.ntmps61
    go_wp2_with (first | (go_at_call 66; refine (C1.out _ HB1.out).mono ?_; rintro e w1 ⟨rfl, hb1⟩))
    go_ret
    exact ⟨by rw [HR.out]; rfl, HB1.out.trans (hb1.mono (by simp))⟩
  | true =>
  by_cases l2 : 3 < sn
  · have t2 : decide (3 < (sn : Int)) = true := by simp; omega
    have HR : Hid (wrongOf ts ss x0 x1 x2 = 23) := Lib.hid (by unfold wrongOf; rw [if_neg (by omega), if_neg (by rw [a1]; simp), if_pos (by omega)])
    clear htn hsn
    go_enter Try.func61, Try.ntmps61
    go_wp2_with (first | (go_at_call 66; refine (C1.out _ HB1.out).mono ?_; rintro e w1 ⟨rfl, hb1⟩; have k0 : w1.cell? ⟨w.heap.size, 1, none⟩ = some (.slice sa sn sc) := (by rw [hb1.cell (by simp)]; simp)))
    go_ret
    exact ⟨by rw [HR.out]; rfl, HB1.out.trans (hb1.mono (by simp))⟩
  have t2 : decide (3 < (sn : Int)) = false := by simp; omega
  cases a2 : ss.all okSv with
  | false =>
    have HR : Hid (wrongOf ts ss x0 x1 x2 = 23) := Lib.hid (by unfold wrongOf; rw [if_neg (by omega), if_neg (by rw [a1]; simp), if_neg (by omega), if_pos a2])
    clear htn hsn
    go_enter Try.func61, Try.ntmps61
    go_wp2_with (first
      | (go_at_call 66; refine (C1.out _ HB1.out).mono ?_; rintro e w1 ⟨rfl, hb1⟩; have k0 : w1.cell? ⟨w.heap.size, 1, none⟩ = some (.slice sa sn sc) := (by rw [hb1.cell (by simp)]; simp))
      | (go_at_call 67; refine (C2.out _ (HB1.out.trans (hb1.mono (by simp)))).mono ?_; rintro e w2 ⟨rfl, hb2⟩))
    go_ret
    exact ⟨by rw [HR.out]; rfl, (HB1.out.trans (hb1.mono (by simp))).trans (hb2.mono (by have := hb1.size; simp at this; omega))⟩
  | true =>
    have HR : Hid (wrongOf ts ss x0 x1 x2 = if okActs x0 x1 x2 = false then 26 else 0) := Lib.hid (by unfold wrongOf; rw [if_neg (by omega), if_neg (by rw [a1]; simp), if_neg (by omega), if_neg (by rw [a2]; simp)])
    clear htn hsn
    cases a3 : okActs x0 x1 x2
    all_goals
      (have HA3 := Lib.hid a3
       go_enter Try.func61, Try.ntmps61
       go_wp2_with (first
        | (go_at_call 66; refine (C1.out _ HB1.out).mono ?_; rintro e w1 ⟨rfl, hb1⟩; have k0 : w1.cell? ⟨w.heap.size, 1, none⟩ = some (.slice sa sn sc) := (by rw [hb1.cell (by simp)]; simp))
        | (go_at_call 67; refine (C2.out _ (HB1.out.trans (hb1.mono (by simp)))).mono ?_; rintro e w2 ⟨rfl, hb2⟩; have hz := hb1.size; simp at hz; have m0 : w2.cell? ⟨w.heap.size, 0, none⟩ = some (.slice ta tn tc) := (by rw [hb2.cell (by simp; omega), hb1.cell (by simp)]; simp); have m1 : w2.cell? ⟨w.heap.size, 1, none⟩ = some (.slice sa sn sc) := (by rw [hb2.cell (by simp; omega), hb1.cell (by simp)]; simp); have m2 : w2.cell? ⟨w.heap.size, 2, none⟩ = some (.slice da dn dc) := (by rw [hb2.cell (by simp; omega), hb1.cell (by simp)]; simp); have m3 : w2.cell? ⟨w.heap.size, 3, none⟩ = some (.int .u8 x0) := (by rw [hb2.cell (by simp; omega), hb1.cell (by simp)]; simp); have m4 : w2.cell? ⟨w.heap.size, 4, none⟩ = some (.int .u8 x1) := (by rw [hb2.cell (by simp; omega), hb1.cell (by simp)]; simp); have m5 : w2.cell? ⟨w.heap.size, 5, none⟩ = some (.int .u8 x2) := (by rw [hb2.cell (by simp; omega), hb1.cell (by simp)]; simp))
        | (go_at_call 68; refine (knowsActs_any _ _ _ _ _ _ _ _ _ _ _ _ _).mono ?_; rintro e w3 ⟨rfl, hb3⟩))
       go_ret
       refine ⟨by rw [HR.out, HA3.out]; rfl, ((HB1.out.trans (hb1.mono (by simp))).trans (hb2.mono (by omega))).trans (hb3.mono (by have := hb2.size; omega))⟩)
end Go.Proofs.Ytmkohnpdpcefgaa
namespace Go.Proofs.Ytmkohnpdpcefgaa
open Go.ChangeShapes Go.WideShapes Go.ChangeAt Go.RowKit
set_option linter.unusedVariables false



set_option maxRecDepth 100000 in
set_option maxHeartbeats 4000000 in
theorem refRights_any (ta sa da : Option Addr) (tn tc sn sc dn dc : Nat) (x0 x1 x2 : Int) (w : World) (lo hi : Nat) (ts : List Tk) (ss : List Sv) (htn : ts.length = tn) (hsn : ss.length = sn)
    (hts : Lies w lo hi (.slice ta tn tc) tn 6 (ts.flatMap Tk.cells)) (hss : Lies w lo hi (.slice sa sn sc) sn 3 (ss.flatMap Sv.cells)) (hhi : hi ≤ w.heap.size) (ht2 : tn ≤ 1000) (hs2 : sn ≤ 1000) :
    Calls Try.prog 34 #[.agg #[.slice ta tn tc, .slice sa sn sc, .slice da dn dc, .int .u8 x0, .int .u8 x1, .int .u8 x2]] w fun e w' => e = .returned (.int .i64 (wrongOf ts ss x0 x1 x2)) ∧ Below w.heap.size w w' := by
  obtain ⟨V, hV⟩ : ∃ V, V = w.alloc (.cells #[.slice ta tn tc, .slice sa sn sc, .slice da dn dc, .int .u8 x0, .int .u8 x1, .int .u8 x2] 46) := ⟨_, rfl⟩
  have B1 : Below w.heap.size w V := by rw [hV]; exact below1 _ _
  have hblk : V.heap[w.heap.size]? = some (.cells #[.slice ta tn tc, .slice sa sn sc, .slice da dn dc, .int .u8 x0, .int .u8 x1, .int .u8 x2] 46 (0, 0)) := by rw [hV]; exact heap_alloc_new _ _
  have hlt0 := lt_of_block hblk
  have HT := Lib.hid (hts.keep (SameIn.of_below B1 hhi)); have HS := Lib.hid (hss.keep (SameIn.of_below B1 hhi)); have HTN := Lib.hid htn; have HSN := Lib.hid hsn
  have HBK := Lib.hid hblk; have HB1 := Lib.hid B1
  have hhv : hi ≤ V.heap.size := by omega
  have HV := Lib.hid hV
  clear hts hss htn hsn hblk B1 hV
  by_cases l1 : 6 < tn
  · have t1 : decide (6 < (tn : Int)) = true := by simp; omega
    have HR : Hid (wrongOf ts ss x0 x1 x2 = 22) := Lib.hid (by unfold wrongOf; rw [if_pos (by rw [HTN.out]; omega)])
    go_enter Try.func34, Try.ntmps34
    go_wp2_with fail
    go_ret
    exact ⟨by rw [HR.out]; rfl, below1 _ _⟩
  have t1 : decide (6 < (tn : Int)) = false := by simp; omega
  have q1 : ¬ 6 < ts.length := by rw [HTN.out]; exact l1
  have Q1 := Lib.hid q1; clear q1
  go_enter Try.func34, Try.ntmps34
  go_wp2_with fail
  go_loopw [3] (fun i wr => ∃ k : Nat, k ≤ tn ∧ i = .int .i64 k ∧ Hid ((ts.take k).all okTk = true) ∧ Below V.heap.size V wr) (fun i _ => tn - (intOf i).toNat)
  case atStart => exact ⟨0, by omega, rfl, Lib.hid rfl, by rw [HV.out]; exact Below.refl _ _⟩
  case round =>
    obtain ⟨k, hk, rfl, HA, hb⟩ := hrel
    have B0 : wr.cell? ⟨w.heap.size, 0, none⟩ = some (.slice ta tn tc) := (hb.cell hlt0).trans (cell_in HBK.out rfl)
    by_cases hlt : k < tn
    · have tk : decide ((k : Int) < (tn : Int)) = true := by simpa using hlt
      obtain ⟨x, hx⟩ : ∃ x, ts[k]? = some x := ⟨_, List.getElem?_eq_getElem (by rw [HTN.out]; exact hlt)⟩
      have hlies := HT.out.keep (SameIn.of_below hb hhv)
      obtain ⟨a2, c2, e2, _, _, hc⟩ := hlies
      cases e2
      rcases hc with h0 | ⟨b, off, rfl, hb1, hb2, hc⟩
      · omega
      obtain ⟨s0, s1, s2, s3, s4, s5⟩ := Lies.tk hc hx
      have HX := Lib.hid hx
      have l0 : (0 : Int) ≤ (k : Int) := by omega
      have l1 : (k : Int) < (tn : Int) := by omega
      clear hc hx
      obtain ⟨y0, y1, y2, y3, y4, y5⟩ := x
      simp only at s0 s1 s2 s3 s4 s5
      cases hok : okTk ⟨y0, y1, y2, y3, y4, y5⟩ with
      | true =>
        have HN := Lib.hid (all_next okTk ts k _ HX.out HA.out hok)
        go_wp2_with (first | (go_at_call 52; refine (refTask_any _ _ _ _ _ _ _).mono ?_; rintro e w' ⟨rfl, hb3⟩))
        go_roundw
        case rel => exact ⟨k + 1, by omega, by go_num, HN, hb.trans (hb3.mono hb.size)⟩
        case measure => simp [intOf]; omega
      | false =>
        have HN := Lib.hid (all_not okTk ts k _ HX.out hok)
        have HR : Hid (wrongOf ts ss x0 x1 x2 = 22) := Lib.hid (by unfold wrongOf; rw [if_neg Q1.out, if_pos HN.out])
        go_wp2_with (first | (go_at_call 52; refine (refTask_any _ _ _ _ _ _ _).mono ?_; rintro e w' ⟨rfl, hb3⟩))
        go_ret
        exact ⟨by rw [HR.out]; rfl, HB1.out.trans ((hb.trans (hb3.mono hb.size)).mono HB1.out.size)⟩
    · have tk : decide ((k : Int) < (tn : Int)) = false := by simp; omega
      have HN := Lib.hid (all_end okTk ts k (by rw [HTN.out]; omega) HA.out)
      have B1 : wr.cell? ⟨w.heap.size, 1, none⟩ = some (.slice sa sn sc) := (hb.cell hlt0).trans (cell_in HBK.out rfl)
      clear HT
      by_cases l2 : 3 < sn
      · have t2 : decide (3 < (sn : Int)) = true := by simp; omega
        have HR : Hid (wrongOf ts ss x0 x1 x2 = 23) := Lib.hid (by unfold wrongOf; rw [if_neg Q1.out, if_neg (by rw [HN.out]; simp), if_pos (by rw [HSN.out]; exact l2)])
        go_wp2_with fail
        go_ret
        exact ⟨by rw [HR.out]; rfl, HB1.out.trans (hb.mono HB1.out.size)⟩
      have t2 : decide (3 < (sn : Int)) = false := by simp; omega
      have Q2 : Hid (¬ 3 < ss.length) := Lib.hid (by rw [HSN.out]; exact l2)
      have HBX := Lib.hid hb
      go_wp2_with fail
      go_loopw [4] (fun i wr => ∃ j : Nat, j ≤ sn ∧ i = .int .i64 j ∧ Hid ((ss.take j).all okSv = true) ∧ Below V.heap.size V wr) (fun i _ => sn - (intOf i).toNat)
      case atStart => exact ⟨0, by omega, rfl, Lib.hid rfl, HBX.out⟩
      case round =>
        clear B0 B1 hb HBX tk hlt
        obtain ⟨j, hj, rfl, HA2, hb⟩ := hrel
        have B1 : wr.cell? ⟨w.heap.size, 1, none⟩ = some (.slice sa sn sc) := (hb.cell hlt0).trans (cell_in HBK.out rfl)
        by_cases hlt : j < sn
        · have tk : decide ((j : Int) < (sn : Int)) = true := by simpa using hlt
          obtain ⟨x, hx⟩ : ∃ x, ss[j]? = some x := ⟨_, List.getElem?_eq_getElem (by rw [HSN.out]; exact hlt)⟩
          have hlies := HS.out.keep (SameIn.of_below hb hhv)
          obtain ⟨a2, c2, e2, _, _, hc⟩ := hlies
          cases e2
          rcases hc with h0 | ⟨b, off, rfl, hb1, hb2, hc⟩
          · omega
          obtain ⟨s0, s1, s2⟩ := Lies.sv hc hx
          have HX := Lib.hid hx
          have l0 : (0 : Int) ≤ (j : Int) := by omega
          have l1 : (j : Int) < (sn : Int) := by omega
          clear hc hx
          obtain ⟨y0, y1, y2⟩ := x
          simp only at s0 s1 s2
          cases hok : okSv ⟨y0, y1, y2⟩ with
          | true =>
            have HN2 := Lib.hid (all_next okSv ss j _ HX.out HA2.out hok)
            go_wp2_with (first | (go_at_call 53; refine (refServer_any _ _ _ _).mono ?_; rintro e w' ⟨rfl, hb3⟩))
            go_roundw
            case rel => exact ⟨j + 1, by omega, by go_num, HN2, hb.trans (hb3.mono hb.size)⟩
            case measure => simp [intOf]; omega
          | false =>
            have HN2 := Lib.hid (all_not okSv ss j _ HX.out hok)
            have HR : Hid (wrongOf ts ss x0 x1 x2 = 23) := Lib.hid (by unfold wrongOf; rw [if_neg Q1.out, if_neg (by rw [HN.out]; simp), if_neg Q2.out, if_pos HN2.out])
            go_wp2_with (first | (go_at_call 53; refine (refServer_any _ _ _ _).mono ?_; rintro e w' ⟨rfl, hb3⟩))
            go_ret
            exact ⟨by rw [HR.out]; rfl, HB1.out.trans ((hb.trans (hb3.mono hb.size)).mono HB1.out.size)⟩
        · have tk : decide ((j : Int) < (sn : Int)) = false := by simp; omega
          have HN2 := Lib.hid (all_end okSv ss j (by rw [HSN.out]; omega) HA2.out)
          have HR : Hid (wrongOf ts ss x0 x1 x2 = if okActs x0 x1 x2 = false then 26 else 0) := Lib.hid (by unfold wrongOf; rw [if_neg Q1.out, if_neg (by rw [HN.out]; simp), if_neg Q2.out, if_neg (by rw [HN2.out]; simp)])
          have HBX := Lib.hid hb
          go_wp2_with fail
          go_loopw [5] (fun i wr => ∃ m : Nat, m ≤ 3 ∧ i = .int .i64 m ∧ (0 < m → x0 ≤ 2) ∧ (1 < m → x1 ≤ 2) ∧ (2 < m → x2 ≤ 2) ∧ Below V.heap.size V wr) (fun i _ => 3 - (intOf i).toNat)
          case atStart => exact ⟨0, by omega, rfl, by omega, by omega, by omega, HBX.out⟩
          case round =>
            clear B1 hb HBX tk hlt
            obtain ⟨m, hm, rfl, a0, a1, a2, hb⟩ := hrel
            have HBX := Lib.hid (HB1.out.trans (hb.mono HB1.out.size))
            have c3 : wr.cell? ⟨w.heap.size, 3, none⟩ = some (.int .u8 x0) := (hb.cell hlt0).trans (cell_in HBK.out rfl)
            have c4 : wr.cell? ⟨w.heap.size, 4, none⟩ = some (.int .u8 x1) := (hb.cell hlt0).trans (cell_in HBK.out rfl)
            have c5 : wr.cell? ⟨w.heap.size, 5, none⟩ = some (.int .u8 x2) := (hb.cell hlt0).trans (cell_in HBK.out rfl)
            have hm4 : m = 0 ∨ m = 1 ∨ m = 2 ∨ m = 3 := by omega
            rcases hm4 with rfl | rfl | rfl | rfl
            · by_cases h : 2 < x0
              · have t : decide (2 < x0) = true := by simpa using h
                have HK : Hid (okActs x0 x1 x2 = false) := Lib.hid (by simp [okActs]; omega)
                go_wp2
                go_ret
                exact ⟨by rw [HR.out, HK.out]; rfl, HBX.out⟩
              · have t : decide (2 < x0) = false := by simpa using h
                go_wp2
                go_roundw
                case rel => exact ⟨1, by omega, by go_num, by omega, by omega, by omega, hb⟩
                case measure => simp [intOf]
            · by_cases h : 2 < x1
              · have t : decide (2 < x1) = true := by simpa using h
                have HK : Hid (okActs x0 x1 x2 = false) := Lib.hid (by simp [okActs]; omega)
                go_wp2
                go_ret
                exact ⟨by rw [HR.out, HK.out]; rfl, HBX.out⟩
              · have t : decide (2 < x1) = false := by simpa using h
                go_wp2
                go_roundw
                case rel => exact ⟨2, by omega, by go_num, by omega, by omega, by omega, hb⟩
                case measure => simp [intOf]
            · by_cases h : 2 < x2
              · have t : decide (2 < x2) = true := by simpa using h
                have HK : Hid (okActs x0 x1 x2 = false) := Lib.hid (by simp [okActs]; omega)
                go_wp2
                go_ret
                exact ⟨by rw [HR.out, HK.out]; rfl, HBX.out⟩
              · have t : decide (2 < x2) = false := by simpa using h
                go_wp2
                go_roundw
                case rel => exact ⟨3, by omega, by go_num, by omega, by omega, by omega, hb⟩
                case measure => simp [intOf]
            · have HK : Hid (okActs x0 x1 x2 = true) := Lib.hid (by have := a0 (by omega); have := a1 (by omega); have := a2 (by omega); simp [okActs]; omega)
              go_wp2
              go_ret
              exact ⟨by rw [HR.out, HK.out]; rfl, HBX.out⟩
end Go.Proofs.Ytmkohnpdpcefgaa
