/- The walks of the layer of systems: what is wrong with a partition. -/
import Derived.Test.YtiojmekoemlmkaaConfG
namespace Go.Proofs.Ytiojmekoemlmkaa
open Go.ChangeShapes Go.WideShapes Go.ChangeAt Go.RowKit
set_option linter.unusedVariables false

def okActs (x0 x1 x2 : Int) : Bool := decide (x0 ≤ 2 ∧ x1 ≤ 2 ∧ x2 ≤ 2)
def wrongOf (ts : List Tk) (ss : List Sv) (x0 x1 x2 : Int) : Int := if 6 < ts.length then 22 else if ts.all okTk = false then 22 else if 3 < ss.length then 23 else if ss.all okSv = false then 23 else if okActs x0 x1 x2 = false then 26 else 0

set_option maxRecDepth 100000 in
set_option maxHeartbeats 2000000 in
theorem knowsActs_any (ta sa da : Option Addr) (tn tc sn sc dn dc : Nat) (x0 x1 x2 : Int) (w : World) :
    Calls Try.prog 65 #[.agg #[.slice ta tn tc, .slice sa sn sc, .slice da dn dc, .int .u8 x0, .int .u8 x1, .int .u8 x2]] w fun e w' => e = .returned (.bool (okActs x0 x1 x2)) ∧ Below w.heap.size w w' := by
  have i0 : ∀ w, (Instr.index 53 (.agg #[.int .u8 x0, .int .u8 x1, .int .u8 x2]) (.int .i64 0)).run Try.prog w = .ok (.int .u8 x0) w := fun _ => by kernel_rfl
  have i1 : ∀ w, (Instr.index 53 (.agg #[.int .u8 x0, .int .u8 x1, .int .u8 x2]) (.int .i64 1)).run Try.prog w = .ok (.int .u8 x1) w := fun _ => by kernel_rfl
  have i2 : ∀ w, (Instr.index 53 (.agg #[.int .u8 x0, .int .u8 x1, .int .u8 x2]) (.int .i64 2)).run Try.prog w = .ok (.int .u8 x2) w := fun _ => by kernel_rfl
  go_enter Try.func65, Try.ntmps65
  go_wp2
  go_loopw [7] (fun i wr => ∃ k : Nat, k ≤ 3 ∧ i = .int .i64 k ∧ (0 < k → x0 ≤ 2) ∧ (1 < k → x1 ≤ 2) ∧ (2 < k → x2 ≤ 2) ∧ Below w.heap.size w wr) (fun i _ => 3 - (intOf i).toNat)
  case atStart => exact ⟨0, by omega, rfl, by omega, by omega, by omega, below1 _ _⟩
  case round =>
    obtain ⟨k, hk, rfl, a0, a1, a2, hb⟩ := hrel
    have hk4 : k = 0 ∨ k = 1 ∨ k = 2 ∨ k = 3 := by omega
    rcases hk4 with rfl | rfl | rfl | rfl
    · by_cases h : 2 < x0
      · have t : decide (2 < x0) = true := by simpa using h
        go_wp2
        go_ret
        exact ⟨ret_b (by simp [okActs]; omega), hb⟩
      · have t : decide (2 < x0) = false := by simpa using h
        go_wp2
        go_roundw
        case rel => exact ⟨1, by omega, by go_num, by omega, by omega, by omega, hb⟩
        case measure => simp [intOf]
    · by_cases h : 2 < x1
      · have t : decide (2 < x1) = true := by simpa using h
        go_wp2
        go_ret
        exact ⟨ret_b (by simp [okActs]; omega), hb⟩
      · have t : decide (2 < x1) = false := by simpa using h
        go_wp2
        go_roundw
        case rel => exact ⟨2, by omega, by go_num, by omega, by omega, by omega, hb⟩
        case measure => simp [intOf]
    · by_cases h : 2 < x2
      · have t : decide (2 < x2) = true := by simpa using h
        go_wp2
        go_ret
        exact ⟨ret_b (by simp [okActs]; omega), hb⟩
      · have t : decide (2 < x2) = false := by simpa using h
        go_wp2
        go_roundw
        case rel => exact ⟨3, by omega, by go_num, by omega, by omega, by omega, hb⟩
        case measure => simp [intOf]
    · go_wp2
      go_ret
      exact ⟨ret_b (by have := a0 (by omega); have := a1 (by omega); have := a2 (by omega); simp [okActs]; omega), hb⟩

set_option maxRecDepth 100000 in
set_option maxHeartbeats 4000000 in
theorem rights_any (ta sa da : Option Addr) (tn tc sn sc dn dc : Nat) (x0 x1 x2 : Int) (w : World) (lo hi : Nat) (ts : List Tk) (ss : List Sv) (htn : ts.length = tn) (hsn : ss.length = sn)
    (hts : Lies w lo hi (.slice ta tn tc) tn 6 (ts.flatMap Tk.cells)) (hss : Lies w lo hi (.slice sa sn sc) sn 3 (ss.flatMap Sv.cells)) (hhi : hi ≤ w.heap.size) (ht2 : tn ≤ 1000) (hs2 : sn ≤ 1000) :
    Calls Try.prog 49 #[.agg #[.slice ta tn tc, .slice sa sn sc, .slice da dn dc, .int .u8 x0, .int .u8 x1, .int .u8 x2]] w fun e w' => e = .returned (.int .i64 (wrongOf ts ss x0 x1 x2)) ∧ Below w.heap.size w w' := by
  have HT := Lib.hid hts; have HS := Lib.hid hss; have HTN := Lib.hid htn; have HSN := Lib.hid hsn
  have ctn : ∀ wr, Below w.heap.size w wr → Calls Try.prog 63 #[.slice ta tn tc] wr fun e w' => e = .returned (.bool (ts.all okTk)) ∧ Below wr.heap.size wr w' := fun wr h => allTk_any ta tn tc wr lo hi ts htn (hts.keep (SameIn.of_below h hhi)) (Nat.le_trans hhi h.size) ht2
  have csn : ∀ wr, Below w.heap.size w wr → Calls Try.prog 64 #[.slice sa sn sc] wr fun e w' => e = .returned (.bool (ss.all okSv)) ∧ Below wr.heap.size wr w' := fun wr h => allSv_any sa sn sc wr lo hi ss hsn (hss.keep (SameIn.of_below h hhi)) (Nat.le_trans hhi h.size) hs2
  have C1 := Lib.hid ctn; have C2 := Lib.hid csn
  clear hts hss ctn csn
  have B1 : Below w.heap.size w (w.alloc (.cells #[.slice ta tn tc, .slice sa sn sc, .slice da dn dc, .int .u8 x0, .int .u8 x1, .int .u8 x2] 55)) := below1 _ _
  have HB1 := Lib.hid B1; clear B1
  by_cases l1 : 6 < tn
  · have t1 : decide (6 < (tn : Int)) = true := by simp; omega
    have HR : Hid (wrongOf ts ss x0 x1 x2 = 22) := Lib.hid (by unfold wrongOf; rw [if_pos (by omega)])
    go_enter Try.func49, Try.ntmps49
    go_wp2_with fail
    go_ret
    exact ⟨by rw [HR.out]; rfl, HB1.out⟩
  have t1 : decide (6 < (tn : Int)) = false := by simp; omega
  cases a1 : ts.all okTk with
  | false =>
    have HR : Hid (wrongOf ts ss x0 x1 x2 = 22) := Lib.hid (by unfold wrongOf; rw [if_neg (by omega), if_pos a1])
    clear htn hsn
    go_enter Try.func49, Try.ntmps49
    go_wp2_with (first | (go_at_call 63; refine (C1.out _ HB1.out).mono ?_; rintro e w1 ⟨rfl, hb1⟩))
    go_ret
    exact ⟨by rw [HR.out]; rfl, HB1.out.trans (hb1.mono (by simp))⟩
  | true =>
  by_cases l2 : 3 < sn
  · have t2 : decide (3 < (sn : Int)) = true := by simp; omega
    have HR : Hid (wrongOf ts ss x0 x1 x2 = 23) := Lib.hid (by unfold wrongOf; rw [if_neg (by omega), if_neg (by rw [a1]; simp), if_pos (by omega)])
    clear htn hsn
    go_enter Try.func49, Try.ntmps49
    go_wp2_with (first | (go_at_call 63; refine (C1.out _ HB1.out).mono ?_; rintro e w1 ⟨rfl, hb1⟩; have k0 : w1.cell? ⟨w.heap.size, 1, none⟩ = some (.slice sa sn sc) := (by rw [hb1.cell (by simp)]; simp)))
    go_ret
    exact ⟨by rw [HR.out]; rfl, HB1.out.trans (hb1.mono (by simp))⟩
  have t2 : decide (3 < (sn : Int)) = false := by simp; omega
  cases a2 : ss.all okSv with
  | false =>
    have HR : Hid (wrongOf ts ss x0 x1 x2 = 23) := Lib.hid (by unfold wrongOf; rw [if_neg (by omega), if_neg (by rw [a1]; simp), if_neg (by omega), if_pos a2])
    clear htn hsn
    go_enter Try.func49, Try.ntmps49
    go_wp2_with (first
      | (go_at_call 63; refine (C1.out _ HB1.out).mono ?_; rintro e w1 ⟨rfl, hb1⟩; have k0 : w1.cell? ⟨w.heap.size, 1, none⟩ = some (.slice sa sn sc) := (by rw [hb1.cell (by simp)]; simp))
      | (go_at_call 64; refine (C2.out _ (HB1.out.trans (hb1.mono (by simp)))).mono ?_; rintro e w2 ⟨rfl, hb2⟩))
    go_ret
    exact ⟨by rw [HR.out]; rfl, (HB1.out.trans (hb1.mono (by simp))).trans (hb2.mono (by have := hb1.size; simp at this; omega))⟩
  | true =>
    have HR : Hid (wrongOf ts ss x0 x1 x2 = if okActs x0 x1 x2 = false then 26 else 0) := Lib.hid (by unfold wrongOf; rw [if_neg (by omega), if_neg (by rw [a1]; simp), if_neg (by omega), if_neg (by rw [a2]; simp)])
    clear htn hsn
    cases a3 : okActs x0 x1 x2
    all_goals
      (have HA3 := Lib.hid a3
       go_enter Try.func49, Try.ntmps49
       go_wp2_with (first
        | (go_at_call 63; refine (C1.out _ HB1.out).mono ?_; rintro e w1 ⟨rfl, hb1⟩; have k0 : w1.cell? ⟨w.heap.size, 1, none⟩ = some (.slice sa sn sc) := (by rw [hb1.cell (by simp)]; simp))
        | (go_at_call 64; refine (C2.out _ (HB1.out.trans (hb1.mono (by simp)))).mono ?_; rintro e w2 ⟨rfl, hb2⟩; have hz := hb1.size; simp at hz; have m0 : w2.cell? ⟨w.heap.size, 0, none⟩ = some (.slice ta tn tc) := (by rw [hb2.cell (by simp; omega), hb1.cell (by simp)]; simp); have m1 : w2.cell? ⟨w.heap.size, 1, none⟩ = some (.slice sa sn sc) := (by rw [hb2.cell (by simp; omega), hb1.cell (by simp)]; simp); have m2 : w2.cell? ⟨w.heap.size, 2, none⟩ = some (.slice da dn dc) := (by rw [hb2.cell (by simp; omega), hb1.cell (by simp)]; simp); have m3 : w2.cell? ⟨w.heap.size, 3, none⟩ = some (.int .u8 x0) := (by rw [hb2.cell (by simp; omega), hb1.cell (by simp)]; simp); have m4 : w2.cell? ⟨w.heap.size, 4, none⟩ = some (.int .u8 x1) := (by rw [hb2.cell (by simp; omega), hb1.cell (by simp)]; simp); have m5 : w2.cell? ⟨w.heap.size, 5, none⟩ = some (.int .u8 x2) := (by rw [hb2.cell (by simp; omega), hb1.cell (by simp)]; simp))
        | (go_at_call 65; refine (knowsActs_any _ _ _ _ _ _ _ _ _ _ _ _ _).mono ?_; rintro e w3 ⟨rfl, hb3⟩))
       go_ret
       refine ⟨by rw [HR.out, HA3.out]; rfl, ((HB1.out.trans (hb1.mono (by simp))).trans (hb2.mono (by omega))).trans (hb3.mono (by have := hb2.size; omega))⟩)
end Go.Proofs.Ytiojmekoemlmkaa
