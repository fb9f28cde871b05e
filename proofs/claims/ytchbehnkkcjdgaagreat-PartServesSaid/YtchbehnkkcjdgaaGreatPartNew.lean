/- Joined of PartN, PartO, PartK, PartL, PartI: The program's partition: what New makes: a budget, a desk, a board; what is right, of rows of any length. -/
import Derived.Test.YtchbehnkkcjdgaaGreatPartMid
import Derived.Test.YtchbehnkkcjdgaaGreatRights
import Derived.Test.YtchbehnkkcjdgaaGreatBuild
import Derived.Lib.SliceRun
import Derived.Deep.CutRange
import Derived.Deep.CutBlock
namespace Go.Proofs.YtchbehnkkcjdgaaGreat
open Go.ChangeShapes Go.WideShapes Go.ChangeAt Go.RowKit
set_option linter.unusedVariables false
set_option maxRecDepth 100000 in
set_option maxHeartbeats 8000000 in
theorem newbud_any (re : Bool) (c t st : Int) (w : World) (hs : okSv ⟨re, c, t⟩ = true) (h0 : 0 ≤ st) (h1 : st ≤ 4611686018427387904) :
 Calls Tryz.prog 92 #[.agg #[.bool re, .int .i64 c, .int .i64 t], .int .i64 st] w fun e w' => ∃ B S, e = .returned (budV B (Bud.new ⟨re, c, t⟩ st).isR) ∧ BudAt B ⟨re, c, t⟩ st (Bud.new ⟨re, c, t⟩ st) w' S ∧ (∀ k, S k → w.heap.size ≤ k) ∧ Below w.heap.size w w' := by
 have HB1 : Hid (Below w.heap.size w (w.alloc (.cells #[.bool re, .int .i64 c, .int .i64 t] 114))) := Lib.hid (below1 _ _)
 cases re with
 | true =>
   have HN := Lib.hid (fun W => refillOk.new_yes true c t st W (by unfold newOk; rw [hs, decide_eq_true h0, decide_eq_true h1]; rfl))
   clear hs h0 h1
   go_enter Tryz.func92, Tryz.ntmps92
   go_wp2_with (first
    | (go_at_call 141; refine (HN.out _).mono ?_; rintro e w3 ⟨H, S3, rfl, h3', s3', b3'⟩; have h3 := Lib.hid h3'; have g3 := Lib.hid (And.intro b3' s3'); clear h3' s3' b3')
    | fail "no arm")
   go_ret
   have hz := HB1.out.size
   exact ⟨H, S3, rfl, h3.out, fun k hk => Nat.le_trans hz (g3.out.2 k hk), HB1.out.trans (g3.out.1.mono hz)⟩
 | false =>
   have HN := Lib.hid (fun W => chunkOk.new_yes false c t W hs)
   clear hs h0 h1
   go_enter Tryz.func92, Tryz.ntmps92
   go_wp2_with (first
    | (go_at_call 142; refine (HN.out _).mono ?_; rintro e w3 ⟨H, S3, rfl, h3', s3', b3'⟩; have h3 := Lib.hid h3'; have g3 := Lib.hid (And.intro b3' s3'); clear h3' s3' b3')
    | fail "no arm")
   go_ret
   have hz := HB1.out.size
   exact ⟨H, S3, rfl, h3.out, fun k hk => Nat.le_trans hz (g3.out.2 k hk), HB1.out.trans (g3.out.1.mono hz)⟩
theorem Tryz.sizeDesk : (Tryz.prog.info? 119).map (·.size) = some 3 := by kernel_rfl
set_option maxRecDepth 100000 in
set_option maxHeartbeats 8000000 in
theorem newdesk_true (c t st : Int) (w : World) (hs : okSv ⟨true, c, t⟩ = true) (h0 : 0 ≤ st) (h1 : st ≤ 4611686018427387904) :
 Calls Tryz.prog 39 #[.agg #[.bool true, .int .i64 c, .int .i64 t], .int .i64 st] w fun e w' => ∃ B R S, e = .returned (.agg #[.iface 219 (.pointer (some ⟨B, 0, none⟩)), .pointer (some ⟨R, 0, none⟩), .int .i64 0]) ∧ DskAt B R ⟨true, c, t⟩ st (Dk.new ⟨true, c, t⟩ st) w' S ∧ (∀ k, S k → w.heap.size ≤ k) ∧ Below w.heap.size w w' := by
 have HN : Hid (∀ W : World, Calls Tryz.prog 92 #[.agg #[.bool true, .int .i64 c, .int .i64 t], .int .i64 st] W fun e w' => ∃ B S, e = .returned (.iface 219 (.pointer (some ⟨B, 0, none⟩))) ∧ BudAt B ⟨true, c, t⟩ st (Bud.new ⟨true, c, t⟩ st) w' S ∧ (∀ k, S k → W.heap.size ≤ k) ∧ Below W.heap.size W w') := Lib.hid (fun W => newbud_any true c t st W hs h0 h1)
 have HQ := Lib.hid rq_new
 obtain ⟨V, hV⟩ : ∃ V, V = (w.alloc (.cells #[.bool true, .int .i64 c, .int .i64 t] 114)).alloc (.cells #[.nilIface, .pointer none, .int .i64 0] 119) := ⟨_, rfl⟩
 obtain ⟨E, hE⟩ : ∃ E, E = w.heap.size + 1 := ⟨_, rfl⟩
 have hbV : Below w.heap.size w V := by rw [hV]; exact (below1 _ _).alloc (by simp) _
 have hEV : V.heap[E]? = some (.cells #[.nilIface, .pointer none, .int .i64 0] 119 (0, 0)) := by rw [hV, hE, show w.heap.size + 1 = (w.alloc (.cells #[.bool true, .int .i64 c, .int .i64 t] 114)).heap.size by simp]; exact heap_alloc_new _ _
 have k0 : V.cell? ⟨w.heap.size, 0, none⟩ = some (.bool true) := by rw [hV]; simp
 have k1 : V.cell? ⟨w.heap.size, 1, none⟩ = some (.int .i64 c) := by rw [hV]; simp
 have k2 : V.cell? ⟨w.heap.size, 2, none⟩ = some (.int .i64 t) := by rw [hV]; simp
 have HV := Lib.hid hV
 have HE := Lib.hid hE
 have HEV := Lib.hid hEV
 have HBV := Lib.hid hbV
 clear hs h0 h1 hV hE hEV hbV
 go_enter Tryz.func39, Tryz.ntmps39
 go_upto_region 1 with fail
 try rw [← HV.out, ← HE.out]
 go_wp2_with (first
  | (go_at_call 92; refine (HN.out _).mono ?_; rintro e w3 ⟨B, S3, rfl, h3', s3', b3'⟩; have h3 := Lib.hid h3'; have g3 := Lib.hid (And.intro b3' s3'); clear h3' s3' b3')
  | (go_at_call 93; go_loud (refine (HQ.out _).mono ?_; rintro e w4 ⟨R, S4, rfl, h4', s4', b4'⟩; have h4 := Lib.hid h4'; have g4 := Lib.hid (And.intro b4' s4'); have hEw : w4.heap[E]? = some (.cells #[.nilIface, .pointer none, .int .i64 0] 119 (0, 0)) := (by have hl := lt_of_block HEV.out; have := g3.out.1.size; rw [g4.out.1.block E (by omega), g3.out.1.block E hl]; exact HEV.out); have u0 : w4.cell? ⟨E, 0, none⟩ = some (.nilIface) := cell_in hEw rfl; have u1 : w4.cell? ⟨E, 1, none⟩ = some (.pointer none) := cell_in hEw rfl; have u2 : w4.cell? ⟨E, 2, none⟩ = some (.int .i64 0) := cell_in hEw rfl; have y0 := free_in hEw 0; have y1 := free_in hEw 1; have y2 := free_in hEw 2; have HEw := Lib.hid hEw; clear h4' s4' b4' hEw))
  | fail "no arm")
 have hX := set3c HEw.out rfl (.iface 219 (.pointer (some ⟨B, 0, none⟩))) (.pointer (some ⟨R, 0, none⟩)) (.int .i64 0)
 refine bodyPost_ret (results_cell_row (P := Tryz.prog) rfl _ _ E _ _ (0, 0) _ rfl hX Tryz.underlying119 rfl Tryz.sizeDesk) rfl ?_
 have hz := HBV.out.size
 have hz3 := g3.out.1.size
 have hz4 := g4.out.1.size
 have hE := HE.out
 have hb4 : Below w.heap.size w w4 := (HBV.out.trans (g3.out.1.mono hz)).trans (g4.out.1.mono (by omega))
 have hbw : Below w.heap.size w (((w4.setCell ⟨E, 0, none⟩ (.iface 219 (.pointer (some ⟨B, 0, none⟩)))).setCell ⟨E, 1, none⟩ (.pointer (some ⟨R, 0, none⟩))).setCell ⟨E, 2, none⟩ (.int .i64 0)) := ((hb4.setCell (p := ⟨E, 0, none⟩) (by rw [hE]; exact Nat.le_succ _) _).setCell (p := ⟨E, 1, none⟩) (by rw [hE]; exact Nat.le_succ _) _).setCell (p := ⟨E, 2, none⟩) (by rw [hE]; exact Nat.le_succ _) _
 have hEl : E < V.heap.size := lt_of_block HEV.out
 have hbe : But E w4 (((w4.setCell ⟨E, 0, none⟩ (.iface 219 (.pointer (some ⟨B, 0, none⟩)))).setCell ⟨E, 1, none⟩ (.pointer (some ⟨R, 0, none⟩))).setCell ⟨E, 2, none⟩ (.int .i64 0)) := (((But.refl E w4).set 0 _).set 1 _).set 2 _
 have h3w : BudAt B ⟨true, c, t⟩ st (Bud.new ⟨true, c, t⟩ st) w4 S3 := (bud_own _ _ _ _).keep h3.out (fun k hk => g4.out.1.block k ((bud_own _ _ _ _).lt h3.out k hk)) hz4
 refine ⟨B, R, fun k => S3 k ∨ S4 k, rfl, ⟨S3, S4, (bud_own _ _ _ _).keep h3w (fun k hk => hbe.block k ((bud_own _ _ _ _).lt h3w k hk) (fun e => by have := g3.out.2 k hk; omega)) hbe.size, (rq_own R _).keep h4.out (fun k hk => hbe.block k ((rq_own R _).lt h4.out k hk) (fun e => by have := g4.out.2 k hk; omega)) hbe.size, fun k h5 h6 => ?_, fun _ => Iff.rfl⟩, fun k hk => ?_, hbw⟩
 ·have := (bud_own _ _ _ _).lt h3.out k h5
  have := g4.out.2 k h6
  omega
 ·rcases hk with hk | hk
  ·have := g3.out.2 k hk; omega
  ·have := g4.out.2 k hk; omega
set_option maxRecDepth 100000 in
set_option maxHeartbeats 8000000 in
theorem newdesk_false (c t st : Int) (w : World) (hs : okSv ⟨false, c, t⟩ = true) (h0 : 0 ≤ st) (h1 : st ≤ 4611686018427387904) :
 Calls Tryz.prog 39 #[.agg #[.bool false, .int .i64 c, .int .i64 t], .int .i64 st] w fun e w' => ∃ B R S, e = .returned (.agg #[.iface 221 (.pointer (some ⟨B, 0, none⟩)), .pointer (some ⟨R, 0, none⟩), .int .i64 0]) ∧ DskAt B R ⟨false, c, t⟩ st (Dk.new ⟨false, c, t⟩ st) w' S ∧ (∀ k, S k → w.heap.size ≤ k) ∧ Below w.heap.size w w' := by
 have HN : Hid (∀ W : World, Calls Tryz.prog 92 #[.agg #[.bool false, .int .i64 c, .int .i64 t], .int .i64 st] W fun e w' => ∃ B S, e = .returned (.iface 221 (.pointer (some ⟨B, 0, none⟩))) ∧ BudAt B ⟨false, c, t⟩ st (Bud.new ⟨false, c, t⟩ st) w' S ∧ (∀ k, S k → W.heap.size ≤ k) ∧ Below W.heap.size W w') := Lib.hid (fun W => newbud_any false c t st W hs h0 h1)
 have HQ := Lib.hid rq_new
 obtain ⟨V, hV⟩ : ∃ V, V = (w.alloc (.cells #[.bool false, .int .i64 c, .int .i64 t] 114)).alloc (.cells #[.nilIface, .pointer none, .int .i64 0] 119) := ⟨_, rfl⟩
 obtain ⟨E, hE⟩ : ∃ E, E = w.heap.size + 1 := ⟨_, rfl⟩
 have hbV : Below w.heap.size w V := by rw [hV]; exact (below1 _ _).alloc (by simp) _
 have hEV : V.heap[E]? = some (.cells #[.nilIface, .pointer none, .int .i64 0] 119 (0, 0)) := by rw [hV, hE, show w.heap.size + 1 = (w.alloc (.cells #[.bool false, .int .i64 c, .int .i64 t] 114)).heap.size by simp]; exact heap_alloc_new _ _
 have k0 : V.cell? ⟨w.heap.size, 0, none⟩ = some (.bool false) := by rw [hV]; simp
 have k1 : V.cell? ⟨w.heap.size, 1, none⟩ = some (.int .i64 c) := by rw [hV]; simp
 have k2 : V.cell? ⟨w.heap.size, 2, none⟩ = some (.int .i64 t) := by rw [hV]; simp
 have HV := Lib.hid hV
 have HE := Lib.hid hE
 have HEV := Lib.hid hEV
 have HBV := Lib.hid hbV
 clear hs h0 h1 hV hE hEV hbV
 go_enter Tryz.func39, Tryz.ntmps39
 go_upto_region 1 with fail
 try rw [← HV.out, ← HE.out]
 go_wp2_with (first
  | (go_at_call 92; refine (HN.out _).mono ?_; rintro e w3 ⟨B, S3, rfl, h3', s3', b3'⟩; have h3 := Lib.hid h3'; have g3 := Lib.hid (And.intro b3' s3'); clear h3' s3' b3')
  | (go_at_call 93; go_loud (refine (HQ.out _).mono ?_; rintro e w4 ⟨R, S4, rfl, h4', s4', b4'⟩; have h4 := Lib.hid h4'; have g4 := Lib.hid (And.intro b4' s4'); have hEw : w4.heap[E]? = some (.cells #[.nilIface, .pointer none, .int .i64 0] 119 (0, 0)) := (by have hl := lt_of_block HEV.out; have := g3.out.1.size; rw [g4.out.1.block E (by omega), g3.out.1.block E hl]; exact HEV.out); have u0 : w4.cell? ⟨E, 0, none⟩ = some (.nilIface) := cell_in hEw rfl; have u1 : w4.cell? ⟨E, 1, none⟩ = some (.pointer none) := cell_in hEw rfl; have u2 : w4.cell? ⟨E, 2, none⟩ = some (.int .i64 0) := cell_in hEw rfl; have y0 := free_in hEw 0; have y1 := free_in hEw 1; have y2 := free_in hEw 2; have HEw := Lib.hid hEw; clear h4' s4' b4' hEw))
  | fail "no arm")
 have hX := set3c HEw.out rfl (.iface 221 (.pointer (some ⟨B, 0, none⟩))) (.pointer (some ⟨R, 0, none⟩)) (.int .i64 0)
 refine bodyPost_ret (results_cell_row (P := Tryz.prog) rfl _ _ E _ _ (0, 0) _ rfl hX Tryz.underlying119 rfl Tryz.sizeDesk) rfl ?_
 have hz := HBV.out.size
 have hz3 := g3.out.1.size
 have hz4 := g4.out.1.size
 have hE := HE.out
 have hb4 : Below w.heap.size w w4 := (HBV.out.trans (g3.out.1.mono hz)).trans (g4.out.1.mono (by omega))
 have hbw : Below w.heap.size w (((w4.setCell ⟨E, 0, none⟩ (.iface 221 (.pointer (some ⟨B, 0, none⟩)))).setCell ⟨E, 1, none⟩ (.pointer (some ⟨R, 0, none⟩))).setCell ⟨E, 2, none⟩ (.int .i64 0)) := ((hb4.setCell (p := ⟨E, 0, none⟩) (by rw [hE]; exact Nat.le_succ _) _).setCell (p := ⟨E, 1, none⟩) (by rw [hE]; exact Nat.le_succ _) _).setCell (p := ⟨E, 2, none⟩) (by rw [hE]; exact Nat.le_succ _) _
 have hEl : E < V.heap.size := lt_of_block HEV.out
 have hbe : But E w4 (((w4.setCell ⟨E, 0, none⟩ (.iface 221 (.pointer (some ⟨B, 0, none⟩)))).setCell ⟨E, 1, none⟩ (.pointer (some ⟨R, 0, none⟩))).setCell ⟨E, 2, none⟩ (.int .i64 0)) := (((But.refl E w4).set 0 _).set 1 _).set 2 _
 have h3w : BudAt B ⟨false, c, t⟩ st (Bud.new ⟨false, c, t⟩ st) w4 S3 := (bud_own _ _ _ _).keep h3.out (fun k hk => g4.out.1.block k ((bud_own _ _ _ _).lt h3.out k hk)) hz4
 refine ⟨B, R, fun k => S3 k ∨ S4 k, rfl, ⟨S3, S4, (bud_own _ _ _ _).keep h3w (fun k hk => hbe.block k ((bud_own _ _ _ _).lt h3w k hk) (fun e => by have := g3.out.2 k hk; omega)) hbe.size, (rq_own R _).keep h4.out (fun k hk => hbe.block k ((rq_own R _).lt h4.out k hk) (fun e => by have := g4.out.2 k hk; omega)) hbe.size, fun k h5 h6 => ?_, fun _ => Iff.rfl⟩, fun k hk => ?_, hbw⟩
 ·have := (bud_own _ _ _ _).lt h3.out k h5
  have := g4.out.2 k h6
  omega
 ·rcases hk with hk | hk
  ·have := g3.out.2 k hk; omega
  ·have := g4.out.2 k hk; omega
theorem newdesk_any (s : Sv) (st : Int) (w : World) (hs : okSv s = true) (h0 : 0 ≤ st) (h1 : st ≤ 4611686018427387904) :
 Calls Tryz.prog 39 #[.agg #[.bool s.re, .int .i64 s.c, .int .i64 s.t], .int .i64 st] w fun e w' => ∃ B R S, e = .returned (.agg #[budV B (Dk.new s st).bud.isR, .pointer (some ⟨R, 0, none⟩), .int .i64 0]) ∧ DskAt B R s st (Dk.new s st) w' S ∧ (∀ k, S k → w.heap.size ≤ k) ∧ Below w.heap.size w w' := by
 obtain ⟨re, c, t⟩ := s
 cases re
 ·exact newdesk_false c t st w hs h0 h1
 ·exact newdesk_true c t st w hs h0 h1
end Go.Proofs.YtchbehnkkcjdgaaGreat
namespace Go.Proofs.YtchbehnkkcjdgaaGreat
open Go.ChangeShapes Go.WideShapes Go.ChangeAt Go.RowKit
set_option linter.unusedVariables false
set_option maxRecDepth 100000 in
set_option maxHeartbeats 4000000 in
theorem rights_wide (ta sa da : Option Addr) (tn tc sn sc dn dc : Nat) (x0 x1 x2 : Int) (w : World) (ts : List Tk) (ss : List Sv) (htn : ts.length = tn) (hsn : ss.length = sn)
 (hts : Lies w 0 w.heap.size (.slice ta tn tc) tn 6 (ts.flatMap Tk.cells)) (hss : Lies w 0 w.heap.size (.slice sa sn sc) sn 3 (ss.flatMap Sv.cells)) :
 Calls Tryz.prog 37 #[.agg #[.slice ta tn tc, .slice sa sn sc, .slice da dn dc, .int .u8 x0, .int .u8 x1, .int .u8 x2]] w fun e w' => e = .returned (.int .i64 (wrongOf ts ss x0 x1 x2)) ∧ Below w.heap.size w w' := by
 have HB1 : Hid (Below w.heap.size w (w.alloc (.cells #[.slice ta tn tc, .slice sa sn sc, .slice da dn dc, .int .u8 x0, .int .u8 x1, .int .u8 x2] 37))) := Lib.hid (below1 _ _)
 by_cases l1 : 6 < tn
 ·have t1 : decide (6 < (tn : Int)) = true := by simp; omega
  have HR : Hid (wrongOf ts ss x0 x1 x2 = 22) := Lib.hid (by unfold wrongOf; rw [if_pos (by omega)])
  clear htn hsn hts hss
  go_enter Tryz.func37, Tryz.ntmps37
  go_wp2_with fail
  go_ret
  exact ⟨by rw [HR.out]; rfl, HB1.out⟩
 by_cases l2 : 3 < sn
 ·have t1 : decide (6 < (tn : Int)) = false := by simp; omega
  have t2 : decide (3 < (sn : Int)) = true := by simp; omega
  have C1 := Lib.hid (fun wr (h : Below w.heap.size w wr) => allTk_any ta tn tc wr 0 w.heap.size ts htn (hts.keep (SameIn.of_below h (Nat.le_refl _))) h.size (by omega))
  cases a1 : ts.all okTk with
  | false =>
    have HR : Hid (wrongOf ts ss x0 x1 x2 = 22) := Lib.hid (by unfold wrongOf; rw [if_neg (by omega), if_pos a1])
    rw [a1] at C1
    clear htn hsn hts hss
    go_enter Tryz.func37, Tryz.ntmps37
    go_wp2_with (first | (go_at_call 87; refine (C1.out _ HB1.out).mono ?_; rintro e w1 ⟨rfl, hb1⟩))
    go_ret
    exact ⟨by rw [HR.out]; rfl, HB1.out.trans (hb1.mono (by simp))⟩
  | true =>
    have HR : Hid (wrongOf ts ss x0 x1 x2 = 23) := Lib.hid (by unfold wrongOf; rw [if_neg (by omega), if_neg (by rw [a1]; simp), if_pos (by omega)])
    rw [a1] at C1
    clear htn hsn hts hss
    go_enter Tryz.func37, Tryz.ntmps37
    go_wp2_with (first | (go_at_call 87; refine (C1.out _ HB1.out).mono ?_; rintro e w1 ⟨rfl, hb1⟩; have k0 : w1.cell? ⟨w.heap.size, 1, none⟩ = some (.slice sa sn sc) := (by rw [hb1.cell (by simp)]; simp)))
    go_ret
    exact ⟨by rw [HR.out]; rfl, HB1.out.trans (hb1.mono (by simp))⟩
 ·exact rights_any ta sa da tn tc sn sc dn dc x0 x1 x2 w 0 w.heap.size ts ss htn hsn hts hss (Nat.le_refl _) (by omega) (by omega)
theorem Tryz.sizeBoard : (Tryz.prog.info? 106).map (·.size) = some 2 := by kernel_rfl
set_option maxRecDepth 100000 in
set_option maxHeartbeats 8000000 in
theorem newboard_any (a : Option Addr) (n c : Nat) (w : World) (ts : List Tk) (hn : ts.length = n) (hl : Lies w 0 w.heap.size (.slice a n c) n 6 (ts.flatMap Tk.cells)) (hi : ∀ x ∈ ts, x.In) (ho : okN ts = true) :
 Calls Tryz.prog 38 #[.slice a n c] w fun e w' => ∃ tb pl S T, e = .returned (.agg #[.pointer (some ⟨tb, 0, none⟩), .pointer (some ⟨pl, 0, none⟩)]) ∧ tasksOk.Tb tb ts false (fun _ => none) w' S ∧ policeOk.Pl pl ts (List.replicate n (-1)) false w' T ∧ (∀ k, S k → ¬ T k) ∧ (∀ k, S k ∨ T k → w.heap.size ≤ k) ∧ Below w.heap.size w w' := by
 obtain ⟨V, hV⟩ : ∃ V, V = w.alloc (.cells #[.pointer none, .pointer none] 106) := ⟨_, rfl⟩
 obtain ⟨E, hE⟩ : ∃ E, E = w.heap.size := ⟨_, rfl⟩
 have hbV : Below w.heap.size w V := by rw [hV]; exact below1 _ _
 have hEV : V.heap[E]? = some (.cells #[.pointer none, .pointer none] 106 (0, 0)) := by rw [hV, hE]; exact heap_alloc_new _ _
 have HLK := Lib.hid (fun (W : World) (h : Below w.heap.size w W) => (hl.keep (SameIn.of_below h (Nat.le_refl _))).wider (Nat.zero_le _) h.size)
 have HT := Lib.hid (fun (W : World) (h : Below w.heap.size w W) => tasksOk.new W a n c ts hn (HLK.out W h) hi)
 have HP := Lib.hid (fun (W : World) (h : Below w.heap.size w W) => policeOk.new W a n c ts hn (HLK.out W h) hi)
 have HO := Lib.hid ho
 have HV := Lib.hid hV
 have HE := Lib.hid hE
 have HEV := Lib.hid hEV
 have HBV := Lib.hid hbV
 clear hV hE hEV hbV hl hi hn ho
 go_enter Tryz.func38, Tryz.ntmps38
 go_upto_region 1 with fail
 try rw [← HV.out, ← HE.out]
 go_wp2_with (first
  | (go_at_call 90; go_loud (refine (HT.out _ HBV.out).mono ?_; rintro e w3 ⟨q1, q2, q3⟩; obtain ⟨tb, S3, rfl, q4, q5⟩ := q1 HO.out; have h3 := Lib.hid q4; have g3 := Lib.hid (And.intro q3 q5); clear q1 q2 q3 q4 q5))
  | (go_at_call 91; go_loud (refine (HP.out _ (HBV.out.trans (g3.out.1.mono HBV.out.size))).mono ?_; rintro e w4 ⟨q1, q2, q3⟩; obtain ⟨pl, S4, rfl, q4, q5⟩ := q1 HO.out; have h4 := Lib.hid q4; have g4 := Lib.hid (And.intro q3 q5); have hEw : w4.heap[E]? = some (.cells #[.pointer none, .pointer none] 106 (0, 0)) := (by have hl := lt_of_block HEV.out; have := g3.out.1.size; rw [g4.out.1.block E (by omega), g3.out.1.block E hl]; exact HEV.out); have u0 : w4.cell? ⟨E, 0, none⟩ = some (.pointer none) := cell_in hEw rfl; have u1 : w4.cell? ⟨E, 1, none⟩ = some (.pointer none) := cell_in hEw rfl; have y0 := free_in hEw 0; have y1 := free_in hEw 1; have HEw := Lib.hid hEw; clear q1 q2 q3 q4 q5 hEw))
  | fail "no arm")
 have hX := set2q HEw.out rfl (.pointer (some ⟨tb, 0, none⟩)) (.pointer (some ⟨pl, 0, none⟩))
 refine bodyPost_ret (results_cell_row (P := Tryz.prog) rfl _ _ E _ _ (0, 0) _ rfl hX Tryz.underlying106 rfl Tryz.sizeBoard) rfl ?_
 have hz := HBV.out.size
 have hz3 := g3.out.1.size
 have hz4 := g4.out.1.size
 have hE := HE.out
 have hb4 : Below w.heap.size w w4 := (HBV.out.trans (g3.out.1.mono hz)).trans (g4.out.1.mono (by omega))
 have hEl : E < V.heap.size := lt_of_block HEV.out
 obtain ⟨Z, hZ⟩ : ∃ Z, Z = (w4.setCell ⟨E, 0, none⟩ (.pointer (some ⟨tb, 0, none⟩))).setCell ⟨E, 1, none⟩ (.pointer (some ⟨pl, 0, none⟩)) := ⟨_, rfl⟩
 have hbw : Below w.heap.size w Z := by rw [hZ]; exact (hb4.setCell (p := ⟨E, 0, none⟩) (by rw [hE]; exact Nat.le_refl _) _).setCell (p := ⟨E, 1, none⟩) (by rw [hE]; exact Nat.le_refl _) _
 have hbe : But E w4 Z := by rw [hZ]; exact ((But.refl E w4).set 0 _).set 1 _
 have l3 := (tasksOk.own tb ts false (fun _ => none)).lt h3.out
 have l4 := (policeOk.own pl ts (List.replicate n (-1)) false).lt h4.out
 refine ⟨tb, pl, S3, S4, rfl, ?_, ?_, fun k h5 h6 => ?_, fun k hk => ?_, ?_⟩
 ·rw [← hZ]
  exact (tasksOk.own _ _ _ _).keep h3.out (fun k hk => (hbe.block k (by have := l3 k hk; omega) (fun e => by have := g3.out.2 k hk; omega)).trans (g4.out.1.block k (l3 k hk))) (Nat.le_trans hz4 hbe.size)
 ·rw [← hZ]
  exact (policeOk.own _ _ _ _).keep h4.out (fun k hk => hbe.block k (l4 k hk) (fun e => by have := g4.out.2 k hk; omega)) hbe.size
 ·have := l3 k h5
  have := g4.out.2 k h6
  omega
 ·rcases hk with hk | hk
  ·have := g3.out.2 k hk; omega
  ·have := g4.out.2 k hk; omega
 ·rw [← hZ]; exact hbw
end Go.Proofs.YtchbehnkkcjdgaaGreat
namespace Go.Proofs.YtchbehnkkcjdgaaGreat
open Go.ChangeShapes Go.WideShapes Go.ChangeAt Go.RowKit
set_option linter.unusedVariables false
theorem flatMap_same {f g : Nat → List Value} : ∀ l : List Nat, (∀ i ∈ l, f i = g i) → l.flatMap f = l.flatMap g
 | [], _ => rfl
 | x :: r, h => by rw [List.flatMap_cons, List.flatMap_cons, h x List.mem_cons_self, flatMap_same r fun i hi => h i (List.mem_cons_of_mem _ hi)]
def dkCells (bf rf : Nat → Nat) (rs : Nat → Bool) (i : Nat) : List Value := [budV (bf i) (rs i), .pointer (some ⟨rf i, 0, none⟩), .int .i64 0]
def updN (f : Nat → Nat) (k v : Nat) : Nat → Nat := fun i => if i = k then v else f i
def madeR (ss : List Sv) (st : Int) (i : Nat) : Bool := (Dk.new (svAt ss i) st).bud.isR
def dkRow (bf rf : Nat → Nat) (ss : List Sv) (st : Int) (k : Nat) : List Value := (List.range k).flatMap (dkCells bf rf (madeR ss st))
theorem dkRow_snoc (bf rf : Nat → Nat) (ss : List Sv) (st : Int) (k B R : Nat) : dkRow (updN bf k B) (updN rf k R) ss st (k + 1) = dkRow bf rf ss st k ++ [budV B (madeR ss st k), .pointer (some ⟨R, 0, none⟩), .int .i64 0] := by
 unfold dkRow
 rw [List.range_succ, List.flatMap_append]
 congr 1
 ·refine flatMap_same _ fun i hi => ?_
  have := List.mem_range.1 hi
  simp only [dkCells, updN, if_neg (show i ≠ k by omega)]
 ·simp [dkCells, updN]
theorem dkRow_at (bf rf : Nat → Nat) (ss : List Sv) (st : Int) {n i : Nat} (hi : i < n) (j : Nat) (hj : j < 3) : (dkRow bf rf ss st n)[i * 3 + j]? = (dkCells bf rf (madeR ss st) i)[j]? := by
 unfold dkRow
 exact flat_at _ 3 (fun _ => rfl) _ i j i (by rw [List.getElem?_range hi]) hj
theorem budV_one (B : Nat) (r : Bool) : (budV B r).oneCell' = true := by cases r <;> rfl
/-- So many desks are made. -/
structure NpAt (w0 w : World) (H tb pl : Nat) (ts : List Tk) (ss : List Sv) (st : Int) (bf rf : Nat → Nat) (k : Nat) (ao : Option Addr) (cap : Nat) : Prop where
 box : w.heap[H]? = some (.cells #[.pointer (some ⟨tb, 0, none⟩), .pointer (some ⟨pl, 0, none⟩), .slice ao k cap, .bool true] 109 (0, 0))
 row : w.ownsRow (H + 1) 119 3 (.slice ao k cap) k (dkRow bf rf ss st k)
 ex : ∃ A B F, tasksOk.Tb tb ts false (fun _ => none) w A ∧ policeOk.Pl pl ts (List.replicate ts.length (-1)) false w B ∧ Fam k (DskF bf rf ss st (fun i => Dk.new (svAt ss i) st)) w F ∧ (∀ j, A j → ¬ B j) ∧ (∀ j, A j ∨ B j → ¬ F j) ∧ ∀ j, A j ∨ B j ∨ F j → w0.heap.size ≤ j ∧ j ≠ H ∧ ob ao ≠ some j
 nil : k = 0 → ao = none
 new : w0.heap.size ≤ H
 b : Below w0.heap.size w0 w
section
variable {w0 wr : World} {H tb pl : Nat} {ts : List Tk} {ss : List Sv} {st : Int} {bf rf : Nat → Nat} {k : Nat} {ao : Option Addr} {cap : Nat}
theorem NpAt.own_lt (h : NpAt w0 wr H tb pl ts ss st bf rf k ao cap) {j : Nat} (hj : ob ao = some j) : H + 1 ≤ j ∧ j < wr.heap.size := owns_own h.row j (by
 cases ao with
 | none => cases hj
 | some a => exact hj)
theorem NpAt.step (h : NpAt w0 wr H tb pl ts ss st bf rf k ao cap) {w7 wa w8 : World} (hb7 : Below wr.heap.size wr w7) {B R : Nat} {S : Nat → Prop} (hd : DskAt B R (svAt ss k) st (Dk.new (svAt ss k) st) w7 S) (hs : ∀ j, S j → wr.heap.size ≤ j) (hba : Below w7.heap.size w7 wa)
 {ao' : Option Addr} {cap' : Nat} (hown : w8.ownsRow (H + 1) 119 3 (.slice ao' (k + 1) cap') (k + 1) (dkRow bf rf ss st k ++ [budV B (madeR ss st k), .pointer (some ⟨R, 0, none⟩), .int .i64 0])) (hg : wa.grownBy w8 (Value.slice ao k cap).ownBlock)
 (hob : (Value.slice ao' (k + 1) cap').ownBlock = (Value.slice ao k cap).ownBlock ∨ (Value.slice ao' (k + 1) cap').ownBlock = some wa.heap.size) :
 NpAt w0 (w8.setCell ⟨H, 2, none⟩ (.slice ao' (k + 1) cap')) H tb pl ts ss st (updN bf k B) (updN rf k R) (k + 1) ao' cap' := by
 have hown' : ∀ {a : Option Addr} {n c : Nat}, (Value.slice a n c).ownBlock = ob a := fun {a n c} => by cases a <;> rfl
 rw [hown'] at hg
 rw [hown', hown'] at hob
 have hHl := lt_of_block h.box
 have hz7 := hb7.size
 have hza := hba.size
 have hBu : But H w8 (w8.setCell ⟨H, 2, none⟩ (.slice ao' (k + 1) cap')) := (But.refl H w8).set 2 _
 have hzg := hg.size
 have hzb := hBu.size
 have keep7 : ∀ j, j < w7.heap.size → j ≠ H → ob ao ≠ some j → (w8.setCell ⟨H, 2, none⟩ (.slice ao' (k + 1) cap')).heap[j]? = w7.heap[j]? := fun j h1 h2 h3 =>
  (hBu.block j (by omega) h2).trans ((hg.block j (by omega) (fun e => h3 e.symm)).trans (hba.block j h1))
 have keep : ∀ j, j < wr.heap.size → j ≠ H → ob ao ≠ some j → (w8.setCell ⟨H, 2, none⟩ (.slice ao' (k + 1) cap')).heap[j]? = wr.heap[j]? := fun j h1 h2 h3 => (keep7 j (by omega) h2 h3).trans (hb7.block j h1)
 obtain ⟨A, C, F, q1, q2, q3, q4, q5, q6⟩ := h.ex
 have lA := (tasksOk.own tb ts false (fun _ => none)).lt q1
 have lC := (policeOk.own pl ts (List.replicate ts.length (-1)) false).lt q2
 have oF := fam_own (n := k) (dskf_own bf rf ss st (fun i => Dk.new (svAt ss i) st))
 have lF := oF.lt q3
 have lS := (dsk_own B R (svAt ss k) st (Dk.new (svAt ss k) st)).lt hd
 have hz : wr.heap.size ≤ (w8.setCell ⟨H, 2, none⟩ (.slice ao' (k + 1) cap')).heap.size := by omega
 have nS : ∀ j, S j → j ≠ H ∧ ob ao ≠ some j := fun j hj => ⟨by have := hs j hj; omega, fun e => by have := (h.own_lt e).2; have := hs j hj; omega⟩
 have hbH : wa.heap[H]? = wr.heap[H]? := (hba.block H (by omega)).trans (hb7.block H hHl)
 have hnH : ob ao ≠ some H := fun e => by have := (h.own_lt e).1; omega
 have hnO : ∀ j, j < wa.heap.size → ob ao ≠ some j → ob ao' ≠ some j := fun j h1 h2 e => by
  rcases hob with h3 | h3
  ·exact h2 (h3.symm.trans e)
  ·rw [h3] at e; cases e; omega
 refine ⟨?_, ?_, ?_, fun e => by omega, h.new, ?_⟩
 ·have h8 : w8.heap[H]? = some (.cells #[.pointer (some ⟨tb, 0, none⟩), .pointer (some ⟨pl, 0, none⟩), .slice ao k cap, .bool true] 109 (0, 0)) := (hg.block H (by omega) (fun e => hnH e.symm)).trans (hbH.trans h.box)
  rw [set_at h8]; rfl
 ·rw [dkRow_snoc]
  exact owns_hold hown ⟨hzb, fun g hgg => hBu.block g (owns_own hown g hgg).2 (fun e => by have := (owns_own hown g hgg).1; omega)⟩
 ·refine ⟨A, C, fun j => F j ∨ S j, (tasksOk.own _ _ _ _).keep q1 (fun j hj => keep j (lA j hj) (q6 j (.inl hj)).2.1 (q6 j (.inl hj)).2.2) hz, (policeOk.own _ _ _ _).keep q2 (fun j hj => keep j (lC j hj) (q6 j (.inr (.inl hj))).2.1 (q6 j (.inr (.inl hj))).2.2) hz, ?_, q4, fun j h1 h2 => ?_, fun j hj => ?_⟩
  ·have hF' : Fam k (DskF (updN bf k B) (updN rf k R) ss st (fun i => Dk.new (svAt ss i) st)) (w8.setCell ⟨H, 2, none⟩ (.slice ao' (k + 1) cap')) F := (oF.keep q3 (fun j hj => keep j (lF j hj) (q6 j (.inr (.inr hj))).2.1 (q6 j (.inr (.inr hj))).2.2) hz).congr (fun i hi => by
    show DskAt (updN bf k B i) (updN rf k R i) _ _ _ = DskAt (bf i) (rf i) _ _ _
    simp only [updN, if_neg (show i ≠ k by omega)])
   refine Fam.snoc (dskf_own _ _ ss st _) hF' ?_ (fun j h1 h2 => ?_)
   ·show DskAt (updN bf k B k) (updN rf k R k) _ _ _ _ _
    simp only [updN, if_true]
    exact (dsk_own _ _ _ _ _).keep hd (fun j hj => keep7 j (lS j hj) (nS j hj).1 (nS j hj).2) (by omega)
   ·have := lF j h1
    have := hs j h2
    omega
  ·rcases h2 with h2 | h2
   ·exact q5 j h1 h2
   ·have := hs j h2
    rcases h1 with h1 | h1
    ·have := lA j h1; omega
    ·have := lC j h1; omega
  ·have hn0 := h.b.size
   rcases hj with hj | hj | hj | hj
   ·exact ⟨(q6 j (.inl hj)).1, (q6 j (.inl hj)).2.1, hnO j (by have := lA j hj; omega) (q6 j (.inl hj)).2.2⟩
   ·exact ⟨(q6 j (.inr (.inl hj))).1, (q6 j (.inr (.inl hj))).2.1, hnO j (by have := lC j hj; omega) (q6 j (.inr (.inl hj))).2.2⟩
   ·exact ⟨(q6 j (.inr (.inr hj))).1, (q6 j (.inr (.inr hj))).2.1, hnO j (by have := lF j hj; omega) (q6 j (.inr (.inr hj))).2.2⟩
   ·exact ⟨by have := hs j hj; omega, (nS j hj).1, hnO j (by have := lS j hj; omega) (nS j hj).2⟩
 ·have hn0 := h.b.size
  exact (((h.b.trans (hb7.mono hn0)).trans (hba.mono (by omega))).grown hg (by omega) (fun q hq => by have := (h.own_lt hq).1; have := h.new; omega)).trans (hBu.below h.new (by omega))
theorem NpAt.done (h : NpAt w0 wr H tb pl ts ss st bf rf ss.length ao cap) : ∃ S, PgAt H ts ss st (newPx ts ss st) wr S ∧ ∀ j, S j → w0.heap.size ≤ j := by
 obtain ⟨A, C, F, q1, q2, q3, q4, q5, q6⟩ := h.ex
 refine ⟨fun j => (j = H ∨ ob ao = some j) ∨ (A j ∨ (C j ∨ F j)), ⟨tb, pl, bf, rf, fun j => j = H ∨ ob ao = some j, fun j => A j ∨ (C j ∨ F j), ⟨ao, cap, h.box, h.nil, fun hn => ?_, rfl⟩, ⟨A, fun j => C j ∨ F j, q1, ⟨C, F, q2, q3, fun j h1 h2 => q5 j (.inr h1) h2, fun _ => Iff.rfl⟩, fun j h1 h2 => h2.elim (q4 j h1) (q5 j (.inl h1)), fun _ => Iff.rfl⟩, fun j h1 h2 => ?_, fun _ => Iff.rfl⟩, fun j hj => ?_⟩
 ·obtain ⟨_, h2 | ⟨g, cp, cur, e, hb, hg, hc1, hc2, hc3, hc4⟩⟩ := h.row
  ·omega
  ·cases e
   refine ⟨g, cur, rfl, by omega, hg, fun i hi => ?_⟩
   have f := fun j (hj : j < 3) => dkRow_at bf rf ss st hi j hj
   have c : ∀ j, j < 3 → cur[i * 3 + j]? = (dkCells bf rf (madeR ss st) i)[j]? := fun j hj => by
    rw [← f j hj, ← hc4, List.getElem?_take, if_pos (by omega), Array.getElem?_toList]
   exact ⟨c 0 (by omega), c 1 (by omega), by rw [c 2 (by omega)]; simp [dkCells, newPx, Dk.new, Dk.taken]⟩
 ·have := q6 j h2
  rcases h1 with h1 | h1
  ·exact this.2.1 h1
  ·exact this.2.2 h1
 ·rcases hj with (hj | hj) | hj
  ·rw [hj]; exact h.new
  ·have := (h.own_lt hj).1; have := h.new; omega
  ·exact (q6 j hj).1
end
end Go.Proofs.YtchbehnkkcjdgaaGreat
namespace Go.Proofs.YtchbehnkkcjdgaaGreat
open Go.ChangeShapes Go.WideShapes Go.ChangeAt Go.RowKit
set_option linter.unusedVariables false
def okPart (ts : List Tk) (ss : List Sv) (x0 x1 x2 st : Int) : Bool := decide (wrongOf ts ss x0 x1 x2 = 0) && (decide (0 ≤ st) && decide (st ≤ 4611686018427387904))
theorem okPart_parts {ts : List Tk} {ss : List Sv} {x0 x1 x2 st : Int} (h : okPart ts ss x0 x1 x2 st = true) : okN ts = true ∧ ss.length ≤ 3 ∧ (∀ s ∈ ss, okSv s = true) ∧ wrongOf ts ss x0 x1 x2 = 0 ∧ 0 ≤ st ∧ st ≤ 4611686018427387904 := by
 simp only [okPart, Bool.and_eq_true, decide_eq_true_eq] at h
 obtain ⟨h1, h2, h3⟩ := h
 have h0 := h1
 unfold wrongOf at h1
 split at h1
 ·omega
 rename_i q1
 split at h1
 ·omega
 rename_i q2
 split at h1
 ·omega
 rename_i q3
 split at h1
 ·omega
 rename_i q4
 refine ⟨?_, by omega, ?_, h0, h2, h3⟩
 ·unfold okN
  rw [decide_eq_true (by omega)]
  simpa using q2
 ·rw [Bool.not_eq_false, List.all_eq_true] at q4
  exact q4
theorem svs_read {w : World} {a : Option Addr} {n c : Nat} {l : List Sv} (hn : l.length = n) (hl : Lies w 0 w.heap.size (.slice a n c) n 3 (l.flatMap Sv.cells)) : ∀ Y, Below w.heap.size w Y → ∀ i (hi : i < n), ∃ b off, a = some ⟨b, off, none⟩ ∧ (Y.cell? ⟨b, off + i * 3, none⟩ = some (.bool (svAt l i).re) ∧ Y.cell? ⟨b, off + i * 3 + 1, none⟩ = some (.int .i64 (svAt l i).c) ∧ Y.cell? ⟨b, off + i * 3 + 2, none⟩ = some (.int .i64 (svAt l i).t)) ∧ b < w.heap.size := by
 intro Y hY i hi
 obtain ⟨a', c', e, _, _, hc⟩ := hl.keep (SameIn.of_below hY (Nat.le_refl _))
 cases e
 rcases hc with h0 | ⟨b, off, rfl, _, hb, hc⟩
 ·omega
 ·have hx : l[i]? = some (svAt l i) := by rw [svAt_eq (by omega)]; exact List.getElem?_eq_getElem (by omega)
  exact ⟨b, off, rfl, ⟨hc _ _ (flat_at Sv.cells 3 (fun _ => rfl) l i 0 _ hx (by omega)), hc _ _ (flat_at Sv.cells 3 (fun _ => rfl) l i 1 _ hx (by omega)), hc _ _ (flat_at Sv.cells 3 (fun _ => rfl) l i 2 _ hx (by omega))⟩, hb⟩
set_option maxRecDepth 100000 in
set_option maxHeartbeats 8000000 in
theorem pnew_no (ta sa da : Option Addr) (tn tc sn sc dn dc : Nat) (x0 x1 x2 st : Int) (w : World) (ts : List Tk) (ss : List Sv) (htn : ts.length = tn) (hsn : ss.length = sn)
 (hts : Lies w 0 w.heap.size (.slice ta tn tc) tn 6 (ts.flatMap Tk.cells)) (hss : Lies w 0 w.heap.size (.slice sa sn sc) sn 3 (ss.flatMap Sv.cells)) (ho : okPart ts ss x0 x1 x2 st = false) :
 Calls Tryz.prog 10 #[.agg #[.slice ta tn tc, .slice sa sn sc, .slice da dn dc, .int .u8 x0, .int .u8 x1, .int .u8 x2], .int .i64 st] w fun e w' => e = .returned (.pointer none) ∧ Below w.heap.size w w' := by
 have HB1 : Hid (Below w.heap.size w (w.alloc (.cells #[.slice ta tn tc, .slice sa sn sc, .slice da dn dc, .int .u8 x0, .int .u8 x1, .int .u8 x2] 37))) := Lib.hid (below1 _ _)
 have HR := Lib.hid (fun (W : World) (h : Below w.heap.size w W) => rights_wide ta sa da tn tc sn sc dn dc x0 x1 x2 W ts ss htn hsn ((hts.keep (SameIn.of_below h (Nat.le_refl _))).wider (Nat.zero_le _) h.size) ((hss.keep (SameIn.of_below h (Nat.le_refl _))).wider (Nat.zero_le _) h.size))
 obtain ⟨v, hv⟩ : ∃ v, v = wrongOf ts ss x0 x1 x2 := ⟨_, rfl⟩
 unfold okPart at ho
 rw [← hv] at HR ho
 clear hts hss htn hsn hv
 by_cases h0 : v = 0
 ·subst h0
  by_cases h1 : st < 0
  ·have d0 : decide (st < 0) = true := decide_eq_true h1
   clear ho
   go_enter Tryz.func10, Tryz.ntmps10
   go_wp2_with (first
    | (go_at_call 37; refine (HR.out _ HB1.out).mono ?_; rintro e w2 ⟨rfl, hb2'⟩; have hb2 := Lib.hid hb2'; clear hb2')
    | fail "no arm")
   go_ret
   exact ⟨rfl, HB1.out.trans (hb2.out.mono HB1.out.size)⟩
  ·have d0 : decide (st < 0) = false := decide_eq_false h1
   have h2 : 4611686018427387904 < st := by
    simp at ho
    omega
   have d1 : decide (4611686018427387904 < st) = true := decide_eq_true h2
   clear ho
   go_enter Tryz.func10, Tryz.ntmps10
   go_wp2_with (first
    | (go_at_call 37; refine (HR.out _ HB1.out).mono ?_; rintro e w2 ⟨rfl, hb2'⟩; have hb2 := Lib.hid hb2'; clear hb2')
    | fail "no arm")
   go_ret
   exact ⟨rfl, HB1.out.trans (hb2.out.mono HB1.out.size)⟩
 ·have b0 : (v == 0) = false := by simpa using h0
  clear ho
  go_enter Tryz.func10, Tryz.ntmps10
  go_wp2_with (first
   | (go_at_call 37; refine (HR.out _ HB1.out).mono ?_; rintro e w2 ⟨rfl, hb2'⟩; have hb2 := Lib.hid hb2'; clear hb2')
   | fail "no arm")
  go_ret
  exact ⟨rfl, HB1.out.trans (hb2.out.mono HB1.out.size)⟩
end Go.Proofs.YtchbehnkkcjdgaaGreat
namespace Go.Proofs.YtchbehnkkcjdgaaGreat
open Go.ChangeShapes Go.WideShapes Go.ChangeAt Go.RowKit
set_option linter.unusedVariables false
theorem Tryz.infoDk20 : (Tryz.prog.info? 119).map (fun i => (i.zero, i.size, i.bytes)) = some (some (.agg #[.nilIface, .pointer none, .int .i64 0]), 3, 32) := by kernel_rfl
theorem built_part20 (tb pl : Nat) : Tryz.prog.built 109 [(0, .agg #[.pointer (some ⟨tb, 0, none⟩), .pointer (some ⟨pl, 0, none⟩)]), (2, .bool true)] = some #[.pointer (some ⟨tb, 0, none⟩), .pointer (some ⟨pl, 0, none⟩), .slice none 0 0, .bool true] := by kernel_rfl
set_option maxRecDepth 100000 in
set_option maxHeartbeats 8000000 in
theorem pnew_yes (ta sa da : Option Addr) (tn tc sn sc dn dc : Nat) (x0 x1 x2 st : Int) (w : World) (ts : List Tk) (ss : List Sv) (htn : ts.length = tn) (hsn : ss.length = sn)
 (hts : Lies w 0 w.heap.size (.slice ta tn tc) tn 6 (ts.flatMap Tk.cells)) (hss : Lies w 0 w.heap.size (.slice sa sn sc) sn 3 (ss.flatMap Sv.cells)) (hi : ∀ x ∈ ts, x.In) (ho : okPart ts ss x0 x1 x2 st = true) :
 Calls Tryz.prog 10 #[.agg #[.slice ta tn tc, .slice sa sn sc, .slice da dn dc, .int .u8 x0, .int .u8 x1, .int .u8 x2], .int .i64 st] w fun e w' => ∃ H S, e = .returned (.pointer (some ⟨H, 0, none⟩)) ∧ PgAt H ts ss st (newPx ts ss st) w' S ∧ (∀ k, S k → w.heap.size ≤ k) ∧ Below w.heap.size w w' := by
 obtain ⟨oN, l3, oS, oW, s0, s1⟩ := okPart_parts ho
 have hB1 : Below w.heap.size w (w.alloc (.cells #[.slice ta tn tc, .slice sa sn sc, .slice da dn dc, .int .u8 x0, .int .u8 x1, .int .u8 x2] 37)) := below1 _ _
 have HB1 := Lib.hid hB1
 have HKP : Hid (∀ W : World, Below (w.alloc (.cells #[.slice ta tn tc, .slice sa sn sc, .slice da dn dc, .int .u8 x0, .int .u8 x1, .int .u8 x2] 37)).heap.size (w.alloc (.cells #[.slice ta tn tc, .slice sa sn sc, .slice da dn dc, .int .u8 x0, .int .u8 x1, .int .u8 x2] 37)) W → W.cell? ⟨w.heap.size, 0, none⟩ = some (.slice ta tn tc) ∧ W.cell? ⟨w.heap.size, 1, none⟩ = some (.slice sa sn sc)) := Lib.hid (fun W h => by
  rw [h.cell (by simp), h.cell (by simp)]; simp)
 have HR := Lib.hid (fun (W : World) (h : Below w.heap.size w W) => rights_wide ta sa da tn tc sn sc dn dc x0 x1 x2 W ts ss htn hsn ((hts.keep (SameIn.of_below h (Nat.le_refl _))).wider (Nat.zero_le _) h.size) ((hss.keep (SameIn.of_below h (Nat.le_refl _))).wider (Nat.zero_le _) h.size))
 have HBD := Lib.hid (fun (W : World) (h : Below w.heap.size w W) => newboard_any ta tn tc W ts htn ((hts.keep (SameIn.of_below h (Nat.le_refl _))).wider (Nat.zero_le _) h.size) hi oN)
 have HND : Hid (∀ (k : Nat), k < sn → ∀ W : World, Calls Tryz.prog 39 #[.agg #[.bool (svAt ss k).re, .int .i64 (svAt ss k).c, .int .i64 (svAt ss k).t], .int .i64 st] W fun e w' => ∃ B R S, e = .returned (.agg #[budV B (madeR ss st k), .pointer (some ⟨R, 0, none⟩), .int .i64 0]) ∧ DskAt B R (svAt ss k) st (Dk.new (svAt ss k) st) w' S ∧ (∀ j, S j → W.heap.size ≤ j) ∧ Below W.heap.size W w') := Lib.hid (fun k hk W => newdesk_any (svAt ss k) st W (by
  rw [svAt_eq (by omega)]; exact oS _ (List.getElem_mem _)) s0 s1)
 have KA := Lib.hid (svs_read hsn hss)
 have HPT := Lib.hid built_part20
 have HSN := Lib.hid hsn
 have HTN := Lib.hid htn
 have d0 : decide (st < 0) = false := decide_eq_false (by omega)
 have d1 : decide (4611686018427387904 < st) = false := decide_eq_false (by omega)
 rw [oW] at HR
 have hn3 : sn ≤ 3 := by omega
 obtain ⟨i0, hi0, hz0, hz1, hz2⟩ := info_parts Tryz.infoDk20
 have HI := Lib.hid hi0
 clear hts hss htn hsn hi ho oN l3 oS oW s0 s1 hi0 hB1
 go_enter Tryz.func10, Tryz.ntmps10
 go_wp2_with (first
  | (go_at_call 37; go_loud (refine (HR.out _ HB1.out).mono ?_; rintro e w2 ⟨rfl, hb2'⟩; have hb2 := Lib.hid hb2'; obtain ⟨k0, k1⟩ := HKP.out _ (hb2'); clear hb2'))
  | (go_at_call 38; go_loud (refine (HBD.out _ (HB1.out.trans (hb2.out.mono HB1.out.size))).mono ?_; rintro e w3 ⟨tb, pl, S3, T3, rfl, q1, q2, q3, q4, q5⟩; have h3 := Lib.hid (And.intro q1 q2); have g3 := Lib.hid (And.intro q3 q4); have hb3 := Lib.hid q5; obtain ⟨k2, k3⟩ := HKP.out _ (hb2.out.trans (q5.mono hb2.out.size)); have k4 : (w3.alloc (.cells #[.pointer (some ⟨tb, 0, none⟩), .pointer (some ⟨pl, 0, none⟩), .slice none 0 0, .bool true] 109)).cell? ⟨w.heap.size, 1, none⟩ = some (.slice sa sn sc) := Lib.cell?_alloc_some _ k3; clear q1 q2 q3 q4 q5))
  | (refine wpList_build3 (by rfl) 109 _ (by rfl) [(0, .agg #[.pointer (some ⟨tb, 0, none⟩), .pointer (some ⟨pl, 0, none⟩)]), (2, .bool true)] (by rfl) _ (HPT.out tb pl) ?_)
  | fail "no arm")
 go_loopw [27] (fun s wr => ∃ (k : Nat) (bf rf : Nat → Nat) (ao : Option Addr) (cap : Nat), k ≤ sn ∧ s = .int .i64 k ∧ Hid (NpAt w wr w3.heap.size tb pl ts ss st bf rf k ao cap)) (fun s _ => sn - (intOf s).toNat)
 case atStart =>
  have hz2 := hb2.out.size
  have hz3 := hb3.out.size
  have hz0 := HB1.out.size
  have hb := below1 w3 (.cells #[.pointer (some ⟨tb, 0, none⟩), .pointer (some ⟨pl, 0, none⟩), .slice none 0 0, .bool true] 109)
  have lA := (tasksOk.own tb ts false (fun _ => none)).lt h3.out.1
  have h3p : policeOk.Pl pl ts (List.replicate ts.length (-1)) false w3 T3 := by rw [HTN.out]; exact h3.out.2
  have lC := (policeOk.own pl ts (List.replicate ts.length (-1)) false).lt h3p
  exact ⟨0, fun _ => 0, fun _ => 0, none, 0, Nat.zero_le _, rfl, Lib.hid ⟨heap_alloc_new _ _, ⟨rfl, .inl ⟨rfl, rfl⟩⟩, ⟨S3, T3, fun _ => False, (tasksOk.own _ _ _ _).later h3.out.1 hb, (policeOk.own _ _ _ _).later h3p hb, Fam.nil _ _, g3.out.1, fun _ _ h => h, fun j hj => ⟨by
   have := g3.out.2 j (hj.imp_right fun h => h.elim id False.elim)
   omega, by
   rcases hj with hj | hj | hj
   ·have := lA j hj; omega
   ·have := lC j hj; omega
   ·exact hj.elim, fun e => by cases e⟩⟩, fun _ => rfl, by omega, ((HB1.out.trans (hb2.out.mono hz0)).trans (hb3.out.mono (by omega))).trans (hb.mono (by omega))⟩⟩
 case round =>
  clear hb2 hb3 h3 g3 k0 k1 k2 k3 k4 HR HBD HPT HKP
  obtain ⟨k, bf, rf, ao, cap, hk, rfl, HW⟩ := hrel
  by_cases hlt : k < sn
  ·have t0 : decide ((k : Int) < (sn : Int)) = true := decide_eq_true (by omega)
   have t1 : (0 : Int) ≤ (k : Int) := by omega
   have t2 : (k : Int) < (sn : Int) := by omega
   obtain ⟨b, off, ea, ⟨k0, k1, k2⟩, hb⟩ := KA.out wr HW.out.b k hlt
   subst ea
   have hnd := HND.out k hlt
   obtain ⟨sr, hsr⟩ : ∃ sr, sr = (svAt ss k).re := ⟨_, rfl⟩
   obtain ⟨sc', hsc⟩ : ∃ sc', sc' = (svAt ss k).c := ⟨_, rfl⟩
   obtain ⟨stt, hst⟩ : ∃ stt, stt = (svAt ss k).t := ⟨_, rfl⟩
   rw [← hsr] at k0 hnd
   rw [← hsc] at k1 hnd
   rw [← hst] at k2 hnd
   have HD := Lib.hid hnd
   clear hb hnd hsr hsc hst
   obtain ⟨V, hV⟩ : ∃ V, V = wr.alloc (.cells #[.bool sr, .int .i64 sc', .int .i64 stt] 114) := ⟨_, rfl⟩
   obtain ⟨E, hE⟩ : ∃ E, E = wr.heap.size := ⟨_, rfl⟩
   have hbl : V.heap[E]? = some (.cells #[.bool sr, .int .i64 sc', .int .i64 stt] 114 (0, 0)) := by rw [hV, hE]; exact heap_alloc_new _ _
   have hVB : Below wr.heap.size wr V := by rw [hV]; exact below1 _ _
   have hbox : V.heap[w3.heap.size]? = some (.cells #[.pointer (some ⟨tb, 0, none⟩), .pointer (some ⟨pl, 0, none⟩), .slice ao k cap, .bool true] 109 (0, 0)) := (hVB.block w3.heap.size (lt_of_block HW.out.box)).trans HW.out.box
   have KX : Hid (∀ W : World, Below V.heap.size V W → (W.cell? ⟨w3.heap.size, 2, none⟩ = some (.slice ao k cap) ∧ W.cell? ⟨E, 0, none⟩ = some (.bool sr) ∧ W.cell? ⟨E, 1, none⟩ = some (.int .i64 sc') ∧ W.cell? ⟨E, 2, none⟩ = some (.int .i64 stt)) ∧ W.heap[w3.heap.size]? = V.heap[w3.heap.size]? ) := Lib.hid (fun W h => by
    have a1 := h.block w3.heap.size (lt_of_block hbox)
    have a2 := h.block E (lt_of_block hbl)
    exact ⟨⟨cell_in (a1.trans hbox) rfl, cell_in (a2.trans hbl) rfl, cell_in (a2.trans hbl) rfl, cell_in (a2.trans hbl) rfl⟩, a1⟩)
   obtain ⟨⟨c2, e0, e1, e2⟩, _⟩ := KX.out V (Below.refl _ _)
   have f2 : V.frozen? ⟨w3.heap.size, 2, none⟩ = false := free_in hbox 2
   have HV := Lib.hid hV
   have HE := Lib.hid hE
   have HEL := Lib.hid (lt_of_block hbl)
   have HVB := Lib.hid hVB
   clear hV hE hbl hVB hbox
   go_upto_region 7 with fail
   rw [← HV.out]
   rw [← HE.out]
   have HZ : Hid (w3.heap.size + 1 ≤ wr.heap.size ∧ wr.heap.size ≤ V.heap.size ∧ E < V.heap.size) := Lib.hid ⟨lt_of_block HW.out.box, HVB.out.size, HEL.out⟩
   go_region_law
    (first
      | (go_simp; go_at_call 39; go_loud (refine (HD.out _).mono ?_; rintro e w9 ⟨B, R, S9, rfl, q1, q2, q3⟩; have h9 := Lib.hid q1; have g9 : Hid (Below V.heap.size V w9 ∧ ∀ j, S9 j → V.heap.size ≤ j) := Lib.hid (And.intro ((Below.refl _ _).drew.trans q3) q2); have k9 : Hid (∀ W : World, Below w9.heap.size w9 W → W.cell? ⟨w3.heap.size, 2, none⟩ = some (.slice ao k cap) ∧ W.cell? ⟨E, 0, none⟩ = some (.bool sr) ∧ W.cell? ⟨E, 1, none⟩ = some (.int .i64 sc') ∧ W.cell? ⟨E, 2, none⟩ = some (.int .i64 stt)) := Lib.hid (fun W h => (KX.out W (((Below.refl _ _).drew.trans q3).trans (h.mono q3.size))).1); obtain ⟨m0, m1, m2, m3⟩ := k9.out w9 (Below.refl _ _); obtain ⟨n0, n1, n2, n3⟩ := k9.out _ (below1 w9 (.cells #[budV B (madeR ss st k), .pointer (some ⟨R, 0, none⟩), .int .i64 0] 119)); clear q1 q2 q3))
      | (go_loud (refine step_append_lie2 (by rfl) (.tmp 35) (.tmp 39) 107 (by rfl) (w3.heap.size + 1) 119 i0 _ 3 32 Tryz.underlying107 HI.out hz0 hz1 hz2 rfl (by omega) (.slice ao k cap) k (dkRow bf rf ss st k) (by rfl) (owns_later HW.out.row (HVB.out.trans ((g9.out.1.mono HVB.out.size).trans ((below1 w9 (.cells #[budV B (madeR ss st k), .pointer (some ⟨R, 0, none⟩), .int .i64 0] 119)).mono (Nat.le_trans HVB.out.size g9.out.1.size))))) (.slice (some ⟨w9.heap.size, 0, none⟩) 1 1) w9.heap.size (w9.heap.size + 1) 1 [budV B (madeR ss st k), .pointer (some ⟨R, 0, none⟩), .int .i64 0] (by rfl) (one_lies (cs := #[budV B (madeR ss st k), .pointer (some ⟨R, 0, none⟩), .int .i64 0]) (heap_alloc_new w9 _) rfl) (by intro u hu; simp at hu; rcases hu with h | h | h <;> subst h <;> first | exact budV_one _ _ | rfl) (k + 1) rfl (by simp only [maxLen]; omega) (by omega) (by have := HZ.out; have := g9.out.1.size; simp; omega) ?_
                  intro ao6 cap6 w10 hown' hgrow' hob'
                  have hown := Lib.hid hown'
                  have hgrow := Lib.hid hgrow'
                  have hob := Lib.hid hob'
                  have hb10 : w10.heap[w3.heap.size]? = some (.cells #[.pointer (some ⟨tb, 0, none⟩), .pointer (some ⟨pl, 0, none⟩), .slice ao k cap, .bool true] 109 (0, 0)) := (by
                   have z1 := HZ.out
                   have z2 := g9.out.1.size
                   refine (hgrow'.block w3.heap.size (by simp; omega) (fun e => by have := (owns_own HW.out.row _ e.symm).1; omega)).trans (((below1 w9 (.cells #[budV B (madeR ss st k), .pointer (some ⟨R, 0, none⟩), .int .i64 0] 119)).block _ (by omega)).trans ((g9.out.1.block _ (by omega)).trans ((HVB.out.block _ (by omega)).trans HW.out.box)))
                  )
                  have c10 : w10.cell? ⟨w3.heap.size, 2, none⟩ = some (.slice ao k cap) := cell_in hb10 rfl
                  have f10 : w10.frozen? ⟨w3.heap.size, 2, none⟩ = false := free_in hb10 2
                  have k10 : Hid (w10.cell? ⟨w3.heap.size, 2, none⟩ = some (.slice ao k cap) ∧ w10.cell? ⟨E, 0, none⟩ = some (.bool sr) ∧ w10.cell? ⟨E, 1, none⟩ = some (.int .i64 sc') ∧ w10.cell? ⟨E, 2, none⟩ = some (.int .i64 stt)) := Lib.hid (by
                   have z1 := HZ.out
                   have z2 := g9.out.1.size
                   have hE := HE.out
                   have hh := hgrow'.block E (by simp; omega) (fun e => by have := (owns_own HW.out.row _ e.symm).2; omega)
                   have hk := k9.out _ (below1 w9 (.cells #[budV B (madeR ss st k), .pointer (some ⟨R, 0, none⟩), .int .i64 0] 119))
                   exact ⟨c10, (World.cell?_of_block (a := ⟨E, 0, none⟩) hh).trans hk.2.1, (World.cell?_of_block (a := ⟨E, 1, none⟩) hh).trans hk.2.2.1, (World.cell?_of_block (a := ⟨E, 2, none⟩) hh).trans hk.2.2.2⟩)
                  clear hown' hgrow' hob' hb10))
      | fail "no arm")
   all_goals go_wp2_with fail
   all_goals go_roundw
   all_goals first
    | (case rel => exact ⟨k + 1, updN bf k B, updN rf k R, ao6, cap6, by omega, by go_num, Lib.hid (HW.out.step (HVB.out.trans (g9.out.1.mono HVB.out.size)) h9.out (fun j hj => Nat.le_trans HVB.out.size (g9.out.2 j hj)) (below1 w9 (.cells #[budV B (madeR ss st k), .pointer (some ⟨R, 0, none⟩), .int .i64 0] 119)) hown.out hgrow.out hob.out)⟩)
    | (case measure => simp [intOf]; omega)
  ·have t0 : decide ((k : Int) < (sn : Int)) = false := decide_eq_false (by omega)
   have hks : k = ss.length := by have := HSN.out; omega
   subst hks
   obtain ⟨S, hS, hS2⟩ := HW.out.done
   have HF := Lib.hid (And.intro hS (And.intro hS2 HW.out.b))
   clear hS hS2 HW
   go_wp2_with fail
   go_ret
   exact ⟨w3.heap.size, S, rfl, HF.out.1, HF.out.2.1, HF.out.2.2⟩
end Go.Proofs.YtchbehnkkcjdgaaGreat
