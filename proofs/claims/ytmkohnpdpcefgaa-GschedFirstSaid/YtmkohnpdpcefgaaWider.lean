/- Rights of partitions of any length of rows; numbers of others in rows of any length. -/
import Derived.Test.YtmkohnpdpcefgaaRights
import Derived.Test.YtmkohnpdpcefgaaNames
namespace Go.Proofs.Ytmkohnpdpcefgaa
open Go.ChangeShapes Go.WideShapes Go.ChangeAt Go.RowKit
set_option linter.unusedVariables false

set_option maxRecDepth 100000 in
set_option maxHeartbeats 4000000 in
theorem rights_wide (ta sa da : Option Addr) (tn tc sn sc dn dc : Nat) (x0 x1 x2 : Int) (w : World) (ts : List Tk) (ss : List Sv) (htn : ts.length = tn) (hsn : ss.length = sn)
    (hts : Lies w 0 w.heap.size (.slice ta tn tc) tn 6 (ts.flatMap Tk.cells)) (hss : Lies w 0 w.heap.size (.slice sa sn sc) sn 3 (ss.flatMap Sv.cells)) :
    Calls Try.prog 61 #[.agg #[.slice ta tn tc, .slice sa sn sc, .slice da dn dc, .int .u8 x0, .int .u8 x1, .int .u8 x2]] w fun e w' => e = .returned (.int .i64 (wrongOf ts ss x0 x1 x2)) ∧ Below w.heap.size w w' := by
  have HB1 : Hid (Below w.heap.size w (w.alloc (.cells #[.slice ta tn tc, .slice sa sn sc, .slice da dn dc, .int .u8 x0, .int .u8 x1, .int .u8 x2] 70))) := Lib.hid (below1 _ _)
  by_cases l1 : 6 < tn
  · have t1 : decide (6 < (tn : Int)) = true := by simp; omega
    have HR : Hid (wrongOf ts ss x0 x1 x2 = 22) := Lib.hid (by unfold wrongOf; rw [if_pos (by omega)])
    clear htn hsn hts hss
    go_enter Try.func61, Try.ntmps61
    go_wp2_with fail
    go_ret
    exact ⟨by rw [HR.out]; rfl, HB1.out⟩
  by_cases l2 : 3 < sn
  · have t1 : decide (6 < (tn : Int)) = false := by simp; omega
    have t2 : decide (3 < (sn : Int)) = true := by simp; omega
    have C1 := Lib.hid (fun wr (h : Below w.heap.size w wr) => allTk_any ta tn tc wr 0 w.heap.size ts htn (hts.keep (SameIn.of_below h (Nat.le_refl _))) h.size (by omega))
    cases a1 : ts.all okTk with
    | false =>
      have HR : Hid (wrongOf ts ss x0 x1 x2 = 22) := Lib.hid (by unfold wrongOf; rw [if_neg (by omega), if_pos a1])
      rw [a1] at C1
      clear htn hsn hts hss
      go_enter Try.func61, Try.ntmps61
      go_wp2_with (first | (go_at_call 66; refine (C1.out _ HB1.out).mono ?_; rintro e w1 ⟨rfl, hb1⟩))
      go_ret
      exact ⟨by rw [HR.out]; rfl, HB1.out.trans (hb1.mono (by simp))⟩
    | true =>
      have HR : Hid (wrongOf ts ss x0 x1 x2 = 23) := Lib.hid (by unfold wrongOf; rw [if_neg (by omega), if_neg (by rw [a1]; simp), if_pos (by omega)])
      rw [a1] at C1
      clear htn hsn hts hss
      go_enter Try.func61, Try.ntmps61
      go_wp2_with (first | (go_at_call 66; refine (C1.out _ HB1.out).mono ?_; rintro e w1 ⟨rfl, hb1⟩; have k0 : w1.cell? ⟨w.heap.size, 1, none⟩ = some (.slice sa sn sc) := (by rw [hb1.cell (by simp)]; simp)))
      go_ret
      exact ⟨by rw [HR.out]; rfl, HB1.out.trans (hb1.mono (by simp))⟩
  · exact rights_any ta sa da tn tc sn sc dn dc x0 x1 x2 w 0 w.heap.size ts ss htn hsn hts hss (Nat.le_refl _) (by omega) (by omega)
set_option maxRecDepth 100000 in
set_option maxHeartbeats 4000000 in
theorem names_wide (fr mg p : Int) (wa pa ca la : Option Addr) (wn wc pn pc cn cc ln lc : Nat) (w : World) (lo hi : Nat) (l : List Int) (hln : l.length = ln) (hl : Lies w lo hi (.slice la ln lc) ln 1 (l.flatMap intCells)) (hhi : hi ≤ w.heap.size) (hl2 : ln ≤ 140737488355328) (hp2 : pn ≤ 1000) :
    Calls Try.prog 62 #[.agg #[.int .i64 fr, .int .i64 mg, .slice wa wn wc, .slice pa pn pc, .slice ca cn cc], .int .i64 p, .slice la ln lc] w fun e w' => e = .returned (.bool (namesB pn p l)) ∧ Below w.heap.size w w' := by
  by_cases hlong : pn ≤ ln
  case neg => exact names_any fr mg p wa pa ca la wn wc pn pc cn cc ln lc w lo hi l hln hl hhi (by omega) hp2
  case pos =>
  obtain ⟨V, hV⟩ : ∃ V, V = w.alloc (.cells #[.int .i64 fr, .int .i64 mg, .slice wa wn wc, .slice pa pn pc, .slice ca cn cc] 36) := ⟨_, rfl⟩
  have B1 : Below w.heap.size w V := by rw [hV]; exact below1 _ _
  have hblk : V.heap[w.heap.size]? = some (.cells #[.int .i64 fr, .int .i64 mg, .slice wa wn wc, .slice pa pn pc, .slice ca cn cc] 36 (0, 0)) := by rw [hV]; exact heap_alloc_new _ _
  have hlt0 := lt_of_block hblk
  have HBK := Lib.hid hblk; have HB1 := Lib.hid B1
  have HV := Lib.hid hV; have HLN := Lib.hid hln
  clear hl hblk B1 hV hln
  cases hp : hasB pn p with
  | false =>
    have HR := Lib.hid (namesB_none (l := l) hp)
    have HPP := Lib.hid hp; clear hp
    go_enter Try.func62, Try.ntmps62
    go_wp2_with (first | (go_at_call 59; refine (has_any _ _ _ _ _ _ _ _ _ _ _ _ _).mono ?_; rintro e w1 ⟨rfl, hb1⟩; rw [HPP.out]))
    go_ret
    exact ⟨by rw [HR.out]; rfl, (below1 _ _).trans (hb1.mono (by simp))⟩
  | true =>
    have HPP := Lib.hid hp; clear hp
    have t1 : decide ((pn : Int) ≤ (ln : Int)) = true := by simp; omega
    have HR := Lib.hid (namesB_long (pn := pn) (p := p) (l := l) (by rw [HLN.out]; exact hlong))
    go_enter Try.func62, Try.ntmps62
    go_wp2_with (first | (go_at_call 59; refine (has_any _ _ _ _ _ _ _ _ _ _ _ _ _).mono ?_; rintro e w1 ⟨rfl, hb1⟩; rw [HPP.out]; rw [← HV.out] at hb1; have k3 : w1.cell? ⟨w.heap.size, 3, none⟩ = some (.slice pa pn pc) := (hb1.cell hlt0).trans (cell_in HBK.out rfl)))
    go_ret
    exact ⟨by rw [HR.out]; rfl, HB1.out.trans (hb1.mono HB1.out.size)⟩
end Go.Proofs.Ytmkohnpdpcefgaa
