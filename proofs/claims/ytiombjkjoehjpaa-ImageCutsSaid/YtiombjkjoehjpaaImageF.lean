/- The partitions, a whole system put into a writer in memory. -/
import Derived.Test.YtiombjkjoehjpaaImageE
namespace Go.Proofs.Ytiombjkjoehjpaa
open Go.ChangeShapes Go.WideShapes Go.ChangeAt Go.RowKit
set_option linter.unusedVariables false

set_option maxRecDepth 100000 in
set_option maxHeartbeats 2000000 in
theorem wParts_any (X : Nat) (s : Option (List Fl)) (a : Option Addr) (n c : Nat) (w : World) (lo hi : Nat) (l : List Pt) (pvs : List Pv) (hw : WrS w X s) (hn : l.length = n) (hl : Lies w lo hi (.slice a n c) n 6 (pvs.flatMap Pv.cells)) (hal : AllLie w lo hi pvs l) (hfr : ∀ p ∈ l, Fair p) (hX : X < lo ∨ hi ≤ X) (hhi : hi ≤ w.heap.size) (hnb : n ≤ 4611686018427387904) (hr : Room s (manyF ptF l)) :
    Calls Try.prog 42 #[.agg #[.pointer (some ⟨X, 0, none⟩)], .slice a n c, .func (.func 43) #[] #[]] w fun e w' => e = .returned (.tuple #[]) ∧ WrS w' X (putS s (manyF ptF l)) ∧ But X w w' := by
  have HX : X < w.heap.size := hw.lt
  have HWS := Lib.hid hw
  have HL := Lib.hid hl
  have HAL := Lib.hid hal
  have HFR := Lib.hid hfr
  have HN := Lib.hid hn
  have HR := Lib.hid hr
  have H1 : Hid (sized 1 [(n : Int)] = headF ptF l 0) := Lib.hid (by rw [← hn]; rfl)
  have HR0 : Hid (Room s (sized 1 [(n : Int)])) := Lib.hid (by rw [H1.out]; exact hr.head)
  clear hw hl hn hr hal hfr
  go_enter Try.func42, Try.ntmps42
  go_wp2_with (first
    | (go_at_call 39; refine (put_new X s 1 [(n : Int)] (w.heap.size + 1) 1 _ ((HWS.out.keep (below1 _ _)).keep (below1 _ _)) rfl (heap_new_at (by simp)) (by rfl) (by omega) (by omega) (by omega) HR0.out).mono ?_; rintro e w1 ⟨rfl, hw1, hb1⟩))
  have HB1 : Hid (But X w w1) := Lib.hid ((But.of_below ((below1 w _).alloc (by simp) _)).trans hb1)
  have HK1 : Hid (w1.heap[w.heap.size]? = _) := Lib.hid (hb1.at (at_alloc (heap_new_at rfl)) (show w.heap.size ≠ X by omega))
  rw [H1.out] at hw1
  have HW1 := Lib.hid hw1
  clear hb1 hw1
  go_loopw [16] (fun i wr => ∃ (k : Nat), k ≤ n ∧ i = .int .i64 k ∧ Hid (WrS wr X (putS s (headF ptF l k))) ∧ Hid (But X w wr) ∧ Hid (wr.heap[w.heap.size]? = w1.heap[w.heap.size]?)) (fun i _ => n - (intOf i).toNat)
  case atStart => exact ⟨0, by omega, rfl, HW1, HB1, Lib.hid rfl⟩
  case round =>
    obtain ⟨k, hk, rfl, HW, HBT, HKK⟩ := hrel
    have kb := cell_in (j := 0) (HKK.out.trans HK1.out) rfl
    by_cases hlt : k < n
    · have tk : decide ((k : Int) < (n : Int)) = true := by simpa using hlt
      obtain ⟨x, hx⟩ : ∃ x, l[k]? = some x := ⟨_, List.getElem?_eq_getElem (by rw [HN.out]; exact hlt)⟩
      have HX1 := Lib.hid hx
      have hlies := HL.out.keep (HBT.out.same hX hhi)
      obtain ⟨a2, c2, e2, _, _, hc⟩ := hlies
      cases e2
      rcases hc with h0 | ⟨b, off, rfl, hb1, hb2, hc⟩
      · omega
      have hal := HAL.out.keep (HBT.out.same hX hhi)
      obtain ⟨v, hv⟩ : ∃ v, pvs[k]? = some v := ⟨_, List.getElem?_eq_getElem (by rw [hal.length, HN.out]; exact hlt)⟩
      have hpl := hal.at hv hx
      obtain ⟨ta, sa, da, tc, sc, dc, e1, e2, e3⟩ := PtLies.slices hpl
      obtain ⟨s0, s1, s2, s3, s4, s5⟩ := Lies.pv hc hv
      have hfa := HFR.out x (List.mem_of_getElem? hx)
      obtain ⟨xt, xs, xd, y0, y1, y2⟩ := x
      obtain ⟨vt, vs, vd, v0, v1, v2⟩ := v
      obtain ⟨g1, g2, g3, g4, g5, g6⟩ := hpl
      simp only at s0 s1 s2 s3 s4 s5 e1 e2 e3 g1 g2 g3 g4 g5 g6
      subst e1 e2 e3 g4 g5 g6
      have G1 := Lib.hid g1; have G2 := Lib.hid g2; have G3 := Lib.hid g3; have HFA := Lib.hid hfa
      clear g1 g2 g3 hal hfa hv
      have l0 : (0 : Int) ≤ (k : Int) := by omega
      have l1 : (k : Int) < (n : Int) := by omega
      have kX := HW.out.err
      have hXr : X < wr.heap.size := HW.out.lt
      have hbr : w.heap.size < wr.heap.size := by have := HKK.out.trans HK1.out; exact lt_of_block this
      clear hc hx
      cases hst : putS s (headF ptF l k) with
      | none =>
        have HNO : Hid (putS s (manyF ptF l) = none) := Lib.hid (putS_head_none ptF l k hst)
        rw [hst] at kX
        simp only [Option.isNone_none, if_true] at kX
        have HST := Lib.hid hst
        clear hst
        have kX1 : (wr.alloc (.cells #[.slice ta xt.length tc, .slice sa xs.length sc, .slice da xd.length dc, .int .u8 v0, .int .u8 v1, .int .u8 v2] 76 (0, 0))).cell? ⟨X, 0, none⟩ = some (.int .i64 2) := cell_alloc kX hXr _
        go_wp2_with (first
          | (go_at_call 20; refine (wErr_any X _ 2 kX1).mono ?_; rintro e w' ⟨rfl, rfl⟩))
        (first | go_end0 | refine bodyPost_ret (results_none rfl _ _ _) rfl ?_)
        have hw9 := HW.out
        rw [HST.out] at hw9
        rw [HNO.out]
        exact ⟨rfl, hw9.keep (below1 _ _), HBT.out.alloc _⟩
      | some fs =>
        rw [hst] at kX
        simp only [Option.isNone_some, Bool.false_eq_true, if_false] at kX
        clear hst
        have HRX := Lib.hid (HR.out.at HX1.out)
        have HBX := Lib.hid (HKK.out.trans HK1.out)
        have kX1 : (wr.alloc (.cells #[.slice ta xt.length tc, .slice sa xs.length sc, .slice da xd.length dc, .int .u8 v0, .int .u8 v1, .int .u8 v2] 76 (0, 0))).cell? ⟨X, 0, none⟩ = some (.int .i64 0) := cell_alloc kX hXr _
        go_wp2_with (first
          | (go_at_call 20; refine (wErr_any X _ 0 kX1).mono ?_; rintro e w' ⟨rfl, rfl⟩)
          | (go_at_call 43; refine (wPart_any X _ ta sa da _ tc _ sc _ dc v0 v1 v2 _ lo hi xt xs xd (HW.out.keep (below1 _ _)) rfl rfl rfl (G1.out.keep (SameIn.of_below (below1 _ _) (Nat.le_trans hhi HBT.out.size))) (G2.out.keep (SameIn.of_below (below1 _ _) (Nat.le_trans hhi HBT.out.size))) (G3.out.keep (SameIn.of_below (below1 _ _) (Nat.le_trans hhi HBT.out.size))) hX (Nat.le_trans hhi (by have := HBT.out.size; simp; omega)) HFA.out HRX.out).mono ?_; rintro e w2 ⟨rfl, hw2, hb2⟩))
        go_roundw
        case rel => exact ⟨k + 1, by omega, by go_num, Lib.hid (by rw [headF_next _ _ _ _ HX1.out, putS_append]; exact hw2), Lib.hid ((HBT.out.alloc _).trans hb2), Lib.hid ((hb2.at (at_alloc HBX.out) (show w.heap.size ≠ X by omega)).trans HK1.out.symm)⟩
        case measure => simp [intOf]; omega
    · have tk : decide ((k : Int) < (n : Int)) = false := by simp; omega
      have HE : Hid (headF ptF l k = manyF ptF l) := Lib.hid (headF_end _ _ _ (by rw [HN.out]; omega))
      go_wp2_with fail
      (first | go_end0 | refine bodyPost_ret (results_none rfl _ _ _) rfl ?_)
      rw [HE.out] at HW
      exact ⟨rfl, HW.out, HBT.out⟩

/-- Few enough for 64 bits: a system. -/
def FairC (c : Cf) : Prop := c.ws.length ≤ 4611686018427387904 ∧ c.ps.length ≤ 4611686018427387904 ∧ c.cs.length ≤ 4611686018427387904 ∧ ∀ p ∈ c.ps, Fair p
set_option maxRecDepth 100000 in
set_option maxHeartbeats 2000000 in
theorem wConfig_any (X : Nat) (s : Option (List Fl)) (wa pa ca : Option Addr) (wn wc pn pc cn cc : Nat) (fr mg : Int) (w : World) (lo hi : Nat) (ws : List Wn) (ps : List Pt) (cs : List Ch) (pvs : List Pv) (hw : WrS w X s)
    (h1 : ws.length = wn) (h2 : ps.length = pn) (h3 : cs.length = cn) (l1 : Lies w lo hi (.slice wa wn wc) wn 3 (ws.flatMap Wn.cells)) (l2 : Lies w lo hi (.slice pa pn pc) pn 6 (pvs.flatMap Pv.cells)) (hal : AllLie w lo hi pvs ps) (l3 : Lies w lo hi (.slice ca cn cc) cn 4 (cs.flatMap Ch.cells))
    (hX : X < lo ∨ hi ≤ X) (hhi : hi ≤ w.heap.size) (hf : FairC ⟨fr, mg, ws, ps, cs⟩) (hr : Room s (cfF ⟨fr, mg, ws, ps, cs⟩)) :
    Calls Try.prog 19 #[.agg #[.pointer (some ⟨X, 0, none⟩)], .agg #[.int .i64 fr, .int .i64 mg, .slice wa wn wc, .slice pa pn pc, .slice ca cn cc]] w fun e w' => e = .returned (.tuple #[]) ∧ WrS w' X (putS s (cfF ⟨fr, mg, ws, ps, cs⟩)) ∧ But X w w' := by
  obtain ⟨b1, b2, b3, hfp⟩ := hf
  simp only at b1 b2 b3 hfp
  rw [h1] at b1; rw [h2] at b2; rw [h3] at b3
  have HX : X < w.heap.size := hw.lt
  have HF : Hid (cfF ⟨fr, mg, ws, ps, cs⟩ = sized 4 [1346458187] ++ (sized 2 [fr, mg] ++ (manyF wnF ws ++ (manyF ptF ps ++ manyF chF cs)))) := Lib.hid rfl
  rw [HF.out] at hr
  have R1 := Lib.hid hr.left
  have R2 := Lib.hid hr.right.left
  have R3 := Lib.hid hr.right.right.left
  have R4 := Lib.hid hr.right.right.right.left
  have R5 := Lib.hid hr.right.right.right.right
  have HL1 := Lib.hid l1; have HL2 := Lib.hid l2; have HL3 := Lib.hid l3; have HAL := Lib.hid hal; have HFP := Lib.hid hfp
  have H1 := Lib.hid h1; have H2 := Lib.hid h2; have H3 := Lib.hid h3
  have HWS := Lib.hid hw
  clear hw h1 h2 h3 l1 l2 l3 hal hr hfp
  go_enter Try.func19, Try.ntmps19
  go_wp2_with (first
    | (go_at_call 44
       refine (wChannels_any X _ ca cn cc _ lo hi cs HW4.out H3.out (HL3.out.keep (HB4.out.same hX hhi)) hX (Nat.le_trans hhi HB4.out.size) b3 R5.out).mono ?_
       rintro e w5 ⟨rfl, hw5, hb5⟩)
    | (go_at_call 42
       refine (wParts_any X _ pa pn pc _ lo hi ps pvs HW3.out H2.out (HL2.out.keep (HB3.out.same hX hhi)) (HAL.out.keep (HB3.out.same hX hhi)) HFP.out hX (Nat.le_trans hhi HB3.out.size) b2 R4.out).mono ?_
       rintro e w4 ⟨rfl, hw4, hb4⟩
       have A4 : Hid (w4.heap[w.heap.size]? = _) := Lib.hid (hb4.at A3.out (show w.heap.size ≠ X by omega))
       have B4 : Hid (w4.heap[w.heap.size + 1]? = _) := Lib.hid (hb4.at B3.out (show w.heap.size + 1 ≠ X by omega))
       have HB4 : Hid (But X w w4) := Lib.hid (HB3.out.trans hb4)
       have q7 := cell_in (j := 0) A4.out rfl
       have q8 := cell_in (j := 4) B4.out rfl
       have HW4 := Lib.hid hw4
       clear hw4 hb4)
    | (go_at_call 40
       refine (wWindows_any X _ wa wn wc _ lo hi ws HW2.out H1.out (HL1.out.keep (HB2.out.same hX hhi)) hX (Nat.le_trans hhi HB2.out.size) b1 R3.out).mono ?_
       rintro e w3 ⟨rfl, hw3, hb3⟩
       have A3 : Hid (w3.heap[w.heap.size]? = _) := Lib.hid (hb3.at A2.out (show w.heap.size ≠ X by omega))
       have B3 : Hid (w3.heap[w.heap.size + 1]? = _) := Lib.hid (hb3.at B2.out (show w.heap.size + 1 ≠ X by omega))
       have HB3 : Hid (But X w w3) := Lib.hid (HB2.out.trans hb3)
       have q5 := cell_in (j := 0) A3.out rfl
       have q6 := cell_in (j := 3) B3.out rfl
       have HW3 := Lib.hid hw3
       clear hw3 hb3)
    | (go_at_call 39
       refine (put_new X _ 2 [fr, mg] w1.heap.size 2 _ (HW1.out.keep (below1 _ _)) rfl (heap_new_at rfl) (by rfl) (by omega) (by omega) (by omega) R2.out).mono ?_
       rintro e w2 ⟨rfl, hw2, hb2⟩
       have A2 : Hid (w2.heap[w.heap.size]? = _) := Lib.hid (hb2.at (at_alloc A1.out) (show w.heap.size ≠ X by omega))
       have B2 : Hid (w2.heap[w.heap.size + 1]? = _) := Lib.hid (hb2.at (at_alloc B1.out) (show w.heap.size + 1 ≠ X by omega))
       have HB2 : Hid (But X w w2) := Lib.hid ((HB1.out.alloc _).trans hb2)
       have q3 := cell_in (j := 0) A2.out rfl
       have q4 := cell_in (j := 2) B2.out rfl
       have HW2 := Lib.hid hw2
       clear hw2 hb2)
    | (go_at_call 39
       refine (put_new X s 4 [1346458187] (w.heap.size + 2) 1 _ (((HWS.out.keep (below1 _ _)).keep (below1 _ _)).keep (below1 _ _)) rfl (heap_new_at (by simp)) (by rfl) (by omega) (by omega) (by omega) R1.out).mono ?_
       rintro e w1 ⟨rfl, hw1, hb1⟩
       have A1 : Hid (w1.heap[w.heap.size]? = _) := Lib.hid (hb1.at (at_alloc (at_alloc (heap_new_at rfl))) (show w.heap.size ≠ X by omega))
       have B1 : Hid (w1.heap[w.heap.size + 1]? = _) := Lib.hid (hb1.at (at_alloc (heap_new_at (by simp))) (show w.heap.size + 1 ≠ X by omega))
       have HB1 : Hid (But X w w1) := Lib.hid ((But.of_below ((((below1 w _).alloc (by simp) _)).alloc (by simp; omega) _)).trans hb1)
       have q0 := cell_in (j := 0) A1.out rfl
       have q1 := cell_in (j := 0) B1.out rfl
       have q2 := cell_in (j := 1) B1.out rfl
       have lt1 : X < w1.heap.size := hw1.lt
       have lt2 : w.heap.size + 1 < w1.heap.size := lt_of_block B1.out
       have HW1 := Lib.hid hw1
       clear hw1 hb1))
  (first | go_end0 | refine bodyPost_ret (results_none rfl _ _ _) rfl ?_)
  rw [← putS_append, ← putS_append, ← putS_append, ← putS_append] at hw5
  refine ⟨rfl, ?_, HB4.out.trans hb5⟩
  rw [HF.out]
  exact hw5
end Go.Proofs.Ytiombjkjoehjpaa
