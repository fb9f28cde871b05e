/- The walk of the statement on what has no way, of a program whose verdicts are as they are asked to be. -/
import Derived.Test.YtdbbdlobahalkaaGreatLawElevenA
import Derived.Test.YtdbbdlobahalkaaGreatAdmitProg
import Derived.Test.YtdbbdlobahalkaaGreatSupplyW
import Derived.Test.YtdbbdlobahalkaaGreatAdmitX
import Derived.Test.YtdbbdlobahalkaaGreatNames
import Derived.Test.YtdbbdlobahalkaaGreatRead
namespace Go.Proofs.YtdbbdlobahalkaaGreat
open Go.ChangeShapes Go.WideShapes Go.ChangeAt Go.RowKit
set_option linter.unusedVariables false

set_option maxRecDepth 100000 in
set_option maxHeartbeats 8000000 in
theorem AdmitNoWay_of (CJ : JudgeOk) (CSL : SlackOk) (wa pa ca : Option Addr) (wc pc cc : Nat) (w : World) (c : Cf) (pvs : List Pv) (h : SysL w w.heap.size c pvs wa pa ca wc pc cc) (hin : c.In) :
    Calls Tryz.prog 5 #[.agg #[.int .i64 c.frame, .int .i64 c.margin, .slice wa c.ws.length wc, .slice pa c.ps.length pc, .slice ca c.cs.length cc]] w fun e w' => e = .returned (.bool true) ∧ Below w.heap.size w w' := by
  obtain ⟨V, hV⟩ : ∃ V, V = w.alloc (.cells #[.int .i64 c.frame, .int .i64 c.margin, .slice wa c.ws.length wc, .slice pa c.ps.length pc, .slice ca c.cs.length cc] 26) := ⟨_, rfl⟩
  have hB1 : Below w.heap.size w V := by rw [hV]; exact below1 _ _
  have ks : ∀ W : World, Below V.heap.size V W → W.cell? ⟨w.heap.size, 0, none⟩ = some (.int .i64 c.frame) ∧ W.cell? ⟨w.heap.size, 1, none⟩ = some (.int .i64 c.margin) ∧ W.cell? ⟨w.heap.size, 2, none⟩ = some (.slice wa c.ws.length wc) ∧ W.cell? ⟨w.heap.size, 3, none⟩ = some (.slice pa c.ps.length pc) ∧ W.cell? ⟨w.heap.size, 4, none⟩ = some (.slice ca c.cs.length cc) := fun W g => by
    rw [hV] at g
    exact boxK5 _ _ _ _ _ _ _ W g
  have SV : SysL V w.heap.size c pvs wa pa ca wc pc cc := h.keep (SameIn.of_below hB1 (Nat.le_refl _))
  have CN := Lib.hid (near_sys hin.1 SV hB1.size)
  have HF64 := Lib.hid hin.1; have HIN := Lib.hid hin.2.2.1
  have hFe : ∃ F : Nat, (checkV c).1 = 0 → c.frame = (F : Int) := by
    by_cases hz : (checkV c).1 = 0
    · obtain ⟨F, hF⟩ := frame_nat hz; exact ⟨F, fun _ => hF⟩
    · exact ⟨0, fun g => absurd g hz⟩
  obtain ⟨F, hFe⟩ := hFe
  have HFE := Lib.hid hFe
  have KS := Lib.hid ks; have HB1 := Lib.hid hB1; have HS := Lib.hid SV; have HV := Lib.hid hV; have HSZ := Lib.hid hB1.size
  clear ks hB1 SV hV h hin
  cases hn : nearB c with
  | false =>
    have HN := Lib.hid hn; clear hn hFe
    go_enter Tryz.func5, Tryz.ntmps5
    go_wp2_with (first
      | (go_at_call 6; rw [← HV.out]; refine CN.out.mono ?_; rintro e w1 ⟨rfl, hb1⟩; rw [HN.out])
      | (go_at_call 7; refine (knows11_any CJ CSL _).mono ?_; rintro e w2 ⟨rfl, hb2⟩))
    go_ret
    exact ⟨rfl, HB1.out.trans ((bel_thenD hb1 (Nat.le_refl _) hb2).mono HB1.out.size)⟩
  | true =>
    have hli : lightB c = true := by unfold nearB at hn; rw [Bool.and_eq_true] at hn; exact hn.1
    have HF := Lib.hid (light_bounds hli)
    have HN := Lib.hid hn; clear hn hli
    by_cases hq : (judgeV c F).2 = 0 ∧ (judgeV c F).1.kind = 1 ∧ (judgeV c F).1.t ≤ 3000
    · obtain ⟨q1, q2, q3⟩ := hq
      have hz : (checkV c).1 = 0 := by
        by_cases hz : (checkV c).1 = 0
        · exact hz
        · rw [judge_wrong hz] at q1; exact absurd q1 hz
      have hl : ¬ 0 ≤ (allV c).1 := fun hl => by
        rw [judge_large hz hl] at q2
        cases q2
      obtain ⟨⟨k0, k1, k2, k3⟩, hj⟩ : ∃ v, (judgeV c F).1 = v := ⟨_, rfl⟩
      rw [hj] at q2 q3
      simp only at q2 q3
      subst q2
      have hF1 : 1 ≤ F := by have := (rightB_t (right_of_ok hz)).1; have := hFe hz; omega
      obtain ⟨k, x, T, rfl, rfl, hx, hway⟩ := noway_of hz (hFe hz) hF1 hl hj
      have HJC : Hid ((judgeV c F).1.cells = #[.int .i64 1, .int .i64 (k : Int), .bool k2, .int .i64 (T : Int)]) := Lib.hid (by rw [hj]; rfl)
      have HFV : Hid ((judgeV c F).2 = 0) := Lib.hid q1
      have HWAY := Lib.hid hway
      have HXX := Lib.hid hx
      have HZ := Lib.hid hz
      have hk : k < c.ps.length := (List.getElem?_eq_some_iff.1 hx).1
      have t1 : decide (3000 < (T : Int)) = false := by simp; omega
      clear hz hl q1 hj hway hx hFe
      go_enter Tryz.func5, Tryz.ntmps5
      go_upto_region 7 with (first
        | (go_at_call 6; rw [← HV.out]; refine CN.out.mono ?_; rintro e w1 ⟨rfl, hb1⟩; rw [HN.out]; have HBa := Lib.hid hb1; obtain ⟨z0, z1, z2, z3, z4⟩ := KS.out _ hb1; clear hb1)
        | (go_at_call 7; refine (knows11_any CJ CSL _).mono ?_; rintro e w2 ⟨rfl, hb2⟩; have HBb := Lib.hid (bel_thenD HBa.out (Nat.le_refl _) hb2); clear z0 z1 z2 z3 z4; obtain ⟨z0, z1, z2, z3, z4⟩ := KS.out _ HBb.out; clear hb2)
        | (go_at_call 9; refine (config_sys HF.out (HS.out.keep (SameIn.of_below HBb.out HSZ.out)) (Nat.le_trans HSZ.out HBb.out.size)).mono ?_; rintro e w3 ⟨vs, i1, i2, i3, j1, j2, j3, rfl, hs3, hb3⟩
           obtain ⟨X, hX⟩ : ∃ X, X = w3.alloc (.cells #[.int .i64 c.frame, .int .i64 c.margin, .slice i1 c.ws.length j1, .slice i2 c.ps.length j2, .slice i3 c.cs.length j3] 39) := ⟨_, rfl⟩
           have HBc := Lib.hid (bel_thenD HBb.out (Nat.le_refl _) hb3)
           have hXX : Below w3.heap.size w3 X := by rw [hX]; exact below1 _ _
           have HBX : Hid (Below V.heap.size V X) := Lib.hid (bel_thenD HBc.out (Nat.le_refl _) hXX)
           have HSX : Hid (∀ W : World, Below X.heap.size X W → SysL W w3.heap.size c vs i1 i2 i3 j1 j2 j3 ∧ w3.heap.size ≤ W.heap.size) := Lib.hid fun W g => And.intro (hs3.keep (SameIn.of_below (bel_thenD hXX (Nat.le_refl _) g) (Nat.le_refl _))) (bel_thenD hXX (Nat.le_refl _) g).size
           have KX : Hid (∀ W : World, Below X.heap.size X W → W.cell? ⟨w3.heap.size, 0, none⟩ = some (.int .i64 c.frame) ∧ W.cell? ⟨w3.heap.size, 1, none⟩ = some (.int .i64 c.margin) ∧ W.cell? ⟨w3.heap.size, 2, none⟩ = some (.slice i1 c.ws.length j1) ∧ W.cell? ⟨w3.heap.size, 3, none⟩ = some (.slice i2 c.ps.length j2) ∧ W.cell? ⟨w3.heap.size, 4, none⟩ = some (.slice i3 c.cs.length j3)) := Lib.hid fun W g => by
             rw [hX] at g
             exact boxK5 _ _ _ _ _ _ _ W g
           obtain ⟨x0, x1, x2, x3, x4⟩ := boxK5 w3 (.int .i64 c.frame) (.int .i64 c.margin) (.slice i1 c.ws.length j1) (.slice i2 c.ps.length j2) (.slice i3 c.cs.length j3) 39 _ (Below.refl _ _)
           have HX := Lib.hid hX
           clear z0 z1 z2 z3 z4 hs3 hb3 hXX hX)
        | (go_at_call 8; rw [← HX.out]; refine (CJ _ _ c vs i1 i2 i3 j1 j2 j3 HF.out (HSX.out _ (Below.refl _ _)).1 (HSX.out _ (Below.refl _ _)).2 HIN.out HF64.out F HFE.out).mono ?_; rintro e w4 ⟨rfl, hb4⟩; rw [HJC.out, HFV.out]
           obtain ⟨Y, hY⟩ : ∃ Y, Y = w4.alloc (.cells #[.int .i64 1, .int .i64 (k : Int), .bool k2, .int .i64 (T : Int)] 31) := ⟨_, rfl⟩
           have hYX : Below X.heap.size X Y := by rw [hY]; exact hb4.alloc hb4.size _
           have HBY : Hid (Below V.heap.size V Y) := Lib.hid (bel_thenD HBX.out (Nat.le_refl _) hYX)
           have HSY : Hid (∀ W : World, Below Y.heap.size Y W → SysL W w3.heap.size c vs i1 i2 i3 j1 j2 j3 ∧ w3.heap.size ≤ W.heap.size) := Lib.hid fun W g => HSX.out W (bel_thenD hYX (Nat.le_refl _) g)
           have hvv : CellsAt Y w4.heap.size 31 [.int .i64 1, .int .i64 (k : Int), .bool k2, .int .i64 (T : Int)] := by rw [hY]; exact heap_alloc_new _ _
           have KY : Hid (∀ W : World, Below Y.heap.size Y W → (W.cell? ⟨w3.heap.size, 0, none⟩ = some (.int .i64 c.frame) ∧ W.cell? ⟨w3.heap.size, 1, none⟩ = some (.int .i64 c.margin) ∧ W.cell? ⟨w3.heap.size, 2, none⟩ = some (.slice i1 c.ws.length j1) ∧ W.cell? ⟨w3.heap.size, 3, none⟩ = some (.slice i2 c.ps.length j2) ∧ W.cell? ⟨w3.heap.size, 4, none⟩ = some (.slice i3 c.cs.length j3)) ∧ W.cell? ⟨w4.heap.size, 0, none⟩ = some (.int .i64 1) ∧ W.cell? ⟨w4.heap.size, 1, none⟩ = some (.int .i64 (k : Int)) ∧ W.cell? ⟨w4.heap.size, 2, none⟩ = some (.bool k2) ∧ W.cell? ⟨w4.heap.size, 3, none⟩ = some (.int .i64 (T : Int))) := Lib.hid fun W g => by
             have g1 := hvv.later g
             exact ⟨KX.out _ (bel_thenD hYX (Nat.le_refl _) g), (g1.cell (j := 0) rfl).1, (g1.cell (j := 1) rfl).1, (g1.cell (j := 2) rfl).1, (g1.cell (j := 3) rfl).1⟩
           have HY := Lib.hid hY
           clear x0 x1 x2 x3 x4
           obtain ⟨⟨x0, x1, x2, x3, x4⟩, y0, y1, y2, y3⟩ : ((w4.alloc (.cells #[.int .i64 1, .int .i64 (k : Int), .bool k2, .int .i64 (T : Int)] 31)).cell? ⟨w3.heap.size, 0, none⟩ = some (.int .i64 c.frame) ∧ (w4.alloc (.cells #[.int .i64 1, .int .i64 (k : Int), .bool k2, .int .i64 (T : Int)] 31)).cell? ⟨w3.heap.size, 1, none⟩ = some (.int .i64 c.margin) ∧ (w4.alloc (.cells #[.int .i64 1, .int .i64 (k : Int), .bool k2, .int .i64 (T : Int)] 31)).cell? ⟨w3.heap.size, 2, none⟩ = some (.slice i1 c.ws.length j1) ∧ (w4.alloc (.cells #[.int .i64 1, .int .i64 (k : Int), .bool k2, .int .i64 (T : Int)] 31)).cell? ⟨w3.heap.size, 3, none⟩ = some (.slice i2 c.ps.length j2) ∧ (w4.alloc (.cells #[.int .i64 1, .int .i64 (k : Int), .bool k2, .int .i64 (T : Int)] 31)).cell? ⟨w3.heap.size, 4, none⟩ = some (.slice i3 c.cs.length j3)) ∧ (w4.alloc (.cells #[.int .i64 1, .int .i64 (k : Int), .bool k2, .int .i64 (T : Int)] 31)).cell? ⟨w4.heap.size, 0, none⟩ = some (.int .i64 1) ∧ (w4.alloc (.cells #[.int .i64 1, .int .i64 (k : Int), .bool k2, .int .i64 (T : Int)] 31)).cell? ⟨w4.heap.size, 1, none⟩ = some (.int .i64 (k : Int)) ∧ (w4.alloc (.cells #[.int .i64 1, .int .i64 (k : Int), .bool k2, .int .i64 (T : Int)] 31)).cell? ⟨w4.heap.size, 2, none⟩ = some (.bool k2) ∧ (w4.alloc (.cells #[.int .i64 1, .int .i64 (k : Int), .bool k2, .int .i64 (T : Int)] 31)).cell? ⟨w4.heap.size, 3, none⟩ = some (.int .i64 (T : Int)) := by rw [← hY]; exact KY.out _ (Below.refl _ _)
           clear hb4 hYX hY hvv)
        | (go_at_call 11; refine (num11_any _ _).mono ?_; rintro e w9 ⟨rfl, rfl⟩))
      rw [← HY.out]
      clear x0 x1 x2 x3 x4 y0 y1 y2 y3
      obtain ⟨⟨x0, x1, x2, x3, x4⟩, y0, y1, y2, y3⟩ := KY.out _ (Below.refl _ _)
      obtain ⟨x', pv, ta, sa, da, tc, sc, dc, b, off, hx', rfl, hb2, hpx, s0, s1, s2, s3, s4, s5⟩ := (HSY.out _ (Below.refl _ _)).1.part (HSY.out _ (Below.refl _ _)).2 hk
      obtain rfl : x = x' := by have := HXX.out.symm.trans hx'; cases this; rfl
      have l0 : (0 : Int) ≤ (k : Int) := by omega
      have l1 : (k : Int) < (c.ps.length : Int) := by omega
      have HPX := Lib.hid hpx
      clear hpx hx'
      obtain ⟨Z, hZ⟩ : ∃ Z, Z = Y.alloc (.cells #[.slice ta x.ts.length tc, .slice sa x.ss.length sc, .slice da x.ds.length dc, .int .u8 pv.a0, .int .u8 pv.a1, .int .u8 pv.a2] 57) := ⟨_, rfl⟩
      have hYZ : Below Y.heap.size Y Z := by rw [hZ]; exact below1 _ _
      have KZ : Hid (∀ W : World, Below Z.heap.size Z W → (W.cell? ⟨w3.heap.size, 0, none⟩ = some (.int .i64 c.frame) ∧ W.cell? ⟨w3.heap.size, 1, none⟩ = some (.int .i64 c.margin) ∧ W.cell? ⟨w3.heap.size, 2, none⟩ = some (.slice i1 c.ws.length j1) ∧ W.cell? ⟨w3.heap.size, 3, none⟩ = some (.slice (some ⟨b, off, none⟩) c.ps.length j2) ∧ W.cell? ⟨w3.heap.size, 4, none⟩ = some (.slice i3 c.cs.length j3)) ∧ (W.cell? ⟨w4.heap.size, 0, none⟩ = some (.int .i64 1) ∧ W.cell? ⟨w4.heap.size, 1, none⟩ = some (.int .i64 (k : Int)) ∧ W.cell? ⟨w4.heap.size, 2, none⟩ = some (.bool k2) ∧ W.cell? ⟨w4.heap.size, 3, none⟩ = some (.int .i64 (T : Int))) ∧ W.cell? ⟨Y.heap.size, 0, none⟩ = some (.slice ta x.ts.length tc) ∧ W.cell? ⟨Y.heap.size, 1, none⟩ = some (.slice sa x.ss.length sc) ∧ W.cell? ⟨Y.heap.size, 2, none⟩ = some (.slice da x.ds.length dc) ∧ W.cell? ⟨Y.heap.size, 3, none⟩ = some (.int .u8 pv.a0) ∧ W.cell? ⟨Y.heap.size, 4, none⟩ = some (.int .u8 pv.a1) ∧ W.cell? ⟨Y.heap.size, 5, none⟩ = some (.int .u8 pv.a2)) := Lib.hid fun W g => by
        have e := KY.out W (bel_thenD hYZ (Nat.le_refl _) g)
        rw [hZ] at g
        exact ⟨e.1, e.2, boxK6 _ _ _ _ _ _ _ _ W g⟩
      have HBZ : Hid (Below V.heap.size V Z) := Lib.hid (bel_thenD HBY.out (Nat.le_refl _) hYZ)
      have HSZ2 := Lib.hid (fun (W : World) (g : Below Z.heap.size Z W) => HSY.out W (bel_thenD hYZ (Nat.le_refl _) g))
      have HTS := Lib.hid (fun (W : World) (g : Below Z.heap.size Z W) => (HPX.out.later (bel_thenD hYZ (Nat.le_refl _) g)).ts)
      have HW3Z : Hid (w3.heap.size ≤ Z.heap.size) := Lib.hid (HSY.out _ hYZ).2
      have HZW := Lib.hid hZ
      obtain ⟨o1, o2, o3, _⟩ := ok_few HZ.out HXX.out
      have HO3 := Lib.hid o3
      have hk6 : k < 6 := by have := ((check_iff c).1 HZ.out).2.1; omega
      clear hYZ hZ o3
      go_wp2_with fail
      clear x0 x1 x2 x3 x4 y0 y1 y2 y3 s0 s1 s2 s3 s4 s5
      go_loopw [7] (fun i wr => ∃ n : Nat, n ≤ x.ts.length ∧ i = .int .i64 n ∧ Hid (∀ j, j < n → ∀ y, x.ts[j]? = some y → y.hi = false) ∧ wr = Z) (fun i _ => x.ts.length - (intOf i).toNat)
      case atStart => exact ⟨0, by omega, rfl, Lib.hid fun j hj => by omega, HZW.out.symm⟩
      case round =>
        obtain ⟨n, hn, rfl, HH, hw⟩ := hrel
        have hw2 := hw.symm
        subst hw2
        obtain ⟨⟨z0, z1, z2, z3, z4⟩, ⟨y0, y1, y2, y3⟩, p0, p1, p2, p3, p4, p5⟩ := KZ.out Z (Below.refl _ _)
        by_cases hlt : n < x.ts.length
        · have tk : decide ((n : Int) < (x.ts.length : Int)) = true := by simpa using hlt
          obtain ⟨y, hy⟩ : ∃ y, x.ts[n]? = some y := ⟨_, List.getElem?_eq_getElem hlt⟩
          obtain ⟨a2, c2, e2, _, _, hc⟩ := (HTS.out Z (Below.refl _ _))
          cases e2
          rcases hc with h0 | ⟨tb, toff, rfl, tb1, tb2, hc⟩
          · omega
          obtain ⟨s0, s1, s2, s3, s4, s5⟩ := Lies.tk hc hy
          have m0 : (0 : Int) ≤ (n : Int) := by omega
          have m1 : (n : Int) < (x.ts.length : Int) := by omega
          have HY1 := Lib.hid hy
          clear hc hy
          obtain ⟨yb, yt, yd, yv, ylo, ytop⟩ := y
          simp only at s0 s1 s2 s3 s4 s5
          cases yb with
          | true =>
            go_wp2_with fail
            go_ret
            exact ⟨rfl, HB1.out.trans (HBZ.out.mono HB1.out.size)⟩
          | false =>
            go_wp2_with fail
            go_roundw
            case rel => exact ⟨n + 1, by omega, by go_num, Lib.hid fun j hj y hy => (by
              rcases Nat.lt_or_ge j n with e | e
              · exact HH.out j e y hy
              · obtain rfl : j = n := by omega
                have := HY1.out.symm.trans hy; cases this; rfl), by first | rfl | trivial⟩
            case measure => simp [intOf]; omega
        · have tk : decide ((n : Int) < (x.ts.length : Int)) = false := by simp; omega
          have HAL : Hid (∀ y ∈ x.ts, y.hi = false) := Lib.hid fun y hy => by
            obtain ⟨j, hj⟩ := List.mem_iff_getElem?.1 hy
            exact HH.out j (by have := (List.getElem?_eq_some_iff.1 hj).1; omega) y hj
          by_cases hs : 0 < x.ss.length
          · have tk2 : decide ((0 : Int) < (x.ss.length : Int)) = true := by simpa using hs
            go_wp2_with fail
            go_ret
            exact ⟨rfl, HB1.out.trans (HBZ.out.mono HB1.out.size)⟩
          · have tk2 : decide ((0 : Int) < (x.ss.length : Int)) = false := decide_eq_false (by omega)
            have hnil : x.ss = [] := List.length_eq_zero_iff.1 (by omega)
            obtain ⟨hk2, hlow⟩ := HWAY.out HAL.out hnil
            subst hk2
            have HLOW := Lib.hid hlow
            clear hlow
            obtain ⟨q, hq⟩ : ∃ q : Nat, q = worstV (isO F c.margin c.ws (k : Int)) F T := ⟨_, rfl⟩
            have HQ : Hid (worstV (isO F c.margin c.ws (k : Int)) F (heldN (T : Int)) = q) := Lib.hid (by rw [heldN_cut (by omega) (by omega), Int.toNat_natCast, hq])
            have hqF : q < F := by rw [hq]; exact (worstV_is hF1 T).1
            rw [← hq] at HLOW
            clear hq
            go_wp2_with (first
              | (go_at_call 17; go_loud (refine (table_yes HF.out (HSZ2.out _ (Below.refl _ _)).1 (HSZ2.out _ (Below.refl _ _)).2 HIN.out HZ.out F (HFE.out HZ.out)).mono ?_; rintro e w5 ⟨g, la', lc', rfl, htab, hb5⟩; have HTAB := Lib.hid htab; have HB5 := Lib.hid hb5; have hf2 := htab.f2; have R4 := Lib.hid (Below.refl w5.heap.size w5); have K4 : Hid (∀ W : World, Below w5.heap.size w5 W → Below w5.heap.size w5 W ∧ W.cell? ⟨w4.heap.size, 0, none⟩ = some (.int .i64 1) ∧ W.cell? ⟨w4.heap.size, 1, none⟩ = some (.int .i64 (k : Int)) ∧ W.cell? ⟨w4.heap.size, 2, none⟩ = some (.bool false) ∧ W.cell? ⟨w4.heap.size, 3, none⟩ = some (.int .i64 (T : Int))) := Lib.hid (fun W gg => ⟨gg, (KZ.out W (bel_thenD hb5 (Nat.le_refl _) gg)).2.1⟩); clear z0 z1 z2 z3 z4 y0 y1 y2 y3 p0 p1 p2 p3 p4 p5; obtain ⟨_, y0, y1, y2, y3⟩ := K4.out _ R4.out; clear htab hb5)))
            go_region_held3 (fun W => Below w5.heap.size w5 W ∧ W.cell? ⟨w4.heap.size, 0, none⟩ = some (.int .i64 1) ∧ W.cell? ⟨w4.heap.size, 1, none⟩ = some (.int .i64 (k : Int)) ∧ W.cell? ⟨w4.heap.size, 2, none⟩ = some (.bool false) ∧ W.cell? ⟨w4.heap.size, 3, none⟩ = some (.int .i64 (T : Int)))
              (first | exact K4.out _ R4.out | exact K4.out _ R4.out.drew | exact K4.out _ (by assumption))
              (first
                | (go_at_call 19; refine (sWorst_any HSUP.out (Nat.le_refl _) _).mono ?_; rintro e w7 ⟨rfl, hb7⟩; rw [HQ.out]; have hbn : Below w5.heap.size w5 w7 := (by go_split_ands; exact bel_thenD (by assumption) (Nat.le_refl _) hb7))
                | (go_at_call 18; refine (sOf_yes (HTAB.out.keep (by go_split_ands; assumption) (Nat.le_refl _)) (by go_split_ands; exact (show Below w5.heap.size w5 _ by assumption).size) (k : Int) (by omega) (by omega)).mono ?_; rintro e w6 ⟨sg, R, rfl, hsup, hb6⟩; have HSUP := Lib.hid hsup; clear hsup; have hbn : Below w5.heap.size w5 w6 := (by go_split_ands; exact bel_thenD (by assumption) (Nat.le_refl _) hb6)))
            go_wp2_with fail
            clear y0 y1 y2 y3
            go_loopw [10, 11] (fun o i wr => ∃ n : Nat, n ≤ T ∧ o = .int .i64 (cnt (isO F c.margin c.ws (k : Int)) (q : Int) n : Int) ∧ i = .int .i64 n ∧ Below w5.heap.size w5 wr) (fun _ i _ => T - (intOf i).toNat)
            case atStart => exact ⟨0, by omega, rfl, rfl, by assumption⟩
            case round =>
              obtain ⟨n, hn, rfl, rfl, hb⟩ := hrel
              obtain ⟨_, y0, y1, y2, y3⟩ := K4.out _ hb
              have hcb := cnt_le (isO F c.margin c.ws (k : Int)) (q : Int) n
              have HBr := Lib.hid hb
              by_cases hlt : n < T
              · have tk : decide ((n : Int) < (T : Int)) = true := by simpa using hlt
                have S1 : IntKind.i64.wrap ((q : Int) + (n : Int)) = (q : Int) + n := IntWalk.i64_in _ (by omega)
                obtain ⟨u, hu⟩ : ∃ u : Nat, u = cnt (isO F c.margin c.ws (k : Int)) (q : Int) n := ⟨_, rfl⟩
                have HCN : Hid (cnt (isO F c.margin c.ws (k : Int)) (q : Int) (n + 1) = u + (if (owner F c.margin c.ws ((q : Int) + n)).2 == 2 && (owner F c.margin c.ws ((q : Int) + n)).1 == (k : Int) then 1 else 0)) := Lib.hid (by rw [hu]; rfl)
                rw [← hu] at hcb
                rw [← hu]
                clear hu hb
                obtain ⟨v1, hv1⟩ : ∃ v, v = (owner F c.margin c.ws ((q : Int) + n)).1 := ⟨_, rfl⟩
                obtain ⟨v2, hv2⟩ : ∃ v, v = (owner F c.margin c.ws ((q : Int) + n)).2 := ⟨_, rfl⟩
                rw [← hv1, ← hv2] at HCN
                have HO1 := Lib.hid hv1.symm; have HO2 := Lib.hid hv2.symm
                clear hv1 hv2
                have S2 : IntKind.i64.wrap ((u : Int) + 1) = (u : Int) + 1 := IntWalk.i64_in _ (by omega)
                have hq64 : (q : Int) + n ≤ 9223372036854775807 := by omega
                cases h2 : (v2 == 2) with
                | true =>
                  cases h1 : (v1 == (k : Int)) with
                  | true =>
                    have HN1 : Hid (cnt (isO F c.margin c.ws (k : Int)) (q : Int) (n + 1) = u + 1) := Lib.hid (by rw [HCN.out, h1, h2]; rfl)
                    go_wp2_with (first
                      | (go_at_call 20; refine (tOwner_any (HTAB.out.keep HBr.out (Nat.le_refl _)) HBr.out.size ((q : Int) + n) (by omega) hq64).mono ?_; rintro e w8 ⟨rfl, hb8⟩; rw [HO1.out, HO2.out]; have HB8 := Lib.hid (bel_thenD HBr.out (Nat.le_refl _) hb8); clear y0 y1 y2 y3; obtain ⟨_, y0, y1, y2, y3⟩ := K4.out _ HB8.out; clear hb8))
                    go_roundw
                    case rel => exact ⟨n + 1, by omega, by rw [HN1.out]; go_num, by go_num, HB8.out⟩
                    case measure => simp [intOf]; omega
                  | false =>
                    have HN1 : Hid (cnt (isO F c.margin c.ws (k : Int)) (q : Int) (n + 1) = u) := Lib.hid (by rw [HCN.out, h1, h2]; rfl)
                    go_wp2_with (first
                      | (go_at_call 20; refine (tOwner_any (HTAB.out.keep HBr.out (Nat.le_refl _)) HBr.out.size ((q : Int) + n) (by omega) hq64).mono ?_; rintro e w8 ⟨rfl, hb8⟩; rw [HO1.out, HO2.out]; have HB8 := Lib.hid (bel_thenD HBr.out (Nat.le_refl _) hb8); clear y0 y1 y2 y3; obtain ⟨_, y0, y1, y2, y3⟩ := K4.out _ HB8.out; clear hb8))
                    go_roundw
                    case rel => exact ⟨n + 1, by omega, by rw [HN1.out], by go_num, HB8.out⟩
                    case measure => simp [intOf]; omega
                | false =>
                  cases h1 : (v1 == (k : Int)) with
                  | true =>
                    have HN1 : Hid (cnt (isO F c.margin c.ws (k : Int)) (q : Int) (n + 1) = u) := Lib.hid (by rw [HCN.out, h1, h2]; rfl)
                    go_wp2_with (first
                      | (go_at_call 20; refine (tOwner_any (HTAB.out.keep HBr.out (Nat.le_refl _)) HBr.out.size ((q : Int) + n) (by omega) hq64).mono ?_; rintro e w8 ⟨rfl, hb8⟩; rw [HO1.out, HO2.out]; have HB8 := Lib.hid (bel_thenD HBr.out (Nat.le_refl _) hb8); clear y0 y1 y2 y3; obtain ⟨_, y0, y1, y2, y3⟩ := K4.out _ HB8.out; clear hb8))
                    go_roundw
                    case rel => exact ⟨n + 1, by omega, by rw [HN1.out], by go_num, HB8.out⟩
                    case measure => simp [intOf]; omega
                  | false =>
                    have HN1 : Hid (cnt (isO F c.margin c.ws (k : Int)) (q : Int) (n + 1) = u) := Lib.hid (by rw [HCN.out, h1, h2]; rfl)
                    go_wp2_with (first
                      | (go_at_call 20; refine (tOwner_any (HTAB.out.keep HBr.out (Nat.le_refl _)) HBr.out.size ((q : Int) + n) (by omega) hq64).mono ?_; rintro e w8 ⟨rfl, hb8⟩; rw [HO1.out, HO2.out]; have HB8 := Lib.hid (bel_thenD HBr.out (Nat.le_refl _) hb8); clear y0 y1 y2 y3; obtain ⟨_, y0, y1, y2, y3⟩ := K4.out _ HB8.out; clear hb8))
                    go_roundw
                    case rel => exact ⟨n + 1, by omega, by rw [HN1.out], by go_num, HB8.out⟩
                    case measure => simp [intOf]; omega
              · have tk : decide ((n : Int) < (T : Int)) = false := decide_eq_false (by omega)
                obtain rfl : T = n := by omega
                obtain ⟨u, hu⟩ : ∃ u : Nat, u = cnt (isO F c.margin c.ws (k : Int)) (q : Int) T := ⟨_, rfl⟩
                rw [← hu] at HLOW hcb
                rw [← hu]
                clear hu
                have hu := hcb
                go_wp2_with fail
                clear y0 y1 y2 y3 tk hlt hn hcb
                go_loopw [14, 15] (fun wk i wr => ∃ n : Nat, n ≤ x.ts.length ∧ wk = .int .i64 (sumI ((x.ts.take n).map fun y => lowAt y (T : Int))) ∧ i = .int .i64 n ∧ Below w5.heap.size w5 wr) (fun _ i _ => x.ts.length - (intOf i).toNat)
                case atStart => exact ⟨0, by omega, by simp [sumI], rfl, HBr.out⟩
                case round =>
                  obtain ⟨n, hn, rfl, rfl, hb⟩ := hrel
                  have hT3 : T ≤ 3000 := by have := of_decide_eq_false t1; omega
                  have hsb := low_sum HO3.out hT3 n
                  by_cases hlt : n < x.ts.length
                  · have tk : decide ((n : Int) < (x.ts.length : Int)) = true := by simpa using hlt
                    obtain ⟨y, hy⟩ : ∃ y, x.ts[n]? = some y := ⟨_, List.getElem?_eq_getElem hlt⟩
                    have hoy := HO3.out y (List.mem_of_getElem? hy)
                    have hlo := HAL.out y (List.mem_of_getElem? hy)
                    have HNX : Hid (sumI ((x.ts.take (n + 1)).map fun y => lowAt y (T : Int)) = sumI ((x.ts.take n).map fun y => lowAt y (T : Int)) + lowAt y (T : Int)) := Lib.hid (low_take _ hy)
                    have hlb := low_bd hoy hT3
                    have hst := lowAt_steps (k := y) (t := (T : Int))
                    obtain ⟨a2, c2, e2, _, _, hc⟩ := (HTS.out w5 HB5.out)
                    cases e2
                    rcases hc with h0 | ⟨tb, toff, rfl, tb1, tb2, hc⟩
                    · omega
                    obtain ⟨s0, s1, s2, s3, s4, s5⟩ := Lies.tk hc hy
                    have htw : tb < w5.heap.size := by have := HW3Z.out; have := HB5.out.size; omega
                    clear hc hy
                    obtain ⟨yb, yt, yd, yv, ylo, ytop⟩ := y
                    obtain ⟨r1, r2, r3, r4, r5, r6, r7, r8⟩ := okTk_t hoy
                    simp only at s0 s1 s2 s3 s4 s5 r1 r2 r3 r4 r5 r6 r7 r8 hlo hst
                    have hvd : yv = yd := by
                      rcases r8 with g0 | g0
                      · rw [hlo] at g0; cases g0
                      · exact g0.1
                    obtain ⟨L, hL⟩ : ∃ L, L = lowAt ⟨yb, yt, yd, yv, ylo, ytop⟩ (T : Int) := ⟨_, rfl⟩
                    obtain ⟨S0, hS0⟩ : ∃ s, s = sumI ((x.ts.take n).map fun y => lowAt y (T : Int)) := ⟨_, rfl⟩
                    rw [← hL, ← hS0] at HNX
                    rw [← hS0] at hsb
                    rw [← hS0]
                    rw [← hL] at hst hlb
                    rw [hvd] at hst
                    have HST := Lib.hid hst
                    have K5 : Hid (∀ W : World, Below w5.heap.size w5 W → Below w5.heap.size w5 W ∧ (W.cell? ⟨Y.heap.size, 0, none⟩ = some (.slice (some ⟨tb, toff, none⟩) x.ts.length tc) ∧ W.cell? ⟨Y.heap.size, 1, none⟩ = some (.slice sa x.ss.length sc) ∧ W.cell? ⟨Y.heap.size, 2, none⟩ = some (.slice da x.ds.length dc) ∧ W.cell? ⟨Y.heap.size, 3, none⟩ = some (.int .u8 pv.a0) ∧ W.cell? ⟨Y.heap.size, 4, none⟩ = some (.int .u8 pv.a1) ∧ W.cell? ⟨Y.heap.size, 5, none⟩ = some (.int .u8 pv.a2)) ∧ (W.cell? ⟨w4.heap.size, 0, none⟩ = some (.int .i64 1) ∧ W.cell? ⟨w4.heap.size, 1, none⟩ = some (.int .i64 (k : Int)) ∧ W.cell? ⟨w4.heap.size, 2, none⟩ = some (.bool false) ∧ W.cell? ⟨w4.heap.size, 3, none⟩ = some (.int .i64 (T : Int))) ∧ W.cell? ⟨tb, toff + n * 6, none⟩ = some (.bool yb) ∧ W.cell? ⟨tb, toff + n * 6 + 1, none⟩ = some (.int .i64 yt) ∧ W.cell? ⟨tb, toff + n * 6 + 2, none⟩ = some (.int .i64 yd) ∧ W.cell? ⟨tb, toff + n * 6 + 3, none⟩ = some (.int .i64 yv) ∧ W.cell? ⟨tb, toff + n * 6 + 4, none⟩ = some (.int .i64 ylo) ∧ W.cell? ⟨tb, toff + n * 6 + 5, none⟩ = some (.int .i64 ytop)) := Lib.hid fun W gg => by
                      obtain ⟨_, e2, e3⟩ := KZ.out W (bel_thenD HB5.out (Nat.le_refl _) gg)
                      exact ⟨gg, e3, e2, (gg.cell (p := ⟨tb, toff + n * 6, none⟩) htw).trans s0, (gg.cell (p := ⟨tb, toff + n * 6 + 1, none⟩) htw).trans s1, (gg.cell (p := ⟨tb, toff + n * 6 + 2, none⟩) htw).trans s2, (gg.cell (p := ⟨tb, toff + n * 6 + 3, none⟩) htw).trans s3, (gg.cell (p := ⟨tb, toff + n * 6 + 4, none⟩) htw).trans s4, (gg.cell (p := ⟨tb, toff + n * 6 + 5, none⟩) htw).trans s5⟩
                    have m0 : (0 : Int) ≤ (n : Int) := by omega
                    have m1 : (n : Int) < (x.ts.length : Int) := by omega
                    obtain ⟨_, ⟨p0, p1, p2, p3, p4, p5⟩, ⟨y0, y1, y2, y3⟩, d0, d1, d2, d3, d4, d5⟩ := K5.out _ hb
                    have HBq := Lib.hid hb
                    clear s0 s1 s2 s3 s4 s5 hst hL hS0 hoy hlo hb r8
                    go_wp2_with fail
                    clear p0 p1 p2 p3 p4 p5 y0 y1 y2 y3 d0 d1 d2 d3 d4 d5
                    go_loopw [14, 16] (fun wk i wr => ∃ (s a : Int), wk = .int .i64 (S0 + s) ∧ i = .int .i64 a ∧ 0 ≤ a ∧ a ≤ 4000 ∧ 0 ≤ s ∧ s ≤ 4000000 ∧ Hid (s + ylo * stepsTo a yt ((T : Int) - yd) = L) ∧ Below w5.heap.size w5 wr) (fun _ i _ => 5000 - (intOf i).toNat)
                    case atStart => exact ⟨0, 0, by simp, rfl, by omega, by omega, by omega, by omega, Lib.hid (by rw [HST.out]; omega), HBq.out⟩
                    case round =>
                      obtain ⟨s, a, rfl, rfl, a0, a1, b0, b1, HSA2, hb⟩ := hrel
                      obtain ⟨_, ⟨p0, p1, p2, p3, p4, p5⟩, ⟨y0, y1, y2, y3⟩, d0, d1, d2, d3, d4, d5⟩ := K5.out _ hb
                      have HBq2 := Lib.hid hb
                      clear hb
                      by_cases hc : a + yd ≤ (T : Int)
                      · have u1 : decide (a + yd ≤ (T : Int)) = true := decide_eq_true hc
                        have enx := stepsTo_next (a := a) (T := yt) (b := (T : Int) - yd) (by omega) (by omega)
                        have hsx := HSA2.out
                        rw [enx, Int.mul_add] at hsx
                        have hps := Int.mul_nonneg (show 0 ≤ ylo by omega) (steps_pos (a := a + yt) (T := yt) (b := (T : Int) - yd) (by omega))
                        have HSN : Hid ((s + ylo) + ylo * stepsTo (a + yt) yt ((T : Int) - yd) = L) := Lib.hid (by omega)
                        have b2 : s + ylo ≤ 4000000 := by omega
                        have S1 : IntKind.i64.wrap (a + yd) = a + yd := IntWalk.i64_in _ (by omega)
                        have S2 : IntKind.i64.wrap (S0 + s + ylo) = S0 + s + ylo := IntWalk.i64_in _ (by omega)
                        have S3 : IntKind.i64.wrap (a + yt) = a + yt := IntWalk.i64_in _ (by omega)
                        clear enx hsx hps
                        go_wp2_with fail
                        go_region_held3 (fun W => Below w5.heap.size w5 W ∧ (W.cell? ⟨Y.heap.size, 0, none⟩ = some (.slice (some ⟨tb, toff, none⟩) x.ts.length tc) ∧ W.cell? ⟨Y.heap.size, 1, none⟩ = some (.slice sa x.ss.length sc) ∧ W.cell? ⟨Y.heap.size, 2, none⟩ = some (.slice da x.ds.length dc) ∧ W.cell? ⟨Y.heap.size, 3, none⟩ = some (.int .u8 pv.a0) ∧ W.cell? ⟨Y.heap.size, 4, none⟩ = some (.int .u8 pv.a1) ∧ W.cell? ⟨Y.heap.size, 5, none⟩ = some (.int .u8 pv.a2)) ∧ (W.cell? ⟨w4.heap.size, 0, none⟩ = some (.int .i64 1) ∧ W.cell? ⟨w4.heap.size, 1, none⟩ = some (.int .i64 (k : Int)) ∧ W.cell? ⟨w4.heap.size, 2, none⟩ = some (.bool false) ∧ W.cell? ⟨w4.heap.size, 3, none⟩ = some (.int .i64 (T : Int))) ∧ W.cell? ⟨tb, toff + n * 6, none⟩ = some (.bool yb) ∧ W.cell? ⟨tb, toff + n * 6 + 1, none⟩ = some (.int .i64 yt) ∧ W.cell? ⟨tb, toff + n * 6 + 2, none⟩ = some (.int .i64 yd) ∧ W.cell? ⟨tb, toff + n * 6 + 3, none⟩ = some (.int .i64 yv) ∧ W.cell? ⟨tb, toff + n * 6 + 4, none⟩ = some (.int .i64 ylo) ∧ W.cell? ⟨tb, toff + n * 6 + 5, none⟩ = some (.int .i64 ytop))
                          (first | exact K5.out _ HBq2.out | exact K5.out _ HBq2.out.drew | exact K5.out _ (by assumption))
                          (fail)
                        all_goals go_wp2_with fail
                        all_goals go_roundw
                        case rel => exact ⟨s + ylo, a + yt, (by first | rfl | (congr 1; omega) | go_num), (by first | rfl | (congr 1; omega) | go_num), by omega, by omega, by omega, by omega, HSN, by go_split_ands; assumption⟩
                        case measure => simp [intOf]; omega
                      · have u1 : decide (a + yd ≤ (T : Int)) = false := decide_eq_false hc
                        have hsx := HSA2.out
                        rw [steps_end (by omega), Int.mul_zero] at hsx
                        have S1 : IntKind.i64.wrap (a + yd) = a + yd := IntWalk.i64_in _ (by omega)
                        go_wp2_with fail
                        go_region_held3 (fun W => Below w5.heap.size w5 W ∧ (W.cell? ⟨Y.heap.size, 0, none⟩ = some (.slice (some ⟨tb, toff, none⟩) x.ts.length tc) ∧ W.cell? ⟨Y.heap.size, 1, none⟩ = some (.slice sa x.ss.length sc) ∧ W.cell? ⟨Y.heap.size, 2, none⟩ = some (.slice da x.ds.length dc) ∧ W.cell? ⟨Y.heap.size, 3, none⟩ = some (.int .u8 pv.a0) ∧ W.cell? ⟨Y.heap.size, 4, none⟩ = some (.int .u8 pv.a1) ∧ W.cell? ⟨Y.heap.size, 5, none⟩ = some (.int .u8 pv.a2)) ∧ (W.cell? ⟨w4.heap.size, 0, none⟩ = some (.int .i64 1) ∧ W.cell? ⟨w4.heap.size, 1, none⟩ = some (.int .i64 (k : Int)) ∧ W.cell? ⟨w4.heap.size, 2, none⟩ = some (.bool false) ∧ W.cell? ⟨w4.heap.size, 3, none⟩ = some (.int .i64 (T : Int))) ∧ W.cell? ⟨tb, toff + n * 6, none⟩ = some (.bool yb) ∧ W.cell? ⟨tb, toff + n * 6 + 1, none⟩ = some (.int .i64 yt) ∧ W.cell? ⟨tb, toff + n * 6 + 2, none⟩ = some (.int .i64 yd) ∧ W.cell? ⟨tb, toff + n * 6 + 3, none⟩ = some (.int .i64 yv) ∧ W.cell? ⟨tb, toff + n * 6 + 4, none⟩ = some (.int .i64 ylo) ∧ W.cell? ⟨tb, toff + n * 6 + 5, none⟩ = some (.int .i64 ytop))
                          (first | exact K5.out _ HBq2.out | exact K5.out _ HBq2.out.drew | exact K5.out _ (by assumption))
                          (fail)
                        all_goals go_wp2_with fail
                        all_goals go_roundw
                        case rel => exact ⟨n + 1, by omega, (by rw [HNX.out]; first | rfl | (congr 1; omega) | go_num), by go_num, by go_split_ands; assumption⟩
                        case measure => simp [intOf]; omega
                  · have tk : decide ((n : Int) < (x.ts.length : Int)) = false := decide_eq_false (by omega)
                    have hfull : x.ts.take n = x.ts := List.take_of_length_le (by omega)
                    rw [hfull] at hsb
                    rw [hfull]
                    obtain ⟨S0, hS0⟩ : ∃ s, s = sumI (x.ts.map fun y => lowAt y (T : Int)) := ⟨_, rfl⟩
                    have hlow := HLOW.out
                    rw [← hS0] at hlow hsb
                    rw [← hS0]
                    have tg : decide ((u : Int) < S0) = true := by simpa using hlow
                    obtain ⟨_, y0, y1, y2, y3⟩ := K4.out _ hb
                    obtain ⟨⟨z0, z1, z2, z3, z4⟩, _, p0, p1, p2, p3, p4, p5⟩ := KZ.out _ (bel_thenD HB5.out (Nat.le_refl _) hb)
                    clear hS0 hfull
                    go_wp2_with fail
                    go_ret
                    exact ⟨rfl, HB1.out.trans ((bel_thenD HBZ.out (Nat.le_refl _) (bel_thenD HB5.out (Nat.le_refl _) hb)).mono HB1.out.size)⟩
    · obtain ⟨⟨k0, k1, k2, k3⟩, hj⟩ : ∃ v, (judgeV c F).1 = v := ⟨_, rfl⟩
      obtain ⟨je, hje⟩ : ∃ e, (judgeV c F).2 = e := ⟨_, rfl⟩
      rw [hj, hje] at hq
      have HJC : Hid ((judgeV c F).1.cells = #[.int .i64 k0, .int .i64 k1, .bool k2, .int .i64 k3]) := Lib.hid (by rw [hj]; rfl)
      have HFV : Hid ((judgeV c F).2 = je) := Lib.hid hje
      clear hj hje hFe
      by_cases g1 : je = 0
      · subst g1
        by_cases g2 : k0 = 1
        · have g3 : ¬ k3 ≤ 3000 := fun g => hq ⟨rfl, g2, g⟩
          have t2 : (k0 != 1) = false := by rw [g2]; rfl
          have t3 : decide (3000 < k3) = true := decide_eq_true (by omega)
          clear hq g2
          go_enter Tryz.func5, Tryz.ntmps5
          go_wp2_with (first
            | (go_at_call 6; rw [← HV.out]; refine CN.out.mono ?_; rintro e w1 ⟨rfl, hb1⟩; rw [HN.out]; have HBa := Lib.hid hb1; obtain ⟨z0, z1, z2, z3, z4⟩ := KS.out _ hb1; clear hb1)
            | (go_at_call 7; refine (knows11_any CJ CSL _).mono ?_; rintro e w2 ⟨rfl, hb2⟩; have HBb := Lib.hid (bel_thenD HBa.out (Nat.le_refl _) hb2); clear z0 z1 z2 z3 z4; obtain ⟨z0, z1, z2, z3, z4⟩ := KS.out _ HBb.out; clear hb2)
            | (go_at_call 9; refine (config_sys HF.out (HS.out.keep (SameIn.of_below HBb.out HSZ.out)) (Nat.le_trans HSZ.out HBb.out.size)).mono ?_; rintro e w3 ⟨vs, i1, i2, i3, j1, j2, j3, rfl, hs3, hb3⟩
               obtain ⟨X, hX⟩ : ∃ X, X = w3.alloc (.cells #[.int .i64 c.frame, .int .i64 c.margin, .slice i1 c.ws.length j1, .slice i2 c.ps.length j2, .slice i3 c.cs.length j3] 39) := ⟨_, rfl⟩
               have HBc := Lib.hid (bel_thenD HBb.out (Nat.le_refl _) hb3)
               have hXX : Below w3.heap.size w3 X := by rw [hX]; exact below1 _ _
               have HBX : Hid (Below V.heap.size V X) := Lib.hid (bel_thenD HBc.out (Nat.le_refl _) hXX)
               have HSX : Hid (∀ W : World, Below X.heap.size X W → SysL W w3.heap.size c vs i1 i2 i3 j1 j2 j3 ∧ w3.heap.size ≤ W.heap.size) := Lib.hid fun W g => And.intro (hs3.keep (SameIn.of_below (bel_thenD hXX (Nat.le_refl _) g) (Nat.le_refl _))) (bel_thenD hXX (Nat.le_refl _) g).size
               have KX : Hid (∀ W : World, Below X.heap.size X W → W.cell? ⟨w3.heap.size, 0, none⟩ = some (.int .i64 c.frame) ∧ W.cell? ⟨w3.heap.size, 1, none⟩ = some (.int .i64 c.margin) ∧ W.cell? ⟨w3.heap.size, 2, none⟩ = some (.slice i1 c.ws.length j1) ∧ W.cell? ⟨w3.heap.size, 3, none⟩ = some (.slice i2 c.ps.length j2) ∧ W.cell? ⟨w3.heap.size, 4, none⟩ = some (.slice i3 c.cs.length j3)) := Lib.hid fun W g => by
                 rw [hX] at g
                 exact boxK5 _ _ _ _ _ _ _ W g
               obtain ⟨x0, x1, x2, x3, x4⟩ := boxK5 w3 (.int .i64 c.frame) (.int .i64 c.margin) (.slice i1 c.ws.length j1) (.slice i2 c.ps.length j2) (.slice i3 c.cs.length j3) 39 _ (Below.refl _ _)
               have HX := Lib.hid hX
               clear z0 z1 z2 z3 z4 hs3 hb3 hXX hX)
            | (go_at_call 8; rw [← HX.out]; refine (CJ _ _ c vs i1 i2 i3 j1 j2 j3 HF.out (HSX.out _ (Below.refl _ _)).1 (HSX.out _ (Below.refl _ _)).2 HIN.out HF64.out F HFE.out).mono ?_; rintro e w4 ⟨rfl, hb4⟩; rw [HJC.out, HFV.out]
               obtain ⟨Y, hY⟩ : ∃ Y, Y = w4.alloc (.cells #[.int .i64 k0, .int .i64 k1, .bool k2, .int .i64 k3] 31) := ⟨_, rfl⟩
               have hYX : Below X.heap.size X Y := by rw [hY]; exact hb4.alloc hb4.size _
               have HBY : Hid (Below V.heap.size V Y) := Lib.hid (bel_thenD HBX.out (Nat.le_refl _) hYX)
               have HSY : Hid (∀ W : World, Below Y.heap.size Y W → SysL W w3.heap.size c vs i1 i2 i3 j1 j2 j3 ∧ w3.heap.size ≤ W.heap.size) := Lib.hid fun W g => HSX.out W (bel_thenD hYX (Nat.le_refl _) g)
               have hvv : CellsAt Y w4.heap.size 31 [.int .i64 k0, .int .i64 k1, .bool k2, .int .i64 k3] := by rw [hY]; exact heap_alloc_new _ _
               have KY : Hid (∀ W : World, Below Y.heap.size Y W → (W.cell? ⟨w3.heap.size, 0, none⟩ = some (.int .i64 c.frame) ∧ W.cell? ⟨w3.heap.size, 1, none⟩ = some (.int .i64 c.margin) ∧ W.cell? ⟨w3.heap.size, 2, none⟩ = some (.slice i1 c.ws.length j1) ∧ W.cell? ⟨w3.heap.size, 3, none⟩ = some (.slice i2 c.ps.length j2) ∧ W.cell? ⟨w3.heap.size, 4, none⟩ = some (.slice i3 c.cs.length j3)) ∧ W.cell? ⟨w4.heap.size, 0, none⟩ = some (.int .i64 k0) ∧ W.cell? ⟨w4.heap.size, 1, none⟩ = some (.int .i64 k1) ∧ W.cell? ⟨w4.heap.size, 2, none⟩ = some (.bool k2) ∧ W.cell? ⟨w4.heap.size, 3, none⟩ = some (.int .i64 k3)) := Lib.hid fun W g => by
                 have g1 := hvv.later g
                 exact ⟨KX.out _ (bel_thenD hYX (Nat.le_refl _) g), (g1.cell (j := 0) rfl).1, (g1.cell (j := 1) rfl).1, (g1.cell (j := 2) rfl).1, (g1.cell (j := 3) rfl).1⟩
               have HY := Lib.hid hY
               clear x0 x1 x2 x3 x4
               obtain ⟨⟨x0, x1, x2, x3, x4⟩, y0, y1, y2, y3⟩ : ((w4.alloc (.cells #[.int .i64 k0, .int .i64 k1, .bool k2, .int .i64 k3] 31)).cell? ⟨w3.heap.size, 0, none⟩ = some (.int .i64 c.frame) ∧ (w4.alloc (.cells #[.int .i64 k0, .int .i64 k1, .bool k2, .int .i64 k3] 31)).cell? ⟨w3.heap.size, 1, none⟩ = some (.int .i64 c.margin) ∧ (w4.alloc (.cells #[.int .i64 k0, .int .i64 k1, .bool k2, .int .i64 k3] 31)).cell? ⟨w3.heap.size, 2, none⟩ = some (.slice i1 c.ws.length j1) ∧ (w4.alloc (.cells #[.int .i64 k0, .int .i64 k1, .bool k2, .int .i64 k3] 31)).cell? ⟨w3.heap.size, 3, none⟩ = some (.slice i2 c.ps.length j2) ∧ (w4.alloc (.cells #[.int .i64 k0, .int .i64 k1, .bool k2, .int .i64 k3] 31)).cell? ⟨w3.heap.size, 4, none⟩ = some (.slice i3 c.cs.length j3)) ∧ (w4.alloc (.cells #[.int .i64 k0, .int .i64 k1, .bool k2, .int .i64 k3] 31)).cell? ⟨w4.heap.size, 0, none⟩ = some (.int .i64 k0) ∧ (w4.alloc (.cells #[.int .i64 k0, .int .i64 k1, .bool k2, .int .i64 k3] 31)).cell? ⟨w4.heap.size, 1, none⟩ = some (.int .i64 k1) ∧ (w4.alloc (.cells #[.int .i64 k0, .int .i64 k1, .bool k2, .int .i64 k3] 31)).cell? ⟨w4.heap.size, 2, none⟩ = some (.bool k2) ∧ (w4.alloc (.cells #[.int .i64 k0, .int .i64 k1, .bool k2, .int .i64 k3] 31)).cell? ⟨w4.heap.size, 3, none⟩ = some (.int .i64 k3) := by rw [← hY]; exact KY.out _ (Below.refl _ _)
               clear hb4 hYX hY hvv)
            | (go_at_call 11; refine (num11_any _ _).mono ?_; rintro e w9 ⟨rfl, rfl⟩))
          go_ret
          refine ⟨rfl, ?_⟩
          rw [← HY.out]
          exact HB1.out.trans (HBY.out.mono HB1.out.size)
        · have t2 : (k0 != 1) = true := by simpa using g2
          clear hq
          go_enter Tryz.func5, Tryz.ntmps5
          go_wp2_with (first
            | (go_at_call 6; rw [← HV.out]; refine CN.out.mono ?_; rintro e w1 ⟨rfl, hb1⟩; rw [HN.out]; have HBa := Lib.hid hb1; obtain ⟨z0, z1, z2, z3, z4⟩ := KS.out _ hb1; clear hb1)
            | (go_at_call 7; refine (knows11_any CJ CSL _).mono ?_; rintro e w2 ⟨rfl, hb2⟩; have HBb := Lib.hid (bel_thenD HBa.out (Nat.le_refl _) hb2); clear z0 z1 z2 z3 z4; obtain ⟨z0, z1, z2, z3, z4⟩ := KS.out _ HBb.out; clear hb2)
            | (go_at_call 9; refine (config_sys HF.out (HS.out.keep (SameIn.of_below HBb.out HSZ.out)) (Nat.le_trans HSZ.out HBb.out.size)).mono ?_; rintro e w3 ⟨vs, i1, i2, i3, j1, j2, j3, rfl, hs3, hb3⟩
               obtain ⟨X, hX⟩ : ∃ X, X = w3.alloc (.cells #[.int .i64 c.frame, .int .i64 c.margin, .slice i1 c.ws.length j1, .slice i2 c.ps.length j2, .slice i3 c.cs.length j3] 39) := ⟨_, rfl⟩
               have HBc := Lib.hid (bel_thenD HBb.out (Nat.le_refl _) hb3)
               have hXX : Below w3.heap.size w3 X := by rw [hX]; exact below1 _ _
               have HBX : Hid (Below V.heap.size V X) := Lib.hid (bel_thenD HBc.out (Nat.le_refl _) hXX)
               have HSX : Hid (∀ W : World, Below X.heap.size X W → SysL W w3.heap.size c vs i1 i2 i3 j1 j2 j3 ∧ w3.heap.size ≤ W.heap.size) := Lib.hid fun W g => And.intro (hs3.keep (SameIn.of_below (bel_thenD hXX (Nat.le_refl _) g) (Nat.le_refl _))) (bel_thenD hXX (Nat.le_refl _) g).size
               have KX : Hid (∀ W : World, Below X.heap.size X W → W.cell? ⟨w3.heap.size, 0, none⟩ = some (.int .i64 c.frame) ∧ W.cell? ⟨w3.heap.size, 1, none⟩ = some (.int .i64 c.margin) ∧ W.cell? ⟨w3.heap.size, 2, none⟩ = some (.slice i1 c.ws.length j1) ∧ W.cell? ⟨w3.heap.size, 3, none⟩ = some (.slice i2 c.ps.length j2) ∧ W.cell? ⟨w3.heap.size, 4, none⟩ = some (.slice i3 c.cs.length j3)) := Lib.hid fun W g => by
                 rw [hX] at g
                 exact boxK5 _ _ _ _ _ _ _ W g
               obtain ⟨x0, x1, x2, x3, x4⟩ := boxK5 w3 (.int .i64 c.frame) (.int .i64 c.margin) (.slice i1 c.ws.length j1) (.slice i2 c.ps.length j2) (.slice i3 c.cs.length j3) 39 _ (Below.refl _ _)
               have HX := Lib.hid hX
               clear z0 z1 z2 z3 z4 hs3 hb3 hXX hX)
            | (go_at_call 8; rw [← HX.out]; refine (CJ _ _ c vs i1 i2 i3 j1 j2 j3 HF.out (HSX.out _ (Below.refl _ _)).1 (HSX.out _ (Below.refl _ _)).2 HIN.out HF64.out F HFE.out).mono ?_; rintro e w4 ⟨rfl, hb4⟩; rw [HJC.out, HFV.out]
               obtain ⟨Y, hY⟩ : ∃ Y, Y = w4.alloc (.cells #[.int .i64 k0, .int .i64 k1, .bool k2, .int .i64 k3] 31) := ⟨_, rfl⟩
               have hYX : Below X.heap.size X Y := by rw [hY]; exact hb4.alloc hb4.size _
               have HBY : Hid (Below V.heap.size V Y) := Lib.hid (bel_thenD HBX.out (Nat.le_refl _) hYX)
               have HSY : Hid (∀ W : World, Below Y.heap.size Y W → SysL W w3.heap.size c vs i1 i2 i3 j1 j2 j3 ∧ w3.heap.size ≤ W.heap.size) := Lib.hid fun W g => HSX.out W (bel_thenD hYX (Nat.le_refl _) g)
               have hvv : CellsAt Y w4.heap.size 31 [.int .i64 k0, .int .i64 k1, .bool k2, .int .i64 k3] := by rw [hY]; exact heap_alloc_new _ _
               have KY : Hid (∀ W : World, Below Y.heap.size Y W → (W.cell? ⟨w3.heap.size, 0, none⟩ = some (.int .i64 c.frame) ∧ W.cell? ⟨w3.heap.size, 1, none⟩ = some (.int .i64 c.margin) ∧ W.cell? ⟨w3.heap.size, 2, none⟩ = some (.slice i1 c.ws.length j1) ∧ W.cell? ⟨w3.heap.size, 3, none⟩ = some (.slice i2 c.ps.length j2) ∧ W.cell? ⟨w3.heap.size, 4, none⟩ = some (.slice i3 c.cs.length j3)) ∧ W.cell? ⟨w4.heap.size, 0, none⟩ = some (.int .i64 k0) ∧ W.cell? ⟨w4.heap.size, 1, none⟩ = some (.int .i64 k1) ∧ W.cell? ⟨w4.heap.size, 2, none⟩ = some (.bool k2) ∧ W.cell? ⟨w4.heap.size, 3, none⟩ = some (.int .i64 k3)) := Lib.hid fun W g => by
                 have g1 := hvv.later g
                 exact ⟨KX.out _ (bel_thenD hYX (Nat.le_refl _) g), (g1.cell (j := 0) rfl).1, (g1.cell (j := 1) rfl).1, (g1.cell (j := 2) rfl).1, (g1.cell (j := 3) rfl).1⟩
               have HY := Lib.hid hY
               clear x0 x1 x2 x3 x4
               obtain ⟨⟨x0, x1, x2, x3, x4⟩, y0, y1, y2, y3⟩ : ((w4.alloc (.cells #[.int .i64 k0, .int .i64 k1, .bool k2, .int .i64 k3] 31)).cell? ⟨w3.heap.size, 0, none⟩ = some (.int .i64 c.frame) ∧ (w4.alloc (.cells #[.int .i64 k0, .int .i64 k1, .bool k2, .int .i64 k3] 31)).cell? ⟨w3.heap.size, 1, none⟩ = some (.int .i64 c.margin) ∧ (w4.alloc (.cells #[.int .i64 k0, .int .i64 k1, .bool k2, .int .i64 k3] 31)).cell? ⟨w3.heap.size, 2, none⟩ = some (.slice i1 c.ws.length j1) ∧ (w4.alloc (.cells #[.int .i64 k0, .int .i64 k1, .bool k2, .int .i64 k3] 31)).cell? ⟨w3.heap.size, 3, none⟩ = some (.slice i2 c.ps.length j2) ∧ (w4.alloc (.cells #[.int .i64 k0, .int .i64 k1, .bool k2, .int .i64 k3] 31)).cell? ⟨w3.heap.size, 4, none⟩ = some (.slice i3 c.cs.length j3)) ∧ (w4.alloc (.cells #[.int .i64 k0, .int .i64 k1, .bool k2, .int .i64 k3] 31)).cell? ⟨w4.heap.size, 0, none⟩ = some (.int .i64 k0) ∧ (w4.alloc (.cells #[.int .i64 k0, .int .i64 k1, .bool k2, .int .i64 k3] 31)).cell? ⟨w4.heap.size, 1, none⟩ = some (.int .i64 k1) ∧ (w4.alloc (.cells #[.int .i64 k0, .int .i64 k1, .bool k2, .int .i64 k3] 31)).cell? ⟨w4.heap.size, 2, none⟩ = some (.bool k2) ∧ (w4.alloc (.cells #[.int .i64 k0, .int .i64 k1, .bool k2, .int .i64 k3] 31)).cell? ⟨w4.heap.size, 3, none⟩ = some (.int .i64 k3) := by rw [← hY]; exact KY.out _ (Below.refl _ _)
               clear hb4 hYX hY hvv)
            | (go_at_call 11; refine (num11_any _ _).mono ?_; rintro e w9 ⟨rfl, rfl⟩))
          go_ret
          refine ⟨rfl, ?_⟩
          rw [← HY.out]
          exact HB1.out.trans (HBY.out.mono HB1.out.size)
      · have t1 : (je != 0) = true := by simpa using g1
        have t2 : (je == 0) = false := by simpa using g1
        clear hq
        skip
        go_enter Tryz.func5, Tryz.ntmps5
        go_wp2_with (first
          | (go_at_call 6; rw [← HV.out]; refine CN.out.mono ?_; rintro e w1 ⟨rfl, hb1⟩; rw [HN.out]; have HBa := Lib.hid hb1; obtain ⟨z0, z1, z2, z3, z4⟩ := KS.out _ hb1; clear hb1)
          | (go_at_call 7; refine (knows11_any CJ CSL _).mono ?_; rintro e w2 ⟨rfl, hb2⟩; have HBb := Lib.hid (bel_thenD HBa.out (Nat.le_refl _) hb2); clear z0 z1 z2 z3 z4; obtain ⟨z0, z1, z2, z3, z4⟩ := KS.out _ HBb.out; clear hb2)
          | (go_at_call 9; refine (config_sys HF.out (HS.out.keep (SameIn.of_below HBb.out HSZ.out)) (Nat.le_trans HSZ.out HBb.out.size)).mono ?_; rintro e w3 ⟨vs, i1, i2, i3, j1, j2, j3, rfl, hs3, hb3⟩
             obtain ⟨X, hX⟩ : ∃ X, X = w3.alloc (.cells #[.int .i64 c.frame, .int .i64 c.margin, .slice i1 c.ws.length j1, .slice i2 c.ps.length j2, .slice i3 c.cs.length j3] 39) := ⟨_, rfl⟩
             have HBc := Lib.hid (bel_thenD HBb.out (Nat.le_refl _) hb3)
             have hXX : Below w3.heap.size w3 X := by rw [hX]; exact below1 _ _
             have HBX : Hid (Below V.heap.size V X) := Lib.hid (bel_thenD HBc.out (Nat.le_refl _) hXX)
             have HSX : Hid (∀ W : World, Below X.heap.size X W → SysL W w3.heap.size c vs i1 i2 i3 j1 j2 j3 ∧ w3.heap.size ≤ W.heap.size) := Lib.hid fun W g => And.intro (hs3.keep (SameIn.of_below (bel_thenD hXX (Nat.le_refl _) g) (Nat.le_refl _))) (bel_thenD hXX (Nat.le_refl _) g).size
             have KX : Hid (∀ W : World, Below X.heap.size X W → W.cell? ⟨w3.heap.size, 0, none⟩ = some (.int .i64 c.frame) ∧ W.cell? ⟨w3.heap.size, 1, none⟩ = some (.int .i64 c.margin) ∧ W.cell? ⟨w3.heap.size, 2, none⟩ = some (.slice i1 c.ws.length j1) ∧ W.cell? ⟨w3.heap.size, 3, none⟩ = some (.slice i2 c.ps.length j2) ∧ W.cell? ⟨w3.heap.size, 4, none⟩ = some (.slice i3 c.cs.length j3)) := Lib.hid fun W g => by
               rw [hX] at g
               exact boxK5 _ _ _ _ _ _ _ W g
             obtain ⟨x0, x1, x2, x3, x4⟩ := boxK5 w3 (.int .i64 c.frame) (.int .i64 c.margin) (.slice i1 c.ws.length j1) (.slice i2 c.ps.length j2) (.slice i3 c.cs.length j3) 39 _ (Below.refl _ _)
             have HX := Lib.hid hX
             clear z0 z1 z2 z3 z4 hs3 hb3 hXX hX)
          | (go_at_call 8; rw [← HX.out]; refine (CJ _ _ c vs i1 i2 i3 j1 j2 j3 HF.out (HSX.out _ (Below.refl _ _)).1 (HSX.out _ (Below.refl _ _)).2 HIN.out HF64.out F HFE.out).mono ?_; rintro e w4 ⟨rfl, hb4⟩; rw [HJC.out, HFV.out]
             obtain ⟨Y, hY⟩ : ∃ Y, Y = w4.alloc (.cells #[.int .i64 k0, .int .i64 k1, .bool k2, .int .i64 k3] 31) := ⟨_, rfl⟩
             have hYX : Below X.heap.size X Y := by rw [hY]; exact hb4.alloc hb4.size _
             have HBY : Hid (Below V.heap.size V Y) := Lib.hid (bel_thenD HBX.out (Nat.le_refl _) hYX)
             have HSY : Hid (∀ W : World, Below Y.heap.size Y W → SysL W w3.heap.size c vs i1 i2 i3 j1 j2 j3 ∧ w3.heap.size ≤ W.heap.size) := Lib.hid fun W g => HSX.out W (bel_thenD hYX (Nat.le_refl _) g)
             have hvv : CellsAt Y w4.heap.size 31 [.int .i64 k0, .int .i64 k1, .bool k2, .int .i64 k3] := by rw [hY]; exact heap_alloc_new _ _
             have KY : Hid (∀ W : World, Below Y.heap.size Y W → (W.cell? ⟨w3.heap.size, 0, none⟩ = some (.int .i64 c.frame) ∧ W.cell? ⟨w3.heap.size, 1, none⟩ = some (.int .i64 c.margin) ∧ W.cell? ⟨w3.heap.size, 2, none⟩ = some (.slice i1 c.ws.length j1) ∧ W.cell? ⟨w3.heap.size, 3, none⟩ = some (.slice i2 c.ps.length j2) ∧ W.cell? ⟨w3.heap.size, 4, none⟩ = some (.slice i3 c.cs.length j3)) ∧ W.cell? ⟨w4.heap.size, 0, none⟩ = some (.int .i64 k0) ∧ W.cell? ⟨w4.heap.size, 1, none⟩ = some (.int .i64 k1) ∧ W.cell? ⟨w4.heap.size, 2, none⟩ = some (.bool k2) ∧ W.cell? ⟨w4.heap.size, 3, none⟩ = some (.int .i64 k3)) := Lib.hid fun W g => by
               have g1 := hvv.later g
               exact ⟨KX.out _ (bel_thenD hYX (Nat.le_refl _) g), (g1.cell (j := 0) rfl).1, (g1.cell (j := 1) rfl).1, (g1.cell (j := 2) rfl).1, (g1.cell (j := 3) rfl).1⟩
             have HY := Lib.hid hY
             clear x0 x1 x2 x3 x4
             obtain ⟨⟨x0, x1, x2, x3, x4⟩, y0, y1, y2, y3⟩ : ((w4.alloc (.cells #[.int .i64 k0, .int .i64 k1, .bool k2, .int .i64 k3] 31)).cell? ⟨w3.heap.size, 0, none⟩ = some (.int .i64 c.frame) ∧ (w4.alloc (.cells #[.int .i64 k0, .int .i64 k1, .bool k2, .int .i64 k3] 31)).cell? ⟨w3.heap.size, 1, none⟩ = some (.int .i64 c.margin) ∧ (w4.alloc (.cells #[.int .i64 k0, .int .i64 k1, .bool k2, .int .i64 k3] 31)).cell? ⟨w3.heap.size, 2, none⟩ = some (.slice i1 c.ws.length j1) ∧ (w4.alloc (.cells #[.int .i64 k0, .int .i64 k1, .bool k2, .int .i64 k3] 31)).cell? ⟨w3.heap.size, 3, none⟩ = some (.slice i2 c.ps.length j2) ∧ (w4.alloc (.cells #[.int .i64 k0, .int .i64 k1, .bool k2, .int .i64 k3] 31)).cell? ⟨w3.heap.size, 4, none⟩ = some (.slice i3 c.cs.length j3)) ∧ (w4.alloc (.cells #[.int .i64 k0, .int .i64 k1, .bool k2, .int .i64 k3] 31)).cell? ⟨w4.heap.size, 0, none⟩ = some (.int .i64 k0) ∧ (w4.alloc (.cells #[.int .i64 k0, .int .i64 k1, .bool k2, .int .i64 k3] 31)).cell? ⟨w4.heap.size, 1, none⟩ = some (.int .i64 k1) ∧ (w4.alloc (.cells #[.int .i64 k0, .int .i64 k1, .bool k2, .int .i64 k3] 31)).cell? ⟨w4.heap.size, 2, none⟩ = some (.bool k2) ∧ (w4.alloc (.cells #[.int .i64 k0, .int .i64 k1, .bool k2, .int .i64 k3] 31)).cell? ⟨w4.heap.size, 3, none⟩ = some (.int .i64 k3) := by rw [← hY]; exact KY.out _ (Below.refl _ _)
             clear hb4 hYX hY hvv)
          | (go_at_call 11; refine (num11_any _ _).mono ?_; rintro e w9 ⟨rfl, rfl⟩))
        go_ret
        refine ⟨rfl, ?_⟩
        rw [← HY.out]
        exact HB1.out.trans (HBY.out.mono HB1.out.size)
theorem AdmitNoWay_body : type_of% (AdmitNoWay_of judgeOk slackOk) := AdmitNoWay_of judgeOk slackOk
end Go.Proofs.YtdbbdlobahalkaaGreat
