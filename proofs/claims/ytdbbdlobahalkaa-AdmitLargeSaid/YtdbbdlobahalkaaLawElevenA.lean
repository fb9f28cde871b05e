/- What must come of verdicts, of a program whose Judge and Slack are as they are asked to be. -/
import Derived.Test.YtdbbdlobahalkaaAdmitC
namespace Go.Proofs.Ytdbbdlobahalkaa
open Go.ChangeShapes Go.WideShapes Go.ChangeAt Go.RowKit
set_option linter.unusedVariables false

def oneV (b : Nat) : List Pv := [⟨.slice (some ⟨b, 0, none⟩) 1 1, .slice none 0 0, .slice none 0 0, 0, 0, 0⟩]
theorem sysOne {W : World} {a b d hi : Nat} {lo : Int} {T1 T2 T3 : TypeId} (h1 : CellsAt W a T1 [.int .i64 2, .int .i64 4, .int .i64 0]) (h2 : CellsAt W b T2 [.bool false, .int .i64 10, .int .i64 10, .int .i64 10, .int .i64 lo, .int .i64 lo])
    (h3 : CellsAt W d T3 [.slice (some ⟨b, 0, none⟩) 1 1, .slice none 0 0, .slice none 0 0, .int .u8 0, .int .u8 0, .int .u8 0]) (ha : a < hi) (hb : b < hi) (hd : d < hi) :
    SysL W hi (oneC lo) (oneV b) (some ⟨a, 0, none⟩) (some ⟨d, 0, none⟩) none 1 1 0 := by
  refine ⟨(one_lies h1 rfl).wider (Nat.zero_le _) ha, (one_lies h3 rfl).wider (Nat.zero_le _) hd, .cons ⟨(one_lies h2 rfl).wider (Nat.zero_le _) hb, none_lies _ _ _ _, none_lies _ _ _ _, rfl, rfl, rfl⟩ .nil, none_lies _ _ _ _⟩
theorem set_other (w : World) (b j : Nat) (u : Value) (k : Nat) (h : k ≠ b) : (w.setCell ⟨b, j, none⟩ u).heap[k]? = w.heap[k]? := Below.heap_setCell w ⟨b, j, none⟩ u k h
theorem oneFew (lo : Int) : Few (oneC lo) := by
  refine ⟨by simp [oneC], by simp [oneC], by simp [oneC], fun p hp => ?_⟩
  simp [oneC] at hp
  subst hp
  simp
theorem oneIn (lo : Int) : (∀ x ∈ (oneC lo).ws, x.In) ∧ I64 (oneC lo).frame := by
  refine ⟨fun x hx => ?_, by unfold I64; simp [oneC]⟩
  simp [oneC] at hx
  subst hx
  simp [Wn.In, I64]
set_option maxRecDepth 100000 in
set_option maxHeartbeats 4000000 in
theorem knows11_any (CJ : JudgeOk) (CS : SlackOk) (w : World) : Calls Try.prog 6 #[] w fun e w' => e = .returned (.bool true) ∧ Below w.heap.size w w' := by
  obtain ⟨a0, a1, a2, a3, a4, a5, a6, a7, a8, a9, a10, a11, a12, a13⟩ := sure11
  have HJ4 : Hid ((judgeV (oneC 4) 10).1.cells = #[.int .i64 1, .int .i64 0, .bool false, .int .i64 10] ∧ (judgeV (oneC 4) 10).2 = 0) := Lib.hid ⟨by unfold Vd.cells; rw [a2, a3, a4, a5], a6⟩
  have HJ3 : Hid ((judgeV (oneC 3) 10).1.cells = #[.int .i64 0, .int .i64 0, .bool false, .int .i64 0] ∧ (judgeV (oneC 3) 10).2 = 0) := Lib.hid ⟨by unfold Vd.cells; rw [a9, a10, a11, a12], a13⟩
  have HSL := Lib.hid (And.intro a7 a8)
  clear a0 a1 a2 a3 a4 a5 a6 a7 a8 a9 a10 a11 a12 a13
  obtain ⟨V, hV⟩ : ∃ V, V = (((w.alloc (.cells #[.int .i64 2, .int .i64 4, .int .i64 0] 63)).alloc (.cells #[.bool false, .int .i64 10, .int .i64 10, .int .i64 10, .int .i64 4, .int .i64 4] 65)).alloc (.cells #[.slice (some ⟨w.heap.size + 1, 0, none⟩) 1 1, .slice none 0 0, .slice none 0 0, .int .u8 0, .int .u8 0, .int .u8 0] 58)).alloc (.cells #[.int .i64 10, .int .i64 1, .slice (some ⟨w.heap.size, 0, none⟩) 1 1, .slice (some ⟨w.heap.size + 1 + 1, 0, none⟩) 1 1, .slice none 0 0] 33) := ⟨_, rfl⟩
  have b1 := below1 w (.cells #[.int .i64 2, .int .i64 4, .int .i64 0] 63)
  have hBV : Below w.heap.size w V := by rw [hV]; exact b_alloc (b_alloc (b_alloc b1 (Nat.le_refl _) _) (Nat.le_refl _) _) (Nat.le_refl _) _
  have hVz : V.heap.size = w.heap.size + 4 := by rw [hV]; simp
  have g0 : CellsAt V w.heap.size 63 [.int .i64 2, .int .i64 4, .int .i64 0] := by
    rw [hV]; unfold CellsAt; simp only [heap_at, World.size_alloc]; (repeat rw [if_neg (by omega)]); simp
  have g1 : CellsAt V (w.heap.size + 1) 65 [.bool false, .int .i64 10, .int .i64 10, .int .i64 10, .int .i64 4, .int .i64 4] := by
    rw [hV]; unfold CellsAt; simp only [heap_at, World.size_alloc]; (repeat rw [if_neg (by omega)]); simp
  have g2 : CellsAt V (w.heap.size + 1 + 1) 58 [.slice (some ⟨w.heap.size + 1, 0, none⟩) 1 1, .slice none 0 0, .slice none 0 0, .int .u8 0, .int .u8 0, .int .u8 0] := by
    rw [hV]; unfold CellsAt; simp only [heap_at, World.size_alloc]; (repeat rw [if_neg (by omega)]); simp
  have g3 : CellsAt V (w.heap.size + 1 + 1 + 1) 33 [.int .i64 10, .int .i64 1, .slice (some ⟨w.heap.size, 0, none⟩) 1 1, .slice (some ⟨w.heap.size + 1 + 1, 0, none⟩) 1 1, .slice none 0 0] := by
    rw [hV]; unfold CellsAt; simp only [heap_at, World.size_alloc]; (repeat rw [if_neg (by omega)]); simp
  have HG := Lib.hid (fun (W : World) (h : Below V.heap.size V W) => And.intro (g0.later h) (And.intro (g1.later h) (And.intro (g2.later h) (g3.later h))))
  have HV := Lib.hid hV; have HBV := Lib.hid hBV
  have hE1 : ∀ W : World, (Op.equalIn 10000 36 (.agg #[.int .i64 1, .int .i64 0, .bool false, .int .i64 10]) (.agg #[.int .i64 1, .int .i64 0, .bool false, .int .i64 10])).run Try.prog W = .ok true W := fun W => eqInVd_admit 1 0 false 10 1 0 false 10 W
  have hE2 : ∀ W : World, (Op.equalIn 10000 36 (.agg #[.int .i64 0, .int .i64 0, .bool false, .int .i64 0]) (.agg #[.int .i64 0, .int .i64 0, .bool false, .int .i64 0])).run Try.prog W = .ok true W := fun W => eqInVd_admit 0 0 false 0 0 0 false 0 W
  have hM : Try.prog.eqGuardType Try.prog.depth 36 = false := by kernel_rfl
  clear hV hBV b1 g0 g1 g2 g3
  go_enter Try.func6, Try.ntmps6
  go_wp2_with (first
    | (go_at_call 9; refine (num11_any _ _).mono ?_; rintro e w9 ⟨rfl, rfl⟩)
    | (go_at_call 8; rw [← HY.out]
       refine (CJ Y (w.heap.size + 1 + 1 + 1) (oneC 3) (oneV (w.heap.size + 1)) (some ⟨w.heap.size, 0, none⟩) (some ⟨w.heap.size + 1 + 1, 0, none⟩) none 1 1 0 (oneFew 3) HS3.out HYZ.out (oneIn 3).1 (oneIn 3).2 10 (fun _ => rfl)).mono ?_
       rintro e w3 ⟨rfl, hb3⟩
       rw [HJ3.out.1, HJ3.out.2]
       have HB3 := Lib.hid hb3
       obtain ⟨p0, p1, p2, p3⟩ := HVB.out _ (hb3.alloc hb3.size (.cells #[.int .i64 0, .int .i64 0, .bool false, .int .i64 0] 36))
       clear hb3)
    | (go_at_call 10; rw [← HX.out]
       refine (CS X (w.heap.size + 1 + 1 + 1) (oneC 4) (oneV (w.heap.size + 1)) (some ⟨w.heap.size, 0, none⟩) (some ⟨w.heap.size + 1 + 1, 0, none⟩) none 1 1 0 (oneFew 4) HS4.out HXZ.out (oneIn 4).1 (oneIn 4).2 10 (fun _ => rfl) 0 10 false).mono ?_
       rintro e w2 ⟨rfl, hb2⟩
       rw [HSL.out.1, HSL.out.2]
       have HB2 := Lib.hid (bel_thenD HBX.out (Nat.le_refl _) hb2)
       obtain ⟨k0, k1, k2, k3⟩ := HG.out _ HB2.out
       have hz2 := HB2.out.size
       have y0 := (k3.cell (j := 3) rfl).1
       have y1 := (k2.cell (j := 0) rfl).1
       have y2 := (k1.cell (j := 4) rfl).1
       have y3 := (k1.cell (j := 4) rfl).2
       have q1 := k1.set 4 (.int .i64 3)
       have q0 : CellsAt (w2.setCell ⟨w.heap.size + 1, 4, none⟩ (.int .i64 3)) w.heap.size _ _ := (set_other _ (w.heap.size + 1) 4 _ w.heap.size (by omega)).trans k0
       have q2 : CellsAt (w2.setCell ⟨w.heap.size + 1, 4, none⟩ (.int .i64 3)) (w.heap.size + 1 + 1) _ _ := (set_other _ (w.heap.size + 1) 4 _ (w.heap.size + 1 + 1) (by omega)).trans k2
       have q3 : CellsAt (w2.setCell ⟨w.heap.size + 1, 4, none⟩ (.int .i64 3)) (w.heap.size + 1 + 1 + 1) _ _ := (set_other _ (w.heap.size + 1) 4 _ (w.heap.size + 1 + 1 + 1) (by omega)).trans k3
       have y4 := (q3.cell (j := 3) rfl).1
       have y5 := (q2.cell (j := 0) rfl).1
       have y6 := (q1.cell (j := 5) rfl).1
       have y7 := (q1.cell (j := 5) rfl).2
       have r1 := q1.set 5 (.int .i64 3)
       have r0 : CellsAt ((w2.setCell ⟨w.heap.size + 1, 4, none⟩ (.int .i64 3)).setCell ⟨w.heap.size + 1, 5, none⟩ (.int .i64 3)) w.heap.size _ _ := (set_other _ (w.heap.size + 1) 5 _ w.heap.size (by omega)).trans q0
       have r2 : CellsAt ((w2.setCell ⟨w.heap.size + 1, 4, none⟩ (.int .i64 3)).setCell ⟨w.heap.size + 1, 5, none⟩ (.int .i64 3)) (w.heap.size + 1 + 1) _ _ := (set_other _ (w.heap.size + 1) 5 _ (w.heap.size + 1 + 1) (by omega)).trans q2
       have r3 : CellsAt ((w2.setCell ⟨w.heap.size + 1, 4, none⟩ (.int .i64 3)).setCell ⟨w.heap.size + 1, 5, none⟩ (.int .i64 3)) (w.heap.size + 1 + 1 + 1) _ _ := (set_other _ (w.heap.size + 1) 5 _ (w.heap.size + 1 + 1 + 1) (by omega)).trans q3
       have y8 := (r3.cell (j := 0) rfl).1
       have y9 := (r3.cell (j := 1) rfl).1
       have y10 := (r3.cell (j := 2) rfl).1
       have y11 := (r3.cell (j := 3) rfl).1
       have y12 := (r3.cell (j := 4) rfl).1
       obtain ⟨Y, hY⟩ : ∃ Y, Y = (w2.setCell ⟨w.heap.size + 1, 4, none⟩ (.int .i64 3)).setCell ⟨w.heap.size + 1, 5, none⟩ (.int .i64 3) := ⟨_, rfl⟩
       have HS3 : Hid (SysL Y (w.heap.size + 1 + 1 + 1) (oneC 3) (oneV (w.heap.size + 1)) (some ⟨w.heap.size, 0, none⟩) (some ⟨w.heap.size + 1 + 1, 0, none⟩) none 1 1 0) := Lib.hid (by rw [hY]; exact sysOne r0 r1 r2 (by omega) (by omega) (by omega))
       have HYZ : Hid (w.heap.size + 1 + 1 + 1 ≤ Y.heap.size) := Lib.hid (by rw [hY]; simp [World.setCell]; omega)
       have HYB : Hid (Below w.heap.size w Y) := Lib.hid (by rw [hY]; exact ((HBV.out.trans (HB2.out.mono (by omega))).setCell (p := ⟨w.heap.size + 1, 4, none⟩) (by show _ ≤ w.heap.size + 1; omega) _).setCell (p := ⟨w.heap.size + 1, 5, none⟩) (by show _ ≤ w.heap.size + 1; omega) _)
       have HVB : Hid (∀ W : World, Below Y.heap.size Y W → W.cell? ⟨w1.heap.size, 0, none⟩ = some (.int .i64 1) ∧ W.cell? ⟨w1.heap.size, 1, none⟩ = some (.int .i64 0) ∧ W.cell? ⟨w1.heap.size, 2, none⟩ = some (.bool false) ∧ W.cell? ⟨w1.heap.size, 3, none⟩ = some (.int .i64 10)) := Lib.hid fun W hW => by
         have hx2 : CellsAt w2 w1.heap.size 36 [.int .i64 1, .int .i64 0, .bool false, .int .i64 10] := HXB.out.later hb2
         have hb1z := HBW.out.size
         have hx3 : CellsAt Y w1.heap.size 36 [.int .i64 1, .int .i64 0, .bool false, .int .i64 10] := by
           rw [hY]; exact (set_other _ (w.heap.size + 1) 5 _ _ (by omega)).trans ((set_other _ (w.heap.size + 1) 4 _ _ (by omega)).trans hx2)
         have hx4 := hx3.later hW
         exact ⟨(hx4.cell (j := 0) rfl).1, (hx4.cell (j := 1) rfl).1, (hx4.cell (j := 2) rfl).1, (hx4.cell (j := 3) rfl).1⟩
       have HY := Lib.hid hY
       clear hY hb2 k0 k1 k2 k3 q0 q1 q2 q3 r0 r1 r2 r3 x0 x1 x2 x3 x4)
    | (go_at_call 8; rw [← HV.out]
       have hs4 := sysOne (lo := 4) (HG.out V (Below.refl _ _)).1 (HG.out V (Below.refl _ _)).2.1 (HG.out V (Below.refl _ _)).2.2.1 (hi := w.heap.size + 1 + 1 + 1) (by omega) (by omega) (by omega)
       refine (CJ V (w.heap.size + 1 + 1 + 1) (oneC 4) (oneV (w.heap.size + 1)) (some ⟨w.heap.size, 0, none⟩) (some ⟨w.heap.size + 1 + 1, 0, none⟩) none 1 1 0 (oneFew 4) hs4 (by omega) (oneIn 4).1 (oneIn 4).2 10 (fun _ => rfl)).mono ?_
       rintro e w1 ⟨rfl, hb1⟩
       rw [HJ4.out.1, HJ4.out.2]
       obtain ⟨X, hX⟩ : ∃ X, X = w1.alloc (.cells #[.int .i64 1, .int .i64 0, .bool false, .int .i64 10] 36) := ⟨_, rfl⟩
       have HBW := Lib.hid hb1
       have HBX : Hid (Below V.heap.size V X) := Lib.hid (by rw [hX]; exact hb1.alloc hb1.size _)
       have HXB : Hid (CellsAt X w1.heap.size 36 [.int .i64 1, .int .i64 0, .bool false, .int .i64 10]) := Lib.hid (by rw [hX]; exact heap_alloc_new _ _)
       have HS4 := Lib.hid (sysOne (lo := 4) (HG.out X HBX.out).1 (HG.out X HBX.out).2.1 (HG.out X HBX.out).2.2.1 (hi := w.heap.size + 1 + 1 + 1) (by omega) (by omega) (by omega))
       have HXZ : Hid (w.heap.size + 1 + 1 + 1 ≤ X.heap.size) := Lib.hid (by have := HBX.out.size; omega)
       have kk := (HG.out _ (hb1.alloc hb1.size (.cells #[.int .i64 1, .int .i64 0, .bool false, .int .i64 10] 36))).2.2.2
       have x0 := (kk.cell (j := 0) rfl).1
       have x1 := (kk.cell (j := 1) rfl).1
       have x2 := (kk.cell (j := 2) rfl).1
       have x3 := (kk.cell (j := 3) rfl).1
       have x4 := (kk.cell (j := 4) rfl).1
       have HX := Lib.hid hX
       clear hX hb1 hs4 kk))
  go_ret
  exact ⟨rfl, (HYB.out.trans (HB3.out.mono (by have := HYZ.out; omega))).alloc (by have := HYZ.out; have := HB3.out.size; omega) _⟩
end Go.Proofs.Ytdbbdlobahalkaa
