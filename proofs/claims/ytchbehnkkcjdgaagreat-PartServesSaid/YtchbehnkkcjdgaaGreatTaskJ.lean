/- Jobs of the document's and the program's, each as the other. -/
import Derived.Test.YtchbehnkkcjdgaaGreatTaskC
namespace Go.Proofs.YtchbehnkkcjdgaaGreat
open Go.ChangeShapes Go.WideShapes Go.ChangeAt Go.RowKit
set_option linter.unusedVariables false
theorem Tryz.sizeJOp19 : (Tryz.prog.info? 66).map (·.size) = some 5 := by kernel_rfl
theorem Tryz.infoOp19 : (Tryz.prog.info? 54).map (fun i => (i.zero, i.size, i.bytes)) = some (some (.agg #[.int .i64 0, .int .i64 0, .int .i64 0]), 3, 24) := by kernel_rfl
set_option maxRecDepth 100000 in
set_option maxHeartbeats 8000000 in
theorem job_any (w : World) (t arr work done : Int) (a : Option Addr) (n c : Nat) (ops : List Wn) (hn : ops.length = n) (hl : Lies w 0 w.heap.size (.slice a n c) n 3 (ops.flatMap Wn.cells)) (hs : n ≤ 200) :
 Calls Tryz.prog 20 #[.agg #[.int .i64 t, .int .i64 arr, .int .i64 work, .int .i64 done, .slice a n c]] w fun e w' => ∃ ao cap, e = .returned (.agg #[.int .i64 t, .int .i64 arr, .int .i64 work, .int .i64 done, .slice ao n cap]) ∧ Lies w' w.heap.size w'.heap.size (.slice ao n cap) n 3 (ops.flatMap Wn.cells) ∧ Below w.heap.size w w' := by
 have KA := Lib.hid (ops_read hn hl)
 have HNN := Lib.hid hn
 obtain ⟨i0, hi, hz0, hz1, hz2⟩ := info_parts Tryz.infoOp19
 have HI := Lib.hid hi
 clear hn hl hi
 go_enter Tryz.func20, Tryz.ntmps20
 go_wp2_with fail
 obtain ⟨V, hV⟩ : ∃ V, V = ((w.alloc (.cells #[.int .i64 t, .int .i64 arr, .int .i64 work, .int .i64 done, .slice a n c] 43)).alloc (.cells #[.int .i64 0, .int .i64 0, .int .i64 0, .int .i64 0, .slice none 0 0] 66)).alloc (.cells #[.int .i64 t, .int .i64 arr, .int .i64 work, .int .i64 done, .slice none 0 0] 66) := ⟨_, rfl⟩
 rw [← hV]
 obtain ⟨B, hB⟩ : ∃ B, B = w.heap.size := ⟨_, rfl⟩
 have HBW := Lib.hid hB
 rw [← hB]
 have hVs : V.heap.size = B + 3 := by rw [hV]; simp; omega
 have HV0 : Hid (V.heap[B]? = some (.cells #[.int .i64 t, .int .i64 arr, .int .i64 work, .int .i64 done, .slice a n c] 43 (0, 0)) ∧ V.heap[B + 1]? = some (.cells #[.int .i64 0, .int .i64 0, .int .i64 0, .int .i64 0, .slice none 0 0] 66 (0, 0)) ∧ V.heap[B + 2]? = some (.cells #[.int .i64 t, .int .i64 arr, .int .i64 work, .int .i64 done, .slice none 0 0] 66 (0, 0))) := Lib.hid (by
  have e0 := heap_alloc_new w (.cells #[.int .i64 t, .int .i64 arr, .int .i64 work, .int .i64 done, .slice a n c] 43)
  have e1 := heap_alloc_new (w.alloc (.cells #[.int .i64 t, .int .i64 arr, .int .i64 work, .int .i64 done, .slice a n c] 43)) (.cells #[.int .i64 0, .int .i64 0, .int .i64 0, .int .i64 0, .slice none 0 0] 66)
  rw [hV, hB]
  refine ⟨?_, ?_, ?_⟩
  ·rw [heap_alloc_old _ _ (by simp; omega), heap_alloc_old _ _ (by simp)]; exact e0
  ·rw [heap_alloc_old _ _ (by simp)]; simpa using e1
  ·have := heap_alloc_new ((w.alloc (.cells #[.int .i64 t, .int .i64 arr, .int .i64 work, .int .i64 done, .slice a n c] 43)).alloc (.cells #[.int .i64 0, .int .i64 0, .int .i64 0, .int .i64 0, .slice none 0 0] 66)) (.cells #[.int .i64 t, .int .i64 arr, .int .i64 work, .int .i64 done, .slice none 0 0] 66)
   simpa using this)
 have HVB : Hid (Below B w V) := Lib.hid (by rw [hV, hB]; exact (((below1 _ _).alloc (by simp) _).alloc (by simp; omega) _))
 clear hV hB
 have HVS := Lib.hid hVs
 clear hVs
 go_loopw [4] (fun s wr => ∃ (k : Nat) (ao : Option Addr) (cap : Nat), k ≤ n ∧ s = .int .i64 k ∧ Hid (wr.heap[B]? = some (.cells #[.int .i64 t, .int .i64 arr, .int .i64 work, .int .i64 done, .slice a n c] 43 (0, 0)) ∧ wr.heap[B + 1]? = some (.cells #[.int .i64 0, .int .i64 0, .int .i64 0, .int .i64 0, .slice none 0 0] 66 (0, 0)) ∧ wr.heap[B + 2]? = some (.cells #[.int .i64 t, .int .i64 arr, .int .i64 work, .int .i64 done, .slice ao k cap] 66 (0, 0))) ∧ Hid (wr.ownsRow (B + 3) 54 3 (.slice ao k cap) k ((ops.take k).flatMap Wn.cells)) ∧ Hid (Below B w wr)) (fun s _ => n - (intOf s).toNat)
 case atStart => exact ⟨0, none, 0, Nat.zero_le _, rfl, HV0, Lib.hid ⟨rfl, .inl ⟨rfl, rfl⟩⟩, HVB⟩
 case round =>
  clear HV0 HVB
  obtain ⟨k, ao, cap, hk, rfl, HX, HO, HB⟩ := hrel
  obtain ⟨x0, x1, x2⟩ := HX.out
  have c0 : wr.cell? ⟨B, 0, none⟩ = some (.int .i64 t) := cell_in x0 rfl
  have c4 : wr.cell? ⟨B, 4, none⟩ = some (.slice a n c) := cell_in x0 rfl
  by_cases hlt : k < n
  ·have d0 : decide ((k : Int) < (n : Int)) = true := decide_eq_true (by omega)
   have d1 : (0 : Int) ≤ (k : Int) := by omega
   have d2 : (k : Int) < (n : Int) := by omega
   obtain ⟨b, off, y0, y1, y2, rfl, hb1, hb, hy, hc⟩ := KA.out k hlt
   obtain ⟨k0, k1, k2⟩ := hc wr (HB.out.block b (by rw [HBW.out]; exact hb))
   have HTK : Hid (ops.take (k + 1) = ops.take k ++ [⟨y0, y1, y2⟩]) := Lib.hid (by rw [List.take_add_one, hy]; rfl)
   obtain ⟨xs, hxs⟩ : ∃ xs, xs = (ops.take k).flatMap Wn.cells := ⟨_, rfl⟩
   rw [← hxs] at HO
   have HXS := Lib.hid hxs
   have hsz3 : B + 3 ≤ wr.heap.size := by have := lt_of_block x2; omega
   have HVB : Hid (Below wr.heap.size wr (wr.alloc (.cells #[.int .i64 y0, .int .i64 y1, .int .i64 y2] 54))) := Lib.hid (below1 _ _)
   have j4 : wr.cell? ⟨B + 2, 4, none⟩ = some (.slice ao k cap) := cell_in x2 rfl
   have p4 : (wr.alloc (.cells #[.int .i64 y0, .int .i64 y1, .int .i64 y2] 54)).cell? ⟨B + 2, 4, none⟩ = some (.slice ao k cap) := cell_in ((heap_alloc_old _ _ (lt_of_block x2)).trans x2) rfl
   have HV : Hid (∀ W : World, W.heap = (wr.alloc (.cells #[.int .i64 y0, .int .i64 y1, .int .i64 y2] 54)).heap → W.ownsRow (B + 3) 54 3 (.slice ao k cap) k xs ∧ Lies W wr.heap.size (wr.heap.size + 1) (.slice (some ⟨wr.heap.size, 0, none⟩) 1 1) 1 3 [.int .i64 y0, .int .i64 y1, .int .i64 y2]) := Lib.hid (fun W hW =>
    ⟨owns_hold (owns_later HO.out (below1 wr (.cells #[.int .i64 y0, .int .i64 y1, .int .i64 y2] 54))) ⟨by rw [hW]; exact Nat.le_refl _, fun g _ => by rw [hW]⟩, one_lies (cs := #[.int .i64 y0, .int .i64 y1, .int .i64 y2]) (t := 54) (by rw [hW]; exact heap_alloc_new _ _) rfl⟩)
   have KG : Hid (∀ W W2 : World, W.heap = (wr.alloc (.cells #[.int .i64 y0, .int .i64 y1, .int .i64 y2] 54)).heap → W.grownBy W2 (Value.slice ao k cap).ownBlock → W2.heap[B]? = some (.cells #[.int .i64 t, .int .i64 arr, .int .i64 work, .int .i64 done, .slice (some ⟨b, off, none⟩) n c] 43 (0, 0)) ∧ W2.heap[B + 1]? = some (.cells #[.int .i64 0, .int .i64 0, .int .i64 0, .int .i64 0, .slice none 0 0] 66 (0, 0)) ∧ W2.heap[B + 2]? = some (.cells #[.int .i64 t, .int .i64 arr, .int .i64 work, .int .i64 done, .slice ao k cap] 66 (0, 0))) := Lib.hid (fun W W2 hW hg => by
    have hne : ∀ j, j < B + 3 → some j ≠ (Value.slice ao k cap).ownBlock := fun j hj e => by have := (owns_own HO.out j e.symm).1; omega
    have hold : ∀ j, j < B + 3 → W2.heap[j]? = wr.heap[j]? := fun j hj => by
     rw [hg.block j (by rw [hW]; simp; omega) (hne j hj), hW]
     exact heap_alloc_old _ _ (by omega)
    exact ⟨(hold _ (by omega)).trans x0, (hold _ (by omega)).trans x1, (hold _ (by omega)).trans x2⟩)
   have HHO := Lib.hid (And.intro HO.out hsz3)
   clear x0 x1 x2 hb1 hb hy hc hxs HX
   go_wp2_with fail
   go_region_law (first
    | (refine step_append_lie2 (by rfl) _ _ 64 (by rfl) (B + 3) 54 i0 _ 3 24 Tryz.underlying64 HI.out hz0 hz1 hz2 rfl (by omega) (.slice ao k cap) k xs (by rfl) (HV.out _ (by rfl)).1 (.slice (some ⟨wr.heap.size, 0, none⟩) 1 1) wr.heap.size (wr.heap.size + 1) 1 [.int .i64 y0, .int .i64 y1, .int .i64 y2] (by rfl) (HV.out _ (by rfl)).2 (wn_one ⟨y0, y1, y2⟩) (k + 1) rfl (by simp only [maxLen]; omega) (by omega) (by simp; omega) ?_
       intro ao2 cap2 w6 hown6 hgrow6 hob6
       obtain ⟨z0, z1, z2⟩ := KG.out _ w6 (by rfl) hgrow6
       have f4 : w6.cell? ⟨B + 2, 4, none⟩ = some (.slice ao k cap) := cell_in z2 rfl
       have f5 : w6.frozen? ⟨B + 2, 4, none⟩ = false := free_in z2 _))
   all_goals
    (obtain ⟨w7, hw7⟩ : ∃ w7, w7 = w6.setCell ⟨B + 2, 4, none⟩ (.slice ao2 (k + 1) cap2) := ⟨_, rfl⟩
     rw [← hw7]
     have hB7 : But (B + 2) w6 w7 := by rw [hw7]; exact (But.refl _ w6).set 4 _
     have h7 : Hid (w7.heap[B]? = some (.cells #[.int .i64 t, .int .i64 arr, .int .i64 work, .int .i64 done, .slice (some ⟨b, off, none⟩) n c] 43 (0, 0)) ∧ w7.heap[B + 1]? = some (.cells #[.int .i64 0, .int .i64 0, .int .i64 0, .int .i64 0, .slice none 0 0] 66 (0, 0)) ∧ w7.heap[B + 2]? = some (.cells #[.int .i64 t, .int .i64 arr, .int .i64 work, .int .i64 done, .slice ao2 (k + 1) cap2] 66 (0, 0))) := Lib.hid ⟨(hB7.block B (lt_of_block z0) (by omega)).trans z0, (hB7.block (B + 1) (lt_of_block z1) (by omega)).trans z1, by rw [hw7]; exact set_at z2⟩
     have o7 : Hid (w7.ownsRow (B + 3) 54 3 (.slice ao2 (k + 1) cap2) (k + 1) ((ops.take (k + 1)).flatMap Wn.cells)) := Lib.hid (by
      rw [HTK.out, List.flatMap_append, ← HXS.out]
      exact owns_hold hown6 ⟨by rw [hw7]; simp, fun g hg => hB7.block g (owns_own hown6 g hg).2 (by have := (owns_own hown6 g hg).1; omega)⟩)
     have b7 : Hid (Below B w w7) := Lib.hid (by
      have h1 : Below B w w6 := Below.grown (by repeat first | exact HB.out.trans (HVB.out.mono (by have := HHO.out.2; omega)) | refine Below.drew ?_ | refine Below.alloc ?_ (by have := HHO.out.2; simp; omega) _ | exact HB.out) hgrow6 (by have := HHO.out.2; simp; omega) (fun q hq => by have := (owns_own HHO.out.1 q hq).1; omega)
      rw [hw7]
      exact h1.setCell (by show B ≤ B + 2; omega) _)
     clear z0 z1 z2 f4 f5 hown6 hgrow6 hob6 hw7 hB7
     go_wp2_with fail
     go_roundw
     case rel => exact ⟨k + 1, ao2, cap2, by omega, by go_num, h7, o7, b7⟩
     case measure => simp [intOf]; omega)
  ·have d0 : decide ((k : Int) < (n : Int)) = false := decide_eq_false (by omega)
   have hkn : k = n := by omega
   subst hkn
   have s0 := cell_in (j := 0) x2 rfl
   have s1 := cell_in (j := 1) x2 rfl
   have s2 := cell_in (j := 2) x2 rfl
   have s3 := cell_in (j := 3) x2 rfl
   have s4 := cell_in (j := 4) x2 rfl
   have r0 := cell_in (j := 0) x1 rfl
   have r1 := cell_in (j := 1) x1 rfl
   have r2 := cell_in (j := 2) x1 rfl
   have r3 := cell_in (j := 3) x1 rfl
   have r4 := cell_in (j := 4) x1 rfl
   have q0 := free_in x1 0
   have q1 := free_in x1 1
   have q2 := free_in x1 2
   have q3 := free_in x1 3
   have q4 := free_in x1 4
   clear x0 x1 x2
   go_wp2_with fail
   obtain ⟨x0, x1, x2⟩ := HX.out
   have hX := set5 x1 rfl (.int .i64 t) (.int .i64 arr) (.int .i64 work) (.int .i64 done) (.slice ao k cap)
   refine bodyPost_ret (results_cell_row (P := Tryz.prog) rfl _ _ (B + 1) _ _ (0, 0) _ rfl hX Tryz.underlying66 rfl Tryz.sizeJOp19) rfl ?_
   have ho := HO.out
   rw [List.take_of_length_le (by rw [HNN.out]; exact Nat.le_refl _)] at ho
   have hbw := HBW.out
   have hB5 : But (B + 1) wr (((((wr.setCell ⟨B + 1, 0, none⟩ (.int .i64 t)).setCell ⟨B + 1, 1, none⟩ (.int .i64 arr)).setCell ⟨B + 1, 2, none⟩ (.int .i64 work)).setCell ⟨B + 1, 3, none⟩ (.int .i64 done)).setCell ⟨B + 1, 4, none⟩ (.slice ao k cap)) := (((((But.refl _ wr).set 0 _).set 1 _).set 2 _).set 3 _).set 4 _
   subst hbw
   exact ⟨ao, cap, rfl, (Lies.of_owns (owns_hold ho ⟨hB5.size, fun g hg => hB5.block g (owns_own ho g hg).2 (by have := (owns_own ho g hg).1; omega)⟩)).wider (by omega) (Nat.le_refl _), below5 HB.out (by omega) _ _ _ _ _⟩
end Go.Proofs.YtchbehnkkcjdgaaGreat
