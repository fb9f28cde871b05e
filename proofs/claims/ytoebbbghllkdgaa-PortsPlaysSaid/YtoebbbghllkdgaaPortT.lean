/- The document's channels: Write. -/
import Derived.Test.YtoebbbghllkdgaaPortS
import Derived.Test.YtoebbbghllkdgaaTwice
import Derived.Deep.RegionLaw
import Derived.Deep.CutRange
import Derived.Deep.CutBlock
namespace Go.Proofs.Ytoebbbghllkdgaa
open Go.ChangeShapes Go.WideShapes Go.ChangeAt Go.RowKit
set_option linter.unusedVariables false
set_option linter.unusedSimpArgs false

set_option maxRecDepth 100000 in
set_option maxHeartbeats 8000000 in
theorem rwrite_walk_no (w : World) (rb G k n cap : Nat) (f t sz : Int) (q : Bool) (la : Option Addr) (m lc : Nat) (lost at_ p v now : Int) (h : RdAt w rb G k n cap f t sz q la m lc lost at_) (hp : f ≠ p) :
    Calls Try.prog 12 #[.pointer (some ⟨rb, 0, none⟩), .int .i64 p, .int .i64 k, .int .i64 v, .int .i64 now] w fun e w' => e = .returned (.int .i64 1) ∧ w' = w := by
  obtain ⟨b0, hk, c0, c1, c2, c3, c4, c5, c6, u4, u5, u6⟩ := h
  have f0 : decide ((k : Int) < 0) = false := decide_eq_false (by omega)
  have f1 : decide ((n : Int) ≤ (k : Int)) = false := decide_eq_false (by omega)
  have f2 : (0 : Int) ≤ (k : Int) := by omega
  have f3 : (k : Int) < (n : Int) := by omega
  have f5 : decide (n ≤ k) = false := decide_eq_false (by omega)
  have f6 : (f != p) = true := by simpa using hp
  clear hp
  go_enter Try.func12, Try.ntmps12
  go_wp2_with fail
  go_ret
  exact ⟨rfl, rfl⟩
set_option maxRecDepth 100000 in
set_option maxHeartbeats 8000000 in
theorem rwrite_walk_sample (w : World) (rb G k n cap : Nat) (f t sz : Int) (la : Option Addr) (m lc : Nat) (lost at_ v now : Int) (h : RdAt w rb G k n cap f t sz false la m lc lost at_) (hG : G < w.heap.size) :
    Calls Try.prog 12 #[.pointer (some ⟨rb, 0, none⟩), .int .i64 f, .int .i64 k, .int .i64 v, .int .i64 now] w fun e w' => e = .returned (.int .i64 0) ∧ w' = ((w.setCell ⟨G, k * 7 + 4, none⟩ (.slice (some ⟨w.heap.size, 0, none⟩) 1 1)).setCell ⟨G, k * 7 + 6, none⟩ (.int .i64 now)).alloc (.cells #[.int .i64 v] 3) := by
  obtain ⟨b0, hk, c0, c1, c2, c3, c4, c5, c6, u4, u5, u6⟩ := h
  have f0 : decide ((k : Int) < 0) = false := decide_eq_false (by omega)
  have f1 : decide ((n : Int) ≤ (k : Int)) = false := decide_eq_false (by omega)
  have f2 : (0 : Int) ≤ (k : Int) := by omega
  have f3 : (k : Int) < (n : Int) := by omega
  have f5 : decide (n ≤ k) = false := decide_eq_false (by omega)
  have f6 : (f != f) = false := by simp
  have hne : ¬ G = w.heap.size := by omega
  have hb := below1 w (.cells #[.int .i64 v] 3)
  have x4 : (w.alloc (.cells #[.int .i64 v] 3)).cell? ⟨G, k * 7 + 4, none⟩ = some (.slice la m lc) := (World.cell?_of_block (hb.block G hG)).trans c4
  have x6 : (w.alloc (.cells #[.int .i64 v] 3)).cell? ⟨G, k * 7 + 6, none⟩ = some (.int .i64 at_) := (World.cell?_of_block (hb.block G hG)).trans c6
  clear hb
  go_enter Try.func12, Try.ntmps12
  go_wp2_with fail
  go_ret
  exact ⟨rfl, rfl⟩
set_option maxRecDepth 100000 in
set_option maxHeartbeats 8000000 in
theorem rwrite_walk_full (w : World) (rb G k n cap : Nat) (f t sz : Int) (la : Option Addr) (m lc : Nat) (lost at_ v now : Int) (h : RdAt w rb G k n cap f t sz true la m lc lost at_) (hm : ¬ (m : Int) < min sz 4096) :
    Calls Try.prog 12 #[.pointer (some ⟨rb, 0, none⟩), .int .i64 f, .int .i64 k, .int .i64 v, .int .i64 now] w fun e w' => e = .returned (.int .i64 0) ∧ ∃ W, Below w.heap.size w W ∧ W.heap = w.heap ∧ w' = W.setCell ⟨G, k * 7 + 5, none⟩ (.int .i64 (wrap64 (lost + 1))) := by
  obtain ⟨b0, hk, c0, c1, c2, c3, c4, c5, c6, u4, u5, u6⟩ := h
  have f0 : decide ((k : Int) < 0) = false := decide_eq_false (by omega)
  have f1 : decide ((n : Int) ≤ (k : Int)) = false := decide_eq_false (by omega)
  have f2 : (0 : Int) ≤ (k : Int) := by omega
  have f3 : (k : Int) < (n : Int) := by omega
  have f5 : decide (n ≤ k) = false := decide_eq_false (by omega)
  have f6 : (f != f) = false := by simp
  rcases (show (sz ≤ 4096 ∧ ¬ 4096 < sz ∧ sz ≤ (m : Int)) ∨ (4096 < sz ∧ ¬ sz ≤ 4096 ∧ (4096 : Int) ≤ (m : Int)) by omega) with ⟨g1, g2, g3⟩ | ⟨g1, g2, g3⟩
  · have f7 : decide (sz ≤ (m : Int)) = true := decide_eq_true g3
    clear hm g3
    go_enter Try.func12, Try.ntmps12
    go_wp2_with fail
    go_quiet (fail)
    go_wp2_with fail
    go_ret
    refine ⟨rfl, _, ?_, ?_, rfl⟩
    · repeat first | exact Below.refl _ _ | refine Below.drew ?_ | refine below_drewR _ ?_
    · rfl
  · have f7 : decide ((4096 : Int) ≤ (m : Int)) = true := decide_eq_true g3
    have f8 : 4096 ≤ m := by omega
    clear hm g3
    go_enter Try.func12, Try.ntmps12
    go_wp2_with fail
    go_quiet (fail)
    go_wp2_with fail
    go_ret
    refine ⟨rfl, _, ?_, ?_, rfl⟩
    · repeat first | exact Below.refl _ _ | refine Below.drew ?_ | refine below_drewR _ ?_
    · rfl
set_option maxRecDepth 100000 in
set_option maxHeartbeats 16000000 in
theorem rwrite_walk_room (w : World) (rb G k n cap : Nat) (cur : Array Value) (f t sz : Int) (la : Option Addr) (ln lc : Nat) (l : List Int) (lost at_ v now : Int) (h : RdAt w rb G k n cap f t sz true la ln lc lost at_) (hg : w.heap[G]? = some (.cells cur 54 (0, 0))) (hll : Lies w 0 w.heap.size (.slice la ln lc) ln 1 (l.flatMap intCells)) (hm : (ln : Int) < min sz 4096) :
    Calls Try.prog 12 #[.pointer (some ⟨rb, 0, none⟩), .int .i64 f, .int .i64 k, .int .i64 v, .int .i64 now] w fun e w' => e = .returned (.int .i64 0) ∧ ∃ (W : World) (ao : Option Addr) (cp : Nat), Below w.heap.size w W ∧ W.ownsRow w.heap.size 3 1 (.slice ao (ln + 1) cp) (ln + 1) (l.flatMap intCells ++ [.int .i64 v]) ∧ w' = W.setCell ⟨G, k * 7 + 4, none⟩ (.slice ao (ln + 1) cp) := by
  obtain ⟨b0, hk, c0, c1, c2, c3, c4, c5, c6, u4, u5, u6⟩ := h
  have f0 : decide ((k : Int) < 0) = false := decide_eq_false (by omega)
  have f1 : decide ((n : Int) ≤ (k : Int)) = false := decide_eq_false (by omega)
  have f2 : (0 : Int) ≤ (k : Int) := by omega
  have f3 : (k : Int) < (n : Int) := by omega
  have f5 : decide (n ≤ k) = false := decide_eq_false (by omega)
  have f6 : (f != f) = false := by simp
  obtain ⟨i0, hi0, hz0, hz1, hz2⟩ := info_parts Try.infoInt
  have HI := Lib.hid hi0
  have HL : Hid (∀ W, Below w.heap.size w W → Lies W 0 w.heap.size (.slice la ln lc) ln 1 (l.flatMap intCells)) := Lib.hid (fun W hW => hll.keep (SameIn.of_below hW (Nat.le_refl _)))
  have HX1 : Hid (∀ u ∈ l.flatMap intCells, u.oneCell' = true) := Lib.hid (flat_one intCells (fun x => by simp [intCells, Value.oneCell']) l)
  have K1 : Hid (∀ W, Below w.heap.size w W → W.cell? ⟨G, k * 7 + 4, none⟩ = some (.slice la ln lc) ∧ W.frozen? ⟨G, k * 7 + 4, none⟩ = false) := Lib.hid (fun W hW => ⟨(World.cell?_of_block (hW.block G (lt_of_block hg))).trans c4, free_in ((hW.block G (lt_of_block hg)).trans hg) _⟩)
  have aG : ∀ o, (w.alloc o).cell? ⟨G, k * 7 + 4, none⟩ = some (.slice la ln lc) := fun o => (K1.out _ (below1 _ _)).1
  have bG : ∀ o o', ((w.alloc o).alloc o').cell? ⟨G, k * 7 + 4, none⟩ = some (.slice la ln lc) := fun o o' => (K1.out _ (b_alloc (below1 _ _) (Nat.le_refl _) _)).1
  have hln : ln < 4096 := by omega
  have HG4 := Lib.hid (show (sz ≤ 4096 ∧ ¬ 4096 < sz ∧ ¬ sz ≤ (ln : Int)) ∨ (4096 < sz ∧ ¬ sz ≤ 4096 ∧ ¬ (4096 : Int) ≤ (ln : Int)) by omega)
  clear hm hg hll hi0
  rcases HG4.out with ⟨g1, g2, g3⟩ | ⟨g1, g2, g3⟩
  · have f7 : decide (sz ≤ (ln : Int)) = false := decide_eq_false g3
    clear g3
    go_enter Try.func12, Try.ntmps12
    go_upto_region 8 with fail
    go_quiet (fail)
    have m1 : ((w.drewN nq).alloc (.cells #[] 3)).cell? ⟨G, k * 7 + 4, none⟩ = some (.slice la ln lc) := (K1.out _ (b_alloc (below_drewR _ (Below.refl _ _)) (Nat.le_refl _) _)).1
    go_wp2_with (first
      | (refine wpList_append_lie2 (by rfl) (.tmp 82) (.tmp 84) 46 (by rfl) w.heap.size 3 i0 _ 1 8 Try.underlying46 HI.out hz0 hz1 hz2 rfl (by omega) _ ln (l.flatMap intCells) (by rfl) (owns_later hown6.out (below1 _ _)) _ w6.heap.size (w6.heap.size + 1) 1 [.int .i64 v] (by rfl) (one_lies (cs := #[.int .i64 v]) (heap_alloc_new w6 _) rfl) (in_one v) (ln + 1) rfl (by simp only [maxLen]; omega) (by omega) (by have := hb6.out.size; simp; omega) ?_
         intro ao7 cap7 w7 hown7' hgrow7' hob7'
         have hb7' : Below w.heap.size w w7 := Below.grown (b_alloc hb6.out (Nat.le_refl _) (.cells #[.int .i64 v] 3)) hgrow7' (by have := hb6.out.size; simp; omega) (fun q hq => (owns_block hown6.out q hq).1)
         obtain ⟨y1, y2⟩ := K1.out _ hb7'
         have hown7 := Lib.hid hown7'
         have hb7 := Lib.hid hb7'
         clear hown7' hgrow7' hob7' hb7')
      | (refine wpList_append_lie2 (by rfl) (.tmp 77) (.tmp 81) 46 (by rfl) w.heap.size 3 i0 _ 1 8 Try.underlying46 HI.out hz0 hz1 hz2 rfl (by omega) _ 0 [] (by rfl) (own_nil (Nat.le_refl _) (heap_alloc_new (w.drewN nq) _)) _ 0 w.heap.size ln (l.flatMap intCells) (by rfl) (HL.out _ (b_alloc (below_drewR _ (Below.refl _ _)) (Nat.le_refl _) _)) HX1.out ln (by omega) (by simp only [maxLen]; omega) (by omega) (by simp) ?_
         intro ao6 cap6 w6 hown6' hgrow6' hob6'
         have hb6' : Below w.heap.size w w6 := Below.grown (b_alloc (below_drewR nq (Below.refl _ w)) (Nat.le_refl _) (.cells #[] 3)) hgrow6' (by simp) (fun q hq => by cases hq; exact Nat.le_refl _)
         obtain ⟨z1, z2⟩ := K1.out _ hb6'
         have hown6 := Lib.hid hown6'
         have hb6 := Lib.hid hb6'
         clear hown6' hgrow6' hob6' hb6')
      | fail "no arm")
    go_ret
    first | exact ⟨rfl, _, _, _, hb7.out, hown7.out, rfl⟩ | exact ⟨rfl, _, hb7.out, _, _, hown7.out, rfl⟩
  · have f7 : decide ((4096 : Int) ≤ (ln : Int)) = false := decide_eq_false g3
    clear g3
    go_enter Try.func12, Try.ntmps12
    go_upto_region 8 with fail
    go_quiet (fail)
    have m1 : ((w.drewN nq).alloc (.cells #[] 3)).cell? ⟨G, k * 7 + 4, none⟩ = some (.slice la ln lc) := (K1.out _ (b_alloc (below_drewR _ (Below.refl _ _)) (Nat.le_refl _) _)).1
    go_wp2_with (first
      | (refine wpList_append_lie2 (by rfl) (.tmp 82) (.tmp 84) 46 (by rfl) w.heap.size 3 i0 _ 1 8 Try.underlying46 HI.out hz0 hz1 hz2 rfl (by omega) _ ln (l.flatMap intCells) (by rfl) (owns_later hown6.out (below1 _ _)) _ w6.heap.size (w6.heap.size + 1) 1 [.int .i64 v] (by rfl) (one_lies (cs := #[.int .i64 v]) (heap_alloc_new w6 _) rfl) (in_one v) (ln + 1) rfl (by simp only [maxLen]; omega) (by omega) (by have := hb6.out.size; simp; omega) ?_
         intro ao7 cap7 w7 hown7' hgrow7' hob7'
         have hb7' : Below w.heap.size w w7 := Below.grown (b_alloc hb6.out (Nat.le_refl _) (.cells #[.int .i64 v] 3)) hgrow7' (by have := hb6.out.size; simp; omega) (fun q hq => (owns_block hown6.out q hq).1)
         obtain ⟨y1, y2⟩ := K1.out _ hb7'
         have hown7 := Lib.hid hown7'
         have hb7 := Lib.hid hb7'
         clear hown7' hgrow7' hob7' hb7')
      | (refine wpList_append_lie2 (by rfl) (.tmp 77) (.tmp 81) 46 (by rfl) w.heap.size 3 i0 _ 1 8 Try.underlying46 HI.out hz0 hz1 hz2 rfl (by omega) _ 0 [] (by rfl) (own_nil (Nat.le_refl _) (heap_alloc_new (w.drewN nq) _)) _ 0 w.heap.size ln (l.flatMap intCells) (by rfl) (HL.out _ (b_alloc (below_drewR _ (Below.refl _ _)) (Nat.le_refl _) _)) HX1.out ln (by omega) (by simp only [maxLen]; omega) (by omega) (by simp) ?_
         intro ao6 cap6 w6 hown6' hgrow6' hob6'
         have hb6' : Below w.heap.size w w6 := Below.grown (b_alloc (below_drewR nq (Below.refl _ w)) (Nat.le_refl _) (.cells #[] 3)) hgrow6' (by simp) (fun q hq => by cases hq; exact Nat.le_refl _)
         obtain ⟨z1, z2⟩ := K1.out _ hb6'
         have hown6 := Lib.hid hown6'
         have hb6 := Lib.hid hb6'
         clear hown6' hgrow6' hob6' hb6')
      | fail "no arm")
    go_ret
    first | exact ⟨rfl, _, _, _, hb7.out, hown7.out, rfl⟩ | exact ⟨rfl, _, hb7.out, _, _, hown7.out, rfl⟩
end Go.Proofs.Ytoebbbghllkdgaa
