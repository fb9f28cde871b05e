/- What is told of one channel. -/
import Derived.Test.YtmkohnpdpcefgaaValidP
import Derived.Test.YtmkohnpdpcefgaaValidM
import Derived.Test.YtmkohnpdpcefgaaNames
import Derived.Test.YtmkohnpdpcefgaaFrameP
namespace Go.Proofs.Ytmkohnpdpcefgaa
open Go.ChangeShapes Go.WideShapes Go.ChangeAt Go.RowKit
set_option linter.unusedVariables false

set_option maxRecDepth 100000 in
set_option maxHeartbeats 4000000 in
theorem chanTell_any (fr mg : Int) (wa pa ca : Option Addr) (wn wc pn pc cn cc : Nat) (bc k : Nat) (x : Ch) (w : World) (lo hi : Nat) (cs : List Ch)
    (hbc : w.heap[bc]? = some (.cells #[.int .i64 fr, .int .i64 mg, .slice wa wn wc, .slice pa pn pc, .slice ca cn cc] 36 (0, 0)))
    (hcn : cs.length = cn) (hcs : Lies w lo hi (.slice ca cn cc) cn 4 (cs.flatMap Ch.cells)) (hhi : hi ≤ w.heap.size) (hx : cs[k]? = some x) (hp2 : pn ≤ 1000) :
    Calls Try.prog 63 #[.int .i64 k, .pointer (some ⟨bc, 0, none⟩)] w fun e w' => e = .returned (.int .i64 (tellC pn x)) ∧ Below w.heap.size w w' := by
  have hlt : k < cn := by rw [← hcn]; exact (List.getElem?_eq_some_iff.1 hx).1
  obtain ⟨a2, c2, ee, _, _, hc⟩ := hcs
  cases ee
  rcases hc with h0 | ⟨b, off, rfl, hb1, hb2, hc⟩
  · omega
  have hcl := lt_of_block hbc
  obtain ⟨s0, s1, s2, s3⟩ := Lies.ch hc hx
  obtain ⟨x0, x1, x2, x3⟩ := x
  simp only at s0 s1 s2 s3
  have l0 : (0 : Int) ≤ (k : Int) := by omega
  have l1 : (k : Int) < (cn : Int) := by omega
  have ks : ∀ W : World, Below (w.alloc (.cells #[.bool x0, .int .i64 x1, .int .i64 x2, .int .i64 x3] 77)).heap.size (w.alloc (.cells #[.bool x0, .int .i64 x1, .int .i64 x2, .int .i64 x3] 77)) W → (Below (w.alloc (.cells #[.bool x0, .int .i64 x1, .int .i64 x2, .int .i64 x3] 77)).heap.size (w.alloc (.cells #[.bool x0, .int .i64 x1, .int .i64 x2, .int .i64 x3] 77)) W ∧ W.cell? ⟨bc, 0, none⟩ = some (.int .i64 fr) ∧ W.cell? ⟨bc, 1, none⟩ = some (.int .i64 mg) ∧ W.cell? ⟨bc, 2, none⟩ = some (.slice wa wn wc) ∧ W.cell? ⟨bc, 3, none⟩ = some (.slice pa pn pc) ∧ W.cell? ⟨bc, 4, none⟩ = some (.slice (some ⟨b, off, none⟩) cn cc) ∧ W.cell? ⟨w.heap.size, 0, none⟩ = some (.bool x0) ∧ W.cell? ⟨w.heap.size, 1, none⟩ = some (.int .i64 x1) ∧ W.cell? ⟨w.heap.size, 2, none⟩ = some (.int .i64 x2) ∧ W.cell? ⟨w.heap.size, 3, none⟩ = some (.int .i64 x3)) := by
    intro W h
    have q := fun (i : Nat) (u : Value) hu => (h.cell (p := ⟨bc, i, none⟩) (by simp; omega)).trans ((World.cell?_alloc_lt _ _ _ (by show bc < _; omega)).trans (cell_in (j := i) (u := u) hbc hu))
    have r := fun (i : Nat) (u : Value) hu => (h.cell (p := ⟨w.heap.size, i, none⟩) (by simp)).trans (cell_in (j := i) (u := u) (heap_alloc_new w (.cells #[.bool x0, .int .i64 x1, .int .i64 x2, .int .i64 x3] 77)) hu)
    exact ⟨h, q 0 _ rfl, q 1 _ rfl, q 2 _ rfl, q 3 _ rfl, q 4 _ rfl, r 0 _ rfl, r 1 _ rfl, r 2 _ rfl, r 3 _ rfl⟩
  have k0 : w.cell? ⟨bc, 4, none⟩ = some (.slice (some ⟨b, off, none⟩) cn cc) := cell_in hbc rfl
  have cn2 : ∀ (W : World) (g : Nat), Below (w.alloc (.cells #[.bool x0, .int .i64 x1, .int .i64 x2, .int .i64 x3] 77)).heap.size (w.alloc (.cells #[.bool x0, .int .i64 x1, .int .i64 x2, .int .i64 x3] 77)) W → W.heap[g]? = some (.cells #[.int .i64 x2] 3 (0, 0)) → Calls Try.prog 62 #[.agg #[.int .i64 fr, .int .i64 mg, .slice wa wn wc, .slice pa pn pc, .slice (some ⟨b, off, none⟩) cn cc], .int .i64 x1, .slice (some ⟨g, 0, none⟩) 1 1] W fun e w' => e = .returned (.bool (namesB pn x1 [x2])) ∧ Below W.heap.size W w' := fun W g h hg =>
    names_any _ _ _ _ _ _ _ _ _ _ _ _ _ _ _ W g (g + 1) [x2] rfl (one_lies hg rfl) (lt_of_block hg) (by omega) hp2
  have KS := Lib.hid ks; have CN := Lib.hid cn2; have HB := Lib.hid (below1 w (.cells #[.bool x0, .int .i64 x1, .int .i64 x2, .int .i64 x3] 77))
  clear hc hx hbc hcn ks cn2
  cases hn : namesB pn x1 [x2] with
  | false =>
    have HR : Hid (tellC pn ⟨x0, x1, x2, x3⟩ = 25) := Lib.hid (tellC_names hn)
    have HN := Lib.hid hn; have HI : Hid True := Lib.hid trivial; clear hn
    go_enter Try.func63, Try.ntmps63
    go_wp2_with fail
    obtain ⟨_, k0, k1, k2, k3, k4, k5, k6, k7, k8⟩ := KS.out _ (Below.refl _ _)
    first | go_region_law (first
      | (go_simp; go_at_call 62; refine (CN.out _ _ (by first | exact (b_alloc (Below.refl _ _) (Nat.le_refl _) _).drew | exact b_alloc ((Below.refl _ _).drew) (Nat.le_refl _) _ | (go_split_ands; assumption)) (by first | (show (World.alloc _ _).heap[_]? = _; rw [heap_at, if_pos (by simp)]))).mono ?_; rintro e w3 ⟨rfl, hb3⟩; rw [HN.out]; have hbn : Below (w.alloc (.cells #[.bool x0, .int .i64 x1, .int .i64 x2, .int .i64 x3] 77)).heap.size (w.alloc (.cells #[.bool x0, .int .i64 x1, .int .i64 x2, .int .i64 x3] 77)) w3 := (by first | exact bel_then ((b_alloc (Below.refl _ _) (Nat.le_refl _) _).drew) (Nat.le_refl _) hb3 | exact bel_then (b_alloc ((Below.refl _ _).drew) (Nat.le_refl _) _) (Nat.le_refl _) hb3))) | fail
    all_goals go_wp2_with fail
    all_goals go_ret
    all_goals exact ⟨by rw [HR.out]; rfl, HB.out.trans (hbn.mono HB.out.size)⟩
  | true =>
    have HN := Lib.hid hn
    cases hi2 : inB x3 1 (mostV x0) with
    | false =>
      have HR : Hid (tellC pn ⟨x0, x1, x2, x3⟩ = 25) := Lib.hid (tellC_size hi2)
      have HI := Lib.hid hi2; clear hn hi2
      go_enter Try.func63, Try.ntmps63
      go_wp2_with fail
      obtain ⟨_, k0, k1, k2, k3, k4, k5, k6, k7, k8⟩ := KS.out _ (Below.refl _ _)
      go_region_held3 (fun W => Below (w.alloc (.cells #[.bool x0, .int .i64 x1, .int .i64 x2, .int .i64 x3] 77)).heap.size (w.alloc (.cells #[.bool x0, .int .i64 x1, .int .i64 x2, .int .i64 x3] 77)) W ∧ W.cell? ⟨bc, 0, none⟩ = some (.int .i64 fr) ∧ W.cell? ⟨bc, 1, none⟩ = some (.int .i64 mg) ∧ W.cell? ⟨bc, 2, none⟩ = some (.slice wa wn wc) ∧ W.cell? ⟨bc, 3, none⟩ = some (.slice pa pn pc) ∧ W.cell? ⟨bc, 4, none⟩ = some (.slice (some ⟨b, off, none⟩) cn cc) ∧ W.cell? ⟨w.heap.size, 0, none⟩ = some (.bool x0) ∧ W.cell? ⟨w.heap.size, 1, none⟩ = some (.int .i64 x1) ∧ W.cell? ⟨w.heap.size, 2, none⟩ = some (.int .i64 x2) ∧ W.cell? ⟨w.heap.size, 3, none⟩ = some (.int .i64 x3))
        (first | exact KS.out _ ((Below.refl _ _).drew) | exact KS.out _ ((b_alloc (Below.refl _ _) (Nat.le_refl _) _).drew) | exact KS.out _ (b_alloc ((Below.refl _ _).drew) (Nat.le_refl _) _) | exact KS.out _ (by assumption))
        (first
        | (go_at_call 62; refine (CN.out _ _ (by first | exact (b_alloc (Below.refl _ _) (Nat.le_refl _) _).drew | exact b_alloc ((Below.refl _ _).drew) (Nat.le_refl _) _ | (go_split_ands; assumption)) (by first | (show (World.alloc _ _).heap[_]? = _; rw [heap_at, if_pos (by simp)]))).mono ?_; rintro e w3 ⟨rfl, hb3⟩; rw [HN.out]; have hbn : Below (w.alloc (.cells #[.bool x0, .int .i64 x1, .int .i64 x2, .int .i64 x3] 77)).heap.size (w.alloc (.cells #[.bool x0, .int .i64 x1, .int .i64 x2, .int .i64 x3] 77)) w3 := (by first | exact bel_then ((b_alloc (Below.refl _ _) (Nat.le_refl _) _).drew) (Nat.le_refl _) hb3 | exact bel_then (b_alloc ((Below.refl _ _).drew) (Nat.le_refl _) _) (Nat.le_refl _) hb3))
        | (go_at_call 64; refine (mostSize_any _ _ _ _ _).mono ?_; rintro e w4 ⟨rfl, hb4⟩; have hbm : Below (w.alloc (.cells #[.bool x0, .int .i64 x1, .int .i64 x2, .int .i64 x3] 77)).heap.size (w.alloc (.cells #[.bool x0, .int .i64 x1, .int .i64 x2, .int .i64 x3] 77)) w4 := (by go_split_ands; exact bel_then (by assumption) (Nat.le_refl _) hb4))
        | (go_at_call 46; refine (within_any _ _ _ _).mono ?_; rintro e w5 ⟨rfl, rfl⟩; rw [HI.out]))
      go_wp2_with fail
      go_ret
      exact ⟨by rw [HR.out]; rfl, HB.out.trans (hbm.mono HB.out.size)⟩
    | true =>
      have HR : Hid (tellC pn ⟨x0, x1, x2, x3⟩ = 0) := Lib.hid (tellC_ok hn hi2)
      have HI := Lib.hid hi2; clear hn hi2
      go_enter Try.func63, Try.ntmps63
      go_wp2_with fail
      obtain ⟨_, k0, k1, k2, k3, k4, k5, k6, k7, k8⟩ := KS.out _ (Below.refl _ _)
      go_region_held3 (fun W => Below (w.alloc (.cells #[.bool x0, .int .i64 x1, .int .i64 x2, .int .i64 x3] 77)).heap.size (w.alloc (.cells #[.bool x0, .int .i64 x1, .int .i64 x2, .int .i64 x3] 77)) W ∧ W.cell? ⟨bc, 0, none⟩ = some (.int .i64 fr) ∧ W.cell? ⟨bc, 1, none⟩ = some (.int .i64 mg) ∧ W.cell? ⟨bc, 2, none⟩ = some (.slice wa wn wc) ∧ W.cell? ⟨bc, 3, none⟩ = some (.slice pa pn pc) ∧ W.cell? ⟨bc, 4, none⟩ = some (.slice (some ⟨b, off, none⟩) cn cc) ∧ W.cell? ⟨w.heap.size, 0, none⟩ = some (.bool x0) ∧ W.cell? ⟨w.heap.size, 1, none⟩ = some (.int .i64 x1) ∧ W.cell? ⟨w.heap.size, 2, none⟩ = some (.int .i64 x2) ∧ W.cell? ⟨w.heap.size, 3, none⟩ = some (.int .i64 x3))
        (first | exact KS.out _ ((Below.refl _ _).drew) | exact KS.out _ ((b_alloc (Below.refl _ _) (Nat.le_refl _) _).drew) | exact KS.out _ (b_alloc ((Below.refl _ _).drew) (Nat.le_refl _) _) | exact KS.out _ (by assumption))
        (first
        | (go_at_call 62; refine (CN.out _ _ (by first | exact (b_alloc (Below.refl _ _) (Nat.le_refl _) _).drew | exact b_alloc ((Below.refl _ _).drew) (Nat.le_refl _) _ | (go_split_ands; assumption)) (by first | (show (World.alloc _ _).heap[_]? = _; rw [heap_at, if_pos (by simp)]))).mono ?_; rintro e w3 ⟨rfl, hb3⟩; rw [HN.out]; have hbn : Below (w.alloc (.cells #[.bool x0, .int .i64 x1, .int .i64 x2, .int .i64 x3] 77)).heap.size (w.alloc (.cells #[.bool x0, .int .i64 x1, .int .i64 x2, .int .i64 x3] 77)) w3 := (by first | exact bel_then ((b_alloc (Below.refl _ _) (Nat.le_refl _) _).drew) (Nat.le_refl _) hb3 | exact bel_then (b_alloc ((Below.refl _ _).drew) (Nat.le_refl _) _) (Nat.le_refl _) hb3))
        | (go_at_call 64; refine (mostSize_any _ _ _ _ _).mono ?_; rintro e w4 ⟨rfl, hb4⟩; have hbm : Below (w.alloc (.cells #[.bool x0, .int .i64 x1, .int .i64 x2, .int .i64 x3] 77)).heap.size (w.alloc (.cells #[.bool x0, .int .i64 x1, .int .i64 x2, .int .i64 x3] 77)) w4 := (by go_split_ands; exact bel_then (by assumption) (Nat.le_refl _) hb4))
        | (go_at_call 46; refine (within_any _ _ _ _).mono ?_; rintro e w5 ⟨rfl, rfl⟩; rw [HI.out]))
      go_wp2_with fail
      go_ret
      exact ⟨by rw [HR.out]; rfl, HB.out.trans (hbm.mono HB.out.size)⟩
end Go.Proofs.Ytmkohnpdpcefgaa
