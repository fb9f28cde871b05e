/- The document's ledger. -/
import Derived.Test.YtikjahdnffklhaaLedgM
import Derived.Test.YtikjahdnffklhaaOwnS
import Derived.Test.YtikjahdnffklhaaGrow
import Derived.Lib.SliceRun
namespace Go.Proofs.Ytikjahdnffklhaa
open Go.ChangeShapes Go.WideShapes Go.ChangeAt Go.RowKit
set_option linter.unusedVariables false

/-- The document's ledger in memory: its blocks are R. -/
structure LRg (w : World) (rb : Nat) (R : Nat → Prop) (n : Int) (L : List Wn) : Prop where
  is : ∃ ao cap, w.heap[rb]? = some (.cells #[.int .i64 n, .slice ao L.length cap] 38 (0, 0)) ∧ w.ownsRow 0 32 3 (.slice ao L.length cap) L.length (L.flatMap Wn.cells) ∧ ∀ b, (Value.slice ao L.length cap).ownBlock = some b → R b ∧ b ≠ rb
  own : R rb
  lt : ∀ k, R k → k < w.heap.size
theorem LRg.keep {w w' : World} {rb : Nat} {R : Nat → Prop} {n : Int} {L : List Wn} (h : LRg w rb R n L) (hs : ∀ k, R k → w'.heap[k]? = w.heap[k]?) (hz : w.heap.size ≤ w'.heap.size) : LRg w' rb R n L := by
  obtain ⟨ao, cap, h1, h2, h3⟩ := h.is
  exact ⟨⟨ao, cap, (hs rb h.own).trans h1, owns_hold h2 ⟨hz, fun g hg => hs g (h3 g hg).1⟩, h3⟩, h.own, fun k hk => Nat.lt_of_lt_of_le (h.lt k hk) hz⟩
theorem LRg.later {w w' : World} {rb : Nat} {R : Nat → Prop} {n : Int} {L : List Wn} (h : LRg w rb R n L) (hb : Below w.heap.size w w') : LRg w' rb R n L := h.keep (fun k hk => hb.block k (h.lt k hk)) hb.size
theorem LRg.app {w w2 : World} {rb m : Nat} {R : Nat → Prop} {n : Int} {L : List Wn} {x : Wn} {ao ao2 : Option Addr} {cap cap2 : Nat} (h : LRg w rb R n L) (hbox : w.heap[rb]? = some (.cells #[.int .i64 n, .slice ao L.length cap] 38 (0, 0))) (hR : ∀ b, (Value.slice ao L.length cap).ownBlock = some b → R b ∧ b ≠ rb)
    (hm : m = L.length) (hown : w2.ownsRow 0 32 3 (.slice ao2 (m + 1) cap2) (m + 1) (L.flatMap Wn.cells ++ x.cells)) (hg : ∃ w1, Below w.heap.size w w1 ∧ w1.grownBy w2 (Value.slice ao L.length cap).ownBlock ∧ ((Value.slice ao2 (m + 1) cap2).ownBlock = (Value.slice ao L.length cap).ownBlock ∨ (Value.slice ao2 (m + 1) cap2).ownBlock = some w1.heap.size)) :
    LRg (w2.setCell ⟨rb, 1, none⟩ (.slice ao2 (m + 1) cap2)) rb (fun k => k = rb ∨ (Value.slice ao2 (m + 1) cap2).ownBlock = some k) n (L ++ [x]) ∧ GrowS R (fun k => k = rb ∨ (Value.slice ao2 (m + 1) cap2).ownBlock = some k) w (w2.setCell ⟨rb, 1, none⟩ (.slice ao2 (m + 1) cap2)) := by
  subst hm
  obtain ⟨w1, hb1, hgr, hblk⟩ := hg
  have hlt := h.lt rb h.own
  have s1 := hb1.size
  have s2 := hgr.size
  have hsame : ∀ k, k < w.heap.size → (Value.slice ao L.length cap).ownBlock ≠ some k → w2.heap[k]? = w.heap[k]? := fun k hk hne => (hgr.block k (by omega) (fun e => hne e.symm)).trans (hb1.block k hk)
  have hbox2 := (hsame rb hlt (fun e => (hR rb e).2 rfl)).trans hbox
  have hB : But rb w2 (w2.setCell ⟨rb, 1, none⟩ (.slice ao2 (L.length + 1) cap2)) := (But.refl rb w2).set 1 _
  have hz : (w2.setCell ⟨rb, 1, none⟩ (.slice ao2 (L.length + 1) cap2)).heap.size = w2.heap.size := by simp
  have hne : ∀ b, (Value.slice ao2 (L.length + 1) cap2).ownBlock = some b → b ≠ rb := fun b hb e => by
    rcases hblk with h1 | h1
    · exact (hR b (h1 ▸ hb)).2 e
    · have := h1.symm.trans hb; cases this; omega
  refine ⟨⟨⟨ao2, cap2, ?_, ?_, fun b hb => ?_⟩, .inl rfl, fun k hk => ?_⟩, ⟨hB.os.trans (hgr.os.trans hb1.os), hB.tape.trans (hgr.tape.trans hb1.tape), hB.output.trans (hgr.output.trans hb1.output), by rw [hz]; omega, fun k hk hS => ?_, fun k hk => ?_⟩⟩
  · rw [set_at hbox2, List.length_append]; rfl
  · have : (L ++ [x]).flatMap Wn.cells = L.flatMap Wn.cells ++ x.cells := by simp
    rw [this, List.length_append]
    exact owns_hold hown ⟨by rw [hz]; exact Nat.le_refl _, fun g hgb => hB.block g (by
      obtain ⟨_, cs, hc⟩ := owns_block hown g hgb
      exact lt_of_block hc) (hne g hgb)⟩
  · rw [List.length_append] at hb
    exact ⟨.inr hb, hne b hb⟩
  · rw [hz]
    rcases hk with rfl | hk
    · omega
    · obtain ⟨_, cs, hc⟩ := owns_block hown k hk
      exact lt_of_block hc
  · exact (hB.block k (by omega) (fun e => hS (e ▸ h.own))).trans (hsame k hk (fun e => hS (hR k e).1))
  · rcases hk with rfl | hk
    · exact .inl h.own
    · rcases hblk with h1 | h1
      · exact .inl (hR k (h1 ▸ hk)).1
      · have := h1.symm.trans hk; cases this; right; omega
theorem LRg.lies {w Y : World} {rb : Nat} {R : Nat → Prop} {n : Int} {L : List Wn} (h : LRg w rb R n L) {ao : Option Addr} {cap : Nat} (hY : Below w.heap.size w Y) (hown : w.ownsRow 0 32 3 (.slice ao L.length cap) L.length (L.flatMap Wn.cells)) : Lies Y 0 w.heap.size (.slice ao L.length cap) L.length 3 (L.flatMap Wn.cells) :=
  (Lies.of_owns hown).keep (SameIn.of_below hY (Nat.le_refl _))
theorem Try.infoOne15 : (Try.prog.info? 32).map (fun i => (i.zero, i.size, i.bytes)) = some (some (.agg #[.int .i64 0, .int .i64 0, .int .i64 0]), 3, 24) := by kernel_rfl
theorem acts_read {w : World} {a : Option Addr} {n c : Nat} {l : List Wn} (hn : l.length = n) (hl : Lies w 0 w.heap.size (.slice a n c) n 3 (l.flatMap Wn.cells)) : ∀ Y, Below w.heap.size w Y → ∀ i (hi : i < n), ∃ b off, a = some ⟨b, off, none⟩ ∧ Y.cell? ⟨b, off + i * 3, none⟩ = some (.int .i64 (l[i]'(by omega)).at_) ∧ Y.cell? ⟨b, off + i * 3 + 1, none⟩ = some (.int .i64 (l[i]'(by omega)).len) ∧ Y.cell? ⟨b, off + i * 3 + 2, none⟩ = some (.int .i64 (l[i]'(by omega)).part) ∧ b < w.heap.size := by
  intro Y hY i hi
  obtain ⟨a', c', e, _, _, hc⟩ := hl.keep (SameIn.of_below hY (Nat.le_refl _))
  cases e
  rcases hc with h0 | ⟨b, off, rfl, _, hb, hc⟩
  · omega
  · have hx : l[i]? = some l[i] := List.getElem?_eq_getElem (by omega)
    have f0 := hc _ _ (flat_at Wn.cells 3 (fun _ => rfl) l i 0 _ hx (by omega))
    have f1 := hc _ _ (flat_at Wn.cells 3 (fun _ => rfl) l i 1 _ hx (by omega))
    have f2 := hc _ _ (flat_at Wn.cells 3 (fun _ => rfl) l i 2 _ hx (by omega))
    exact ⟨b, off, rfl, f0, f1, f2, hb⟩
def partsV (parts : Int) : Int := min (max parts 0) 6
theorem partsV_bd (parts : Int) : 0 ≤ partsV parts ∧ partsV parts ≤ 6 := by unfold partsV; omega
set_option maxRecDepth 100000 in
set_option maxHeartbeats 2000000 in
theorem lrnew_any (parts : Int) (w : World) : Calls Try.prog 9 #[.int .i64 parts] w fun e w' => ∃ R, e = .returned (.pointer (some ⟨w.heap.size, 0, none⟩)) ∧ LRg w' w.heap.size R (partsV parts) [] ∧ (∀ k, R k → w.heap.size ≤ k) ∧ Below w.heap.size w w' := by
  obtain ⟨now, hnow⟩ : ∃ now, now = partsV parts := ⟨_, rfl⟩
  rw [← hnow]
  rcases (show (parts < 0 ∧ now = 0) ∨ (0 ≤ parts ∧ parts ≤ 6 ∧ now = parts) ∨ (6 < parts ∧ now = 6) by unfold partsV at hnow; omega) with ⟨g1, g3⟩ | ⟨g1, g2, g3⟩ | ⟨g1, g3⟩
  all_goals
    have G3 := Lib.hid g3
    clear hnow g3
    go_enter Try.func9, Try.ntmps9
    go_wp2_with fail
    go_ret
    rw [G3.out]
    exact ⟨fun k => k = w.heap.size, rfl, ⟨⟨none, 0, heap_alloc_new _ _, ⟨rfl, .inl ⟨rfl, rfl⟩⟩, fun b hb => by cases hb⟩, rfl, fun k hk => by rw [hk]; simp⟩, fun k hk => by rw [hk]; exact Nat.le_refl _, below1 _ _⟩
set_option maxRecDepth 100000 in
set_option maxHeartbeats 4000000 in
theorem lrcharge_any (w : World) (rb : Nat) (R : Nat → Prop) (n : Int) (L : List Wn) (k p q : Int) (h : LRg w rb R n L) (hl : L.length ≤ 1000) :
    Calls Try.prog 12 #[.pointer (some ⟨rb, 0, none⟩), .int .i64 k, .int .i64 p, .int .i64 q] w fun e w' => ∃ R', e = .returned (.int .i64 (errV n k p q)) ∧ LRg w' rb R' n (chV n L k p q) ∧ GrowS R R' w w' := by
  obtain ⟨ao, cap, h1, h2, h3⟩ := h.is
  have H := Lib.hid h
  obtain ⟨m, hm⟩ : ∃ m, m = L.length := ⟨_, rfl⟩
  rw [← hm] at h1 h2 h3 hl
  have b0 : w.cell? ⟨rb, 0, none⟩ = some (.int .i64 n) := cell_in h1 rfl
  have b1 : w.cell? ⟨rb, 1, none⟩ = some (.slice ao m cap) := cell_in h1 rfl
  have H1 := Lib.hid h1
  have H2 := Lib.hid h2
  have H3 := Lib.hid h3
  have HM := Lib.hid hm
  by_cases c0 : k < 0
  · have HE : Hid (okC n k p q = false) := Lib.hid (okC_f (by omega))
    have t0 : decide (k < 0) = true := decide_eq_true c0
    have HN := Lib.hid (ch_no (L := L) HE.out)
    rw [HN.out.1, HN.out.2]
    clear h h1 h2 h3 hm
    go_enter Try.func12, Try.ntmps12
    go_wp2_with fail
    go_ret
    first | exact ⟨R, rfl, H.out, GrowS.of_below (Below.refl _ _)⟩ | exact ⟨rfl, R, H.out, GrowS.of_below (Below.refl _ _)⟩
  have t0 : decide (k < 0) = false := decide_eq_false c0
  by_cases c1 : 4 < k
  · have HE : Hid (okC n k p q = false) := Lib.hid (okC_f (by omega))
    have t1 : decide (4 < k) = true := decide_eq_true c1
    have HN := Lib.hid (ch_no (L := L) HE.out)
    rw [HN.out.1, HN.out.2]
    clear h h1 h2 h3 hm
    go_enter Try.func12, Try.ntmps12
    go_wp2_with fail
    go_ret
    first | exact ⟨R, rfl, H.out, GrowS.of_below (Below.refl _ _)⟩ | exact ⟨rfl, R, H.out, GrowS.of_below (Below.refl _ _)⟩
  have t1 : decide (4 < k) = false := decide_eq_false c1
  by_cases c2 : k = 4
  · have HE : Hid (okC n k p q = true) := Lib.hid (okC_t ⟨⟨by omega, by omega⟩, .inl c2⟩)
    have HK4 := Lib.hid c2
    have t2 : (k == 4) = true := by simpa using c2
    clear c0 c1 c2
    have HN := Lib.hid (ch_yes (L := L) HE.out)
    rw [HN.out.1, HN.out.2]
    have HX : Hid (entC k p q = ⟨4, (-1), (-1)⟩) := Lib.hid (by unfold entC; exact if_pos HK4.out)
    rw [HX.out]
    have HV1 : Hid (Below w.heap.size w (w.alloc (.cells #[.int .i64 4, .int .i64 (-1), .int .i64 (-1)] 32))) := Lib.hid (below1 _ _)
    have HO1 : Hid ((w.alloc (.cells #[.int .i64 4, .int .i64 (-1), .int .i64 (-1)] 32)).ownsRow 0 32 3 (.slice ao m cap) m (L.flatMap Wn.cells)) := Lib.hid (owns_later H2.out (below1 _ _))
    have HL1 : Hid (Lies (w.alloc (.cells #[.int .i64 4, .int .i64 (-1), .int .i64 (-1)] 32)) w.heap.size (w.heap.size + 1) (.slice (some ⟨w.heap.size, 0, none⟩) 1 1) 1 3 [.int .i64 4, .int .i64 (-1), .int .i64 (-1)]) := Lib.hid (one_lies (heap_alloc_new _ _) rfl)
    have HK1 := Lib.hid (show ∀ w2 : World, (w.alloc (.cells #[.int .i64 4, .int .i64 (-1), .int .i64 (-1)] 32)).grownBy w2 (Value.slice ao m cap).ownBlock → (∃ u, w2.cell? ⟨rb, 1, none⟩ = some u) ∧ w2.frozen? ⟨rb, 1, none⟩ = false from fun w2 hg => by
      have hb := (hg.block rb (by have := H.out.lt rb H.out.own; simp; omega) (fun e => (H3.out rb e.symm).2 rfl)).trans ((Below.heap_alloc _ _ _ (H.out.lt rb H.out.own)).trans H1.out)
      exact ⟨⟨_, cell_in hb rfl⟩, free_in hb _⟩)
    obtain ⟨i0, hi, hz0, hz1, hz2⟩ := info_parts Try.infoOne15
    have HI := Lib.hid hi
    have e1 : (w.alloc (.cells #[.int .i64 4, .int .i64 (-1), .int .i64 (-1)] 32)).cell? ⟨rb, 1, none⟩ = some (.slice ao m cap) := Lib.cell?_alloc_some _ b1
    clear h h1 h2 h3 hm hi
    go_enter Try.func12, Try.ntmps12
    go_wp2_with (first
      | (refine wpList_append_lie2 (by rfl) (.tmp 21) (.tmp 23) 22 (by rfl) 0 32 i0 _ 3 24 Try.underlying22 HI.out hz0 hz1 hz2 rfl (by omega) (.slice ao m cap) m (L.flatMap Wn.cells) (by rfl) HO1.out (.slice (some ⟨w.heap.size, 0, none⟩) 1 1) w.heap.size (w.heap.size + 1) 1 [.int .i64 4, .int .i64 (-1), .int .i64 (-1)] (by rfl) HL1.out (by intro u hu; simp at hu; rcases hu with rfl | rfl | rfl <;> rfl) (m + 1) rfl (by simp only [maxLen]; omega) (by omega) (Nat.zero_le _) ?_
         intro ao2 cap2 w2 hown2 hgrow2 hblk2
         obtain ⟨⟨u2, z0⟩, z1⟩ := HK1.out _ hgrow2
         have HO2 := Lib.hid hown2
         have HG2 := Lib.hid (And.intro hgrow2 hblk2)
         clear hown2 hgrow2 hblk2)
      | fail "no arm")
    go_ret
    obtain ⟨f1, f2⟩ := LRg.app (x := ⟨4, (-1), (-1)⟩) H.out (by rw [← HM.out]; exact H1.out) (by rw [← HM.out]; exact H3.out) HM.out HO2.out ⟨_, HV1.out, by rw [← HM.out]; exact HG2.out⟩
    first | exact ⟨_, rfl, f1, f2⟩ | exact ⟨rfl, _, f1, f2⟩
  have t2 : (k == 4) = false := by simpa using c2
  by_cases c3 : p < 0
  · have HE : Hid (okC n k p q = false) := Lib.hid (okC_f (by omega))
    have t3 : decide (p < 0) = true := decide_eq_true c3
    have HN := Lib.hid (ch_no (L := L) HE.out)
    rw [HN.out.1, HN.out.2]
    clear h h1 h2 h3 hm
    go_enter Try.func12, Try.ntmps12
    go_wp2_with fail
    go_ret
    first | exact ⟨R, rfl, H.out, GrowS.of_below (Below.refl _ _)⟩ | exact ⟨rfl, R, H.out, GrowS.of_below (Below.refl _ _)⟩
  have t3 : decide (p < 0) = false := decide_eq_false c3
  by_cases c4 : n ≤ p
  · have HE : Hid (okC n k p q = false) := Lib.hid (okC_f (by omega))
    have t4 : decide (n ≤ p) = true := decide_eq_true c4
    have HN := Lib.hid (ch_no (L := L) HE.out)
    rw [HN.out.1, HN.out.2]
    clear h h1 h2 h3 hm
    go_enter Try.func12, Try.ntmps12
    go_wp2_with fail
    go_ret
    first | exact ⟨R, rfl, H.out, GrowS.of_below (Below.refl _ _)⟩ | exact ⟨rfl, R, H.out, GrowS.of_below (Below.refl _ _)⟩
  have t4 : decide (n ≤ p) = false := decide_eq_false c4
  by_cases c5 : k = 1
  · subst c5
    by_cases c6 : q < 0
    · have HE : Hid (okC n 1 p q = false) := Lib.hid (okC_f (by omega))
      have t6 : decide (q < 0) = true := decide_eq_true c6
      have HN := Lib.hid (ch_no (L := L) HE.out)
      rw [HN.out.1, HN.out.2]
      clear h h1 h2 h3 hm
      go_enter Try.func12, Try.ntmps12
      go_wp2_with fail
      go_ret
      first | exact ⟨R, rfl, H.out, GrowS.of_below (Below.refl _ _)⟩ | exact ⟨rfl, R, H.out, GrowS.of_below (Below.refl _ _)⟩
    have t6 : decide (q < 0) = false := decide_eq_false c6
    by_cases c7 : n ≤ q
    · have HE : Hid (okC n 1 p q = false) := Lib.hid (okC_f (by omega))
      have t7 : decide (n ≤ q) = true := decide_eq_true c7
      have HN := Lib.hid (ch_no (L := L) HE.out)
      rw [HN.out.1, HN.out.2]
      clear h h1 h2 h3 hm
      go_enter Try.func12, Try.ntmps12
      go_wp2_with fail
      go_ret
      first | exact ⟨R, rfl, H.out, GrowS.of_below (Below.refl _ _)⟩ | exact ⟨rfl, R, H.out, GrowS.of_below (Below.refl _ _)⟩
    have t7 : decide (n ≤ q) = false := decide_eq_false c7
    by_cases c8 : q = p
    · have HE : Hid (okC n 1 p q = false) := Lib.hid (okC_f (by omega))
      have t8 : (q == p) = true := by simpa using c8
      have HN := Lib.hid (ch_no (L := L) HE.out)
      rw [HN.out.1, HN.out.2]
      clear h h1 h2 h3 hm
      go_enter Try.func12, Try.ntmps12
      go_wp2_with fail
      go_ret
      first | exact ⟨R, rfl, H.out, GrowS.of_below (Below.refl _ _)⟩ | exact ⟨rfl, R, H.out, GrowS.of_below (Below.refl _ _)⟩
    have t8 : (q == p) = false := by simpa using c8
    have HE : Hid (okC n 1 p q = true) := Lib.hid (okC_t ⟨by omega, .inr ⟨by omega, .inr (by omega)⟩⟩)
    clear c0 c1 c2 c3 c4 c6 c7 c8
    have HN := Lib.hid (ch_yes (L := L) HE.out)
    rw [HN.out.1, HN.out.2]
    have HX : Hid (entC 1 p q = ⟨1, p, q⟩) := Lib.hid (by unfold entC; rfl)
    rw [HX.out]
    have HV1 : Hid (Below w.heap.size w (w.alloc (.cells #[.int .i64 1, .int .i64 p, .int .i64 q] 32))) := Lib.hid (below1 _ _)
    have HO1 : Hid ((w.alloc (.cells #[.int .i64 1, .int .i64 p, .int .i64 q] 32)).ownsRow 0 32 3 (.slice ao m cap) m (L.flatMap Wn.cells)) := Lib.hid (owns_later H2.out (below1 _ _))
    have HL1 : Hid (Lies (w.alloc (.cells #[.int .i64 1, .int .i64 p, .int .i64 q] 32)) w.heap.size (w.heap.size + 1) (.slice (some ⟨w.heap.size, 0, none⟩) 1 1) 1 3 [.int .i64 1, .int .i64 p, .int .i64 q]) := Lib.hid (one_lies (heap_alloc_new _ _) rfl)
    have HK1 := Lib.hid (show ∀ w2 : World, (w.alloc (.cells #[.int .i64 1, .int .i64 p, .int .i64 q] 32)).grownBy w2 (Value.slice ao m cap).ownBlock → (∃ u, w2.cell? ⟨rb, 1, none⟩ = some u) ∧ w2.frozen? ⟨rb, 1, none⟩ = false from fun w2 hg => by
      have hb := (hg.block rb (by have := H.out.lt rb H.out.own; simp; omega) (fun e => (H3.out rb e.symm).2 rfl)).trans ((Below.heap_alloc _ _ _ (H.out.lt rb H.out.own)).trans H1.out)
      exact ⟨⟨_, cell_in hb rfl⟩, free_in hb _⟩)
    obtain ⟨i0, hi, hz0, hz1, hz2⟩ := info_parts Try.infoOne15
    have HI := Lib.hid hi
    have e1 : (w.alloc (.cells #[.int .i64 1, .int .i64 p, .int .i64 q] 32)).cell? ⟨rb, 1, none⟩ = some (.slice ao m cap) := Lib.cell?_alloc_some _ b1
    clear h h1 h2 h3 hm hi
    go_enter Try.func12, Try.ntmps12
    go_wp2_with (first
      | (refine wpList_append_lie2 (by rfl) (.tmp 64) (.tmp 69) 22 (by rfl) 0 32 i0 _ 3 24 Try.underlying22 HI.out hz0 hz1 hz2 rfl (by omega) (.slice ao m cap) m (L.flatMap Wn.cells) (by rfl) HO1.out (.slice (some ⟨w.heap.size, 0, none⟩) 1 1) w.heap.size (w.heap.size + 1) 1 [.int .i64 1, .int .i64 p, .int .i64 q] (by rfl) HL1.out (by intro u hu; simp at hu; rcases hu with rfl | rfl | rfl <;> rfl) (m + 1) rfl (by simp only [maxLen]; omega) (by omega) (Nat.zero_le _) ?_
         intro ao2 cap2 w2 hown2 hgrow2 hblk2
         obtain ⟨⟨u2, z0⟩, z1⟩ := HK1.out _ hgrow2
         have HO2 := Lib.hid hown2
         have HG2 := Lib.hid (And.intro hgrow2 hblk2)
         clear hown2 hgrow2 hblk2)
      | fail "no arm")
    go_ret
    obtain ⟨f1, f2⟩ := LRg.app (x := ⟨1, p, q⟩) H.out (by rw [← HM.out]; exact H1.out) (by rw [← HM.out]; exact H3.out) HM.out HO2.out ⟨_, HV1.out, by rw [← HM.out]; exact HG2.out⟩
    first | exact ⟨_, rfl, f1, f2⟩ | exact ⟨rfl, _, f1, f2⟩
  have t5 : (k == 1) = false := by simpa using c5
  have HE : Hid (okC n k p q = true) := Lib.hid (okC_t ⟨by omega, .inr ⟨by omega, .inl c5⟩⟩)
  have HK5 := Lib.hid (And.intro c2 c5)
  clear c0 c1 c2 c3 c4 c5
  have HN := Lib.hid (ch_yes (L := L) HE.out)
  rw [HN.out.1, HN.out.2]
  have HX : Hid (entC k p q = ⟨k, p, (-1)⟩) := Lib.hid (by unfold entC; rw [if_neg HK5.out.1, if_neg HK5.out.2])
  rw [HX.out]
  have HV1 : Hid (Below w.heap.size w (w.alloc (.cells #[.int .i64 k, .int .i64 p, .int .i64 (-1)] 32))) := Lib.hid (below1 _ _)
  have HO1 : Hid ((w.alloc (.cells #[.int .i64 k, .int .i64 p, .int .i64 (-1)] 32)).ownsRow 0 32 3 (.slice ao m cap) m (L.flatMap Wn.cells)) := Lib.hid (owns_later H2.out (below1 _ _))
  have HL1 : Hid (Lies (w.alloc (.cells #[.int .i64 k, .int .i64 p, .int .i64 (-1)] 32)) w.heap.size (w.heap.size + 1) (.slice (some ⟨w.heap.size, 0, none⟩) 1 1) 1 3 [.int .i64 k, .int .i64 p, .int .i64 (-1)]) := Lib.hid (one_lies (heap_alloc_new _ _) rfl)
  have HK1 := Lib.hid (show ∀ w2 : World, (w.alloc (.cells #[.int .i64 k, .int .i64 p, .int .i64 (-1)] 32)).grownBy w2 (Value.slice ao m cap).ownBlock → (∃ u, w2.cell? ⟨rb, 1, none⟩ = some u) ∧ w2.frozen? ⟨rb, 1, none⟩ = false from fun w2 hg => by
    have hb := (hg.block rb (by have := H.out.lt rb H.out.own; simp; omega) (fun e => (H3.out rb e.symm).2 rfl)).trans ((Below.heap_alloc _ _ _ (H.out.lt rb H.out.own)).trans H1.out)
    exact ⟨⟨_, cell_in hb rfl⟩, free_in hb _⟩)
  obtain ⟨i0, hi, hz0, hz1, hz2⟩ := info_parts Try.infoOne15
  have HI := Lib.hid hi
  have e1 : (w.alloc (.cells #[.int .i64 k, .int .i64 p, .int .i64 (-1)] 32)).cell? ⟨rb, 1, none⟩ = some (.slice ao m cap) := Lib.cell?_alloc_some _ b1
  clear h h1 h2 h3 hm hi
  go_enter Try.func12, Try.ntmps12
  go_wp2_with (first
    | (refine wpList_append_lie2 (by rfl) (.tmp 64) (.tmp 69) 22 (by rfl) 0 32 i0 _ 3 24 Try.underlying22 HI.out hz0 hz1 hz2 rfl (by omega) (.slice ao m cap) m (L.flatMap Wn.cells) (by rfl) HO1.out (.slice (some ⟨w.heap.size, 0, none⟩) 1 1) w.heap.size (w.heap.size + 1) 1 [.int .i64 k, .int .i64 p, .int .i64 (-1)] (by rfl) HL1.out (by intro u hu; simp at hu; rcases hu with rfl | rfl | rfl <;> rfl) (m + 1) rfl (by simp only [maxLen]; omega) (by omega) (Nat.zero_le _) ?_
       intro ao2 cap2 w2 hown2 hgrow2 hblk2
       obtain ⟨⟨u2, z0⟩, z1⟩ := HK1.out _ hgrow2
       have HO2 := Lib.hid hown2
       have HG2 := Lib.hid (And.intro hgrow2 hblk2)
       clear hown2 hgrow2 hblk2)
    | fail "no arm")
  go_ret
  obtain ⟨f1, f2⟩ := LRg.app (x := ⟨k, p, (-1)⟩) H.out (by rw [← HM.out]; exact H1.out) (by rw [← HM.out]; exact H3.out) HM.out HO2.out ⟨_, HV1.out, by rw [← HM.out]; exact HG2.out⟩
  first | exact ⟨_, rfl, f1, f2⟩ | exact ⟨rfl, _, f1, f2⟩
set_option maxRecDepth 100000 in
set_option maxHeartbeats 4000000 in
theorem lrcount_any (w : World) (rb : Nat) (R : Nat → Prop) (n : Int) (L : List Wn) (h : LRg w rb R n L) (hl : L.length ≤ 1000) (kd p q : Int) :
    Calls Try.prog 13 #[.pointer (some ⟨rb, 0, none⟩), .int .i64 kd, .int .i64 p, .int .i64 q] w fun e w' => e = .returned (.int .i64 (cntV L kd p q : Nat)) ∧ Below w.heap.size w w' := by
  obtain ⟨ao, cap, h1, h2, h3⟩ := h.is
  have KR : Hid (∀ Y, Below w.heap.size w Y → Y.cell? ⟨rb, 1, none⟩ = some (.slice ao L.length cap)) := Lib.hid (fun Y hY => cell_in ((hY.block rb (h.lt rb h.own)).trans h1) rfl)
  have KA := Lib.hid (acts_read (l := L) rfl ((Lies.of_owns h2)))
  have hrb := h.lt rb h.own
  obtain ⟨m, hm⟩ : ∃ m, m = L.length := ⟨_, rfl⟩
  have HM := Lib.hid hm
  rw [← hm] at KR hl
  clear h h1 h2 h3 hm
  go_enter Try.func13, Try.ntmps13
  go_wp2_with fail
  go_loopw [9, 10] (fun s9 s10 wr => ∃ k : Nat, k ≤ m ∧ s9 = .int .i64 (cntV (L.take k) kd p q : Nat) ∧ s10 = .int .i64 k ∧ Hid (Below w.heap.size w wr)) (fun _ s _ => m - (intOf s).toNat)
  case atStart => exact ⟨0, Nat.zero_le _, rfl, rfl, Lib.hid (Below.refl _ _)⟩
  case round =>
    obtain ⟨k, hk, rfl, rfl, HB⟩ := hrel
    have r1 := KR.out _ HB.out
    by_cases hlt : k < m
    · have d0 : decide ((k : Int) < (m : Int)) = true := decide_eq_true (by omega)
      have d1 : (0 : Int) ≤ (k : Int) := by omega
      have d2 : (k : Int) < (m : Int) := by omega
      have hkL : k < L.length := by have := HM.out; omega
      obtain ⟨b, off, rfl, c0, c1, c2, hb⟩ := KA.out wr HB.out k hkL
      obtain ⟨x, hx⟩ : ∃ x, x = L[k] := ⟨_, rfl⟩
      rw [← hx] at c0 c1 c2
      have HN : Hid (cntV (L.take (k + 1)) kd p q = cntV (L.take k) kd p q + (if cntB kd p q x = true then 1 else 0)) := Lib.hid (by
        rw [List.take_add_one, List.getElem?_eq_getElem hkL, ← hx]
        exact cntV_snoc _ _ _ _ _)
      have hcl := cntV_le (L.take k) kd p q
      have hcl2 : (L.take k).length ≤ k := List.length_take_le _ _
      obtain ⟨g, hg⟩ : ∃ g, g = cntV (L.take k) kd p q := ⟨_, rfl⟩
      rw [← hg] at hcl HN ⊢
      have hgk : g ≤ 1000 := by omega
      clear hg hcl hcl2
      obtain ⟨xk, xp, xq⟩ := x
      dsimp only at c0 c1 c2
      by_cases a0 : xk = kd
      · have f0 : (xk == kd) = true := by simpa using a0
        by_cases a1 : p = -2
        · have f1 : (p == -2) = true := by simpa using a1
          by_cases a2 : q = -2
          · have f2 : (q == -2) = true := by simpa using a2
            have HT : Hid (cntB kd p q ⟨xk, xp, xq⟩ = true) := Lib.hid (by unfold cntB; simp [*])
            clear hx
            go_wp2_with fail
            go_roundw
            case rel => exact ⟨k + 1, by omega, by rw [HN.out, HT.out]; go_num, by go_num, Lib.hid (b_alloc HB.out (Nat.le_refl _) _)⟩
            case measure => simp [intOf]; omega
          · have f2 : (q == -2) = false := by simpa using a2
            by_cases a3 : xq = q
            · have f3 : (xq == q) = true := by simpa using a3
              have HT : Hid (cntB kd p q ⟨xk, xp, xq⟩ = true) := Lib.hid (by unfold cntB; simp [*])
              clear hx
              go_wp2_with fail
              go_roundw
              case rel => exact ⟨k + 1, by omega, by rw [HN.out, HT.out]; go_num, by go_num, Lib.hid (b_alloc HB.out (Nat.le_refl _) _)⟩
              case measure => simp [intOf]; omega
            · have f3 : (xq == q) = false := by simpa using a3
              have HT : Hid (cntB kd p q ⟨xk, xp, xq⟩ = false) := Lib.hid (by unfold cntB; simp [*])
              clear hx
              go_wp2_with fail
              go_roundw
              case rel => exact ⟨k + 1, by omega, by rw [HN.out, HT.out]; rfl, by go_num, Lib.hid (b_alloc HB.out (Nat.le_refl _) _)⟩
              case measure => simp [intOf]; omega
        · have f1 : (p == -2) = false := by simpa using a1
          by_cases a4 : xp = p
          · have f4 : (xp == p) = true := by simpa using a4
            by_cases a2 : q = -2
            · have f2 : (q == -2) = true := by simpa using a2
              have HT : Hid (cntB kd p q ⟨xk, xp, xq⟩ = true) := Lib.hid (by unfold cntB; simp [*])
              clear hx
              go_wp2_with fail
              go_roundw
              case rel => exact ⟨k + 1, by omega, by rw [HN.out, HT.out]; go_num, by go_num, Lib.hid (b_alloc HB.out (Nat.le_refl _) _)⟩
              case measure => simp [intOf]; omega
            · have f2 : (q == -2) = false := by simpa using a2
              by_cases a3 : xq = q
              · have f3 : (xq == q) = true := by simpa using a3
                have HT : Hid (cntB kd p q ⟨xk, xp, xq⟩ = true) := Lib.hid (by unfold cntB; simp [*])
                clear hx
                go_wp2_with fail
                go_roundw
                case rel => exact ⟨k + 1, by omega, by rw [HN.out, HT.out]; go_num, by go_num, Lib.hid (b_alloc HB.out (Nat.le_refl _) _)⟩
                case measure => simp [intOf]; omega
              · have f3 : (xq == q) = false := by simpa using a3
                have HT : Hid (cntB kd p q ⟨xk, xp, xq⟩ = false) := Lib.hid (by unfold cntB; simp [*])
                clear hx
                go_wp2_with fail
                go_roundw
                case rel => exact ⟨k + 1, by omega, by rw [HN.out, HT.out]; rfl, by go_num, Lib.hid (b_alloc HB.out (Nat.le_refl _) _)⟩
                case measure => simp [intOf]; omega
          · have f4 : (xp == p) = false := by simpa using a4
            have HT : Hid (cntB kd p q ⟨xk, xp, xq⟩ = false) := Lib.hid (by unfold cntB; simp [*])
            clear hx
            go_wp2_with fail
            go_roundw
            case rel => exact ⟨k + 1, by omega, by rw [HN.out, HT.out]; rfl, by go_num, Lib.hid (b_alloc HB.out (Nat.le_refl _) _)⟩
            case measure => simp [intOf]; omega
      · have f0 : (xk == kd) = false := by simpa using a0
        have HT : Hid (cntB kd p q ⟨xk, xp, xq⟩ = false) := Lib.hid (by unfold cntB; simp [*])
        clear hx
        go_wp2_with fail
        go_roundw
        case rel => exact ⟨k + 1, by omega, by rw [HN.out, HT.out]; rfl, by go_num, Lib.hid (b_alloc HB.out (Nat.le_refl _) _)⟩
        case measure => simp [intOf]; omega
    · have d0 : decide ((k : Int) < (m : Int)) = false := decide_eq_false (by omega)
      have HKE : Hid (k = m) := Lib.hid (by omega)
      go_wp2_with fail
      go_ret
      exact ⟨by rw [List.take_of_length_le (by have := HM.out; have := HKE.out; omega)]; rfl, HB.out⟩
end Go.Proofs.Ytikjahdnffklhaa
