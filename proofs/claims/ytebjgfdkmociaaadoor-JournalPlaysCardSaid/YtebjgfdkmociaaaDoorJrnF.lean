/- The program's log: Of. -/
import Derived.Test.YtebjgfdkmociaaaDoorJrnP
import Derived.Test.YtebjgfdkmociaaaDoorJrnV
namespace Go.Proofs.YtebjgfdkmociaaaDoor
open Go.ChangeShapes Go.WideShapes Go.ChangeAt Go.RowKit
set_option linter.unusedVariables false

theorem cont_sort (ks : List Int) (x : Int) : (ks.mergeSort fun a b => decide (a ≤ b)).contains x = ks.contains x := by
  rw [Bool.eq_iff_iff, List.contains_iff_mem, List.contains_iff_mem]
  exact (List.mergeSort_perm _ _).mem_iff
theorem sorted_le (ks : List Int) : (ks.mergeSort fun a b => decide (a ≤ b)).Pairwise (· ≤ ·) :=
  (List.pairwise_mergeSort (le := fun a b => decide (a ≤ b)) (fun a b c h1 h2 => by simp only [decide_eq_true_eq] at *; omega) (fun a b => by simp; omega) ks).imp (fun {a b} h => by simpa using h)
set_option maxRecDepth 100000 in
set_option maxHeartbeats 2000000 in
theorem bsJ_nil (w : World) (x : Int) : Calls Tryd.prog 25 #[.slice none 0 0, .int .i64 x] w fun e w' => e = .returned (.tuple #[.int .i64 0, .bool false]) ∧ ∃ q, w' = w.drewN q := by
  go_enter Tryd.func25, Tryd.ntmps25
  go_wp2
  go_loopw [7, 8] (fun s7 s8 wr => s7 = .int .i64 0 ∧ s8 = .int .i64 0 ∧ w = wr) (fun _ _ _ => 0)
  case atStart => exact ⟨rfl, rfl, rfl⟩
  case round =>
    obtain ⟨rfl, rfl, rfl⟩ := hrel
    go_wp2
    go_ret2
    exact ⟨rfl, 0, rfl⟩
theorem bsJ_any (w : World) (base : Nat) (v : Value) (n : Nat) (ks : List Int) (x : Int) (hn : ks.length = n) (hsm : n ≤ 100000) (h : w.ownsRow base 3 1 v n ((ks.mergeSort fun a b => decide (a ≤ b)).map (Value.int .i64))) :
    Calls Tryd.prog 25 #[v, .int .i64 x] w fun e w' => ∃ i : Int, e = .returned (.tuple #[.int .i64 i, .bool (ks.contains x)]) ∧ ∃ q, w' = w.drewN q := by
  rcases h.2 with ⟨rfl, h0⟩ | ⟨g, c', cur, rfl, hb, hg, a1, a2, a3, a4⟩
  · have : ks = [] := List.eq_nil_of_length_eq_zero (by omega)
    subst this
    refine (bsJ_nil w x).mono ?_
    rintro e w' ⟨rfl, hq⟩
    exact ⟨0, rfl, hq⟩
  · have hl : (ks.mergeSort fun a b => decide (a ≤ b)).length = n := by rw [List.length_mergeSort, hn]
    obtain ⟨zs, hzs⟩ : ∃ zs, zs = ks.mergeSort fun a b => decide (a ≤ b) := ⟨_, rfl⟩
    have hso : (zs.take n).Pairwise (· ≤ ·) := by rw [hzs, List.take_of_length_le (by omega)]; exact sorted_le ks
    have hco : (zs.take n).contains x = ks.contains x := by rw [hzs, List.take_of_length_le (by omega)]; exact cont_sort ks x
    rw [← hzs] at hl a4
    refine (Tryd.bs_any g 0 n c' zs x w (by omega) (by omega) (fun j hj => ?_) hso).mono ?_
    · rw [Nat.zero_add]
      refine cell_in hg ?_
      have : (zs.map (Value.int .i64))[j]? = some (.int .i64 (zs.getD j 0)) := by rw [List.getElem?_map, List.getD_eq_getElem?_getD, List.getElem?_eq_getElem hj]; rfl
      rw [← a4, List.getElem?_take_of_lt (by omega)] at this
      simpa using this
    · rintro e w' ⟨rfl, hq⟩
      exact ⟨_, by rw [hco], hq⟩
theorem owns_lower {w : World} {b1 b2 e sz : Nat} {v : Value} {n : Nat} {xs : List Value} (h : w.ownsRow b1 e sz v n xs) (hb : b2 ≤ b1) : w.ownsRow b2 e sz v n xs :=
  ⟨h.1, h.2.imp id (fun ⟨g, cap, cur, hv, h1, h2⟩ => ⟨g, cap, cur, hv, Nat.le_trans hb h1, h2⟩)⟩
theorem below_drewL {B : Nat} {a w : World} (d : Nat) (h : Below B a w) : Below B a (w.drewN d) := ⟨h.os, h.tape, h.output, h.size, h.block⟩
set_option maxRecDepth 100000 in
set_option maxHeartbeats 8000000 in
theorem jOf_any {w : World} {H R : Nat} {S : Nat → Prop} {l : List Ent} {x : Int} (h : LgAt H R l x w S) (a : Option Addr) (n c : Nat) (ks : List Int) (hn : ks.length = n) (hl : Lies w 0 w.heap.size (.slice a n c) n 1 (ks.flatMap intCells)) (hs : n ≤ 100000) (hls : l.length ≤ 100000) :
    Calls Tryd.prog 16 #[.pointer (some ⟨H, 0, none⟩), .slice a n c] w fun e w' => ∃ ao cap, e = .returned (.slice ao (ofJ l ks).length cap) ∧ w'.ownsRow w.heap.size 47 4 (.slice ao (ofJ l ks).length cap) (ofJ l ks).length ((ofJ l ks).flatMap Ent.cells) ∧ Below w.heap.size w w' := by
  have HM := Lib.hid (jmade_any h)
  obtain ⟨ao, cap, h⟩ := h
  obtain ⟨V, hV⟩ : ∃ V, V = w.alloc (.cells #[.slice a n c] 23) := ⟨_, rfl⟩
  have hbV : Below w.heap.size w V := by rw [hV]; exact below1 _ _
  have HBV := Lib.hid hbV
  have HSO := Lib.hid (sortedJ_any w.heap.size n c a ks V (by rw [hV]; exact heap_alloc_new _ _) hn ((hl.keep (SameIn.of_below hbV (Nat.le_refl _))).wider (Nat.zero_le _) hbV.size) hs)
  have HV := Lib.hid hV
  obtain ⟨m, hm⟩ : ∃ m, m = l.length := ⟨_, rfl⟩
  have KB : Hid (∀ W : World, Below w.heap.size w W → W.cell? ⟨H, 2, none⟩ = some (.slice ao m cap)) := Lib.hid (fun W hW => by rw [hm]; exact cell_in (h.later hW).box rfl)
  have hlie := h.lies
  rw [← hm] at hlie
  have KA := Lib.hid (ents_read hm.symm hlie)
  have HMM := Lib.hid hm
  have HN := Lib.hid hn
  obtain ⟨i0, hi0, hz0, hz1, hz2⟩ := info_parts Tryd.infoJE
  have HI := Lib.hid hi0
  rw [← hm] at hls
  clear h hl hV hbV hm hn hlie hi0
  go_enter Tryd.func16, Tryd.ntmps16
  go_upto_region 3 with (go_at_call 21; refine HM.out.mono ?_; rintro e w1 ⟨rfl, hw1⟩; rw [hw1]; clear hw1)
  go_upto_region 5 with (first
    | (go_at_call 23; refine HSO.out.mono ?_; rintro e w2 ⟨v, rfl, o2', b2'⟩; have o2 := Lib.hid o2'; have hb2 := Lib.hid (HBV.out.trans (b2'.mono HBV.out.size)); have q2 := KB.out _ (HBV.out.trans (b2'.mono HBV.out.size)); clear o2' b2')
    | (go_at_call 24; refine (valuesMadeJ_any _ _ _ _).mono ?_; rintro e w9 ⟨rfl, hw9⟩; rw [← HV.out] at hw9; rw [hw9]; clear hw9)
    | fail "no arm")
  have HBS : Hid (∀ (W : World) (y : Int), Below w2.heap.size w2 W → Calls Tryd.prog 25 #[v, .int .i64 y] W fun e w' => ∃ i : Int, e = .returned (.tuple #[.int .i64 i, .bool (ks.contains y)]) ∧ ∃ q, w' = W.drewN q) := Lib.hid (fun W y hW => bsJ_any W V.heap.size v n ks y HN.out hs (owns_later o2.out hW))
  go_wp2_with fail
  go_loopw [6, 22] (fun s6 s22 wr => ∃ (k : Nat) (a3 : Option Addr) (c3 q3 : Nat), k ≤ m ∧ s6 = .slice a3 q3 c3 ∧ s22 = .int .i64 k ∧ q3 ≤ k ∧ Hid (q3 = (ofJ (l.take k) ks).length ∧ wr.ownsRow w2.heap.size 47 4 (.slice a3 q3 c3) q3 ((ofJ (l.take k) ks).flatMap Ent.cells)) ∧ Hid (Below w2.heap.size w2 wr)) (fun _ s _ => m - (intOf s).toNat)
  case atStart => exact ⟨0, none, 0, 0, Nat.zero_le _, rfl, rfl, Nat.le_refl _, Lib.hid ⟨by simp [ofJ], by simpa [ofJ] using World.ownsRow_nil _ _ _ _⟩, Lib.hid (Below.refl _ _)⟩
  case round =>
    obtain ⟨k, a3, c3, q3, hk, rfl, rfl, hq3, HO, HB⟩ := hrel
    by_cases hlt : k < m
    · have d0 : decide ((k : Int) < (m : Int)) = true := decide_eq_true (by omega)
      have d1 : (0 : Int) ≤ (k : Int) := by omega
      have d2 : (k : Int) < (m : Int) := by omega
      have HWB : Hid (Below w.heap.size w wr) := Lib.hid (hb2.out.trans (HB.out.mono hb2.out.size))
      obtain ⟨g, off, rfl, ⟨x0, x1, x2, x3⟩, _, hg⟩ := KA.out wr (SameIn.of_below HWB.out (Nat.le_refl _)) k hlt
      have HTK := Lib.hid (ofJ_take (l := l) ks (k := k) (by rw [← HMM.out]; exact hlt))
      obtain ⟨y, hy⟩ : ∃ y, y = enAt l k := ⟨_, rfl⟩
      rw [← hy] at x0 x1 x2 x3 HTK
      obtain ⟨p0, p1, p2, p3⟩ := y
      dsimp only at x0 x1 x2 x3 HTK
      obtain ⟨b, hb⟩ : ∃ b, ks.contains p1 = b := ⟨_, rfl⟩
      rw [hb] at HTK
      have HBB := Lib.hid hb
      clear hy hb hg
      go_upto_region 8 with fail
      obtain ⟨U, hU⟩ : ∃ U, U = wr.alloc (.cells #[.int .i64 p0, .int .i64 p1, .int .i64 p2, .int .i64 p3] 47) := ⟨_, rfl⟩
      obtain ⟨B, hB⟩ : ∃ B, B = wr.heap.size := ⟨_, rfl⟩
      have hbU : Below wr.heap.size wr U := by rw [hU]; exact below1 _ _
      have hUB : U.heap[B]? = some (.cells #[.int .i64 p0, .int .i64 p1, .int .i64 p2, .int .i64 p3] 47 (0, 0)) := by rw [hU, hB]; exact heap_alloc_new _ _
      rw [← hU, ← hB]
      have HBU : Hid (Below wr.heap.size wr U) := Lib.hid hbU
      have HBU2 : Hid (Below w2.heap.size w2 U) := Lib.hid (HB.out.trans (hbU.mono HB.out.size))
      have KU : Hid (∀ W : World, Below U.heap.size U W → W.cell? ⟨B, 0, none⟩ = some (.int .i64 p0) ∧ W.cell? ⟨B, 1, none⟩ = some (.int .i64 p1) ∧ W.cell? ⟨B, 2, none⟩ = some (.int .i64 p2) ∧ W.cell? ⟨B, 3, none⟩ = some (.int .i64 p3)) := Lib.hid (fun W hW => by
        have h : W.heap[B]? = _ := (hW.block B (lt_of_block hUB)).trans hUB
        exact ⟨cell_in h rfl, cell_in h rfl, cell_in h rfl, cell_in h rfl⟩)
      have v1 := (KU.out U (Below.refl _ _)).2.1
      clear hU hB hbU hUB x0 x1 x2 x3
      cases b with
      | false =>
        go_wp2_with (first
          | (go_at_call 25; refine (HBS.out _ p1 HBU2.out).mono ?_; rintro e w4 ⟨i4, rfl, nq, hw4⟩; rw [HBB.out]; rw [hw4]; clear hw4)
          | fail "no arm")
        go_roundw
        case rel =>
          refine ⟨k + 1, a3, c3, q3, by omega, rfl, by go_num, by omega, Lib.hid ?_, Lib.hid (below_drewL nq HBU2.out)⟩
          rw [HTK.out]
          exact ⟨HO.out.1, owns_later HO.out.2 (below_drewL nq HBU.out)⟩
        case measure => simp [intOf]; omega
      | true =>
        obtain ⟨ys, hys⟩ : ∃ ys, ys = (ofJ (l.take k) ks).flatMap Ent.cells := ⟨_, rfl⟩
        rw [← hys] at HO
        have HYS := Lib.hid hys
        clear hys
        go_upto_region 10 with (first
          | (go_at_call 25; refine (HBS.out _ p1 HBU2.out).mono ?_; rintro e w4 ⟨i4, rfl, nq, hw4⟩; rw [HBB.out]; have HB4 : Hid (Below U.heap.size U w4) := Lib.hid (by rw [hw4]; exact below_drewL nq (Below.refl _ _)); clear hw4)
          | fail "no arm")
        obtain ⟨u0, u1, u2, u3⟩ := KU.out w4 HB4.out
        have HBR4 : Hid (Below wr.heap.size wr w4) := Lib.hid (HBU.out.trans (HB4.out.mono HBU.out.size))
        have HVB : Hid (Below w4.heap.size w4 (w4.alloc (.cells #[.int .i64 p0, .int .i64 p1, .int .i64 p2, .int .i64 p3] 47))) := Lib.hid (below1 _ _)
        have HVO : Hid ((w4.alloc (.cells #[.int .i64 p0, .int .i64 p1, .int .i64 p2, .int .i64 p3] 47)).ownsRow w2.heap.size 47 4 (.slice a3 q3 c3) q3 ys ∧ Lies (w4.alloc (.cells #[.int .i64 p0, .int .i64 p1, .int .i64 p2, .int .i64 p3] 47)) w4.heap.size (w4.heap.size + 1) (.slice (some ⟨w4.heap.size, 0, none⟩) 1 1) 1 4 [.int .i64 p0, .int .i64 p1, .int .i64 p2, .int .i64 p3]) := Lib.hid ⟨owns_later (owns_later HO.out.2 HBR4.out) (below1 _ _), one_lies (cs := #[.int .i64 p0, .int .i64 p1, .int .i64 p2, .int .i64 p3]) (heap_alloc_new w4 _) rfl⟩
        have HW4 : Hid (Below w.heap.size w w4) := Lib.hid (HWB.out.trans (HBR4.out.mono HWB.out.size))
        have HW5 : Hid (Below w2.heap.size w2 w4) := Lib.hid (HB.out.trans (HBR4.out.mono HB.out.size))
        clear v1
        go_wp2_with (first
          | (refine wpList_append_lie2 (by rfl) (.tmp 34) (.tmp 36) 31 (by rfl) w2.heap.size 47 i0 _ 4 32 Tryd.underlying31 HI.out hz0 hz1 hz2 rfl (by omega) (.slice a3 q3 c3) q3 ys (by rfl) HVO.out.1 (.slice (some ⟨w4.heap.size, 0, none⟩) 1 1) w4.heap.size (w4.heap.size + 1) 1 [.int .i64 p0, .int .i64 p1, .int .i64 p2, .int .i64 p3] (by rfl) HVO.out.2 (ent_one ⟨p0, p1, p2, p3⟩) (q3 + 1) rfl (by simp only [maxLen]; omega) (by omega) (by have := HW5.out.size; simp; omega) ?_
             intro ao6 cap6 w6 hown6' hgrow6' hob6'
             have hown6 := Lib.hid hown6'
             have hb6 : Hid (Below w2.heap.size w2 w6) := Lib.hid ((HW5.out.trans (HVB.out.mono HW5.out.size)).grown hgrow6' (by have := HW5.out.size; simp; omega) (fun q hq => (owns_block HVO.out.1 q hq).1))
             clear hown6' hgrow6' hob6')
          | fail "no arm")
        go_roundw
        case rel =>
          refine ⟨k + 1, ao6, cap6, q3 + 1, by omega, rfl, by go_num, by omega, Lib.hid ?_, hb6⟩
          have h6 := hown6.out
          rw [HYS.out] at h6
          rw [HTK.out, if_pos trivial]
          refine ⟨by rw [List.length_append, ← HO.out.1]; rfl, ?_⟩
          rw [List.flatMap_append]
          simpa [Ent.cells] using h6
        case measure => simp [intOf]; omega
    · have d0 : decide ((k : Int) < (m : Int)) = false := decide_eq_false (by omega)
      have hkm : k = m := by omega
      subst hkm
      go_wp2_with fail
      go_ret
      have h6 := HO.out
      rw [List.take_of_length_le (by rw [← HMM.out]; exact Nat.le_refl _)] at h6
      obtain ⟨h7, h8⟩ := h6
      subst h7
      exact ⟨_, _, rfl, owns_lower h8 hb2.out.size, hb2.out.trans (HB.out.mono hb2.out.size)⟩
end Go.Proofs.YtebjgfdkmociaaaDoor
