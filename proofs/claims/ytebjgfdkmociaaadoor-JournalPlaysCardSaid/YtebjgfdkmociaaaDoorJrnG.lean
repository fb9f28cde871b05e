/- The document's log: Of. -/
import Derived.Test.YtebjgfdkmociaaaDoorJrnP
namespace Go.Proofs.YtebjgfdkmociaaaDoor
open Go.ChangeShapes Go.WideShapes Go.ChangeAt Go.RowKit
set_option linter.unusedVariables false

theorem cont_next {ks : List Int} {j : Nat} (h : j < ks.length) (x : Int) : (ks.take (j + 1)).contains x = ((ks.take j).contains x || (ks.getD j 0 == x)) := by
  have e : ks.take (j + 1) = ks.take j ++ [ks.getD j 0] := by
    rw [List.take_add_one, List.getElem?_eq_getElem h, List.getD_eq_getElem?_getD, List.getElem?_eq_getElem h]; rfl
  rw [e, Bool.eq_iff_iff]
  simp only [List.contains_iff_mem, List.mem_append, List.mem_singleton, Bool.or_eq_true, beq_iff_eq]
  exact or_congr Iff.rfl eq_comm
theorem owns_lowerG {w : World} {b1 b2 e sz : Nat} {v : Value} {n : Nat} {xs : List Value} (h : w.ownsRow b1 e sz v n xs) (hb : b2 ≤ b1) : w.ownsRow b2 e sz v n xs :=
  ⟨h.1, h.2.imp id (fun ⟨g, cap, cur, hv, h1, h2⟩ => ⟨g, cap, cur, hv, Nat.le_trans hb h1, h2⟩)⟩
theorem below_drewG {B : Nat} {a w : World} (d : Nat) (h : Below B a w) : Below B a (w.drewN d) := ⟨h.os, h.tape, h.output, h.size, h.block⟩
set_option maxRecDepth 100000 in
set_option maxHeartbeats 8000000 in
theorem rOf_any {w : World} {H R : Nat} {S : Nat → Prop} {l : List Ent} {x : Int} (h : DgAt H R l x w S) (a : Option Addr) (n c : Nat) (ks : List Int) (hn : ks.length = n) (hl : Lies w 0 w.heap.size (.slice a n c) n 1 (ks.flatMap intCells)) (hs : n ≤ 100000) (hls : l.length ≤ 100000) :
    Calls Tryd.prog 17 #[.pointer (some ⟨H, 0, none⟩), .slice a n c] w fun e w' => ∃ ao cap, e = .returned (.slice ao (ofJ l ks).length cap) ∧ w'.ownsRow w.heap.size 50 4 (.slice ao (ofJ l ks).length cap) (ofJ l ks).length ((ofJ l ks).flatMap Ent.cells) ∧ Below w.heap.size w w' := by
  obtain ⟨ao, cap, h⟩ := h
  obtain ⟨m, hm⟩ : ∃ m, m = l.length := ⟨_, rfl⟩
  have KB : Hid (∀ W : World, Below w.heap.size w W → W.cell? ⟨H, 1, none⟩ = some (.slice ao m cap)) := Lib.hid (fun W hW => by rw [hm]; exact cell_in (h.later hW).box rfl)
  have hlie := h.lies
  rw [← hm] at hlie
  have KA := Lib.hid (ents_read hm.symm hlie)
  have KI := Lib.hid (ints_read hn hl)
  have HMM := Lib.hid hm
  have HN := Lib.hid hn
  obtain ⟨i0, hi0, hz0, hz1, hz2⟩ := info_parts Tryd.infoJR
  have HI := Lib.hid hi0
  rw [← hm] at hls
  clear h hl hm hn hlie hi0
  go_enter Tryd.func17, Tryd.ntmps17
  go_wp2_with fail
  go_loopw [5, 6] (fun s5 s6 wr => ∃ (k : Nat) (a3 : Option Addr) (c3 q3 : Nat), k ≤ m ∧ s5 = .slice a3 q3 c3 ∧ s6 = .int .i64 k ∧ q3 ≤ k ∧ Hid (q3 = (ofJ (l.take k) ks).length ∧ wr.ownsRow w.heap.size 50 4 (.slice a3 q3 c3) q3 ((ofJ (l.take k) ks).flatMap Ent.cells)) ∧ Hid (Below w.heap.size w wr)) (fun _ s _ => m - (intOf s).toNat)
  case atStart => exact ⟨0, none, 0, 0, Nat.zero_le _, rfl, rfl, Nat.le_refl _, Lib.hid ⟨by simp [ofJ], by simpa [ofJ] using World.ownsRow_nil _ _ _ _⟩, Lib.hid (Below.refl _ _)⟩
  case round =>
    obtain ⟨k, a3, c3, q3, hk, rfl, rfl, hq3, HO, HB⟩ := hrel
    obtain ⟨wo, hwo⟩ : ∃ wo, wo = wr := ⟨_, rfl⟩
    subst hwo
    have b1 := KB.out wo HB.out
    by_cases hlt : k < m
    · have d0 : decide ((k : Int) < (m : Int)) = true := decide_eq_true (by omega)
      have d1 : (0 : Int) ≤ (k : Int) := by omega
      have d2 : (k : Int) < (m : Int) := by omega
      obtain ⟨g, off, rfl, x0c, _, hg⟩ := KA.out wo (SameIn.of_below HB.out (Nat.le_refl _)) k hlt
      have HTK := Lib.hid (ofJ_take (l := l) ks (k := k) (by rw [← HMM.out]; exact hlt))
      obtain ⟨y, hy⟩ : ∃ y, y = enAt l k := ⟨_, rfl⟩
      have KC : Hid (∀ W : World, Below w.heap.size w W → W.cell? ⟨g, off + k * 4, none⟩ = some (.int .i64 y.t) ∧ W.cell? ⟨g, off + k * 4 + 1, none⟩ = some (.int .i64 y.k) ∧ W.cell? ⟨g, off + k * 4 + 2, none⟩ = some (.int .i64 y.a) ∧ W.cell? ⟨g, off + k * 4 + 3, none⟩ = some (.int .i64 y.b)) := Lib.hid (fun W hW => by
        obtain ⟨g', o', e', c', _⟩ := KA.out W (SameIn.of_below hW (Nat.le_refl _)) k hlt
        cases e'
        rw [hy]; exact c')
      rw [← hy] at HTK
      obtain ⟨p0, p1, p2, p3⟩ := y
      dsimp only at KC HTK
      clear hy hg x0c
      go_wp2_with fail
      go_loopw [7, 8] (fun s7 s8 wr => ∃ (j : Nat), j ≤ n ∧ s7 = .bool ((ks.take j).contains p1) ∧ s8 = .int .i64 j ∧ Hid (Below wo.heap.size wo wr)) (fun _ s _ => n - (intOf s).toNat)
      case atStart => exact ⟨0, Nat.zero_le _, rfl, rfl, Lib.hid (Below.refl _ _)⟩
      case round =>
        obtain ⟨j, hj, rfl, rfl, HX⟩ := hrel
        have HXB : Hid (Below w.heap.size w wr) := Lib.hid (HB.out.trans (HX.out.mono HB.out.size))
        obtain ⟨b, hb⟩ : ∃ b, (ks.take j).contains p1 = b := ⟨_, rfl⟩
        rw [hb]
        by_cases hltj : j < n
        · have e0 : decide ((j : Int) < (n : Int)) = true := decide_eq_true (by omega)
          have e1 : (0 : Int) ≤ (j : Int) := by omega
          have e2 : (j : Int) < (n : Int) := by omega
          have HCN : Hid ((ks.take (j + 1)).contains p1 = (b || (ks.getD j 0 == p1))) := Lib.hid (by rw [cont_next (by rw [HN.out]; exact hltj), hb])
          clear hb
          cases b with
          | true =>
            go_wp2_with fail
            go_quiet (fail)
            go_wp2_with fail
            go_roundw
            case rel => exact ⟨j + 1, by omega, by rw [HCN.out]; rfl, by go_num, Lib.hid (below_drewG nq HX.out)⟩
            case measure => simp [intOf]; omega
          | false =>
            obtain ⟨gi, oi, rfl, z0, _, hgi⟩ := KI.out wr (SameIn.of_below HXB.out (Nat.le_refl _)) j hltj
            obtain ⟨z, hz⟩ : ∃ z, z = ks.getD j 0 := ⟨_, rfl⟩
            rw [← hz] at z0 HCN
            have x1 := KB.out wr HXB.out
            obtain ⟨y0, y1, y2, y3⟩ := KC.out wr HXB.out
            clear hz hgi y0 y2 y3
            go_wp2_with fail
            go_quiet (fail)
            go_wp2_with fail
            go_roundw
            case rel => exact ⟨j + 1, by omega, by rw [HCN.out]; rfl, by go_num, Lib.hid (below_drewG nq HX.out)⟩
            case measure => simp [intOf]; omega
        · have e0 : decide ((j : Int) < (n : Int)) = false := decide_eq_false (by omega)
          have hjn : j = n := by omega
          subst hjn
          rw [List.take_of_length_le (by rw [HN.out]; exact Nat.le_refl _)] at hb
          rw [hb] at HTK
          have HBB := Lib.hid hb
          clear hb
          cases b with
          | false =>
            go_wp2_with fail
            go_roundw
            case rel =>
              refine ⟨k + 1, a3, c3, q3, by omega, rfl, by go_num, by omega, Lib.hid ?_, HXB⟩
              rw [HTK.out]
              exact ⟨HO.out.1, owns_later HO.out.2 HX.out⟩
            case measure => simp [intOf]; omega
          | true =>
            obtain ⟨ys, hys⟩ : ∃ ys, ys = (ofJ (l.take k) ks).flatMap Ent.cells := ⟨_, rfl⟩
            rw [← hys] at HO
            have HYS := Lib.hid hys
            have x1 := KB.out wr HXB.out
            obtain ⟨y0, y1, y2, y3⟩ := KC.out wr HXB.out
            have HVB : Hid (Below wr.heap.size wr (wr.alloc (.cells #[.int .i64 p0, .int .i64 p1, .int .i64 p2, .int .i64 p3] 50))) := Lib.hid (below1 _ _)
            have HVO : Hid ((wr.alloc (.cells #[.int .i64 p0, .int .i64 p1, .int .i64 p2, .int .i64 p3] 50)).ownsRow w.heap.size 50 4 (.slice a3 q3 c3) q3 ys ∧ Lies (wr.alloc (.cells #[.int .i64 p0, .int .i64 p1, .int .i64 p2, .int .i64 p3] 50)) wr.heap.size (wr.heap.size + 1) (.slice (some ⟨wr.heap.size, 0, none⟩) 1 1) 1 4 [.int .i64 p0, .int .i64 p1, .int .i64 p2, .int .i64 p3]) := Lib.hid ⟨owns_later (owns_later HO.out.2 HX.out) (below1 _ _), one_lies (cs := #[.int .i64 p0, .int .i64 p1, .int .i64 p2, .int .i64 p3]) (heap_alloc_new wr _) rfl⟩
            clear hys b1
            go_wp2_with (first
              | (refine wpList_append_lie2 (by rfl) (.tmp 41) (.tmp 49) 29 (by rfl) w.heap.size 50 i0 _ 4 32 Tryd.underlying29 HI.out hz0 hz1 hz2 rfl (by omega) (.slice a3 q3 c3) q3 ys (by rfl) HVO.out.1 (.slice (some ⟨wr.heap.size, 0, none⟩) 1 1) wr.heap.size (wr.heap.size + 1) 1 [.int .i64 p0, .int .i64 p1, .int .i64 p2, .int .i64 p3] (by rfl) HVO.out.2 (ent_one ⟨p0, p1, p2, p3⟩) (q3 + 1) rfl (by simp only [maxLen]; omega) (by omega) (by have := HXB.out.size; simp; omega) ?_
                 intro ao6 cap6 w6 hown6' hgrow6' hob6'
                 have hown6 := Lib.hid hown6'
                 have hb6 : Hid (Below w.heap.size w w6) := Lib.hid ((HXB.out.trans (HVB.out.mono HXB.out.size)).grown hgrow6' (by have := HXB.out.size; simp; omega) (fun q hq => (owns_block HVO.out.1 q hq).1))
                 clear hown6' hgrow6' hob6')
              | fail "no arm")
            go_roundw
            case rel =>
              refine ⟨k + 1, ao6, cap6, q3 + 1, by omega, rfl, by go_num, by omega, Lib.hid ?_, hb6⟩
              have h6 := hown6.out
              rw [HYS.out] at h6
              rw [HTK.out, if_pos rfl]
              refine ⟨by rw [List.length_append, ← HO.out.1]; rfl, ?_⟩
              rw [List.flatMap_append]
              simpa [Ent.cells] using h6
            case measure => simp [intOf]; omega
    · have d0 : decide ((k : Int) < (m : Int)) = false := decide_eq_false (by omega)
      have hkm : k = m := by omega
      subst hkm
      go_wp2_with fail
      go_ret
      have h6 := HO.out
      rw [List.take_of_length_le (by rw [← HMM.out]; exact Nat.le_refl _)] at h6
      obtain ⟨h7, h8⟩ := h6
      subst h7
      exact ⟨_, _, rfl, h8, HB.out⟩
end Go.Proofs.YtebjgfdkmociaaaDoor
