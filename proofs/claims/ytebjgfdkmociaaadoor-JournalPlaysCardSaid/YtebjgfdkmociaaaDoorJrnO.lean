/- The program's entries of the document's, and the other way round; lists held against each other. -/
import Derived.Test.YtebjgfdkmociaaaDoorJrnM
namespace Go.Proofs.YtebjgfdkmociaaaDoor
open Go.ChangeShapes Go.WideShapes Go.ChangeAt Go.RowKit
set_option linter.unusedVariables false

set_option maxRecDepth 100000 in
set_option maxHeartbeats 8000000 in
theorem jowns_any (a : Option Addr) (n c : Nat) (w : World) (l : List Ent) (hn : l.length = n) (hsm : n ≤ 100000) (hl : Lies w 0 w.heap.size (.slice a n c) n 4 (l.flatMap Ent.cells)) :
    Calls Tryd.prog 9 #[.slice a n c] w fun e w' => ∃ ao cap, e = .returned (.slice ao n cap) ∧ w'.ownsRow w.heap.size 47 4 (.slice ao n cap) n (l.flatMap Ent.cells) ∧ Below w.heap.size w w' := by
  have KA := Lib.hid (ents_read hn hl)
  have HN := Lib.hid hn
  obtain ⟨i0, hi0, hz0, hz1, hz2⟩ := info_parts Tryd.infoJE
  have HI := Lib.hid hi0
  clear hl hn hi0
  go_enter Tryd.func9, Tryd.ntmps9
  go_wp2_with fail
  go_loopw [3, 4] (fun s3 s4 wr => ∃ (k : Nat) (ao : Option Addr) (cap : Nat), k ≤ n ∧ s3 = .slice ao k cap ∧ s4 = .int .i64 k ∧ Hid (wr.ownsRow w.heap.size 47 4 (.slice ao k cap) k ((l.take k).flatMap Ent.cells)) ∧ Hid (Below w.heap.size w wr)) (fun _ s _ => n - (intOf s).toNat)
  case atStart => exact ⟨0, none, 0, Nat.zero_le _, rfl, rfl, Lib.hid ⟨rfl, .inl ⟨rfl, rfl⟩⟩, Lib.hid (Below.refl _ _)⟩
  case round =>
    obtain ⟨k, ao, cap, hk, rfl, rfl, HO, HB⟩ := hrel
    by_cases hlt : k < n
    · have d0 : decide ((k : Int) < (n : Int)) = true := decide_eq_true (by omega)
      have d1 : (0 : Int) ≤ (k : Int) := by omega
      have d2 : (k : Int) < (n : Int) := by omega
      obtain ⟨g, off, rfl, ⟨b0, b1, b2, b3⟩, _, hg⟩ := KA.out wr (SameIn.of_below HB.out (Nat.le_refl _)) k hlt
      have HTK : Hid ((l.take (k + 1)).flatMap Ent.cells = (l.take k).flatMap Ent.cells ++ (enAt l k).cells) := Lib.hid (take_enC (by have := HN.out; omega))
      obtain ⟨x, hx⟩ : ∃ x, x = enAt l k := ⟨_, rfl⟩
      rw [← hx] at b0 b1 b2 b3 HTK
      obtain ⟨x0, x1, x2, x3⟩ := x
      obtain ⟨ys, hys⟩ : ∃ ys, ys = (l.take k).flatMap Ent.cells := ⟨_, rfl⟩
      rw [← hys] at HO
      have HYS := Lib.hid hys
      have HVB : Hid (Below wr.heap.size wr (wr.alloc (.cells #[.int .i64 x0, .int .i64 x1, .int .i64 x2, .int .i64 x3] 47))) := Lib.hid (below1 _ _)
      have HV : Hid ((wr.alloc (.cells #[.int .i64 x0, .int .i64 x1, .int .i64 x2, .int .i64 x3] 47)).ownsRow w.heap.size 47 4 (.slice ao k cap) k ys ∧ Lies (wr.alloc (.cells #[.int .i64 x0, .int .i64 x1, .int .i64 x2, .int .i64 x3] 47)) wr.heap.size (wr.heap.size + 1) (.slice (some ⟨wr.heap.size, 0, none⟩) 1 1) 1 4 [.int .i64 x0, .int .i64 x1, .int .i64 x2, .int .i64 x3]) := Lib.hid ⟨owns_later HO.out (below1 _ _), one_lies (cs := #[.int .i64 x0, .int .i64 x1, .int .i64 x2, .int .i64 x3]) (heap_alloc_new wr _) rfl⟩
      clear hg hx hys
      go_wp2_with (first
        | (refine wpList_append_lie2 (by rfl) (.tmp 11) (.tmp 16) 31 (by rfl) w.heap.size 47 i0 _ 4 32 Tryd.underlying31 HI.out hz0 hz1 hz2 rfl (by omega) (.slice ao k cap) k ys (by rfl) HV.out.1 (.slice (some ⟨wr.heap.size, 0, none⟩) 1 1) wr.heap.size (wr.heap.size + 1) 1 [.int .i64 x0, .int .i64 x1, .int .i64 x2, .int .i64 x3] (by rfl) HV.out.2 (ent_one ⟨x0, x1, x2, x3⟩) (k + 1) rfl (by simp only [maxLen]; omega) (by omega) (by have := HB.out.size; simp; omega) ?_
           intro ao2 cap2 w6 hown6' hgrow6' hob6'
           have hown6 := Lib.hid hown6'
           have hb6 : Hid (Below w.heap.size w w6) := Lib.hid ((HB.out.trans (HVB.out.mono HB.out.size)).grown hgrow6' (by have := HVB.out.size; have := HB.out.size; omega) (fun q hq => (owns_block HV.out.1 q hq).1))
           clear hown6' hgrow6' hob6')
        | fail "no arm")
      go_roundw
      case rel => exact ⟨k + 1, ao2, cap2, by omega, rfl, by go_num, Lib.hid (by
        have h6 := hown6.out
        rw [HYS.out] at h6
        rw [HTK.out]
        exact h6), hb6⟩
      case measure => simp [intOf]; omega
    · have d0 : decide ((k : Int) < (n : Int)) = false := decide_eq_false (by omega)
      have hkn : k = n := by omega
      subst hkn
      go_wp2_with fail
      go_ret
      have h6 := HO.out
      rw [List.take_of_length_le (by rw [HN.out]; exact Nat.le_refl _)] at h6
      exact ⟨_, _, rfl, h6, HB.out⟩
set_option maxRecDepth 100000 in
set_option maxHeartbeats 8000000 in
theorem jRefs_any (a : Option Addr) (n c : Nat) (w : World) (l : List Ent) (hn : l.length = n) (hsm : n ≤ 100000) (hl : Lies w 0 w.heap.size (.slice a n c) n 4 (l.flatMap Ent.cells)) :
    Calls Tryd.prog 14 #[.slice a n c] w fun e w' => ∃ ao cap, e = .returned (.slice ao n cap) ∧ w'.ownsRow w.heap.size 50 4 (.slice ao n cap) n (l.flatMap Ent.cells) ∧ Below w.heap.size w w' := by
  have KA := Lib.hid (ents_read hn hl)
  have HN := Lib.hid hn
  obtain ⟨i0, hi0, hz0, hz1, hz2⟩ := info_parts Tryd.infoJR
  have HI := Lib.hid hi0
  clear hl hn hi0
  go_enter Tryd.func14, Tryd.ntmps14
  go_wp2_with fail
  go_loopw [3, 4] (fun s3 s4 wr => ∃ (k : Nat) (ao : Option Addr) (cap : Nat), k ≤ n ∧ s3 = .slice ao k cap ∧ s4 = .int .i64 k ∧ Hid (wr.ownsRow w.heap.size 50 4 (.slice ao k cap) k ((l.take k).flatMap Ent.cells)) ∧ Hid (Below w.heap.size w wr)) (fun _ s _ => n - (intOf s).toNat)
  case atStart => exact ⟨0, none, 0, Nat.zero_le _, rfl, rfl, Lib.hid ⟨rfl, .inl ⟨rfl, rfl⟩⟩, Lib.hid (Below.refl _ _)⟩
  case round =>
    obtain ⟨k, ao, cap, hk, rfl, rfl, HO, HB⟩ := hrel
    by_cases hlt : k < n
    · have d0 : decide ((k : Int) < (n : Int)) = true := decide_eq_true (by omega)
      have d1 : (0 : Int) ≤ (k : Int) := by omega
      have d2 : (k : Int) < (n : Int) := by omega
      obtain ⟨g, off, rfl, ⟨b0, b1, b2, b3⟩, _, hg⟩ := KA.out wr (SameIn.of_below HB.out (Nat.le_refl _)) k hlt
      have HTK : Hid ((l.take (k + 1)).flatMap Ent.cells = (l.take k).flatMap Ent.cells ++ (enAt l k).cells) := Lib.hid (take_enC (by have := HN.out; omega))
      obtain ⟨x, hx⟩ : ∃ x, x = enAt l k := ⟨_, rfl⟩
      rw [← hx] at b0 b1 b2 b3 HTK
      obtain ⟨x0, x1, x2, x3⟩ := x
      obtain ⟨ys, hys⟩ : ∃ ys, ys = (l.take k).flatMap Ent.cells := ⟨_, rfl⟩
      rw [← hys] at HO
      have HYS := Lib.hid hys
      have HVB : Hid (Below wr.heap.size wr (wr.alloc (.cells #[.int .i64 x0, .int .i64 x1, .int .i64 x2, .int .i64 x3] 50))) := Lib.hid (below1 _ _)
      have HV : Hid ((wr.alloc (.cells #[.int .i64 x0, .int .i64 x1, .int .i64 x2, .int .i64 x3] 50)).ownsRow w.heap.size 50 4 (.slice ao k cap) k ys ∧ Lies (wr.alloc (.cells #[.int .i64 x0, .int .i64 x1, .int .i64 x2, .int .i64 x3] 50)) wr.heap.size (wr.heap.size + 1) (.slice (some ⟨wr.heap.size, 0, none⟩) 1 1) 1 4 [.int .i64 x0, .int .i64 x1, .int .i64 x2, .int .i64 x3]) := Lib.hid ⟨owns_later HO.out (below1 _ _), one_lies (cs := #[.int .i64 x0, .int .i64 x1, .int .i64 x2, .int .i64 x3]) (heap_alloc_new wr _) rfl⟩
      clear hg hx hys
      go_wp2_with (first
        | (refine wpList_append_lie2 (by rfl) (.tmp 11) (.tmp 16) 29 (by rfl) w.heap.size 50 i0 _ 4 32 Tryd.underlying29 HI.out hz0 hz1 hz2 rfl (by omega) (.slice ao k cap) k ys (by rfl) HV.out.1 (.slice (some ⟨wr.heap.size, 0, none⟩) 1 1) wr.heap.size (wr.heap.size + 1) 1 [.int .i64 x0, .int .i64 x1, .int .i64 x2, .int .i64 x3] (by rfl) HV.out.2 (ent_one ⟨x0, x1, x2, x3⟩) (k + 1) rfl (by simp only [maxLen]; omega) (by omega) (by have := HB.out.size; simp; omega) ?_
           intro ao2 cap2 w6 hown6' hgrow6' hob6'
           have hown6 := Lib.hid hown6'
           have hb6 : Hid (Below w.heap.size w w6) := Lib.hid ((HB.out.trans (HVB.out.mono HB.out.size)).grown hgrow6' (by have := HVB.out.size; have := HB.out.size; omega) (fun q hq => (owns_block HV.out.1 q hq).1))
           clear hown6' hgrow6' hob6')
        | fail "no arm")
      go_roundw
      case rel => exact ⟨k + 1, ao2, cap2, by omega, rfl, by go_num, Lib.hid (by
        have h6 := hown6.out
        rw [HYS.out] at h6
        rw [HTK.out]
        exact h6), hb6⟩
      case measure => simp [intOf]; omega
    · have d0 : decide ((k : Int) < (n : Int)) = false := decide_eq_false (by omega)
      have hkn : k = n := by omega
      subst hkn
      go_wp2_with fail
      go_ret
      have h6 := HO.out
      rw [List.take_of_length_le (by rw [HN.out]; exact Nat.le_refl _)] at h6
      exact ⟨_, _, rfl, h6, HB.out⟩
end Go.Proofs.YtebjgfdkmociaaaDoor
