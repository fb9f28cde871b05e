/- own: the program's channels, of the document's. -/
import Derived.Test.YtoebbbghllkdgaaPortK
namespace Go.Proofs.Ytoebbbghllkdgaa
open Go.ChangeShapes Go.WideShapes Go.ChangeAt Go.RowKit
set_option linter.unusedVariables false

theorem Try.infoCh21 : (Try.prog.info? 45).map (fun i => (i.zero, i.size, i.bytes)) = some (some (.agg #[.bool false, .int .i64 0, .int .i64 0, .int .i64 0]), 4, 32) := by kernel_rfl
set_option maxRecDepth 100000 in
set_option maxHeartbeats 8000000 in
theorem own21_any (a : Option Addr) (n c : Nat) (w : World) (cs : List Ch) (hn : cs.length = n) (hsm : n ≤ 1000) (hl : Lies w 0 w.heap.size (.slice a n c) n 4 (cs.flatMap Ch.cells)) :
    Calls Try.prog 8 #[.slice a n c] w fun e w' => ∃ H S, e = .returned (.pointer (some ⟨H, 0, none⟩)) ∧ (PrO H cs (fun _ => Ps.new) w' S ∧ (∀ k, S k → w.heap.size ≤ k) ∧ Below w.heap.size w w') := by
  have KA := Lib.hid (chs_read hn hl)
  have HN := Lib.hid hn
  obtain ⟨i0, hi0, hz0, hz1, hz2⟩ := info_parts Try.infoCh21
  have HI := Lib.hid hi0
  clear hl hn hi0
  go_enter Try.func8, Try.ntmps8
  go_wp2_with fail
  go_loopw [3, 4] (fun s3 s4 wr => ∃ (k : Nat) (ao : Option Addr) (cap : Nat), k ≤ n ∧ s3 = .slice ao k cap ∧ s4 = .int .i64 k ∧ Hid (wr.ownsRow w.heap.size 45 4 (.slice ao k cap) k ((cs.take k).flatMap Ch.cells)) ∧ Hid (Below w.heap.size w wr)) (fun _ s _ => n - (intOf s).toNat)
  case atStart => exact ⟨0, none, 0, Nat.zero_le _, rfl, rfl, Lib.hid ⟨rfl, .inl ⟨rfl, rfl⟩⟩, Lib.hid (Below.refl _ _)⟩
  case round =>
    obtain ⟨k, ao, cap, hk, rfl, rfl, HO, HB⟩ := hrel
    by_cases hlt : k < n
    · have d0 : decide ((k : Int) < (n : Int)) = true := decide_eq_true (by omega)
      have d1 : (0 : Int) ≤ (k : Int) := by omega
      have d2 : (k : Int) < (n : Int) := by omega
      obtain ⟨g, off, rfl, ⟨b0, b1, b2, b3⟩, hg⟩ := KA.out wr HB.out k hlt
      have HTK : Hid ((cs.take (k + 1)).flatMap Ch.cells = (cs.take k).flatMap Ch.cells ++ (cs.getD k chZ).cells) := Lib.hid (by rw [take_snocD chZ (by have := HN.out; omega), List.flatMap_append]; simp)
      obtain ⟨x, hx⟩ : ∃ x, x = cs.getD k chZ := ⟨_, rfl⟩
      rw [← hx] at b0 b1 b2 b3 HTK
      obtain ⟨xq, xf, xt, xs⟩ := x
      obtain ⟨ys, hys⟩ : ∃ ys, ys = (cs.take k).flatMap Ch.cells := ⟨_, rfl⟩
      rw [← hys] at HO
      have HYS := Lib.hid hys
      have HVB : Hid (Below wr.heap.size wr (wr.alloc (.cells #[.bool xq, .int .i64 xf, .int .i64 xt, .int .i64 xs] 45))) := Lib.hid (below1 _ _)
      have HV : Hid ((wr.alloc (.cells #[.bool xq, .int .i64 xf, .int .i64 xt, .int .i64 xs] 45)).ownsRow w.heap.size 45 4 (.slice ao k cap) k ys ∧ Lies (wr.alloc (.cells #[.bool xq, .int .i64 xf, .int .i64 xt, .int .i64 xs] 45)) wr.heap.size (wr.heap.size + 1) (.slice (some ⟨wr.heap.size, 0, none⟩) 1 1) 1 4 [.bool xq, .int .i64 xf, .int .i64 xt, .int .i64 xs]) := Lib.hid ⟨owns_later HO.out (below1 _ _), one_lies (cs := #[.bool xq, .int .i64 xf, .int .i64 xt, .int .i64 xs]) (heap_alloc_new wr _) rfl⟩
      clear hg hx hys
      go_wp2_with (first
        | (refine wpList_append_lie2 (by rfl) (.tmp 11) (.tmp 16) 49 (by rfl) w.heap.size 45 i0 _ 4 32 Try.underlying49 HI.out hz0 hz1 hz2 rfl (by omega) (.slice ao k cap) k ys (by rfl) HV.out.1 (.slice (some ⟨wr.heap.size, 0, none⟩) 1 1) wr.heap.size (wr.heap.size + 1) 1 [.bool xq, .int .i64 xf, .int .i64 xt, .int .i64 xs] (by rfl) HV.out.2 (ch_one ⟨xq, xf, xt, xs⟩) (k + 1) rfl (by simp only [maxLen]; omega) (by omega) (by have := HB.out.size; simp; omega) ?_
           intro ao2 cap2 w6 hown6' hgrow6' hob6'
           have hown6 := Lib.hid hown6'
           have hb6 : Hid (Below w.heap.size w w6) := Lib.hid ((HB.out.trans (HVB.out.mono HB.out.size)).grown hgrow6' (by have := HVB.out.size; have := HB.out.size; omega) (fun q hq => (owns_block HV.out.1 q hq).1))
           clear hown6' hgrow6' hob6')
        | fail "no arm")
      go_roundw
      case rel => exact ⟨k + 1, ao2, cap2, by omega, rfl, by go_num, Lib.hid (by
        have h6 := hown6.out
        rw [HYS.out] at h6
        rw [HTK.out]
        exact h6), hb6⟩
      case measure => simp [intOf]; omega
    · have d0 : decide ((k : Int) < (n : Int)) = false := decide_eq_false (by omega)
      have hkn : k = n := by omega
      subst hkn
      have HP := Lib.hid (pnew_any ao k cap wr cs HN.out (by omega) (by
        have h6 := HO.out
        rw [List.take_of_length_le (by rw [HN.out]; exact Nat.le_refl _)] at h6
        exact (Lies.of_owns h6).wider (Nat.zero_le _) (Nat.le_refl _)))
      go_wp2_with (first
        | (go_at_call 19; refine HP.out.mono ?_; rintro e w9 ⟨H, S, rfl, q1, q2, q3⟩; have q := Lib.hid (And.intro q1 (And.intro q2 q3)); clear q1 q2 q3)
        | fail "no arm")
      go_ret
      have hz := HB.out.size
      exact ⟨H, S, rfl, q.out.1, fun j hj => Nat.le_trans hz (q.out.2.1 j hj), HB.out.trans (q.out.2.2.mono hz)⟩
end Go.Proofs.Ytoebbbghllkdgaa
