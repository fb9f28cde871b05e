/- The program's budget: lay, end, what is back. -/
import Derived.Test.YtoofkeeoolgpdaaChunkP
namespace Go.Proofs.Ytoofkeeoolgpdaa
open Go.ChangeShapes Go.WideShapes Go.ChangeAt Go.RowKit
set_option linter.unusedVariables false

theorem Try.infoChk : (Try.prog.info? 45).map (fun i => (i.zero, i.size, i.bytes)) = some (some (.agg #[.int .i64 0, .int .i64 0, .int .i64 0]), 3, 24) := by kernel_rfl
/-- The live row has grown: the box is written behind. -/
theorem CkB.grew_l {w w5 w6 : World} {H : Nat} {s : Sv} {f f' : Int} {st : Bool} {la ea ao : Option Addr} {lc ec cap : Nat} {lv en lv' : List Wn} (h : CkB w H s f st la lc lv ea ec en) (hb : Below w.heap.size w w5)
    (h2 : ORow w6 45 3 (.slice ao lv'.length cap) lv'.length (lv'.flatMap Wn.cells)) (hg : w5.grownBy w6 (Value.slice la lv.length lc).ownBlock) (ho : (Value.slice ao lv'.length cap).ownBlock = (Value.slice la lv.length lc).ownBlock ∨ (Value.slice ao lv'.length cap).ownBlock = some w5.heap.size) :
    (w6.cell? ⟨H, 0, none⟩).isSome = true ∧ w6.frozen? ⟨H, 0, none⟩ = false ∧ CkB (w6.setCell ⟨H, 0, none⟩ (.slice ao lv'.length cap)) H s f st ao cap lv' ea ec en ∧ GrowS (Bl H la ea) (Bl H ao ea) w (w6.setCell ⟨H, 0, none⟩ (.slice ao lv'.length cap)) := by
  rw [own_ob] at hg
  rw [own_ob, own_ob] at ho
  have s1 := hb.size
  have s2 := hg.size
  have hH := lt_of_block h.box
  have hsame : ∀ k, k < w.heap.size → ob la ≠ some k → w6.heap[k]? = w.heap[k]? := fun k hk hne => (hg.block k (by omega) (fun e => hne e.symm)).trans (hb.block k hk)
  have hbox6 := (hsame H hH (fun e => (h.ll H e).2 rfl)).trans h.box
  have hB : But H w6 (w6.setCell ⟨H, 0, none⟩ (.slice ao lv'.length cap)) := (But.refl H w6).set 0 _
  have hz : (w6.setCell ⟨H, 0, none⟩ (.slice ao lv'.length cap)).heap.size = w6.heap.size := by simp
  have hao : ∀ g, ob ao = some g → g < w6.heap.size ∧ g ≠ H := fun g hg' => by
    rcases ho with h1 | h1
    · have := h.ll g (by rw [← h1]; exact hg'); exact ⟨by omega, this.2⟩
    · refine ⟨h2.lt g (by rw [own_ob]; exact hg'), ?_⟩
      rw [h1] at hg'; cases hg'; omega
  refine ⟨by rw [cell_in hbox6 rfl]; rfl, free_in hbox6 _, ⟨set_at hbox6, h2.hold (fun g hg' => ?_), h.e.hold (fun g hg' => ?_), ?_⟩, ⟨hB.os.trans (hg.os.trans hb.os), hB.tape.trans (hg.tape.trans hb.tape), hB.output.trans (hg.output.trans hb.output), by omega, fun k hk hn => ?_, ?_⟩⟩
  · rw [own_ob] at hg'
    exact hB.block g (hao g hg').1 (hao g hg').2
  · rw [own_ob] at hg'
    have := h.le g hg'
    exact (hB.block g (by omega) this.2).trans (hsame g this.1 (fun e => h.d g e hg'))
  · intro g hg' he
    rcases ho with h1 | h1
    · exact h.d g (by rw [← h1]; exact hg') he
    · rw [h1] at hg'; cases hg'; have := (h.le _ he).1; omega
  · exact (hB.block k (by omega) (fun e => hn (.inl e))).trans (hsame k hk (fun e => hn (.inr (.inl e))))
  · rintro k (hk | hk | hk)
    · exact .inl (.inl hk)
    · rcases ho with h1 | h1
      · exact .inl (.inr (.inl (by rw [← h1]; exact hk)))
      · rw [h1] at hk; cases hk; exact .inr s1
    · exact .inl (.inr (.inr hk))
/-- The row of those that ended has grown. -/
theorem CkB.grew_e {w w5 w6 : World} {H : Nat} {s : Sv} {f f' : Int} {st : Bool} {la ea ao : Option Addr} {lc ec cap : Nat} {lv en en' : List Wn} (h : CkB w H s f st la lc lv ea ec en) (hb : Below w.heap.size w w5)
    (h2 : ORow w6 45 3 (.slice ao en'.length cap) en'.length (en'.flatMap Wn.cells)) (hg : w5.grownBy w6 (Value.slice ea en.length ec).ownBlock) (ho : (Value.slice ao en'.length cap).ownBlock = (Value.slice ea en.length ec).ownBlock ∨ (Value.slice ao en'.length cap).ownBlock = some w5.heap.size) :
    (w6.cell? ⟨H, 6, none⟩).isSome = true ∧ w6.frozen? ⟨H, 6, none⟩ = false ∧ CkB (w6.setCell ⟨H, 6, none⟩ (.slice ao en'.length cap)) H s f st la lc lv ao cap en' ∧ GrowS (Bl H la ea) (Bl H la ao) w (w6.setCell ⟨H, 6, none⟩ (.slice ao en'.length cap)) := by
  rw [own_ob] at hg
  rw [own_ob, own_ob] at ho
  have s1 := hb.size
  have s2 := hg.size
  have hH := lt_of_block h.box
  have hsame : ∀ k, k < w.heap.size → ob ea ≠ some k → w6.heap[k]? = w.heap[k]? := fun k hk hne => (hg.block k (by omega) (fun e => hne e.symm)).trans (hb.block k hk)
  have hbox6 := (hsame H hH (fun e => (h.le H e).2 rfl)).trans h.box
  have hB : But H w6 (w6.setCell ⟨H, 6, none⟩ (.slice ao en'.length cap)) := (But.refl H w6).set 6 _
  have hz : (w6.setCell ⟨H, 6, none⟩ (.slice ao en'.length cap)).heap.size = w6.heap.size := by simp
  have hao : ∀ g, ob ao = some g → g < w6.heap.size ∧ g ≠ H := fun g hg' => by
    rcases ho with h1 | h1
    · have := h.le g (by rw [← h1]; exact hg'); exact ⟨by omega, this.2⟩
    · refine ⟨h2.lt g (by rw [own_ob]; exact hg'), ?_⟩
      rw [h1] at hg'; cases hg'; omega
  refine ⟨by rw [cell_in hbox6 rfl]; rfl, free_in hbox6 _, ⟨set_at hbox6, h.l.hold (fun g hg' => ?_), h2.hold (fun g hg' => ?_), ?_⟩, ⟨hB.os.trans (hg.os.trans hb.os), hB.tape.trans (hg.tape.trans hb.tape), hB.output.trans (hg.output.trans hb.output), by omega, fun k hk hn => ?_, ?_⟩⟩
  · rw [own_ob] at hg'
    have := h.ll g hg'
    exact (hB.block g (by omega) this.2).trans (hsame g this.1 (fun e => h.d g hg' e))
  · rw [own_ob] at hg'
    exact hB.block g (hao g hg').1 (hao g hg').2
  · intro g hg' he
    rcases ho with h1 | h1
    · exact h.d g hg' (by rw [← h1]; exact he)
    · rw [h1] at he; cases he; have := (h.ll _ hg').1; omega
  · exact (hB.block k (by omega) (fun e => hn (.inl e))).trans (hsame k hk (fun e => hn (.inr (.inr e))))
  · rintro k (hk | hk | hk)
    · exact .inl (.inl hk)
    · exact .inl (.inr (.inl hk))
    · rcases ho with h1 | h1
      · exact .inl (.inr (.inr (by rw [← h1]; exact hk)))
      · rw [h1] at hk; cases hk; exact .inr s1
set_option maxRecDepth 100000 in
set_option maxHeartbeats 4000000 in
theorem lay_ck (w : World) (H : Nat) (s : Sv) (f : Int) (st : Bool) (la ea : Option Addr) (lc ec : Nat) (lv en : List Wn) (h : CkB w H s f st la lc lv ea ec en) (hl : lv.length ≤ 1000) (now n : Int) :
    Calls Try.prog 31 #[.pointer (some ⟨H, 0, none⟩), .int .i64 now, .int .i64 n] w fun e w' => e = .returned (.tuple #[]) ∧ ∃ la' lc', CkB w' H s f st la' lc' (lv ++ [⟨now, n, 0⟩]) ea ec en ∧ GrowS (Bl H la ea) (Bl H la' ea) w w' := by
  obtain ⟨i0, hi, hz0, hz1, hz2⟩ := info_parts Try.infoChk
  have HI := Lib.hid hi
  have b0 := h.c0
  obtain ⟨m, hm⟩ : ∃ m, m = lv.length := ⟨_, rfl⟩
  obtain ⟨xs, hxs⟩ : ∃ xs, xs = lv.flatMap Wn.cells := ⟨_, rfl⟩
  have hbV : Below w.heap.size w (w.alloc (.cells #[.int .i64 now, .int .i64 n, .int .i64 0] 45)) := below1 _ _
  have hlo := h.l.later hbV
  rw [← hm, ← hxs] at hlo
  rw [← hm] at b0 hl
  have HV : Hid (ORow (w.alloc (.cells #[.int .i64 now, .int .i64 n, .int .i64 0] 45)) 45 3 (.slice la m lc) m xs ∧ Lies (w.alloc (.cells #[.int .i64 now, .int .i64 n, .int .i64 0] 45)) w.heap.size (w.heap.size + 1) (.slice (some ⟨w.heap.size, 0, none⟩) 1 1) 1 3 [.int .i64 now, .int .i64 n, .int .i64 0]) := Lib.hid ⟨hlo, one_lies (heap_alloc_new _ _) rfl⟩
  have HQ := Lib.hid h
  have HM := Lib.hid hm
  have HXS := Lib.hid hxs
  have HBV := Lib.hid hbV
  clear h hm hxs hbV hlo hi
  go_enter Try.func31, Try.ntmps31
  go_wp2_with (first
    | (refine wpList_append_off (by rfl) (.tmp 10) (.tmp 14) 42 (by rfl) 45 i0 _ 3 24 Try.underlying42 HI.out hz0 hz1 hz2 rfl (by omega) (.slice la m lc) m xs (by rfl) HV.out.1 (.slice (some ⟨w.heap.size, 0, none⟩) 1 1) w.heap.size (w.heap.size + 1) 1 [.int .i64 now, .int .i64 n, .int .i64 0] (by rfl) HV.out.2 (wn_one ⟨now, n, 0⟩) (by omega) (by simp only [maxLen]; omega) (by omega) ?_
       intro ao cap w6 hown6 hgrow6 hob6
       rw [HXS.out, HM.out] at hown6
       rw [HM.out] at hgrow6 hob6
       have hk := HQ.out.grew_l (lv' := lv ++ [⟨now, n, 0⟩]) (f' := 0) HBV.out (by simpa [Wn.cells] using hown6) hgrow6 (by simpa using hob6)
       rw [show (lv ++ [(⟨now, n, 0⟩ : Wn)]).length = m + 1 by rw [HM.out]; simp] at hk
       obtain ⟨u, hu⟩ := Option.isSome_iff_exists.1 hk.1
       have hfz := hk.2.1
       have HK := Lib.hid hk.2.2
       clear hk hown6 hgrow6 hob6)
    | fail "no arm")
  go_end0
  exact ⟨rfl, ao, cap, by simpa using HK.out.1, HK.out.2⟩
end Go.Proofs.Ytoofkeeoolgpdaa
