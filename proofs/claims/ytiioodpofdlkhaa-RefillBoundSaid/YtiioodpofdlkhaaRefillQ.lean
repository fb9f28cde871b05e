/- The program's refilled budget: began, lay, use. -/
import Derived.Test.YtiioodpofdlkhaaRefillP
namespace Go.Proofs.Ytiioodpofdlkhaa
open Go.ChangeShapes Go.WideShapes Go.ChangeAt Go.RowKit
set_option linter.unusedVariables false

theorem began_is {T st last now : Int} (hT : 1 ≤ T) : (decide (now - (now - st) % T > last)) = decide (perOf T st last < perOf T st now) := by
  unfold perOf
  have e1 := Int.emod_add_mul_ediv (now - st) T
  have e2 := Int.emod_add_mul_ediv (last - st) T
  have g1 := Int.emod_nonneg (last - st) (show T ≠ 0 by omega)
  have g2 := Int.emod_lt_of_pos (last - st) (show 0 < T by omega)
  rw [Bool.eq_iff_iff]
  simp only [decide_eq_true_eq]
  generalize (now - st) / T = p at *
  generalize (last - st) / T = q at *
  constructor
  · intro h
    by_cases hh : q < p
    · exact hh
    · exfalso
      have : T * p ≤ T * q := Int.mul_le_mul_of_nonneg_left (by omega) (by omega)
      omega
  · intro h
    have : T * (q + 1) ≤ T * p := Int.mul_le_mul_of_nonneg_left (by omega) (by omega)
    rw [Int.mul_add] at this
    omega
set_option maxRecDepth 100000 in
set_option maxHeartbeats 4000000 in
theorem began_raw (w : World) (H : Nat) (t st last now m : Int) (b3 : w.cell? ⟨H, 3, none⟩ = some (.int .i64 t)) (b4 : w.cell? ⟨H, 4, none⟩ = some (.int .i64 st)) (b5 : w.cell? ⟨H, 5, none⟩ = some (.int .i64 last)) (h0 : 0 ≤ st) (h2 : st ≤ now) (h3 : now ≤ 4611687117939015680) (hs : 1 ≤ t ∧ t ≤ 1000) (hm : Hid (m = (now - st) % t)) (g1 : 0 ≤ m) (g2 : m < t) :
    Calls Try.prog 20 #[.pointer (some ⟨H, 0, none⟩), .int .i64 now] w fun e w' => e = .returned (.bool (decide (last < now - m))) ∧ ∃ n, w' = w.drewN n := by
  have t0 : decide (now < st) = false := decide_eq_false (by omega)
  have e1 : IntKind.i64.wrap (now - st) = now - st := IntWalk.i64_in _ (by omega)
  have e2 : IntKind.i64.wrap (now - m) = now - m := IntWalk.i64_in _ (by omega)
  have HM := Lib.hid (show rest (now - st) t = m by rw [hm.out]; exact rest_pos hs.1)
  have HC : Hid (∀ W : World, Calls Try.prog 29 #[.int .i64 (now - st), .int .i64 t] W fun e w' => e = .returned (.int .i64 m) ∧ ∃ n, w' = W.drewN n) := Lib.hid fun W => (numMod_any (now - st) t W (by omega) (by omega) (by omega)).mono (by rintro e w' ⟨rfl, rfl⟩; exact ⟨by rw [HM.out], 0, rfl⟩)
  go_enter Try.func20, Try.ntmps20
  go_wp2_with fail
  go_quiet (first | (go_at_call 29; exact Calls.quiet_of (HC.out _)))
  go_wp2_with fail
  go_ret
  exact ⟨rfl, ⟨_, rfl⟩⟩
theorem began_any (w : World) (H : Nat) (s : Sv) (st last f : Int) (sp : Bool) (la : Option Addr) (lc : Nat) (lv : List Bk) (h : RfB w H s st last f sp la lc lv) (now : Int) (h0 : 0 ≤ st) (h1 : st ≤ last) (h2 : last ≤ now) (h3 : now ≤ 4611687117939015680) (hs : 1 ≤ s.t ∧ s.t ≤ 1000) :
    Calls Try.prog 20 #[.pointer (some ⟨H, 0, none⟩), .int .i64 now] w fun e w' => e = .returned (.bool (decide (perOf s.t st last < perOf s.t st now))) ∧ ∃ n, w' = w.drewN n := by
  rw [← began_is (T := s.t) (st := st) (last := last) (now := now) hs.1]
  exact began_raw w H s.t st last now _ h.c3 h.c4 h.c5 h0 (by omega) h3 hs (Lib.hid rfl) (Int.emod_nonneg _ (by omega)) (Int.emod_lt_of_pos _ (by omega))
/-- The live row has grown: the box is written behind. -/
theorem RfB.grew {w w5 w6 : World} {H : Nat} {s : Sv} {st now f : Int} {sp : Bool} {la ao : Option Addr} {lc cap : Nat} {lv lv' : List Bk} (h : RfB w H s st now f sp la lc lv) (hb : Below w.heap.size w w5)
    (h2 : ORow w6 36 2 (.slice ao lv'.length cap) lv'.length (lv'.flatMap Bk.cells)) (hg : w5.grownBy w6 (Value.slice la lv.length lc).ownBlock) (ho : (Value.slice ao lv'.length cap).ownBlock = (Value.slice la lv.length lc).ownBlock ∨ (Value.slice ao lv'.length cap).ownBlock = some w5.heap.size) :
    (w6.cell? ⟨H, 0, none⟩).isSome = true ∧ w6.frozen? ⟨H, 0, none⟩ = false ∧ RfB (w6.setCell ⟨H, 0, none⟩ (.slice ao lv'.length cap)) H s st now f sp ao cap lv' ∧ GrowS (Rfl H la) (Rfl H ao) w (w6.setCell ⟨H, 0, none⟩ (.slice ao lv'.length cap)) := by
  rw [own_ob] at hg
  rw [own_ob, own_ob] at ho
  have s1 := hb.size
  have s2 := hg.size
  have hH := lt_of_block h.box
  have hsame : ∀ k, k < w.heap.size → ob la ≠ some k → w6.heap[k]? = w.heap[k]? := fun k hk hne => (hg.block k (by omega) (fun e => hne e.symm)).trans (hb.block k hk)
  have hbox6 := (hsame H hH (fun e => (h.ll H e).2 rfl)).trans h.box
  have hB : But H w6 (w6.setCell ⟨H, 0, none⟩ (.slice ao lv'.length cap)) := (But.refl H w6).set 0 _
  have hz : (w6.setCell ⟨H, 0, none⟩ (.slice ao lv'.length cap)).heap.size = w6.heap.size := by simp
  have hao : ∀ g, ob ao = some g → g < w6.heap.size ∧ g ≠ H := fun g hg' => by
    rcases ho with h1 | h1
    · have := h.ll g (by rw [← h1]; exact hg'); exact ⟨by omega, this.2⟩
    · refine ⟨h2.lt g (by rw [own_ob]; exact hg'), ?_⟩
      rw [h1] at hg'; cases hg'; omega
  refine ⟨by rw [cell_in hbox6 rfl]; rfl, free_in hbox6 _, ⟨set_at hbox6, h2.hold (fun g hg' => ?_)⟩, ⟨hB.os.trans (hg.os.trans hb.os), hB.tape.trans (hg.tape.trans hb.tape), hB.output.trans (hg.output.trans hb.output), by omega, fun k hk hn => ?_, ?_⟩⟩
  · rw [own_ob] at hg'
    exact hB.block g (hao g hg').1 (hao g hg').2
  · exact (hB.block k (by omega) (fun e => hn (.inl e))).trans (hsame k hk (fun e => hn (.inr e)))
  · rintro k (hk | hk)
    · exact .inl (.inl hk)
    · rcases ho with h1 | h1
      · exact .inl (.inr (by rw [← h1]; exact hk))
      · rw [h1] at hk; cases hk; exact .inr s1
set_option maxRecDepth 100000 in
set_option maxHeartbeats 4000000 in
theorem rlay_ck (w : World) (H : Nat) (s : Sv) (st last f : Int) (sp : Bool) (la : Option Addr) (lc : Nat) (lv : List Bk) (h : RfB w H s st last f sp la lc lv) (hl : lv.length ≤ 1000) (now n : Int) :
    Calls Try.prog 22 #[.pointer (some ⟨H, 0, none⟩), .int .i64 now, .int .i64 n] w fun e w' => e = .returned (.tuple #[]) ∧ ∃ la' lc', RfB w' H s st last f sp la' lc' (lv ++ [⟨now, n⟩]) ∧ GrowS (Rfl H la) (Rfl H la') w w' := by
  obtain ⟨i0, hi, hz0, hz1, hz2⟩ := info_parts Try.infoRck
  have HI := Lib.hid hi
  have b0 := h.c0
  obtain ⟨m, hm⟩ : ∃ m, m = lv.length := ⟨_, rfl⟩
  obtain ⟨xs, hxs⟩ : ∃ xs, xs = lv.flatMap Bk.cells := ⟨_, rfl⟩
  have hbV : Below w.heap.size w (w.alloc (.cells #[.int .i64 now, .int .i64 n] 36)) := below1 _ _
  have hlo := h.l.later hbV
  rw [← hm, ← hxs] at hlo
  rw [← hm] at b0 hl
  have HV : Hid (ORow (w.alloc (.cells #[.int .i64 now, .int .i64 n] 36)) 36 2 (.slice la m lc) m xs ∧ Lies (w.alloc (.cells #[.int .i64 now, .int .i64 n] 36)) w.heap.size (w.heap.size + 1) (.slice (some ⟨w.heap.size, 0, none⟩) 1 1) 1 2 [.int .i64 now, .int .i64 n]) := Lib.hid ⟨hlo, one_lies (heap_alloc_new _ _) rfl⟩
  have HQ := Lib.hid h
  have HM := Lib.hid hm
  have HXS := Lib.hid hxs
  have HBV := Lib.hid hbV
  clear h hm hxs hbV hlo hi
  go_enter Try.func22, Try.ntmps22
  go_wp2_with (first
    | (refine wpList_append_off (by rfl) (.tmp 10) (.tmp 14) 30 (by rfl) 36 i0 _ 2 16 Try.underlying30 HI.out hz0 hz1 hz2 rfl (by omega) (.slice la m lc) m xs (by rfl) HV.out.1 (.slice (some ⟨w.heap.size, 0, none⟩) 1 1) w.heap.size (w.heap.size + 1) 1 [.int .i64 now, .int .i64 n] (by rfl) HV.out.2 (bk_one ⟨now, n⟩) (by omega) (by simp only [maxLen]; omega) (by omega) ?_
       intro ao cap w6 hown6 hgrow6 hob6
       rw [HXS.out, HM.out] at hown6
       rw [HM.out] at hgrow6 hob6
       have hk := HQ.out.grew (lv' := lv ++ [⟨now, n⟩]) HBV.out (by simpa [Bk.cells] using hown6) hgrow6 (by simpa using hob6)
       rw [show (lv ++ [(⟨now, n⟩ : Bk)]).length = m + 1 by rw [HM.out]; simp] at hk
       obtain ⟨u, hu⟩ := Option.isSome_iff_exists.1 hk.1
       have hfz := hk.2.1
       have HK := Lib.hid hk.2.2
       clear hk hown6 hgrow6 hob6)
    | fail "no arm")
  go_end0
  exact ⟨rfl, ao, cap, by simpa using HK.out.1, HK.out.2⟩
set_option maxRecDepth 100000 in
set_option maxHeartbeats 4000000 in
theorem ruse_more (w : World) (H n c g off : Nat) (x1 : Int) (b0 : w.cell? ⟨H, 0, none⟩ = some (.slice (some ⟨g, off, none⟩) n c)) (hn : 0 < n) (g1 : w.cell? ⟨g, off + 1, none⟩ = some (.int .i64 x1)) (f1 : w.frozen? ⟨g, off + 1, none⟩ = false) (hne : g ≠ H) (h1 : 2 ≤ x1 ∧ x1 ≤ 1000) :
    Calls Try.prog 24 #[.pointer (some ⟨H, 0, none⟩)] w fun e w' => e = .returned (.tuple #[]) ∧ w' = w.setCell ⟨g, off + 1, none⟩ (.int .i64 (x1 - 1)) := by
  have l1 : (0 : Int) < (n : Int) := by omega
  have e1 : IntKind.i64.wrap (x1 - 1) = x1 - 1 := IntWalk.i64_in _ (by omega)
  have t0 : ((x1 - 1) == 0) = false := by simp; omega
  have hne2 : H ≠ g := fun e => hne e.symm
  go_enter Try.func24, Try.ntmps24
  go_wp2
  go_end0
  exact ⟨rfl, rfl⟩
set_option maxRecDepth 100000 in
set_option maxHeartbeats 4000000 in
theorem ruse_last (w : World) (H n c g off : Nat) (a' : Option Addr) (b0 : w.cell? ⟨H, 0, none⟩ = some (.slice (some ⟨g, off, none⟩) n c)) (f0 : w.frozen? ⟨H, 0, none⟩ = false) (hn : 0 < n) (g1 : w.cell? ⟨g, off + 1, none⟩ = some (.int .i64 1)) (f1 : w.frozen? ⟨g, off + 1, none⟩ = false) (hne : g ≠ H)
    (HS : Hid (a' = if c = 1 then some ⟨g, off, none⟩ else some ⟨g, off + 2, none⟩)) :
    Calls Try.prog 24 #[.pointer (some ⟨H, 0, none⟩)] w fun e w' => e = .returned (.tuple #[]) ∧ w' = (w.setCell ⟨g, off + 1, none⟩ (.int .i64 0)).setCell ⟨H, 0, none⟩ (.slice a' (n - 1) (c - 1)) := by
  have l1 : (0 : Int) < (n : Int) := by omega
  have l2 : (1 : Int) ≤ (n : Int) := by omega
  have hne2 : H ≠ g := fun e => hne e.symm
  go_enter Try.func24, Try.ntmps24
  go_wp2
  all_goals
    have e := HS.out
    simp only [h, if_true, if_false] at e
    subst e
    go_end0
    first | exact ⟨rfl, rfl⟩ | exact ⟨rfl, trivial⟩
theorem ruse_ck (w : World) (H : Nat) (s : Sv) (st now f : Int) (sp : Bool) (la : Option Addr) (lc : Nat) (x : Bk) (l : List Bk) (h : RfB w H s st now f sp la lc (x :: l)) (h1 : 1 ≤ x.n ∧ x.n ≤ 1000) :
    Calls Try.prog 24 #[.pointer (some ⟨H, 0, none⟩)] w fun e w' => e = .returned (.tuple #[]) ∧ ∃ la' lc', RfB w' H s st now f sp la' lc' (if x.n - 1 = 0 then l else ⟨x.at_, x.n - 1⟩ :: l) ∧ GrowS (Rfl H la) (Rfl H la') w w' := by
  obtain ⟨g, off, rfl, g0, g1, hf⟩ := rrow_head h.l (by simp)
  have hne := (h.ll g rfl).2
  have hgl := (h.ll g rfl).1
  by_cases hz : x.n - 1 = 0
  · rw [if_pos hz]
    have e1 : x.n = 1 := by omega
    rw [e1] at g1
    obtain ⟨n, hn⟩ : ∃ n, n = (x :: l).length := ⟨_, rfl⟩
    have hn1 : 0 < n := by rw [hn]; simp
    have hm : n - 1 = l.length := by rw [hn]; simp
    have hl0 := h.l.set (j := 1) (by simp; omega) (.int .i64 0)
    rw [← hn] at hl0
    obtain ⟨a', hs', hl', ho'⟩ := hl0.cut hn1
    have hdrop : (((x :: l).flatMap Bk.cells).set 1 (.int .i64 0)).drop 2 = l.flatMap Bk.cells := by simp [Bk.cells]
    rw [hdrop] at hl'
    have b0 := h.c0
    rw [← hn] at b0
    refine (ruse_last w H n lc g off a' b0 (h.fz 0) hn1 g1 (hf _) hne (Lib.hid ?_)).mono ?_
    · rw [← hs']; split <;> rfl
    rintro e w' ⟨rfl, rfl⟩
    obtain ⟨W, hW⟩ : ∃ W, W = w.setCell ⟨g, off + 1, none⟩ (.int .i64 0) := ⟨_, rfl⟩
    rw [← hW] at hl' ⊢
    have hBg : But g w W := by rw [hW]; exact (But.refl g w).set (off + 1) _
    have hBH : But H W (W.setCell ⟨H, 0, none⟩ (.slice a' (n - 1) (lc - 1))) := (But.refl H W).set 0 _
    have hbox : W.heap[H]? = _ := (hBg.block H (lt_of_block h.box) (fun e => hne e.symm)).trans h.box
    have hob : ob a' = some g := by
      rw [own_ob, own_ob] at ho'
      rw [ho']; rfl
    have hz2 : W.heap.size = w.heap.size := by rw [hW]; simp
    refine ⟨rfl, a', lc - 1, ⟨?_, ?_⟩, ?_⟩
    · rw [← hm]; exact set_at hbox
    · rw [← hm]
      refine hl'.hold (fun k hk => ?_)
      rw [own_ob, hob] at hk
      cases hk
      exact hBH.block g (by rw [hz2]; exact hgl) hne
    · have hgr : GrowS (Rfl H (some ⟨g, off, none⟩)) (Rfl H (some ⟨g, off, none⟩)) w _ := (grow_but hBg (S := Rfl H (some ⟨g, off, none⟩)) (.inr rfl)).trans (grow_but hBH (.inl rfl))
      exact ⟨hgr.os, hgr.tape, hgr.output, hgr.size, hgr.block, fun k hk => .inl (hk.elim .inl (fun h => .inr (by rw [hob] at h; exact h)))⟩
  · rw [if_neg hz]
    refine (ruse_more w H _ lc g off _ h.c0 (by simp) g1 (hf _) hne (by omega)).mono ?_
    rintro e w' ⟨rfl, rfl⟩
    have hB : But g w (w.setCell ⟨g, off + 1, none⟩ (.int .i64 (x.n - 1))) := (But.refl g w).set (off + 1) _
    refine ⟨rfl, some ⟨g, off, none⟩, lc, ⟨(hB.block H (lt_of_block h.box) (fun e => hne e.symm)).trans h.box, ?_⟩, grow_but hB (.inr rfl)⟩
    have := h.l.set (j := 1) (by simp; omega) (.int .i64 (x.n - 1))
    simpa [Bk.cells] using this
end Go.Proofs.Ytiioodpofdlkhaa
