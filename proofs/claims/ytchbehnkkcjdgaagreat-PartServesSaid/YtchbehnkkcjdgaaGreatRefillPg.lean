/- Joined of RefillP, RefillQ, RefillG, RefillY: The program's refilled budget in memory; made, none, first, left, due, began, lay, use. -/
import Derived.Test.YtchbehnkkcjdgaaGreatRefillC
import Derived.Test.YtchbehnkkcjdgaaGreatOff
import Derived.Test.YtchbehnkkcjdgaaGreatNum
import Derived.BigQuiet
import Derived.BigRegion
import Derived.Test.YtchbehnkkcjdgaaGreatBuild
import Derived.Test.YtchbehnkkcjdgaaGreatRights
import Derived.Test.YtchbehnkkcjdgaaGreatLawEighteenD
import Derived.OwnWalk
namespace Go.Proofs.YtchbehnkkcjdgaaGreat
open Go.ChangeShapes Go.WideShapes Go.ChangeAt Go.RowKit
set_option linter.unusedVariables false
/-- What a budget has in memory: its box H and its live chunks. -/
structure RfB (w : World) (H : Nat) (s : Sv) (st now f : Int) (sp : Bool) (la : Option Addr) (lc : Nat) (lv : List Bk) : Prop where
 box : w.heap[H]? = some (.cells #[.slice la lv.length lc, .bool s.re, .int .i64 s.c, .int .i64 s.t, .int .i64 st, .int .i64 now, .int .i64 f, .bool sp] 247 (0, 0))
 l : ORow w 316 2 (.slice la lv.length lc) lv.length (lv.flatMap Bk.cells)
/-- Its blocks. -/
def Rfl (H : Nat) (la : Option Addr) : Nat → Prop := fun k => k = H ∨ ob la = some k
section
variable {w w' : World} {H : Nat} {s : Sv} {st now f now' f' : Int} {sp sp' : Bool} {la : Option Addr} {lc : Nat} {lv : List Bk}
theorem RfB.ll (h : RfB w H s st now f sp la lc lv) : ∀ g, ob la = some g → g < w.heap.size ∧ g ≠ H := fun g hg => by
 have h1 := h.l.kind g (by rw [own_ob]; exact hg)
 obtain ⟨cs, hc⟩ := h1
 refine ⟨lt_of_block hc, fun e => ?_⟩
 subst e
 have := h.box
 rw [hc] at this
 simp at this
theorem RfB.lt (h : RfB w H s st now f sp la lc lv) : ∀ k, Rfl H la k → k < w.heap.size := by
 rintro k (rfl | hk)
 ·exact lt_of_block h.box
 ·exact (h.ll k hk).1
theorem RfB.hold (h : RfB w H s st now f sp la lc lv) (hs : ∀ k, Rfl H la k → w'.heap[k]? = w.heap[k]?) : RfB w' H s st now f sp la lc lv :=
 ⟨(hs H (.inl rfl)).trans h.box, h.l.hold (fun g hg => hs g (.inr (by rwa [own_ob] at hg)))⟩
theorem RfB.later (h : RfB w H s st now f sp la lc lv) (hb : Below w.heap.size w w') : RfB w' H s st now f sp la lc lv := h.hold fun k hk => hb.block k (h.lt k hk)
theorem RfB.drew (h : RfB w H s st now f sp la lc lv) : RfB w.drew H s st now f sp la lc lv := h.later (Below.refl _ _).drew
/-- Another box, the same row. -/
theorem RfB.boxed (h : RfB w H s st now f sp la lc lv) (hb : w'.heap[H]? = some (.cells #[.slice la lv.length lc, .bool s.re, .int .i64 s.c, .int .i64 s.t, .int .i64 st, .int .i64 now', .int .i64 f', .bool sp'] 247 (0, 0))) (hs : ∀ k, k < w.heap.size → k ≠ H → w'.heap[k]? = w.heap[k]?) : RfB w' H s st now' f' sp' la lc lv :=
 ⟨hb, h.l.hold (fun g hg => by rw [own_ob] at hg; exact hs g (h.ll g hg).1 (h.ll g hg).2)⟩
theorem RfB.c0 (h : RfB w H s st now f sp la lc lv) : w.cell? ⟨H, 0, none⟩ = some (.slice la lv.length lc) := cell_in h.box rfl
theorem RfB.c2 (h : RfB w H s st now f sp la lc lv) : w.cell? ⟨H, 2, none⟩ = some (.int .i64 s.c) := cell_in h.box rfl
theorem RfB.c3 (h : RfB w H s st now f sp la lc lv) : w.cell? ⟨H, 3, none⟩ = some (.int .i64 s.t) := cell_in h.box rfl
theorem RfB.c4 (h : RfB w H s st now f sp la lc lv) : w.cell? ⟨H, 4, none⟩ = some (.int .i64 st) := cell_in h.box rfl
theorem RfB.c5 (h : RfB w H s st now f sp la lc lv) : w.cell? ⟨H, 5, none⟩ = some (.int .i64 now) := cell_in h.box rfl
theorem RfB.c6 (h : RfB w H s st now f sp la lc lv) : w.cell? ⟨H, 6, none⟩ = some (.int .i64 f) := cell_in h.box rfl
theorem RfB.c7 (h : RfB w H s st now f sp la lc lv) : w.cell? ⟨H, 7, none⟩ = some (.bool sp) := cell_in h.box rfl
theorem RfB.fz (h : RfB w H s st now f sp la lc lv) (j : Nat) : w.frozen? ⟨H, j, none⟩ = false := free_in h.box j
end
theorem bk_oneF (x : Bk) : ∀ u ∈ x.cells, u.oneCell' = true := by intro u hu; simp [Bk.cells] at hu; rcases hu with h | h <;> subst h <;> rfl
theorem set2r {w : World} {X : Nat} {T : TypeId} {cs : Array Value} (h : w.heap[X]? = some (.cells cs T (0, 0))) (hs : cs.size = 2) (v0 v1 : Value) :
 ((w.setCell ⟨X, 0, none⟩ v0).setCell ⟨X, 1, none⟩ v1).heap[X]? = some (.cells #[v0, v1] T (0, 0)) := by
 have h3 := set_at (j := 1) (u := v1) (set_at (j := 0) (u := v0) h)
 rw [h3]
 match cs, hs with
 | ⟨[a, b]⟩, _ => rfl
theorem Tryz.sizeRck : (Tryz.prog.info? 316).map (·.size) = some 2 := by kernel_rfl
theorem Tryz.infoRck : (Tryz.prog.info? 316).map (fun i => (i.zero, i.size, i.bytes)) = some (some (.agg #[.int .i64 0, .int .i64 0]), 2, 16) := by kernel_rfl
set_option maxRecDepth 100000 in
set_option maxHeartbeats 4000000 in
theorem rmade_yes (w : World) (H : Nat) (t : Int) (b3 : w.cell? ⟨H, 3, none⟩ = some (.int .i64 t)) (ht : 1 ≤ t) : Calls Tryz.prog 259 #[.pointer (some ⟨H, 0, none⟩)] w fun e w' => e = .returned (.bool true) ∧ w' = w := by
 have t0 : decide (0 < t) = true := decide_eq_true (by omega)
 go_enter Tryz.func259, Tryz.ntmps259
 go_wp2
 go_ret
 exact ⟨rfl, rfl⟩
set_option maxRecDepth 100000 in
set_option maxHeartbeats 4000000 in
theorem rfdue_any (w : World) (H : Nat) (t x : Int) (b3 : w.cell? ⟨H, 3, none⟩ = some (.int .i64 t)) (ht : 1 ≤ t ∧ t ≤ 1000) (hx : 0 ≤ x ∧ x ≤ 4611687117939015680) : Calls Tryz.prog 262 #[.pointer (some ⟨H, 0, none⟩), .int .i64 x] w fun e w' => e = .returned (.int .i64 (x + t)) ∧ w' = w := by
 have H1 := Lib.hid (show max x 0 = x ∧ min t (9223372036854775807 - x) = t by omega)
 have e2 : IntKind.i64.wrap (9223372036854775807 - x) = 9223372036854775807 - x := IntWalk.i64_in _ (by omega)
 go_enter Tryz.func262, Tryz.ntmps262
 go_wp2
 all_goals
  go_ret
  first | exact ⟨rfl, rfl⟩ | (refine ⟨?_, rfl⟩; congr 2; omega)
set_option maxRecDepth 100000 in
set_option maxHeartbeats 4000000 in
theorem rnone_any (w : World) (H n c : Nat) (a : Option Addr) (b0 : w.cell? ⟨H, 0, none⟩ = some (.slice a n c)) : Calls Tryz.prog 261 #[.pointer (some ⟨H, 0, none⟩)] w fun e w' => e = .returned (.bool (decide (n = 0))) ∧ w' = w := by
 have t0 : ((n : Int) == 0) = decide (n = 0) := by
  rw [Bool.eq_iff_iff]; simp
 go_enter Tryz.func261, Tryz.ntmps261
 go_wp2
 go_ret
 exact ⟨rfl, rfl⟩
/-- A row's first one. -/
theorem rrow_head {w : World} {a : Option Addr} {n c : Nat} {x : Bk} {l : List Bk} (h : ORow w 316 2 (.slice a n c) n ((x :: l).flatMap Bk.cells)) (hn : 0 < n) : ∃ g off, a = some ⟨g, off, none⟩ ∧ w.cell? ⟨g, off, none⟩ = some (.int .i64 x.at_) ∧ w.cell? ⟨g, off + 1, none⟩ = some (.int .i64 x.n) ∧ (∀ j, w.frozen? ⟨g, j, none⟩ = false) := by
 obtain ⟨g, off, rfl, hc, hf, _⟩ := h.at_ hn
 exact ⟨g, off, rfl, hc 0 _ (by simp [Bk.cells]), hc 1 _ (by simp [Bk.cells]), hf⟩
set_option maxRecDepth 100000 in
set_option maxHeartbeats 4000000 in
theorem rfirst_any (w : World) (H n c g off : Nat) (x0 x1 : Int) (b0 : w.cell? ⟨H, 0, none⟩ = some (.slice (some ⟨g, off, none⟩) n c)) (hn : 0 < n) (g0 : w.cell? ⟨g, off, none⟩ = some (.int .i64 x0)) (g1 : w.cell? ⟨g, off + 1, none⟩ = some (.int .i64 x1)) :
 Calls Tryz.prog 263 #[.pointer (some ⟨H, 0, none⟩)] w fun e w' => e = .returned (.agg #[.int .i64 x0, .int .i64 x1]) ∧ Below w.heap.size w w' := by
 have l1 : (0 : Int) < (n : Int) := by omega
 obtain ⟨V, hV⟩ : ∃ V, V = w.alloc (.cells #[.int .i64 0, .int .i64 0] 316) := ⟨_, rfl⟩
 obtain ⟨E, hE⟩ : ∃ E, E = w.heap.size := ⟨_, rfl⟩
 have hbV : Below w.heap.size w V := by rw [hV]; exact below1 _ _
 have hEV : V.heap[E]? = some (.cells #[.int .i64 0, .int .i64 0] 316 (0, 0)) := by rw [hV, hE]; exact heap_alloc_new _ _
 have k0 : V.cell? ⟨E, 0, none⟩ = some (.int .i64 0) := cell_in hEV rfl
 have k1 : V.cell? ⟨E, 1, none⟩ = some (.int .i64 0) := cell_in hEV rfl
 have y0 := free_in hEV 0
 have y1 := free_in hEV 1
 have b0' : V.cell? ⟨H, 0, none⟩ = some (.slice (some ⟨g, off, none⟩) n c) := by rw [hV]; exact Lib.cell?_alloc_some _ b0
 have g0' : V.cell? ⟨g, off, none⟩ = some (.int .i64 x0) := by rw [hV]; exact Lib.cell?_alloc_some _ g0
 have g1' : V.cell? ⟨g, off + 1, none⟩ = some (.int .i64 x1) := by rw [hV]; exact Lib.cell?_alloc_some _ g1
 have HV := Lib.hid hV
 have HE := Lib.hid hE
 have HEV := Lib.hid hEV
 have HBV := Lib.hid hbV
 clear hV hE hEV hbV b0 g0 g1
 go_enter Tryz.func263, Tryz.ntmps263
 go_upto_region 1 with fail
 rw [← HV.out, ← HE.out]
 go_wp2
 have hX := set2r HEV.out rfl (.int .i64 x0) (.int .i64 x1)
 refine bodyPost_ret (results_cell_row (P := Tryz.prog) rfl _ _ E _ _ (0, 0) _ rfl hX Tryz.underlying316 rfl Tryz.sizeRck) rfl ?_
 exact ⟨rfl, (HBV.out.setCell (p := ⟨E, 0, none⟩) (by rw [HE.out]; exact Nat.le_refl _) _).setCell (p := ⟨E, 1, none⟩) (by rw [HE.out]; exact Nat.le_refl _) _⟩
theorem rfirst_ck (w : World) (H : Nat) (s : Sv) (st now f : Int) (sp : Bool) (la : Option Addr) (lc : Nat) (x : Bk) (l : List Bk) (h : RfB w H s st now f sp la lc (x :: l)) : Calls Tryz.prog 263 #[.pointer (some ⟨H, 0, none⟩)] w fun e w' => e = .returned (.agg #[.int .i64 x.at_, .int .i64 x.n]) ∧ Below w.heap.size w w' := by
 obtain ⟨g, off, rfl, g0, g1, _⟩ := rrow_head h.l (by simp)
 exact rfirst_any w H _ lc g off _ _ h.c0 (by simp) g0 g1
theorem sumB_next {lv : List Bk} {k : Nat} {x : Bk} (h : lv[k]? = some x) : sumB (lv.take (k + 1)) = sumB (lv.take k) + x.n := by
 rw [List.take_add_one, h, sumB_append]; simp [sumB]
theorem sumB_part (lv : List Bk) (h : ∀ x ∈ lv, 1 ≤ x.n) (k : Nat) : 0 ≤ sumB (lv.take k) ∧ sumB (lv.take k) ≤ sumB lv := by
 have e : sumB lv = sumB (lv.take k) + sumB (lv.drop k) := by rw [← sumB_append, List.take_append_drop]
 have h1 := sumB_len (lv.take k) (fun x hx => h x (List.mem_of_mem_take hx))
 have h2 := sumB_len (lv.drop k) (fun x hx => h x (List.mem_of_mem_drop hx))
 omega
set_option maxRecDepth 100000 in
set_option maxHeartbeats 4000000 in
theorem left_ck (w : World) (H : Nat) (s : Sv) (st now f : Int) (sp : Bool) (la : Option Addr) (lc : Nat) (lv : List Bk) (h : RfB w H s st now f sp la lc lv) (h1 : ∀ x ∈ lv, 1 ≤ x.n) (h2 : sumB lv ≤ 1000) :
 Calls Tryz.prog 260 #[.pointer (some ⟨H, 0, none⟩)] w fun e w' => e = .returned (.int .i64 (sumB lv)) ∧ Below w.heap.size w w' := by
 have b0 := h.c0
 obtain ⟨n, hn⟩ : ∃ n, n = lv.length := ⟨_, rfl⟩
 have hl := h.l.lies (lo := 0) (hi := w.heap.size) (fun g hg => ⟨Nat.zero_le _, h.l.lt g hg⟩)
 have hlen := sumB_len lv h1
 rw [← hn] at b0 hl hlen
 have hn2 : n ≤ 1000 := by omega
 have HR : Hid (∀ Y, Below w.heap.size w Y → ∀ (i : Nat) (x : Bk), lv[i]? = some x → ∃ g off, la = some ⟨g, off, none⟩ ∧ Y.cell? ⟨g, off + i * 2, none⟩ = some (.int .i64 x.at_) ∧ Y.cell? ⟨g, off + i * 2 + 1, none⟩ = some (.int .i64 x.n)) := Lib.hid (fun Y hY i x hx => by
  obtain ⟨hi, rfl⟩ := List.getElem?_eq_some_iff.1 hx
  obtain ⟨g, off, e, z0, z1, _⟩ := bks_read hn.symm hl Y hY i (by rw [hn]; exact hi)
  exact ⟨g, off, e, z0, z1⟩)
 have HS := Lib.hid (sumB_part lv h1)
 have H1 := Lib.hid h1
 have HN := Lib.hid hn
 have H2 := Lib.hid h2
 clear h hl hn h1 h2 hlen
 go_enter Tryz.func260, Tryz.ntmps260
 go_wp2
 go_loopw [3, 11] (fun m i wr => ∃ k : Nat, k ≤ n ∧ m = .int .i64 (sumB (lv.take k)) ∧ i = .int .i64 k ∧ Hid (Below w.heap.size w wr)) (fun _ i _ => n - (intOf i).toNat)
 case atStart => exact ⟨0, by omega, rfl, rfl, Lib.hid (Below.refl _ _)⟩
 case round =>
  obtain ⟨k, hk, rfl, rfl, HB⟩ := hrel
  by_cases hlt : k < n
  ·have tk : decide ((k : Int) < (n : Int)) = true := by simpa using hlt
   obtain ⟨x, hx2⟩ : ∃ x, lv[k]? = some x := ⟨_, List.getElem?_eq_getElem (by rw [← HN.out]; exact hlt)⟩
   obtain ⟨g, off, rfl, z0, z1⟩ := HR.out wr HB.out k x hx2
   have HM := Lib.hid (sumB_next hx2)
   have q1 := HS.out k
   have q2 := HS.out (k + 1)
   have q3 := H1.out x (List.mem_of_getElem? hx2)
   rw [HM.out] at q2
   have q4 := H2.out
   clear hx2
   obtain ⟨y, hy⟩ : ∃ y, y = sumB (lv.take k) := ⟨_, rfl⟩
   rw [← hy] at q1 q2 HM
   have l0 : (0 : Int) ≤ (k : Int) := by omega
   have l1 : (k : Int) < (n : Int) := by omega
   obtain ⟨x0, x1⟩ := x
   dsimp only at z0 z1 q2 q3 HM
   have S2 : IntKind.i64.wrap (y + x1) = y + x1 := IntWalk.i64_in _ (by omega)
   rw [← hy]
   have HB2 := Lib.hid (fun (o : Obj) => b_alloc HB.out (Nat.le_refl _) o)
   clear hy q1 q2 q3 q4
   go_wp2_with fail
   all_goals go_roundw
   case rel => exact ⟨k + 1, by omega, by rw [HM.out], by go_num, Lib.hid (HB2.out _)⟩
   case measure => simp [intOf]; omega
  ·have tk : decide ((k : Int) < (n : Int)) = false := by simp; omega
   have HE : Hid (sumB (lv.take k) = sumB lv) := Lib.hid (by rw [List.take_of_length_le (show lv.length ≤ k by rw [← HN.out]; omega)])
   go_wp2_with fail
   go_ret
   exact ⟨ret_int HE.out, HB.out⟩
end Go.Proofs.YtchbehnkkcjdgaaGreat
namespace Go.Proofs.YtchbehnkkcjdgaaGreat
open Go.ChangeShapes Go.WideShapes Go.ChangeAt Go.RowKit
set_option linter.unusedVariables false
theorem began_is {T st last now : Int} (hT : 1 ≤ T) : (decide (now - (now - st) % T > last)) = decide (perOf T st last < perOf T st now) := by
 unfold perOf
 have e1 := Int.emod_add_mul_ediv (now - st) T
 have e2 := Int.emod_add_mul_ediv (last - st) T
 have g1 := Int.emod_nonneg (last - st) (show T ≠ 0 by omega)
 have g2 := Int.emod_lt_of_pos (last - st) (show 0 < T by omega)
 rw [Bool.eq_iff_iff]
 simp only [decide_eq_true_eq]
 generalize (now - st) / T = p at *
 generalize (last - st) / T = q at *
 constructor
 ·intro h
  by_cases hh : q < p
  ·exact hh
  ·exfalso
   have : T * p ≤ T * q := Int.mul_le_mul_of_nonneg_left (by omega) (by omega)
   omega
 ·intro h
  have : T * (q + 1) ≤ T * p := Int.mul_le_mul_of_nonneg_left (by omega) (by omega)
  rw [Int.mul_add] at this
  omega
set_option maxRecDepth 100000 in
set_option maxHeartbeats 4000000 in
theorem began_raw (w : World) (H : Nat) (t st last now m : Int) (b3 : w.cell? ⟨H, 3, none⟩ = some (.int .i64 t)) (b4 : w.cell? ⟨H, 4, none⟩ = some (.int .i64 st)) (b5 : w.cell? ⟨H, 5, none⟩ = some (.int .i64 last)) (h0 : 0 ≤ st) (h2 : st ≤ now) (h3 : now ≤ 4611687117939015680) (hs : 1 ≤ t ∧ t ≤ 1000) (hm : Hid (m = (now - st) % t)) (g1 : 0 ≤ m) (g2 : m < t) :
 Calls Tryz.prog 264 #[.pointer (some ⟨H, 0, none⟩), .int .i64 now] w fun e w' => e = .returned (.bool (decide (last < now - m))) ∧ ∃ n, w' = w.drewN n := by
 have t0 : decide (now < st) = false := decide_eq_false (by omega)
 have e1 : IntKind.i64.wrap (now - st) = now - st := IntWalk.i64_in _ (by omega)
 have e2 : IntKind.i64.wrap (now - m) = now - m := IntWalk.i64_in _ (by omega)
 have HM := Lib.hid (show rest (now - st) t = m by rw [hm.out]; exact rest_pos hs.1)
 have HC : Hid (∀ W : World, Calls Tryz.prog 267 #[.int .i64 (now - st), .int .i64 t] W fun e w' => e = .returned (.int .i64 m) ∧ ∃ n, w' = W.drewN n) := Lib.hid fun W => (numMod_any (now - st) t W (by omega) (by omega) (by omega)).mono (by rintro e w' ⟨rfl, rfl⟩; exact ⟨by rw [HM.out], 0, rfl⟩)
 go_enter Tryz.func264, Tryz.ntmps264
 go_wp2_with fail
 go_quiet (first | (go_at_call 267; exact Calls.quiet_of (HC.out _)))
 go_wp2_with fail
 go_ret
 exact ⟨rfl, ⟨_, rfl⟩⟩
theorem began_any (w : World) (H : Nat) (s : Sv) (st last f : Int) (sp : Bool) (la : Option Addr) (lc : Nat) (lv : List Bk) (h : RfB w H s st last f sp la lc lv) (now : Int) (h0 : 0 ≤ st) (h1 : st ≤ last) (h2 : last ≤ now) (h3 : now ≤ 4611687117939015680) (hs : 1 ≤ s.t ∧ s.t ≤ 1000) :
 Calls Tryz.prog 264 #[.pointer (some ⟨H, 0, none⟩), .int .i64 now] w fun e w' => e = .returned (.bool (decide (perOf s.t st last < perOf s.t st now))) ∧ ∃ n, w' = w.drewN n := by
 rw [← began_is (T := s.t) (st := st) (last := last) (now := now) hs.1]
 exact began_raw w H s.t st last now _ h.c3 h.c4 h.c5 h0 (by omega) h3 hs (Lib.hid rfl) (Int.emod_nonneg _ (by omega)) (Int.emod_lt_of_pos _ (by omega))
/-- The live row has grown: the box is written behind. -/
theorem RfB.grew {w w5 w6 : World} {H : Nat} {s : Sv} {st now f : Int} {sp : Bool} {la ao : Option Addr} {lc cap : Nat} {lv lv' : List Bk} (h : RfB w H s st now f sp la lc lv) (hb : Below w.heap.size w w5)
 (h2 : ORow w6 316 2 (.slice ao lv'.length cap) lv'.length (lv'.flatMap Bk.cells)) (hg : w5.grownBy w6 (Value.slice la lv.length lc).ownBlock) (ho : (Value.slice ao lv'.length cap).ownBlock = (Value.slice la lv.length lc).ownBlock ∨ (Value.slice ao lv'.length cap).ownBlock = some w5.heap.size) :
 (w6.cell? ⟨H, 0, none⟩).isSome = true ∧ w6.frozen? ⟨H, 0, none⟩ = false ∧ RfB (w6.setCell ⟨H, 0, none⟩ (.slice ao lv'.length cap)) H s st now f sp ao cap lv' ∧ GrowS (Rfl H la) (Rfl H ao) w (w6.setCell ⟨H, 0, none⟩ (.slice ao lv'.length cap)) := by
 rw [own_ob] at hg
 rw [own_ob, own_ob] at ho
 have s1 := hb.size
 have s2 := hg.size
 have hH := lt_of_block h.box
 have hsame : ∀ k, k < w.heap.size → ob la ≠ some k → w6.heap[k]? = w.heap[k]? := fun k hk hne => (hg.block k (by omega) (fun e => hne e.symm)).trans (hb.block k hk)
 have hbox6 := (hsame H hH (fun e => (h.ll H e).2 rfl)).trans h.box
 have hB : But H w6 (w6.setCell ⟨H, 0, none⟩ (.slice ao lv'.length cap)) := (But.refl H w6).set 0 _
 have hz : (w6.setCell ⟨H, 0, none⟩ (.slice ao lv'.length cap)).heap.size = w6.heap.size := by simp
 have hao : ∀ g, ob ao = some g → g < w6.heap.size ∧ g ≠ H := fun g hg' => by
  rcases ho with h1 | h1
  ·have := h.ll g (by rw [← h1]; exact hg'); exact ⟨by omega, this.2⟩
  ·refine ⟨h2.lt g (by rw [own_ob]; exact hg'), ?_⟩
   rw [h1] at hg'; cases hg'; omega
 refine ⟨by rw [cell_in hbox6 rfl]; rfl, free_in hbox6 _, ⟨set_at hbox6, h2.hold (fun g hg' => ?_)⟩, ⟨hB.os.trans (hg.os.trans hb.os), hB.tape.trans (hg.tape.trans hb.tape), hB.output.trans (hg.output.trans hb.output), by omega, fun k hk hn => ?_, ?_⟩⟩
 ·rw [own_ob] at hg'
  exact hB.block g (hao g hg').1 (hao g hg').2
 ·exact (hB.block k (by omega) (fun e => hn (.inl e))).trans (hsame k hk (fun e => hn (.inr e)))
 ·rintro k (hk | hk)
  ·exact .inl (.inl hk)
  ·rcases ho with h1 | h1
   ·exact .inl (.inr (by rw [← h1]; exact hk))
   ·rw [h1] at hk; cases hk; exact .inr s1
set_option maxRecDepth 100000 in
set_option maxHeartbeats 4000000 in
theorem rlay_ck (w : World) (H : Nat) (s : Sv) (st last f : Int) (sp : Bool) (la : Option Addr) (lc : Nat) (lv : List Bk) (h : RfB w H s st last f sp la lc lv) (hl : lv.length ≤ 1000) (now n : Int) :
 Calls Tryz.prog 265 #[.pointer (some ⟨H, 0, none⟩), .int .i64 now, .int .i64 n] w fun e w' => e = .returned (.tuple #[]) ∧ ∃ la' lc', RfB w' H s st last f sp la' lc' (lv ++ [⟨now, n⟩]) ∧ GrowS (Rfl H la) (Rfl H la') w w' := by
 obtain ⟨i0, hi, hz0, hz1, hz2⟩ := info_parts Tryz.infoRck
 have HI := Lib.hid hi
 have b0 := h.c0
 obtain ⟨m, hm⟩ : ∃ m, m = lv.length := ⟨_, rfl⟩
 obtain ⟨xs, hxs⟩ : ∃ xs, xs = lv.flatMap Bk.cells := ⟨_, rfl⟩
 have hbV : Below w.heap.size w (w.alloc (.cells #[.int .i64 now, .int .i64 n] 316)) := below1 _ _
 have hlo := h.l.later hbV
 rw [← hm, ← hxs] at hlo
 rw [← hm] at b0 hl
 have HV : Hid (ORow (w.alloc (.cells #[.int .i64 now, .int .i64 n] 316)) 316 2 (.slice la m lc) m xs ∧ Lies (w.alloc (.cells #[.int .i64 now, .int .i64 n] 316)) w.heap.size (w.heap.size + 1) (.slice (some ⟨w.heap.size, 0, none⟩) 1 1) 1 2 [.int .i64 now, .int .i64 n]) := Lib.hid ⟨hlo, one_lies (heap_alloc_new _ _) rfl⟩
 have HQ := Lib.hid h
 have HM := Lib.hid hm
 have HXS := Lib.hid hxs
 have HBV := Lib.hid hbV
 clear h hm hxs hbV hlo hi
 go_enter Tryz.func265, Tryz.ntmps265
 go_wp2_with (first
  | (refine wpList_append_off (by rfl) (.tmp 10) (.tmp 14) 243 (by rfl) 316 i0 _ 2 16 Tryz.underlying243 HI.out hz0 hz1 hz2 rfl (by omega) (.slice la m lc) m xs (by rfl) HV.out.1 (.slice (some ⟨w.heap.size, 0, none⟩) 1 1) w.heap.size (w.heap.size + 1) 1 [.int .i64 now, .int .i64 n] (by rfl) HV.out.2 (bk_oneF ⟨now, n⟩) (by omega) (by simp only [maxLen]; omega) (by omega) ?_
     intro ao cap w6 hown6 hgrow6 hob6
     rw [HXS.out, HM.out] at hown6
     rw [HM.out] at hgrow6 hob6
     have hk := HQ.out.grew (lv' := lv ++ [⟨now, n⟩]) HBV.out (by simpa [Bk.cells] using hown6) hgrow6 (by simpa using hob6)
     rw [show (lv ++ [(⟨now, n⟩ : Bk)]).length = m + 1 by rw [HM.out]; simp] at hk
     obtain ⟨u, hu⟩ := Option.isSome_iff_exists.1 hk.1
     have hfz := hk.2.1
     have HK := Lib.hid hk.2.2
     clear hk hown6 hgrow6 hob6)
  | fail "no arm")
 go_end0
 exact ⟨rfl, ao, cap, by simpa using HK.out.1, HK.out.2⟩
set_option maxRecDepth 100000 in
set_option maxHeartbeats 4000000 in
theorem ruse_more (w : World) (H n c g off : Nat) (x1 : Int) (b0 : w.cell? ⟨H, 0, none⟩ = some (.slice (some ⟨g, off, none⟩) n c)) (hn : 0 < n) (g1 : w.cell? ⟨g, off + 1, none⟩ = some (.int .i64 x1)) (f1 : w.frozen? ⟨g, off + 1, none⟩ = false) (hne : g ≠ H) (h1 : 2 ≤ x1 ∧ x1 ≤ 1000) :
 Calls Tryz.prog 266 #[.pointer (some ⟨H, 0, none⟩)] w fun e w' => e = .returned (.tuple #[]) ∧ w' = w.setCell ⟨g, off + 1, none⟩ (.int .i64 (x1 - 1)) := by
 have l1 : (0 : Int) < (n : Int) := by omega
 have e1 : IntKind.i64.wrap (x1 - 1) = x1 - 1 := IntWalk.i64_in _ (by omega)
 have t0 : ((x1 - 1) == 0) = false := by simp; omega
 have hne2 : H ≠ g := fun e => hne e.symm
 go_enter Tryz.func266, Tryz.ntmps266
 go_wp2
 go_end0
 exact ⟨rfl, rfl⟩
set_option maxRecDepth 100000 in
set_option maxHeartbeats 4000000 in
theorem ruse_last (w : World) (H n c g off : Nat) (a' : Option Addr) (b0 : w.cell? ⟨H, 0, none⟩ = some (.slice (some ⟨g, off, none⟩) n c)) (f0 : w.frozen? ⟨H, 0, none⟩ = false) (hn : 0 < n) (g1 : w.cell? ⟨g, off + 1, none⟩ = some (.int .i64 1)) (f1 : w.frozen? ⟨g, off + 1, none⟩ = false) (hne : g ≠ H)
 (HS : Hid (a' = if c = 1 then some ⟨g, off, none⟩ else some ⟨g, off + 2, none⟩)) :
 Calls Tryz.prog 266 #[.pointer (some ⟨H, 0, none⟩)] w fun e w' => e = .returned (.tuple #[]) ∧ w' = (w.setCell ⟨g, off + 1, none⟩ (.int .i64 0)).setCell ⟨H, 0, none⟩ (.slice a' (n - 1) (c - 1)) := by
 have l1 : (0 : Int) < (n : Int) := by omega
 have l2 : (1 : Int) ≤ (n : Int) := by omega
 have hne2 : H ≠ g := fun e => hne e.symm
 go_enter Tryz.func266, Tryz.ntmps266
 go_wp2
 all_goals
  have e := HS.out
  simp only [h, if_true, if_false] at e
  subst e
  go_end0
  first | exact ⟨rfl, rfl⟩ | exact ⟨rfl, trivial⟩
theorem ruse_ck (w : World) (H : Nat) (s : Sv) (st now f : Int) (sp : Bool) (la : Option Addr) (lc : Nat) (x : Bk) (l : List Bk) (h : RfB w H s st now f sp la lc (x :: l)) (h1 : 1 ≤ x.n ∧ x.n ≤ 1000) :
 Calls Tryz.prog 266 #[.pointer (some ⟨H, 0, none⟩)] w fun e w' => e = .returned (.tuple #[]) ∧ ∃ la' lc', RfB w' H s st now f sp la' lc' (if x.n - 1 = 0 then l else ⟨x.at_, x.n - 1⟩ :: l) ∧ GrowS (Rfl H la) (Rfl H la') w w' := by
 obtain ⟨g, off, rfl, g0, g1, hf⟩ := rrow_head h.l (by simp)
 have hne := (h.ll g rfl).2
 have hgl := (h.ll g rfl).1
 by_cases hz : x.n - 1 = 0
 ·rw [if_pos hz]
  have e1 : x.n = 1 := by omega
  rw [e1] at g1
  obtain ⟨n, hn⟩ : ∃ n, n = (x :: l).length := ⟨_, rfl⟩
  have hn1 : 0 < n := by rw [hn]; simp
  have hm : n - 1 = l.length := by rw [hn]; simp
  have hl0 := h.l.set (j := 1) (by simp; omega) (.int .i64 0)
  rw [← hn] at hl0
  obtain ⟨a', hs', hl', ho'⟩ := hl0.cut hn1
  have hdrop : (((x :: l).flatMap Bk.cells).set 1 (.int .i64 0)).drop 2 = l.flatMap Bk.cells := by simp [Bk.cells]
  rw [hdrop] at hl'
  have b0 := h.c0
  rw [← hn] at b0
  refine (ruse_last w H n lc g off a' b0 (h.fz 0) hn1 g1 (hf _) hne (Lib.hid ?_)).mono ?_
  ·rw [← hs']; split <;> rfl
  rintro e w' ⟨rfl, rfl⟩
  obtain ⟨W, hW⟩ : ∃ W, W = w.setCell ⟨g, off + 1, none⟩ (.int .i64 0) := ⟨_, rfl⟩
  rw [← hW] at hl' ⊢
  have hBg : But g w W := by rw [hW]; exact (But.refl g w).set (off + 1) _
  have hBH : But H W (W.setCell ⟨H, 0, none⟩ (.slice a' (n - 1) (lc - 1))) := (But.refl H W).set 0 _
  have hbox : W.heap[H]? = _ := (hBg.block H (lt_of_block h.box) (fun e => hne e.symm)).trans h.box
  have hob : ob a' = some g := by
   rw [own_ob, own_ob] at ho'
   rw [ho']; rfl
  have hz2 : W.heap.size = w.heap.size := by rw [hW]; simp
  refine ⟨rfl, a', lc - 1, ⟨?_, ?_⟩, ?_⟩
  ·rw [← hm]; exact set_at hbox
  ·rw [← hm]
   refine hl'.hold (fun k hk => ?_)
   rw [own_ob, hob] at hk
   cases hk
   exact hBH.block g (by rw [hz2]; exact hgl) hne
  ·have hgr : GrowS (Rfl H (some ⟨g, off, none⟩)) (Rfl H (some ⟨g, off, none⟩)) w _ := (grow_but hBg (S := Rfl H (some ⟨g, off, none⟩)) (.inr rfl)).trans (grow_but hBH (.inl rfl))
   exact ⟨hgr.os, hgr.tape, hgr.output, hgr.size, hgr.block, fun k hk => .inl (hk.elim .inl (fun h => .inr (by rw [hob] at h; exact h)))⟩
 ·rw [if_neg hz]
  refine (ruse_more w H _ lc g off _ h.c0 (by simp) g1 (hf _) hne (by omega)).mono ?_
  rintro e w' ⟨rfl, rfl⟩
  have hB : But g w (w.setCell ⟨g, off + 1, none⟩ (.int .i64 (x.n - 1))) := (But.refl g w).set (off + 1) _
  refine ⟨rfl, some ⟨g, off, none⟩, lc, ⟨(hB.block H (lt_of_block h.box) (fun e => hne e.symm)).trans h.box, ?_⟩, grow_but hB (.inr rfl)⟩
  have := h.l.set (j := 1) (by simp; omega) (.int .i64 (x.n - 1))
  simpa [Bk.cells] using this
end Go.Proofs.YtchbehnkkcjdgaaGreat
namespace Go.Proofs.YtchbehnkkcjdgaaGreat
open Go.ChangeShapes Go.WideShapes Go.ChangeAt Go.RowKit
set_option linter.unusedVariables false
/-- A budget in memory, with its own blocks. -/
def RfAt (H : Nat) (s : Sv) (st : Int) (b : Rd) (w : World) (S : Nat → Prop) : Prop :=
 ∃ (la : Option Addr) (lc : Nat), RfB w H s st b.now b.free b.stop la lc b.live ∧ newOk s.re s.c s.t st = true ∧ RdOk s.c 4611687117939015680 b ∧ st ≤ b.now ∧ (∀ x ∈ b.live, st ≤ x.at_) ∧ S = Rfl H la
theorem rf_own (H : Nat) (s : Sv) (st : Int) (b : Rd) : OwnP (RfAt H s st b) where
 keep := by
  rintro w w' S ⟨la, lc, h, h2, h3, h4, h5, rfl⟩ hs hz
  exact ⟨la, lc, h.hold hs, h2, h3, h4, h5, rfl⟩
 lt := by
  rintro w S ⟨la, lc, h, h2, h3, h4, h5, rfl⟩ k hk
  exact h.lt k hk
theorem newOk_bd {s : Sv} {st : Int} (h : newOk s.re s.c s.t st = true) : 1 ≤ s.c ∧ s.c ≤ s.t ∧ s.t ≤ 1000 ∧ 0 ≤ st ∧ st ≤ 4611686018427387904 := by
 simp only [newOk, Bool.and_eq_true, decide_eq_true_eq] at h
 have := okSv_bd h.1
 simp only at this
 omega
theorem below_drewRF {B : Nat} {w w' : World} (n : Nat) (h : Below B w w') : Below B w (w'.drewN n) := by
 induction n with
 | zero => exact h
 | succ n ih => exact ih.drew
theorem RfB.drewN {w : World} {H : Nat} {s : Sv} {st now f : Int} {sp : Bool} {la : Option Addr} {lc : Nat} {lv : List Bk} (h : RfB w H s st now f sp la lc lv) (n : Nat) : RfB (w.drewN n) H s st now f sp la lc lv := h.later (below_drewRF n (Below.refl _ _))
/-- Numbers of a budget. -/
theorem rd_nums {s : Sv} {st : Int} {b : Rd} (h4 : newOk s.re s.c s.t st = true) (h5 : RdOk s.c 4611687117939015680 b) :
 (0 ≤ b.free ∧ b.free ≤ 1000) ∧ b.live.length ≤ 1000 ∧ (0 ≤ sumB b.live ∧ sumB b.live ≤ 1000) ∧ (∀ x ∈ b.live, 1 ≤ x.n) ∧ ∀ x ∈ b.live, (0 ≤ x.at_ ∧ x.at_ ≤ 4611687117939015680) ∧ (1 ≤ x.n ∧ x.n ≤ 1000) := by
 have h := newOk_bd h4
 have hb := h5.bounds
 have ha := h5.all
 have hf := h5.f0
 have hn := h5.n0
 refine ⟨by omega, by omega, by omega, fun x hx => (h5.lv x hx).2.2, fun x hx => ?_⟩
 have hl := h5.lv x hx
 have g1 : x.n ≤ sumB b.live := by
  have : ∀ l : List Bk, (∀ y ∈ l, 1 ≤ y.n) → ∀ x ∈ l, x.n ≤ sumB l := by
   intro l
   induction l with
   | nil => intro _ x hx; cases hx
   | cons y l ih =>
     intro hy x hx
     have i1 := sumB_len l (fun z hz => hy z (List.mem_cons_of_mem _ hz))
     have i2 := hy y (List.mem_cons_self ..)
     rcases List.mem_cons.1 hx with rfl | hx
     ·simp only [sumB, List.map_cons, List.sum_cons] at *; omega
     ·have := ih (fun z hz => hy z (List.mem_cons_of_mem _ hz)) x hx
      simp only [sumB, List.map_cons, List.sum_cons] at *; omega
  exact this _ (fun y hy => (h5.lv y hy).2.2) x hx
 exact ⟨⟨hl.1, by omega⟩, ⟨hl.2.2, by omega⟩⟩
set_option maxRecDepth 100000 in
set_option maxHeartbeats 4000000 in
theorem rgo_old_idle (w : World) (H : Nat) (s : Sv) (st last f : Int) (sp : Bool) (la : Option Addr) (lc : Nat) (lv : List Bk) (h : RfB w H s st last f sp la lc lv) (now : Int) (h0 : 0 ≤ st) (h1 : st ≤ last) (h2 : last ≤ now) (h3 : now ≤ 4611687117939015680) (hs : (1 ≤ s.c ∧ s.c ≤ s.t) ∧ 1 ≤ s.t ∧ s.t ≤ 1000) (hf : 0 ≤ f ∧ f ≤ 1000) (hl : lv.length ≤ 1000) (hq : 0 ≤ sumB lv ∧ sumB lv ≤ 1000) (hp : ∀ x ∈ lv, 1 ≤ x.n) (hb : decide (perOf s.t st last < perOf s.t st now) = false) :
 Calls Tryz.prog 254 #[.pointer (some ⟨H, 0, none⟩), .int .i64 now, .bool false] w fun e w2 => e = .returned (.tuple #[]) ∧ ∃ la2 lc2, RfB w2 H s st now f sp la2 lc2 (lv) ∧ GrowS (Rfl H la) (Rfl H la2) w w2 := by
 have HM := Lib.hid (rmade_yes w H s.t h.c3 (by omega))
 have HG := Lib.hid (began_any w H s st last f _ la lc lv h now h0 h1 h2 h3 hs.2)
 rw [hb] at HG
 have HK := Lib.hid h
 have HP := Lib.hid hp
 have q0 : IntKind.i64.wrap (s.c - sumB lv) = s.c - sumB lv := IntWalk.i64_in _ (by omega)
 clear h hp hb
 obtain ⟨q, hq0⟩ : ∃ q, q = sumB lv := ⟨_, rfl⟩
 have HQ := Lib.hid hq0
 rw [← hq0] at q0 hq
 clear hq0
 go_enter Tryz.func254, Tryz.ntmps254
 go_wp2_with (first
  | (go_at_call 259; refine HM.out.mono ?_; rintro e w1 ⟨rfl, hw1⟩; rw [hw1]; clear hw1)
  | (go_at_call 264; refine HG.out.mono ?_; rintro e w1 ⟨rfl, nd, hw1⟩; have HK1 := Lib.hid (HK.out.drewN nd); rw [← hw1] at HK1; have HB1 : Hid (Below w.heap.size w w1) := Lib.hid (by rw [hw1]; exact below_drewRF nd (Below.refl _ _)); clear hw1; have d2 := HK1.out.c2; have d5 := HK1.out.c5; have d6 := HK1.out.c6; have d7 := HK1.out.c7; have f5 := HK1.out.fz 5; have f6 := HK1.out.fz 6)
  | fail "no arm")
 go_end0
 obtain ⟨U, hU⟩ : ∃ U, U = w1.setCell ⟨H, 5, none⟩ (.int .i64 now) := ⟨_, rfl⟩
 rw [← hU]
 have hBU : But H w1 U := by rw [hU]; exact (But.refl H w1).set 5 _
 refine ⟨rfl, la, lc, ?_, (GrowS.of_below (S := Rfl H la) HB1.out).trans (grow_but hBU (.inl rfl))⟩
 exact HK1.out.boxed (by rw [hU]; exact set_at HK1.out.box) (fun k hk hkH => hBU.block k hk hkH)
set_option maxRecDepth 100000 in
set_option maxHeartbeats 4000000 in
theorem rgo_old_stop (w : World) (H : Nat) (s : Sv) (st last f : Int) (la : Option Addr) (lc : Nat) (lv : List Bk) (h : RfB w H s st last f true la lc lv) (now : Int) (h0 : 0 ≤ st) (h1 : st ≤ last) (h2 : last ≤ now) (h3 : now ≤ 4611687117939015680) (hs : (1 ≤ s.c ∧ s.c ≤ s.t) ∧ 1 ≤ s.t ∧ s.t ≤ 1000) (hf : 0 ≤ f ∧ f ≤ 1000) (hl : lv.length ≤ 1000) (hq : 0 ≤ sumB lv ∧ sumB lv ≤ 1000) (hp : ∀ x ∈ lv, 1 ≤ x.n) (hb : decide (perOf s.t st last < perOf s.t st now) = false) :
 Calls Tryz.prog 254 #[.pointer (some ⟨H, 0, none⟩), .int .i64 now, .bool true] w fun e w2 => e = .returned (.tuple #[]) ∧ ∃ la2 lc2, RfB w2 H s st now f true la2 lc2 (lv) ∧ GrowS (Rfl H la) (Rfl H la2) w w2 := by
 have HM := Lib.hid (rmade_yes w H s.t h.c3 (by omega))
 have HG := Lib.hid (began_any w H s st last f _ la lc lv h now h0 h1 h2 h3 hs.2)
 rw [hb] at HG
 have HK := Lib.hid h
 have HP := Lib.hid hp
 have q0 : IntKind.i64.wrap (s.c - sumB lv) = s.c - sumB lv := IntWalk.i64_in _ (by omega)
 clear h hp hb
 obtain ⟨q, hq0⟩ : ∃ q, q = sumB lv := ⟨_, rfl⟩
 have HQ := Lib.hid hq0
 rw [← hq0] at q0 hq
 clear hq0
 go_enter Tryz.func254, Tryz.ntmps254
 go_wp2_with (first
  | (go_at_call 259; refine HM.out.mono ?_; rintro e w1 ⟨rfl, hw1⟩; rw [hw1]; clear hw1)
  | (go_at_call 264; refine HG.out.mono ?_; rintro e w1 ⟨rfl, nd, hw1⟩; have HK1 := Lib.hid (HK.out.drewN nd); rw [← hw1] at HK1; have HB1 : Hid (Below w.heap.size w w1) := Lib.hid (by rw [hw1]; exact below_drewRF nd (Below.refl _ _)); clear hw1; have d2 := HK1.out.c2; have d5 := HK1.out.c5; have d6 := HK1.out.c6; have d7 := HK1.out.c7; have f5 := HK1.out.fz 5; have f6 := HK1.out.fz 6)
  | fail "no arm")
 go_end0
 obtain ⟨U, hU⟩ : ∃ U, U = w1.setCell ⟨H, 5, none⟩ (.int .i64 now) := ⟨_, rfl⟩
 rw [← hU]
 have hBU : But H w1 U := by rw [hU]; exact (But.refl H w1).set 5 _
 refine ⟨rfl, la, lc, ?_, (GrowS.of_below (S := Rfl H la) HB1.out).trans (grow_but hBU (.inl rfl))⟩
 exact HK1.out.boxed (by rw [hU]; exact set_at HK1.out.box) (fun k hk hkH => hBU.block k hk hkH)
set_option maxRecDepth 100000 in
set_option maxHeartbeats 4000000 in
theorem rgo_old_full (w : World) (H : Nat) (s : Sv) (st last f : Int) (la : Option Addr) (lc : Nat) (lv : List Bk) (h : RfB w H s st last f false la lc lv) (now : Int) (h0 : 0 ≤ st) (h1 : st ≤ last) (h2 : last ≤ now) (h3 : now ≤ 4611687117939015680) (hs : (1 ≤ s.c ∧ s.c ≤ s.t) ∧ 1 ≤ s.t ∧ s.t ≤ 1000) (hf : 0 ≤ f ∧ f ≤ 1000) (hl : lv.length ≤ 1000) (hq : 0 ≤ sumB lv ∧ sumB lv ≤ 1000) (hp : ∀ x ∈ lv, 1 ≤ x.n) (hb : decide (perOf s.t st last < perOf s.t st now) = false) (hz : ¬ 0 < f) :
 Calls Tryz.prog 254 #[.pointer (some ⟨H, 0, none⟩), .int .i64 now, .bool true] w fun e w2 => e = .returned (.tuple #[]) ∧ ∃ la2 lc2, RfB w2 H s st now f false la2 lc2 (lv) ∧ GrowS (Rfl H la) (Rfl H la2) w w2 := by
 have HM := Lib.hid (rmade_yes w H s.t h.c3 (by omega))
 have HG := Lib.hid (began_any w H s st last f _ la lc lv h now h0 h1 h2 h3 hs.2)
 rw [hb] at HG
 have HK := Lib.hid h
 have HP := Lib.hid hp
 have q0 : IntKind.i64.wrap (s.c - sumB lv) = s.c - sumB lv := IntWalk.i64_in _ (by omega)
 clear h hp hb
 obtain ⟨q, hq0⟩ : ∃ q, q = sumB lv := ⟨_, rfl⟩
 have HQ := Lib.hid hq0
 rw [← hq0] at q0 hq
 have t0 : decide (0 < f) = false := decide_eq_false hz
 clear hq0
 go_enter Tryz.func254, Tryz.ntmps254
 go_wp2_with (first
  | (go_at_call 259; refine HM.out.mono ?_; rintro e w1 ⟨rfl, hw1⟩; rw [hw1]; clear hw1)
  | (go_at_call 264; refine HG.out.mono ?_; rintro e w1 ⟨rfl, nd, hw1⟩; have HK1 := Lib.hid (HK.out.drewN nd); rw [← hw1] at HK1; have HB1 : Hid (Below w.heap.size w w1) := Lib.hid (by rw [hw1]; exact below_drewRF nd (Below.refl _ _)); clear hw1; have d2 := HK1.out.c2; have d5 := HK1.out.c5; have d6 := HK1.out.c6; have d7 := HK1.out.c7; have f5 := HK1.out.fz 5; have f6 := HK1.out.fz 6)
  | fail "no arm")
 go_end0
 obtain ⟨U, hU⟩ : ∃ U, U = w1.setCell ⟨H, 5, none⟩ (.int .i64 now) := ⟨_, rfl⟩
 rw [← hU]
 have hBU : But H w1 U := by rw [hU]; exact (But.refl H w1).set 5 _
 refine ⟨rfl, la, lc, ?_, (GrowS.of_below (S := Rfl H la) HB1.out).trans (grow_but hBU (.inl rfl))⟩
 exact HK1.out.boxed (by rw [hU]; exact set_at HK1.out.box) (fun k hk hkH => hBU.block k hk hkH)
set_option maxRecDepth 100000 in
set_option maxHeartbeats 4000000 in
theorem rgo_old_lay (w : World) (H : Nat) (s : Sv) (st last f : Int) (la : Option Addr) (lc : Nat) (lv : List Bk) (h : RfB w H s st last f false la lc lv) (now : Int) (h0 : 0 ≤ st) (h1 : st ≤ last) (h2 : last ≤ now) (h3 : now ≤ 4611687117939015680) (hs : (1 ≤ s.c ∧ s.c ≤ s.t) ∧ 1 ≤ s.t ∧ s.t ≤ 1000) (hf : 0 ≤ f ∧ f ≤ 1000) (hl : lv.length ≤ 1000) (hq : 0 ≤ sumB lv ∧ sumB lv ≤ 1000) (hp : ∀ x ∈ lv, 1 ≤ x.n) (hb : decide (perOf s.t st last < perOf s.t st now) = false) (hz : 0 < f) :
 Calls Tryz.prog 254 #[.pointer (some ⟨H, 0, none⟩), .int .i64 now, .bool true] w fun e w2 => e = .returned (.tuple #[]) ∧ ∃ la2 lc2, RfB w2 H s st now 0 false la2 lc2 (lv ++ [⟨now, f⟩]) ∧ GrowS (Rfl H la) (Rfl H la2) w w2 := by
 have HM := Lib.hid (rmade_yes w H s.t h.c3 (by omega))
 have HG := Lib.hid (began_any w H s st last f _ la lc lv h now h0 h1 h2 h3 hs.2)
 rw [hb] at HG
 have HK := Lib.hid h
 have HP := Lib.hid hp
 have q0 : IntKind.i64.wrap (s.c - sumB lv) = s.c - sumB lv := IntWalk.i64_in _ (by omega)
 clear h hp hb
 obtain ⟨q, hq0⟩ : ∃ q, q = sumB lv := ⟨_, rfl⟩
 have HQ := Lib.hid hq0
 rw [← hq0] at q0 hq
 have t0 : decide (0 < f) = true := decide_eq_true hz
 clear hq0
 go_enter Tryz.func254, Tryz.ntmps254
 go_upto_region 5 with (first
  | (go_at_call 259; refine HM.out.mono ?_; rintro e w1 ⟨rfl, hw1⟩; rw [hw1]; clear hw1)
  | (go_at_call 264; refine HG.out.mono ?_; rintro e w1 ⟨rfl, nd, hw1⟩; have HK1 := Lib.hid (HK.out.drewN nd); rw [← hw1] at HK1; have HB1 : Hid (Below w.heap.size w w1) := Lib.hid (by rw [hw1]; exact below_drewRF nd (Below.refl _ _)); clear hw1; have d2 := HK1.out.c2; have d5 := HK1.out.c5; have d6 := HK1.out.c6; have d7 := HK1.out.c7; have f5 := HK1.out.fz 5; have f6 := HK1.out.fz 6)
  | fail "no arm")
 obtain ⟨U, hU⟩ : ∃ U, U = w1.setCell ⟨H, 5, none⟩ (.int .i64 now) := ⟨_, rfl⟩
 rw [← hU]
 have hBU : But H w1 U := by rw [hU]; exact (But.refl H w1).set 5 _
 have hbox : U.heap[H]? = some (.cells #[.slice la lv.length lc, .bool s.re, .int .i64 s.c, .int .i64 s.t, .int .i64 st, .int .i64 now, .int .i64 f, .bool false] 247 (0, 0)) := by rw [hU]; exact set_at HK1.out.box
 have hKU := HK1.out.boxed hbox (fun k hk hkH => hBU.block k hk hkH)
 have HGU := Lib.hid ((GrowS.of_below (S := Rfl H la) HB1.out).trans (grow_but hBU (.inl rfl)))
 have u6 := hKU.c6
 have HKU := Lib.hid hKU
 clear hU hBU hbox hKU
 have HL0 := Lib.hid (rlay_ck U H s st now f false la lc lv HKU.out hl now f)
 have HL1 := Lib.hid (rlay_ck U.drew H s st now f false la lc lv HKU.out.drew hl now f)
 go_region_with (first
  | (go_at_call 265; refine HL1.out.mono ?_; rintro e w4 ⟨rfl, la4, lc4, hk4, g4⟩; have HK4 := Lib.hid hk4; have HG4 := Lib.hid (HGU.out.trans ((GrowS.of_below (Below.refl _ _).drew).trans g4)); have y6 := hk4.c6; have y6f := hk4.fz 6; clear hk4 g4)
  | (go_at_call 265; refine HL0.out.mono ?_; rintro e w4 ⟨rfl, la4, lc4, hk4, g4⟩; have HK4 := Lib.hid hk4; have HG4 := Lib.hid (HGU.out.trans g4); have y6 := hk4.c6; have y6f := hk4.fz 6; clear hk4 g4)
  | fail "no arm")
 all_goals
  go_wp2_with fail
  go_end0
  have hB : But H w4 (w4.setCell ⟨H, 6, none⟩ (.int .i64 0)) := (But.refl H w4).set 6 _
  refine ⟨rfl, la4, lc4, ?_, HG4.out.trans (grow_but hB (.inl rfl))⟩
  exact HK4.out.boxed (set_at HK4.out.box) (fun k hk hkH => hB.block k hk hkH)
set_option maxRecDepth 100000 in
set_option maxHeartbeats 4000000 in
theorem rgo_new_idle (w : World) (H : Nat) (s : Sv) (st last f : Int) (sp : Bool) (la : Option Addr) (lc : Nat) (lv : List Bk) (h : RfB w H s st last f sp la lc lv) (now : Int) (h0 : 0 ≤ st) (h1 : st ≤ last) (h2 : last ≤ now) (h3 : now ≤ 4611687117939015680) (hs : (1 ≤ s.c ∧ s.c ≤ s.t) ∧ 1 ≤ s.t ∧ s.t ≤ 1000) (hf : 0 ≤ f ∧ f ≤ 1000) (hl : lv.length ≤ 1000) (hq : 0 ≤ sumB lv ∧ sumB lv ≤ 1000) (hp : ∀ x ∈ lv, 1 ≤ x.n) (hb : decide (perOf s.t st last < perOf s.t st now) = true) :
 Calls Tryz.prog 254 #[.pointer (some ⟨H, 0, none⟩), .int .i64 now, .bool false] w fun e w2 => e = .returned (.tuple #[]) ∧ ∃ la2 lc2, RfB w2 H s st now (s.c - sumB lv) sp la2 lc2 (lv) ∧ GrowS (Rfl H la) (Rfl H la2) w w2 := by
 have HM := Lib.hid (rmade_yes w H s.t h.c3 (by omega))
 have HG := Lib.hid (began_any w H s st last f _ la lc lv h now h0 h1 h2 h3 hs.2)
 rw [hb] at HG
 have HK := Lib.hid h
 have HP := Lib.hid hp
 have q0 : IntKind.i64.wrap (s.c - sumB lv) = s.c - sumB lv := IntWalk.i64_in _ (by omega)
 clear h hp hb
 obtain ⟨q, hq0⟩ : ∃ q, q = sumB lv := ⟨_, rfl⟩
 have HQ := Lib.hid hq0
 rw [← hq0] at q0 hq
 clear hq0
 go_enter Tryz.func254, Tryz.ntmps254
 go_upto_region 2 with (first
  | (go_at_call 259; refine HM.out.mono ?_; rintro e w1 ⟨rfl, hw1⟩; rw [hw1]; clear hw1)
  | (go_at_call 264; refine HG.out.mono ?_; rintro e w1 ⟨rfl, nd, hw1⟩; have HK1 := Lib.hid (HK.out.drewN nd); rw [← hw1] at HK1; have HB1 : Hid (Below w.heap.size w w1) := Lib.hid (by rw [hw1]; exact below_drewRF nd (Below.refl _ _)); clear hw1; have d2 := HK1.out.c2; have d5 := HK1.out.c5; have d6 := HK1.out.c6; have d7 := HK1.out.c7; have f5 := HK1.out.fz 5; have f6 := HK1.out.fz 6)
  | fail "no arm")
 go_region_with (first
  | (go_at_call 260; refine (left_ck w1.drew H s st last f _ la lc lv HK1.out.drew HP.out (by rw [← HQ.out]; omega)).mono ?_; rw [← HQ.out]; rintro e w3 ⟨rfl, hb3⟩; have HK3 := Lib.hid (HK1.out.drew.later hb3); have HB3 : Hid (Below w.heap.size w w3) := Lib.hid (HB1.out.trans ((((Below.refl _ _).drew).trans (hb3.mono (by simp))).mono HB1.out.size)); clear hb3; have e2 := HK3.out.c2; have e5 := HK3.out.c5; have e6 := HK3.out.c6; have e7 := HK3.out.c7; have g5 := HK3.out.fz 5; have g6 := HK3.out.fz 6)
  | (go_at_call 260; refine (left_ck w1 H s st last f _ la lc lv HK1.out HP.out (by rw [← HQ.out]; omega)).mono ?_; rw [← HQ.out]; rintro e w3 ⟨rfl, hb3⟩; have HK3 := Lib.hid (HK1.out.later hb3); have HB3 : Hid (Below w.heap.size w w3) := Lib.hid (HB1.out.trans ((hb3).mono HB1.out.size)); clear hb3; have e2 := HK3.out.c2; have e5 := HK3.out.c5; have e6 := HK3.out.c6; have e7 := HK3.out.c7; have g5 := HK3.out.fz 5; have g6 := HK3.out.fz 6)
  | fail "no arm")
 all_goals
  go_wp2_with fail
  go_end0
  obtain ⟨U, hU⟩ : ∃ U, U = (w3.setCell ⟨H, 6, none⟩ (.int .i64 (s.c - q))).setCell ⟨H, 5, none⟩ (.int .i64 now) := ⟨_, rfl⟩
  rw [← hU]
  have hBU : But H w3 U := by rw [hU]; exact ((But.refl H w3).set 6 _).set 5 _
  refine ⟨rfl, la, lc, ?_, (GrowS.of_below (S := Rfl H la) HB3.out).trans (grow_but hBU (.inl rfl))⟩
  rw [← HQ.out]
  exact HK3.out.boxed (by rw [hU]; exact set_at (set_at HK3.out.box)) (fun k hk hkH => hBU.block k hk hkH)
set_option maxRecDepth 100000 in
set_option maxHeartbeats 4000000 in
theorem rgo_new_stop (w : World) (H : Nat) (s : Sv) (st last f : Int) (la : Option Addr) (lc : Nat) (lv : List Bk) (h : RfB w H s st last f true la lc lv) (now : Int) (h0 : 0 ≤ st) (h1 : st ≤ last) (h2 : last ≤ now) (h3 : now ≤ 4611687117939015680) (hs : (1 ≤ s.c ∧ s.c ≤ s.t) ∧ 1 ≤ s.t ∧ s.t ≤ 1000) (hf : 0 ≤ f ∧ f ≤ 1000) (hl : lv.length ≤ 1000) (hq : 0 ≤ sumB lv ∧ sumB lv ≤ 1000) (hp : ∀ x ∈ lv, 1 ≤ x.n) (hb : decide (perOf s.t st last < perOf s.t st now) = true) :
 Calls Tryz.prog 254 #[.pointer (some ⟨H, 0, none⟩), .int .i64 now, .bool true] w fun e w2 => e = .returned (.tuple #[]) ∧ ∃ la2 lc2, RfB w2 H s st now (s.c - sumB lv) true la2 lc2 (lv) ∧ GrowS (Rfl H la) (Rfl H la2) w w2 := by
 have HM := Lib.hid (rmade_yes w H s.t h.c3 (by omega))
 have HG := Lib.hid (began_any w H s st last f _ la lc lv h now h0 h1 h2 h3 hs.2)
 rw [hb] at HG
 have HK := Lib.hid h
 have HP := Lib.hid hp
 have q0 : IntKind.i64.wrap (s.c - sumB lv) = s.c - sumB lv := IntWalk.i64_in _ (by omega)
 clear h hp hb
 obtain ⟨q, hq0⟩ : ∃ q, q = sumB lv := ⟨_, rfl⟩
 have HQ := Lib.hid hq0
 rw [← hq0] at q0 hq
 clear hq0
 go_enter Tryz.func254, Tryz.ntmps254
 go_upto_region 2 with (first
  | (go_at_call 259; refine HM.out.mono ?_; rintro e w1 ⟨rfl, hw1⟩; rw [hw1]; clear hw1)
  | (go_at_call 264; refine HG.out.mono ?_; rintro e w1 ⟨rfl, nd, hw1⟩; have HK1 := Lib.hid (HK.out.drewN nd); rw [← hw1] at HK1; have HB1 : Hid (Below w.heap.size w w1) := Lib.hid (by rw [hw1]; exact below_drewRF nd (Below.refl _ _)); clear hw1; have d2 := HK1.out.c2; have d5 := HK1.out.c5; have d6 := HK1.out.c6; have d7 := HK1.out.c7; have f5 := HK1.out.fz 5; have f6 := HK1.out.fz 6)
  | fail "no arm")
 go_region_with (first
  | (go_at_call 260; refine (left_ck w1.drew H s st last f _ la lc lv HK1.out.drew HP.out (by rw [← HQ.out]; omega)).mono ?_; rw [← HQ.out]; rintro e w3 ⟨rfl, hb3⟩; have HK3 := Lib.hid (HK1.out.drew.later hb3); have HB3 : Hid (Below w.heap.size w w3) := Lib.hid (HB1.out.trans ((((Below.refl _ _).drew).trans (hb3.mono (by simp))).mono HB1.out.size)); clear hb3; have e2 := HK3.out.c2; have e5 := HK3.out.c5; have e6 := HK3.out.c6; have e7 := HK3.out.c7; have g5 := HK3.out.fz 5; have g6 := HK3.out.fz 6)
  | (go_at_call 260; refine (left_ck w1 H s st last f _ la lc lv HK1.out HP.out (by rw [← HQ.out]; omega)).mono ?_; rw [← HQ.out]; rintro e w3 ⟨rfl, hb3⟩; have HK3 := Lib.hid (HK1.out.later hb3); have HB3 : Hid (Below w.heap.size w w3) := Lib.hid (HB1.out.trans ((hb3).mono HB1.out.size)); clear hb3; have e2 := HK3.out.c2; have e5 := HK3.out.c5; have e6 := HK3.out.c6; have e7 := HK3.out.c7; have g5 := HK3.out.fz 5; have g6 := HK3.out.fz 6)
  | fail "no arm")
 all_goals
  go_wp2_with fail
  go_end0
  obtain ⟨U, hU⟩ : ∃ U, U = (w3.setCell ⟨H, 6, none⟩ (.int .i64 (s.c - q))).setCell ⟨H, 5, none⟩ (.int .i64 now) := ⟨_, rfl⟩
  rw [← hU]
  have hBU : But H w3 U := by rw [hU]; exact ((But.refl H w3).set 6 _).set 5 _
  refine ⟨rfl, la, lc, ?_, (GrowS.of_below (S := Rfl H la) HB3.out).trans (grow_but hBU (.inl rfl))⟩
  rw [← HQ.out]
  exact HK3.out.boxed (by rw [hU]; exact set_at (set_at HK3.out.box)) (fun k hk hkH => hBU.block k hk hkH)
set_option maxRecDepth 100000 in
set_option maxHeartbeats 4000000 in
theorem rgo_new_full (w : World) (H : Nat) (s : Sv) (st last f : Int) (la : Option Addr) (lc : Nat) (lv : List Bk) (h : RfB w H s st last f false la lc lv) (now : Int) (h0 : 0 ≤ st) (h1 : st ≤ last) (h2 : last ≤ now) (h3 : now ≤ 4611687117939015680) (hs : (1 ≤ s.c ∧ s.c ≤ s.t) ∧ 1 ≤ s.t ∧ s.t ≤ 1000) (hf : 0 ≤ f ∧ f ≤ 1000) (hl : lv.length ≤ 1000) (hq : 0 ≤ sumB lv ∧ sumB lv ≤ 1000) (hp : ∀ x ∈ lv, 1 ≤ x.n) (hb : decide (perOf s.t st last < perOf s.t st now) = true) (hz : ¬ 0 < (s.c - sumB lv)) :
 Calls Tryz.prog 254 #[.pointer (some ⟨H, 0, none⟩), .int .i64 now, .bool true] w fun e w2 => e = .returned (.tuple #[]) ∧ ∃ la2 lc2, RfB w2 H s st now (s.c - sumB lv) false la2 lc2 (lv) ∧ GrowS (Rfl H la) (Rfl H la2) w w2 := by
 have HM := Lib.hid (rmade_yes w H s.t h.c3 (by omega))
 have HG := Lib.hid (began_any w H s st last f _ la lc lv h now h0 h1 h2 h3 hs.2)
 rw [hb] at HG
 have HK := Lib.hid h
 have HP := Lib.hid hp
 have q0 : IntKind.i64.wrap (s.c - sumB lv) = s.c - sumB lv := IntWalk.i64_in _ (by omega)
 clear h hp hb
 obtain ⟨q, hq0⟩ : ∃ q, q = sumB lv := ⟨_, rfl⟩
 have HQ := Lib.hid hq0
 rw [← hq0] at q0 hq
 rw [← hq0] at hz
 have t0 : decide (0 < s.c - q) = false := decide_eq_false hz
 clear hq0
 go_enter Tryz.func254, Tryz.ntmps254
 go_upto_region 2 with (first
  | (go_at_call 259; refine HM.out.mono ?_; rintro e w1 ⟨rfl, hw1⟩; rw [hw1]; clear hw1)
  | (go_at_call 264; refine HG.out.mono ?_; rintro e w1 ⟨rfl, nd, hw1⟩; have HK1 := Lib.hid (HK.out.drewN nd); rw [← hw1] at HK1; have HB1 : Hid (Below w.heap.size w w1) := Lib.hid (by rw [hw1]; exact below_drewRF nd (Below.refl _ _)); clear hw1; have d2 := HK1.out.c2; have d5 := HK1.out.c5; have d6 := HK1.out.c6; have d7 := HK1.out.c7; have f5 := HK1.out.fz 5; have f6 := HK1.out.fz 6)
  | fail "no arm")
 go_region_with (first
  | (go_at_call 260; refine (left_ck w1.drew H s st last f _ la lc lv HK1.out.drew HP.out (by rw [← HQ.out]; omega)).mono ?_; rw [← HQ.out]; rintro e w3 ⟨rfl, hb3⟩; have HK3 := Lib.hid (HK1.out.drew.later hb3); have HB3 : Hid (Below w.heap.size w w3) := Lib.hid (HB1.out.trans ((((Below.refl _ _).drew).trans (hb3.mono (by simp))).mono HB1.out.size)); clear hb3; have e2 := HK3.out.c2; have e5 := HK3.out.c5; have e6 := HK3.out.c6; have e7 := HK3.out.c7; have g5 := HK3.out.fz 5; have g6 := HK3.out.fz 6)
  | (go_at_call 260; refine (left_ck w1 H s st last f _ la lc lv HK1.out HP.out (by rw [← HQ.out]; omega)).mono ?_; rw [← HQ.out]; rintro e w3 ⟨rfl, hb3⟩; have HK3 := Lib.hid (HK1.out.later hb3); have HB3 : Hid (Below w.heap.size w w3) := Lib.hid (HB1.out.trans ((hb3).mono HB1.out.size)); clear hb3; have e2 := HK3.out.c2; have e5 := HK3.out.c5; have e6 := HK3.out.c6; have e7 := HK3.out.c7; have g5 := HK3.out.fz 5; have g6 := HK3.out.fz 6)
  | fail "no arm")
 all_goals
  go_wp2_with fail
  go_end0
  obtain ⟨U, hU⟩ : ∃ U, U = (w3.setCell ⟨H, 6, none⟩ (.int .i64 (s.c - q))).setCell ⟨H, 5, none⟩ (.int .i64 now) := ⟨_, rfl⟩
  rw [← hU]
  have hBU : But H w3 U := by rw [hU]; exact ((But.refl H w3).set 6 _).set 5 _
  refine ⟨rfl, la, lc, ?_, (GrowS.of_below (S := Rfl H la) HB3.out).trans (grow_but hBU (.inl rfl))⟩
  rw [← HQ.out]
  exact HK3.out.boxed (by rw [hU]; exact set_at (set_at HK3.out.box)) (fun k hk hkH => hBU.block k hk hkH)
set_option maxRecDepth 100000 in
set_option maxHeartbeats 4000000 in
theorem rgo_new_lay (w : World) (H : Nat) (s : Sv) (st last f : Int) (la : Option Addr) (lc : Nat) (lv : List Bk) (h : RfB w H s st last f false la lc lv) (now : Int) (h0 : 0 ≤ st) (h1 : st ≤ last) (h2 : last ≤ now) (h3 : now ≤ 4611687117939015680) (hs : (1 ≤ s.c ∧ s.c ≤ s.t) ∧ 1 ≤ s.t ∧ s.t ≤ 1000) (hf : 0 ≤ f ∧ f ≤ 1000) (hl : lv.length ≤ 1000) (hq : 0 ≤ sumB lv ∧ sumB lv ≤ 1000) (hp : ∀ x ∈ lv, 1 ≤ x.n) (hb : decide (perOf s.t st last < perOf s.t st now) = true) (hz : 0 < (s.c - sumB lv)) :
 Calls Tryz.prog 254 #[.pointer (some ⟨H, 0, none⟩), .int .i64 now, .bool true] w fun e w2 => e = .returned (.tuple #[]) ∧ ∃ la2 lc2, RfB w2 H s st now 0 false la2 lc2 (lv ++ [⟨now, (s.c - sumB lv)⟩]) ∧ GrowS (Rfl H la) (Rfl H la2) w w2 := by
 have HM := Lib.hid (rmade_yes w H s.t h.c3 (by omega))
 have HG := Lib.hid (began_any w H s st last f _ la lc lv h now h0 h1 h2 h3 hs.2)
 rw [hb] at HG
 have HK := Lib.hid h
 have HP := Lib.hid hp
 have q0 : IntKind.i64.wrap (s.c - sumB lv) = s.c - sumB lv := IntWalk.i64_in _ (by omega)
 clear h hp hb
 obtain ⟨q, hq0⟩ : ∃ q, q = sumB lv := ⟨_, rfl⟩
 have HQ := Lib.hid hq0
 rw [← hq0] at q0 hq
 rw [← hq0] at hz
 have t0 : decide (0 < s.c - q) = true := decide_eq_true hz
 clear hq0
 go_enter Tryz.func254, Tryz.ntmps254
 go_upto_region 2 with (first
  | (go_at_call 259; refine HM.out.mono ?_; rintro e w1 ⟨rfl, hw1⟩; rw [hw1]; clear hw1)
  | (go_at_call 264; refine HG.out.mono ?_; rintro e w1 ⟨rfl, nd, hw1⟩; have HK1 := Lib.hid (HK.out.drewN nd); rw [← hw1] at HK1; have HB1 : Hid (Below w.heap.size w w1) := Lib.hid (by rw [hw1]; exact below_drewRF nd (Below.refl _ _)); clear hw1; have d2 := HK1.out.c2; have d5 := HK1.out.c5; have d6 := HK1.out.c6; have d7 := HK1.out.c7; have f5 := HK1.out.fz 5; have f6 := HK1.out.fz 6)
  | fail "no arm")
 go_region_with (first
  | (go_at_call 260; refine (left_ck w1.drew H s st last f _ la lc lv HK1.out.drew HP.out (by rw [← HQ.out]; omega)).mono ?_; rw [← HQ.out]; rintro e w3 ⟨rfl, hb3⟩; have HK3 := Lib.hid (HK1.out.drew.later hb3); have HB3 : Hid (Below w.heap.size w w3) := Lib.hid (HB1.out.trans ((((Below.refl _ _).drew).trans (hb3.mono (by simp))).mono HB1.out.size)); clear hb3; have e2 := HK3.out.c2; have e5 := HK3.out.c5; have e6 := HK3.out.c6; have e7 := HK3.out.c7; have g5 := HK3.out.fz 5; have g6 := HK3.out.fz 6)
  | (go_at_call 260; refine (left_ck w1 H s st last f _ la lc lv HK1.out HP.out (by rw [← HQ.out]; omega)).mono ?_; rw [← HQ.out]; rintro e w3 ⟨rfl, hb3⟩; have HK3 := Lib.hid (HK1.out.later hb3); have HB3 : Hid (Below w.heap.size w w3) := Lib.hid (HB1.out.trans ((hb3).mono HB1.out.size)); clear hb3; have e2 := HK3.out.c2; have e5 := HK3.out.c5; have e6 := HK3.out.c6; have e7 := HK3.out.c7; have g5 := HK3.out.fz 5; have g6 := HK3.out.fz 6)
  | fail "no arm")
 all_goals
  go_upto_region 5 with fail
  obtain ⟨U, hU⟩ : ∃ U, U = (w3.setCell ⟨H, 6, none⟩ (.int .i64 (s.c - q))).setCell ⟨H, 5, none⟩ (.int .i64 now) := ⟨_, rfl⟩
  rw [← hU]
  have hBU : But H w3 U := by rw [hU]; exact ((But.refl H w3).set 6 _).set 5 _
  have hbox : U.heap[H]? = some (.cells #[.slice la lv.length lc, .bool s.re, .int .i64 s.c, .int .i64 s.t, .int .i64 st, .int .i64 now, .int .i64 (s.c - q), .bool false] 247 (0, 0)) := by rw [hU]; exact set_at (set_at HK3.out.box)
  have hKU := HK3.out.boxed hbox (fun k hk hkH => hBU.block k hk hkH)
  have HGU := Lib.hid ((GrowS.of_below (S := Rfl H la) HB3.out).trans (grow_but hBU (.inl rfl)))
  have u6 := hKU.c6
  have HKU := Lib.hid hKU
  clear hU hBU hbox hKU
  have HL0 := Lib.hid (rlay_ck U H s st now (s.c - q) false la lc lv HKU.out hl now (s.c - q))
  have HL1 := Lib.hid (rlay_ck U.drew H s st now (s.c - q) false la lc lv HKU.out.drew hl now (s.c - q))
  go_region_with (first
   | (go_at_call 265; refine HL1.out.mono ?_; rintro e w4 ⟨rfl, la4, lc4, hk4, g4⟩; have HK4 := Lib.hid hk4; have HG4 := Lib.hid (HGU.out.trans ((GrowS.of_below (Below.refl _ _).drew).trans g4)); have y6 := hk4.c6; have y6f := hk4.fz 6; clear hk4 g4)
   | (go_at_call 265; refine HL0.out.mono ?_; rintro e w4 ⟨rfl, la4, lc4, hk4, g4⟩; have HK4 := Lib.hid hk4; have HG4 := Lib.hid (HGU.out.trans g4); have y6 := hk4.c6; have y6f := hk4.fz 6; clear hk4 g4)
   | fail "no arm")
  all_goals
   go_wp2_with fail
   go_end0
   have hB : But H w4 (w4.setCell ⟨H, 6, none⟩ (.int .i64 0)) := (But.refl H w4).set 6 _
   refine ⟨rfl, la4, lc4, ?_, HG4.out.trans (grow_but hB (.inl rfl))⟩
   rw [← HQ.out]
   exact HK4.out.boxed (set_at HK4.out.box) (fun k hk hkH => hB.block k hk hkH)
end Go.Proofs.YtchbehnkkcjdgaaGreat
namespace Go.Proofs.YtchbehnkkcjdgaaGreat
open Go.ChangeShapes Go.WideShapes Go.ChangeAt Go.RowKit
set_option linter.unusedVariables false
theorem rgo_all (w : World) (H : Nat) (s : Sv) (st last f : Int) (sp : Bool) (la : Option Addr) (lc : Nat) (lv : List Bk) (h : RfB w H s st last f sp la lc lv) (now : Int) (busy : Bool) (h0 : 0 ≤ st) (h1 : st ≤ last) (h2 : last ≤ now) (h3 : now ≤ 4611687117939015680) (hs : (1 ≤ s.c ∧ s.c ≤ s.t) ∧ 1 ≤ s.t ∧ s.t ≤ 1000) (hf : 0 ≤ f ∧ f ≤ 1000) (hl : lv.length ≤ 1000) (hq : 0 ≤ sumB lv ∧ sumB lv ≤ 1000) (hp : ∀ x ∈ lv, 1 ≤ x.n) :
 Calls Tryz.prog 254 #[.pointer (some ⟨H, 0, none⟩), .int .i64 now, .bool busy] w fun e w2 => e = .returned (.tuple #[]) ∧ ∃ la2 lc2, RfB w2 H s st now (rGo s.c s.t st ⟨last, f, lv, sp⟩ now busy).free sp la2 lc2 (rGo s.c s.t st ⟨last, f, lv, sp⟩ now busy).live ∧ GrowS (Rfl H la) (Rfl H la2) w w2 := by
 rw [rGo_eq]
 cases hb : decide (perOf s.t st last < perOf s.t st now) with
 | false =>
   have ef : fillV s.c s.t st ⟨last, f, lv, sp⟩ now = f := by unfold fillV; rw [if_neg (of_decide_eq_false hb)]
   rw [ef]
   cases busy with
   | false => exact rgo_old_idle w H s st last f sp la lc lv h now h0 h1 h2 h3 hs hf hl hq hp hb
   | true =>
     cases sp with
     | true => exact rgo_old_stop w H s st last f la lc lv h now h0 h1 h2 h3 hs hf hl hq hp hb
     | false =>
       by_cases hz : 0 < f
       ·rw [if_pos (by simpa using hz)]; exact rgo_old_lay w H s st last f la lc lv h now h0 h1 h2 h3 hs hf hl hq hp hb hz
       ·rw [if_neg (by simpa using hz)]; exact rgo_old_full w H s st last f la lc lv h now h0 h1 h2 h3 hs hf hl hq hp hb hz
 | true =>
   have ef : fillV s.c s.t st ⟨last, f, lv, sp⟩ now = s.c - sumB lv := by unfold fillV; rw [if_pos (of_decide_eq_true hb)]
   rw [ef]
   cases busy with
   | false => exact rgo_new_idle w H s st last f sp la lc lv h now h0 h1 h2 h3 hs hf hl hq hp hb
   | true =>
     cases sp with
     | true => exact rgo_new_stop w H s st last f la lc lv h now h0 h1 h2 h3 hs hf hl hq hp hb
     | false =>
       by_cases hz : 0 < s.c - sumB lv
       ·rw [if_pos (by simpa using hz)]; exact rgo_new_lay w H s st last f la lc lv h now h0 h1 h2 h3 hs hf hl hq hp hb hz
       ·rw [if_neg (by simpa using hz)]; exact rgo_new_full w H s st last f la lc lv h now h0 h1 h2 h3 hs hf hl hq hp hb hz
theorem rGo_more (C T st : Int) (b : Rd) (now : Int) (busy : Bool) : (rGo C T st b now busy).now = now ∧ (rGo C T st b now busy).stop = b.stop ∧ ∀ x ∈ (rGo C T st b now busy).live, x ∈ b.live ∨ x.at_ = now := by
 rw [rGo_eq]
 split
 ·refine ⟨rfl, rfl, fun x hx => ?_⟩
  rcases List.mem_append.1 hx with h | h
  ·exact .inl h
  ·rw [List.mem_singleton.1 h]; exact .inr rfl
 ·exact ⟨rfl, rfl, fun x hx => .inl hx⟩
theorem rgo_rf (w : World) (H : Nat) (S : Nat → Prop) (s : Sv) (st : Int) (b : Rd) (now : Int) (busy : Bool) (h2 : b.now ≤ now) (h3 : now ≤ 4611687117939015680) (h : RfAt H s st b w S) :
 Calls Tryz.prog 254 #[.pointer (some ⟨H, 0, none⟩), .int .i64 now, .bool busy] w fun e w' => ∃ S', e = .returned (.tuple #[]) ∧ RfAt H s st (rGo s.c s.t st b now busy) w' S' ∧ GrowS S S' w w' := by
 obtain ⟨la, lc, hk, hs, hok, hst, hlv, rfl⟩ := h
 have nb := newOk_bd hs
 obtain ⟨n1, n2, n3, n4, n5⟩ := rd_nums hs hok
 have hgo := hok.go (T := s.t) (start := st) h2 h3 busy
 obtain ⟨m1, m2, m3⟩ := rGo_more s.c s.t st b now busy
 refine (rgo_all w H s st b.now b.free b.stop la lc b.live hk now busy nb.2.2.2.1 hst h2 h3 ⟨⟨nb.1, nb.2.1⟩, by omega, nb.2.2.1⟩ n1 n2 n3 n4).mono ?_
 rintro e w2 ⟨rfl, la2, lc2, k2, g2⟩
 refine ⟨Rfl H la2, rfl, ⟨la2, lc2, ?_, hs, hgo, by rw [m1]; omega, fun x hx => ?_, rfl⟩, g2⟩
 ·rw [m1, m2]; exact k2
 ·rcases m3 x hx with h | h
  ·exact hlv x h
  ·rw [h]; omega
theorem Tryz.fieldRck0 (a b : Int) (w : World) : (Instr.field 316 (.agg #[.int .i64 a, .int .i64 b]) 0).run Tryz.prog w = .ok (.int .i64 a) w := by kernel_rfl
theorem rUse_cons (nw f : Int) (x : Bk) (l : List Bk) (sp : Bool) : rUse ⟨nw, f, x :: l, sp⟩ = ⟨nw, f, if x.n - 1 = 0 then l else ⟨x.at_, x.n - 1⟩ :: l, sp⟩ := by unfold rUse; dsimp only; split <;> rfl
set_option maxRecDepth 100000 in
set_option maxHeartbeats 4000000 in
theorem ruse_rf (w : World) (H : Nat) (S : Nat → Prop) (s : Sv) (st : Int) (b : Rd) (h : RfAt H s st b w S) :
 Calls Tryz.prog 258 #[.pointer (some ⟨H, 0, none⟩)] w fun e w' => ∃ S', e = .returned (.bool (rUseOk b)) ∧ RfAt H s st (rUse b) w' S' ∧ GrowS S S' w w' := by
 obtain ⟨la, lc, hk, hs, hok, hst, hlv, rfl⟩ := h
 have nb := newOk_bd hs
 obtain ⟨n1, n2, n3, n4, n5⟩ := rd_nums hs hok
 have HM := Lib.hid (rmade_yes w H s.t hk.c3 (by omega))
 have hus := hok.use
 obtain ⟨nw, f, lv, sp⟩ := b
 dsimp only at hk hst hlv n5
 have HZ := Lib.hid (rnone_any w H _ lc la hk.c0)
 cases lv with
 | nil =>
   have hfin : RfAt H s st ⟨nw, f, [], sp⟩ w (Rfl H la) := ⟨la, lc, hk, hs, hok, hst, hlv, rfl⟩
   have hd : decide (([] : List Bk).length = 0) = true := rfl
   rw [hd] at HZ
   clear hk hs hok hus hlv n1 n2 n3 n4 n5 nb
   go_enter Tryz.func258, Tryz.ntmps258
   go_wp2_with (first
    | (go_at_call 259; refine HM.out.mono ?_; rintro e w1 ⟨rfl, hw1⟩; rw [hw1]; clear hw1)
    | (go_at_call 261; refine HZ.out.mono ?_; rintro e w2 ⟨rfl, hw1⟩; rw [hw1]; clear hw1)
    | fail "no arm")
   go_ret
   exact ⟨Rfl H la, rfl, hfin, GrowS.of_below (Below.refl _ _)⟩
 | cons x l =>
   have HU := Lib.hid (ruse_ck w H s st nw f sp la lc x l hk (n5 x (List.mem_cons_self ..)).2)
   have hd : decide ((x :: l).length = 0) = false := by simp
   rw [hd] at HZ
   rw [rUse_cons] at hus ⊢
   obtain ⟨ls, hls⟩ : ∃ ls, ls = if x.n - 1 = 0 then l else ⟨x.at_, x.n - 1⟩ :: l := ⟨_, rfl⟩
   rw [← hls] at hus HU ⊢
   have hsub : ∀ y ∈ ls, st ≤ y.at_ := by
    intro y hy
    rw [hls] at hy
    split at hy
    ·exact hlv y (List.mem_cons_of_mem _ hy)
    ·rcases List.mem_cons.1 hy with rfl | hy
     ·exact hlv x (List.mem_cons_self ..)
     ·exact hlv y (List.mem_cons_of_mem _ hy)
   have HA := Lib.hid (And.intro hs (And.intro hus (And.intro hst hsub)))
   clear hk hs hok hus hlv n1 n2 n3 n4 n5 nb hst hls hsub
   go_enter Tryz.func258, Tryz.ntmps258
   go_wp2_with (first
    | (go_at_call 259; refine HM.out.mono ?_; rintro e w1 ⟨rfl, hw1⟩; rw [hw1]; clear hw1)
    | (go_at_call 261; refine HZ.out.mono ?_; rintro e w2 ⟨rfl, hw1⟩; rw [hw1]; clear hw1)
    | (go_at_call 266; refine HU.out.mono ?_; rintro e w3 ⟨rfl, la3, lc3, hk3, g3⟩; have HK3 := Lib.hid hk3; have HG3 := Lib.hid g3; clear hk3 g3)
    | fail "no arm")
   go_ret
   obtain ⟨a1, a2, a3, a4⟩ := HA.out
   have hfin : RfAt H s st ⟨nw, f, ls, sp⟩ w3 (Rfl H la3) := ⟨la3, lc3, HK3.out, a1, a2, a3, a4, rfl⟩
   first | exact ⟨Rfl H la3, rfl, hfin, HG3.out⟩ | exact ⟨rfl, Rfl H la3, hfin, HG3.out⟩
theorem rnil_grow {H : Nat} {la : Option Addr} {w w2 : World} (h : GrowS (Rfl H la) (Rfl H la) w w2) : GrowS (Rfl H la) (Rfl H none) w w2 := ⟨h.os, h.tape, h.output, h.size, h.block, fun k hk => .inl (hk.elim .inl (fun h => by cases h))⟩
set_option maxRecDepth 100000 in
set_option maxHeartbeats 4000000 in
theorem rdone_rf (w : World) (H : Nat) (S : Nat → Prop) (s : Sv) (st : Int) (b : Rd) (h : RfAt H s st b w S) :
 Calls Tryz.prog 252 #[.pointer (some ⟨H, 0, none⟩)] w fun e w' => ∃ S', e = .returned (.tuple #[]) ∧ RfAt H s st (rDone b) w' S' ∧ GrowS S S' w w' := by
 obtain ⟨la, lc, hk, hs, hok, hst, hlv, rfl⟩ := h
 have nb := newOk_bd hs
 obtain ⟨n1, n2, n3, n4, n5⟩ := rd_nums hs hok
 have HM := Lib.hid (rmade_yes w H s.t hk.c3 (by omega))
 have HD := Lib.hid hok.done
 obtain ⟨nw, f, lv, sp⟩ := b
 dsimp only at hk hst hlv n1 n2 n3 n4
 have HP := Lib.hid n4
 have HK := Lib.hid hk
 have HS := Lib.hid (And.intro hs hst)
 have d6 := hk.c6
 have d0 := hk.c0
 have f0 := hk.fz 0
 have f6 := hk.fz 6
 obtain ⟨q, hq0⟩ : ∃ q, q = sumB lv := ⟨_, rfl⟩
 have HQ := Lib.hid hq0
 rw [← hq0] at n3
 have e1 : IntKind.i64.wrap (f + q) = f + q := IntWalk.i64_in _ (by omega)
 clear hk hs hok hlv n4 n5 hst hq0
 go_enter Tryz.func252, Tryz.ntmps252
 go_upto_region 1 with (first
  | (go_at_call 259; refine HM.out.mono ?_; rintro e w1 ⟨rfl, hw1⟩; rw [hw1]; clear hw1)
  | fail "no arm")
 go_region_with (first
  | (go_at_call 260; refine (left_ck w.drew H s st nw f sp la lc lv HK.out.drew HP.out (by rw [← HQ.out]; omega)).mono ?_; rw [← HQ.out]; rintro e w3 ⟨rfl, hb3⟩; have HK3 := Lib.hid (HK.out.drew.later hb3); have HB3 : Hid (Below w.heap.size w w3) := Lib.hid (((Below.refl _ _).drew).trans (hb3.mono (by simp))); clear hb3; have e6 := HK3.out.c6; have e0 := HK3.out.c0; have g0 := HK3.out.fz 0; have g6 := HK3.out.fz 6)
  | (go_at_call 260; refine (left_ck w H s st nw f sp la lc lv HK.out HP.out (by rw [← HQ.out]; omega)).mono ?_; rw [← HQ.out]; rintro e w3 ⟨rfl, hb3⟩; have HK3 := Lib.hid (HK.out.later hb3); have HB3 : Hid (Below w.heap.size w w3) := Lib.hid (hb3); clear hb3; have e6 := HK3.out.c6; have e0 := HK3.out.c0; have g0 := HK3.out.fz 0; have g6 := HK3.out.fz 6)
  | fail "no arm")
 all_goals
  go_wp2_with fail
  go_end0
  obtain ⟨U, hU⟩ : ∃ U, U = (w3.setCell ⟨H, 6, none⟩ (.int .i64 (f + q))).setCell ⟨H, 0, none⟩ (.slice none 0 0) := ⟨_, rfl⟩
  rw [← hU]
  have hBU : But H w3 U := by rw [hU]; exact ((But.refl H w3).set 6 _).set 0 _
  have hbox : U.heap[H]? = some (.cells #[.slice none 0 0, .bool s.re, .int .i64 s.c, .int .i64 s.t, .int .i64 st, .int .i64 nw, .int .i64 (f + sumB lv), .bool sp] 247 (0, 0)) := by rw [hU, ← HQ.out]; exact set_at (set_at HK3.out.box)
  have hgr := rnil_grow ((GrowS.of_below (S := Rfl H la) HB3.out).trans (grow_but hBU (.inl rfl)))
  exact ⟨Rfl H none, rfl, ⟨none, 0, ⟨hbox, ORow.nil _ _ _⟩, HS.out.1, HD.out, HS.out.2, (fun x hx => by cases hx), rfl⟩, hgr⟩
set_option maxRecDepth 100000 in
set_option maxHeartbeats 4000000 in
theorem rstop_rf (w : World) (H : Nat) (S : Nat → Prop) (s : Sv) (st : Int) (b : Rd) (h : RfAt H s st b w S) :
 Calls Tryz.prog 257 #[.pointer (some ⟨H, 0, none⟩)] w fun e w' => ∃ S', e = .returned (.tuple #[]) ∧ RfAt H s st (rStop (rDone b) true) w' S' ∧ GrowS S S' w w' := by
 have HM : Hid (Calls Tryz.prog 259 #[.pointer (some ⟨H, 0, none⟩)] w fun e w' => e = .returned (.bool true) ∧ w' = w) := Lib.hid (by
  obtain ⟨la, lc, hk, hs, _⟩ := h
  exact rmade_yes w H s.t hk.c3 (by have := newOk_bd hs; omega))
 have HD := Lib.hid (rdone_rf w H S s st b h)
 clear h
 go_enter Tryz.func257, Tryz.ntmps257
 go_wp2_with (first
  | (go_at_call 259; refine HM.out.mono ?_; rintro e w1 ⟨rfl, hw1⟩; rw [hw1]; clear hw1)
  | (go_at_call 252; refine HD.out.mono ?_; rintro e w2 ⟨S2, rfl, hk2, g2⟩; obtain ⟨la, lc, hk, hs, hok, hst, hlv, rfl⟩ := hk2; have HA := Lib.hid (And.intro hk (And.intro hs (And.intro hok (And.intro hst hlv)))); have HG2 := Lib.hid g2; have d7 := hk.c7; have f7 := hk.fz 7; clear hk hs hok hst hlv g2)
  | fail "no arm")
 go_end0
 obtain ⟨a1, a2, a3, a4, a5⟩ := HA.out
 have hB : But H w2 (w2.setCell ⟨H, 7, none⟩ (.bool true)) := (But.refl H w2).set 7 _
 exact ⟨Rfl H la, rfl, ⟨la, lc, a1.boxed (set_at a1.box) (fun q hq hqn => hB.block q hq hqn), a2, a3.stopped true, a4, a5, rfl⟩, HG2.out.trans (grow_but hB (S := Rfl H la) (.inl rfl))⟩
set_option maxRecDepth 100000 in
set_option maxHeartbeats 4000000 in
theorem rresume_rf (w : World) (H : Nat) (S : Nat → Prop) (s : Sv) (st : Int) (b : Rd) (h : RfAt H s st b w S) :
 Calls Tryz.prog 256 #[.pointer (some ⟨H, 0, none⟩)] w fun e w' => ∃ S', e = .returned (.tuple #[]) ∧ RfAt H s st (rStop b false) w' S' ∧ GrowS S S' w w' := by
 obtain ⟨la, lc, hk, hs, hok, hst, hlv, rfl⟩ := h
 have nb := newOk_bd hs
 have HM := Lib.hid (rmade_yes w H s.t hk.c3 (by omega))
 have HA := Lib.hid (And.intro hk (And.intro hs (And.intro hok (And.intro hst hlv))))
 have d7 := hk.c7
 have f7 := hk.fz 7
 clear hk hs hok hst hlv
 go_enter Tryz.func256, Tryz.ntmps256
 go_wp2_with (first
  | (go_at_call 259; refine HM.out.mono ?_; rintro e w1 ⟨rfl, hw1⟩; rw [hw1]; clear hw1)
  | fail "no arm")
 go_end0
 obtain ⟨a1, a2, a3, a4, a5⟩ := HA.out
 have hB : But H w (w.setCell ⟨H, 7, none⟩ (.bool false)) := (But.refl H w).set 7 _
 exact ⟨Rfl H la, rfl, ⟨la, lc, a1.boxed (set_at a1.box) (fun q hq hqn => hB.block q hq hqn), a2, a3.stopped false, a4, a5, rfl⟩, grow_but hB (S := Rfl H la) (.inl rfl)⟩
set_option maxRecDepth 100000 in
set_option maxHeartbeats 4000000 in
theorem rreset_rf (w : World) (H : Nat) (S : Nat → Prop) (s : Sv) (st : Int) (b : Rd) (h : RfAt H s st b w S) :
 Calls Tryz.prog 255 #[.pointer (some ⟨H, 0, none⟩)] w fun e w' => ∃ S', e = .returned (.tuple #[]) ∧ RfAt H s st (rReset s.c b) w' S' ∧ GrowS S S' w w' := by
 obtain ⟨la, lc, hk, hs, hok, hst, hlv, rfl⟩ := h
 have nb := newOk_bd hs
 have HM := Lib.hid (rmade_yes w H s.t hk.c3 (by omega))
 have HA := Lib.hid (And.intro hk (And.intro hs (And.intro hok (And.intro hst hlv))))
 have d0 := hk.c0
 have d2 := hk.c2
 have d6 := hk.c6
 have d7 := hk.c7
 have f0 := hk.fz 0
 have f6 := hk.fz 6
 have f7 := hk.fz 7
 clear hk hs hok hst hlv
 go_enter Tryz.func255, Tryz.ntmps255
 go_wp2_with (first
  | (go_at_call 259; refine HM.out.mono ?_; rintro e w1 ⟨rfl, hw1⟩; rw [hw1]; clear hw1)
  | fail "no arm")
 go_end0
 obtain ⟨a1, a2, a3, a4, a5⟩ := HA.out
 obtain ⟨U, hU⟩ : ∃ U, U = ((w.setCell ⟨H, 0, none⟩ (.slice none 0 0)).setCell ⟨H, 6, none⟩ (.int .i64 s.c)).setCell ⟨H, 7, none⟩ (.bool false) := ⟨_, rfl⟩
 rw [← hU]
 have hB : But H w U := by rw [hU]; exact (((But.refl H w).set 0 _).set 6 _).set 7 _
 have hbox : U.heap[H]? = some (.cells #[.slice none 0 0, .bool s.re, .int .i64 s.c, .int .i64 s.t, .int .i64 st, .int .i64 b.now, .int .i64 s.c, .bool false] 247 (0, 0)) := by rw [hU]; exact set_at (set_at (set_at a1.box))
 exact ⟨Rfl H none, rfl, ⟨none, 0, ⟨hbox, ORow.nil _ _ _⟩, a2, a3.reset (by omega), a4, (fun x hx => by cases hx), rfl⟩, rnil_grow (grow_but hB (.inl rfl))⟩
set_option maxRecDepth 100000 in
set_option maxHeartbeats 4000000 in
theorem rdue_rf (w : World) (H : Nat) (S : Nat → Prop) (s : Sv) (st : Int) (b : Rd) (h : RfAt H s st b w S) :
 Calls Tryz.prog 253 #[.pointer (some ⟨H, 0, none⟩)] w fun e w' => e = .returned (.tuple #[.int .i64 (rDue s.t b), .bool (rUseOk b)]) ∧ Below w.heap.size w w' := by
 obtain ⟨la, lc, hk, hs, hok, hst, hlv, rfl⟩ := h
 have nb := newOk_bd hs
 obtain ⟨n1, n2, n3, n4, n5⟩ := rd_nums hs hok
 have HM := Lib.hid (rmade_yes w H s.t hk.c3 (by omega))
 obtain ⟨nw, f, lv, sp⟩ := b
 dsimp only at hk n5
 have HZ := Lib.hid (rnone_any w H _ lc la hk.c0)
 have hfd := Tryz.fieldRck0
 cases lv with
 | nil =>
   have hd : decide (([] : List Bk).length = 0) = true := rfl
   rw [hd] at HZ
   clear hk hs hok hst hlv n1 n2 n3 n4 n5
   go_enter Tryz.func253, Tryz.ntmps253
   go_wp2_with (first
    | (go_at_call 259; refine HM.out.mono ?_; rintro e w1 ⟨rfl, hw1⟩; rw [hw1]; clear hw1)
    | (go_at_call 261; refine HZ.out.mono ?_; rintro e w2 ⟨rfl, hw1⟩; rw [hw1]; clear hw1)
    | fail "no arm")
   go_ret2
   exact ⟨rfl, Below.refl _ _⟩
 | cons x l =>
   obtain ⟨m1, m2⟩ := n5 x (List.mem_cons_self ..)
   have hd : decide ((x :: l).length = 0) = false := by simp
   rw [hd] at HZ
   have HF := Lib.hid (rfirst_ck w H s st nw f sp la lc x l hk)
   have HK := Lib.hid hk
   clear hk hs hok hst hlv n1 n2 n3 n4 n5
   go_enter Tryz.func253, Tryz.ntmps253
   go_wp2_with (first
    | (go_at_call 259; refine HM.out.mono ?_; rintro e w1 ⟨rfl, hw1⟩; rw [hw1]; clear hw1)
    | (go_at_call 261; refine HZ.out.mono ?_; rintro e w2 ⟨rfl, hw1⟩; rw [hw1]; clear hw1)
    | (go_at_call 263; refine HF.out.mono ?_; rintro e w3 ⟨rfl, hb3'⟩; have hb3 := Lib.hid hb3'; clear hb3')
    | (go_at_call 262; refine (rfdue_any w3 H s.t x.at_ (HK.out.later hb3.out).c3 (by omega) m1).mono ?_; rintro e w4 ⟨rfl, hw1⟩; rw [hw1]; clear hw1)
    | fail "no arm")
   go_ret2
   exact ⟨rfl, hb3.out⟩
/-- The cells of a new budget. -/
def newR (re : Bool) (c t st : Int) : Array Value := #[.slice none 0 0, .bool re, .int .i64 c, .int .i64 t, .int .i64 st, .int .i64 st, .int .i64 c, .bool false]
set_option maxRecDepth 100000 in
theorem built_rfbud (re : Bool) (c t st : Int) : Tryz.prog.built 247 [(1, .agg #[.bool re, .int .i64 c, .int .i64 t]), (2, .int .i64 st), (3, .int .i64 st), (4, .int .i64 c)] = some (newR re c t st) := by kernel_rfl
theorem newOk_parts {re : Bool} {c t st : Int} (h : newOk re c t st = true) : okSv ⟨re, c, t⟩ = true ∧ 0 ≤ st ∧ st ≤ 4611686018427387904 := by
 simp only [newOk, Bool.and_eq_true, decide_eq_true_eq] at h
 exact h
set_option maxRecDepth 100000 in
set_option maxHeartbeats 4000000 in
theorem rnew_yes (re : Bool) (c t st : Int) (w : World) (hs : okSv ⟨re, c, t⟩ = true) (h0 : 0 ≤ st) (h1 : st ≤ 4611686018427387904) : Calls Tryz.prog 141 #[.agg #[.bool re, .int .i64 c, .int .i64 t], .int .i64 st] w fun e w' => ∃ H, e = .returned (.pointer (some ⟨H, 0, none⟩)) ∧ w'.heap[H]? = some (.cells (newR re c t st) 247 (0, 0)) ∧ w.heap.size ≤ H ∧ Below w.heap.size w w' := by
 have HB := Lib.hid (built_rfbud re c t st)
 have HS := Lib.hid hs
 have t0 : decide (st < 0) = false := decide_eq_false (by omega)
 have t1 : decide (4611686018427387904 < st) = false := decide_eq_false (by omega)
 clear hs
 obtain ⟨V, hV⟩ : ∃ V, V = w.alloc (.cells #[.bool re, .int .i64 c, .int .i64 t] 114) := ⟨_, rfl⟩
 obtain ⟨E, hE⟩ : ∃ E, E = w.heap.size := ⟨_, rfl⟩
 have hbV : Below w.heap.size w V := by rw [hV]; exact below1 _ _
 have hEV : V.heap[E]? = some (.cells #[.bool re, .int .i64 c, .int .i64 t] 114 (0, 0)) := by rw [hV, hE]; exact heap_alloc_new _ _
 have k0 : V.cell? ⟨E, 0, none⟩ = some (.bool re) := cell_in hEV rfl
 have k1 : V.cell? ⟨E, 1, none⟩ = some (.int .i64 c) := cell_in hEV rfl
 have k2 : V.cell? ⟨E, 2, none⟩ = some (.int .i64 t) := cell_in hEV rfl
 have KS : Hid (∀ W, Below V.heap.size V W → W.cell? ⟨E, 0, none⟩ = some (.bool re) ∧ W.cell? ⟨E, 1, none⟩ = some (.int .i64 c) ∧ W.cell? ⟨E, 2, none⟩ = some (.int .i64 t)) := Lib.hid (fun W hW => ⟨(hW.cell (p := ⟨E, 0, none⟩) (lt_of_block hEV)).trans k0, (hW.cell (p := ⟨E, 1, none⟩) (lt_of_block hEV)).trans k1, (hW.cell (p := ⟨E, 2, none⟩) (lt_of_block hEV)).trans k2⟩)
 have HV := Lib.hid hV
 have HE := Lib.hid hE
 have HBV := Lib.hid hbV
 clear hV hE hbV hEV
 go_enter Tryz.func141, Tryz.ntmps141
 go_upto_region 1 with fail
 rw [← HV.out, ← HE.out]
 go_wp2_with (first
  | (go_at_call 139; refine (serverRight_any re c t V).mono ?_; rintro e w2 ⟨rfl, hb2'⟩; rw [HS.out]; obtain ⟨y0, y1, y2⟩ := KS.out _ hb2'; have hb2 := Lib.hid hb2'; clear hb2')
  | (refine wpList_build3 (by rfl) 247 _ (by rfl) [(1, .agg #[.bool re, .int .i64 c, .int .i64 t]), (2, .int .i64 st), (3, .int .i64 st), (4, .int .i64 c)] (by rfl) _ HB.out ?_)
  | fail "no arm")
 go_ret
 have h2 := HBV.out.trans (hb2.out.mono HBV.out.size)
 exact ⟨w2.heap.size, rfl, heap_alloc_new _ _, h2.size, b_alloc h2 (Nat.le_refl _) _⟩
set_option maxRecDepth 100000 in
set_option maxHeartbeats 4000000 in
theorem rnew_no1 (re : Bool) (c t st : Int) (w : World) (hs : okSv ⟨re, c, t⟩ = false) : Calls Tryz.prog 141 #[.agg #[.bool re, .int .i64 c, .int .i64 t], .int .i64 st] w fun e w' => e = .returned (.pointer none) ∧ Below w.heap.size w w' := by
 have HS := Lib.hid hs
 clear hs
 obtain ⟨V, hV⟩ : ∃ V, V = w.alloc (.cells #[.bool re, .int .i64 c, .int .i64 t] 114) := ⟨_, rfl⟩
 obtain ⟨E, hE⟩ : ∃ E, E = w.heap.size := ⟨_, rfl⟩
 have hbV : Below w.heap.size w V := by rw [hV]; exact below1 _ _
 have hEV : V.heap[E]? = some (.cells #[.bool re, .int .i64 c, .int .i64 t] 114 (0, 0)) := by rw [hV, hE]; exact heap_alloc_new _ _
 have k0 : V.cell? ⟨E, 0, none⟩ = some (.bool re) := cell_in hEV rfl
 have k1 : V.cell? ⟨E, 1, none⟩ = some (.int .i64 c) := cell_in hEV rfl
 have k2 : V.cell? ⟨E, 2, none⟩ = some (.int .i64 t) := cell_in hEV rfl
 have KS : Hid (∀ W, Below V.heap.size V W → W.cell? ⟨E, 0, none⟩ = some (.bool re) ∧ W.cell? ⟨E, 1, none⟩ = some (.int .i64 c) ∧ W.cell? ⟨E, 2, none⟩ = some (.int .i64 t)) := Lib.hid (fun W hW => ⟨(hW.cell (p := ⟨E, 0, none⟩) (lt_of_block hEV)).trans k0, (hW.cell (p := ⟨E, 1, none⟩) (lt_of_block hEV)).trans k1, (hW.cell (p := ⟨E, 2, none⟩) (lt_of_block hEV)).trans k2⟩)
 have HV := Lib.hid hV
 have HE := Lib.hid hE
 have HBV := Lib.hid hbV
 clear hV hE hbV hEV
 go_enter Tryz.func141, Tryz.ntmps141
 go_upto_region 1 with fail
 rw [← HV.out, ← HE.out]
 go_wp2_with (first
  | (go_at_call 139; refine (serverRight_any re c t V).mono ?_; rintro e w2 ⟨rfl, hb2'⟩; rw [HS.out]; obtain ⟨y0, y1, y2⟩ := KS.out _ hb2'; have hb2 := Lib.hid hb2'; clear hb2')
  | fail "no arm")
 go_ret
 have h2 := HBV.out.trans (hb2.out.mono HBV.out.size)
 exact ⟨rfl, h2⟩
set_option maxRecDepth 100000 in
set_option maxHeartbeats 4000000 in
theorem rnew_no2 (re : Bool) (c t st : Int) (w : World) (hs : okSv ⟨re, c, t⟩ = true) (h0 : st < 0) : Calls Tryz.prog 141 #[.agg #[.bool re, .int .i64 c, .int .i64 t], .int .i64 st] w fun e w' => e = .returned (.pointer none) ∧ Below w.heap.size w w' := by
 have HS := Lib.hid hs
 have t0 : decide (st < 0) = true := decide_eq_true h0
 clear hs
 obtain ⟨V, hV⟩ : ∃ V, V = w.alloc (.cells #[.bool re, .int .i64 c, .int .i64 t] 114) := ⟨_, rfl⟩
 obtain ⟨E, hE⟩ : ∃ E, E = w.heap.size := ⟨_, rfl⟩
 have hbV : Below w.heap.size w V := by rw [hV]; exact below1 _ _
 have hEV : V.heap[E]? = some (.cells #[.bool re, .int .i64 c, .int .i64 t] 114 (0, 0)) := by rw [hV, hE]; exact heap_alloc_new _ _
 have k0 : V.cell? ⟨E, 0, none⟩ = some (.bool re) := cell_in hEV rfl
 have k1 : V.cell? ⟨E, 1, none⟩ = some (.int .i64 c) := cell_in hEV rfl
 have k2 : V.cell? ⟨E, 2, none⟩ = some (.int .i64 t) := cell_in hEV rfl
 have KS : Hid (∀ W, Below V.heap.size V W → W.cell? ⟨E, 0, none⟩ = some (.bool re) ∧ W.cell? ⟨E, 1, none⟩ = some (.int .i64 c) ∧ W.cell? ⟨E, 2, none⟩ = some (.int .i64 t)) := Lib.hid (fun W hW => ⟨(hW.cell (p := ⟨E, 0, none⟩) (lt_of_block hEV)).trans k0, (hW.cell (p := ⟨E, 1, none⟩) (lt_of_block hEV)).trans k1, (hW.cell (p := ⟨E, 2, none⟩) (lt_of_block hEV)).trans k2⟩)
 have HV := Lib.hid hV
 have HE := Lib.hid hE
 have HBV := Lib.hid hbV
 clear hV hE hbV hEV
 go_enter Tryz.func141, Tryz.ntmps141
 go_upto_region 1 with fail
 rw [← HV.out, ← HE.out]
 go_wp2_with (first
  | (go_at_call 139; refine (serverRight_any re c t V).mono ?_; rintro e w2 ⟨rfl, hb2'⟩; rw [HS.out]; obtain ⟨y0, y1, y2⟩ := KS.out _ hb2'; have hb2 := Lib.hid hb2'; clear hb2')
  | fail "no arm")
 go_ret
 have h2 := HBV.out.trans (hb2.out.mono HBV.out.size)
 exact ⟨rfl, h2⟩
set_option maxRecDepth 100000 in
set_option maxHeartbeats 4000000 in
theorem rnew_no3 (re : Bool) (c t st : Int) (w : World) (hs : okSv ⟨re, c, t⟩ = true) (h0 : 0 ≤ st) (h1 : 4611686018427387904 < st) : Calls Tryz.prog 141 #[.agg #[.bool re, .int .i64 c, .int .i64 t], .int .i64 st] w fun e w' => e = .returned (.pointer none) ∧ Below w.heap.size w w' := by
 have HS := Lib.hid hs
 have t0 : decide (st < 0) = false := decide_eq_false (by omega)
 have t1 : decide (4611686018427387904 < st) = true := decide_eq_true h1
 clear hs
 obtain ⟨V, hV⟩ : ∃ V, V = w.alloc (.cells #[.bool re, .int .i64 c, .int .i64 t] 114) := ⟨_, rfl⟩
 obtain ⟨E, hE⟩ : ∃ E, E = w.heap.size := ⟨_, rfl⟩
 have hbV : Below w.heap.size w V := by rw [hV]; exact below1 _ _
 have hEV : V.heap[E]? = some (.cells #[.bool re, .int .i64 c, .int .i64 t] 114 (0, 0)) := by rw [hV, hE]; exact heap_alloc_new _ _
 have k0 : V.cell? ⟨E, 0, none⟩ = some (.bool re) := cell_in hEV rfl
 have k1 : V.cell? ⟨E, 1, none⟩ = some (.int .i64 c) := cell_in hEV rfl
 have k2 : V.cell? ⟨E, 2, none⟩ = some (.int .i64 t) := cell_in hEV rfl
 have KS : Hid (∀ W, Below V.heap.size V W → W.cell? ⟨E, 0, none⟩ = some (.bool re) ∧ W.cell? ⟨E, 1, none⟩ = some (.int .i64 c) ∧ W.cell? ⟨E, 2, none⟩ = some (.int .i64 t)) := Lib.hid (fun W hW => ⟨(hW.cell (p := ⟨E, 0, none⟩) (lt_of_block hEV)).trans k0, (hW.cell (p := ⟨E, 1, none⟩) (lt_of_block hEV)).trans k1, (hW.cell (p := ⟨E, 2, none⟩) (lt_of_block hEV)).trans k2⟩)
 have HV := Lib.hid hV
 have HE := Lib.hid hE
 have HBV := Lib.hid hbV
 clear hV hE hbV hEV
 go_enter Tryz.func141, Tryz.ntmps141
 go_upto_region 1 with fail
 rw [← HV.out, ← HE.out]
 go_wp2_with (first
  | (go_at_call 139; refine (serverRight_any re c t V).mono ?_; rintro e w2 ⟨rfl, hb2'⟩; rw [HS.out]; obtain ⟨y0, y1, y2⟩ := KS.out _ hb2'; have hb2 := Lib.hid hb2'; clear hb2')
  | fail "no arm")
 go_ret
 have h2 := HBV.out.trans (hb2.out.mono HBV.out.size)
 exact ⟨rfl, h2⟩
/-! ### the contracts -/
def refillOk : RefillOk where
 Rg := RfAt
 own := rf_own
 bd := by
  rintro w H S s st b ⟨la, lc, hk, hs, hok, hst, hlv, rfl⟩
  exact ⟨hs, hok, hst, hlv⟩
 new_yes := fun re c t st w hs => (rnew_yes re c t st w (newOk_parts hs).1 (newOk_parts hs).2.1 (newOk_parts hs).2.2).mono (by
  rintro e w' ⟨H, rfl, h1, h2, h3⟩
  have nb := newOk_bd (s := ⟨re, c, t⟩) hs
  refine ⟨H, Rfl H none, rfl, ⟨none, 0, ⟨h1, ORow.nil _ _ _⟩, hs, RdOk.begin_ (by show 0 ≤ c; have := nb.1; simp only at this; omega) (by omega) (by omega), Int.le_refl _, (fun x hx => by cases hx), rfl⟩, fun k hk => ?_, h3⟩
  rcases hk with rfl | h
  ·exact h2
  ·cases h)
 new_no := fun re c t st w hs => by
  cases h1 : okSv ⟨re, c, t⟩ with
  | false => exact rnew_no1 re c t st w h1
  | true =>
    by_cases h2 : st < 0
    ·exact rnew_no2 re c t st w h1 h2
    ·exact rnew_no3 re c t st w h1 (by omega) (by
      simp only [newOk, h1, Bool.true_and, Bool.and_eq_false_iff, decide_eq_false_iff_not] at hs
      omega)
 go := fun w H S s st b now busy h0 h1 h => rgo_rf w H S s st b now busy h0 h1 h
 use := fun w H S s st b h => ruse_rf w H S s st b h
 done_ := fun w H S s st b h => rdone_rf w H S s st b h
 stop := fun w H S s st b h => rstop_rf w H S s st b h
 resume := fun w H S s st b h => rresume_rf w H S s st b h
 reset := fun w H S s st b h => rreset_rf w H S s st b h
 due := fun w H S s st b h => rdue_rf w H S s st b h
/-! ### nobody's -/
end Go.Proofs.YtchbehnkkcjdgaaGreat
