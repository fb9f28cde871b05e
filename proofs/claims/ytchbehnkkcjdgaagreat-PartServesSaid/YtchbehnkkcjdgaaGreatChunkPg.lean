/- Joined of ChunkP, ChunkQ, ChunkE, ChunkF, ChunkG, ChunkY, ChunkZ: The program's budget in memory; made, due, none, first, use, take. -/
import Derived.Test.YtchbehnkkcjdgaaGreatChunkC
import Derived.Test.YtchbehnkkcjdgaaGreatOff
import Derived.BigQuiet
import Derived.BigRegion
import Derived.Deep.RegionLaw
import Derived.Deep.RegionHeld3
import Derived.Test.YtchbehnkkcjdgaaGreatBuild
import Derived.Test.YtchbehnkkcjdgaaGreatRights
import Derived.OwnWalk
namespace Go.Proofs.YtchbehnkkcjdgaaGreat
open Go.ChangeShapes Go.WideShapes Go.ChangeAt Go.RowKit
set_option linter.unusedVariables false
/-- What a budget has in memory: its box H, its live chunks, and those that ended. -/
structure CkB (w : World) (H : Nat) (s : Sv) (f : Int) (st : Bool) (la : Option Addr) (lc : Nat) (lv : List Wn) (ea : Option Addr) (ec : Nat) (en : List Wn) : Prop where
 box : w.heap[H]? = some (.cells #[.slice la lv.length lc, .bool s.re, .int .i64 s.c, .int .i64 s.t, .int .i64 f, .bool st, .slice ea en.length ec] 252 (0, 0))
 l : ORow w 320 3 (.slice la lv.length lc) lv.length (lv.flatMap Wn.cells)
 e : ORow w 320 3 (.slice ea en.length ec) en.length (en.flatMap Wn.cells)
 d : ∀ g, ob la = some g → ob ea ≠ some g
/-- Its blocks. -/
def Bl (H : Nat) (la ea : Option Addr) : Nat → Prop := fun k => k = H ∨ ob la = some k ∨ ob ea = some k
section
variable {w w' : World} {H : Nat} {s : Sv} {f f' : Int} {st st' : Bool} {la ea : Option Addr} {lc ec : Nat} {lv en : List Wn}
theorem CkB.ll (h : CkB w H s f st la lc lv ea ec en) : ∀ g, ob la = some g → g < w.heap.size ∧ g ≠ H := fun g hg => by
 have h1 := h.l.kind g (by rw [own_ob]; exact hg)
 obtain ⟨cs, hc⟩ := h1
 refine ⟨lt_of_block hc, fun e => ?_⟩
 subst e
 have := h.box
 rw [hc] at this
 simp at this
theorem CkB.le (h : CkB w H s f st la lc lv ea ec en) : ∀ g, ob ea = some g → g < w.heap.size ∧ g ≠ H := fun g hg => by
 have h1 := h.e.kind g (by rw [own_ob]; exact hg)
 obtain ⟨cs, hc⟩ := h1
 refine ⟨lt_of_block hc, fun e => ?_⟩
 subst e
 have := h.box
 rw [hc] at this
 simp at this
theorem CkB.lt (h : CkB w H s f st la lc lv ea ec en) : ∀ k, Bl H la ea k → k < w.heap.size := by
 rintro k (rfl | hk | hk)
 ·exact lt_of_block h.box
 ·exact (h.ll k hk).1
 ·exact (h.le k hk).1
theorem CkB.hold (h : CkB w H s f st la lc lv ea ec en) (hs : ∀ k, Bl H la ea k → w'.heap[k]? = w.heap[k]?) : CkB w' H s f st la lc lv ea ec en :=
 ⟨(hs H (.inl rfl)).trans h.box, h.l.hold (fun g hg => hs g (.inr (.inl (by rwa [own_ob] at hg)))), h.e.hold (fun g hg => hs g (.inr (.inr (by rwa [own_ob] at hg)))), h.d⟩
theorem CkB.later (h : CkB w H s f st la lc lv ea ec en) (hb : Below w.heap.size w w') : CkB w' H s f st la lc lv ea ec en := h.hold fun k hk => hb.block k (h.lt k hk)
/-- Another box, the same rows. -/
theorem CkB.boxed (h : CkB w H s f st la lc lv ea ec en) (hb : w'.heap[H]? = some (.cells #[.slice la lv.length lc, .bool s.re, .int .i64 s.c, .int .i64 s.t, .int .i64 f', .bool st', .slice ea en.length ec] 252 (0, 0))) (hs : ∀ k, k < w.heap.size → k ≠ H → w'.heap[k]? = w.heap[k]?) : CkB w' H s f' st' la lc lv ea ec en :=
 ⟨hb, h.l.hold (fun g hg => by rw [own_ob] at hg; exact hs g (h.ll g hg).1 (h.ll g hg).2), h.e.hold (fun g hg => by rw [own_ob] at hg; exact hs g (h.le g hg).1 (h.le g hg).2), h.d⟩
theorem CkB.c0 (h : CkB w H s f st la lc lv ea ec en) : w.cell? ⟨H, 0, none⟩ = some (.slice la lv.length lc) := cell_in h.box rfl
theorem CkB.c3 (h : CkB w H s f st la lc lv ea ec en) : w.cell? ⟨H, 3, none⟩ = some (.int .i64 s.t) := cell_in h.box rfl
theorem CkB.c4 (h : CkB w H s f st la lc lv ea ec en) : w.cell? ⟨H, 4, none⟩ = some (.int .i64 f) := cell_in h.box rfl
theorem CkB.c5 (h : CkB w H s f st la lc lv ea ec en) : w.cell? ⟨H, 5, none⟩ = some (.bool st) := cell_in h.box rfl
theorem CkB.c6 (h : CkB w H s f st la lc lv ea ec en) : w.cell? ⟨H, 6, none⟩ = some (.slice ea en.length ec) := cell_in h.box rfl
theorem CkB.fz (h : CkB w H s f st la lc lv ea ec en) (j : Nat) : w.frozen? ⟨H, j, none⟩ = false := free_in h.box j
end
theorem set3c {w : World} {X : Nat} {T : TypeId} {cs : Array Value} (h : w.heap[X]? = some (.cells cs T (0, 0))) (hs : cs.size = 3) (v0 v1 v2 : Value) :
 (((w.setCell ⟨X, 0, none⟩ v0).setCell ⟨X, 1, none⟩ v1).setCell ⟨X, 2, none⟩ v2).heap[X]? = some (.cells #[v0, v1, v2] T (0, 0)) := by
 have h3 := set_at (j := 2) (u := v2) (set_at (j := 1) (u := v1) (set_at (j := 0) (u := v0) h))
 rw [h3]
 match cs, hs with
 | ⟨[a, b, c]⟩, _ => rfl
theorem Tryz.sizeChk : (Tryz.prog.info? 320).map (·.size) = some 3 := by kernel_rfl
set_option maxRecDepth 100000 in
set_option maxHeartbeats 4000000 in
theorem made_yes (w : World) (H : Nat) (t : Int) (b3 : w.cell? ⟨H, 3, none⟩ = some (.int .i64 t)) (ht : 1 ≤ t) : Calls Tryz.prog 275 #[.pointer (some ⟨H, 0, none⟩)] w fun e w' => e = .returned (.bool true) ∧ w' = w := by
 have t0 : decide (0 < t) = true := decide_eq_true (by omega)
 go_enter Tryz.func275, Tryz.ntmps275
 go_wp2
 go_ret
 exact ⟨rfl, rfl⟩
set_option maxRecDepth 100000 in
set_option maxHeartbeats 4000000 in
theorem due_any (w : World) (H : Nat) (t x : Int) (b3 : w.cell? ⟨H, 3, none⟩ = some (.int .i64 t)) (ht : 1 ≤ t ∧ t ≤ 1000) (hx : 0 ≤ x ∧ x ≤ 4611687117939015680) : Calls Tryz.prog 279 #[.pointer (some ⟨H, 0, none⟩), .int .i64 x] w fun e w' => e = .returned (.int .i64 (x + t)) ∧ w' = w := by
 go_enter Tryz.func279, Tryz.ntmps279
 go_wp2
 go_ret
 exact ⟨rfl, rfl⟩
set_option maxRecDepth 100000 in
set_option maxHeartbeats 4000000 in
theorem none_any (w : World) (H n c : Nat) (a : Option Addr) (b0 : w.cell? ⟨H, 0, none⟩ = some (.slice a n c)) : Calls Tryz.prog 276 #[.pointer (some ⟨H, 0, none⟩)] w fun e w' => e = .returned (.bool (decide (n = 0))) ∧ w' = w := by
 have t0 : ((n : Int) == 0) = decide (n = 0) := by
  rw [Bool.eq_iff_iff]; simp
 go_enter Tryz.func276, Tryz.ntmps276
 go_wp2
 go_ret
 exact ⟨rfl, rfl⟩
set_option maxRecDepth 100000 in
set_option maxHeartbeats 4000000 in
theorem first_any (w : World) (H n c g off : Nat) (x0 x1 x2 : Int) (b0 : w.cell? ⟨H, 0, none⟩ = some (.slice (some ⟨g, off, none⟩) n c)) (hn : 0 < n) (g0 : w.cell? ⟨g, off, none⟩ = some (.int .i64 x0)) (g1 : w.cell? ⟨g, off + 1, none⟩ = some (.int .i64 x1)) (g2 : w.cell? ⟨g, off + 2, none⟩ = some (.int .i64 x2)) :
 Calls Tryz.prog 280 #[.pointer (some ⟨H, 0, none⟩)] w fun e w' => e = .returned (.agg #[.int .i64 x0, .int .i64 x1, .int .i64 x2]) ∧ Below w.heap.size w w' := by
 have l1 : (0 : Int) < (n : Int) := by omega
 obtain ⟨V, hV⟩ : ∃ V, V = w.alloc (.cells #[.int .i64 0, .int .i64 0, .int .i64 0] 320) := ⟨_, rfl⟩
 obtain ⟨E, hE⟩ : ∃ E, E = w.heap.size := ⟨_, rfl⟩
 have hbV : Below w.heap.size w V := by rw [hV]; exact below1 _ _
 have hEV : V.heap[E]? = some (.cells #[.int .i64 0, .int .i64 0, .int .i64 0] 320 (0, 0)) := by rw [hV, hE]; exact heap_alloc_new _ _
 have k0 : V.cell? ⟨E, 0, none⟩ = some (.int .i64 0) := cell_in hEV rfl
 have k1 : V.cell? ⟨E, 1, none⟩ = some (.int .i64 0) := cell_in hEV rfl
 have k2 : V.cell? ⟨E, 2, none⟩ = some (.int .i64 0) := cell_in hEV rfl
 have y0 := free_in hEV 0
 have y1 := free_in hEV 1
 have y2 := free_in hEV 2
 have b0' : V.cell? ⟨H, 0, none⟩ = some (.slice (some ⟨g, off, none⟩) n c) := by rw [hV]; exact Lib.cell?_alloc_some _ b0
 have g0' : V.cell? ⟨g, off, none⟩ = some (.int .i64 x0) := by rw [hV]; exact Lib.cell?_alloc_some _ g0
 have g1' : V.cell? ⟨g, off + 1, none⟩ = some (.int .i64 x1) := by rw [hV]; exact Lib.cell?_alloc_some _ g1
 have g2' : V.cell? ⟨g, off + 2, none⟩ = some (.int .i64 x2) := by rw [hV]; exact Lib.cell?_alloc_some _ g2
 have HV := Lib.hid hV
 have HE := Lib.hid hE
 have HEV := Lib.hid hEV
 have HBV := Lib.hid hbV
 clear hV hE hEV hbV b0 g0 g1 g2
 go_enter Tryz.func280, Tryz.ntmps280
 go_upto_region 1 with fail
 rw [← HV.out, ← HE.out]
 go_wp2
 have hX := set3c HEV.out rfl (.int .i64 x0) (.int .i64 x1) (.int .i64 x2)
 refine bodyPost_ret (results_cell_row (P := Tryz.prog) rfl _ _ E _ _ (0, 0) _ rfl hX Tryz.underlying320 rfl Tryz.sizeChk) rfl ?_
 exact ⟨rfl, ((HBV.out.setCell (p := ⟨E, 0, none⟩) (by rw [HE.out]; exact Nat.le_refl _) _).setCell (p := ⟨E, 1, none⟩) (by rw [HE.out]; exact Nat.le_refl _) _).setCell (p := ⟨E, 2, none⟩) (by rw [HE.out]; exact Nat.le_refl _) _⟩
set_option maxRecDepth 100000 in
set_option maxHeartbeats 4000000 in
theorem use_any0 (w : World) (H n c g off : Nat) (x1 x2 : Int) (b0 : w.cell? ⟨H, 0, none⟩ = some (.slice (some ⟨g, off, none⟩) n c)) (hn : 0 < n) (g1 : w.cell? ⟨g, off + 1, none⟩ = some (.int .i64 x1)) (g2 : w.cell? ⟨g, off + 2, none⟩ = some (.int .i64 x2)) (f1 : w.frozen? ⟨g, off + 1, none⟩ = false) (f2 : w.frozen? ⟨g, off + 2, none⟩ = false) (hne : g ≠ H) (h1 : 0 ≤ x1 ∧ x1 ≤ 1000) (h2 : 0 ≤ x2 ∧ x2 ≤ 1000) :
 Calls Tryz.prog 283 #[.pointer (some ⟨H, 0, none⟩)] w fun e w' => e = .returned (.tuple #[]) ∧ w' = (w.setCell ⟨g, off + 1, none⟩ (.int .i64 (x1 - 1))).setCell ⟨g, off + 2, none⟩ (.int .i64 (x2 + 1)) := by
 have l1 : (0 : Int) < (n : Int) := by omega
 have e1 : IntKind.i64.wrap (x1 - 1) = x1 - 1 := IntWalk.i64_in _ (by omega)
 have e2 : IntKind.i64.wrap (x2 + 1) = x2 + 1 := IntWalk.i64_in _ (by omega)
 have hne2 : H ≠ g := fun e => hne e.symm
 go_enter Tryz.func283, Tryz.ntmps283
 go_wp2
 go_end0
 exact ⟨rfl, rfl⟩
/-- A row's first one. -/
theorem orow_head {w : World} {a : Option Addr} {n c : Nat} {x : Wn} {l : List Wn} (h : ORow w 320 3 (.slice a n c) n ((x :: l).flatMap Wn.cells)) (hn : 0 < n) : ∃ g off, a = some ⟨g, off, none⟩ ∧ w.cell? ⟨g, off, none⟩ = some (.int .i64 x.at_) ∧ w.cell? ⟨g, off + 1, none⟩ = some (.int .i64 x.len) ∧ w.cell? ⟨g, off + 2, none⟩ = some (.int .i64 x.part) ∧ (∀ j, w.frozen? ⟨g, j, none⟩ = false) := by
 obtain ⟨g, off, rfl, hc, hf, _⟩ := h.at_ hn
 exact ⟨g, off, rfl, hc 0 _ (by simp [Wn.cells]), hc 1 _ (by simp [Wn.cells]), hc 2 _ (by simp [Wn.cells]), hf⟩
/-- Only blocks of S are written; none is made. -/
theorem first_ck (w : World) (H : Nat) (s : Sv) (f : Int) (st : Bool) (la ea : Option Addr) (lc ec : Nat) (x : Wn) (l en : List Wn) (h : CkB w H s f st la lc (x :: l) ea ec en) : Calls Tryz.prog 280 #[.pointer (some ⟨H, 0, none⟩)] w fun e w' => e = .returned (.agg #[.int .i64 x.at_, .int .i64 x.len, .int .i64 x.part]) ∧ Below w.heap.size w w' := by
 obtain ⟨g, off, rfl, g0, g1, g2, _⟩ := orow_head h.l (by simp)
 exact first_any w H _ lc g off _ _ _ h.c0 (by simp) g0 g1 g2
theorem use_ck (w : World) (H : Nat) (s : Sv) (f : Int) (st : Bool) (la ea : Option Addr) (lc ec : Nat) (x : Wn) (l en : List Wn) (h : CkB w H s f st la lc (x :: l) ea ec en) (h1 : 0 ≤ x.len ∧ x.len ≤ 1000) (h2 : 0 ≤ x.part ∧ x.part ≤ 1000) :
 Calls Tryz.prog 283 #[.pointer (some ⟨H, 0, none⟩)] w fun e w' => e = .returned (.tuple #[]) ∧ CkB w' H s f st la lc (⟨x.at_, x.len - 1, x.part + 1⟩ :: l) ea ec en ∧ GrowS (Bl H la ea) (Bl H la ea) w w' := by
 obtain ⟨g, off, rfl, g0, g1, g2, hf⟩ := orow_head h.l (by simp)
 have hne := (h.ll g rfl).2
 refine (use_any0 w H _ lc g off _ _ h.c0 (by simp) g1 g2 (hf _) (hf _) hne h1 h2).mono ?_
 rintro e w' ⟨rfl, rfl⟩
 have hB : But g w ((w.setCell ⟨g, off + 1, none⟩ (.int .i64 (x.len - 1))).setCell ⟨g, off + 2, none⟩ (.int .i64 (x.part + 1))) := ((But.refl g w).set (off + 1) _).set (off + 2) _
 have hz : ((w.setCell ⟨g, off + 1, none⟩ (.int .i64 (x.len - 1))).setCell ⟨g, off + 2, none⟩ (.int .i64 (x.part + 1))).heap.size = w.heap.size := by simp
 refine ⟨rfl, ⟨(hB.block H (lt_of_block h.box) (fun e => hne e.symm)).trans h.box, ?_, h.e.hold (fun k hk => ?_), h.d⟩, ⟨hB.os, hB.tape, hB.output, hB.size, fun k hk hn => hB.block k hk (fun e => hn (by subst e; exact .inr (.inl rfl))), fun k hk => .inl hk⟩⟩
 ·have := (h.l.set (j := 1) (by simp; omega) (.int .i64 (x.len - 1))).set (j := 2) (by simp; omega) (.int .i64 (x.part + 1))
  simpa [Wn.cells] using this
 ·rw [own_ob] at hk
  exact hB.block k (h.le k hk).1 (fun e => h.d g rfl (by rw [← e]; exact hk))
set_option maxRecDepth 100000 in
set_option maxHeartbeats 4000000 in
theorem take_ck (w : World) (H : Nat) (s : Sv) (f : Int) (st : Bool) (la ea : Option Addr) (lc ec : Nat) (x : Wn) (l en : List Wn) (h : CkB w H s f st la lc (x :: l) ea ec en) :
 Calls Tryz.prog 278 #[.pointer (some ⟨H, 0, none⟩)] w fun e w' => e = .returned (.agg #[.int .i64 x.at_, .int .i64 x.len, .int .i64 x.part]) ∧ ∃ la' lc', CkB w' H s f st la' lc' l ea ec en ∧ ob la' = ob la ∧ GrowS (Bl H la ea) (Bl H la' ea) w w' := by
 obtain ⟨n, hn⟩ : ∃ n, n = (x :: l).length := ⟨_, rfl⟩
 have hn1 : 0 < n := by rw [hn]; simp
 have hl0 := h.l
 rw [← hn] at hl0
 obtain ⟨a', hs', hl', ho'⟩ := hl0.cut hn1
 obtain ⟨x0, x1, x2⟩ := x
 obtain ⟨V, hV⟩ : ∃ V, V = w.alloc (.cells #[.int .i64 0, .int .i64 0, .int .i64 0] 320) := ⟨_, rfl⟩
 obtain ⟨E, hE⟩ : ∃ E, E = w.heap.size := ⟨_, rfl⟩
 have hbV : Below w.heap.size w V := by rw [hV]; exact below1 _ _
 have hEV : V.heap[E]? = some (.cells #[.int .i64 0, .int .i64 0, .int .i64 0] 320 (0, 0)) := by rw [hV, hE]; exact heap_alloc_new _ _
 have HQ := Lib.hid (first_ck V H s f st la ea lc ec _ l en (h.later hbV))
 have HK := Lib.hid (h.later hbV)
 have HW := Lib.hid h
 have HV := Lib.hid hV
 have HE := Lib.hid hE
 have HEV := Lib.hid hEV
 have HBV := Lib.hid hbV
 have HN := Lib.hid hn
 have HS := Lib.hid hs'
 have HL := Lib.hid hl'
 have HO := Lib.hid ho'
 have l1 : (1 : Int) ≤ (n : Int) := by omega
 clear hV hE hEV hbV h hl0 hl' ho' hs' hn hn1
 go_enter Tryz.func278, Tryz.ntmps278
 go_upto_region 1 with fail
 rw [← HV.out, ← HE.out]
 go_upto_region 2 with (first
  | (go_at_call 280; refine HQ.out.mono ?_; rintro e w1 ⟨rfl, hb1'⟩; have hb1 := Lib.hid hb1'; clear hb1')
  | fail "no arm")
 obtain ⟨U, hU⟩ : ∃ U, U = w1.alloc (.cells #[.int .i64 x0, .int .i64 x1, .int .i64 x2] 320) := ⟨_, rfl⟩
 obtain ⟨F, hF⟩ : ∃ F, F = w1.heap.size := ⟨_, rfl⟩
 have hkU : CkB U H s f st la lc (⟨x0, x1, x2⟩ :: l) ea ec en := by rw [hU]; exact (HK.out.later hb1.out).later (below1 _ _)
 have hFU : U.heap[F]? = some (.cells #[.int .i64 x0, .int .i64 x1, .int .i64 x2] 320 (0, 0)) := by rw [hU, hF]; exact heap_alloc_new _ _
 have b0 := hkU.c0
 rw [← HN.out] at b0
 have f0 := hkU.fz 0
 have HU := Lib.hid hU
 have HF := Lib.hid hF
 clear hU hF
 rw [← HU.out, ← HF.out]
 go_upto_region 3 with fail
 rw [HS.out]
 obtain ⟨Y, hY⟩ : ∃ Y, Y = U.setCell ⟨H, 0, none⟩ (.slice a' (n - 1) (lc - 1)) := ⟨_, rfl⟩
 have hEH : E ≠ H := fun e => by have := lt_of_block HW.out.box; rw [← e, HE.out] at this; omega
 have hFH : F ≠ H := fun e => by have := lt_of_block (HK.out.later hb1.out).box; rw [← e, HF.out] at this; omega
 have hUB : Below w.heap.size w U := by rw [HU.out]; exact b_alloc (HBV.out.trans (hb1.out.mono HBV.out.size)) (by have := HBV.out.size; have := hb1.out.size; omega) _
 have hEU : U.heap[E]? = some (.cells #[.int .i64 0, .int .i64 0, .int .i64 0] 320 (0, 0)) := by
  have h1 := hb1.out.block E (lt_of_block HEV.out)
  rw [HU.out]
  exact ((below1 w1 _).block E (Nat.lt_of_lt_of_le (lt_of_block HEV.out) hb1.out.size)).trans (h1.trans HEV.out)
 have hBH : But H U Y := by rw [hY]; exact (But.refl H U).set 0 _
 have hFY : Y.heap[F]? = _ := hBH.at hFU hFH
 have hEY : Y.heap[E]? = _ := hBH.at hEU hEH
 have hbY := set_at (j := 0) (u := .slice a' (n - 1) (lc - 1)) hkU.box
 rw [← hY] at hbY
 have z0 := cell_in (j := 0) hFY rfl
 have z1 := cell_in (j := 1) hFY rfl
 have z2 := cell_in (j := 2) hFY rfl
 have k0 := cell_in (j := 0) hEY rfl
 have k1 := cell_in (j := 1) hEY rfl
 have k2 := cell_in (j := 2) hEY rfl
 have y0 := free_in hEY 0
 have y1 := free_in hEY 1
 have y2 := free_in hEY 2
 have HY := Lib.hid hY
 have HEY := Lib.hid hEY
 have HHY := Lib.hid hbY
 have HBH := Lib.hid hBH
 have HKU := Lib.hid hkU
 have HUB := Lib.hid hUB
 clear hY hEY hFY hbY hBH hkU hUB hEU hFU b0 f0
 rw [← HY.out]
 go_wp2
 have hX := set3c HEY.out rfl (.int .i64 x0) (.int .i64 x1) (.int .i64 x2)
 refine bodyPost_ret (results_cell_row (P := Tryz.prog) rfl _ _ E _ _ (0, 0) _ rfl hX Tryz.underlying320 rfl Tryz.sizeChk) rfl ?_
 clear z0 z1 z2 k0 k1 k2 y0 y1 y2
 have hBE : But E Y _ := (((But.refl E Y).set 0 (.int .i64 x0)).set 1 (.int .i64 x1)).set 2 (.int .i64 x2)
 have hkU := HKU.out
 have hzY : Y.heap.size = U.heap.size := by rw [HY.out]; simp
 have hold : ∀ k, k < w.heap.size → k ≠ H → (((Y.setCell ⟨E, 0, none⟩ (.int .i64 x0)).setCell ⟨E, 1, none⟩ (.int .i64 x1)).setCell ⟨E, 2, none⟩ (.int .i64 x2)).heap[k]? = w.heap[k]? := fun k hk hkH => by
  have s1 := HUB.out.size
  rw [hBE.block k (by omega) (by rw [HE.out]; omega), HBH.out.block k (by omega) hkH, HUB.out.block k hk]
 have hnl : n - 1 = l.length := by rw [HN.out]; simp
 have ho : ob a' = ob la := by have := HO.out; rw [own_ob, own_ob] at this; exact this
 have hll := HL.out
 rw [show List.drop 3 (List.flatMap Wn.cells ((⟨x0, x1, x2⟩ : Wn) :: l)) = l.flatMap Wn.cells from rfl, hnl] at hll
 refine ⟨rfl, a', lc - 1, ⟨?_, ?_, ?_, ?_⟩, ho, ⟨hBE.os.trans (HBH.out.os.trans HUB.out.os), hBE.tape.trans (HBH.out.tape.trans HUB.out.tape), hBE.output.trans (HBH.out.output.trans HUB.out.output), ?_, ?_, ?_⟩⟩
 ·refine (hBE.block H (lt_of_block HHY.out) (fun e => hEH e.symm)).trans ?_
  rw [HHY.out, hnl]
  rfl
 ·refine hll.hold (fun g hg => ?_)
  rw [own_ob, ho] at hg
  exact hold g (HW.out.ll g hg).1 (HW.out.ll g hg).2
 ·refine HW.out.e.hold (fun g hg => ?_)
  rw [own_ob] at hg
  exact hold g (HW.out.le g hg).1 (HW.out.le g hg).2
 ·rw [ho]; exact HW.out.d
 ·have s1 := HUB.out.size; have s2 := hBE.size; omega
 ·exact fun k hk hn => hold k hk (fun e => hn (.inl e))
 ·rintro k (hk | hk | hk)
  ·exact .inl (.inl hk)
  ·rw [ho] at hk; exact .inl (.inr (.inl hk))
  ·exact .inl (.inr (.inr hk))
end Go.Proofs.YtchbehnkkcjdgaaGreat
namespace Go.Proofs.YtchbehnkkcjdgaaGreat
open Go.ChangeShapes Go.WideShapes Go.ChangeAt Go.RowKit
set_option linter.unusedVariables false
theorem Tryz.infoChk : (Tryz.prog.info? 320).map (fun i => (i.zero, i.size, i.bytes)) = some (some (.agg #[.int .i64 0, .int .i64 0, .int .i64 0]), 3, 24) := by kernel_rfl
/-- The live row has grown: the box is written behind. -/
theorem CkB.grew_l {w w5 w6 : World} {H : Nat} {s : Sv} {f f' : Int} {st : Bool} {la ea ao : Option Addr} {lc ec cap : Nat} {lv en lv' : List Wn} (h : CkB w H s f st la lc lv ea ec en) (hb : Below w.heap.size w w5)
 (h2 : ORow w6 320 3 (.slice ao lv'.length cap) lv'.length (lv'.flatMap Wn.cells)) (hg : w5.grownBy w6 (Value.slice la lv.length lc).ownBlock) (ho : (Value.slice ao lv'.length cap).ownBlock = (Value.slice la lv.length lc).ownBlock ∨ (Value.slice ao lv'.length cap).ownBlock = some w5.heap.size) :
 (w6.cell? ⟨H, 0, none⟩).isSome = true ∧ w6.frozen? ⟨H, 0, none⟩ = false ∧ CkB (w6.setCell ⟨H, 0, none⟩ (.slice ao lv'.length cap)) H s f st ao cap lv' ea ec en ∧ GrowS (Bl H la ea) (Bl H ao ea) w (w6.setCell ⟨H, 0, none⟩ (.slice ao lv'.length cap)) := by
 rw [own_ob] at hg
 rw [own_ob, own_ob] at ho
 have s1 := hb.size
 have s2 := hg.size
 have hH := lt_of_block h.box
 have hsame : ∀ k, k < w.heap.size → ob la ≠ some k → w6.heap[k]? = w.heap[k]? := fun k hk hne => (hg.block k (by omega) (fun e => hne e.symm)).trans (hb.block k hk)
 have hbox6 := (hsame H hH (fun e => (h.ll H e).2 rfl)).trans h.box
 have hB : But H w6 (w6.setCell ⟨H, 0, none⟩ (.slice ao lv'.length cap)) := (But.refl H w6).set 0 _
 have hz : (w6.setCell ⟨H, 0, none⟩ (.slice ao lv'.length cap)).heap.size = w6.heap.size := by simp
 have hao : ∀ g, ob ao = some g → g < w6.heap.size ∧ g ≠ H := fun g hg' => by
  rcases ho with h1 | h1
  ·have := h.ll g (by rw [← h1]; exact hg'); exact ⟨by omega, this.2⟩
  ·refine ⟨h2.lt g (by rw [own_ob]; exact hg'), ?_⟩
   rw [h1] at hg'; cases hg'; omega
 refine ⟨by rw [cell_in hbox6 rfl]; rfl, free_in hbox6 _, ⟨set_at hbox6, h2.hold (fun g hg' => ?_), h.e.hold (fun g hg' => ?_), ?_⟩, ⟨hB.os.trans (hg.os.trans hb.os), hB.tape.trans (hg.tape.trans hb.tape), hB.output.trans (hg.output.trans hb.output), by omega, fun k hk hn => ?_, ?_⟩⟩
 ·rw [own_ob] at hg'
  exact hB.block g (hao g hg').1 (hao g hg').2
 ·rw [own_ob] at hg'
  have := h.le g hg'
  exact (hB.block g (by omega) this.2).trans (hsame g this.1 (fun e => h.d g e hg'))
 ·intro g hg' he
  rcases ho with h1 | h1
  ·exact h.d g (by rw [← h1]; exact hg') he
  ·rw [h1] at hg'; cases hg'; have := (h.le _ he).1; omega
 ·exact (hB.block k (by omega) (fun e => hn (.inl e))).trans (hsame k hk (fun e => hn (.inr (.inl e))))
 ·rintro k (hk | hk | hk)
  ·exact .inl (.inl hk)
  ·rcases ho with h1 | h1
   ·exact .inl (.inr (.inl (by rw [← h1]; exact hk)))
   ·rw [h1] at hk; cases hk; exact .inr s1
  ·exact .inl (.inr (.inr hk))
/-- The row of those that ended has grown. -/
theorem CkB.grew_e {w w5 w6 : World} {H : Nat} {s : Sv} {f f' : Int} {st : Bool} {la ea ao : Option Addr} {lc ec cap : Nat} {lv en en' : List Wn} (h : CkB w H s f st la lc lv ea ec en) (hb : Below w.heap.size w w5)
 (h2 : ORow w6 320 3 (.slice ao en'.length cap) en'.length (en'.flatMap Wn.cells)) (hg : w5.grownBy w6 (Value.slice ea en.length ec).ownBlock) (ho : (Value.slice ao en'.length cap).ownBlock = (Value.slice ea en.length ec).ownBlock ∨ (Value.slice ao en'.length cap).ownBlock = some w5.heap.size) :
 (w6.cell? ⟨H, 6, none⟩).isSome = true ∧ w6.frozen? ⟨H, 6, none⟩ = false ∧ CkB (w6.setCell ⟨H, 6, none⟩ (.slice ao en'.length cap)) H s f st la lc lv ao cap en' ∧ GrowS (Bl H la ea) (Bl H la ao) w (w6.setCell ⟨H, 6, none⟩ (.slice ao en'.length cap)) := by
 rw [own_ob] at hg
 rw [own_ob, own_ob] at ho
 have s1 := hb.size
 have s2 := hg.size
 have hH := lt_of_block h.box
 have hsame : ∀ k, k < w.heap.size → ob ea ≠ some k → w6.heap[k]? = w.heap[k]? := fun k hk hne => (hg.block k (by omega) (fun e => hne e.symm)).trans (hb.block k hk)
 have hbox6 := (hsame H hH (fun e => (h.le H e).2 rfl)).trans h.box
 have hB : But H w6 (w6.setCell ⟨H, 6, none⟩ (.slice ao en'.length cap)) := (But.refl H w6).set 6 _
 have hz : (w6.setCell ⟨H, 6, none⟩ (.slice ao en'.length cap)).heap.size = w6.heap.size := by simp
 have hao : ∀ g, ob ao = some g → g < w6.heap.size ∧ g ≠ H := fun g hg' => by
  rcases ho with h1 | h1
  ·have := h.le g (by rw [← h1]; exact hg'); exact ⟨by omega, this.2⟩
  ·refine ⟨h2.lt g (by rw [own_ob]; exact hg'), ?_⟩
   rw [h1] at hg'; cases hg'; omega
 refine ⟨by rw [cell_in hbox6 rfl]; rfl, free_in hbox6 _, ⟨set_at hbox6, h.l.hold (fun g hg' => ?_), h2.hold (fun g hg' => ?_), ?_⟩, ⟨hB.os.trans (hg.os.trans hb.os), hB.tape.trans (hg.tape.trans hb.tape), hB.output.trans (hg.output.trans hb.output), by omega, fun k hk hn => ?_, ?_⟩⟩
 ·rw [own_ob] at hg'
  have := h.ll g hg'
  exact (hB.block g (by omega) this.2).trans (hsame g this.1 (fun e => h.d g hg' e))
 ·rw [own_ob] at hg'
  exact hB.block g (hao g hg').1 (hao g hg').2
 ·intro g hg' he
  rcases ho with h1 | h1
  ·exact h.d g hg' (by rw [← h1]; exact he)
  ·rw [h1] at he; cases he; have := (h.ll _ hg').1; omega
 ·exact (hB.block k (by omega) (fun e => hn (.inl e))).trans (hsame k hk (fun e => hn (.inr (.inr e))))
 ·rintro k (hk | hk | hk)
  ·exact .inl (.inl hk)
  ·exact .inl (.inr (.inl hk))
  ·rcases ho with h1 | h1
   ·exact .inl (.inr (.inr (by rw [← h1]; exact hk)))
   ·rw [h1] at hk; cases hk; exact .inr s1
set_option maxRecDepth 100000 in
set_option maxHeartbeats 4000000 in
theorem lay_ck (w : World) (H : Nat) (s : Sv) (f : Int) (st : Bool) (la ea : Option Addr) (lc ec : Nat) (lv en : List Wn) (h : CkB w H s f st la lc lv ea ec en) (hl : lv.length ≤ 1000) (now n : Int) :
 Calls Tryz.prog 282 #[.pointer (some ⟨H, 0, none⟩), .int .i64 now, .int .i64 n] w fun e w' => e = .returned (.tuple #[]) ∧ ∃ la' lc', CkB w' H s f st la' lc' (lv ++ [⟨now, n, 0⟩]) ea ec en ∧ GrowS (Bl H la ea) (Bl H la' ea) w w' := by
 obtain ⟨i0, hi, hz0, hz1, hz2⟩ := info_parts Tryz.infoChk
 have HI := Lib.hid hi
 have b0 := h.c0
 obtain ⟨m, hm⟩ : ∃ m, m = lv.length := ⟨_, rfl⟩
 obtain ⟨xs, hxs⟩ : ∃ xs, xs = lv.flatMap Wn.cells := ⟨_, rfl⟩
 have hbV : Below w.heap.size w (w.alloc (.cells #[.int .i64 now, .int .i64 n, .int .i64 0] 320)) := below1 _ _
 have hlo := h.l.later hbV
 rw [← hm, ← hxs] at hlo
 rw [← hm] at b0 hl
 have HV : Hid (ORow (w.alloc (.cells #[.int .i64 now, .int .i64 n, .int .i64 0] 320)) 320 3 (.slice la m lc) m xs ∧ Lies (w.alloc (.cells #[.int .i64 now, .int .i64 n, .int .i64 0] 320)) w.heap.size (w.heap.size + 1) (.slice (some ⟨w.heap.size, 0, none⟩) 1 1) 1 3 [.int .i64 now, .int .i64 n, .int .i64 0]) := Lib.hid ⟨hlo, one_lies (heap_alloc_new _ _) rfl⟩
 have HQ := Lib.hid h
 have HM := Lib.hid hm
 have HXS := Lib.hid hxs
 have HBV := Lib.hid hbV
 clear h hm hxs hbV hlo hi
 go_enter Tryz.func282, Tryz.ntmps282
 go_wp2_with (first
  | (refine wpList_append_off (by rfl) (.tmp 10) (.tmp 14) 248 (by rfl) 320 i0 _ 3 24 Tryz.underlying248 HI.out hz0 hz1 hz2 rfl (by omega) (.slice la m lc) m xs (by rfl) HV.out.1 (.slice (some ⟨w.heap.size, 0, none⟩) 1 1) w.heap.size (w.heap.size + 1) 1 [.int .i64 now, .int .i64 n, .int .i64 0] (by rfl) HV.out.2 (wn_one ⟨now, n, 0⟩) (by omega) (by simp only [maxLen]; omega) (by omega) ?_
     intro ao cap w6 hown6 hgrow6 hob6
     rw [HXS.out, HM.out] at hown6
     rw [HM.out] at hgrow6 hob6
     have hk := HQ.out.grew_l (lv' := lv ++ [⟨now, n, 0⟩]) (f' := 0) HBV.out (by simpa [Wn.cells] using hown6) hgrow6 (by simpa using hob6)
     rw [show (lv ++ [(⟨now, n, 0⟩ : Wn)]).length = m + 1 by rw [HM.out]; simp] at hk
     obtain ⟨u, hu⟩ := Option.isSome_iff_exists.1 hk.1
     have hfz := hk.2.1
     have HK := Lib.hid hk.2.2
     clear hk hown6 hgrow6 hob6)
  | fail "no arm")
 go_end0
 exact ⟨rfl, ao, cap, by simpa using HK.out.1, HK.out.2⟩
end Go.Proofs.YtchbehnkkcjdgaaGreat
namespace Go.Proofs.YtchbehnkkcjdgaaGreat
open Go.ChangeShapes Go.WideShapes Go.ChangeAt Go.RowKit
set_option linter.unusedVariables false
theorem CkB.drew {w : World} {H : Nat} {s : Sv} {f : Int} {st : Bool} {la ea : Option Addr} {lc ec : Nat} {lv en : List Wn} (h : CkB w H s f st la lc lv ea ec en) : CkB w.drew H s f st la lc lv ea ec en := h.later (Below.refl _ _).drew
/-- What ended, with one more if it was used. -/
def endL (x : Wn) (en : List Wn) : List Wn := if 0 < x.part then en ++ [x] else en
set_option maxRecDepth 100000 in
set_option maxHeartbeats 4000000 in
theorem end_ck (w : World) (H : Nat) (s : Sv) (f : Int) (st : Bool) (la ea : Option Addr) (lc ec : Nat) (lv en : List Wn) (h : CkB w H s f st la lc lv ea ec en) (hl : en.length ≤ 1000) (x : Wn) (hf : 0 ≤ f ∧ f ≤ 1000) (hx : 0 ≤ x.len ∧ x.len ≤ 1000) :
 Calls Tryz.prog 277 #[.pointer (some ⟨H, 0, none⟩), .agg #[.int .i64 x.at_, .int .i64 x.len, .int .i64 x.part]] w fun e w' => e = .returned (.tuple #[]) ∧ ∃ ea' ec', CkB w' H s (f + x.len) st la lc lv ea' ec' (endL x en) ∧ GrowS (Bl H la ea) (Bl H la ea') w w' := by
 obtain ⟨x0, x1, x2⟩ := x
 dsimp only at hx
 obtain ⟨i0, hi, hz0, hz1, hz2⟩ := info_parts Tryz.infoChk
 have HI := Lib.hid hi
 obtain ⟨V, hV⟩ : ∃ V, V = w.alloc (.cells #[.int .i64 x0, .int .i64 x1, .int .i64 x2] 320) := ⟨_, rfl⟩
 obtain ⟨E, hE⟩ : ∃ E, E = w.heap.size := ⟨_, rfl⟩
 have hbV : Below w.heap.size w V := by rw [hV]; exact below1 _ _
 have hEV : V.heap[E]? = some (.cells #[.int .i64 x0, .int .i64 x1, .int .i64 x2] 320 (0, 0)) := by rw [hV, hE]; exact heap_alloc_new _ _
 have hkV := h.later hbV
 have b4 := hkV.c4
 have f4 := hkV.fz 4
 have k1 : V.cell? ⟨E, 1, none⟩ = some (.int .i64 x1) := cell_in hEV rfl
 have hEH : E ≠ H := fun e => by have := lt_of_block h.box; omega
 have hHE : H ≠ E := fun e => hEH e.symm
 have e1 : IntKind.i64.wrap (f + x1) = f + x1 := IntWalk.i64_in _ (by omega)
 have HV := Lib.hid hV
 have HE := Lib.hid hE
 have HEV := Lib.hid hEV
 have HBV := Lib.hid hbV
 have HKV := Lib.hid hkV
 have HH := Lib.hid h
 clear hV hE hEV hbV hkV h hi
 go_enter Tryz.func277, Tryz.ntmps277
 go_upto_region 1 with fail
 rw [← HV.out, ← HE.out]
 go_region
 obtain ⟨U, hU⟩ : ∃ U, U = (V.setCell ⟨H, 4, none⟩ (.int .i64 (f + x1))).drew := ⟨_, rfl⟩
 have hBH : But H V U := by rw [hU]; exact ((But.refl H V).set 4 _).drew
 have hkU : CkB U H s (f + x1) st la lc lv ea ec en := HKV.out.boxed (by rw [hU]; exact set_at HKV.out.box) (fun k hk hn => hBH.block k hk hn)
 have hEU := hBH.at HEV.out hEH
 have b6 := hkU.c6
 obtain ⟨m, hm⟩ : ∃ m, m = en.length := ⟨_, rfl⟩
 rw [← hm] at b6 hl
 have z0 : U.cell? ⟨E, 0, none⟩ = some (.int .i64 x0) := cell_in hEU rfl
 have z1 : U.cell? ⟨E, 1, none⟩ = some (.int .i64 x1) := cell_in hEU rfl
 have z2 : U.cell? ⟨E, 2, none⟩ = some (.int .i64 x2) := cell_in hEU rfl
 have HU := Lib.hid hU
 have HKU := Lib.hid hkU
 have HBH := Lib.hid hBH
 have HM := Lib.hid hm
 rw [← HU.out]
 clear hU hkU hBH hEU hm
 by_cases q : 0 < x2
 ·have t0 : decide (0 < x2) = true := decide_eq_true q
  go_upto_region 3 with fail
  have hca : ∀ o, (U.alloc o).cell? ⟨H, 6, none⟩ = some (.slice ea m ec) := fun o => Lib.cell?_alloc_some _ b6
  have hXB : Below U.heap.size U (U.alloc (.cells #[.int .i64 x0, .int .i64 x1, .int .i64 x2] 320)).drew := (below1 _ _).drew
  have hlo := HKU.out.e.later hXB
  rw [← HM.out] at hlo
  have HA : Hid (ORow (U.alloc (.cells #[.int .i64 x0, .int .i64 x1, .int .i64 x2] 320)).drew 320 3 (.slice ea m ec) m (en.flatMap Wn.cells) ∧ Lies (U.alloc (.cells #[.int .i64 x0, .int .i64 x1, .int .i64 x2] 320)).drew U.heap.size (U.heap.size + 1) (.slice (some ⟨U.heap.size, 0, none⟩) 1 1) 1 3 [.int .i64 x0, .int .i64 x1, .int .i64 x2]) := Lib.hid ⟨hlo, one_lies (heap_alloc_new U _) rfl⟩
  have HXB := Lib.hid hXB
  clear hXB hlo
  go_region_law ((refine step_append_off (by rfl) (.tmp 20) (.tmp 22) 248 (by rfl) 320 i0 _ 3 24 Tryz.underlying248 HI.out hz0 hz1 hz2 rfl (by omega) (.slice ea m ec) m (en.flatMap Wn.cells) (by rfl) HA.out.1 (.slice (some ⟨U.heap.size, 0, none⟩) 1 1) U.heap.size (U.heap.size + 1) 1 [.int .i64 x0, .int .i64 x1, .int .i64 x2] (by rfl) HA.out.2 (wn_one ⟨x0, x1, x2⟩) (by omega) (by simp only [maxLen]; omega) (by omega) ?_
                  intro ao cap w6 hown6 hgrow6 hob6
                  have HO6 := Lib.hid hown6
                  rw [HM.out] at hown6 hgrow6 hob6
                  have hk := HKU.out.grew_e (en' := en ++ [⟨x0, x1, x2⟩]) (f' := 0) HXB.out (by simpa [Wn.cells] using hown6) hgrow6 (by simpa using hob6)
                  rw [show (en ++ [(⟨x0, x1, x2⟩ : Wn)]).length = m + 1 by rw [HM.out]; simp] at hk
                  obtain ⟨u, hu⟩ := Option.isSome_iff_exists.1 hk.1
                  have hfz := hk.2.1
                  have HK := Lib.hid hk.2.2
                  clear hk hown6 hgrow6 hob6 HO6))
  all_goals
   go_wp2_with fail
   go_end0
   have e : endL ⟨x0, x1, x2⟩ en = en ++ [⟨x0, x1, x2⟩] := if_pos q
   rw [e]
   exact ⟨rfl, ao, cap, HK.out.1, ((GrowS.of_below HBV.out).trans (grow_but HBH.out (.inl rfl))).trans HK.out.2⟩
 ·have t0 : decide (0 < x2) = false := decide_eq_false q
  go_wp2_with fail
  go_end0
  have e : endL ⟨x0, x1, x2⟩ en = en := if_neg (show ¬ 0 < x2 by omega)
  rw [e]
  exact ⟨rfl, ea, ⟨ec, HKU.out⟩, (GrowS.of_below HBV.out).trans (grow_but HBH.out (.inl rfl))⟩
/-! ### what is back -/
theorem below_drewO {B : Nat} {a w : World} (n : Nat) (h : Below B a w) : Below B a (w.drewN n) := ⟨h.os, h.tape, h.output, h.size, h.block⟩
/-- Is it back by now? -/
def bkB (t now : Int) (x : Wn) : Bool := decide (x.at_ + t ≤ now)
set_option maxRecDepth 100000 in
set_option maxHeartbeats 4000000 in
theorem back_any (w : World) (H E1 E2 : Nat) (t now : Int) (x : Wn) (b3 : w.cell? ⟨H, 3, none⟩ = some (.int .i64 t)) (bn : w.cell? ⟨E1, 0, none⟩ = some (.int .i64 now)) (bb : w.cell? ⟨E2, 0, none⟩ = some (.pointer (some ⟨H, 0, none⟩))) (ht : 1 ≤ t ∧ t ≤ 1000) (hn : 0 ≤ now ∧ now ≤ 4611687117939015680) (hx : 0 ≤ x.at_ ∧ x.at_ ≤ 4611687117939015680) :
 Calls Tryz.prog 284 #[.agg #[.int .i64 x.at_, .int .i64 x.len, .int .i64 x.part], .pointer (some ⟨E1, 0, none⟩), .pointer (some ⟨E2, 0, none⟩)] w fun e w' => e = .returned (.bool (bkB t now x)) ∧ Below w.heap.size w w' := by
 obtain ⟨x0, x1, x2⟩ := x
 dsimp only at hx
 obtain ⟨V, hV⟩ : ∃ V, V = w.alloc (.cells #[.int .i64 x0, .int .i64 x1, .int .i64 x2] 320) := ⟨_, rfl⟩
 obtain ⟨E, hE⟩ : ∃ E, E = w.heap.size := ⟨_, rfl⟩
 have hbV : Below w.heap.size w V := by rw [hV]; exact below1 _ _
 have hEV : V.heap[E]? = some (.cells #[.int .i64 x0, .int .i64 x1, .int .i64 x2] 320 (0, 0)) := by rw [hV, hE]; exact heap_alloc_new _ _
 have c3 : V.cell? ⟨H, 3, none⟩ = some (.int .i64 t) := by rw [hV]; exact Lib.cell?_alloc_some _ b3
 have cn : V.cell? ⟨E1, 0, none⟩ = some (.int .i64 now) := by rw [hV]; exact Lib.cell?_alloc_some _ bn
 have cb : V.cell? ⟨E2, 0, none⟩ = some (.pointer (some ⟨H, 0, none⟩)) := by rw [hV]; exact Lib.cell?_alloc_some _ bb
 have z0 : V.cell? ⟨E, 0, none⟩ = some (.int .i64 x0) := cell_in hEV rfl
 have HV := Lib.hid hV
 have HE := Lib.hid hE
 have HBV := Lib.hid hbV
 clear hV hE hEV hbV b3 bn bb
 by_cases q : x0 ≤ now
 ·have t0 : decide (x0 ≤ now) = true := decide_eq_true q
  have hr : bkB t now ⟨x0, x1, x2⟩ = decide (t ≤ now - x0) := by
   unfold bkB; dsimp only; rw [decide_eq_decide]; omega
  rw [hr]
  go_enter Tryz.func284, Tryz.ntmps284
  go_upto_region 1 with fail
  rw [← HV.out, ← HE.out]
  go_quiet (fail)
  go_wp2_with fail
  go_ret
  exact ⟨rfl, below_drewO _ HBV.out⟩
 ·have t0 : decide (x0 ≤ now) = false := decide_eq_false q
  have hr : bkB t now ⟨x0, x1, x2⟩ = false := decide_eq_false (by dsimp only; omega)
  rw [hr]
  go_enter Tryz.func284, Tryz.ntmps284
  go_upto_region 1 with fail
  rw [← HV.out, ← HE.out]
  go_quiet (fail)
  go_wp2_with fail
  go_ret
  exact ⟨rfl, below_drewO _ HBV.out⟩
end Go.Proofs.YtchbehnkkcjdgaaGreat
namespace Go.Proofs.YtchbehnkkcjdgaaGreat
open Go.ChangeShapes Go.WideShapes Go.ChangeAt Go.RowKit
set_option linter.unusedVariables false
theorem cell_later {w w' : World} {a : Addr} {v : Value} (h : w.cell? a = some v) (hb : Below w.heap.size w w') : w'.cell? a = some v := (World.cell?_of_block (hb.block _ (World.block_lt_of_cell? w a h))).trans h
/-- What the closure reads. -/
structure BkBox (w : World) (H E1 E2 : Nat) (t now : Int) : Prop where
 b3 : w.cell? ⟨H, 3, none⟩ = some (.int .i64 t)
 bn : w.cell? ⟨E1, 0, none⟩ = some (.int .i64 now)
 bb : w.cell? ⟨E2, 0, none⟩ = some (.pointer (some ⟨H, 0, none⟩))
 ht : 1 ≤ t ∧ t ≤ 1000
 hn : 0 ≤ now ∧ now ≤ 4611687117939015680
theorem BkBox.later {w w' : World} {H E1 E2 : Nat} {t now : Int} (h : BkBox w H E1 E2 t now) (hb : Below w.heap.size w w') : BkBox w' H E1 E2 t now := ⟨cell_later h.b3 hb, cell_later h.bn hb, cell_later h.bb hb, h.ht, h.hn⟩
theorem BkBox.hold {w w' : World} {H E1 E2 g : Nat} {t now : Int} (h : BkBox w H E1 E2 t now) (hb : But g w w') (h1 : H ≠ g) (h2 : E1 ≠ g) (h3 : E2 ≠ g) : BkBox w' H E1 E2 t now :=
 ⟨(World.cell?_of_block (hb.block _ (World.block_lt_of_cell? w _ h.b3) h1)).trans h.b3, (World.cell?_of_block (hb.block _ (World.block_lt_of_cell? w _ h.bn) h2)).trans h.bn, (World.cell?_of_block (hb.block _ (World.block_lt_of_cell? w _ h.bb) h3)).trans h.bb, h.ht, h.hn⟩
/-- The cells of one of a row. -/
theorem orow_at {w : World} {g off n c : Nat} {l : List Wn} (h : ORow w 320 3 (.slice (some ⟨g, off, none⟩) n c) n (l.flatMap Wn.cells)) {k : Nat} {x : Wn} (hx : l[k]? = some x) (hk : k < n) : w.cell? ⟨g, off + k * 3, none⟩ = some (.int .i64 x.at_) ∧ w.cell? ⟨g, off + k * 3 + 1, none⟩ = some (.int .i64 x.len) ∧ w.cell? ⟨g, off + k * 3 + 2, none⟩ = some (.int .i64 x.part) ∧ (∀ j, w.frozen? ⟨g, j, none⟩ = false) := by
 obtain ⟨g', off', e, hc, hf, _⟩ := h.at_ (by omega)
 cases e
 refine ⟨?_, ?_, ?_, hf⟩
 ·have := hc (k * 3 + 0) _ (flat_at Wn.cells 3 (fun _ => rfl) l k 0 x hx (by omega)); simpa [Nat.add_assoc] using this
 ·have := hc (k * 3 + 1) _ (flat_at Wn.cells 3 (fun _ => rfl) l k 1 x hx (by omega)); simpa [Nat.add_assoc] using this
 ·have := hc (k * 3 + 2) _ (flat_at Wn.cells 3 (fun _ => rfl) l k 2 x hx (by omega)); simpa [Nat.add_assoc] using this
theorem flat_setW : ∀ (dk : List Wn) (i : Nat) (x : Wn), i < dk.length → (((dk.flatMap Wn.cells).set (i * 3) (.int .i64 x.at_)).set (i * 3 + 1) (.int .i64 x.len)).set (i * 3 + 2) (.int .i64 x.part) = (dk.set i x).flatMap Wn.cells
 | [], i, x, h => by simp at h
 | y :: l, 0, x, _ => by simp [Wn.cells]
 | y :: l, i + 1, x, h => by
   have ih := flat_setW l i x (by simpa using h)
   rw [List.set_cons_succ, List.flatMap_cons, List.flatMap_cons, ← ih, show (i + 1) * 3 = i * 3 + 1 + 1 + 1 by omega, show i * 3 + 1 + 1 + 1 + 1 = i * 3 + 1 + 1 + 1 + 1 from rfl, show i * 3 + 1 + 1 + 1 + 2 = i * 3 + 2 + 1 + 1 + 1 by omega]
   simp only [Wn.cells, List.cons_append, List.nil_append, List.set_cons_succ]
theorem ORow.set3 {w : World} {g off n c : Nat} {dk : List Wn} (h : ORow w 320 3 (.slice (some ⟨g, off, none⟩) n c) n (dk.flatMap Wn.cells)) (hn : dk.length = n) {i : Nat} (hi : i < n) (x : Wn) :
 ORow (((w.setCell ⟨g, off + i * 3, none⟩ (.int .i64 x.at_)).setCell ⟨g, off + i * 3 + 1, none⟩ (.int .i64 x.len)).setCell ⟨g, off + i * 3 + 2, none⟩ (.int .i64 x.part)) 320 3 (.slice (some ⟨g, off, none⟩) n c) n ((dk.set i x).flatMap Wn.cells) := by
 have h3 := ((h.set (j := i * 3) (by omega) (.int .i64 x.at_)).set (j := i * 3 + 1) (by omega) (.int .i64 x.len)).set (j := i * 3 + 2) (by omega) (.int .i64 x.part)
 rw [flat_setW dk i x (by omega)] at h3
 simpa [Nat.add_assoc] using h3
theorem setCells_blk : ∀ (vs : List Value) (w : World) (b o : Nat) (arr : Array Value) (t : TypeId), w.heap[b]? = some (.cells arr t (0, 0)) → ∃ arr', (w.setCells b o vs).heap[b]? = some (.cells arr' t (0, 0)) ∧ arr'.size = arr.size ∧ (∀ k, k < o → arr'[k]? = arr[k]?) ∧ But b w (w.setCells b o vs)
 | [], w, b, o, arr, t, h => ⟨arr, h, rfl, fun _ _ => rfl, But.refl _ _⟩
 | v :: r, w, b, o, arr, t, h => by
   obtain ⟨a2, h2, h5, h3, h4⟩ := setCells_blk r (w.setCell ⟨b, o, none⟩ v) b (o + 1) _ t (set_at h)
   refine ⟨a2, h2, by simpa using h5, fun k hk => ?_, ((But.refl b w).set o v).trans h4⟩
   rw [h3 k (by omega), Array.getElem?_setIfInBounds, if_neg (by omega)]
/-- The head of a row, when what is behind was written. -/
theorem ORow.head {w : World} {e : TypeId} {sz g off n c i : Nat} {xs vs : List Value} (h : ORow w e sz (.slice (some ⟨g, off, none⟩) n c) n xs) (hi : i ≤ n) : ORow (w.setCells g (off + i * sz) vs) e sz (.slice (some ⟨g, off, none⟩) i c) i (xs.take (i * sz)) ∧ But g w (w.setCells g (off + i * sz) vs) := by
 obtain ⟨h1, ⟨hv, h2⟩ | ⟨g', off', cap, cur, hv, hg, h3, h4, h5, h6⟩⟩ := h
 ·cases hv
 ·cases hv
  obtain ⟨arr', k1, k2, k3, k4⟩ := setCells_blk vs w g (off + i * sz) cur e hg
  have hm : i * sz ≤ n * sz := Nat.mul_le_mul_right _ hi
  refine ⟨⟨by rw [List.length_take, h1]; omega, .inr ⟨g, off, c, arr', rfl, k1, by omega, h4, by omega, ?_⟩⟩, k4⟩
  rw [← h6, List.take_take, Nat.min_eq_left hm]
  apply List.ext_getElem?
  intro k
  rw [List.getElem?_take, List.getElem?_take]
  by_cases hk : k < i * sz
  ·rw [if_pos hk, if_pos hk, List.getElem?_drop, List.getElem?_drop, Array.getElem?_toList, Array.getElem?_toList, k3 _ (by omega)]
  ·rw [if_neg hk, if_neg hk]
set_option maxRecDepth 100000 in
set_option maxHeartbeats 4000000 in
theorem index17_any (w : World) (H E1 E2 : Nat) (t now : Int) (hB : BkBox w H E1 E2 t now) (la : Option Addr) (ln lc : Nat) (l : List Wn) (hl : ORow w 320 3 (.slice la ln lc) ln (l.flatMap Wn.cells)) (hln : l.length = ln) (hl2 : ln ≤ 1000) (hin : ∀ x ∈ l, 0 ≤ x.at_ ∧ x.at_ ≤ 4611687117939015680) :
 Calls Tryz.prog 286 #[.slice la ln lc, .func (.func 284) #[] #[.pointer (some ⟨E1, 0, none⟩), .pointer (some ⟨E2, 0, none⟩)]] w fun e w' => ((e = .returned (.int .i64 (-1)) ∧ ∀ x ∈ l, bkB t now x = false) ∨ ∃ (k : Nat) (x : Wn), e = .returned (.int .i64 k) ∧ k < ln ∧ l[k]? = some x ∧ bkB t now x = true ∧ ∀ y ∈ l.take k, bkB t now y = false) ∧ Below w.heap.size w w' := by
 have HB := Lib.hid hB; have HL := Lib.hid hl; have HN := Lib.hid hln
 have HIN := Lib.hid hin
 clear hB hl hln hin
 go_enter Tryz.func286, Tryz.ntmps286
 go_wp2_with fail
 go_loopw [8] (fun i wr => ∃ k : Nat, k ≤ ln ∧ i = .int .i64 k ∧ Hid (∀ y ∈ l.take k, bkB t now y = false) ∧ Below w.heap.size w wr) (fun i _ => ln - (intOf i).toNat)
 case atStart => exact ⟨0, by omega, rfl, Lib.hid (by simp), Below.refl _ _⟩
 case round =>
  obtain ⟨k, hk, rfl, HA, hb⟩ := hrel
  by_cases hlt : k < ln
  ·have tk : decide ((k : Int) < (ln : Int)) = true := by simpa using hlt
   obtain ⟨x, hx⟩ : ∃ x, l[k]? = some x := ⟨_, List.getElem?_eq_getElem (by rw [HN.out]; exact hlt)⟩
   obtain ⟨g, off, rfl, _⟩ := HL.out.at_ (by omega)
   obtain ⟨c0, c1, c2, _⟩ := orow_at (HL.out.later hb) hx hlt
   have hxi := HIN.out x (List.mem_of_getElem? hx)
   have HX := Lib.hid hx
   have hC := HB.out.later hb
   have HC := Lib.hid (back_any wr H E1 E2 t now x hC.b3 hC.bn hC.bb hC.ht hC.hn hxi)
   have l0 : (0 : Int) ≤ (k : Int) := by omega
   have l1 : (k : Int) < (ln : Int) := by omega
   clear hx hC hxi
   cases hh : bkB t now x with
   | false =>
     have HH := Lib.hid hh; clear hh
     go_wp2_with (first | (go_at_call 284; refine HC.out.mono ?_; rintro e w' ⟨rfl, hb2⟩; rw [HH.out]))
     go_roundw
     case rel =>
      refine ⟨k + 1, by omega, by go_num, Lib.hid (fun y hy => ?_), hb.trans (hb2.mono hb.size)⟩
      rw [List.take_add_one, HX.out] at hy
      rcases List.mem_append.1 hy with hy | hy
      ·exact HA.out y hy
      ·simp at hy; subst hy; exact HH.out
     case measure => simp [intOf]; omega
   | true =>
     have HH := Lib.hid hh; clear hh
     go_wp2_with (first | (go_at_call 284; refine HC.out.mono ?_; rintro e w' ⟨rfl, hb2⟩; rw [HH.out]))
     go_ret
     exact ⟨.inr ⟨k, x, rfl, hlt, HX.out, HH.out, HA.out⟩, hb.trans (hb2.mono hb.size)⟩
  ·have tk : decide ((k : Int) < (ln : Int)) = false := by simp; omega
   go_wp2
   go_ret
   exact ⟨.inl ⟨rfl, fun x hx => HA.out x (by rw [List.take_of_length_le (by rw [HN.out]; omega)]; exact hx)⟩, hb⟩
/-- How far the deleting has come: j looked at, i kept. -/
def KeptW (keep : Wn → Bool) (l : List Wn) (j i : Nat) (dk : List Wn) : Prop := dk.length = l.length ∧ i < j ∧ j ≤ l.length ∧ i = ((l.take j).filter keep).length ∧ dk.take i = (l.take j).filter keep ∧ dk.drop j = l.drop j
theorem KeptW.start {keep : Wn → Bool} {l : List Wn} {k : Nat} {x : Wn} (hx : l[k]? = some x) (hn : keep x = false) (h : ∀ y ∈ l.take k, keep y = true) : KeptW keep l (k + 1) k l := by
 have hk := (List.getElem?_eq_some_iff.1 hx).1
 have e : (l.take (k + 1)).filter keep = l.take k := by
  rw [List.take_add_one, hx, List.filter_append, List.filter_eq_self.2 h]
  simp [hn]
 refine ⟨rfl, by omega, by omega, ?_, ?_, rfl⟩
 ·rw [e, List.length_take]; omega
 ·rw [e]
theorem KeptW.at {keep : Wn → Bool} {l : List Wn} {j i : Nat} {dk : List Wn} (h : KeptW keep l j i dk) {x : Wn} (hx : l[j]? = some x) : dk[j]? = some x := by
 obtain ⟨_, _, _, _, _, h6⟩ := h
 have : (dk.drop j)[0]? = (l.drop j)[0]? := by rw [h6]
 simpa [hx] using this
theorem KeptW.yes {keep : Wn → Bool} {l : List Wn} {j i : Nat} {dk : List Wn} (h : KeptW keep l j i dk) {x : Wn} (hx : l[j]? = some x) (hk : keep x = true) : KeptW keep l (j + 1) (i + 1) (dk.set i x) := by
 obtain ⟨h1, h2, h3, h4, h5, h6⟩ := h
 have hj := (List.getElem?_eq_some_iff.1 hx).1
 have e : (l.take (j + 1)).filter keep = (l.take j).filter keep ++ [x] := by
  rw [List.take_add_one, hx, List.filter_append]
  simp [hk]
 refine ⟨by simp [h1], by omega, by omega, by rw [e]; simp [← h4], ?_, ?_⟩
 ·rw [e, ← h5]
  apply List.ext_getElem?
  intro k
  rw [List.getElem?_take, List.getElem?_append, List.getElem?_set]
  have hl : (dk.take i).length = i := by rw [List.length_take]; omega
  rw [hl]
  by_cases hki : k < i
  ·rw [if_pos (by omega), if_pos hki, if_neg (by omega), List.getElem?_take, if_pos hki]
  ·rw [if_neg hki]
   by_cases hke : k = i
   ·subst hke; simp; omega
   ·rw [if_neg (by omega), List.getElem?_eq_none (by simp; omega)]
 ·rw [List.drop_set, if_pos (by omega), ← List.drop_drop, ← List.drop_drop, h6]
theorem KeptW.no {keep : Wn → Bool} {l : List Wn} {j i : Nat} {dk : List Wn} (h : KeptW keep l j i dk) {x : Wn} (hx : l[j]? = some x) (hk : keep x = false) : KeptW keep l (j + 1) i dk := by
 obtain ⟨h1, h2, h3, h4, h5, h6⟩ := h
 have hj := (List.getElem?_eq_some_iff.1 hx).1
 have e : (l.take (j + 1)).filter keep = (l.take j).filter keep := by
  rw [List.take_add_one, hx, List.filter_append]
  simp [hk]
 refine ⟨h1, by omega, by omega, by rw [e, ← h4], by rw [e, h5], ?_⟩
 rw [← List.drop_drop, ← List.drop_drop, h6]
theorem Tryz.zeroChk (w : World) : (zeroValue 320).run Tryz.prog w = .ok (.agg #[.int .i64 0, .int .i64 0, .int .i64 0]) w := by kernel_rfl
theorem take_flat3 (dk : List Wn) (i : Nat) : (dk.flatMap Wn.cells).take (i * 3) = (dk.take i).flatMap Wn.cells := by
 induction dk generalizing i with
 | nil => simp
 | cons y l ih =>
   cases i with
   | zero => simp
   | succ i =>
     rw [List.take_succ_cons, List.flatMap_cons, List.flatMap_cons, ← ih i, show (i + 1) * 3 = i * 3 + 1 + 1 + 1 by omega]
     simp only [Wn.cells, List.cons_append, List.nil_append, List.take_succ_cons]
/-- But one row's block, all stays. -/
theorem grown_but {a w w' : World} {g B : Nat} (h : Below B a w) (hB : a.heap.size = B) (k : But g w w') : a.grownBy w' (some g) :=
 ⟨k.os.trans h.os, k.tape.trans h.tape, k.output.trans h.output, Nat.le_trans h.size k.size, fun i hi hn => (k.block i (Nat.lt_of_lt_of_le hi h.size) (fun e => hn (by rw [e]))).trans (h.block i (by omega))⟩
/-- What stays of those that ended. -/
def stayW (t now : Int) (l : List Wn) : List Wn := l.filter (fun x => !bkB t now x)
set_option maxRecDepth 100000 in
set_option maxHeartbeats 4000000 in
theorem delete17_any (w : World) (H E1 E2 : Nat) (t now : Int) (hB : BkBox w H E1 E2 t now) (la : Option Addr) (ln lc : Nat) (l : List Wn) (hl : ORow w 320 3 (.slice la ln lc) ln (l.flatMap Wn.cells)) (hln : l.length = ln) (hl2 : ln ≤ 1000) (hin : ∀ x ∈ l, 0 ≤ x.at_ ∧ x.at_ ≤ 4611687117939015680) (hne : ∀ g, ob la = some g → H ≠ g ∧ E1 ≠ g ∧ E2 ≠ g) :
 Calls Tryz.prog 285 #[.slice la ln lc, .func (.func 284) #[] #[.pointer (some ⟨E1, 0, none⟩), .pointer (some ⟨E2, 0, none⟩)]] w fun e w' => e = .returned (.slice la (stayW t now l).length lc) ∧ ORow w' 320 3 (.slice la (stayW t now l).length lc) (stayW t now l).length ((stayW t now l).flatMap Wn.cells) ∧ w.grownBy w' (ob la) := by
 have hI := Lib.hid (index17_any w H E1 E2 t now hB la ln lc l hl hln hl2 hin)
 have HB := Lib.hid hB; have HL := Lib.hid hl; have HN := Lib.hid hln; have HIN := Lib.hid hin; have HNE := Lib.hid hne
 clear hB hl hln hin hne
 have hk1 : ∀ k : Nat, ((k : Int) == -1) = false := fun k => beq_eq_false_iff_ne.2 (by omega)
 go_enter Tryz.func285, Tryz.ntmps285
 go_wp2_with (first | (go_at_call 286; refine hI.out.mono ?_; rintro e w1 ⟨⟨rfl, ha⟩ | ⟨k, x, rfl, hkl, hx, hn, ha⟩, hb1⟩))
 ·go_ret
  have hf : stayW t now l = l := List.filter_eq_self.2 (fun x hx => by rw [ha x hx]; rfl)
  rw [hf, HN.out]
  exact ⟨rfl, HL.out.later hb1, ⟨hb1.os, hb1.tape, hb1.output, hb1.size, fun i hi _ => hb1.block i hi⟩⟩
 ·have HK := Lib.hid (KeptW.start (keep := fun x => !bkB t now x) hx (by rw [hn]; rfl) (fun y hy => by rw [ha y hy]; rfl))
  obtain ⟨g, off, rfl, _⟩ := HL.out.at_ (by omega)
  obtain ⟨n1, n2, n3⟩ := HNE.out g rfl
  have HG := Lib.hid (HL.out.later hb1)
  have HB1 := Lib.hid (HB.out.later hb1)
  have hw1 := hb1.size
  have HBB := Lib.hid hb1
  clear hx hn ha hI hb1
  go_loopw [5, 6, 7] (fun s5 s6 _ wr => ∃ (i j : Nat) (dk : List Wn), s5 = .int .i64 i ∧ s6 = .int .i64 j ∧ j ≤ ln ∧ i < ln ∧ Hid (KeptW (fun x => !bkB t now x) l j i dk) ∧ Hid (ORow wr 320 3 (.slice (some ⟨g, off, none⟩) ln lc) ln (dk.flatMap Wn.cells)) ∧ Hid (BkBox wr H E1 E2 t now) ∧ But g w1 wr) (fun _ s6 _ _ => ln - (intOf s6).toNat)
  case atStart => exact ⟨k, k + 1, l, rfl, by go_num, by omega, by omega, HK, HG, HB1, But.refl _ _⟩
  case round =>
   obtain ⟨i, j, dk, rfl, rfl, hj, hi, HK2, HI2, HC2, hb⟩ := hrel
   have hij := HK2.out.2.1
   by_cases hlt : j < ln
   ·have tk : decide ((j : Int) < (ln : Int)) = true := by simpa using hlt
    obtain ⟨x, hx⟩ : ∃ x, l[j]? = some x := ⟨_, List.getElem?_eq_getElem (by rw [HN.out]; exact hlt)⟩
    obtain ⟨c0, c1, c2, _⟩ := orow_at HI2.out (HK2.out.at hx) hlt
    have l0 : (0 : Int) ≤ (j : Int) := by omega
    have l1 : (j : Int) < (ln : Int) := by omega
    have l2 : (0 : Int) ≤ (i : Int) := by omega
    have l3 : (i : Int) < (ln : Int) := by omega
    have hxi := HIN.out x (List.mem_of_getElem? hx)
    have HX := Lib.hid hx
    obtain ⟨V, hV⟩ : ∃ V, V = wr.alloc (.cells #[.int .i64 x.at_, .int .i64 x.len, .int .i64 x.part] 320) := ⟨_, rfl⟩
    have hbV : Below wr.heap.size wr V := by rw [hV]; exact below1 _ _
    have hC := HC2.out.later hbV
    have HC := Lib.hid (back_any V H E1 E2 t now x hC.b3 hC.bn hC.bb hC.ht hC.hn hxi)
    have HV := Lib.hid hV
    have HBV := Lib.hid hbV
    clear hx hC hxi hV hbV
    obtain ⟨F, hF⟩ : ∃ F, F = wr.heap.size := ⟨_, rfl⟩
    have hFV : V.heap[F]? = some (.cells #[.int .i64 x.at_, .int .i64 x.len, .int .i64 x.part] 320 (0, 0)) := by rw [HV.out, hF]; exact heap_alloc_new _ _
    have v0 : V.cell? ⟨F, 0, none⟩ = some (.int .i64 x.at_) := cell_in hFV rfl
    have v1 : V.cell? ⟨F, 1, none⟩ = some (.int .i64 x.len) := cell_in hFV rfl
    have v2 : V.cell? ⟨F, 2, none⟩ = some (.int .i64 x.part) := cell_in hFV rfl
    have HF := Lib.hid hF
    clear hF hFV
    go_upto_region 8 with fail
    rw [← HV.out, ← HF.out]
    cases hh : bkB t now x with
    | false =>
      have HH := Lib.hid hh; clear hh
      have ks : ∀ W : World, Below V.heap.size V W → (W.cell? ⟨F, 0, none⟩ = some (.int .i64 x.at_) ∧ W.cell? ⟨F, 1, none⟩ = some (.int .i64 x.len) ∧ W.cell? ⟨F, 2, none⟩ = some (.int .i64 x.part)) ∧ ∃ y : Wn, W.cell? ⟨g, off + i * 3, none⟩ = some (.int .i64 y.at_) ∧ W.cell? ⟨g, off + i * 3 + 1, none⟩ = some (.int .i64 y.len) ∧ W.cell? ⟨g, off + i * 3 + 2, none⟩ = some (.int .i64 y.part) ∧ (∀ j, W.frozen? ⟨g, j, none⟩ = false) := by
       intro W h
       obtain ⟨u, hu⟩ : ∃ u, dk[i]? = some u := ⟨_, List.getElem?_eq_getElem (by rw [HK2.out.1, HN.out]; omega)⟩
       exact ⟨⟨cell_later v0 h, cell_later v1 h, cell_later v2 h⟩, u, orow_at ((HI2.out.later HBV.out).later h) hu hi⟩
      have KS := Lib.hid ks; clear ks
      go_wp2_with (first | (go_at_call 284; refine HC.out.mono ?_; rintro e w2 ⟨rfl, hb2'⟩; have hb2 := Lib.hid hb2'; rw [HH.out]; obtain ⟨⟨u0, u1, u2⟩, y, y0, y1, y2, yf⟩ := KS.out _ hb2'; have f0 := yf (off + i * 3); have f1 := yf (off + i * 3 + 1); have f2 := yf (off + i * 3 + 2); clear yf hb2'))
      go_roundw
      case rel =>
       have hB2 := (HBV.out.trans (hb2.out.mono HBV.out.size))
       have hB3 : But g w2 _ := (((But.refl g w2).set (off + i * 3) (.int .i64 x.at_)).set (off + i * 3 + 1) (.int .i64 x.len)).set (off + i * 3 + 2) (.int .i64 x.part)
       refine ⟨i + 1, j + 1, dk.set i x, by go_num, by go_num, by omega, ?_, Lib.hid (HK2.out.yes HX.out (by simp only [HH.out]; rfl)), Lib.hid ((HI2.out.later hB2).set3 (by rw [HK2.out.1, HN.out]) hi x), Lib.hid ((HC2.out.later hB2).hold hB3 n1 n2 n3), ?_⟩
       ·omega
       ·exact hb.trans ((But.of_below hB2).trans hB3)
      case measure => simp [intOf]; omega
    | true =>
      have HH := Lib.hid hh; clear hh
      go_wp2_with (first | (go_at_call 284; refine HC.out.mono ?_; rintro e w2 ⟨rfl, hb2'⟩; have hb2 := Lib.hid hb2'; rw [HH.out]; clear hb2'))
      go_roundw
      case rel =>
       have hB2 := (HBV.out.trans (hb2.out.mono HBV.out.size))
       exact ⟨i, j + 1, dk, rfl, by go_num, by omega, hi, Lib.hid (HK2.out.no HX.out (by simp only [HH.out]; rfl)), Lib.hid (HI2.out.later hB2), Lib.hid (HC2.out.later hB2), hb.trans (But.of_below hB2)⟩
      case measure => simp [intOf]; omega
   ·have tk : decide ((j : Int) < (ln : Int)) = false := by simp; omega
    have hlc := HI2.out.form.2.1
    have hcl : ∀ ty, (Builtin.clear_ #[248] ty #[.slice (some ⟨g, off + i * 3, none⟩) (ln - i) (lc - i)]).run Tryz.prog wr = .ok (.tuple #[]) (wr.setCells g (off + i * 3) (Builtin.zeroCells (Value.agg #[.int .i64 0, .int .i64 0, .int .i64 0]).cells (ln - i)).toList) :=
     fun ty => run_clear_off wr _ _ ty _ Tryz.underlying248 Tryz.zeroChk (by simp [Value.cells, Value.oneCell']) g (off + i * 3) _ _ (by omega) (fun q hq => by
      obtain ⟨g', off', e, hc, hf, _⟩ := HI2.out.at_ (by omega)
      cases e
      have hq3 : q < (ln - i) * 3 := hq
      have hlen : (dk.flatMap Wn.cells).length = ln * 3 := HI2.out.1
      rw [show off + i * 3 + q = off + (i * 3 + q) by omega, hc (i * 3 + q) _ (List.getElem?_eq_getElem (by rw [hlen, Nat.sub_mul] at *; omega))]; rfl) (fun q hq => by
      obtain ⟨g', off', e, hc, hf, _⟩ := HI2.out.at_ (by omega)
      cases e
      exact hf _)
    have l2 : (0 : Int) ≤ (i : Int) := by omega
    have l3 : (i : Int) ≤ (ln : Int) := by omega
    have l4 : (i : Int) ≤ (lc : Int) := by omega
    have l5 : lc ≠ i := by omega
    have HWR := Lib.hid hb
    clear hb
    go_wp2
    go_ret
    obtain ⟨q1, q2, q3, q4, q5, q6⟩ := HK2.out
    have ej : j = l.length := by rw [HN.out]; omega
    rw [ej, List.take_length] at q4 q5
    obtain ⟨hr, hbut⟩ := HI2.out.head (i := i) (vs := (Builtin.zeroCells #[.int .i64 0, .int .i64 0, .int .i64 0] (ln - i)).toList) (by omega)
    rw [take_flat3, q5] at hr
    have e1 : i = (stayW t now l).length := q4
    rw [show List.filter (fun x => !bkB t now x) l = stayW t now l from rfl, e1] at hr
    rw [e1] at hbut ⊢
    exact ⟨rfl, hr, grown_but HBB.out rfl (HWR.out.trans hbut)⟩
/-! ### takeBack -/
def sumP (l : List Wn) : Int := (l.map (·.part)).sum
/-- What comes back of them. -/
def comeW (t now : Int) (l : List Wn) : Int := sumP (l.filter (bkB t now))
theorem comeW_snoc (t now : Int) (l : List Wn) (x : Wn) : comeW t now (l ++ [x]) = comeW t now l + (if bkB t now x = true then x.part else 0) := by
 unfold comeW
 rw [List.filter_append]
 cases h : bkB t now x <;> simp [h, sumP]
theorem comeW_bd (t now : Int) : ∀ l : List Wn, (∀ x ∈ l, 0 ≤ x.part) → 0 ≤ comeW t now l ∧ comeW t now l ≤ sumP l
 | [], _ => by simp [comeW, sumP]
 | x :: l, h => by
   have ih := comeW_bd t now l (fun y hy => h y (List.mem_cons_of_mem _ hy))
   have hx := h x (List.mem_cons_self ..)
   unfold comeW at ih ⊢
   cases hb : bkB t now x with
   | true => rw [List.filter_cons_of_pos hb]; simp only [sumP, List.map_cons, List.sum_cons] at ih ⊢; omega
   | false => rw [List.filter_cons_of_neg (by rw [hb]; simp)]; simp only [sumP, List.map_cons, List.sum_cons] at ih ⊢; omega
theorem sumP_take {l : List Wn} (h : ∀ x ∈ l, 0 ≤ x.part) (k : Nat) : sumP (l.take k) ≤ sumP l := by
 have e : sumP (l.take k ++ l.drop k) = sumP (l.take k) + sumP (l.drop k) := by unfold sumP; rw [List.map_append, List.sum_append]
 rw [List.take_append_drop] at e
 have h2 : ∀ m : List Wn, (∀ x ∈ m, 0 ≤ x.part) → 0 ≤ sumP m := fun m => by
  induction m with
  | nil => intro _; simp [sumP]
  | cons y m ih =>
    intro hm
    have := ih (fun z hz => hm z (List.mem_cons_of_mem _ hz))
    have := hm y (List.mem_cons_self ..)
    simp only [sumP, List.map_cons, List.sum_cons] at *; omega
 have := h2 (l.drop k) (fun x hx => h x (List.mem_of_mem_drop hx))
 omega
theorem CkB.took {w w3 : World} {H : Nat} {s : Sv} {f : Int} {st : Bool} {la ea : Option Addr} {lc ec : Nat} {lv en en' : List Wn} (h : CkB w H s f st la lc lv ea ec en) (ho : ORow w3 320 3 (.slice ea en'.length ec) en'.length (en'.flatMap Wn.cells)) (hg : w.grownBy w3 (ob ea)) :
 CkB (w3.setCell ⟨H, 6, none⟩ (.slice ea en'.length ec)) H s f st la lc lv ea ec en' ∧ GrowS (Bl H la ea) (Bl H la ea) w (w3.setCell ⟨H, 6, none⟩ (.slice ea en'.length ec)) := by
 have s1 := hg.size
 have hz : (w3.setCell ⟨H, 6, none⟩ (.slice ea en'.length ec)).heap.size = w3.heap.size := by simp
 have hB : But H w3 (w3.setCell ⟨H, 6, none⟩ (.slice ea en'.length ec)) := (But.refl H w3).set 6 _
 have hbx := (hg.block H (lt_of_block h.box) (fun e => (h.le H e.symm).2 rfl)).trans h.box
 refine ⟨⟨set_at hbx, h.l.hold (fun g hg' => ?_), ho.hold (fun g hg' => ?_), h.d⟩, ⟨hB.os.trans hg.os, hB.tape.trans hg.tape, hB.output.trans hg.output, by omega, fun k hk hn => ?_, fun k hk => .inl hk⟩⟩
 ·rw [own_ob] at hg'
  have := h.ll g hg'
  exact (hB.block g (by omega) this.2).trans (hg.block g this.1 (fun e => h.d g hg' e.symm))
 ·rw [own_ob] at hg'
  have := h.le g hg'
  exact hB.block g (by omega) this.2
 ·exact (hB.block k (by omega) (fun e => hn (.inl e))).trans (hg.block k hk (fun e => hn (.inr (.inr e.symm))))
set_option maxRecDepth 100000 in
set_option maxHeartbeats 4000000 in
theorem takeBack_ck (w : World) (H : Nat) (s : Sv) (f : Int) (st : Bool) (la ea : Option Addr) (lc ec : Nat) (lv en : List Wn) (h : CkB w H s f st la lc lv ea ec en) (hl : en.length ≤ 1000) (hs : 1 ≤ s.t ∧ s.t ≤ 1000) (now : Int) (hn : 0 ≤ now ∧ now ≤ 4611687117939015680) (hin : ∀ x ∈ en, 0 ≤ x.at_ ∧ x.at_ ≤ 4611687117939015680) (hp : ∀ x ∈ en, 0 ≤ x.part) (hf : 0 ≤ f ∧ f ≤ 1000) (hsum : sumP en ≤ 1000) :
 Calls Tryz.prog 281 #[.pointer (some ⟨H, 0, none⟩), .int .i64 now] w fun e w' => e = .returned (.tuple #[]) ∧ CkB w' H s (f + comeW s.t now en) st la lc lv ea ec (stayW s.t now en) ∧ GrowS (Bl H la ea) (Bl H la ea) w w' := by
 obtain ⟨n, hnn⟩ : ∃ n, n = en.length := ⟨_, rfl⟩
 obtain ⟨V, hV⟩ : ∃ V, V = (w.alloc (.cells #[.pointer (some ⟨H, 0, none⟩)] 221)).alloc (.cells #[.int .i64 now] 3) := ⟨_, rfl⟩
 obtain ⟨E2, hE2⟩ : ∃ E2, E2 = w.heap.size := ⟨_, rfl⟩
 obtain ⟨E1, hE1⟩ : ∃ E1, E1 = w.heap.size + 1 := ⟨_, rfl⟩
 have hbV : Below w.heap.size w V := by rw [hV]; exact b_alloc (below1 _ _) (Nat.le_refl _) _
 have hkV := h.later hbV
 have c2 : V.cell? ⟨E2, 0, none⟩ = some (.pointer (some ⟨H, 0, none⟩)) := by rw [hV, hE2]; exact Lib.cell?_alloc_some _ (cell_in (heap_alloc_new w _) rfl)
 have c1 : V.cell? ⟨E1, 0, none⟩ = some (.int .i64 now) := by
  have := heap_alloc_new (w.alloc (.cells #[.pointer (some ⟨H, 0, none⟩)] 221)) (.cells #[.int .i64 now] 3)
  rw [hV, hE1]
  exact cell_in (b := w.heap.size + 1) (by simpa using this) rfl
 go_enter Tryz.func281, Tryz.ntmps281
 go_upto_region 1 with fail
 rw [← hV, ← hE1, ← hE2]
 have b6 := hkV.c6
 rw [← hnn] at b6 hl
 have hE1H : E1 ≠ H := fun e => by have := lt_of_block h.box; omega
 have hE2H : E2 ≠ H := fun e => by have := lt_of_block h.box; omega
 have hEe : ∀ g, ob ea = some g → H ≠ g ∧ E1 ≠ g ∧ E2 ≠ g := fun g hg => by have := h.le g hg; omega
 have HBK : Hid (BkBox V H E1 E2 s.t now) := Lib.hid ⟨hkV.c3, c1, c2, hs, hn⟩
 have HKV := Lib.hid hkV
 have HH := Lib.hid h
 have HV := Lib.hid hV
 have HBV := Lib.hid hbV
 have HNN := Lib.hid hnn
 have HIN := Lib.hid hin
 have HP := Lib.hid hp
 have HSUM := Lib.hid hsum
 have HEE := Lib.hid hEe
 have HE1 := Lib.hid hE1
 have HE2 := Lib.hid hE2
 have hEv1 : E1 < V.heap.size := World.block_lt_of_cell? _ _ c1
 have hEv2 : E2 < V.heap.size := World.block_lt_of_cell? _ _ c2
 have hz0 : comeW s.t now [] = 0 := rfl
 clear hkV h hV hbV hnn hin hp hsum hEe hE1 hE2 c1
 go_wp2_with fail
 go_loopw [13] (fun i wr => ∃ k : Nat, k ≤ n ∧ i = .int .i64 k ∧ Hid (CkB wr H s (f + comeW s.t now (en.take k)) st la lc lv ea ec en) ∧ Hid (But H V wr)) (fun i _ => n - (intOf i).toNat)
 case atStart => exact ⟨0, by omega, rfl, Lib.hid (by rw [List.take_zero, hz0, Int.add_zero]; exact HKV.out), Lib.hid (But.refl _ _)⟩
 case round =>
  obtain ⟨k, hk, rfl, HK, HB⟩ := hrel
  have HBW : Hid (BkBox wr H E1 E2 s.t now) := Lib.hid ⟨HK.out.c3, (World.cell?_of_block (HB.out.block _ hEv1 hE1H)).trans HBK.out.bn, (World.cell?_of_block (HB.out.block _ hEv2 hE2H)).trans HBK.out.bb, hs, hn⟩
  by_cases hlt : k < n
  ·have tk : decide ((k : Int) < (n : Int)) = true := by simpa using hlt
   obtain ⟨x, hx⟩ : ∃ x, en[k]? = some x := ⟨_, List.getElem?_eq_getElem (by rw [← HNN.out]; exact hlt)⟩
   have hoe := HK.out.e
   rw [← HNN.out] at hoe
   obtain ⟨g, off, hea, _⟩ := hoe.at_ (by omega)
   have hx0 := hoe
   rw [hea] at hx0
   obtain ⟨y0, y1, y2, _⟩ := orow_at hx0 hx hlt
   have l0 : (0 : Int) ≤ (k : Int) := by omega
   have l1 : (k : Int) < (n : Int) := by omega
   have hxi := HIN.out x (List.mem_of_getElem? hx)
   have hxp := HP.out x (List.mem_of_getElem? hx)
   have HX := Lib.hid hx
   have hc0 := (comeW_bd s.t now (en.take k) (fun y hy => HP.out y (List.mem_of_mem_take hy)))
   have hc1 := sumP_take HP.out k
   have hc2 := sumP_take HP.out (k + 1)
   have hts : en.take (k + 1) = en.take k ++ [x] := by rw [List.take_add_one, hx]; rfl
   have hc3 : sumP (en.take (k + 1)) = sumP (en.take k) + x.part := by rw [hts]; simp [sumP]
   have HTS := Lib.hid hts
   have hsm := HSUM.out
   obtain ⟨fc, hfc⟩ : ∃ fc, fc = f + comeW s.t now (en.take k) := ⟨_, rfl⟩
   have hfb : 0 ≤ fc ∧ fc + x.part ≤ 2000 := by omega
   rw [← hfc] at HK
   have HFC := Lib.hid hfc
   have HEA := Lib.hid hea
   obtain ⟨U, hU⟩ : ∃ U, U = wr.alloc (.cells #[.int .i64 x.at_, .int .i64 x.len, .int .i64 x.part] 320) := ⟨_, rfl⟩
   obtain ⟨F, hF⟩ : ∃ F, F = wr.heap.size := ⟨_, rfl⟩
   have hbU : Below wr.heap.size wr U := by rw [hU]; exact below1 _ _
   have hFU : U.heap[F]? = some (.cells #[.int .i64 x.at_, .int .i64 x.len, .int .i64 x.part] 320 (0, 0)) := by rw [hU, hF]; exact heap_alloc_new _ _
   have v0 : U.cell? ⟨F, 0, none⟩ = some (.int .i64 x.at_) := cell_in hFU rfl
   have v1 : U.cell? ⟨F, 1, none⟩ = some (.int .i64 x.len) := cell_in hFU rfl
   have v2 : U.cell? ⟨F, 2, none⟩ = some (.int .i64 x.part) := cell_in hFU rfl
   have hFH : F ≠ H := fun e => by have := lt_of_block HK.out.box; omega
   have hHF : H ≠ F := fun e => hFH e.symm
   have hC := HBW.out.later hbU
   have HC := Lib.hid (back_any U H E1 E2 s.t now x hC.b3 hC.bn hC.bb hC.ht hC.hn hxi)
   have HKU := Lib.hid (HK.out.later hbU)
   have HBU := Lib.hid hbU
   have HU := Lib.hid hU
   have HF := Lib.hid hF
   have HCB := Lib.hid hC
   have hw : IntKind.i64.wrap (fc + x.part) = fc + x.part := IntWalk.i64_in _ (by omega)
   clear hU hF hbU hFU hx hx0 hoe hfc hts hc0 hc1 hc2 hc3 hC hsm
   rw [hea] at b6
   rw [hea]
   go_upto_region 5 with fail
   rw [← HU.out, ← HF.out]
   cases hh : bkB s.t now x with
   | true =>
     have HHB := Lib.hid hh
     have HTC : Hid (f + comeW s.t now (en.take (k + 1)) = fc + x.part) := Lib.hid (by rw [HTS.out, comeW_snoc, hh, HFC.out]; simp; omega)
     clear hh
     go_wp2_with (first | (go_at_call 284; refine HC.out.mono ?_; rintro e w2 ⟨rfl, hb2'⟩; have hb2 := Lib.hid hb2'; rw [HHB.out]; have m2 := cell_later v2 hb2'; have m1 := (HCB.out.later hb2').bb; have m4 := (HKU.out.later hb2').c4; have n4 := (HKU.out.later hb2').fz 4; clear hb2'))
     go_region
     go_wp2_with fail
     go_roundw
     case rel =>
      have hB2 := HBU.out.trans (hb2.out.mono HBU.out.size)
      have hX : But H w2 (w2.setCell ⟨H, 4, none⟩ (.int .i64 (fc + x.part))).drew := ((But.refl H w2).set 4 _).drew
      have hk2 := HKU.out.later hb2.out
      refine ⟨k + 1, by omega, by go_num, Lib.hid ?_, Lib.hid (HB.out.trans ((But.of_below hB2).trans hX))⟩
      rw [HTC.out, ← HEA.out]
      exact hk2.boxed (set_at hk2.box) (fun q hq hqn => hX.block q hq hqn)
     case measure => simp [intOf]; omega
   | false =>
     have HHB := Lib.hid hh
     have HTC : Hid (f + comeW s.t now (en.take (k + 1)) = fc) := Lib.hid (by rw [HTS.out, comeW_snoc, hh, HFC.out]; simp)
     clear hh
     go_wp2_with (first | (go_at_call 284; refine HC.out.mono ?_; rintro e w2 ⟨rfl, hb2'⟩; have hb2 := Lib.hid hb2'; rw [HHB.out]; clear hb2'))
     go_roundw
     case rel =>
      have hB2 := HBU.out.trans (hb2.out.mono HBU.out.size)
      exact ⟨k + 1, by omega, by go_num, Lib.hid (by rw [HTC.out, ← HEA.out]; exact HKU.out.later hb2.out), Lib.hid (HB.out.trans (But.of_below hB2))⟩
     case measure => simp [intOf]; omega
  ·have tk : decide ((k : Int) < (n : Int)) = false := by simp; omega
   have hkn : k = n := by omega
   subst hkn
   rw [List.take_of_length_le (by rw [← HNN.out]; exact Nat.le_refl _)] at HK
   have HD : Hid (∀ W, Below wr.heap.size wr W → Calls Tryz.prog 285 #[.slice ea k ec, .func (.func 284) #[] #[.pointer (some ⟨E1, 0, none⟩), .pointer (some ⟨E2, 0, none⟩)]] W fun e w' => e = .returned (.slice ea (stayW s.t now en).length ec) ∧ (ORow w' 320 3 (.slice ea (stayW s.t now en).length ec) (stayW s.t now en).length ((stayW s.t now en).flatMap Wn.cells) ∧ wr.grownBy w' (ob ea)) ∧ w'.cell? ⟨E2, 0, none⟩ = some (.pointer (some ⟨H, 0, none⟩)) ∧ w'.cell? ⟨H, 6, none⟩ = some (.slice ea k ec) ∧ w'.frozen? ⟨H, 6, none⟩ = false) := Lib.hid (fun W hW => by
    have hoe := (HK.out.later hW).e
    rw [← HNN.out] at hoe
    refine (delete17_any W H E1 E2 s.t now (HBW.out.later hW) ea k ec en hoe HNN.out.symm hl HIN.out HEE.out).mono ?_
    rintro e w' ⟨rfl, h1, h2⟩
    have hg : wr.grownBy w' (ob ea) := ⟨h2.os.trans hW.os, h2.tape.trans hW.tape, h2.output.trans hW.output, Nat.le_trans hW.size h2.size, fun i hi hn => (h2.block i (Nat.lt_of_lt_of_le hi hW.size) hn).trans (hW.block i hi)⟩
    have hbx := (hg.block H (lt_of_block HK.out.box) (fun e => (HEE.out H e.symm).1 rfl)).trans HK.out.box
    refine ⟨rfl, ⟨h1, hg⟩, (World.cell?_of_block (hg.block E2 (World.block_lt_of_cell? _ _ HBW.out.bb) (fun e => (HEE.out E2 e.symm).2.2 rfl))).trans HBW.out.bb, ?_, free_in hbx _⟩
    rw [HNN.out]
    exact cell_in hbx rfl)
   have m1 := HBW.out.bb
   have m6 := HK.out.c6
   rw [← HNN.out] at m6
   go_upto_region 8 with fail
   have HD0 := Lib.hid (HD.out _ (Below.refl _ _))
   have HD1 := Lib.hid (HD.out _ (Below.refl _ _).drew)
   go_region_with (first
    | (go_at_call 285; refine HD1.out.mono ?_; rintro e w3 ⟨rfl, h3', n1, n6, nf⟩; have h3 := Lib.hid h3'; clear h3')
    | (go_at_call 285; refine HD0.out.mono ?_; rintro e w3 ⟨rfl, h3', n1, n6, nf⟩; have h3 := Lib.hid h3'; clear h3')
    | fail "no arm")
   all_goals
    go_wp2_with fail
    go_end0
    obtain ⟨t1, t2⟩ := HK.out.took h3.out.1 h3.out.2
    exact ⟨rfl, t1, ((GrowS.of_below HBV.out).trans (grow_but HB.out (.inl rfl))).trans t2⟩
end Go.Proofs.YtchbehnkkcjdgaaGreat
namespace Go.Proofs.YtchbehnkkcjdgaaGreat
open Go.ChangeShapes Go.WideShapes Go.ChangeAt Go.RowKit
set_option linter.unusedVariables false
/-- A budget in memory, with its own blocks. -/
def BgAt (H : Nat) (s : Sv) (b : Bd) (w : World) (S : Nat → Prop) : Prop :=
 ∃ (la ea : Option Addr) (lc ec : Nat) (en : List Wn), CkB w H s b.free b.stop la lc b.live ea ec en ∧ b.backs = en.map (fun x => ⟨x.at_ + s.t, x.part⟩) ∧ (∀ x ∈ en, 0 ≤ x.at_ ∧ x.at_ ≤ 4611687117939015680 ∧ 0 < x.part) ∧ okSv s = true ∧ BdOk s.c s.t 4611687117939015680 b ∧ S = Bl H la ea
theorem bg_own (H : Nat) (s : Sv) (b : Bd) : OwnP (BgAt H s b) where
 keep := by
  rintro w w' S ⟨la, ea, lc, ec, en, h, h2, h3, h4, h5, rfl⟩ hs hz
  exact ⟨la, ea, lc, ec, en, h.hold hs, h2, h3, h4, h5, rfl⟩
 lt := by
  rintro w S ⟨la, ea, lc, ec, en, h, h2, h3, h4, h5, rfl⟩ k hk
  exact h.lt k hk
/-- Numbers of a budget. -/
theorem bd_nums {s : Sv} {b : Bd} {en : List Wn} (h2 : b.backs = en.map (fun x => ⟨x.at_ + s.t, x.part⟩)) (h4 : okSv s = true) (h5 : BdOk s.c s.t 4611687117939015680 b) (h3 : ∀ x ∈ en, 0 ≤ x.at_ ∧ x.at_ ≤ 4611687117939015680 ∧ 0 < x.part) :
 (0 ≤ b.free ∧ b.free ≤ 1000) ∧ b.live.length ≤ 1000 ∧ en.length ≤ 1000 ∧ sumP en ≤ 1000 ∧ ∀ x ∈ b.live, (0 ≤ x.at_ ∧ x.at_ ≤ 4611687117939015680) ∧ (1 ≤ x.len ∧ x.len ≤ 1000) ∧ (0 ≤ x.part ∧ x.part ≤ 1000) := by
 have h := okSv_bd h4
 have hb := h5.bounds
 have ha := h5.all
 have hf := h5.f0
 have e1 : en.length = b.backs.length := by rw [h2]; simp
 have e2 : sumP en = sumB b.backs := by rw [h2]; simp [sumP, sumB, Function.comp_def]
 refine ⟨by omega, by omega, by omega, by omega, fun x hx => ?_⟩
 have hl := h5.lv x hx
 have g1 : x.len ≤ sumLeft b.live := by
  have : ∀ l : List Wn, (∀ y ∈ l, 1 ≤ y.len) → ∀ x ∈ l, x.len ≤ sumLeft l := by
   intro l
   induction l with
   | nil => intro _ x hx; cases hx
   | cons y l ih =>
     intro hy x hx
     have i1 := sumLeft_len l (fun z hz => hy z (List.mem_cons_of_mem _ hz))
     have i2 := hy y (List.mem_cons_self ..)
     rcases List.mem_cons.1 hx with rfl | hx
     ·simp only [sumLeft, List.map_cons, List.sum_cons] at *; omega
     ·have := ih (fun z hz => hy z (List.mem_cons_of_mem _ hz)) x hx
      simp only [sumLeft, List.map_cons, List.sum_cons] at *; omega
  exact this _ (fun y hy => (h5.lv y hy).2.2.1) x hx
 have g2 : x.part ≤ sumUsed b.live := by
  have : ∀ l : List Wn, (∀ y ∈ l, 0 ≤ y.part) → ∀ x ∈ l, x.part ≤ sumUsed l := by
   intro l
   induction l with
   | nil => intro _ x hx; cases hx
   | cons y l ih =>
     intro hy x hx
     have i1 := sumUsed_pos l (fun z hz => hy z (List.mem_cons_of_mem _ hz))
     have i2 := hy y (List.mem_cons_self ..)
     rcases List.mem_cons.1 hx with rfl | hx
     ·simp only [sumUsed, List.map_cons, List.sum_cons] at *; omega
     ·have := ih (fun z hz => hy z (List.mem_cons_of_mem _ hz)) x hx
      simp only [sumUsed, List.map_cons, List.sum_cons] at *; omega
  exact this _ (fun y hy => (h5.lv y hy).2.2.2) x hx
 exact ⟨⟨hl.1, hl.2.1⟩, ⟨hl.2.2.1, by omega⟩, ⟨hl.2.2.2, by omega⟩⟩
/-! ### Go -/
theorem come_same (t now : Int) : ∀ en : List Wn, comeN now (en.map (fun x => ⟨x.at_ + t, x.part⟩)) = comeW t now en
 | [] => rfl
 | x :: l => by
   have ih := come_same t now l
   unfold comeN comeW at ih ⊢
   rw [List.map_cons, List.filter_cons, List.filter_cons]
   by_cases h : x.at_ + t ≤ now
   ·simp only [bkB, h, decide_true, if_true] at ih ⊢
    simp only [sumB, sumP, List.map_cons, List.sum_cons] at ih ⊢
    omega
   ·simp only [bkB, h, decide_false] at ih ⊢
    simpa using ih
theorem stay_same (t now : Int) : ∀ en : List Wn, stayN now (en.map (fun x => ⟨x.at_ + t, x.part⟩)) = (stayW t now en).map (fun x => ⟨x.at_ + t, x.part⟩)
 | [] => rfl
 | x :: l => by
   have ih := stay_same t now l
   unfold stayN stayW at ih ⊢
   rw [List.map_cons, List.filter_cons, List.filter_cons]
   by_cases h : x.at_ + t ≤ now
   ·simp only [bkB, h, decide_true, Bool.not_true] at ih ⊢
    simpa using ih
   ·simp only [bkB, h, decide_false, Bool.not_false, if_true, List.map_cons] at ih ⊢
    rw [ih]
set_option maxRecDepth 100000 in
set_option maxHeartbeats 4000000 in
theorem go_bg (w : World) (H : Nat) (S : Nat → Prop) (s : Sv) (b : Bd) (now : Int) (busy : Bool) (h0 : 0 ≤ now) (h1 : now ≤ 4611687117939015680) (h : BgAt H s b w S) :
 Calls Tryz.prog 270 #[.pointer (some ⟨H, 0, none⟩), .int .i64 now, .bool busy] w fun e w' => ∃ S', e = .returned (.tuple #[]) ∧ BgAt H s (goB b now busy) w' S' ∧ GrowS S S' w w' := by
 obtain ⟨la, ea, lc, ec, en, hk, hb, hen, hs, hok, rfl⟩ := h
 have hsb := okSv_bd hs
 obtain ⟨n1, n2, n3, n4, n5⟩ := bd_nums hb hs hok hen
 have HM := Lib.hid (made_yes w H s.t hk.c3 (by omega))
 have HT := Lib.hid (takeBack_ck w H s b.free b.stop la ea lc ec b.live en hk n3 (by omega) now ⟨h0, h1⟩ (fun x hx => ⟨(hen x hx).1, (hen x hx).2.1⟩) (fun x hx => by have := (hen x hx).2.2; omega) n1 n4)
 have hc := comeW_bd s.t now en (fun x hx => by have := (hen x hx).2.2; omega)
 obtain ⟨fc, hfc⟩ : ∃ fc, fc = b.free + comeW s.t now en := ⟨_, rfl⟩
 rw [← hfc] at HT
 have hgo := hok.go h0 h1 busy
 have hcome : b.free + comeN now b.backs = fc := by rw [hb, come_same, hfc]
 have hstay : stayN now b.backs = (stayW s.t now en).map (fun x => ⟨x.at_ + s.t, x.part⟩) := by rw [hb, stay_same]
 have hfb : 0 ≤ fc := by omega
 have HG := Lib.hid hgo
 have HC := Lib.hid hcome
 have HST := Lib.hid hstay
 have HS := Lib.hid hs
 have HE : Hid (∀ x ∈ stayW s.t now en, 0 ≤ x.at_ ∧ x.at_ ≤ 4611687117939015680 ∧ 0 < x.part) := Lib.hid (fun x hx => hen x (List.mem_filter.1 hx).1)
 obtain ⟨stop, hstop⟩ : ∃ stop, stop = b.stop := ⟨_, rfl⟩
 rw [← hstop] at HT
 have HSTOP := Lib.hid hstop
 have HDEF : Hid (goB b now busy = if busy && !b.stop && decide (0 < b.free + comeN now b.backs) then ⟨0, b.live ++ [⟨now, b.free + comeN now b.backs, 0⟩], stayN now b.backs, b.stop⟩ else ⟨b.free + comeN now b.backs, b.live, stayN now b.backs, b.stop⟩) := Lib.hid rfl
 have HK := Lib.hid hk
 have HLV := Lib.hid n2
 clear n2 hk hb hen hok hs n3 n4 n5 hc hfc hgo hcome hstay hstop
 -- the end where no chunk is laid
 have hno : ∀ (w2 : World), CkB w2 H s fc stop la lc b.live ea ec (stayW s.t now en) → GrowS (Bl H la ea) (Bl H la ea) w w2 → (busy && !stop && decide (0 < fc)) = false → ∃ S', BgAt H s (goB b now busy) w2 S' ∧ GrowS (Bl H la ea) S' w w2 := by
  intro w2 h2 g2 hf
  have e := HDEF.out
  rw [HC.out, ← HSTOP.out, hf, if_neg (by simp)] at e
  refine ⟨Bl H la ea, ?_, g2⟩
  have hg := HG.out
  rw [e] at hg ⊢
  exact ⟨la, ea, lc, ec, stayW s.t now en, h2, HST.out, HE.out, HS.out, hg, rfl⟩
 have HNO := Lib.hid hno
 clear hno
 cases hbz : busy with
 | false =>
   subst hbz
   go_enter Tryz.func270, Tryz.ntmps270
   go_wp2_with (first
    | (go_at_call 275; refine HM.out.mono ?_; rintro e w1 ⟨rfl, hw1⟩; rw [hw1]; clear hw1)
    | (go_at_call 281; refine HT.out.mono ?_; rintro e w2 ⟨rfl, hk2, g2⟩; have HK2 := Lib.hid hk2; have HG2 := Lib.hid g2; have d4 := hk2.c4; have d5 := hk2.c5; clear hk2 g2)
    | fail "no arm")
   go_end0
   obtain ⟨S', q1, q2⟩ := HNO.out _ HK2.out HG2.out (by simp)
   first | exact ⟨S', rfl, q1, q2⟩ | exact ⟨rfl, S', q1, q2⟩
 | true =>
   subst hbz
   cases hst : stop with
   | true =>
     subst hst
     go_enter Tryz.func270, Tryz.ntmps270
     go_wp2_with (first
      | (go_at_call 275; refine HM.out.mono ?_; rintro e w1 ⟨rfl, hw1⟩; rw [hw1]; clear hw1)
      | (go_at_call 281; refine HT.out.mono ?_; rintro e w2 ⟨rfl, hk2, g2⟩; have HK2 := Lib.hid hk2; have HG2 := Lib.hid g2; have d4 := hk2.c4; have d5 := hk2.c5; clear hk2 g2)
      | fail "no arm")
     go_end0
     obtain ⟨S', q1, q2⟩ := HNO.out _ HK2.out HG2.out (by simp)
     first | exact ⟨S', rfl, q1, q2⟩ | exact ⟨rfl, S', q1, q2⟩
   | false =>
     subst hst
     by_cases hz : 0 < fc
     ·have t0 : decide (0 < fc) = true := decide_eq_true hz
      go_enter Tryz.func270, Tryz.ntmps270
      go_upto_region 3 with (first
       | (go_at_call 275; refine HM.out.mono ?_; rintro e w1 ⟨rfl, hw1⟩; rw [hw1]; clear hw1)
       | (go_at_call 281; refine HT.out.mono ?_; rintro e w2 ⟨rfl, hk2, g2⟩; have HK2 := Lib.hid hk2; have HG2 := Lib.hid g2; have d4 := hk2.c4; have d5 := hk2.c5; clear hk2 g2)
       | fail "no arm")
      have hlv : b.live.length ≤ 1000 := HLV.out
      have HL0 := Lib.hid (lay_ck w2 H s fc false la ea lc ec b.live _ HK2.out hlv now fc)
      have HL1 := Lib.hid (lay_ck w2.drew H s fc false la ea lc ec b.live _ HK2.out.drew hlv now fc)
      clear hlv
      go_region_with (first
       | (go_at_call 282; refine HL1.out.mono ?_; rintro e w3 ⟨rfl, la', lc', hk3, g3⟩; have HK3 := Lib.hid hk3; have HG3 := Lib.hid ((GrowS.of_below (Below.refl _ _).drew).trans g3); have d4' := hk3.c4; have d4f := hk3.fz 4; clear hk3 g3)
       | (go_at_call 282; refine HL0.out.mono ?_; rintro e w3 ⟨rfl, la', lc', hk3, g3⟩; have HK3 := Lib.hid hk3; have HG3 := Lib.hid g3; have d4' := hk3.c4; have d4f := hk3.fz 4; clear hk3 g3)
       | fail "no arm")
      all_goals
       go_wp2_with fail
       go_end0
       have hB : But H w3 (w3.setCell ⟨H, 4, none⟩ (.int .i64 0)) := (But.refl H w3).set 4 _
       have e : goB b now true = ⟨0, b.live ++ [⟨now, fc, 0⟩], stayN now b.backs, b.stop⟩ := by
        have e0 := HDEF.out
        rw [HC.out, ← HSTOP.out, if_pos (by rw [t0]; rfl)] at e0
        rw [e0, HSTOP.out]
       have hg := HG.out
       rw [e] at hg ⊢
       have hk4 := HK3.out.boxed (f' := 0) (st' := false) (set_at HK3.out.box) (fun q hq hqn => hB.block q hq hqn)
       rw [HSTOP.out] at hk4
       have hfin : BgAt H s ⟨0, b.live ++ [⟨now, fc, 0⟩], stayN now b.backs, b.stop⟩ (w3.setCell ⟨H, 4, none⟩ (.int .i64 0)) (Bl H la' ea) := ⟨la', ea, lc', ec, stayW s.t now en, hk4, HST.out, HE.out, HS.out, hg, rfl⟩
       have hgr : GrowS (Bl H la ea) (Bl H la' ea) w (w3.setCell ⟨H, 4, none⟩ (.int .i64 0)) := HG2.out.trans (HG3.out.trans (grow_but hB (.inl rfl)))
       first | exact ⟨Bl H la' ea, rfl, hfin, hgr⟩ | exact ⟨rfl, Bl H la' ea, hfin, hgr⟩
     ·have t0 : decide (0 < fc) = false := decide_eq_false hz
      go_enter Tryz.func270, Tryz.ntmps270
      go_wp2_with (first
       | (go_at_call 275; refine HM.out.mono ?_; rintro e w1 ⟨rfl, hw1⟩; rw [hw1]; clear hw1)
       | (go_at_call 281; refine HT.out.mono ?_; rintro e w2 ⟨rfl, hk2, g2⟩; have HK2 := Lib.hid hk2; have HG2 := Lib.hid g2; have d4 := hk2.c4; have d5 := hk2.c5; clear hk2 g2)
       | fail "no arm")
      go_end0
      obtain ⟨S', q1, q2⟩ := HNO.out _ HK2.out HG2.out (by rw [t0]; rfl)
      first | exact ⟨S', rfl, q1, q2⟩ | exact ⟨rfl, S', q1, q2⟩
/-! ### Use, Done -/
theorem Tryz.fieldChk0 (a b c : Int) (w : World) : (Instr.field 320 (.agg #[.int .i64 a, .int .i64 b, .int .i64 c]) 0).run Tryz.prog w = .ok (.int .i64 a) w := by kernel_rfl
theorem Tryz.fieldChk1 (a b c : Int) (w : World) : (Instr.field 320 (.agg #[.int .i64 a, .int .i64 b, .int .i64 c]) 1).run Tryz.prog w = .ok (.int .i64 b) w := by kernel_rfl
theorem endL_backs (t : Int) (x : Wn) (en : List Wn) : (endL x en).map (fun x => (⟨x.at_ + t, x.part⟩ : Bk)) = en.map (fun x => ⟨x.at_ + t, x.part⟩) ++ usedBacks t [x] := by
 unfold endL usedBacks
 by_cases h : 0 < x.part
 ·rw [if_pos h]; simp [h]
 ·rw [if_neg h]; simp [h]
theorem endL_mem {x y : Wn} {en : List Wn} (h : y ∈ endL x en) : y ∈ en ∨ (y = x ∧ 0 < x.part) := by
 unfold endL at h
 split at h
 ·rcases List.mem_append.1 h with h | h
  ·exact .inl h
  ·exact .inr ⟨List.mem_singleton.1 h, by assumption⟩
 ·exact .inl h
set_option maxRecDepth 100000 in
set_option maxHeartbeats 4000000 in
theorem use_bg (w : World) (H : Nat) (S : Nat → Prop) (s : Sv) (b : Bd) (h : BgAt H s b w S) :
 Calls Tryz.prog 274 #[.pointer (some ⟨H, 0, none⟩)] w fun e w' => ∃ S', e = .returned (.bool (useOk b)) ∧ BgAt H s (useB s.t b) w' S' ∧ GrowS S S' w w' := by
 obtain ⟨la, ea, lc, ec, en, hk, hb, hen, hs, hok, rfl⟩ := h
 have hsb := okSv_bd hs
 obtain ⟨n1, n2, n3, n4, n5⟩ := bd_nums hb hs hok hen
 have HM := Lib.hid (made_yes w H s.t hk.c3 (by omega))
 have hus := hok.use (by omega)
 obtain ⟨f, lv, bk, st⟩ := b
 dsimp only at hk hb n1 n2 n5
 have HZ := Lib.hid (none_any w H _ lc la hk.c0)
 cases lv with
 | nil =>
   have HK := Lib.hid hk
   have HA := Lib.hid (And.intro hb (And.intro hen (And.intro hs hok)))
   have hd : decide (([] : List Wn).length = 0) = true := rfl
   rw [hd] at HZ
   clear hk hb hen hs hok hus n1 n2 n3 n4 n5
   go_enter Tryz.func274, Tryz.ntmps274
   go_wp2_with (first
    | (go_at_call 275; refine HM.out.mono ?_; rintro e w1 ⟨rfl, hw1⟩; rw [hw1]; clear hw1)
    | (go_at_call 276; refine HZ.out.mono ?_; rintro e w2 ⟨rfl, hw1⟩; rw [hw1]; clear hw1)
    | fail "no arm")
   go_ret
   have hfin : BgAt H s (useB s.t ⟨f, [], bk, st⟩) w (Bl H la ea) := ⟨la, ea, lc, ec, en, HK.out, HA.out.1, HA.out.2.1, HA.out.2.2.1, HA.out.2.2.2, rfl⟩
   first | exact ⟨Bl H la ea, rfl, hfin, GrowS.of_below (Below.refl _ _)⟩ | exact ⟨rfl, Bl H la ea, hfin, GrowS.of_below (Below.refl _ _)⟩
 | cons x l =>
   obtain ⟨n5a, n5b, n5c⟩ := n5 x (List.mem_cons_self ..)
   have hd : decide ((x :: l).length = 0) = false := by simp
   rw [hd] at HZ
   have HU := Lib.hid (use_ck w H s f st la ea lc ec x l en hk (by omega) n5c)
   obtain ⟨x0, x1, x2⟩ := x
   dsimp only at n5a n5b n5c HU
   have HA := Lib.hid (And.intro hb (And.intro hen (And.intro hs hus)))
   by_cases hz : x1 - 1 = 0
   ·have t0 : ((x1 - 1) == 0) = true := by simpa using hz
    have hE : useB s.t ⟨f, (⟨x0, x1, x2⟩ : Wn) :: l, bk, st⟩ = ⟨f, l, bk ++ [⟨x0 + s.t, x2 + 1⟩], st⟩ := by unfold useB; dsimp only; rw [if_pos hz]
    have HE := Lib.hid hE
    clear hk hb hen hs hok hus n2 n4 hE n5
    have hfd := Tryz.fieldChk1
    go_enter Tryz.func274, Tryz.ntmps274
    go_wp2_with (first
     | (go_at_call 275; refine HM.out.mono ?_; rintro e w1 ⟨rfl, hw1⟩; rw [hw1]; clear hw1)
     | (go_at_call 276; refine HZ.out.mono ?_; rintro e w2 ⟨rfl, hw1⟩; rw [hw1]; clear hw1)
     | (go_at_call 283; refine HU.out.mono ?_; rintro e w3 ⟨rfl, hk3, g3⟩; have HK3 := Lib.hid hk3; have HG3 := Lib.hid g3; clear hk3 g3)
     | (go_at_call 280; refine (first_ck w3 H s f st la ea lc ec _ l en HK3.out).mono ?_; rintro e w4 ⟨rfl, b4⟩; have HB4 := Lib.hid b4; clear b4)
     | (go_at_call 278; refine (take_ck w4 H s f st la ea lc ec _ l en (HK3.out.later HB4.out)).mono ?_; rintro e w5 ⟨rfl, la5, lc5, hk5, ho5, g5⟩; have HK5 := Lib.hid hk5; have HG5 := Lib.hid g5; clear hk5 g5)
     | (go_at_call 277; refine (end_ck w5 H s f st la5 ea lc5 ec l en HK5.out n3 ⟨x0, 0, x2 + 1⟩ n1 (by dsimp only; omega)).mono ?_; rintro e w6 ⟨rfl, ea6, ec6, hk6, g6⟩; have HK6 := Lib.hid hk6; have HG6 := Lib.hid g6; clear hk6 g6)
     | fail "no arm")
    go_ret
    obtain ⟨a1, a2, a3, a4⟩ := HA.out
    rw [HE.out] at a4 ⊢
    have hk6 := HK6.out
    rw [Int.add_zero] at hk6
    have hfin : BgAt H s ⟨f, l, bk ++ [⟨x0 + s.t, x2 + 1⟩], st⟩ w6 (Bl H la5 ea6) := by
     refine ⟨la5, ea6, lc5, ec6, _, hk6, ?_, ?_, a3, a4, rfl⟩
     ·rw [endL_backs]
      show bk ++ _ = _
      rw [a1]
      have : 0 < x2 + 1 := by omega
      simp [usedBacks, this]
     ·intro y hy
      rcases endL_mem hy with hy | ⟨rfl, hq⟩
      ·exact a2 y hy
      ·exact ⟨n5a.1, n5a.2, hq⟩
    have hgr : GrowS (Bl H la ea) (Bl H la5 ea6) w w6 := HG3.out.trans ((GrowS.of_below HB4.out).trans (HG5.out.trans HG6.out))
    first | exact ⟨_, rfl, hfin, hgr⟩ | exact ⟨rfl, _, hfin, hgr⟩
   ·have t0 : ((x1 - 1) == 0) = false := by simpa using hz
    have hE : useB s.t ⟨f, (⟨x0, x1, x2⟩ : Wn) :: l, bk, st⟩ = ⟨f, ⟨x0, x1 - 1, x2 + 1⟩ :: l, bk, st⟩ := by unfold useB; dsimp only; rw [if_neg hz]
    have HE := Lib.hid hE
    clear hk hb hen hs hok hus n2 n4 hE n5
    have hfd := Tryz.fieldChk1
    go_enter Tryz.func274, Tryz.ntmps274
    go_wp2_with (first
     | (go_at_call 275; refine HM.out.mono ?_; rintro e w1 ⟨rfl, hw1⟩; rw [hw1]; clear hw1)
     | (go_at_call 276; refine HZ.out.mono ?_; rintro e w2 ⟨rfl, hw1⟩; rw [hw1]; clear hw1)
     | (go_at_call 283; refine HU.out.mono ?_; rintro e w3 ⟨rfl, hk3, g3⟩; have HK3 := Lib.hid hk3; have HG3 := Lib.hid g3; clear hk3 g3)
     | (go_at_call 280; refine (first_ck w3 H s f st la ea lc ec _ l en HK3.out).mono ?_; rintro e w4 ⟨rfl, b4⟩; have HB4 := Lib.hid b4; clear b4)
     | fail "no arm")
    go_ret
    obtain ⟨a1, a2, a3, a4⟩ := HA.out
    rw [HE.out] at a4 ⊢
    have hfin : BgAt H s ⟨f, ⟨x0, x1 - 1, x2 + 1⟩ :: l, bk, st⟩ w4 (Bl H la ea) := ⟨la, ea, lc, ec, en, HK3.out.later HB4.out, a1, a2, a3, a4, rfl⟩
    have hgr : GrowS (Bl H la ea) (Bl H la ea) w w4 := HG3.out.trans (GrowS.of_below HB4.out)
    first | exact ⟨_, rfl, hfin, hgr⟩ | exact ⟨rfl, _, hfin, hgr⟩
end Go.Proofs.YtchbehnkkcjdgaaGreat
namespace Go.Proofs.YtchbehnkkcjdgaaGreat
open Go.ChangeShapes Go.WideShapes Go.ChangeAt Go.RowKit
set_option linter.unusedVariables false
/-- How many chunks are live, as memory tells. -/
def liveC (H : Nat) (w : World) : Nat := match w.cell? ⟨H, 0, none⟩ with
 | some (.slice _ n _) => n
 | _ => 0
/-- Done halfway: l are still live. -/
def doneP (T : Int) (b : Bd) (k : Nat) : Bd := ⟨b.free + sumLeft (b.live.take k), b.live.drop k, b.backs ++ usedBacks T (b.live.take k), b.stop⟩
theorem doneP_zero (T : Int) (b : Bd) : doneP T b 0 = b := by
 obtain ⟨f, l, k, s⟩ := b
 simp [doneP, sumLeft, usedBacks]
theorem doneP_all (T : Int) (b : Bd) {k : Nat} (h : b.live.length ≤ k) : doneP T b k = doneB T b := by
 simp only [doneP, doneB, List.take_of_length_le h, List.drop_eq_nil_of_le h]
theorem usedBacks_append (T : Int) (l m : List Wn) : usedBacks T (l ++ m) = usedBacks T l ++ usedBacks T m := by simp [usedBacks]
theorem doneP_succ (T : Int) (b : Bd) {k : Nat} {x : Wn} {l : List Wn} (h : b.live.drop k = x :: l) : doneP T b (k + 1) = ⟨(doneP T b k).free + x.len, l, (doneP T b k).backs ++ usedBacks T [x], b.stop⟩ := by
 have hx : b.live[k]? = some x := by
  have : (b.live.drop k)[0]? = some x := by rw [h]; rfl
  simpa using this
 have e1 : b.live.take (k + 1) = b.live.take k ++ [x] := by rw [List.take_add_one, hx]; rfl
 have e2 : b.live.drop (k + 1) = l := by rw [← List.drop_drop, h]; rfl
 simp only [doneP, e1, e2, sumLeft_append, usedBacks_append, List.append_assoc]
 congr 1
 simp [sumLeft]; omega
theorem doneP_ok {C T M : Int} {b : Bd} (h : BdOk C T M b) (hT : 0 ≤ T) (k : Nat) : BdOk C T M (doneP T b k) := by
 have hb := h.bounds
 have ha := h.all
 have hf := h.f0
 have e : b.live = b.live.take k ++ b.live.drop k := (List.take_append_drop k b.live).symm
 have e1 : sumLeft b.live = sumLeft (b.live.take k) + sumLeft (b.live.drop k) := by rw [← sumLeft_append, List.take_append_drop]
 have e2 : sumUsed b.live = sumUsed (b.live.take k) + sumUsed (b.live.drop k) := by rw [← sumUsed_append, List.take_append_drop]
 have e3 := sumLeft_len (b.live.take k) (fun x hx => (h.lv x (List.mem_of_mem_take hx)).2.2.1)
 refine ⟨by show 0 ≤ b.free + sumLeft (b.live.take k); omega, fun x hx => h.lv x (List.mem_of_mem_drop hx), fun y hy => ?_, ?_⟩
 ·rcases List.mem_append.1 hy with hy | hy
  ·exact h.bk y hy
  ·obtain ⟨x, hx, h1, h2, h3⟩ := usedBacks_mem hy
   have := h.lv x (List.mem_of_mem_take hx)
   omega
 ·show b.free + sumLeft (b.live.take k) + sumLeft (b.live.drop k) + sumUsed (b.live.drop k) + sumB (b.backs ++ usedBacks T (b.live.take k)) = C
  rw [sumB_append, usedBacks_sum T (b.live.take k) (fun x hx => (h.lv x (List.mem_of_mem_take hx)).2.2.2)]
  omega
/-- One chunk ends. -/
theorem bg_ended {w' : World} {H : Nat} {s : Sv} {b : Bd} {x : Wn} {l en : List Wn} {la ea : Option Addr} {lc ec : Nat} (h : CkB w' H s (b.free + x.len) b.stop la lc l ea ec (endL x en)) (h2 : b.backs = en.map (fun x => ⟨x.at_ + s.t, x.part⟩)) (h3 : ∀ x ∈ en, 0 ≤ x.at_ ∧ x.at_ ≤ 4611687117939015680 ∧ 0 < x.part) (hx : 0 ≤ x.at_ ∧ x.at_ ≤ 4611687117939015680) (h4 : okSv s = true) (h5 : BdOk s.c s.t 4611687117939015680 ⟨b.free + x.len, l, b.backs ++ usedBacks s.t [x], b.stop⟩) :
 BgAt H s ⟨b.free + x.len, l, b.backs ++ usedBacks s.t [x], b.stop⟩ w' (Bl H la ea) := by
 refine ⟨la, ea, lc, ec, _, h, ?_, ?_, h4, h5, rfl⟩
 ·rw [endL_backs]
  show b.backs ++ _ = _
  rw [h2]
 ·intro y hy
  rcases endL_mem hy with hy | ⟨rfl, hq⟩
  ·exact h3 y hy
  ·exact ⟨hx.1, hx.2, hq⟩
set_option maxRecDepth 100000 in
set_option maxHeartbeats 4000000 in
theorem done_bg (w : World) (H : Nat) (S : Nat → Prop) (s : Sv) (b : Bd) (h : BgAt H s b w S) :
 Calls Tryz.prog 268 #[.pointer (some ⟨H, 0, none⟩)] w fun e w' => ∃ S', e = .returned (.tuple #[]) ∧ BgAt H s (doneB s.t b) w' S' ∧ GrowS S S' w w' := by
 have hok : BdOk s.c s.t 4611687117939015680 b := by obtain ⟨la, ea, lc, ec, en, hk, hb, hen, hs, hok, rfl⟩ := h; exact hok
 have hs : okSv s = true := by obtain ⟨la, ea, lc, ec, en, hk, hb, hen, hs, hok, rfl⟩ := h; exact hs
 have HM : Hid (Calls Tryz.prog 275 #[.pointer (some ⟨H, 0, none⟩)] w fun e w' => e = .returned (.bool true) ∧ w' = w) := Lib.hid (by
  obtain ⟨la, ea, lc, ec, en, hk, _⟩ := h
  exact made_yes w H s.t hk.c3 (okSv_bd hs |>.1 |> fun _ => by have := okSv_bd hs; omega))
 have HOK : Hid (∀ k, BdOk s.c s.t 4611687117939015680 (doneP s.t b k)) := Lib.hid (fun k => doneP_ok hok (by have := okSv_bd hs; omega) k)
 have HS := Lib.hid hs
 have H0 : Hid (BgAt H s (doneP s.t b 0) w S) := Lib.hid (by rw [doneP_zero]; exact h)
 obtain ⟨n, hn⟩ : ∃ n, n = b.live.length := ⟨_, rfl⟩
 have HN := Lib.hid hn
 clear h hok hs hn
 go_enter Tryz.func268, Tryz.ntmps268
 go_wp2_with (first
  | (go_at_call 275; refine HM.out.mono ?_; rintro e w1 ⟨rfl, hw1⟩; rw [hw1]; clear hw1)
  | fail "no arm")
 go_loopw [9] (fun _ wr => ∃ (k : Nat) (S' : Nat → Prop), k ≤ n ∧ Hid (BgAt H s (doneP s.t b k) wr S') ∧ Hid (GrowS S S' w wr)) (fun _ wr => liveC H wr)
 case atStart => exact ⟨0, S, by omega, H0, Lib.hid (GrowS.of_below (Below.refl _ _))⟩
 case round =>
  obtain ⟨k, S', hk, HB, HG⟩ := hrel
  obtain ⟨la, ea, lc, ec, en, hkk, hb, hen, hs, hok, rfl⟩ := HB.out
  obtain ⟨n1, n2, n3, n4, n5⟩ := bd_nums hb hs hok hen
  have HZ := Lib.hid (none_any wr H _ lc la hkk.c0)
  have hL : liveC H wr = (doneP s.t b k).live.length := by unfold liveC; rw [hkk.c0]
  have hlk : (doneP s.t b k).live = b.live.drop k := rfl
  by_cases hlt : k < n
  ·obtain ⟨x, l, hxl⟩ : ∃ x l, b.live.drop k = x :: l := by
    cases hd : b.live.drop k with
    | nil => have := congrArg List.length hd; rw [List.length_drop, ← HN.out] at this; simp at this; omega
    | cons x l => exact ⟨x, l, rfl⟩
   have hsu := doneP_succ s.t b hxl
   rw [hlk, hxl] at HZ hkk hL n5
   have hd : decide ((x :: l).length = 0) = false := by simp
   rw [hd] at HZ
   obtain ⟨m1, m2, m3⟩ := n5 x (List.mem_cons_self ..)
   have HT := Lib.hid (take_ck wr H s _ _ la ea lc ec x l en hkk)
   have HA := Lib.hid (And.intro hb (And.intro hen (And.intro hs (And.intro hsu hL))))
   clear hb hen hs hok hsu hL hkk n2 n4 n5 hlk hxl
   go_wp2_with (first
    | (go_at_call 276; refine HZ.out.mono ?_; rintro e w2 ⟨rfl, hw1⟩; rw [hw1]; clear hw1)
    | (go_at_call 278; refine HT.out.mono ?_; rintro e w5 ⟨rfl, la5, lc5, hk5, ho5, g5⟩; have HK5 := Lib.hid hk5; have HG5 := Lib.hid g5; clear hk5 g5)
    | (go_at_call 277; refine (end_ck w5 H s _ _ la5 ea lc5 ec l en HK5.out n3 x n1 (by omega)).mono ?_; rintro e w6 ⟨rfl, ea6, ec6, hk6, g6⟩; have HK6 := Lib.hid hk6; have HG6 := Lib.hid g6; clear hk6 g6)
    | fail "no arm")
   go_roundw
   case rel =>
    obtain ⟨a1, a2, a3, a4, a5⟩ := HA.out
    have hok' := HOK.out (k + 1)
    rw [a4] at hok'
    refine ⟨k + 1, Bl H la5 ea6, by omega, Lib.hid ?_, Lib.hid (HG.out.trans (HG5.out.trans HG6.out))⟩
    rw [a4]
    exact bg_ended HK6.out a1 a2 m1 a3 hok'
   case measure =>
    obtain ⟨a1, a2, a3, a4, a5⟩ := HA.out
    rw [a5]
    unfold liveC
    rw [HK6.out.c0]
    simp
  ·have hd0 : b.live.drop k = [] := List.drop_eq_nil_of_le (by rw [← HN.out]; omega)
   rw [hlk, hd0] at HZ
   have hd : decide (([] : List Wn).length = 0) = true := rfl
   rw [hd] at HZ
   have HE : Hid (doneP s.t b k = doneB s.t b) := Lib.hid (doneP_all s.t b (by rw [← HN.out]; omega))
   clear hb hen hs hok hkk n1 n2 n3 n4 n5 hL hlk hd0
   go_wp2_with (first
    | (go_at_call 276; refine HZ.out.mono ?_; rintro e w2 ⟨rfl, hw1⟩; rw [hw1]; clear hw1)
    | fail "no arm")
   go_end0
   have hfin := HB.out
   rw [HE.out] at hfin
   first | exact ⟨_, rfl, hfin, HG.out⟩ | exact ⟨rfl, _, hfin, HG.out⟩
set_option maxRecDepth 100000 in
set_option maxHeartbeats 4000000 in
theorem stop_bg (w : World) (H : Nat) (S : Nat → Prop) (s : Sv) (b : Bd) (h : BgAt H s b w S) :
 Calls Tryz.prog 273 #[.pointer (some ⟨H, 0, none⟩)] w fun e w' => ∃ S', e = .returned (.tuple #[]) ∧ BgAt H s (stopB (doneB s.t b) true) w' S' ∧ GrowS S S' w w' := by
 have HM : Hid (Calls Tryz.prog 275 #[.pointer (some ⟨H, 0, none⟩)] w fun e w' => e = .returned (.bool true) ∧ w' = w) := Lib.hid (by
  obtain ⟨la, ea, lc, ec, en, hk, _, _, hs, _⟩ := h
  exact made_yes w H s.t hk.c3 (by have := okSv_bd hs; omega))
 have HD := Lib.hid (done_bg w H S s b h)
 clear h
 go_enter Tryz.func273, Tryz.ntmps273
 go_wp2_with (first
  | (go_at_call 275; refine HM.out.mono ?_; rintro e w1 ⟨rfl, hw1⟩; rw [hw1]; clear hw1)
  | (go_at_call 268; refine HD.out.mono ?_; rintro e w2 ⟨S2, rfl, hk2, g2⟩; obtain ⟨la, ea, lc, ec, en, hk, hb, hen, hs, hok, rfl⟩ := hk2; have HA := Lib.hid (And.intro hk (And.intro hb (And.intro hen (And.intro hs hok)))); have HG2 := Lib.hid g2; have d5 := hk.c5; have f5 := hk.fz 5; clear hk hb hen hs hok g2)
  | fail "no arm")
 go_end0
 obtain ⟨a1, a2, a3, a4, a5⟩ := HA.out
 have hB : But H w2 (w2.setCell ⟨H, 5, none⟩ (.bool true)) := (But.refl H w2).set 5 _
 have hfin : BgAt H s (stopB (doneB s.t b) true) (w2.setCell ⟨H, 5, none⟩ (.bool true)) (Bl H la ea) := ⟨la, ea, lc, ec, en, a1.boxed (set_at a1.box) (fun q hq hqn => hB.block q hq hqn), a2, a3, a4, a5.stopped true, rfl⟩
 have hgr := HG2.out.trans (grow_but hB (S := Bl H la ea) (.inl rfl))
 first | exact ⟨_, rfl, hfin, hgr⟩ | exact ⟨rfl, _, hfin, hgr⟩
set_option maxRecDepth 100000 in
set_option maxHeartbeats 4000000 in
theorem resume_bg (w : World) (H : Nat) (S : Nat → Prop) (s : Sv) (b : Bd) (h : BgAt H s b w S) :
 Calls Tryz.prog 272 #[.pointer (some ⟨H, 0, none⟩)] w fun e w' => ∃ S', e = .returned (.tuple #[]) ∧ BgAt H s (stopB b false) w' S' ∧ GrowS S S' w w' := by
 obtain ⟨la, ea, lc, ec, en, hk, hb, hen, hs, hok, rfl⟩ := h
 have HM := Lib.hid (made_yes w H s.t hk.c3 (by have := okSv_bd hs; omega))
 have HA := Lib.hid (And.intro hk (And.intro hb (And.intro hen (And.intro hs hok))))
 have d5 := hk.c5
 have f5 := hk.fz 5
 clear hk hb hen hs hok
 go_enter Tryz.func272, Tryz.ntmps272
 go_wp2_with (first
  | (go_at_call 275; refine HM.out.mono ?_; rintro e w1 ⟨rfl, hw1⟩; rw [hw1]; clear hw1)
  | fail "no arm")
 go_end0
 obtain ⟨a1, a2, a3, a4, a5⟩ := HA.out
 have hB : But H w (w.setCell ⟨H, 5, none⟩ (.bool false)) := (But.refl H w).set 5 _
 have hfin : BgAt H s (stopB b false) (w.setCell ⟨H, 5, none⟩ (.bool false)) (Bl H la ea) := ⟨la, ea, lc, ec, en, a1.boxed (set_at a1.box) (fun q hq hqn => hB.block q hq hqn), a2, a3, a4, a5.stopped false, rfl⟩
 have hgr := grow_but hB (S := Bl H la ea) (.inl rfl)
 first | exact ⟨_, rfl, hfin, hgr⟩ | exact ⟨rfl, _, hfin, hgr⟩
set_option maxRecDepth 100000 in
set_option maxHeartbeats 4000000 in
theorem due_bg (w : World) (H : Nat) (S : Nat → Prop) (s : Sv) (b : Bd) (h : BgAt H s b w S) :
 Calls Tryz.prog 269 #[.pointer (some ⟨H, 0, none⟩)] w fun e w' => e = .returned (.tuple #[.int .i64 (dueV s.t b), .bool (useOk b)]) ∧ Below w.heap.size w w' := by
 obtain ⟨la, ea, lc, ec, en, hk, hb, hen, hs, hok, rfl⟩ := h
 have hsb := okSv_bd hs
 obtain ⟨n1, n2, n3, n4, n5⟩ := bd_nums hb hs hok hen
 have HM := Lib.hid (made_yes w H s.t hk.c3 (by omega))
 obtain ⟨f, lv, bk, st⟩ := b
 dsimp only at hk n5
 have HZ := Lib.hid (none_any w H _ lc la hk.c0)
 have hfd := Tryz.fieldChk0
 cases lv with
 | nil =>
   have hd : decide (([] : List Wn).length = 0) = true := rfl
   rw [hd] at HZ
   clear hk hb hen hs hok n1 n2 n3 n4 n5
   go_enter Tryz.func269, Tryz.ntmps269
   go_wp2_with (first
    | (go_at_call 275; refine HM.out.mono ?_; rintro e w1 ⟨rfl, hw1⟩; rw [hw1]; clear hw1)
    | (go_at_call 276; refine HZ.out.mono ?_; rintro e w2 ⟨rfl, hw1⟩; rw [hw1]; clear hw1)
    | fail "no arm")
   go_ret2
   exact ⟨rfl, Below.refl _ _⟩
 | cons x l =>
   obtain ⟨m1, m2, m3⟩ := n5 x (List.mem_cons_self ..)
   have hd : decide ((x :: l).length = 0) = false := by simp
   rw [hd] at HZ
   have HF := Lib.hid (first_ck w H s f st la ea lc ec x l en hk)
   have HK := Lib.hid hk
   clear hk hb hen hs hok n1 n2 n3 n4 n5
   go_enter Tryz.func269, Tryz.ntmps269
   go_wp2_with (first
    | (go_at_call 275; refine HM.out.mono ?_; rintro e w1 ⟨rfl, hw1⟩; rw [hw1]; clear hw1)
    | (go_at_call 276; refine HZ.out.mono ?_; rintro e w2 ⟨rfl, hw1⟩; rw [hw1]; clear hw1)
    | (go_at_call 280; refine HF.out.mono ?_; rintro e w3 ⟨rfl, hb3'⟩; have hb3 := Lib.hid hb3'; clear hb3')
    | (go_at_call 279; refine (due_any w3 H s.t x.at_ (HK.out.later hb3.out).c3 (by omega) m1).mono ?_; rintro e w4 ⟨rfl, hw1⟩; rw [hw1]; clear hw1)
    | fail "no arm")
   go_ret2
   exact ⟨rfl, hb3.out⟩
end Go.Proofs.YtchbehnkkcjdgaaGreat
namespace Go.Proofs.YtchbehnkkcjdgaaGreat
open Go.ChangeShapes Go.WideShapes Go.ChangeAt Go.RowKit
set_option linter.unusedVariables false
/-! ### Backs -/
/-! ### New, Reset -/
/-- The cells of a new budget. -/
def newC (re : Bool) (c t : Int) : Array Value := #[.slice none 0 0, .bool re, .int .i64 c, .int .i64 t, .int .i64 c, .bool false, .slice none 0 0]
set_option maxRecDepth 100000 in
theorem built_bud (re : Bool) (c t : Int) : Tryz.prog.built 252 [(1, .agg #[.bool re, .int .i64 c, .int .i64 t]), (2, .int .i64 c)] = some (newC re c t) := by kernel_rfl
theorem bg_new {w : World} {H : Nat} {s : Sv} (h : w.heap[H]? = some (.cells (newC s.re s.c s.t) 252 (0, 0))) (hs : okSv s = true) : BgAt H s (resetB s.c) w (Bl H none none) :=
 ⟨none, none, 0, 0, [], ⟨h, ORow.nil _ _ _, ORow.nil _ _ _, fun g hg => by cases hg⟩, rfl, (fun x hx => by cases hx), hs, BdOk.start (by have := okSv_bd hs; omega) _ _, rfl⟩
set_option maxRecDepth 100000 in
set_option maxHeartbeats 4000000 in
theorem new17_yes (s : Sv) (w : World) (hs : okSv s = true) : Calls Tryz.prog 142 #[.agg #[.bool s.re, .int .i64 s.c, .int .i64 s.t]] w fun e w' => ∃ H, e = .returned (.pointer (some ⟨H, 0, none⟩)) ∧ w'.heap[H]? = some (.cells (newC s.re s.c s.t) 252 (0, 0)) ∧ w.heap.size ≤ H ∧ Below w.heap.size w w' := by
 obtain ⟨re, c, t⟩ := s
 have HB := Lib.hid (built_bud re c t)
 have HS := Lib.hid hs
 obtain ⟨V, hV⟩ : ∃ V, V = w.alloc (.cells #[.bool re, .int .i64 c, .int .i64 t] 114) := ⟨_, rfl⟩
 obtain ⟨E, hE⟩ : ∃ E, E = w.heap.size := ⟨_, rfl⟩
 have hbV : Below w.heap.size w V := by rw [hV]; exact below1 _ _
 have hEV : V.heap[E]? = some (.cells #[.bool re, .int .i64 c, .int .i64 t] 114 (0, 0)) := by rw [hV, hE]; exact heap_alloc_new _ _
 have k0 : V.cell? ⟨E, 0, none⟩ = some (.bool re) := cell_in hEV rfl
 have k1 : V.cell? ⟨E, 1, none⟩ = some (.int .i64 c) := cell_in hEV rfl
 have k2 : V.cell? ⟨E, 2, none⟩ = some (.int .i64 t) := cell_in hEV rfl
 have KS : Hid (∀ W, Below V.heap.size V W → W.cell? ⟨E, 0, none⟩ = some (.bool re) ∧ W.cell? ⟨E, 1, none⟩ = some (.int .i64 c) ∧ W.cell? ⟨E, 2, none⟩ = some (.int .i64 t)) := Lib.hid (fun W hW => ⟨cell_later k0 hW, cell_later k1 hW, cell_later k2 hW⟩)
 have HV := Lib.hid hV
 have HE := Lib.hid hE
 have HBV := Lib.hid hbV
 clear hV hE hbV hEV hs
 go_enter Tryz.func142, Tryz.ntmps142
 go_upto_region 1 with fail
 rw [← HV.out, ← HE.out]
 go_wp2_with (first
  | (go_at_call 139; refine (serverRight_any re c t V).mono ?_; rintro e w2 ⟨rfl, hb2'⟩; rw [HS.out]; obtain ⟨y0, y1, y2⟩ := KS.out _ hb2'; have hb2 := Lib.hid hb2'; clear hb2')
  | (refine wpList_build3 (by rfl) 252 _ (by rfl) [(1, .agg #[.bool re, .int .i64 c, .int .i64 t]), (2, .int .i64 c)] (by rfl) _ HB.out ?_)
  | fail "no arm")
 go_ret
 have h2 := HBV.out.trans (hb2.out.mono HBV.out.size)
 exact ⟨w2.heap.size, rfl, heap_alloc_new _ _, h2.size, b_alloc h2 (Nat.le_refl _) _⟩
set_option maxRecDepth 100000 in
set_option maxHeartbeats 4000000 in
theorem new17_no (re : Bool) (c t : Int) (w : World) (hs : okSv ⟨re, c, t⟩ = false) : Calls Tryz.prog 142 #[.agg #[.bool re, .int .i64 c, .int .i64 t]] w fun e w' => e = .returned (.pointer none) ∧ Below w.heap.size w w' := by
 have HS := Lib.hid hs
 obtain ⟨V, hV⟩ : ∃ V, V = w.alloc (.cells #[.bool re, .int .i64 c, .int .i64 t] 114) := ⟨_, rfl⟩
 obtain ⟨E, hE⟩ : ∃ E, E = w.heap.size := ⟨_, rfl⟩
 have hbV : Below w.heap.size w V := by rw [hV]; exact below1 _ _
 have hEV : V.heap[E]? = some (.cells #[.bool re, .int .i64 c, .int .i64 t] 114 (0, 0)) := by rw [hV, hE]; exact heap_alloc_new _ _
 have k0 : V.cell? ⟨E, 0, none⟩ = some (.bool re) := cell_in hEV rfl
 have k1 : V.cell? ⟨E, 1, none⟩ = some (.int .i64 c) := cell_in hEV rfl
 have k2 : V.cell? ⟨E, 2, none⟩ = some (.int .i64 t) := cell_in hEV rfl
 have HV := Lib.hid hV
 have HE := Lib.hid hE
 have HBV := Lib.hid hbV
 clear hV hE hbV hEV hs
 go_enter Tryz.func142, Tryz.ntmps142
 go_upto_region 1 with fail
 rw [← HV.out, ← HE.out]
 go_wp2_with (first
  | (go_at_call 139; refine (serverRight_any re c t V).mono ?_; rintro e w2 ⟨rfl, hb2'⟩; rw [HS.out]; have hb2 := Lib.hid hb2'; clear hb2')
  | fail "no arm")
 go_ret
 exact ⟨rfl, HBV.out.trans (hb2.out.mono HBV.out.size)⟩
set_option maxRecDepth 100000 in
set_option maxHeartbeats 4000000 in
theorem reset_bg (w : World) (H : Nat) (S : Nat → Prop) (s : Sv) (b : Bd) (h : BgAt H s b w S) :
 Calls Tryz.prog 271 #[.pointer (some ⟨H, 0, none⟩)] w fun e w' => ∃ S', e = .returned (.tuple #[]) ∧ BgAt H s (resetB s.c) w' S' ∧ GrowS S S' w w' := by
 obtain ⟨la, ea, lc, ec, en, hk, hb, hen, hs, hok, rfl⟩ := h
 have HM := Lib.hid (made_yes w H s.t hk.c3 (by have := okSv_bd hs; omega))
 have HW := Lib.hid (new17_yes s w hs)
 have HK := Lib.hid hk
 have HS := Lib.hid hs
 have c1 : w.cell? ⟨H, 1, none⟩ = some (.bool s.re) := cell_in hk.box rfl
 have c2 : w.cell? ⟨H, 2, none⟩ = some (.int .i64 s.c) := cell_in hk.box rfl
 have c3 := hk.c3
 clear hk hb hen hs hok
 go_enter Tryz.func271, Tryz.ntmps271
 go_wp2_with (first
  | (go_at_call 275; refine HM.out.mono ?_; rintro e w1 ⟨rfl, hw1⟩; rw [hw1]; clear hw1)
  | (go_at_call 142; refine HW.out.mono ?_; rintro e w2 ⟨N, rfl, hN, hNb, hb2'⟩; have hkN := HK.out.later hb2'; have z0 : w2.cell? ⟨N, 0, none⟩ = some (.slice none 0 0) := cell_in hN rfl; have z1 : w2.cell? ⟨N, 1, none⟩ = some (.bool s.re) := cell_in hN rfl; have z2 : w2.cell? ⟨N, 2, none⟩ = some (.int .i64 s.c) := cell_in hN rfl; have z3 : w2.cell? ⟨N, 3, none⟩ = some (.int .i64 s.t) := cell_in hN rfl; have z4 : w2.cell? ⟨N, 4, none⟩ = some (.int .i64 s.c) := cell_in hN rfl; have z5 : w2.cell? ⟨N, 5, none⟩ = some (.bool false) := cell_in hN rfl; have z6 : w2.cell? ⟨N, 6, none⟩ = some (.slice none 0 0) := cell_in hN rfl; have y0 : w2.cell? ⟨H, 0, none⟩ = some (.slice la b.live.length lc) := cell_in hkN.box rfl; have f0 := hkN.fz 0; have y1 : w2.cell? ⟨H, 1, none⟩ = some (.bool s.re) := cell_in hkN.box rfl; have f1 := hkN.fz 1; have y2 : w2.cell? ⟨H, 2, none⟩ = some (.int .i64 s.c) := cell_in hkN.box rfl; have f2 := hkN.fz 2; have y3 : w2.cell? ⟨H, 3, none⟩ = some (.int .i64 s.t) := cell_in hkN.box rfl; have f3 := hkN.fz 3; have y4 : w2.cell? ⟨H, 4, none⟩ = some (.int .i64 b.free) := cell_in hkN.box rfl; have f4 := hkN.fz 4; have y5 : w2.cell? ⟨H, 5, none⟩ = some (.bool b.stop) := cell_in hkN.box rfl; have f5 := hkN.fz 5; have y6 : w2.cell? ⟨H, 6, none⟩ = some (.slice ea en.length ec) := cell_in hkN.box rfl; have f6 := hkN.fz 6; have hb2 := Lib.hid hb2'; have HN2 := Lib.hid hN; have HKN := Lib.hid hkN; clear hb2' hN hkN)
  | fail "no arm")
 go_end0
 obtain ⟨Y, hY⟩ : ∃ Y, Y = ((((((w2.setCell ⟨H, 0, none⟩ (.slice none 0 0)).setCell ⟨H, 1, none⟩ (.bool s.re)).setCell ⟨H, 2, none⟩ (.int .i64 s.c)).setCell ⟨H, 3, none⟩ (.int .i64 s.t)).setCell ⟨H, 4, none⟩ (.int .i64 s.c)).setCell ⟨H, 5, none⟩ (.bool false)).setCell ⟨H, 6, none⟩ (.slice none 0 0) := ⟨_, rfl⟩
 have hB : But H w2 Y := by rw [hY]; exact (((((((But.refl H w2).set 0 _).set 1 _).set 2 _).set 3 _).set 4 _).set 5 _).set 6 _
 have hH : Y.heap[H]? = some (.cells (newC s.re s.c s.t) 252 (0, 0)) := by
  rw [hY]
  exact set_at (set_at (set_at (set_at (set_at (set_at (set_at HKN.out.box))))))
 have hfin := bg_new hH HS.out
 have hg := (GrowS.of_below (S := Bl H la ea) hb2.out).trans (grow_but hB (S := Bl H la ea) (.inl rfl))
 have hgr : GrowS (Bl H la ea) (Bl H none none) w Y := ⟨hg.os, hg.tape, hg.output, hg.size, hg.block, fun k hk => .inl (hk.elim .inl (fun h => by rcases h with h | h <;> cases h))⟩
 rw [← hY]
 first | exact ⟨_, rfl, hfin, hgr⟩ | exact ⟨rfl, _, hfin, hgr⟩
/-! ### the contracts -/
def chunkOk : ChunkOk where
 Bg := BgAt
 own := bg_own
 bd := by
  rintro w H S s b ⟨la, ea, lc, ec, en, hk, hb, hen, hs, hok, rfl⟩
  exact ⟨hs, hok⟩
 new_yes := fun re c t w hs => (new17_yes ⟨re, c, t⟩ w hs).mono (by
  rintro e w' ⟨H, rfl, h1, h2, h3⟩
  refine ⟨H, Bl H none none, rfl, bg_new (s := ⟨re, c, t⟩) h1 hs, fun k hk => ?_, h3⟩
  rcases hk with rfl | h | h
  ·exact h2
  ·cases h
  ·cases h)
 new_no := new17_no
 go := fun w H S s b now busy h0 h1 h => go_bg w H S s b now busy h0 h1 h
 use := fun w H S s b h => use_bg w H S s b h
 done_ := fun w H S s b h => done_bg w H S s b h
 stop := fun w H S s b h => stop_bg w H S s b h
 resume := fun w H S s b h => resume_bg w H S s b h
 reset := fun w H S s b h => reset_bg w H S s b h
 due := fun w H S s b h => due_bg w H S s b h
end Go.Proofs.YtchbehnkkcjdgaaGreat
