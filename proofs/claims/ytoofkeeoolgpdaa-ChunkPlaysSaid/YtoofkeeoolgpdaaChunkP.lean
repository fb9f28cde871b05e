/- The program's budget in memory; made, due, none, first, use, take. -/
import Derived.Test.YtoofkeeoolgpdaaChunkC
import Derived.Test.YtoofkeeoolgpdaaOff
import Derived.BigQuiet
import Derived.BigRegion
namespace Go.Proofs.Ytoofkeeoolgpdaa
open Go.ChangeShapes Go.WideShapes Go.ChangeAt Go.RowKit
set_option linter.unusedVariables false

/-- The block of a row. -/
def ob (a : Option Addr) : Option Nat := a.map (·.block)
theorem own_ob (a : Option Addr) (n c : Nat) : (Value.slice a n c).ownBlock = ob a := by cases a <;> rfl
/-- What a budget has in memory: its box H, its live chunks, and those that ended. -/
structure CkB (w : World) (H : Nat) (s : Sv) (f : Int) (st : Bool) (la : Option Addr) (lc : Nat) (lv : List Wn) (ea : Option Addr) (ec : Nat) (en : List Wn) : Prop where
  box : w.heap[H]? = some (.cells #[.slice la lv.length lc, .bool s.re, .int .i64 s.c, .int .i64 s.t, .int .i64 f, .bool st, .slice ea en.length ec] 57 (0, 0))
  l : ORow w 45 3 (.slice la lv.length lc) lv.length (lv.flatMap Wn.cells)
  e : ORow w 45 3 (.slice ea en.length ec) en.length (en.flatMap Wn.cells)
  d : ∀ g, ob la = some g → ob ea ≠ some g
/-- Its blocks. -/
def Bl (H : Nat) (la ea : Option Addr) : Nat → Prop := fun k => k = H ∨ ob la = some k ∨ ob ea = some k
section
variable {w w' : World} {H : Nat} {s : Sv} {f f' : Int} {st st' : Bool} {la ea : Option Addr} {lc ec : Nat} {lv en : List Wn}
theorem CkB.ll (h : CkB w H s f st la lc lv ea ec en) : ∀ g, ob la = some g → g < w.heap.size ∧ g ≠ H := fun g hg => by
  have h1 := h.l.kind g (by rw [own_ob]; exact hg)
  obtain ⟨cs, hc⟩ := h1
  refine ⟨lt_of_block hc, fun e => ?_⟩
  subst e
  have := h.box
  rw [hc] at this
  simp at this
theorem CkB.le (h : CkB w H s f st la lc lv ea ec en) : ∀ g, ob ea = some g → g < w.heap.size ∧ g ≠ H := fun g hg => by
  have h1 := h.e.kind g (by rw [own_ob]; exact hg)
  obtain ⟨cs, hc⟩ := h1
  refine ⟨lt_of_block hc, fun e => ?_⟩
  subst e
  have := h.box
  rw [hc] at this
  simp at this
theorem CkB.lt (h : CkB w H s f st la lc lv ea ec en) : ∀ k, Bl H la ea k → k < w.heap.size := by
  rintro k (rfl | hk | hk)
  · exact lt_of_block h.box
  · exact (h.ll k hk).1
  · exact (h.le k hk).1
theorem CkB.hold (h : CkB w H s f st la lc lv ea ec en) (hs : ∀ k, Bl H la ea k → w'.heap[k]? = w.heap[k]?) : CkB w' H s f st la lc lv ea ec en :=
  ⟨(hs H (.inl rfl)).trans h.box, h.l.hold (fun g hg => hs g (.inr (.inl (by rwa [own_ob] at hg)))), h.e.hold (fun g hg => hs g (.inr (.inr (by rwa [own_ob] at hg)))), h.d⟩
theorem CkB.later (h : CkB w H s f st la lc lv ea ec en) (hb : Below w.heap.size w w') : CkB w' H s f st la lc lv ea ec en := h.hold fun k hk => hb.block k (h.lt k hk)
/-- Another box, the same rows. -/
theorem CkB.boxed (h : CkB w H s f st la lc lv ea ec en) (hb : w'.heap[H]? = some (.cells #[.slice la lv.length lc, .bool s.re, .int .i64 s.c, .int .i64 s.t, .int .i64 f', .bool st', .slice ea en.length ec] 57 (0, 0))) (hs : ∀ k, k < w.heap.size → k ≠ H → w'.heap[k]? = w.heap[k]?) : CkB w' H s f' st' la lc lv ea ec en :=
  ⟨hb, h.l.hold (fun g hg => by rw [own_ob] at hg; exact hs g (h.ll g hg).1 (h.ll g hg).2), h.e.hold (fun g hg => by rw [own_ob] at hg; exact hs g (h.le g hg).1 (h.le g hg).2), h.d⟩
theorem CkB.c0 (h : CkB w H s f st la lc lv ea ec en) : w.cell? ⟨H, 0, none⟩ = some (.slice la lv.length lc) := cell_in h.box rfl
theorem CkB.c3 (h : CkB w H s f st la lc lv ea ec en) : w.cell? ⟨H, 3, none⟩ = some (.int .i64 s.t) := cell_in h.box rfl
theorem CkB.c4 (h : CkB w H s f st la lc lv ea ec en) : w.cell? ⟨H, 4, none⟩ = some (.int .i64 f) := cell_in h.box rfl
theorem CkB.c5 (h : CkB w H s f st la lc lv ea ec en) : w.cell? ⟨H, 5, none⟩ = some (.bool st) := cell_in h.box rfl
theorem CkB.c6 (h : CkB w H s f st la lc lv ea ec en) : w.cell? ⟨H, 6, none⟩ = some (.slice ea en.length ec) := cell_in h.box rfl
theorem CkB.fz (h : CkB w H s f st la lc lv ea ec en) (j : Nat) : w.frozen? ⟨H, j, none⟩ = false := free_in h.box j
end
theorem wn_len (x : Wn) : x.cells.length = 3 := rfl
theorem set3c {w : World} {X : Nat} {T : TypeId} {cs : Array Value} (h : w.heap[X]? = some (.cells cs T (0, 0))) (hs : cs.size = 3) (v0 v1 v2 : Value) :
    (((w.setCell ⟨X, 0, none⟩ v0).setCell ⟨X, 1, none⟩ v1).setCell ⟨X, 2, none⟩ v2).heap[X]? = some (.cells #[v0, v1, v2] T (0, 0)) := by
  have h3 := set_at (j := 2) (u := v2) (set_at (j := 1) (u := v1) (set_at (j := 0) (u := v0) h))
  rw [h3]
  match cs, hs with
  | ⟨[a, b, c]⟩, _ => rfl
theorem Try.sizeChk : (Try.prog.info? 45).map (·.size) = some 3 := by kernel_rfl
set_option maxRecDepth 100000 in
set_option maxHeartbeats 4000000 in
theorem made_yes (w : World) (H : Nat) (t : Int) (b3 : w.cell? ⟨H, 3, none⟩ = some (.int .i64 t)) (ht : 1 ≤ t) : Calls Try.prog 29 #[.pointer (some ⟨H, 0, none⟩)] w fun e w' => e = .returned (.bool true) ∧ w' = w := by
  have t0 : decide (0 < t) = true := decide_eq_true (by omega)
  go_enter Try.func29, Try.ntmps29
  go_wp2
  go_ret
  exact ⟨rfl, rfl⟩
set_option maxRecDepth 100000 in
set_option maxHeartbeats 4000000 in
theorem made_nil (w : World) : Calls Try.prog 29 #[.pointer none] w fun e w' => e = .returned (.bool false) ∧ w' = w := by
  go_enter Try.func29, Try.ntmps29
  go_wp2
  go_ret
  exact ⟨rfl, rfl⟩
set_option maxRecDepth 100000 in
set_option maxHeartbeats 4000000 in
theorem made_zero (w : World) (H : Nat) (b3 : w.cell? ⟨H, 3, none⟩ = some (.int .i64 0)) : Calls Try.prog 29 #[.pointer (some ⟨H, 0, none⟩)] w fun e w' => e = .returned (.bool false) ∧ w' = w := by
  go_enter Try.func29, Try.ntmps29
  go_wp2
  go_ret
  exact ⟨rfl, rfl⟩
set_option maxRecDepth 100000 in
set_option maxHeartbeats 4000000 in
theorem due_any (w : World) (H : Nat) (t x : Int) (b3 : w.cell? ⟨H, 3, none⟩ = some (.int .i64 t)) (ht : 1 ≤ t ∧ t ≤ 1000) (hx : 0 ≤ x ∧ x ≤ 1099511627776) : Calls Try.prog 38 #[.pointer (some ⟨H, 0, none⟩), .int .i64 x] w fun e w' => e = .returned (.int .i64 (x + t)) ∧ w' = w := by
  go_enter Try.func38, Try.ntmps38
  go_wp2
  go_ret
  exact ⟨rfl, rfl⟩
set_option maxRecDepth 100000 in
set_option maxHeartbeats 4000000 in
theorem none_any (w : World) (H n c : Nat) (a : Option Addr) (b0 : w.cell? ⟨H, 0, none⟩ = some (.slice a n c)) : Calls Try.prog 32 #[.pointer (some ⟨H, 0, none⟩)] w fun e w' => e = .returned (.bool (decide (n = 0))) ∧ w' = w := by
  have t0 : ((n : Int) == 0) = decide (n = 0) := by
    rw [Bool.eq_iff_iff]; simp
  go_enter Try.func32, Try.ntmps32
  go_wp2
  go_ret
  exact ⟨rfl, rfl⟩
set_option maxRecDepth 100000 in
set_option maxHeartbeats 4000000 in
theorem first_any (w : World) (H n c g off : Nat) (x0 x1 x2 : Int) (b0 : w.cell? ⟨H, 0, none⟩ = some (.slice (some ⟨g, off, none⟩) n c)) (hn : 0 < n) (g0 : w.cell? ⟨g, off, none⟩ = some (.int .i64 x0)) (g1 : w.cell? ⟨g, off + 1, none⟩ = some (.int .i64 x1)) (g2 : w.cell? ⟨g, off + 2, none⟩ = some (.int .i64 x2)) :
    Calls Try.prog 34 #[.pointer (some ⟨H, 0, none⟩)] w fun e w' => e = .returned (.agg #[.int .i64 x0, .int .i64 x1, .int .i64 x2]) ∧ Below w.heap.size w w' := by
  have l1 : (0 : Int) < (n : Int) := by omega
  obtain ⟨V, hV⟩ : ∃ V, V = w.alloc (.cells #[.int .i64 0, .int .i64 0, .int .i64 0] 45) := ⟨_, rfl⟩
  obtain ⟨E, hE⟩ : ∃ E, E = w.heap.size := ⟨_, rfl⟩
  have hbV : Below w.heap.size w V := by rw [hV]; exact below1 _ _
  have hEV : V.heap[E]? = some (.cells #[.int .i64 0, .int .i64 0, .int .i64 0] 45 (0, 0)) := by rw [hV, hE]; exact heap_alloc_new _ _
  have k0 : V.cell? ⟨E, 0, none⟩ = some (.int .i64 0) := cell_in hEV rfl
  have k1 : V.cell? ⟨E, 1, none⟩ = some (.int .i64 0) := cell_in hEV rfl
  have k2 : V.cell? ⟨E, 2, none⟩ = some (.int .i64 0) := cell_in hEV rfl
  have y0 := free_in hEV 0
  have y1 := free_in hEV 1
  have y2 := free_in hEV 2
  have b0' : V.cell? ⟨H, 0, none⟩ = some (.slice (some ⟨g, off, none⟩) n c) := by rw [hV]; exact Lib.cell?_alloc_some _ b0
  have g0' : V.cell? ⟨g, off, none⟩ = some (.int .i64 x0) := by rw [hV]; exact Lib.cell?_alloc_some _ g0
  have g1' : V.cell? ⟨g, off + 1, none⟩ = some (.int .i64 x1) := by rw [hV]; exact Lib.cell?_alloc_some _ g1
  have g2' : V.cell? ⟨g, off + 2, none⟩ = some (.int .i64 x2) := by rw [hV]; exact Lib.cell?_alloc_some _ g2
  have HV := Lib.hid hV
  have HE := Lib.hid hE
  have HEV := Lib.hid hEV
  have HBV := Lib.hid hbV
  clear hV hE hEV hbV b0 g0 g1 g2
  go_enter Try.func34, Try.ntmps34
  go_upto_region 1 with fail
  rw [← HV.out, ← HE.out]
  go_wp2
  have hX := set3c HEV.out rfl (.int .i64 x0) (.int .i64 x1) (.int .i64 x2)
  refine bodyPost_ret (results_cell_row (P := Try.prog) rfl _ _ E _ _ (0, 0) _ rfl hX Try.underlying45 rfl Try.sizeChk) rfl ?_
  exact ⟨rfl, ((HBV.out.setCell (p := ⟨E, 0, none⟩) (by rw [HE.out]; exact Nat.le_refl _) _).setCell (p := ⟨E, 1, none⟩) (by rw [HE.out]; exact Nat.le_refl _) _).setCell (p := ⟨E, 2, none⟩) (by rw [HE.out]; exact Nat.le_refl _) _⟩
set_option maxRecDepth 100000 in
set_option maxHeartbeats 4000000 in
theorem use_any0 (w : World) (H n c g off : Nat) (x1 x2 : Int) (b0 : w.cell? ⟨H, 0, none⟩ = some (.slice (some ⟨g, off, none⟩) n c)) (hn : 0 < n) (g1 : w.cell? ⟨g, off + 1, none⟩ = some (.int .i64 x1)) (g2 : w.cell? ⟨g, off + 2, none⟩ = some (.int .i64 x2)) (f1 : w.frozen? ⟨g, off + 1, none⟩ = false) (f2 : w.frozen? ⟨g, off + 2, none⟩ = false) (hne : g ≠ H) (h1 : 0 ≤ x1 ∧ x1 ≤ 1000) (h2 : 0 ≤ x2 ∧ x2 ≤ 1000) :
    Calls Try.prog 33 #[.pointer (some ⟨H, 0, none⟩)] w fun e w' => e = .returned (.tuple #[]) ∧ w' = (w.setCell ⟨g, off + 1, none⟩ (.int .i64 (x1 - 1))).setCell ⟨g, off + 2, none⟩ (.int .i64 (x2 + 1)) := by
  have l1 : (0 : Int) < (n : Int) := by omega
  have e1 : IntKind.i64.wrap (x1 - 1) = x1 - 1 := IntWalk.i64_in _ (by omega)
  have e2 : IntKind.i64.wrap (x2 + 1) = x2 + 1 := IntWalk.i64_in _ (by omega)
  have hne2 : H ≠ g := fun e => hne e.symm
  go_enter Try.func33, Try.ntmps33
  go_wp2
  go_end0
  exact ⟨rfl, rfl⟩
/-- A row's first one. -/
theorem orow_head {w : World} {a : Option Addr} {n c : Nat} {x : Wn} {l : List Wn} (h : ORow w 45 3 (.slice a n c) n ((x :: l).flatMap Wn.cells)) (hn : 0 < n) : ∃ g off, a = some ⟨g, off, none⟩ ∧ w.cell? ⟨g, off, none⟩ = some (.int .i64 x.at_) ∧ w.cell? ⟨g, off + 1, none⟩ = some (.int .i64 x.len) ∧ w.cell? ⟨g, off + 2, none⟩ = some (.int .i64 x.part) ∧ (∀ j, w.frozen? ⟨g, j, none⟩ = false) := by
  obtain ⟨g, off, rfl, hc, hf, _⟩ := h.at_ hn
  exact ⟨g, off, rfl, hc 0 _ (by simp [Wn.cells]), hc 1 _ (by simp [Wn.cells]), hc 2 _ (by simp [Wn.cells]), hf⟩
/-- Only blocks of S are written; none is made. -/
theorem first_ck (w : World) (H : Nat) (s : Sv) (f : Int) (st : Bool) (la ea : Option Addr) (lc ec : Nat) (x : Wn) (l en : List Wn) (h : CkB w H s f st la lc (x :: l) ea ec en) : Calls Try.prog 34 #[.pointer (some ⟨H, 0, none⟩)] w fun e w' => e = .returned (.agg #[.int .i64 x.at_, .int .i64 x.len, .int .i64 x.part]) ∧ Below w.heap.size w w' := by
  obtain ⟨g, off, rfl, g0, g1, g2, _⟩ := orow_head h.l (by simp)
  exact first_any w H _ lc g off _ _ _ h.c0 (by simp) g0 g1 g2
theorem use_ck (w : World) (H : Nat) (s : Sv) (f : Int) (st : Bool) (la ea : Option Addr) (lc ec : Nat) (x : Wn) (l en : List Wn) (h : CkB w H s f st la lc (x :: l) ea ec en) (h1 : 0 ≤ x.len ∧ x.len ≤ 1000) (h2 : 0 ≤ x.part ∧ x.part ≤ 1000) :
    Calls Try.prog 33 #[.pointer (some ⟨H, 0, none⟩)] w fun e w' => e = .returned (.tuple #[]) ∧ CkB w' H s f st la lc (⟨x.at_, x.len - 1, x.part + 1⟩ :: l) ea ec en ∧ GrowS (Bl H la ea) (Bl H la ea) w w' := by
  obtain ⟨g, off, rfl, g0, g1, g2, hf⟩ := orow_head h.l (by simp)
  have hne := (h.ll g rfl).2
  refine (use_any0 w H _ lc g off _ _ h.c0 (by simp) g1 g2 (hf _) (hf _) hne h1 h2).mono ?_
  rintro e w' ⟨rfl, rfl⟩
  have hB : But g w ((w.setCell ⟨g, off + 1, none⟩ (.int .i64 (x.len - 1))).setCell ⟨g, off + 2, none⟩ (.int .i64 (x.part + 1))) := ((But.refl g w).set (off + 1) _).set (off + 2) _
  have hz : ((w.setCell ⟨g, off + 1, none⟩ (.int .i64 (x.len - 1))).setCell ⟨g, off + 2, none⟩ (.int .i64 (x.part + 1))).heap.size = w.heap.size := by simp
  refine ⟨rfl, ⟨(hB.block H (lt_of_block h.box) (fun e => hne e.symm)).trans h.box, ?_, h.e.hold (fun k hk => ?_), h.d⟩, ⟨hB.os, hB.tape, hB.output, hB.size, fun k hk hn => hB.block k hk (fun e => hn (by subst e; exact .inr (.inl rfl))), fun k hk => .inl hk⟩⟩
  · have := (h.l.set (j := 1) (by simp; omega) (.int .i64 (x.len - 1))).set (j := 2) (by simp; omega) (.int .i64 (x.part + 1))
    simpa [Wn.cells] using this
  · rw [own_ob] at hk
    exact hB.block k (h.le k hk).1 (fun e => h.d g rfl (by rw [← e]; exact hk))
set_option maxRecDepth 100000 in
set_option maxHeartbeats 4000000 in
theorem take_ck (w : World) (H : Nat) (s : Sv) (f : Int) (st : Bool) (la ea : Option Addr) (lc ec : Nat) (x : Wn) (l en : List Wn) (h : CkB w H s f st la lc (x :: l) ea ec en) :
    Calls Try.prog 36 #[.pointer (some ⟨H, 0, none⟩)] w fun e w' => e = .returned (.agg #[.int .i64 x.at_, .int .i64 x.len, .int .i64 x.part]) ∧ ∃ la' lc', CkB w' H s f st la' lc' l ea ec en ∧ ob la' = ob la ∧ GrowS (Bl H la ea) (Bl H la' ea) w w' := by
  obtain ⟨n, hn⟩ : ∃ n, n = (x :: l).length := ⟨_, rfl⟩
  have hn1 : 0 < n := by rw [hn]; simp
  have hl0 := h.l
  rw [← hn] at hl0
  obtain ⟨a', hs', hl', ho'⟩ := hl0.cut hn1
  obtain ⟨x0, x1, x2⟩ := x
  obtain ⟨V, hV⟩ : ∃ V, V = w.alloc (.cells #[.int .i64 0, .int .i64 0, .int .i64 0] 45) := ⟨_, rfl⟩
  obtain ⟨E, hE⟩ : ∃ E, E = w.heap.size := ⟨_, rfl⟩
  have hbV : Below w.heap.size w V := by rw [hV]; exact below1 _ _
  have hEV : V.heap[E]? = some (.cells #[.int .i64 0, .int .i64 0, .int .i64 0] 45 (0, 0)) := by rw [hV, hE]; exact heap_alloc_new _ _
  have HQ := Lib.hid (first_ck V H s f st la ea lc ec _ l en (h.later hbV))
  have HK := Lib.hid (h.later hbV)
  have HW := Lib.hid h
  have HV := Lib.hid hV
  have HE := Lib.hid hE
  have HEV := Lib.hid hEV
  have HBV := Lib.hid hbV
  have HN := Lib.hid hn
  have HS := Lib.hid hs'
  have HL := Lib.hid hl'
  have HO := Lib.hid ho'
  have l1 : (1 : Int) ≤ (n : Int) := by omega
  clear hV hE hEV hbV h hl0 hl' ho' hs' hn hn1
  go_enter Try.func36, Try.ntmps36
  go_upto_region 1 with fail
  rw [← HV.out, ← HE.out]
  go_upto_region 2 with (first
    | (go_at_call 34; refine HQ.out.mono ?_; rintro e w1 ⟨rfl, hb1'⟩; have hb1 := Lib.hid hb1'; clear hb1')
    | fail "no arm")
  obtain ⟨U, hU⟩ : ∃ U, U = w1.alloc (.cells #[.int .i64 x0, .int .i64 x1, .int .i64 x2] 45) := ⟨_, rfl⟩
  obtain ⟨F, hF⟩ : ∃ F, F = w1.heap.size := ⟨_, rfl⟩
  have hkU : CkB U H s f st la lc (⟨x0, x1, x2⟩ :: l) ea ec en := by rw [hU]; exact (HK.out.later hb1.out).later (below1 _ _)
  have hFU : U.heap[F]? = some (.cells #[.int .i64 x0, .int .i64 x1, .int .i64 x2] 45 (0, 0)) := by rw [hU, hF]; exact heap_alloc_new _ _
  have b0 := hkU.c0
  rw [← HN.out] at b0
  have f0 := hkU.fz 0
  have HU := Lib.hid hU
  have HF := Lib.hid hF
  clear hU hF
  rw [← HU.out, ← HF.out]
  go_upto_region 3 with fail
  rw [HS.out]
  obtain ⟨Y, hY⟩ : ∃ Y, Y = U.setCell ⟨H, 0, none⟩ (.slice a' (n - 1) (lc - 1)) := ⟨_, rfl⟩
  have hEH : E ≠ H := fun e => by have := lt_of_block HW.out.box; rw [← e, HE.out] at this; omega
  have hFH : F ≠ H := fun e => by have := lt_of_block (HK.out.later hb1.out).box; rw [← e, HF.out] at this; omega
  have hUB : Below w.heap.size w U := by rw [HU.out]; exact b_alloc (HBV.out.trans (hb1.out.mono HBV.out.size)) (by have := HBV.out.size; have := hb1.out.size; omega) _
  have hEU : U.heap[E]? = some (.cells #[.int .i64 0, .int .i64 0, .int .i64 0] 45 (0, 0)) := by
    have h1 := hb1.out.block E (lt_of_block HEV.out)
    rw [HU.out]
    exact ((below1 w1 _).block E (Nat.lt_of_lt_of_le (lt_of_block HEV.out) hb1.out.size)).trans (h1.trans HEV.out)
  have hBH : But H U Y := by rw [hY]; exact (But.refl H U).set 0 _
  have hFY : Y.heap[F]? = _ := hBH.at hFU hFH
  have hEY : Y.heap[E]? = _ := hBH.at hEU hEH
  have hbY := set_at (j := 0) (u := .slice a' (n - 1) (lc - 1)) hkU.box
  rw [← hY] at hbY
  have z0 := cell_in (j := 0) hFY rfl
  have z1 := cell_in (j := 1) hFY rfl
  have z2 := cell_in (j := 2) hFY rfl
  have k0 := cell_in (j := 0) hEY rfl
  have k1 := cell_in (j := 1) hEY rfl
  have k2 := cell_in (j := 2) hEY rfl
  have y0 := free_in hEY 0
  have y1 := free_in hEY 1
  have y2 := free_in hEY 2
  have HY := Lib.hid hY
  have HEY := Lib.hid hEY
  have HHY := Lib.hid hbY
  have HBH := Lib.hid hBH
  have HKU := Lib.hid hkU
  have HUB := Lib.hid hUB
  clear hY hEY hFY hbY hBH hkU hUB hEU hFU b0 f0
  rw [← HY.out]
  go_wp2
  have hX := set3c HEY.out rfl (.int .i64 x0) (.int .i64 x1) (.int .i64 x2)
  refine bodyPost_ret (results_cell_row (P := Try.prog) rfl _ _ E _ _ (0, 0) _ rfl hX Try.underlying45 rfl Try.sizeChk) rfl ?_
  clear z0 z1 z2 k0 k1 k2 y0 y1 y2
  have hBE : But E Y _ := (((But.refl E Y).set 0 (.int .i64 x0)).set 1 (.int .i64 x1)).set 2 (.int .i64 x2)
  have hkU := HKU.out
  have hzY : Y.heap.size = U.heap.size := by rw [HY.out]; simp
  have hold : ∀ k, k < w.heap.size → k ≠ H → (((Y.setCell ⟨E, 0, none⟩ (.int .i64 x0)).setCell ⟨E, 1, none⟩ (.int .i64 x1)).setCell ⟨E, 2, none⟩ (.int .i64 x2)).heap[k]? = w.heap[k]? := fun k hk hkH => by
    have s1 := HUB.out.size
    rw [hBE.block k (by omega) (by rw [HE.out]; omega), HBH.out.block k (by omega) hkH, HUB.out.block k hk]
  have hnl : n - 1 = l.length := by rw [HN.out]; simp
  have ho : ob a' = ob la := by have := HO.out; rw [own_ob, own_ob] at this; exact this
  have hll := HL.out
  rw [show List.drop 3 (List.flatMap Wn.cells ((⟨x0, x1, x2⟩ : Wn) :: l)) = l.flatMap Wn.cells from rfl, hnl] at hll
  refine ⟨rfl, a', lc - 1, ⟨?_, ?_, ?_, ?_⟩, ho, ⟨hBE.os.trans (HBH.out.os.trans HUB.out.os), hBE.tape.trans (HBH.out.tape.trans HUB.out.tape), hBE.output.trans (HBH.out.output.trans HUB.out.output), ?_, ?_, ?_⟩⟩
  · refine (hBE.block H (lt_of_block HHY.out) (fun e => hEH e.symm)).trans ?_
    rw [HHY.out, hnl]
    rfl
  · refine hll.hold (fun g hg => ?_)
    rw [own_ob, ho] at hg
    exact hold g (HW.out.ll g hg).1 (HW.out.ll g hg).2
  · refine HW.out.e.hold (fun g hg => ?_)
    rw [own_ob] at hg
    exact hold g (HW.out.le g hg).1 (HW.out.le g hg).2
  · rw [ho]; exact HW.out.d
  · have s1 := HUB.out.size; have s2 := hBE.size; omega
  · exact fun k hk hn => hold k hk (fun e => hn (.inl e))
  · rintro k (hk | hk | hk)
    · exact .inl (.inl hk)
    · rw [ho] at hk; exact .inl (.inr (.inl hk))
    · exact .inl (.inr (.inr hk))
end Go.Proofs.Ytoofkeeoolgpdaa
