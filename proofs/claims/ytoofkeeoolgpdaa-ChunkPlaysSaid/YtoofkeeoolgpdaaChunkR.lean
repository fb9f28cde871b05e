/- The document's budget in memory; New, Due, Reset. -/
import Derived.Test.YtoofkeeoolgpdaaChunkM
import Derived.Test.YtoofkeeoolgpdaaOff
import Derived.Test.YtoofkeeoolgpdaaRights
import Derived.Test.YtoofkeeoolgpdaaBuild
import Derived.Test.YtoofkeeoolgpdaaChunkP
import Derived.BigQuiet
import Derived.BigRegion
namespace Go.Proofs.Ytoofkeeoolgpdaa
open Go.ChangeShapes Go.WideShapes Go.ChangeAt Go.RowKit
set_option linter.unusedVariables false

/-- What a budget has in memory: its box H, its live chunks, and those that ended. -/
structure CrB (w : World) (H : Nat) (s : Sv) (f : Int) (st : Bool) (la : Option Addr) (lc : Nat) (lv : List Wn) (ea : Option Addr) (ec : Nat) (en : List Bk) : Prop where
  box : w.heap[H]? = some (.cells #[.bool s.re, .int .i64 s.c, .int .i64 s.t, .int .i64 f, .slice la lv.length lc, .slice ea en.length ec, .bool st] 37 (0, 0))
  l : ORow w 63 3 (.slice la lv.length lc) lv.length (lv.flatMap Wn.cells)
  e : ORow w 62 2 (.slice ea en.length ec) en.length (en.flatMap Bk.cells)
  d : ∀ g, ob la = some g → ob ea ≠ some g
/-- Its blocks. -/
def Rl (H : Nat) (la ea : Option Addr) : Nat → Prop := fun k => k = H ∨ ob la = some k ∨ ob ea = some k
section
variable {w w' : World} {H : Nat} {s : Sv} {f f' : Int} {st st' : Bool} {la ea : Option Addr} {lc ec : Nat} {lv : List Wn} {en : List Bk}
theorem CrB.ll (h : CrB w H s f st la lc lv ea ec en) : ∀ g, ob la = some g → g < w.heap.size ∧ g ≠ H := fun g hg => by
  have h1 := h.l.kind g (by rw [own_ob]; exact hg)
  obtain ⟨cs, hc⟩ := h1
  refine ⟨lt_of_block hc, fun e => ?_⟩
  subst e
  have := h.box
  rw [hc] at this
  simp at this
theorem CrB.le (h : CrB w H s f st la lc lv ea ec en) : ∀ g, ob ea = some g → g < w.heap.size ∧ g ≠ H := fun g hg => by
  have h1 := h.e.kind g (by rw [own_ob]; exact hg)
  obtain ⟨cs, hc⟩ := h1
  refine ⟨lt_of_block hc, fun e => ?_⟩
  subst e
  have := h.box
  rw [hc] at this
  simp at this
theorem CrB.lt (h : CrB w H s f st la lc lv ea ec en) : ∀ k, Rl H la ea k → k < w.heap.size := by
  rintro k (rfl | hk | hk)
  · exact lt_of_block h.box
  · exact (h.ll k hk).1
  · exact (h.le k hk).1
theorem CrB.hold (h : CrB w H s f st la lc lv ea ec en) (hs : ∀ k, Rl H la ea k → w'.heap[k]? = w.heap[k]?) : CrB w' H s f st la lc lv ea ec en :=
  ⟨(hs H (.inl rfl)).trans h.box, h.l.hold (fun g hg => hs g (.inr (.inl (by rwa [own_ob] at hg)))), h.e.hold (fun g hg => hs g (.inr (.inr (by rwa [own_ob] at hg)))), h.d⟩
theorem CrB.later (h : CrB w H s f st la lc lv ea ec en) (hb : Below w.heap.size w w') : CrB w' H s f st la lc lv ea ec en := h.hold fun k hk => hb.block k (h.lt k hk)
/-- Another box, the same rows. -/
theorem CrB.boxed (h : CrB w H s f st la lc lv ea ec en) (hb : w'.heap[H]? = some (.cells #[.bool s.re, .int .i64 s.c, .int .i64 s.t, .int .i64 f', .slice la lv.length lc, .slice ea en.length ec, .bool st'] 37 (0, 0))) (hs : ∀ k, k < w.heap.size → k ≠ H → w'.heap[k]? = w.heap[k]?) : CrB w' H s f' st' la lc lv ea ec en :=
  ⟨hb, h.l.hold (fun g hg => by rw [own_ob] at hg; exact hs g (h.ll g hg).1 (h.ll g hg).2), h.e.hold (fun g hg => by rw [own_ob] at hg; exact hs g (h.le g hg).1 (h.le g hg).2), h.d⟩
theorem CrB.c2 (h : CrB w H s f st la lc lv ea ec en) : w.cell? ⟨H, 2, none⟩ = some (.int .i64 s.t) := cell_in h.box rfl
theorem CrB.c1 (h : CrB w H s f st la lc lv ea ec en) : w.cell? ⟨H, 1, none⟩ = some (.int .i64 s.c) := cell_in h.box rfl
theorem CrB.c3 (h : CrB w H s f st la lc lv ea ec en) : w.cell? ⟨H, 3, none⟩ = some (.int .i64 f) := cell_in h.box rfl
theorem CrB.c4 (h : CrB w H s f st la lc lv ea ec en) : w.cell? ⟨H, 4, none⟩ = some (.slice la lv.length lc) := cell_in h.box rfl
theorem CrB.c5 (h : CrB w H s f st la lc lv ea ec en) : w.cell? ⟨H, 5, none⟩ = some (.slice ea en.length ec) := cell_in h.box rfl
theorem CrB.c6 (h : CrB w H s f st la lc lv ea ec en) : w.cell? ⟨H, 6, none⟩ = some (.bool st) := cell_in h.box rfl
theorem CrB.fz (h : CrB w H s f st la lc lv ea ec en) (j : Nat) : w.frozen? ⟨H, j, none⟩ = false := free_in h.box j
/-- Another live row, made since w0. -/
theorem CrB.lived {w0 : World} {ao : Option Addr} {cap : Nat} {lv' : List Wn} (h : CrB w H s f st la lc lv ea ec en) (hg : GrowS (Rl H la ea) (Rl H la ea) w0 w) (hlt : ∀ k, Rl H la ea k → k < w0.heap.size) (hl : ORow w 63 3 (.slice ao lv'.length cap) lv'.length (lv'.flatMap Wn.cells)) (ho : ∀ g, ob ao = some g → w0.heap.size ≤ g) :
    CrB (w.setCell ⟨H, 4, none⟩ (.slice ao lv'.length cap)) H s f st ao cap lv' ea ec en ∧ GrowS (Rl H la ea) (Rl H ao ea) w0 (w.setCell ⟨H, 4, none⟩ (.slice ao lv'.length cap)) := by
  have hB : But H w (w.setCell ⟨H, 4, none⟩ (.slice ao lv'.length cap)) := (But.refl H w).set 4 _
  have hz : (w.setCell ⟨H, 4, none⟩ (.slice ao lv'.length cap)).heap.size = w.heap.size := by simp
  have hH := hlt H (.inl rfl)
  have s1 := hg.size
  refine ⟨⟨set_at h.box, hl.hold (fun g hg => ?_), h.e.hold (fun g hg => ?_), fun g hg he => ?_⟩, ⟨hB.os.trans hg.os, hB.tape.trans hg.tape, hB.output.trans hg.output, by omega, fun k hk hn => ?_, ?_⟩⟩
  · have := hl.lt g hg
    rw [own_ob] at hg
    have h2 := ho g hg
    exact hB.block g this (by omega)
  · rw [own_ob] at hg
    have := h.le g hg
    exact hB.block g (by omega) this.2
  · have h1 := ho g hg
    have h2 := hlt g (.inr (.inr he))
    omega
  · exact (hB.block k (by omega) (fun e => hn (.inl e))).trans (hg.block k hk hn)
  · rintro k (hk | hk | hk)
    · exact .inl (.inl hk)
    · exact .inr (ho k hk)
    · exact .inl (.inr (.inr hk))
/-- Another row of what will be back, made since w0. -/
theorem CrB.backed {w0 : World} {ao : Option Addr} {cap : Nat} {en' : List Bk} (h : CrB w H s f st la lc lv ea ec en) (hg : GrowS (Rl H la ea) (Rl H la ea) w0 w) (hlt : ∀ k, Rl H la ea k → k < w0.heap.size) (hl : ORow w 62 2 (.slice ao en'.length cap) en'.length (en'.flatMap Bk.cells)) (ho : ∀ g, ob ao = some g → w0.heap.size ≤ g) :
    CrB (w.setCell ⟨H, 5, none⟩ (.slice ao en'.length cap)) H s f st la lc lv ao cap en' ∧ GrowS (Rl H la ea) (Rl H la ao) w0 (w.setCell ⟨H, 5, none⟩ (.slice ao en'.length cap)) := by
  have hB : But H w (w.setCell ⟨H, 5, none⟩ (.slice ao en'.length cap)) := (But.refl H w).set 5 _
  have hz : (w.setCell ⟨H, 5, none⟩ (.slice ao en'.length cap)).heap.size = w.heap.size := by simp
  have hH := hlt H (.inl rfl)
  have s1 := hg.size
  refine ⟨⟨set_at h.box, h.l.hold (fun g hg => ?_), hl.hold (fun g hg => ?_), fun g hg he => ?_⟩, ⟨hB.os.trans hg.os, hB.tape.trans hg.tape, hB.output.trans hg.output, by omega, fun k hk hn => ?_, ?_⟩⟩
  · rw [own_ob] at hg
    have := h.ll g hg
    exact hB.block g (by omega) this.2
  · have := hl.lt g hg
    rw [own_ob] at hg
    have h2 := ho g hg
    exact hB.block g this (by omega)
  · have h1 := ho g he
    have h2 := hlt g (.inr (.inl hg))
    omega
  · exact (hB.block k (by omega) (fun e => hn (.inl e))).trans (hg.block k hk hn)
  · rintro k (hk | hk | hk)
    · exact .inl (.inl hk)
    · exact .inl (.inr (.inl hk))
    · exact .inr (ho k hk)
end
theorem below_drewR {B : Nat} {a w : World} (n : Nat) (h : Below B a w) : Below B a (w.drewN n) := ⟨h.os, h.tape, h.output, h.size, h.block⟩
/-- The document's budget, with its own blocks. -/
def RgAt (H : Nat) (s : Sv) (b : Bd) (w : World) (S : Nat → Prop) : Prop :=
  ∃ (la ea : Option Addr) (lc ec : Nat), CrB w H s b.free b.stop la lc b.live ea ec b.backs ∧ S = Rl H la ea
theorem rg_own (H : Nat) (s : Sv) (b : Bd) : OwnP (RgAt H s b) where
  keep := by
    rintro w w' S ⟨la, ea, lc, ec, h, rfl⟩ hs hz
    exact ⟨la, ea, lc, ec, h.hold hs, rfl⟩
  lt := by
    rintro w S ⟨la, ea, lc, ec, h, rfl⟩ k hk
    exact h.lt k hk
def refC (re : Bool) (c t : Int) : Array Value := #[.bool re, .int .i64 c, .int .i64 t, .int .i64 c, .slice none 0 0, .slice none 0 0, .bool false]
set_option maxRecDepth 100000 in
theorem built_rbud (re : Bool) (c t : Int) : Try.prog.built 37 [(0, .agg #[.bool re, .int .i64 c, .int .i64 t]), (1, .int .i64 c)] = some (refC re c t) := by kernel_rfl
theorem rg_new {w : World} {H : Nat} {s : Sv} (h : w.heap[H]? = some (.cells (refC s.re s.c s.t) 37 (0, 0))) : RgAt H s (resetB s.c) w (Rl H none none) :=
  ⟨none, none, 0, 0, ⟨h, ORow.nil _ _ _, ORow.nil _ _ _, fun g hg => by cases hg⟩, rfl⟩
set_option maxRecDepth 100000 in
set_option maxHeartbeats 4000000 in
theorem rnew_any (re : Bool) (c t : Int) (w : World) : Calls Try.prog 9 #[.agg #[.bool re, .int .i64 c, .int .i64 t]] w fun e w' => ((okSv ⟨re, c, t⟩ = true ∧ ∃ H, e = .returned (.pointer (some ⟨H, 0, none⟩)) ∧ RgAt H ⟨re, c, t⟩ (resetB c) w' (Rl H none none) ∧ w.heap.size ≤ H) ∨ (okSv ⟨re, c, t⟩ = false ∧ e = .returned (.pointer none))) ∧ Below w.heap.size w w' := by
  have HB := Lib.hid (built_rbud re c t)
  obtain ⟨V, hV⟩ : ∃ V, V = w.alloc (.cells #[.bool re, .int .i64 c, .int .i64 t] 23) := ⟨_, rfl⟩
  obtain ⟨E, hE⟩ : ∃ E, E = w.heap.size := ⟨_, rfl⟩
  have hbV : Below w.heap.size w V := by rw [hV]; exact below1 _ _
  have hEV : V.heap[E]? = some (.cells #[.bool re, .int .i64 c, .int .i64 t] 23 (0, 0)) := by rw [hV, hE]; exact heap_alloc_new _ _
  have k0 : V.cell? ⟨E, 0, none⟩ = some (.bool re) := cell_in hEV rfl
  have k1 : V.cell? ⟨E, 1, none⟩ = some (.int .i64 c) := cell_in hEV rfl
  have k2 : V.cell? ⟨E, 2, none⟩ = some (.int .i64 t) := cell_in hEV rfl
  have KS : Hid (∀ W, Below V.heap.size V W → W.cell? ⟨E, 0, none⟩ = some (.bool re) ∧ W.cell? ⟨E, 1, none⟩ = some (.int .i64 c) ∧ W.cell? ⟨E, 2, none⟩ = some (.int .i64 t)) := Lib.hid (fun W hW => ⟨(World.cell?_of_block (hW.block _ (World.block_lt_of_cell? _ _ k0))).trans k0, (World.cell?_of_block (hW.block _ (World.block_lt_of_cell? _ _ k1))).trans k1, (World.cell?_of_block (hW.block _ (World.block_lt_of_cell? _ _ k2))).trans k2⟩)
  have HV := Lib.hid hV
  have HE := Lib.hid hE
  have HBV := Lib.hid hbV
  clear hV hE hbV hEV
  cases hs : okSv ⟨re, c, t⟩ with
  | true =>
    have HS := Lib.hid hs
    clear hs
    go_enter Try.func9, Try.ntmps9
    go_upto_region 1 with fail
    rw [← HV.out, ← HE.out]
    go_wp2_with (first
      | (go_at_call 28; refine (refServer_any re c t V).mono ?_; rintro e w2 ⟨rfl, hb2'⟩; rw [HS.out]; obtain ⟨y0, y1, y2⟩ := KS.out _ hb2'; have hb2 := Lib.hid hb2'; clear hb2')
      | (refine wpList_build3 (by rfl) 37 _ (by rfl) [(0, .agg #[.bool re, .int .i64 c, .int .i64 t]), (1, .int .i64 c)] (by rfl) _ HB.out ?_)
      | fail "no arm")
    go_ret
    have h2 := HBV.out.trans (hb2.out.mono HBV.out.size)
    exact ⟨.inl ⟨by trivial, w2.heap.size, rfl, rg_new (s := ⟨re, c, t⟩) (heap_alloc_new _ _), h2.size⟩, b_alloc h2 (Nat.le_refl _) _⟩
  | false =>
    have HS := Lib.hid hs
    clear hs
    go_enter Try.func9, Try.ntmps9
    go_upto_region 1 with fail
    rw [← HV.out, ← HE.out]
    go_wp2_with (first
      | (go_at_call 28; refine (refServer_any re c t V).mono ?_; rintro e w2 ⟨rfl, hb2'⟩; rw [HS.out]; have hb2 := Lib.hid hb2'; clear hb2')
      | fail "no arm")
    go_ret
    exact ⟨.inr ⟨by trivial, rfl⟩, HBV.out.trans (hb2.out.mono HBV.out.size)⟩
set_option maxRecDepth 100000 in
set_option maxHeartbeats 4000000 in
theorem rdue_any (w : World) (H : Nat) (S : Nat → Prop) (s : Sv) (b : Bd) (h : RgAt H s b w S) (hs : okSv s = true) (hn : ∀ x ∈ b.live, 0 ≤ x.at_ ∧ x.at_ ≤ 1099511627776) :
    Calls Try.prog 37 #[.pointer (some ⟨H, 0, none⟩)] w fun e w' => e = .returned (.tuple #[.int .i64 (dueV s.t b), .bool (useOk b)]) ∧ Below w.heap.size w w' := by
  obtain ⟨la, ea, lc, ec, hk, rfl⟩ := h
  have hsb : 1 ≤ s.c ∧ s.c ≤ s.t ∧ s.t ≤ 1000 := by simpa [okSv] using hs
  obtain ⟨f, lv, bk, st⟩ := b
  dsimp only at hk hn
  have b4 := hk.c4
  have b2 := hk.c2
  cases lv with
  | nil =>
    clear hk
    go_enter Try.func37, Try.ntmps37
    go_wp2_with fail
    go_ret2
    exact ⟨rfl, Below.refl _ _⟩
  | cons x l =>
    have hx := hn x (List.mem_cons_self ..)
    obtain ⟨n, hnn⟩ : ∃ n, n = (x :: l).length := ⟨_, rfl⟩
    rw [← hnn] at b4
    have hl := hk.l
    rw [← hnn] at hl
    obtain ⟨g, off, rfl, hc, _, _⟩ := hl.at_ (by rw [hnn]; simp)
    have g0 : w.cell? ⟨g, off, none⟩ = some (.int .i64 x.at_) := hc 0 _ (by simp [Wn.cells])
    have hpos : 0 < n := by rw [hnn]; simp
    have n0 : ((n : Int) == 0) = false := by simp; omega
    have l1 : (0 : Int) < (n : Int) := by omega
    have e1 : IntKind.i64.wrap (x.at_ + s.t) = x.at_ + s.t := IntWalk.i64_in _ (by omega)
    clear hk hl hc hnn hn hs
    go_enter Try.func37, Try.ntmps37
    go_upto_region 3 with fail
    go_quiet (fail)
    go_wp2_with fail
    go_ret2
    exact ⟨rfl, by repeat first | exact Below.refl _ _ | refine below_drewR _ ?_⟩
set_option maxRecDepth 100000 in
set_option maxHeartbeats 4000000 in
theorem rreset_any (w : World) (H : Nat) (S : Nat → Prop) (s : Sv) (b : Bd) (h : RgAt H s b w S) :
    Calls Try.prog 19 #[.pointer (some ⟨H, 0, none⟩)] w fun e w' => ∃ S', e = .returned (.tuple #[]) ∧ RgAt H s (resetB s.c) w' S' ∧ GrowS S S' w w' := by
  obtain ⟨la, ea, lc, ec, hk, rfl⟩ := h
  have b1 := hk.c1
  have b3 := hk.c3
  have b4 := hk.c4
  have b5 := hk.c5
  have b6 := hk.c6
  have f3 := hk.fz 3
  have f4 := hk.fz 4
  have f5 := hk.fz 5
  have f6 := hk.fz 6
  have HK := Lib.hid hk
  clear hk
  go_enter Try.func19, Try.ntmps19
  go_wp2_with fail
  go_end0
  obtain ⟨Y, hY⟩ : ∃ Y, Y = (((w.setCell ⟨H, 3, none⟩ (.int .i64 s.c)).setCell ⟨H, 4, none⟩ (.slice none 0 0)).setCell ⟨H, 5, none⟩ (.slice none 0 0)).setCell ⟨H, 6, none⟩ (.bool false) := ⟨_, rfl⟩
  have hB : But H w Y := by rw [hY]; exact ((((But.refl H w).set 3 _).set 4 _).set 5 _).set 6 _
  have hH : Y.heap[H]? = some (.cells (refC s.re s.c s.t) 37 (0, 0)) := by
    rw [hY]
    exact set_at (set_at (set_at (set_at HK.out.box)))
  have hg : GrowS (Rl H la ea) (Rl H none none) w Y := ⟨hB.os, hB.tape, hB.output, hB.size, fun k hk hn => hB.block k hk (fun e => hn (.inl e)), fun k hk => .inl (hk.elim .inl (fun h => by rcases h with h | h <;> cases h))⟩
  rw [← hY]
  first | exact ⟨_, rfl, rg_new hH, hg⟩ | exact ⟨rfl, _, rg_new hH, hg⟩
end Go.Proofs.Ytoofkeeoolgpdaa
