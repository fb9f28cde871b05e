/- Who gets a tick: the document's New. -/
import Derived.Test.YtmkohnpdpcefgaaGschM
import Derived.Test.YtmkohnpdpcefgaaValidS
import Derived.Test.YtmkohnpdpcefgaaValidL
import Derived.Test.YtmkohnpdpcefgaaFrameR
import Derived.Test.YtmkohnpdpcefgaaSys
import Derived.Test.YtmkohnpdpcefgaaGschR
namespace Go.Proofs.Ytmkohnpdpcefgaa
open Go.ChangeShapes Go.WideShapes Go.ChangeAt Go.RowKit
set_option linter.unusedVariables false

/-- The document's, of a system, in memory. -/
def RcAt (w : World) (r F : Nat) (c : Cf) : Prop :=
  ∃ (hi : Nat) (pvs : List Pv) (wa pa ca : Option Addr) (wc pc cc t : Nat) (la : Option Addr) (lc : Nat), hi ≤ w.heap.size ∧ w.heap[r]? = some (.cells #[.int .i64 c.frame, .int .i64 c.margin, .slice wa c.ws.length wc, .slice pa c.ps.length pc, .slice ca c.cs.length cc, .pointer (some ⟨t, 0, none⟩)] 51 (0, 0)) ∧ SysL w hi c pvs wa pa ca wc pc cc ∧ RTab w 0 w.heap.size t F c.margin la c.ws.length lc c.ws
theorem RTab.wider {w : World} {lo hi lo' hi' g F : Nat} {m : Int} {la : Option Addr} {ln lc : Nat} {l : List Wn} (h : RTab w lo hi g F m la ln lc l) (h1 : lo' ≤ lo) (h2 : hi ≤ hi') : RTab w lo' hi' g F m la ln lc l :=
  ⟨h.blk, Nat.le_trans h1 h.low, Nat.lt_of_lt_of_le h.high h2, h.lies.wider h1 h2, h.len, h.few, h.f1, h.f2, h.m0, h.m8, h.ok⟩
theorem RcAt.later {w w' : World} {r F : Nat} {c : Cf} (h : RcAt w r F c) (hb : Below w.heap.size w w') : RcAt w' r F c :=
  let ⟨hi, pvs, wa, pa, ca, wc, pc, cc, t, la, lc, h0, h1, h2, h3⟩ := h
  ⟨hi, pvs, wa, pa, ca, wc, pc, cc, t, la, lc, Nat.le_trans h0 hb.size, (hb.block r (lt_of_block h1)).trans h1, h2.keep (SameIn.of_below hb h0), (h3.keep hb (Nat.le_refl _)).wider (Nat.le_refl _) hb.size⟩
set_option maxRecDepth 100000 in
set_option maxHeartbeats 4000000 in
theorem dnew_no {w : World} {hi : Nat} {c : Cf} {pvs : List Pv} {wa pa ca : Option Addr} {wc pc cc : Nat} (f : Few c) (h : SysL w hi c pvs wa pa ca wc pc cc) (hh : hi ≤ w.heap.size) (hin : ∀ x ∈ c.ws, x.In) (hz : (checkV c).1 ≠ 0) :
    Calls Try.prog 10 #[.agg #[.int .i64 c.frame, .int .i64 c.margin, .slice wa c.ws.length wc, .slice pa c.ps.length pc, .slice ca c.cs.length cc]] w fun e w' => e = .returned (.pointer none) ∧ Below w.heap.size w w' := by
  have hB := below1 w (.cells #[.int .i64 c.frame, .int .i64 c.margin, .slice wa c.ws.length wc, .slice pa c.ps.length pc, .slice ca c.cs.length cc] 26)
  have CT := Lib.hid (refCheck_sys f (h.keep (SameIn.of_below hB hh)) (Nat.le_trans hh hB.size) hin)
  obtain ⟨z, hzz⟩ : ∃ z, z = (checkV c).1 := ⟨_, rfl⟩
  rw [← hzz] at hz CT
  have t1 : decide (z = 0) = false := by simpa using hz
  have t2 : (z == 0) = false := by simpa using hz
  have t3 : (z != 0) = true := by simpa using hz
  have HB := Lib.hid hB
  clear h hin hB hzz
  go_enter Try.func10, Try.ntmps10
  go_wp2_with (first | (go_at_call 21; refine CT.out.mono ?_; rintro e w1 ⟨rfl, hb1⟩))
  go_ret
  exact ⟨rfl, HB.out.trans (hb1.mono HB.out.size)⟩
set_option maxRecDepth 100000 in
set_option maxHeartbeats 4000000 in
theorem dnew_yes {w : World} {hi : Nat} {c : Cf} {pvs : List Pv} {wa pa ca : Option Addr} {wc pc cc : Nat} (f : Few c) (h : SysL w hi c pvs wa pa ca wc pc cc) (hh : hi ≤ w.heap.size) (hin : ∀ x ∈ c.ws, x.In) (hz : (checkV c).1 = 0) (F : Nat) (hF : c.frame = (F : Int)) :
    Calls Try.prog 10 #[.agg #[.int .i64 c.frame, .int .i64 c.margin, .slice wa c.ws.length wc, .slice pa c.ps.length pc, .slice ca c.cs.length cc]] w fun e w' => ∃ r, e = .returned (.pointer (some ⟨r, 0, none⟩)) ∧ RcAt w' r F c ∧ Below w.heap.size w w' := by
  have hr := right_of_ok hz
  obtain ⟨V, hV⟩ : ∃ V, V = w.alloc (.cells #[.int .i64 c.frame, .int .i64 c.margin, .slice wa c.ws.length wc, .slice pa c.ps.length pc, .slice ca c.cs.length cc] 26) := ⟨_, rfl⟩
  have hB1 : Below w.heap.size w V := by rw [hV]; exact below1 _ _
  have hblk : V.heap[w.heap.size]? = some (.cells #[.int .i64 c.frame, .int .i64 c.margin, .slice wa c.ws.length wc, .slice pa c.ps.length pc, .slice ca c.cs.length cc] 26 (0, 0)) := by rw [hV]; exact heap_alloc_new _ _
  have SV : SysL V hi c pvs wa pa ca wc pc cc := h.keep (SameIn.of_below hB1 hh)
  have ks : ∀ W : World, Below V.heap.size V W → (W.cell? ⟨w.heap.size, 0, none⟩ = some (.int .i64 c.frame) ∧ W.cell? ⟨w.heap.size, 1, none⟩ = some (.int .i64 c.margin) ∧ W.cell? ⟨w.heap.size, 2, none⟩ = some (.slice wa c.ws.length wc) ∧ W.cell? ⟨w.heap.size, 3, none⟩ = some (.slice pa c.ps.length pc) ∧ W.cell? ⟨w.heap.size, 4, none⟩ = some (.slice ca c.cs.length cc)) := by
    intro W g
    have q := fun (i : Nat) (u : Value) hu => (g.cell (p := ⟨w.heap.size, i, none⟩) (lt_of_block hblk)).trans (cell_in (j := i) (u := u) hblk hu)
    exact ⟨q 0 _ rfl, q 1 _ rfl, q 2 _ rfl, q 3 _ rfl, q 4 _ rfl⟩
  have CC := Lib.hid (refCheck_sys f SV (Nat.le_trans hh hB1.size) hin)
  have crn : ∀ W : World, Below V.heap.size V W → Calls Try.prog 22 #[.int .i64 c.frame, .int .i64 c.margin, .slice wa c.ws.length wc] W fun e w' => ∃ g la' lc', e = .returned (.pointer (some ⟨g, 0, none⟩)) ∧ RTab w' W.heap.size w'.heap.size g F c.margin la' c.ws.length lc' c.ws ∧ Below W.heap.size W w' := by
    intro W g
    rw [hF]
    exact rNew_yes F c.margin wa c.ws.length wc W 0 hi c.ws rfl (SV.l1.keep (SameIn.of_below g (Nat.le_trans hh hB1.size))) (Nat.le_trans (Nat.le_trans hh hB1.size) g.size) hin (by rw [← hF]; exact hr)
  have CR := Lib.hid crn
  have HS := Lib.hid SV
  have KS := Lib.hid ks; have HB1 := Lib.hid hB1; have HV := Lib.hid hV; have HZ := Lib.hid hz
  clear crn ks hB1 SV hV hblk h hin hr hF hz
  go_enter Try.func10, Try.ntmps10
  go_wp2_with (first | (go_at_call 21; rw [← HV.out]; refine CC.out.mono ?_; rintro e w1 ⟨rfl, hb1⟩; rw [HZ.out]; obtain ⟨z0, z1, z2, z3, z4⟩ := KS.out _ hb1))
  have KZ := Lib.hid (fun (W : World) (g : Below w1.heap.size w1 W) => (⟨g, KS.out W (hb1.trans (g.mono hb1.size))⟩ : Below w1.heap.size w1 W ∧ W.cell? ⟨w.heap.size, 0, none⟩ = some (.int .i64 c.frame) ∧ W.cell? ⟨w.heap.size, 1, none⟩ = some (.int .i64 c.margin) ∧ W.cell? ⟨w.heap.size, 2, none⟩ = some (.slice wa c.ws.length wc) ∧ W.cell? ⟨w.heap.size, 3, none⟩ = some (.slice pa c.ps.length pc) ∧ W.cell? ⟨w.heap.size, 4, none⟩ = some (.slice ca c.cs.length cc)))
  have HB2 := Lib.hid hb1; clear hb1
  go_region_held3 (fun W => Below w1.heap.size w1 W ∧ W.cell? ⟨w.heap.size, 0, none⟩ = some (.int .i64 c.frame) ∧ W.cell? ⟨w.heap.size, 1, none⟩ = some (.int .i64 c.margin) ∧ W.cell? ⟨w.heap.size, 2, none⟩ = some (.slice wa c.ws.length wc) ∧ W.cell? ⟨w.heap.size, 3, none⟩ = some (.slice pa c.ps.length pc) ∧ W.cell? ⟨w.heap.size, 4, none⟩ = some (.slice ca c.cs.length cc))
    (first | exact KZ.out _ ((Below.refl _ _).drew) | exact KZ.out _ (by assumption) | exact KZ.out _ (b_alloc (by assumption) (Nat.le_refl _) _))
    (first
      | (go_at_call 22; refine (CR.out _ (HB2.out.trans ((Below.refl w1.heap.size w1).drew.mono HB2.out.size))).mono ?_; rintro e w2 ⟨t, la, lc, rfl, ht, hb2'⟩; have HT := Lib.hid ht; have hb2 : Below w1.heap.size w1 w2 := (Below.refl w1.heap.size w1).drew.trans hb2'; clear ht hb2'))
  go_wp2_with fail
  go_ret
  have hb3 := below1 w2 (.cells #[.int .i64 c.frame, .int .i64 c.margin, .slice wa c.ws.length wc, .slice pa c.ps.length pc, .slice ca c.cs.length cc, .pointer (some ⟨t, 0, none⟩)] 51)
  have z1 := HB1.out.size
  have z2 := HB2.out.size
  have z3 := hb2.size
  have z4 := hb3.size
  have hbb : Below V.heap.size V (w2.alloc (.cells #[.int .i64 c.frame, .int .i64 c.margin, .slice wa c.ws.length wc, .slice pa c.ps.length pc, .slice ca c.cs.length cc, .pointer (some ⟨t, 0, none⟩)] 51)) := HB2.out.trans ((hb2.trans (hb3.mono z3)).mono z2)
  exact ⟨w2.heap.size, rfl, ⟨hi, pvs, wa, pa, ca, wc, pc, cc, t, la, lc, by omega, heap_alloc_new _ _, HS.out.keep (SameIn.of_below hbb (by omega)), (HT.out.keep hb3 (Nat.le_refl _)).wider (Nat.zero_le _) z4⟩, HB1.out.trans (hbb.mono z1)⟩
end Go.Proofs.Ytmkohnpdpcefgaa
