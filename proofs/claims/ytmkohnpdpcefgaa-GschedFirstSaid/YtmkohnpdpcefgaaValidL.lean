/- A system's table. -/
import Derived.Test.YtmkohnpdpcefgaaValidR
import Derived.Test.YtmkohnpdpcefgaaFrameT
namespace Go.Proofs.Ytmkohnpdpcefgaa
open Go.ChangeShapes Go.WideShapes Go.ChangeAt Go.RowKit
set_option linter.unusedVariables false

theorem right_of_ok {c : Cf} (h : (checkV c).1 = 0) : rightB c.frame c.margin c.ws = true := by
  obtain ⟨h1, h2, h3, _⟩ := (check_iff c).1 h
  have hf : 1 ≤ c.frame ∧ c.frame ≤ 256 ∧ 0 ≤ c.margin ∧ c.margin ≤ 8 := of_decide_eq_true h1
  obtain ⟨g1, g2⟩ := winV_ok h2.2 h3
  rw [rightB_ok ⟨hf.1, hf.2.1, hf.2.2.1, hf.2.2.2, g1⟩]
  exact g2
theorem frame_nat {c : Cf} (h : (checkV c).1 = 0) : ∃ F : Nat, c.frame = (F : Int) := by
  have := (rightB_t (right_of_ok h)).1
  exact ⟨c.frame.toNat, by omega⟩
def TabPost (w : World) (c : Cf) (F : Nat) (e : Ending) (w' : World) : Prop := ∃ g la' lc', e = .returned (.pointer (some ⟨g, 0, none⟩)) ∧ Tab w' w.heap.size w'.heap.size g F c.margin la' c.ws.length lc' c.ws ∧ Below w.heap.size w w'
set_option maxRecDepth 100000 in
set_option maxHeartbeats 4000000 in
theorem table_far {w : World} {hi : Nat} {c : Cf} {pvs : List Pv} {wa pa ca : Option Addr} {wc pc cc : Nat} (f : Far c) (h : SysL w hi c pvs wa pa ca wc pc cc) (hh : hi ≤ w.heap.size) (hin : ∀ x ∈ c.ws, x.In) (hz : (checkV c).1 ≠ 0) :
    Calls Try.prog 18 #[.agg #[.int .i64 c.frame, .int .i64 c.margin, .slice wa c.ws.length wc, .slice pa c.ps.length pc, .slice ca c.cs.length cc]] w fun e w' => e = .returned (.pointer none) ∧ Below w.heap.size w w' := by
  have t1 : decide ((checkV c).1 = 0) = false := by simpa using hz
  have t2 : ((checkV c).1 == 0) = false := by simpa using hz
  have CK := Lib.hid (check_far f (h.keep (SameIn.of_below (below1 w (.cells #[.int .i64 c.frame, .int .i64 c.margin, .slice wa c.ws.length wc, .slice pa c.ps.length pc, .slice ca c.cs.length cc] 36)) hh)) (Nat.le_trans hh (below1 w (.cells #[.int .i64 c.frame, .int .i64 c.margin, .slice wa c.ws.length wc, .slice pa c.ps.length pc, .slice ca c.cs.length cc] 36)).size) hin)
  clear h hin
  go_enter Try.func18, Try.ntmps18
  go_wp2_with (first | (go_at_call 31; refine CK.out.mono ?_; rintro e w1 ⟨rfl, hb1⟩))
  go_ret
  exact ⟨rfl, (below1 w (.cells #[.int .i64 c.frame, .int .i64 c.margin, .slice wa c.ws.length wc, .slice pa c.ps.length pc, .slice ca c.cs.length cc] 36)).trans (hb1.mono (below1 w (.cells #[.int .i64 c.frame, .int .i64 c.margin, .slice wa c.ws.length wc, .slice pa c.ps.length pc, .slice ca c.cs.length cc] 36)).size)⟩
theorem table_no {w : World} {hi : Nat} {c : Cf} {pvs : List Pv} {wa pa ca : Option Addr} {wc pc cc : Nat} (f : Few c) (h : SysL w hi c pvs wa pa ca wc pc cc) (hh : hi ≤ w.heap.size) (hin : ∀ x ∈ c.ws, x.In) (hz : (checkV c).1 ≠ 0) :
    Calls Try.prog 18 #[.agg #[.int .i64 c.frame, .int .i64 c.margin, .slice wa c.ws.length wc, .slice pa c.ps.length pc, .slice ca c.cs.length cc]] w fun e w' => e = .returned (.pointer none) ∧ Below w.heap.size w w' := table_far f.far h hh hin hz
set_option maxRecDepth 100000 in
set_option maxHeartbeats 4000000 in
theorem table_yes {w : World} {hi : Nat} {c : Cf} {pvs : List Pv} {wa pa ca : Option Addr} {wc pc cc : Nat} (f : Few c) (h : SysL w hi c pvs wa pa ca wc pc cc) (hh : hi ≤ w.heap.size) (hin : ∀ x ∈ c.ws, x.In) (hz : (checkV c).1 = 0) (F : Nat) (hF : c.frame = (F : Int)) :
    Calls Try.prog 18 #[.agg #[.int .i64 c.frame, .int .i64 c.margin, .slice wa c.ws.length wc, .slice pa c.ps.length pc, .slice ca c.cs.length cc]] w (TabPost w c F) := by
  have hr := right_of_ok hz
  obtain ⟨V, hV⟩ : ∃ V, V = w.alloc (.cells #[.int .i64 c.frame, .int .i64 c.margin, .slice wa c.ws.length wc, .slice pa c.ps.length pc, .slice ca c.cs.length cc] 36) := ⟨_, rfl⟩
  have hB1 : Below w.heap.size w V := by rw [hV]; exact below1 _ _
  have hblk : V.heap[w.heap.size]? = some (.cells #[.int .i64 c.frame, .int .i64 c.margin, .slice wa c.ws.length wc, .slice pa c.ps.length pc, .slice ca c.cs.length cc] 36 (0, 0)) := by rw [hV]; exact heap_alloc_new _ _
  have SV := h.keep (SameIn.of_below hB1 hh)
  have ks : ∀ W : World, Below V.heap.size V W → (W.cell? ⟨w.heap.size, 0, none⟩ = some (.int .i64 c.frame) ∧ W.cell? ⟨w.heap.size, 1, none⟩ = some (.int .i64 c.margin) ∧ W.cell? ⟨w.heap.size, 2, none⟩ = some (.slice wa c.ws.length wc)) := by
    intro W g
    have q := fun (i : Nat) (u : Value) hu => (g.cell (p := ⟨w.heap.size, i, none⟩) (lt_of_block hblk)).trans (cell_in (j := i) (u := u) hblk hu)
    exact ⟨q 0 _ rfl, q 1 _ rfl, q 2 _ rfl⟩
  have cnw : ∀ W : World, Below V.heap.size V W → Calls Try.prog 32 #[.int .i64 c.frame, .int .i64 c.margin, .slice wa c.ws.length wc] W fun e w' => ∃ g la' lc', e = .returned (.pointer (some ⟨g, 0, none⟩)) ∧ Tab w' W.heap.size w'.heap.size g F c.margin la' c.ws.length lc' c.ws ∧ Below W.heap.size W w' := by
    intro W g
    rw [hF]
    exact tNew_yes F c.margin wa c.ws.length wc W 0 hi c.ws rfl (SV.l1.keep (SameIn.of_below g (Nat.le_trans hh hB1.size))) (Nat.le_trans (Nat.le_trans hh hB1.size) g.size) hin (by rw [← hF]; exact hr)
  have CK := Lib.hid (check_sys f SV (Nat.le_trans hh hB1.size) hin)
  have KS := Lib.hid ks; have CW := Lib.hid cnw; have HV := Lib.hid hV; have HB1 := Lib.hid hB1; have HZ := Lib.hid hz; have HFF := Lib.hid hF
  clear h hin hr hblk SV ks cnw hV hB1 hz hF
  go_enter Try.func18, Try.ntmps18
  go_wp2_with (first
    | (go_at_call 31; rw [← HV.out]; refine CK.out.mono ?_; rintro e w1 ⟨rfl, hb1⟩; rw [HZ.out]; obtain ⟨z0, z1, z2⟩ := KS.out _ hb1)
    | (go_at_call 32; refine (CW.out _ hb1).mono ?_; rintro e w2 ⟨g, la', lc', rfl, ht, hb2⟩))
  go_ret
  exact ⟨g, la', lc', rfl, ht.wider (Nat.le_trans HB1.out.size hb1.size) (Nat.le_refl _), HB1.out.trans ((bel_next hb1 hb2).mono HB1.out.size)⟩
end Go.Proofs.Ytmkohnpdpcefgaa
