/- known: the numbers of a list that are partitions', in a list of their own. -/
import Derived.Test.YtkikapodobeaaaaFlowD
namespace Go.Proofs.Ytkikapodobeaaaa
open Go.ChangeShapes Go.WideShapes Go.ChangeAt Go.RowKit
set_option linter.unusedVariables false
attribute [local go_sem ↓] Go.wp_at_zero Go.wp_at_succ

theorem owns_built {w : World} {e sz : Nat} : (w.alloc (.cells #[] e)).ownsRow w.heap.size e sz (.slice (some ⟨w.heap.size, 0, none⟩) 0 0) 0 [] :=
  ⟨by simp, .inr ⟨w.heap.size, 0, #[], rfl, Nat.le_refl _, heap_alloc_new _ _, Nat.le_refl _, by simp [maxLen], by simp, by simp⟩⟩
theorem owns_one {w : World} {e base : Nat} {x : Value} (hb : base ≤ w.heap.size) : (w.alloc (.cells #[x] e)).ownsRow base e 1 (.slice (some ⟨w.heap.size, 0, none⟩) 1 1) 1 [x] :=
  ⟨by simp, .inr ⟨w.heap.size, 1, #[x], rfl, hb, heap_alloc_new _ _, Nat.le_refl _, by simp [maxLen], by simp, by simp⟩⟩
set_option maxRecDepth 100000 in
set_option maxHeartbeats 2000000 in
theorem cloneI_any (la : Option Addr) (ln lc : Nat) (w : World) (lo hi : Nat) (l : List Int) (hln : l.length = ln) (hl : Lies w lo hi (.slice la ln lc) ln 1 (l.flatMap intCells)) (hhi : hi ≤ w.heap.size) (hl2 : ln ≤ 1000) :
    Calls Try.prog 46 #[.slice la ln lc] w fun e w' => ∃ a cap, e = .returned (.slice a ln cap) ∧ (ln = 0 ∨ ∃ g, a = some ⟨g, 0, none⟩ ∧ w.heap.size ≤ g ∧ IAt w' g l) ∧ (a = none → ln = 0 ∧ cap = 0) ∧ ln ≤ cap ∧ Below w.heap.size w w' := by
  obtain ⟨i0, hi0, hz0, hz1, hz2⟩ := info_parts Try.infoInt
  have HI := Lib.hid hi0; have HN := Lib.hid hln
  have q22 : ∀ (w : World) (a : Option Addr) (n c n' c' : Nat), (binOp .eql 42 (.slice a n c) (.slice none n' c')).run Try.prog w = .ok (.bool a.isNone) w := fun w a n c n' c' => Lib.run_eql_slice_nil w _ _ a n c n' c' Try.underlying42
  cases la with
  | none =>
    have hz : ln = 0 ∧ lc = 0 := by obtain ⟨a, c, e, _, h, _⟩ := hl; cases e; exact h rfl
    obtain ⟨rfl, rfl⟩ := hz
    clear hl hi0 hln
    go_enter Try.func46, Try.ntmps46
    go_wp2
    go_ret
    exact ⟨none, 0, rfl, by simp, by simp, Nat.le_refl _, Below.refl _ _⟩
  | some ad =>
    have HL := Lib.hid (hl.keep (SameIn.of_below (below1 w (.cells #[] 3)) hhi))
    clear hl hi0 hln
    go_enter Try.func46, Try.ntmps46
    go_wp2_with (first | (refine wpList_append_lie (by rfl) (.tmp 5) (.tmp 6) 42 (by rfl) w.heap.size 3 i0 _ 1 8 Try.underlying42 HI.out hz0 hz1 hz2 rfl (by omega) (.slice (some ⟨w.heap.size, 0, none⟩) 0 0) 0 [] (by rfl) owns_built (.slice (some ad) ln lc) lo hi ln (l.flatMap intCells) (by rfl) HL.out (flat_one intCells in_one _) ln (by omega) (by simp [maxLen]; omega) (by omega) (by simp) ?_; intro ao cap' w1 hown hgrow))
    go_ret
    refine ⟨ao, cap', rfl, ?_, ?_, ?_, ?_⟩
    · rcases hown.2 with ⟨_, h0⟩ | ⟨g, cap, cur, hv, hg, _⟩
      · exact .inl h0
      · right
        have e : ao = some ⟨g, 0, none⟩ := by cases hv; rfl
        subst e
        exact ⟨g, rfl, hg, IAt.of_owns (by simpa using hown) HN.out⟩
    · rintro rfl
      rcases hown.2 with ⟨hv, h0⟩ | ⟨g, cap, cur, hv, hg, _⟩
      · cases hv; exact ⟨h0, rfl⟩
      · cases hv
    · rcases hown.2 with ⟨hv, h0⟩ | ⟨g, cap, cur, hv, hg, _, h, _⟩
      · omega
      · cases hv; exact h
    · exact ((below1 w (.cells #[] 3))).grown hgrow (by simp) (fun k hk => by simp [Value.ownBlock] at hk; omega)
set_option maxRecDepth 100000 in
set_option maxHeartbeats 2000000 in
theorem known_any (fr mg : Int) (wa pa ca la : Option Addr) (wn wc pn pc cn cc ln lc : Nat) (w : World) (lo hi : Nat) (l : List Int) (hln : l.length = ln) (hl : Lies w lo hi (.slice la ln lc) ln 1 (l.flatMap intCells)) (hhi : hi ≤ w.heap.size) (hl2 : ln ≤ 1000) :
    Calls Try.prog 33 #[.agg #[.int .i64 fr, .int .i64 mg, .slice wa wn wc, .slice pa pn pc, .slice ca cn cc], .slice la ln lc] w fun e w' => ∃ a cap, e = .returned (.slice a (l.filter (hasB pn)).length cap) ∧ Lies w' w.heap.size w'.heap.size (.slice a (l.filter (hasB pn)).length cap) (l.filter (hasB pn)).length 1 ((l.filter (hasB pn)).flatMap intCells) ∧ Below w.heap.size w w' := by
  obtain ⟨V, hV⟩ : ∃ V, V = w.alloc (.cells #[.int .i64 fr, .int .i64 mg, .slice wa wn wc, .slice pa pn pc, .slice ca cn cc] 35) := ⟨_, rfl⟩
  have B1 : Below w.heap.size w V := by rw [hV]; exact below1 _ _
  have hblk : CBox V w.heap.size fr mg wa pa ca wn wc pn pc cn cc := by rw [hV]; exact heap_alloc_new _ _
  have hv1 : V.heap.size = w.heap.size + 1 := by rw [hV]; simp
  have hc := cloneI_any la ln lc V lo hi l hln (hl.keep (SameIn.of_below B1 hhi)) (by omega) hl2
  have HV := Lib.hid hV; have HB := Lib.hid hblk; have HB1 := Lib.hid B1; have HN := Lib.hid hln
  clear hV hblk B1 hl hln
  go_enter Try.func33, Try.ntmps33
  go_wp2_with fail
  rw [← HV.out]
  go_wp2_with (first
    | (go_at_call 45; have _t := hd; refine hd.mono ?_; rintro e w2 ⟨a2, c2, rfl, hl2, hb2⟩)
    | (go_at_call 46; refine hc.mono ?_; rintro e w1 ⟨a1, c1, rfl, hq1, hq2, hq3, hb1⟩; have hd := delete_any fr mg wa pa ca wn wc pn pc cn cc w.heap.size w1 (HB.out.later hb1) w.heap.size a1 ln c1 l (hq1.imp id (fun ⟨g, h1, h2, h3⟩ => ⟨g, h1, by omega, h3⟩)) hq2 HN.out (by assumption) hq3 (by have := hb1.size; omega)))
  go_ret
  exact ⟨a2, c2, rfl, hl2, HB1.out.trans ((hb1.mono (by omega)).trans hb2)⟩
end Go.Proofs.Ytkikapodobeaaaa
