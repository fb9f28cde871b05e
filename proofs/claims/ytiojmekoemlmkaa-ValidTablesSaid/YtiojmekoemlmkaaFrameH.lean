/- Walks of the making of a table: the program's. -/
import Derived.Test.YtiojmekoemlmkaaFrameG
namespace Go.Proofs.Ytiojmekoemlmkaa
open Go.ChangeShapes Go.WideShapes Go.ChangeAt Go.RowKit
set_option linter.unusedVariables false

set_option maxRecDepth 100000 in
set_option maxHeartbeats 2000000 in
theorem tNew_no (F m : Int) (la : Option Addr) (ln lc : Nat) (w : World) (lo hi : Nat) (l : List Wn) (hln : l.length = ln) (hl : Lies w lo hi (.slice la ln lc) ln 3 (l.flatMap Wn.cells)) (hhi : hi ≤ w.heap.size) (hin : ∀ x ∈ l, x.In) (hr : rightB F m l = false) :
    Calls Try.prog 32 #[.int .i64 F, .int .i64 m, .slice la ln lc] w fun e w' => e = .returned (.pointer none) ∧ Below w.heap.size w w' := by
  rcases (show F < 1 ∨ (1 ≤ F ∧ 256 < F) ∨ (1 ≤ F ∧ F ≤ 256 ∧ m < 0) ∨ (1 ≤ F ∧ F ≤ 256 ∧ 0 ≤ m ∧ 8 < m) ∨ (1 ≤ F ∧ F ≤ 256 ∧ 0 ≤ m ∧ m ≤ 8 ∧ 32 < ln) ∨ (1 ≤ F ∧ F ≤ 256 ∧ 0 ≤ m ∧ m ≤ 8 ∧ ln ≤ 32) from by omega) with h | ⟨h, h3⟩ | ⟨h, h3, h4⟩ | ⟨h, h3, h4, h5⟩ | ⟨h, h3, h4, h5, h6⟩ | ⟨h, h3, h4, h5, h6⟩
  all_goals try
    (have HLN := Lib.hid hln
     clear hln hl hhi hin hr
     go_enter Try.func32, Try.ntmps32
     go_wp2_with fail
     go_ret
     exact ⟨rfl, Below.refl _ _⟩)
  · have t1 : decide ((32 : Int) < (ln : Int)) = false := by simp; omega
    have t2 : decide (32 < ln) = false := by simp; omega
    have HO : Hid (okW F 0 l = false) := Lib.hid (by rw [rightB_ok ⟨h, h3, h4, h5, by omega⟩] at hr; exact hr)
    have CI := Lib.hid (inARow_any F la ln lc w lo hi l hln hl hhi (by omega) hin h h3)
    clear hln hl hhi hin hr
    go_enter Try.func32, Try.ntmps32
    go_wp2_with (first | (go_at_call 56; refine CI.out.mono ?_; rintro e w2 ⟨rfl, hb2⟩; rw [HO.out]))
    go_ret
    exact ⟨rfl, hb2⟩
set_option maxRecDepth 100000 in
set_option maxHeartbeats 2000000 in
theorem tNew_yes (F : Nat) (m : Int) (la : Option Addr) (ln lc : Nat) (w : World) (lo hi : Nat) (l : List Wn) (hln : l.length = ln) (hl : Lies w lo hi (.slice la ln lc) ln 3 (l.flatMap Wn.cells)) (hhi : hi ≤ w.heap.size) (hin : ∀ x ∈ l, x.In) (hr : rightB F m l = true) :
    Calls Try.prog 32 #[.int .i64 F, .int .i64 m, .slice la ln lc] w fun e w' => ∃ g la' lc', e = .returned (.pointer (some ⟨g, 0, none⟩)) ∧ Tab w' w.heap.size w'.heap.size g F m la' ln lc' l ∧ Below w.heap.size w w' := by
  obtain ⟨i0, hi0, hz0, hz1, hz2⟩ := info_parts Try.infoWn_conf
  have HI := Lib.hid hi0
  obtain ⟨⟨h, h3, h4, h5, h6⟩, hok⟩ := rightB_t hr
  have t1 : decide ((32 : Int) < (ln : Int)) = false := by simp; omega
  have t2 : decide (32 < ln) = false := by simp; omega
  have hln2 : ln ≤ 32 := by omega
  have HO := Lib.hid hok
  have CI := Lib.hid (inARow_any F la ln lc w lo hi l hln hl hhi (by omega) hin h h3)
  have HLN := Lib.hid hln
  have HL := Lib.hid hl
  have H1 := Lib.hid (flat_one Wn.cells (fun x => wn_one x) l)
  clear hln hl hin hr hok hi0
  go_enter Try.func32, Try.ntmps32
  go_wp2_with (first
    | (go_at_call 56; refine CI.out.mono ?_; rintro e w2 ⟨rfl, hb2⟩; rw [HO.out])
    | (refine wpList_append_lie (by rfl) (.const (.slice none 0 0)) (.tmp 31) 32 (by rfl) w2.heap.size 62 i0 _ 3 24 Try.underlying32 HI.out hz0 hz1 hz2 rfl (by omega) (.slice none 0 0) 0 [] (by rfl) (World.ownsRow_nil _ _ _ _) (.slice la ln lc) lo hi ln _ (by rfl) (HL.out.keep (SameIn.of_below hb2 hhi)) H1.out ln (by omega) (by simp [maxLen]; omega) (by omega) (Nat.le_refl _) ?_; intro ao cap' w3 hown hgrow))
  go_ret
  have hb3 : Below w.heap.size w w3 := hb2.grown hgrow hb2.size (fun k hk => by simp [Value.ownBlock] at hk)
  have hown' := owns_later hown (below1 w3 (.cells #[.int .i64 m, .slice ao ln cap', .int .i64 F] 85))
  have hs2 := hb2.size
  have hs3 := hb3.size
  refine ⟨w3.heap.size, ao, cap', rfl, ⟨heap_alloc_new _ _, hs3, by simp, (Lies.of_owns hown').wider hs2 (Nat.le_refl _), HLN.out, by omega, by omega, by omega, h4, h5, HO.out⟩, b_alloc hb3 (Nat.le_refl _) _⟩
theorem Tab.wider {w : World} {lo hi lo' hi' g F : Nat} {m : Int} {la : Option Addr} {ln lc : Nat} {l : List Wn} (h : Tab w lo hi g F m la ln lc l) (h1 : lo' ≤ lo) (h2 : hi ≤ hi') : Tab w lo' hi' g F m la ln lc l :=
  { h with low := Nat.le_trans h1 h.low, high := Nat.lt_of_lt_of_le h.high h2, lies := h.lies.wider h1 h2 }
end Go.Proofs.Ytiojmekoemlmkaa
