/- The program's log: All. -/
import Derived.Test.YtebjgfdkmociaaaDoorJrnP
import Derived.Lib.SliceRun
namespace Go.Proofs.YtebjgfdkmociaaaDoor
open Go.ChangeShapes Go.WideShapes Go.ChangeAt Go.RowKit
set_option linter.unusedVariables false

set_option maxRecDepth 100000 in
set_option maxHeartbeats 4000000 in
theorem cloneJ_any (la : Option Addr) (ln lc : Nat) (w : World) (l : List Ent) (hln : l.length = ln) (hl : Lies w 0 w.heap.size (.slice la ln lc) ln 4 (l.flatMap Ent.cells)) (hl2 : ln ≤ 100000) :
    Calls Tryd.prog 22 #[.slice la ln lc] w fun e w' => ∃ a cap, e = .returned (.slice a ln cap) ∧ w'.ownsRow w.heap.size 47 4 (.slice a ln cap) ln (l.flatMap Ent.cells) ∧ Below w.heap.size w w' := by
  obtain ⟨i0, hi0, hz0, hz1, hz2⟩ := info_parts Tryd.infoJE
  have HI := Lib.hid hi0; have HN := Lib.hid hln
  have q22 : ∀ (w : World) (a : Option Addr) (n c n' c' : Nat), (binOp .eql 31 (.slice a n c) (.slice none n' c')).run Tryd.prog w = .ok (.bool a.isNone) w := fun w a n c n' c' => Lib.run_eql_slice_nil w _ _ a n c n' c' Tryd.underlying31
  cases la with
  | none =>
    have hz : ln = 0 ∧ lc = 0 := by obtain ⟨a, c, e, _, h, _⟩ := hl; cases e; exact h rfl
    obtain ⟨rfl, rfl⟩ := hz
    obtain rfl := List.eq_nil_of_length_eq_zero hln
    clear hl hi0 hln
    go_enter Tryd.func22, Tryd.ntmps22
    go_wp2
    go_ret
    exact ⟨none, 0, rfl, World.ownsRow_nil _ _ _ _, Below.refl _ _⟩
  | some ad =>
    have HL := Lib.hid (hl.keep (SameIn.of_below (below1 w (.cells #[] 47)) (Nat.le_refl _)))
    have HO := Lib.hid (ents_one l)
    clear hl hi0 hln
    go_enter Tryd.func22, Tryd.ntmps22
    go_wp2_with (first
      | (refine wpList_append_lie2 (by rfl) (.tmp 5) (.tmp 6) 31 (by rfl) w.heap.size 47 i0 _ 4 32 Tryd.underlying31 HI.out hz0 hz1 hz2 rfl (by omega) (.slice (some ⟨w.heap.size, 0, none⟩) 0 0) 0 [] (by rfl) ⟨rfl, .inr ⟨_, 0, _, rfl, Nat.le_refl _, heap_alloc_new _ _, Nat.le_refl _, by simp [maxLen], by simp, by simp⟩⟩ (.slice (some ad) ln lc) 0 w.heap.size ln (l.flatMap Ent.cells) (by rfl) HL.out HO.out ln (by omega) (by simp [maxLen]; omega) (by omega) (by simp) ?_
         intro ao cap' w1 hown hgrow hob)
      | fail "no arm")
    go_ret
    exact ⟨ao, cap', rfl, by simpa using hown, (below1 w (.cells #[] 47)).grown hgrow (by simp) (fun k hk => by simp [Value.ownBlock] at hk; omega)⟩
set_option maxRecDepth 100000 in
set_option maxHeartbeats 4000000 in
theorem jAll_any {w : World} {H R : Nat} {S : Nat → Prop} {l : List Ent} {x : Int} (h : LgAt H R l x w S) (hl : l.length ≤ 100000) : Calls Tryd.prog 15 #[.pointer (some ⟨H, 0, none⟩)] w fun e w' => ∃ a cap, e = .returned (.slice a l.length cap) ∧ w'.ownsRow w.heap.size 47 4 (.slice a l.length cap) l.length (l.flatMap Ent.cells) ∧ Below w.heap.size w w' := by
  have HM := Lib.hid (jmade_any h)
  obtain ⟨ao, cap, h⟩ := h
  have HC := Lib.hid (cloneJ_any ao l.length cap w l rfl h.lies hl)
  obtain ⟨m, hm⟩ : ∃ m, m = l.length := ⟨_, rfl⟩
  have b2 : w.cell? ⟨H, 2, none⟩ = some (.slice ao m cap) := by rw [hm]; exact cell_in h.box rfl
  rw [← hm] at HC ⊢
  clear h hm
  go_enter Tryd.func15, Tryd.ntmps15
  go_wp2_with (first
    | (go_at_call 21; refine HM.out.mono ?_; rintro e w1 ⟨rfl, hw1⟩; rw [hw1]; clear hw1)
    | (go_at_call 22; refine HC.out.mono ?_; rintro e w2 ⟨a2, cap2, rfl, q1, q2⟩)
    | fail "no arm")
  go_ret
  exact ⟨_, _, rfl, q1, q2⟩
end Go.Proofs.YtebjgfdkmociaaaDoor
