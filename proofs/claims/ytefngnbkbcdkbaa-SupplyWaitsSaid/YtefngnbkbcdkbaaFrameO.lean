/- Walks of what the statements of the layer of frames begin with: the program's table of the document's windows; the sure answers. -/
import Derived.Test.YtefngnbkbcdkbaaFrameP
import Derived.Test.YtefngnbkbcdkbaaFrameT
namespace Go.Proofs.Ytefngnbkbcdkbaa
open Go.ChangeShapes Go.WideShapes Go.ChangeAt Go.RowKit
set_option linter.unusedVariables false

set_option maxRecDepth 100000 in
set_option maxHeartbeats 2000000 in
theorem own4_yes (F : Nat) (m : Int) (la : Option Addr) (ln lc : Nat) (w : World) (lo hi : Nat) (l : List Wn) (hln : l.length = ln) (hl : Lies w lo hi (.slice la ln lc) ln 3 (l.flatMap Wn.cells)) (hhi : hi ≤ w.heap.size) (hin : ∀ x ∈ l, x.In) (hr : rightB F m l = true) :
    Calls Try.prog 9 #[.int .i64 F, .int .i64 m, .slice la ln lc] w fun e w' => ∃ g la' lc', e = .returned (.pointer (some ⟨g, 0, none⟩)) ∧ Tab w' w.heap.size w'.heap.size g F m la' ln lc' l ∧ Below w.heap.size w w' := by
  obtain ⟨i0, hi0, hz0, hz1, hz2⟩ := info_parts Try.infoWn_conf
  have HI := Lib.hid hi0
  have hln2 : ln ≤ 32 := by have := (rightB_t hr).1; omega
  have HLN := Lib.hid hln; have HL := Lib.hid hl; have HIN := Lib.hid hin; have HR := Lib.hid hr
  clear hln hl hin hr hi0
  go_enter Try.func9, Try.ntmps9
  go_wp2_with fail
  go_loopw [7, 8] (fun s i wr => ∃ (k : Nat) (wa : Option Addr) (wc : Nat), k ≤ ln ∧ i = .int .i64 k ∧ s = .slice wa k wc ∧ Hid (wr.ownsRow w.heap.size 51 3 (.slice wa k wc) k ((l.take k).flatMap Wn.cells)) ∧ Below w.heap.size w wr) (fun _ i _ => ln - (intOf i).toNat)
  case atStart => exact ⟨0, none, 0, by omega, rfl, rfl, Lib.hid (World.ownsRow_nil _ _ _ _), Below.refl _ _⟩
  case round =>
    obtain ⟨k, wa, wc, hk, rfl, rfl, HOW, hb⟩ := hrel
    by_cases hlt : k < ln
    · have tk : decide ((k : Int) < (ln : Int)) = true := by simpa using hlt
      obtain ⟨x, hx⟩ : ∃ x, l[k]? = some x := ⟨_, List.getElem?_eq_getElem (by rw [HLN.out]; exact hlt)⟩
      have hlies := HL.out.keep (SameIn.of_below hb hhi)
      obtain ⟨a2, c2, e2, _, _, hc⟩ := hlies
      cases e2
      rcases hc with h0 | ⟨b, off, rfl, hb1, hb2, hc⟩
      · omega
      obtain ⟨s0, s1, s2⟩ := Lies.wn hc hx
      have HX := Lib.hid hx
      have l0 : (0 : Int) ≤ (k : Int) := by omega
      have l1 : (k : Int) < (ln : Int) := by omega
      have hsz := hb.size
      have HB := Lib.hid hb
      clear hc hx hb
      go_wp2_with (first
        | (refine wpList_append_lie (by rfl) (.tmp 15) (.tmp 20) 42 (by rfl) w.heap.size 51 i0 _ 3 24 Try.underlying42 HI.out hz0 hz1 hz2 rfl (by omega) (.slice wa k wc) k _ (by rfl) (HOW.out.alloc _)
            (.slice (some ⟨wr.heap.size, 0, none⟩) 1 1) wr.heap.size (wr.heap.size + 1) 1 x.cells (by rfl) (one_lies (cs := x.cells.toArray) (heap_alloc_new wr _) rfl) (wn_one x) (k + 1) (by omega) (by simp [maxLen]; omega) (by omega) (by simp; omega) ?_
           intro ao cap w1 hown hgrow
           have HOWN := Lib.hid hown
           have HGR := Lib.hid hgrow
           clear hown hgrow))
      go_roundw
      case rel =>
        have st := HOWN.out
        rw [← take_flat Wn.cells l k x HX.out] at st
        refine ⟨k + 1, ao, cap, by omega, by go_num, rfl, Lib.hid st, (b_alloc HB.out (Nat.le_refl _) _).grown HGR.out (by simp; omega) (fun j hj => ?_)⟩
        exact (owns_block HOW.out j hj).1
      case measure => simp [intOf]; omega
    · have tk : decide ((k : Int) < (ln : Int)) = false := by simp; omega
      have hkk : ln = k := by omega
      have hll : l.take k = l := by rw [← hkk, ← HLN.out, List.take_length]
      have ho := HOW.out
      rw [hll] at ho
      have CN := Lib.hid (tNew_yes F m wa k wc wr _ _ l (by rw [HLN.out, hkk]) (Lies.of_owns ho) (Nat.le_refl _) HIN.out HR.out)
      clear ho hll
      subst hkk
      go_wp2_with (first | (go_at_call 17; refine CN.out.mono ?_; rintro e w2 ⟨g, la', lc', rfl, ht, hb2⟩))
      go_ret
      exact ⟨g, la', lc', rfl, ht.wider hb.size (Nat.le_refl _), bel_then hb (Nat.le_refl _) hb2⟩
end Go.Proofs.Ytefngnbkbcdkbaa
