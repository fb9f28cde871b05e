/- Walks of what the statements of the layer of frames begin with: the program's table of the document's windows; the sure answers. -/
import Derived.Test.YtocjeljpekidnaaFrameE
import Derived.Test.YtocjeljpekidnaaFrameF
import Derived.Test.YtocjeljpekidnaaFrameH
namespace Go.Proofs.Ytocjeljpekidnaa
open Go.ChangeShapes Go.WideShapes Go.ChangeAt Go.RowKit
set_option linter.unusedVariables false

theorem Tab.wider {w : World} {lo hi lo' hi' g F : Nat} {m : Int} {la : Option Addr} {ln lc : Nat} {l : List Wn} (h : Tab w lo hi g F m la ln lc l) (h1 : lo' ≤ lo) (h2 : hi ≤ hi') : Tab w lo' hi' g F m la ln lc l :=
  { h with low := Nat.le_trans h1 h.low, high := Nat.lt_of_lt_of_le h.high h2, lies := h.lies.wider h1 h2 }
set_option maxRecDepth 100000 in
set_option maxHeartbeats 2000000 in
theorem own4_yes (F : Nat) (m : Int) (la : Option Addr) (ln lc : Nat) (w : World) (lo hi : Nat) (l : List Wn) (hln : l.length = ln) (hl : Lies w lo hi (.slice la ln lc) ln 3 (l.flatMap Wn.cells)) (hhi : hi ≤ w.heap.size) (hin : ∀ x ∈ l, x.In) (hr : rightB F m l = true) :
    Calls Try.prog 7 #[.int .i64 F, .int .i64 m, .slice la ln lc] w fun e w' => ∃ g la' lc', e = .returned (.pointer (some ⟨g, 0, none⟩)) ∧ Tab w' w.heap.size w'.heap.size g F m la' ln lc' l ∧ Below w.heap.size w w' := by
  obtain ⟨i0, hi0, hz0, hz1, hz2⟩ := info_parts Try.infoWn_conf
  have HI := Lib.hid hi0
  have hln2 : ln ≤ 32 := by have := (rightB_t hr).1; omega
  have HLN := Lib.hid hln; have HL := Lib.hid hl; have HIN := Lib.hid hin; have HR := Lib.hid hr
  clear hln hl hin hr hi0
  go_enter Try.func7, Try.ntmps7
  go_wp2_with fail
  go_loopw [7, 8] (fun s i wr => ∃ (k : Nat) (wa : Option Addr) (wc : Nat), k ≤ ln ∧ i = .int .i64 k ∧ s = .slice wa k wc ∧ Hid (wr.ownsRow w.heap.size 40 3 (.slice wa k wc) k ((l.take k).flatMap Wn.cells)) ∧ Below w.heap.size w wr) (fun _ i _ => ln - (intOf i).toNat)
  case atStart => exact ⟨0, none, 0, by omega, rfl, rfl, Lib.hid (World.ownsRow_nil _ _ _ _), Below.refl _ _⟩
  case round =>
    obtain ⟨k, wa, wc, hk, rfl, rfl, HOW, hb⟩ := hrel
    by_cases hlt : k < ln
    · have tk : decide ((k : Int) < (ln : Int)) = true := by simpa using hlt
      obtain ⟨x, hx⟩ : ∃ x, l[k]? = some x := ⟨_, List.getElem?_eq_getElem (by rw [HLN.out]; exact hlt)⟩
      have hlies := HL.out.keep (SameIn.of_below hb hhi)
      obtain ⟨a2, c2, e2, _, _, hc⟩ := hlies
      cases e2
      rcases hc with h0 | ⟨b, off, rfl, hb1, hb2, hc⟩
      · omega
      obtain ⟨s0, s1, s2⟩ := Lies.wn hc hx
      have HX := Lib.hid hx
      have l0 : (0 : Int) ≤ (k : Int) := by omega
      have l1 : (k : Int) < (ln : Int) := by omega
      have hsz := hb.size
      have HB := Lib.hid hb
      clear hc hx hb
      go_wp2_with (first
        | (refine wpList_append_lie (by rfl) (.tmp 15) (.tmp 20) 42 (by rfl) w.heap.size 40 i0 _ 3 24 Try.underlying42 HI.out hz0 hz1 hz2 rfl (by omega) (.slice wa k wc) k _ (by rfl) (HOW.out.alloc _)
            (.slice (some ⟨wr.heap.size, 0, none⟩) 1 1) wr.heap.size (wr.heap.size + 1) 1 x.cells (by rfl) (one_lies (cs := x.cells.toArray) (heap_alloc_new wr _) rfl) (wn_one x) (k + 1) (by omega) (by simp [maxLen]; omega) (by omega) (by simp; omega) ?_
           intro ao cap w1 hown hgrow
           have HOWN := Lib.hid hown
           have HGR := Lib.hid hgrow
           clear hown hgrow))
      go_roundw
      case rel =>
        have st := HOWN.out
        rw [← take_flat Wn.cells l k x HX.out] at st
        refine ⟨k + 1, ao, cap, by omega, by go_num, rfl, Lib.hid st, (b_alloc HB.out (Nat.le_refl _) _).grown HGR.out (by simp; omega) (fun j hj => ?_)⟩
        exact (owns_block HOW.out j hj).1
      case measure => simp [intOf]; omega
    · have tk : decide ((k : Int) < (ln : Int)) = false := by simp; omega
      have hkk : ln = k := by omega
      have hll : l.take k = l := by rw [← hkk, ← HLN.out, List.take_length]
      have ho := HOW.out
      rw [hll] at ho
      have CN := Lib.hid (tNew_yes F m wa k wc wr _ _ l (by rw [HLN.out, hkk]) (Lies.of_owns ho) (Nat.le_refl _) HIN.out HR.out)
      clear ho hll
      subst hkk
      go_wp2_with (first | (go_at_call 17; refine CN.out.mono ?_; rintro e w2 ⟨g, la', lc', rfl, ht, hb2⟩))
      go_ret
      exact ⟨g, la', lc', rfl, ht.wider hb.size (Nat.le_refl _), bel_then hb (Nat.le_refl _) hb2⟩
theorem sure4 : owner 10 1 [⟨2, 4, 0⟩] 13 = (0, 2) ∧ owner 10 1 [⟨2, 4, 0⟩] 2 = (0, 1) ∧ nextT 10 1 [⟨2, 4, 0⟩] 0 6 = (13, true) ∧ offeredV 10 1 [⟨2, 4, 0⟩] 0 = 3 ∧ countT 10 1 [⟨2, 4, 0⟩] 0 0 20 = 6 ∧ rightB 10 1 [⟨2, 4, 0⟩] = true := by decide +kernel
set_option maxRecDepth 100000 in
set_option maxHeartbeats 2000000 in
theorem knows4_any (w : World) : Calls Try.prog 6 #[] w fun e w' => e = .returned (.bool true) ∧ Below w.heap.size w w' := by
  obtain ⟨k1, k2, k3, k4, k5, k6⟩ := sure4
  have K1 := Lib.hid k1; have K2 := Lib.hid k2; have K3 := Lib.hid k3; have K4 := Lib.hid k4; have K5 := Lib.hid k5
  have HB0 := Lib.hid (below1 w (.cells #[.int .i64 2, .int .i64 4, .int .i64 0] 40))
  have CN := Lib.hid (tNew_yes 10 1 (some ⟨w.heap.size, 0, none⟩) 1 1 (w.alloc (.cells #[.int .i64 2, .int .i64 4, .int .i64 0] 40)) w.heap.size (w.heap.size + 1) [⟨2, 4, 0⟩] rfl
    (one_lies (cs := #[.int .i64 2, .int .i64 4, .int .i64 0]) (heap_alloc_new w _) rfl) (by simp) (fun x hx => by simp at hx; subst hx; simp [Wn.In, I64]) k6)
  clear k1 k2 k3 k4 k5 k6
  go_enter Try.func6, Try.ntmps6
  go_wp2_with (first
    | (go_at_call 17; refine CN.out.mono ?_; rintro e w1 ⟨g, la, lc, rfl, ht, hb1⟩; have H := Lib.hid ht; have HB1 := Lib.hid hb1; clear ht hb1)
    | (go_at_call 8; refine (tOwner_any (H.out.keep (by first | assumption | exact Below.refl w1.heap.size _) (Nat.le_refl _)) (by first | exact Nat.le_refl _ | exact Below.size (by assumption)) _ (by omega) (by omega)).mono ?_; rintro e w2 ⟨rfl, hb2⟩; (first | rw [K1.out] | rw [K2.out]); have hbn : Below w1.heap.size w1 w2 := (by first | exact bel_then (by assumption) (Nat.le_refl _) hb2 | exact hb2))
    | (go_at_call 10; refine (tNext_any (H.out.keep (by first | assumption | exact Below.refl w1.heap.size _) (Nat.le_refl _)) (by first | exact Nat.le_refl _ | exact Below.size (by assumption)) _ _ (by omega) (by omega)).mono ?_; rintro e w2 ⟨rfl, hb2⟩; rw [K3.out]; have hbn : Below w1.heap.size w1 w2 := (by first | exact bel_then (by assumption) (Nat.le_refl _) hb2 | exact hb2))
    | (go_at_call 12; refine (tOffered_any (H.out.keep (by first | assumption | exact Below.refl w1.heap.size _) (Nat.le_refl _)) (by first | exact Nat.le_refl _ | exact Below.size (by assumption)) _).mono ?_; rintro e w2 ⟨rfl, hb2⟩; rw [K4.out]; have hbn : Below w1.heap.size w1 w2 := (by first | exact bel_then (by assumption) (Nat.le_refl _) hb2 | exact hb2))
    | (go_at_call 14; refine (tCount_any (H.out.keep (by first | assumption | exact Below.refl w1.heap.size _) (Nat.le_refl _)) (by first | exact Nat.le_refl _ | exact Below.size (by assumption)) _ _ _ (by omega) (by omega)).mono ?_; rintro e w2 ⟨rfl, hb2⟩; rw [K5.out]; have hbn : Below w1.heap.size w1 w2 := (by first | exact bel_then (by assumption) (Nat.le_refl _) hb2 | exact hb2))
    | (go_at_call 18; refine (tFrame_any (H.out.keep (by first | assumption | exact Below.refl w1.heap.size _) (Nat.le_refl _))).mono ?_; rintro e w' ⟨rfl, rfl⟩))
  go_ret
  exact ⟨rfl, bel_then (bel_then HB0.out (Nat.le_refl _) HB1.out) (Nat.le_refl _) (by assumption)⟩
end Go.Proofs.Ytocjeljpekidnaa
