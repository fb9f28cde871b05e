/- Joined of FrameI, FrameJ, FrameK, FrameL: Walks of the document's table: windows as they may be; the making. -/
import Derived.Test.YtefngnbkbcdkbaaFrameT
import Derived.Test.YtefngnbkbcdkbaaNum
import Derived.Deep.RegionHeld3
import Derived.Test.YtefngnbkbcdkbaaFrameP
import Derived.Deep.CutRange
namespace Go.Proofs.Ytefngnbkbcdkbaa
open Go.ChangeShapes Go.WideShapes Go.ChangeAt Go.RowKit
set_option linter.unusedVariables false

set_option maxRecDepth 100000 in
set_option maxHeartbeats 4000000 in
theorem rRight_any (F m : Int) (la : Option Addr) (ln lc : Nat) (w : World) (lo hi : Nat) (l : List Wn) (hln : l.length = ln) (hl : Lies w lo hi (.slice la ln lc) ln 3 (l.flatMap Wn.cells)) (hhi : hi ≤ w.heap.size) (hin : ∀ x ∈ l, x.In) :
    Calls Try.prog 7 #[.int .i64 F, .int .i64 m, .slice la ln lc] w fun e w' => e = .returned (.bool (rightB F m l)) ∧ Below w.heap.size w w' := by
  have HLN := Lib.hid hln
  rcases (show F < 1 ∨ (1 ≤ F ∧ 256 < F) ∨ (1 ≤ F ∧ F ≤ 256 ∧ m < 0) ∨ (1 ≤ F ∧ F ≤ 256 ∧ 0 ≤ m ∧ 8 < m) ∨ (1 ≤ F ∧ F ≤ 256 ∧ 0 ≤ m ∧ m ≤ 8 ∧ 32 < ln) ∨ (1 ≤ F ∧ F ≤ 256 ∧ 0 ≤ m ∧ m ≤ 8 ∧ ln ≤ 32) from by omega) with h | ⟨h, h3⟩ | ⟨h, h3, h4⟩ | ⟨h, h3, h4, h5⟩ | ⟨h, h3, h4, h5, h6⟩ | ⟨h, h3, h4, h5, h6⟩
  all_goals try
    (have HR : Hid (rightB F m l = false) := Lib.hid (rightB_no (by rw [hln]; omega))
     clear hln hl hhi hin
     go_enter Try.func7, Try.ntmps7
     go_wp2_with fail
     go_ret
     exact ⟨ret_bl HR.out.symm, Below.refl _ _⟩)
  have HR := Lib.hid (rightB_ok (l := l) ⟨h, h3, h4, h5, by rw [hln]; exact h6⟩)
  have HL := Lib.hid hl; have HIN := Lib.hid hin
  clear hl hln hin
  go_enter Try.func7, Try.ntmps7
  go_wp2_with fail
  go_loopw [7, 8] (fun s i wr => ∃ (k : Nat) (z : Int), k ≤ ln ∧ i = .int .i64 k ∧ s = .int .i64 z ∧ 0 ≤ z ∧ z ≤ F ∧ Hid (okW F 0 l = okW F z (l.drop k)) ∧ Below w.heap.size w wr) (fun _ i _ => ln - (intOf i).toNat)
  case atStart => exact ⟨0, 0, by omega, rfl, rfl, by omega, by omega, Lib.hid rfl, Below.refl _ _⟩
  case round =>
    obtain ⟨k, z, hk, rfl, rfl, r0, r1, HA, hb⟩ := hrel
    by_cases hlt : k < ln
    · have tk : decide ((k : Int) < (ln : Int)) = true := by simpa using hlt
      obtain ⟨x, hx⟩ : ∃ x, l[k]? = some x := ⟨_, List.getElem?_eq_getElem (by rw [HLN.out]; exact hlt)⟩
      have hlies := HL.out.keep (SameIn.of_below hb hhi)
      obtain ⟨a2, c2, e2, _, _, hc⟩ := hlies
      cases e2
      rcases hc with h0 | ⟨b, off, rfl, hb1, hb2, hc⟩
      · omega
      obtain ⟨s0, s1, s2⟩ := Lies.wn hc hx
      have q := HIN.out x (List.mem_of_getElem? hx)
      have hd := drop_cons hx
      have l0 : (0 : Int) ≤ (k : Int) := by omega
      have l1 : (k : Int) < (ln : Int) := by omega
      have hbw : b < wr.heap.size := by have := hb.size; omega
      obtain ⟨xa, xn, xp⟩ := x
      simp only at s0 s1 s2 q
      obtain ⟨⟨q1, q2⟩, ⟨q3, q4⟩, ⟨q5, q6⟩⟩ := q
      simp only at q1 q2 q3 q4 q5 q6
      have HBB := Lib.hid hb
      have HD := Lib.hid hd
      clear hc hx hb hd
      rcases (show xa < z ∨ (z ≤ xa ∧ F ≤ xa) ∨ (z ≤ xa ∧ xa < F ∧ xn < 1) ∨ (z ≤ xa ∧ xa < F ∧ 1 ≤ xn ∧ F - xa < xn) ∨ (z ≤ xa ∧ xa < F ∧ 1 ≤ xn ∧ xn ≤ F - xa ∧ xp < 0) ∨ (z ≤ xa ∧ xa < F ∧ 1 ≤ xn ∧ xn ≤ F - xa ∧ 0 ≤ xp ∧ 6 ≤ xp) ∨ (z ≤ xa ∧ xa < F ∧ 1 ≤ xn ∧ xn ≤ F - xa ∧ 0 ≤ xp ∧ xp < 6) from by omega) with g | ⟨g, g3⟩ | ⟨g, g3, g4⟩ | ⟨g, g3, g4, g5⟩ | ⟨g, g3, g4, g5, g6⟩ | ⟨g, g3, g4, g5, g6, g7⟩ | ⟨g, g3, g4, g5, g6, g7⟩
      all_goals try
        (have HN : Hid (okW F 0 l = false) := Lib.hid (by rw [HA.out, HD.out]; exact okW_no (by simp only; omega))
         go_wp2_with fail
         go_ret
         exact ⟨ret_bl (by rw [HR.out, HN.out]), HBB.out.trans ((below1 _ _).mono HBB.out.size)⟩)
      have HN : Hid (okW F 0 l = okW F (xa + xn) (l.drop (k + 1))) := Lib.hid (by rw [HA.out, HD.out]; exact okW_next (by simp only; omega))
      go_wp2_with fail
      go_roundw
      case rel => exact ⟨k + 1, xa + xn, by omega, by go_num, by go_num, by omega, by omega, HN, HBB.out.trans ((below1 _ _).mono HBB.out.size)⟩
      case measure => simp [intOf]; omega
    · have tk : decide ((k : Int) < (ln : Int)) = false := by simp; omega
      have HE : Hid (okW F 0 l = true) := Lib.hid (by rw [HA.out, List.drop_of_length_le (by rw [HLN.out]; omega)]; rfl)
      go_wp2_with fail
      go_ret
      exact ⟨ret_bl (by rw [HR.out, HE.out]), hb⟩

end Go.Proofs.Ytefngnbkbcdkbaa
