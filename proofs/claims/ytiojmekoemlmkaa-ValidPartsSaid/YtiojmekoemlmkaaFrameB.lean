/- Walks of the windows of a frame: how many places are open; which is the first. -/
import Derived.Test.YtiojmekoemlmkaaFrameA
namespace Go.Proofs.Ytiojmekoemlmkaa
open Go.ChangeShapes Go.WideShapes Go.ChangeAt Go.RowKit
set_option linter.unusedVariables false

theorem aheadV_cons (m p e : Int) (x : Wn) (xs : List Wn) : aheadV m p e (x :: xs) = (if x.part = p then max 0 (min (x.at_ + x.len) e - (x.at_ + m)) else 0) + aheadV m p e xs := rfl
set_option maxRecDepth 100000 in
set_option maxHeartbeats 4000000 in
theorem wAhead_any (m : Int) (la : Option Addr) (ln lc : Nat) (p z : Int) (w : World) (lo hi : Nat) (l : List Wn) (F : Int) (hln : l.length = ln) (hl : Lies w lo hi (.slice la ln lc) ln 3 (l.flatMap Wn.cells)) (hhi : hi ≤ w.heap.size) (h2 : ln ≤ 1000) (h0 : 0 ≤ m) (h1 : m ≤ 8) (hok : okW F 0 l = true) (hF : F ≤ 256) (hz0 : 0 ≤ z) (hz1 : z ≤ 256) :
    Calls Try.prog 38 #[.agg #[.int .i64 m, .slice la ln lc], .int .i64 p, .int .i64 z] w fun e w' => e = .returned (.int .i64 (aheadV m p z l)) ∧ Below w.heap.size w w' := by
  obtain ⟨V, hV⟩ : ∃ V, V = w.alloc (.cells #[.int .i64 m, .slice la ln lc] 83) := ⟨_, rfl⟩
  have B1 : Below w.heap.size w V := by rw [hV]; exact below1 _ _
  have hblk : V.heap[w.heap.size]? = some (.cells #[.int .i64 m, .slice la ln lc] 83 (0, 0)) := by rw [hV]; exact heap_alloc_new _ _
  have hlt0 := lt_of_block hblk
  have HL := Lib.hid (hl.keep (SameIn.of_below B1 hhi)); have HLN := Lib.hid hln
  have HBK := Lib.hid hblk; have HB1 := Lib.hid B1
  have hhv : hi ≤ V.heap.size := by omega
  have HV := Lib.hid hV
  have HOK := Lib.hid hok
  clear hl hln hblk B1 hV hok
  go_enter Try.func38, Try.ntmps38
  go_wp2_with fail
  go_loopw [7, 15] (fun s i wr => ∃ (k : Nat) (r : Int), k ≤ ln ∧ i = .int .i64 k ∧ s = .int .i64 r ∧ 0 ≤ r ∧ r ≤ 256 * k ∧ Hid (aheadV m p z l = r + aheadV m p z (l.drop k)) ∧ Below V.heap.size V wr) (fun _ i _ => ln - (intOf i).toNat)
  case atStart => exact ⟨0, 0, by omega, rfl, rfl, by omega, by omega, Lib.hid (Int.zero_add _).symm, by rw [HV.out]; exact Below.refl _ _⟩
  case round =>
    obtain ⟨k, r, hk, rfl, rfl, r0, r1, HA, hb⟩ := hrel
    by_cases hlt : k < ln
    · have tk : decide ((k : Int) < (ln : Int)) = true := by simpa using hlt
      obtain ⟨x, hx⟩ : ∃ x, l[k]? = some x := ⟨_, List.getElem?_eq_getElem (by rw [HLN.out]; exact hlt)⟩
      have hlies := HL.out.keep (SameIn.of_below hb hhv)
      obtain ⟨a2, c2, e2, _, _, hc⟩ := hlies
      cases e2
      rcases hc with h0 | ⟨b, off, rfl, hb1, hb2, hc⟩
      · omega
      obtain ⟨s0, s1, s2⟩ := Lies.wn hc hx
      have q := okW_from HOK.out x (List.mem_of_getElem? hx)
      have hd := drop_cons hx
      have l0 : (0 : Int) ≤ (k : Int) := by omega
      have l1 : (k : Int) < (ln : Int) := by omega
      have B0 : wr.cell? ⟨w.heap.size, 0, none⟩ = some (.int .i64 m) := (hb.cell hlt0).trans (cell_in HBK.out rfl)
      have B2 : wr.cell? ⟨w.heap.size, 1, none⟩ = some (.slice (some ⟨b, off, none⟩) ln lc) := (hb.cell hlt0).trans (cell_in HBK.out rfl)
      obtain ⟨xa, xn, xp⟩ := x
      simp only at s0 s1 s2 q
      obtain ⟨q1, q2, q3, q4, q5, q6⟩ := q
      have n0 : w.heap.size < wr.heap.size := by have := hb.size; omega
      have HBB := Lib.hid hb
      have HD := Lib.hid hd
      clear hc hx hb hd
      by_cases hp : xp = p
      · have t1 : (xp == p) = true := by simpa using hp
        rcases (show (xa + xn ≤ z ∧ xn ≤ m) ∨ (xa + xn ≤ z ∧ m < xn) ∨ (z < xa + xn ∧ z ≤ xa + m) ∨ (z < xa + xn ∧ xa + m < z) from by omega) with ⟨h5, h6⟩ | ⟨h5, h6⟩ | ⟨h5, h6⟩ | ⟨h5, h6⟩
        · have HN : Hid (aheadV m p z l = r + aheadV m p z (l.drop (k + 1))) := Lib.hid (by rw [HA.out, HD.out, aheadV_cons, if_pos hp]; show r + (max 0 (min (xa + xn) z - (xa + m)) + _) = _; omega)
          have HP := Lib.hid hp; clear hp
          go_wp2_with (first | (go_at_call 57; refine (open_any _ _ _ _ _ _ _ _ (by omega) (by omega) (by omega) (by omega) (by omega)).mono ?_; rintro e w1 ⟨rfl, hb2⟩; have y0 : w1.cell? ⟨wr.heap.size, 0, none⟩ = some (.int .i64 xa) := (by rw [hb2.cell (by simp)]; simp); have y1 : w1.cell? ⟨wr.heap.size, 1, none⟩ = some (.int .i64 xn) := (by rw [hb2.cell (by simp)]; simp); have y2 : w1.cell? ⟨wr.heap.size, 2, none⟩ = some (.int .i64 xp) := (by rw [hb2.cell (by simp)]; simp); have HB2 := Lib.hid hb2; clear hb2))
          go_roundw
          case rel => exact ⟨k + 1, r, by omega, by go_num, by go_num, by omega, by omega, HN, HBB.out.trans (((below1 _ _).trans (HB2.out.mono (by simp))).mono HBB.out.size)⟩
          case measure => simp [intOf]; omega
        · have HN : Hid (aheadV m p z l = (r + (xa + xn - (xa + m))) + aheadV m p z (l.drop (k + 1))) := Lib.hid (by rw [HA.out, HD.out, aheadV_cons, if_pos hp]; show r + (max 0 (min (xa + xn) z - (xa + m)) + _) = _; omega)
          have HP := Lib.hid hp; clear hp
          go_wp2_with (first | (go_at_call 57; refine (open_any _ _ _ _ _ _ _ _ (by omega) (by omega) (by omega) (by omega) (by omega)).mono ?_; rintro e w1 ⟨rfl, hb2⟩; have y0 : w1.cell? ⟨wr.heap.size, 0, none⟩ = some (.int .i64 xa) := (by rw [hb2.cell (by simp)]; simp); have y1 : w1.cell? ⟨wr.heap.size, 1, none⟩ = some (.int .i64 xn) := (by rw [hb2.cell (by simp)]; simp); have y2 : w1.cell? ⟨wr.heap.size, 2, none⟩ = some (.int .i64 xp) := (by rw [hb2.cell (by simp)]; simp); have HB2 := Lib.hid hb2; clear hb2))
          go_roundw
          case rel => exact ⟨k + 1, (r + (xa + xn - (xa + m))), by omega, by go_num, by go_num, by omega, by omega, HN, HBB.out.trans (((below1 _ _).trans (HB2.out.mono (by simp))).mono HBB.out.size)⟩
          case measure => simp [intOf]; omega
        · have HN : Hid (aheadV m p z l = r + aheadV m p z (l.drop (k + 1))) := Lib.hid (by rw [HA.out, HD.out, aheadV_cons, if_pos hp]; show r + (max 0 (min (xa + xn) z - (xa + m)) + _) = _; omega)
          have HP := Lib.hid hp; clear hp
          go_wp2_with (first | (go_at_call 57; refine (open_any _ _ _ _ _ _ _ _ (by omega) (by omega) (by omega) (by omega) (by omega)).mono ?_; rintro e w1 ⟨rfl, hb2⟩; have y0 : w1.cell? ⟨wr.heap.size, 0, none⟩ = some (.int .i64 xa) := (by rw [hb2.cell (by simp)]; simp); have y1 : w1.cell? ⟨wr.heap.size, 1, none⟩ = some (.int .i64 xn) := (by rw [hb2.cell (by simp)]; simp); have y2 : w1.cell? ⟨wr.heap.size, 2, none⟩ = some (.int .i64 xp) := (by rw [hb2.cell (by simp)]; simp); have HB2 := Lib.hid hb2; clear hb2))
          go_roundw
          case rel => exact ⟨k + 1, r, by omega, by go_num, by go_num, by omega, by omega, HN, HBB.out.trans (((below1 _ _).trans (HB2.out.mono (by simp))).mono HBB.out.size)⟩
          case measure => simp [intOf]; omega
        · have HN : Hid (aheadV m p z l = (r + (z - (xa + m))) + aheadV m p z (l.drop (k + 1))) := Lib.hid (by rw [HA.out, HD.out, aheadV_cons, if_pos hp]; show r + (max 0 (min (xa + xn) z - (xa + m)) + _) = _; omega)
          have HP := Lib.hid hp; clear hp
          go_wp2_with (first | (go_at_call 57; refine (open_any _ _ _ _ _ _ _ _ (by omega) (by omega) (by omega) (by omega) (by omega)).mono ?_; rintro e w1 ⟨rfl, hb2⟩; have y0 : w1.cell? ⟨wr.heap.size, 0, none⟩ = some (.int .i64 xa) := (by rw [hb2.cell (by simp)]; simp); have y1 : w1.cell? ⟨wr.heap.size, 1, none⟩ = some (.int .i64 xn) := (by rw [hb2.cell (by simp)]; simp); have y2 : w1.cell? ⟨wr.heap.size, 2, none⟩ = some (.int .i64 xp) := (by rw [hb2.cell (by simp)]; simp); have HB2 := Lib.hid hb2; clear hb2))
          go_roundw
          case rel => exact ⟨k + 1, (r + (z - (xa + m))), by omega, by go_num, by go_num, by omega, by omega, HN, HBB.out.trans (((below1 _ _).trans (HB2.out.mono (by simp))).mono HBB.out.size)⟩
          case measure => simp [intOf]; omega
      · have t1 : (xp == p) = false := by simpa using hp
        have HN : Hid (aheadV m p z l = r + aheadV m p z (l.drop (k + 1))) := Lib.hid (by rw [HA.out, HD.out, aheadV_cons, if_neg hp, Int.zero_add])
        have HP := Lib.hid hp; clear hp
        go_wp2_with fail
        go_roundw
        case rel => exact ⟨k + 1, r, by omega, by go_num, by go_num, by omega, by omega, HN, HBB.out.trans ((below1 _ _).mono HBB.out.size)⟩
        case measure => simp [intOf]; omega
    · have tk : decide ((k : Int) < (ln : Int)) = false := by simp; omega
      have HE : Hid (aheadV m p z l = r) := Lib.hid (by rw [HA.out, List.drop_of_length_le (by rw [HLN.out]; omega)]; exact Int.add_zero _)
      go_wp2_with fail
      go_ret
      exact ⟨ret_i HE.out.symm, HB1.out.trans (hb.mono HB1.out.size)⟩
theorem firstV_hit {m p b : Int} {x : Wn} {xs : List Wn} (h : x.part = p) (k : max (x.at_ + m) b < x.at_ + x.len) : firstV m p b (x :: xs) = (max (x.at_ + m) b, true) := by
  show (if _ then _ else _) = _
  rw [if_pos ⟨h, k⟩]
theorem firstV_miss {m p b : Int} {x : Wn} {xs : List Wn} (h : ¬ (x.part = p ∧ max (x.at_ + m) b < x.at_ + x.len)) : firstV m p b (x :: xs) = firstV m p b xs := by
  show (if _ then _ else _) = _
  rw [if_neg h]
end Go.Proofs.Ytiojmekoemlmkaa
