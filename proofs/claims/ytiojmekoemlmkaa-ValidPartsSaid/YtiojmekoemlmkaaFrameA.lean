/- Walks of the windows of a frame: what is open of one; whose a place is. -/
import Derived.Test.YtiojmekoemlmkaaFrameN
import Derived.Test.YtiojmekoemlmkaaMemW
import Derived.Deep.QuietTactic
import Derived.BigQuiet
import Derived.IntWalk
namespace Go.Proofs.Ytiojmekoemlmkaa
open Go.ChangeShapes Go.WideShapes Go.ChangeAt Go.RowKit
set_option linter.unusedVariables false

theorem ret_ii {a b c d : Int} (h : a = b) (k : c = d) : Ending.returned (.tuple #[.int .i64 a, .int .i64 c]) = .returned (.tuple #[.int .i64 b, .int .i64 d]) := by rw [h, k]
theorem ret_ib {a b : Int} {x y : Bool} (h : a = b) (k : x = y) : Ending.returned (.tuple #[.int .i64 a, .bool x]) = .returned (.tuple #[.int .i64 b, .bool y]) := by rw [h, k]
theorem ret_i {a b : Int} (h : a = b) : Ending.returned (.int .i64 a) = .returned (.int .i64 b) := by rw [h]

theorem below_drewN {B : Nat} {a w : World} (n : Nat) (h : Below B a w) : Below B a (w.drewN n) := ⟨h.os, h.tape, h.output, h.size, h.block⟩
set_option maxRecDepth 100000 in
set_option maxHeartbeats 2000000 in
theorem open_any (m : Int) (la : Option Addr) (ln lc : Nat) (a n p : Int) (w : World) (h0 : 0 ≤ m) (h1 : m ≤ 8) (h2 : 0 ≤ a) (h3 : 1 ≤ n) (h4 : a + n ≤ 256) :
    Calls Try.prog 57 #[.agg #[.int .i64 m, .slice la ln lc], .agg #[.int .i64 a, .int .i64 n, .int .i64 p]] w fun e w' => e = .returned (.tuple #[.int .i64 (a + m), .int .i64 (a + n)]) ∧ Below w.heap.size w w' := by
  have B2 := Lib.hid ((below1 w (.cells #[.int .i64 m, .slice la ln lc] 83)).alloc (by simp) (.cells #[.int .i64 a, .int .i64 n, .int .i64 p] 62))
  go_enter Try.func57, Try.ntmps57
  go_wp2_with fail
  have s1 : IntKind.i64.wrap (a + m) = a + m := IntWalk.i64_in _ (by omega)
  have s2 : IntKind.i64.wrap (a + n) = a + n := IntWalk.i64_in _ (by omega)
  go_quiet (fail)
  clear s1 s2
  go_wp2_with fail
  go_ret2
  exact ⟨rfl, by repeat first | exact Below.refl _ _ | refine below_drewN _ ?_ | refine b_alloc ?_ (Nat.le_refl _) _⟩

theorem ownAt_in {m t : Int} {x : Wn} {xs : List Wn} (h : x.at_ ≤ t) (k : t < x.at_ + x.len) : ownAt m (x :: xs) t = (x.part, if t - x.at_ < m then 1 else 2) := by unfold ownAt; rw [if_pos (by omega)]
theorem ownAt_out {m t : Int} {x : Wn} {xs : List Wn} (h : t < x.at_ ∨ x.at_ + x.len ≤ t) : ownAt m (x :: xs) t = ownAt m xs t := by
  show (if _ then _ else _) = _
  rw [if_neg (by omega)]
theorem drop_cons {α : Type} {l : List α} {k : Nat} {x : α} (h : l[k]? = some x) : l.drop k = x :: l.drop (k + 1) := by
  obtain ⟨hk, rfl⟩ := List.getElem?_eq_some_iff.1 h
  exact List.drop_eq_getElem_cons hk
set_option maxRecDepth 100000 in
set_option maxHeartbeats 4000000 in
theorem wOwner_any (m : Int) (la : Option Addr) (ln lc : Nat) (t : Int) (w : World) (lo hi : Nat) (l : List Wn) (F : Int) (hln : l.length = ln) (hl : Lies w lo hi (.slice la ln lc) ln 3 (l.flatMap Wn.cells)) (hhi : hi ≤ w.heap.size) (h2 : ln ≤ 1000) (h0 : 0 ≤ m) (h1 : m ≤ 8) (hok : okW F 0 l = true) (hF : F ≤ 256) :
    Calls Try.prog 35 #[.agg #[.int .i64 m, .slice la ln lc], .int .i64 t] w fun e w' => e = .returned (.tuple #[.int .i64 (ownAt m l t).1, .int .i64 (ownAt m l t).2]) ∧ Below w.heap.size w w' := by
  obtain ⟨V, hV⟩ : ∃ V, V = w.alloc (.cells #[.int .i64 m, .slice la ln lc] 83) := ⟨_, rfl⟩
  have B1 : Below w.heap.size w V := by rw [hV]; exact below1 _ _
  have hblk : V.heap[w.heap.size]? = some (.cells #[.int .i64 m, .slice la ln lc] 83 (0, 0)) := by rw [hV]; exact heap_alloc_new _ _
  have hlt0 := lt_of_block hblk
  have HL := Lib.hid (hl.keep (SameIn.of_below B1 hhi)); have HLN := Lib.hid hln
  have HBK := Lib.hid hblk; have HB1 := Lib.hid B1
  have hhv : hi ≤ V.heap.size := by omega
  have HV := Lib.hid hV
  have HOK := Lib.hid hok
  clear hl hln hblk B1 hV hok
  go_enter Try.func35, Try.ntmps35
  go_wp2_with fail
  go_loopw [13] (fun i wr => ∃ k : Nat, k ≤ ln ∧ i = .int .i64 k ∧ Hid (ownAt m l t = ownAt m (l.drop k) t) ∧ Below V.heap.size V wr) (fun i _ => ln - (intOf i).toNat)
  case atStart => exact ⟨0, by omega, rfl, Lib.hid rfl, by rw [HV.out]; exact Below.refl _ _⟩
  case round =>
    obtain ⟨k, hk, rfl, HA, hb⟩ := hrel
    by_cases hlt : k < ln
    · have tk : decide ((k : Int) < (ln : Int)) = true := by simpa using hlt
      obtain ⟨x, hx⟩ : ∃ x, l[k]? = some x := ⟨_, List.getElem?_eq_getElem (by rw [HLN.out]; exact hlt)⟩
      have hlies := HL.out.keep (SameIn.of_below hb hhv)
      obtain ⟨a2, c2, e2, _, _, hc⟩ := hlies
      cases e2
      rcases hc with h0 | ⟨b, off, rfl, hb1, hb2, hc⟩
      · omega
      obtain ⟨s0, s1, s2⟩ := Lies.wn hc hx
      have q := okW_from HOK.out x (List.mem_of_getElem? hx)
      have hd := drop_cons hx
      have l0 : (0 : Int) ≤ (k : Int) := by omega
      have l1 : (k : Int) < (ln : Int) := by omega
      have B0 : wr.cell? ⟨w.heap.size, 0, none⟩ = some (.int .i64 m) := (hb.cell hlt0).trans (cell_in HBK.out rfl)
      have B2 : wr.cell? ⟨w.heap.size, 1, none⟩ = some (.slice (some ⟨b, off, none⟩) ln lc) := (hb.cell hlt0).trans (cell_in HBK.out rfl)
      obtain ⟨xa, xn, xp⟩ := x
      simp only at s0 s1 s2 q
      obtain ⟨q1, q2, q3, q4, q5, q6⟩ := q
      have n0 : w.heap.size < wr.heap.size := by have := hb.size; omega
      have HBB := Lib.hid hb
      have HD := Lib.hid hd
      clear hc hx hb hd
      rcases (show t < xa ∨ (xa ≤ t ∧ xa + xn ≤ t) ∨ (xa ≤ t ∧ t < xa + xn ∧ t < xa + m) ∨ (xa ≤ t ∧ t < xa + xn ∧ xa + m ≤ t) from by omega) with h | ⟨h, h5⟩ | ⟨h, h5, h6⟩ | ⟨h, h5, h6⟩
      · have HN : Hid (ownAt m l t = ownAt m (l.drop (k + 1)) t) := Lib.hid (by rw [HA.out, HD.out]; exact ownAt_out (.inl h))
        go_wp2_with (first | (go_at_call 57; refine (open_any _ _ _ _ _ _ _ _ (by omega) (by omega) (by omega) (by omega) (by omega)).mono ?_; rintro e w1 ⟨rfl, hb2⟩; have y0 : w1.cell? ⟨wr.heap.size, 0, none⟩ = some (.int .i64 xa) := (by rw [hb2.cell (by simp)]; simp); have y1 : w1.cell? ⟨wr.heap.size, 1, none⟩ = some (.int .i64 xn) := (by rw [hb2.cell (by simp)]; simp); have y2 : w1.cell? ⟨wr.heap.size, 2, none⟩ = some (.int .i64 xp) := (by rw [hb2.cell (by simp)]; simp); have HB2 := Lib.hid hb2; clear hb2))
        go_roundw
        case rel => exact ⟨k + 1, by omega, by go_num, HN, HBB.out.trans (((below1 _ _).trans (HB2.out.mono (by simp))).mono HBB.out.size)⟩
        case measure => simp [intOf]; omega
      · have HN : Hid (ownAt m l t = ownAt m (l.drop (k + 1)) t) := Lib.hid (by rw [HA.out, HD.out]; exact ownAt_out (.inr h5))
        go_wp2_with (first | (go_at_call 57; refine (open_any _ _ _ _ _ _ _ _ (by omega) (by omega) (by omega) (by omega) (by omega)).mono ?_; rintro e w1 ⟨rfl, hb2⟩; have y0 : w1.cell? ⟨wr.heap.size, 0, none⟩ = some (.int .i64 xa) := (by rw [hb2.cell (by simp)]; simp); have y1 : w1.cell? ⟨wr.heap.size, 1, none⟩ = some (.int .i64 xn) := (by rw [hb2.cell (by simp)]; simp); have y2 : w1.cell? ⟨wr.heap.size, 2, none⟩ = some (.int .i64 xp) := (by rw [hb2.cell (by simp)]; simp); have HB2 := Lib.hid hb2; clear hb2))
        go_roundw
        case rel => exact ⟨k + 1, by omega, by go_num, HN, HBB.out.trans (((below1 _ _).trans (HB2.out.mono (by simp))).mono HBB.out.size)⟩
        case measure => simp [intOf]; omega
      · have HN : Hid (ownAt m l t = (xp, 1)) := Lib.hid (by rw [HA.out, HD.out, ownAt_in h h5, if_pos (by show t - xa < m; omega)])
        go_wp2_with (first | (go_at_call 57; refine (open_any _ _ _ _ _ _ _ _ (by omega) (by omega) (by omega) (by omega) (by omega)).mono ?_; rintro e w1 ⟨rfl, hb2⟩; have y0 : w1.cell? ⟨wr.heap.size, 0, none⟩ = some (.int .i64 xa) := (by rw [hb2.cell (by simp)]; simp); have y1 : w1.cell? ⟨wr.heap.size, 1, none⟩ = some (.int .i64 xn) := (by rw [hb2.cell (by simp)]; simp); have y2 : w1.cell? ⟨wr.heap.size, 2, none⟩ = some (.int .i64 xp) := (by rw [hb2.cell (by simp)]; simp); have HB2 := Lib.hid hb2; clear hb2))
        go_ret2
        exact ⟨ret_ii (by rw [HN.out]) (by rw [HN.out]), HB1.out.trans ((HBB.out.trans (((below1 _ _).trans (HB2.out.mono (by simp))).mono HBB.out.size)).mono HB1.out.size)⟩
      · have HN : Hid (ownAt m l t = (xp, 2)) := Lib.hid (by rw [HA.out, HD.out, ownAt_in h h5, if_neg (by show ¬ t - xa < m; omega)])
        go_wp2_with (first | (go_at_call 57; refine (open_any _ _ _ _ _ _ _ _ (by omega) (by omega) (by omega) (by omega) (by omega)).mono ?_; rintro e w1 ⟨rfl, hb2⟩; have y0 : w1.cell? ⟨wr.heap.size, 0, none⟩ = some (.int .i64 xa) := (by rw [hb2.cell (by simp)]; simp); have y1 : w1.cell? ⟨wr.heap.size, 1, none⟩ = some (.int .i64 xn) := (by rw [hb2.cell (by simp)]; simp); have y2 : w1.cell? ⟨wr.heap.size, 2, none⟩ = some (.int .i64 xp) := (by rw [hb2.cell (by simp)]; simp); have HB2 := Lib.hid hb2; clear hb2))
        go_ret2
        exact ⟨ret_ii (by rw [HN.out]) (by rw [HN.out]), HB1.out.trans ((HBB.out.trans (((below1 _ _).trans (HB2.out.mono (by simp))).mono HBB.out.size)).mono HB1.out.size)⟩
    · have tk : decide ((k : Int) < (ln : Int)) = false := by simp; omega
      have HE : Hid (ownAt m l t = (-1, 0)) := Lib.hid (by rw [HA.out, List.drop_of_length_le (by rw [HLN.out]; omega)]; rfl)
      go_wp2_with fail
      go_ret2
      exact ⟨ret_ii (by rw [HE.out]) (by rw [HE.out]), HB1.out.trans (hb.mono HB1.out.size)⟩
end Go.Proofs.Ytiojmekoemlmkaa
