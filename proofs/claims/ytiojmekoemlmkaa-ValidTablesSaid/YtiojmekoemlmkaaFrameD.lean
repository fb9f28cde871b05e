/- Walks of a table: how many ticks are open to a partition; which comes next. -/
import Derived.Test.YtiojmekoemlmkaaFrameC
namespace Go.Proofs.Ytiojmekoemlmkaa
open Go.ChangeShapes Go.WideShapes Go.ChangeAt Go.RowKit
set_option linter.unusedVariables false

/-- The document's count: of no more than 2^62 ticks, and none below 0. -/
def countT (F : Nat) (m : Int) (l : List Wn) (p t n : Int) : Int := countV F m l p t (min (max n 0) 4611686018427387904).toNat
/-- The document's next tick, and whether there is one. -/
def nextT (F : Nat) (m : Int) (l : List Wn) (p t : Int) : Int × Bool := match nextV F m l p (min t 4611686018427387904) with
  | some i => (min t 4611686018427387904 + i, true)
  | none => (0, false)
theorem countT_none {F : Nat} {m : Int} {l : List Wn} {p t n : Int} (h : n < 1) : countT F m l p t n = 0 := by
  unfold countT
  rw [show (min (max n 0) 4611686018427387904).toNat = 0 by omega]
  rfl
theorem nextT_some {F : Nat} {m : Int} {l : List Wn} {p t : Int} {i : Nat} (h : nextV F m l p (min t 4611686018427387904) = some i) : nextT F m l p t = (min t 4611686018427387904 + i, true) := by unfold nextT; rw [h]
theorem nextT_none {F : Nat} {m : Int} {l : List Wn} {p t : Int} (h : nextV F m l p (min t 4611686018427387904) = none) : nextT F m l p t = (0, false) := by unfold nextT; rw [h]
theorem aheadV_bd {F : Nat} {m p z : Int} {l : List Wn} (hm : 0 ≤ m) (h : okW F 0 l = true) (h0 : 0 ≤ z) (h1 : z ≤ F) : 0 ≤ aheadV m p z l ∧ aheadV m p z l ≤ F := by
  obtain ⟨n, rfl⟩ := Int.eq_ofNat_of_zero_le h0
  rw [aheadV_isO hm h (by omega)]
  have := cnt_le (isO F m l p) 0 n
  omega
/-- The frames ahead of a tick hold no more than there are ticks. -/
theorem frames_bd {F : Nat} {e : Int} {B : Int} (hF : 1 ≤ F) (h0 : 0 ≤ e) (b0 : 0 ≤ B) (b1 : B ≤ F) : 0 ≤ e / F ∧ 0 ≤ e / F * B ∧ e / F * B ≤ e := by
  have q := div_parts e (b := F) (by omega)
  have q0 : 0 ≤ e / F := Int.ediv_nonneg h0 (by omega)
  refine ⟨q0, Int.mul_nonneg q0 b0, ?_⟩
  have := Int.mul_le_mul_of_nonneg_left b1 q0
  rw [Int.mul_comm (F : Int)] at q
  omega
theorem sinceV_bd {F : Nat} {m p e : Int} {l : List Wn} (hF : 1 ≤ F) (hm : 0 ≤ m) (h : okW F 0 l = true) (h0 : 0 ≤ e) : 0 ≤ sinceV F m p l e ∧ sinceV F m p l e ≤ e := by
  obtain ⟨n, rfl⟩ := Int.eq_ofNat_of_zero_le h0
  rw [sinceV_cnt hF hm h]
  have := cnt_le (isO F m l p) 0 n
  omega
section
variable {w : World} {lo hi g F : Nat} {m : Int} {la : Option Addr} {ln lc : Nat} {l : List Wn}
/-- What a table's cells say, whatever is made beside it. -/
theorem Tab.says (h : Tab w lo hi g F m la ln lc l) (hhi : hi ≤ w.heap.size) (W : World) (hb : Below w.heap.size w W) : Below w.heap.size w W ∧ W.cell? ⟨g, 0, none⟩ = some (.int .i64 m) ∧ W.cell? ⟨g, 1, none⟩ = some (.slice la ln lc) ∧ W.cell? ⟨g, 2, none⟩ = some (.int .i64 F) :=
  ⟨hb, (h.keep hb hhi).c0, (h.keep hb hhi).c1, (h.keep hb hhi).c2⟩
set_option maxRecDepth 100000 in
set_option maxHeartbeats 2000000 in
theorem tOffered_any (h : Tab w lo hi g F m la ln lc l) (hhi : hi ≤ w.heap.size) (p : Int) :
    Calls Try.prog 17 #[.pointer (some ⟨g, 0, none⟩), .int .i64 p] w fun e w' => e = .returned (.int .i64 (offeredV F m l p)) ∧ Below w.heap.size w w' := by
  have H := Lib.hid h
  have KS := Lib.hid (h.says hhi)
  have CO := Lib.hid (fun (W : World) (hb : Below w.heap.size w W) => wAhead_any m la ln lc p F W lo hi l F h.len (h.lies.keep (SameIn.of_below hb hhi)) (Nat.le_trans hhi hb.size) h.few h.m0 h.m8 h.ok (by have := h.f2; omega) (by omega) (by have := h.f2; omega))
  have HO := Lib.hid (aheadV_offered (p := p) h.m0 h.ok)
  have c0 := h.c0; have c1 := h.c1; have c2 := h.c2
  have hgw : g < w.heap.size := by have := h.high; omega
  clear h
  go_enter Try.func17, Try.ntmps17
  go_wp2_with (first | (go_at_call 34; refine (tMade_any H.out).mono ?_; rintro e w' ⟨rfl, rfl⟩))
  go_region_held3 (fun W => Below w.heap.size w W ∧ W.cell? ⟨g, 0, none⟩ = some (.int .i64 m) ∧ W.cell? ⟨g, 1, none⟩ = some (.slice la ln lc) ∧ W.cell? ⟨g, 2, none⟩ = some (.int .i64 F))
    (first | exact KS.out _ ((Below.refl _ _).drew) | exact KS.out _ (by assumption))
    (first
      | (go_at_call 38; refine (CO.out _ (by go_split_ands; assumption)).mono ?_; rintro e w2 ⟨rfl, hb5⟩; have hbn : Below w.heap.size w w2 := (by go_split_ands; exact bel_then (by assumption) (Nat.le_refl _) hb5)))
  go_wp2_with fail
  go_ret
  exact ⟨ret_i HO.out, by assumption⟩
end
end Go.Proofs.Ytiojmekoemlmkaa
