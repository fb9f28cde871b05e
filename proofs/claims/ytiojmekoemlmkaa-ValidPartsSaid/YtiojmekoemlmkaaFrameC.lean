/- Walks of a table: whose a tick is; how many are open; which comes next. -/
import Derived.Test.YtiojmekoemlmkaaFrameB
import Derived.Test.YtiojmekoemlmkaaNumB
import Derived.Deep.RegionHeld3
namespace Go.Proofs.Ytiojmekoemlmkaa
open Go.ChangeShapes Go.WideShapes Go.ChangeAt Go.RowKit
set_option linter.unusedVariables false

theorem bel_then {B : Nat} {a w w' : World} (h : Below B a w) (hB : B ≤ a.heap.size) (k : Below w.heap.size w w') : Below B a w' := h.trans (k.mono (Nat.le_trans hB h.size))
/-- A table in memory, as the program has it: block g. -/
structure Tab (w : World) (lo hi g F : Nat) (m : Int) (la : Option Addr) (ln lc : Nat) (l : List Wn) : Prop where
  blk : w.heap[g]? = some (.cells #[.int .i64 m, .slice la ln lc, .int .i64 F] 85 (0, 0))
  low : lo ≤ g
  high : g < hi
  lies : Lies w lo hi (.slice la ln lc) ln 3 (l.flatMap Wn.cells)
  len : l.length = ln
  few : ln ≤ 1000
  f1 : 1 ≤ F
  f2 : F ≤ 256
  m0 : 0 ≤ m
  m8 : m ≤ 8
  ok : okW F 0 l = true
theorem Tab.keep {w w' : World} {lo hi g F : Nat} {m : Int} {la : Option Addr} {ln lc : Nat} {l : List Wn} (h : Tab w lo hi g F m la ln lc l) {B : Nat} (hb : Below B w w') (hB : hi ≤ B) : Tab w' lo hi g F m la ln lc l :=
  { h with blk := (hb.block g (by have := h.high; omega)).trans h.blk, lies := h.lies.keep (SameIn.of_below hb hB) }
section
variable {w : World} {lo hi g F : Nat} {m : Int} {la : Option Addr} {ln lc : Nat} {l : List Wn}
theorem Tab.c0 (h : Tab w lo hi g F m la ln lc l) : w.cell? ⟨g, 0, none⟩ = some (.int .i64 m) := cell_in h.blk rfl
theorem Tab.c1 (h : Tab w lo hi g F m la ln lc l) : w.cell? ⟨g, 1, none⟩ = some (.slice la ln lc) := cell_in h.blk rfl
theorem Tab.c2 (h : Tab w lo hi g F m la ln lc l) : w.cell? ⟨g, 2, none⟩ = some (.int .i64 F) := cell_in h.blk rfl
theorem tMade_any (h : Tab w lo hi g F m la ln lc l) :
    Calls Try.prog 34 #[.pointer (some ⟨g, 0, none⟩)] w fun e w' => e = .returned (.bool true) ∧ w = w' := by
  have c2 := h.c2
  have hF : decide (0 < F) = true := decide_eq_true h.f1
  clear h
  go_enter Try.func34, Try.ntmps34
  go_wp2_with fail
  go_ret
  exact ⟨rfl, rfl⟩
theorem tFrame_any (h : Tab w lo hi g F m la ln lc l) :
    Calls Try.prog 16 #[.pointer (some ⟨g, 0, none⟩)] w fun e w' => e = .returned (.int .i64 F) ∧ w = w' := by
  have c2 := h.c2
  have H := Lib.hid h; clear h
  go_enter Try.func16, Try.ntmps16
  go_wp2_with (first | (go_at_call 34; refine (tMade_any H.out).mono ?_; rintro e w' ⟨rfl, rfl⟩))
  go_ret
  exact ⟨rfl, rfl⟩
theorem tPlace_any (h : Tab w lo hi g F m la ln lc l) (t : Int) (t0 : -9223372036854775808 ≤ t) (t1 : t ≤ 9223372036854775807) :
    Calls Try.prog 36 #[.pointer (some ⟨g, 0, none⟩), .int .i64 t] w fun e w' => e = .returned (.int .i64 (t % F)) ∧ w = w' := by
  have c2 := h.c2
  have HR := Lib.hid (rest_pos (a := t) (b := F) (by have := h.f1; omega))
  have hF : (F : Int) ≤ 256 := by have := h.f2; omega
  clear h
  go_enter Try.func36, Try.ntmps36
  go_wp2_with (first | (go_at_call 58; refine (numMod_any _ _ _ t0 t1 (by omega)).mono ?_; rintro e w' ⟨rfl, rfl⟩))
  go_ret
  exact ⟨ret_i HR.out, rfl⟩
set_option maxRecDepth 100000 in
set_option maxHeartbeats 2000000 in
theorem tOwner_any (h : Tab w lo hi g F m la ln lc l) (hhi : hi ≤ w.heap.size) (t : Int) (t0 : -9223372036854775808 ≤ t) (t1 : t ≤ 9223372036854775807) :
    Calls Try.prog 14 #[.pointer (some ⟨g, 0, none⟩), .int .i64 t] w fun e w' => e = .returned (.tuple #[.int .i64 (owner F m l t).1, .int .i64 (owner F m l t).2]) ∧ Below w.heap.size w w' := by
  have H := Lib.hid h
  have KS := Lib.hid (fun (W : World) (hb : Below w.heap.size w W) => (⟨hb, (h.keep hb hhi).c0, (h.keep hb hhi).c1, (h.keep hb hhi).c2⟩ : Below w.heap.size w W ∧ W.cell? ⟨g, 0, none⟩ = some (.int .i64 m) ∧ W.cell? ⟨g, 1, none⟩ = some (.slice la ln lc) ∧ W.cell? ⟨g, 2, none⟩ = some (.int .i64 F)))
  have CO := Lib.hid (fun (W : World) (z : Int) (hb : Below w.heap.size w W) => wOwner_any m la ln lc z W lo hi l F h.len (h.lies.keep (SameIn.of_below hb hhi)) (Nat.le_trans hhi hb.size) h.few h.m0 h.m8 h.ok (by have := h.f2; omega))
  have HO : Hid (owner F m l t = ownAt m l (t % F)) := Lib.hid rfl
  have c0 := h.c0; have c1 := h.c1; have c2 := h.c2
  have hgw : g < w.heap.size := by have := h.high; omega
  clear h
  go_enter Try.func14, Try.ntmps14
  go_wp2_with (first | (go_at_call 34; refine (tMade_any H.out).mono ?_; rintro e w' ⟨rfl, rfl⟩))
  go_region_held3 (fun W => Below w.heap.size w W ∧ W.cell? ⟨g, 0, none⟩ = some (.int .i64 m) ∧ W.cell? ⟨g, 1, none⟩ = some (.slice la ln lc) ∧ W.cell? ⟨g, 2, none⟩ = some (.int .i64 F))
    (first | exact KS.out _ ((Below.refl _ _).drew) | exact KS.out _ (by assumption))
    (first
      | (go_at_call 36; refine (tPlace_any (H.out.keep (by go_split_ands; assumption) hhi) _ t0 t1).mono ?_; rintro e w' ⟨rfl, rfl⟩)
      | (go_at_call 35; refine (CO.out _ _ (by go_split_ands; assumption)).mono ?_; rintro e w2 ⟨rfl, hb5⟩; have hbn : Below w.heap.size w w2 := (by go_split_ands; exact bel_then (by assumption) (Nat.le_refl _) hb5)))
  go_wp2_with fail
  go_ret2
  exact ⟨ret_ii (by rw [HO.out]) (by rw [HO.out]), by assumption⟩
end
end Go.Proofs.Ytiojmekoemlmkaa
