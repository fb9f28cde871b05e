/- The lists of a system put into a writer in memory: how many, then each. -/
import Derived.Test.YtiombjkjoehjpaaImageC
namespace Go.Proofs.Ytiombjkjoehjpaa
open Go.ChangeShapes Go.WideShapes Go.ChangeAt Go.RowKit
set_option linter.unusedVariables false

def headF {α : Type} (f : α → List Fl) (l : List α) (k : Nat) : List Fl := ((1, (l.length : Int)) : Fl) :: (l.take k).flatMap f
theorem headF_next {α : Type} (f : α → List Fl) (l : List α) (k : Nat) (x : α) (h : l[k]? = some x) : headF f l (k + 1) = headF f l k ++ f x := by
  unfold headF; rw [List.take_add_one, h]; simp
theorem headF_split {α : Type} (f : α → List Fl) (l : List α) (k : Nat) : manyF f l = headF f l k ++ (l.drop k).flatMap f := by
  unfold headF manyF
  rw [List.cons_append, ← List.flatMap_append, List.take_append_drop]
theorem headF_end {α : Type} (f : α → List Fl) (l : List α) (k : Nat) (h : l.length ≤ k) : headF f l k = manyF f l := by
  unfold headF manyF; rw [List.take_of_length_le h]
theorem putS_head_none {α : Type} {s : Option (List Fl)} (f : α → List Fl) (l : List α) (k : Nat) (h : putS s (headF f l k) = none) : putS s (manyF f l) = none := by
  rw [headF_split f l k, putS_append, h]; rfl
theorem Room.head {α : Type} {s : Option (List Fl)} {f : α → List Fl} {l : List α} (h : Room s (manyF f l)) : Room s (headF f l 0) := by
  rw [headF_split f l 0] at h; exact h.left
theorem Room.at {α : Type} {s : Option (List Fl)} {f : α → List Fl} {l : List α} (h : Room s (manyF f l)) {k : Nat} {x : α} (hx : l[k]? = some x) : Room (putS s (headF f l k)) (f x) := by
  rw [headF_split f l (k + 1), headF_next f l k x hx, List.append_assoc] at h
  exact h.right.left
theorem WrS.err {w : World} {X : Nat} {s : Option (List Fl)} (h : WrS w X s) : w.cell? ⟨X, 0, none⟩ = some (.int .i64 (if s.isNone then 2 else 0)) := by
  obtain ⟨e, n, p, h1, h2⟩ := h
  have := cell_in (j := 0) h1 rfl
  rw [this]
  cases s with
  | none => rw [show e = 2 from h2]; rfl
  | some fs => rw [h2.1]; rfl
theorem cell_alloc {w : World} {X j : Nat} {u : Value} (h : w.cell? ⟨X, j, none⟩ = some u) (hX : X < w.heap.size) (o : Obj) : (w.alloc o).cell? ⟨X, j, none⟩ = some u := by
  exact ((below1 w o).cell hX).trans h
set_option maxRecDepth 100000 in
set_option maxHeartbeats 2000000 in
theorem wDonees_any (X : Nat) (s : Option (List Fl)) (a : Option Addr) (n c : Nat) (w : World) (lo hi : Nat) (l : List Int) (hw : WrS w X s) (hn : l.length = n) (hl : Lies w lo hi (.slice a n c) n 1 (l.flatMap intCells)) (hX : X < lo ∨ hi ≤ X) (hhi : hi ≤ w.heap.size) (hnb : n ≤ 4611686018427387904) (hr : Room s (manyF (fun d => [(1, d)]) l)) :
    Calls Try.prog 68 #[.agg #[.pointer (some ⟨X, 0, none⟩)], .slice a n c, .func (.func 69) #[] #[]] w fun e w' => e = .returned (.tuple #[]) ∧ WrS w' X (putS s (manyF (fun d => [(1, d)]) l)) ∧ But X w w' := by
  have HX : X < w.heap.size := hw.lt
  have HWS := Lib.hid hw
  have HL := Lib.hid hl
  have HN := Lib.hid hn
  have HR := Lib.hid hr
  have H1 : Hid (sized 1 [(n : Int)] = headF (fun d => [(1, d)]) l 0) := Lib.hid (by rw [← hn]; rfl)
  have HR0 : Hid (Room s (sized 1 [(n : Int)])) := Lib.hid (by rw [H1.out]; exact hr.head)
  clear hw hl hn hr
  go_enter Try.func68, Try.ntmps68
  go_wp2_with (first
    | (go_at_call 39; refine (put_new X s 1 [(n : Int)] (w.heap.size + 1) 1 _ ((HWS.out.keep (below1 _ _)).keep (below1 _ _)) rfl (heap_new_at (by simp)) (by rfl) (by omega) (by omega) (by omega) HR0.out).mono ?_; rintro e w1 ⟨rfl, hw1, hb1⟩))
  have HB1 : Hid (But X w w1) := Lib.hid ((But.of_below ((below1 w _).alloc (by simp) _)).trans hb1)
  have HK1 : Hid (w1.heap[w.heap.size]? = _) := Lib.hid (hb1.at (at_alloc (heap_new_at rfl)) (show w.heap.size ≠ X by omega))
  rw [H1.out] at hw1
  have HW1 := Lib.hid hw1
  clear hb1 hw1
  go_loopw [16] (fun i wr => ∃ (k : Nat), k ≤ n ∧ i = .int .i64 k ∧ Hid (WrS wr X (putS s (headF (fun d => [(1, d)]) l k))) ∧ Hid (But X w wr) ∧ Hid (wr.heap[w.heap.size]? = w1.heap[w.heap.size]?)) (fun i _ => n - (intOf i).toNat)
  case atStart => exact ⟨0, by omega, rfl, HW1, HB1, Lib.hid rfl⟩
  case round =>
    obtain ⟨k, hk, rfl, HW, HBT, HKK⟩ := hrel
    have kb := cell_in (j := 0) (HKK.out.trans HK1.out) rfl
    by_cases hlt : k < n
    · have tk : decide ((k : Int) < (n : Int)) = true := by simpa using hlt
      obtain ⟨x, hx⟩ : ∃ x, l[k]? = some x := ⟨_, List.getElem?_eq_getElem (by rw [HN.out]; exact hlt)⟩
      have HX1 := Lib.hid hx
      have hlies := HL.out.keep (HBT.out.same hX hhi)
      obtain ⟨a2, c2, e2, _, _, hc⟩ := hlies
      cases e2
      rcases hc with h0 | ⟨b, off, rfl, hb1, hb2, hc⟩
      · omega
      have s0 : wr.cell? ⟨b, off + k, none⟩ = some (.int .i64 x) := hc k (.int .i64 x) (by have := flat_at intCells 1 (fun _ => rfl) l k 0 x hx (by omega); simpa [intCells] using this)
      have l0 : (0 : Int) ≤ (k : Int) := by omega
      have l1 : (k : Int) < (n : Int) := by omega
      have kX := HW.out.err
      have hXr : X < wr.heap.size := HW.out.lt
      have hbr : w.heap.size < wr.heap.size := by have := HKK.out.trans HK1.out; exact lt_of_block this
      clear hc hx
      cases hst : putS s (headF (fun d => [(1, d)]) l k) with
      | none =>
        have HNO : Hid (putS s (manyF (fun d => [(1, d)]) l) = none) := Lib.hid (putS_head_none (fun d => [(1, d)]) l k hst)
        rw [hst] at kX
        simp only [Option.isNone_none, if_true] at kX
        have HST := Lib.hid hst
        clear hst
        have kX1 : wr.cell? ⟨X, 0, none⟩ = some (.int .i64 2) := kX
        go_wp2_with (first
          | (go_at_call 20; refine (wErr_any X _ 2 kX1).mono ?_; rintro e w' ⟨rfl, rfl⟩))
        (first | go_end0 | refine bodyPost_ret (results_none rfl _ _ _) rfl ?_)
        have hw9 := HW.out
        rw [HST.out] at hw9
        rw [HNO.out]
        exact ⟨rfl, hw9, HBT.out⟩
      | some fs =>
        rw [hst] at kX
        simp only [Option.isNone_some, Bool.false_eq_true, if_false] at kX
        clear hst
        have HRX := Lib.hid (HR.out.at HX1.out)
        have HBX := Lib.hid (HKK.out.trans HK1.out)
        have kX1 : wr.cell? ⟨X, 0, none⟩ = some (.int .i64 0) := kX
        go_wp2_with (first
          | (go_at_call 20; refine (wErr_any X _ 0 kX1).mono ?_; rintro e w' ⟨rfl, rfl⟩)
          | (go_at_call 69; refine (wDonee_any X _ x _ HW.out HRX.out).mono ?_; rintro e w2 ⟨rfl, hw2, hb2⟩))
        go_roundw
        case rel => exact ⟨k + 1, by omega, by go_num, Lib.hid (by rw [headF_next _ _ _ _ HX1.out, putS_append]; exact hw2), Lib.hid (HBT.out.trans hb2), Lib.hid ((hb2.at HBX.out (show w.heap.size ≠ X by omega)).trans HK1.out.symm)⟩
        case measure => simp [intOf]; omega
    · have tk : decide ((k : Int) < (n : Int)) = false := by simp; omega
      have HE : Hid (headF (fun d => [(1, d)]) l k = manyF (fun d => [(1, d)]) l) := Lib.hid (headF_end _ _ _ (by rw [HN.out]; omega))
      go_wp2_with fail
      (first | go_end0 | refine bodyPost_ret (results_none rfl _ _ _) rfl ?_)
      rw [HE.out] at HW
      exact ⟨rfl, HW.out, HBT.out⟩
set_option maxRecDepth 100000 in
set_option maxHeartbeats 2000000 in
theorem wWindows_any (X : Nat) (s : Option (List Fl)) (a : Option Addr) (n c : Nat) (w : World) (lo hi : Nat) (l : List Wn) (hw : WrS w X s) (hn : l.length = n) (hl : Lies w lo hi (.slice a n c) n 3 (l.flatMap Wn.cells)) (hX : X < lo ∨ hi ≤ X) (hhi : hi ≤ w.heap.size) (hnb : n ≤ 4611686018427387904) (hr : Room s (manyF wnF l)) :
    Calls Try.prog 40 #[.agg #[.pointer (some ⟨X, 0, none⟩)], .slice a n c, .func (.func 41) #[] #[]] w fun e w' => e = .returned (.tuple #[]) ∧ WrS w' X (putS s (manyF wnF l)) ∧ But X w w' := by
  have HX : X < w.heap.size := hw.lt
  have HWS := Lib.hid hw
  have HL := Lib.hid hl
  have HN := Lib.hid hn
  have HR := Lib.hid hr
  have H1 : Hid (sized 1 [(n : Int)] = headF wnF l 0) := Lib.hid (by rw [← hn]; rfl)
  have HR0 : Hid (Room s (sized 1 [(n : Int)])) := Lib.hid (by rw [H1.out]; exact hr.head)
  clear hw hl hn hr
  go_enter Try.func40, Try.ntmps40
  go_wp2_with (first
    | (go_at_call 39; refine (put_new X s 1 [(n : Int)] (w.heap.size + 1) 1 _ ((HWS.out.keep (below1 _ _)).keep (below1 _ _)) rfl (heap_new_at (by simp)) (by rfl) (by omega) (by omega) (by omega) HR0.out).mono ?_; rintro e w1 ⟨rfl, hw1, hb1⟩))
  have HB1 : Hid (But X w w1) := Lib.hid ((But.of_below ((below1 w _).alloc (by simp) _)).trans hb1)
  have HK1 : Hid (w1.heap[w.heap.size]? = _) := Lib.hid (hb1.at (at_alloc (heap_new_at rfl)) (show w.heap.size ≠ X by omega))
  rw [H1.out] at hw1
  have HW1 := Lib.hid hw1
  clear hb1 hw1
  go_loopw [16] (fun i wr => ∃ (k : Nat), k ≤ n ∧ i = .int .i64 k ∧ Hid (WrS wr X (putS s (headF wnF l k))) ∧ Hid (But X w wr) ∧ Hid (wr.heap[w.heap.size]? = w1.heap[w.heap.size]?)) (fun i _ => n - (intOf i).toNat)
  case atStart => exact ⟨0, by omega, rfl, HW1, HB1, Lib.hid rfl⟩
  case round =>
    obtain ⟨k, hk, rfl, HW, HBT, HKK⟩ := hrel
    have kb := cell_in (j := 0) (HKK.out.trans HK1.out) rfl
    by_cases hlt : k < n
    · have tk : decide ((k : Int) < (n : Int)) = true := by simpa using hlt
      obtain ⟨x, hx⟩ : ∃ x, l[k]? = some x := ⟨_, List.getElem?_eq_getElem (by rw [HN.out]; exact hlt)⟩
      have HX1 := Lib.hid hx
      have hlies := HL.out.keep (HBT.out.same hX hhi)
      obtain ⟨a2, c2, e2, _, _, hc⟩ := hlies
      cases e2
      rcases hc with h0 | ⟨b, off, rfl, hb1, hb2, hc⟩
      · omega
      obtain ⟨s0, s1, s2⟩ := Lies.wn hc hx
      obtain ⟨xa, xn, xp⟩ := x
      simp only at s0 s1 s2
      have l0 : (0 : Int) ≤ (k : Int) := by omega
      have l1 : (k : Int) < (n : Int) := by omega
      have kX := HW.out.err
      have hXr : X < wr.heap.size := HW.out.lt
      have hbr : w.heap.size < wr.heap.size := by have := HKK.out.trans HK1.out; exact lt_of_block this
      clear hc hx
      cases hst : putS s (headF wnF l k) with
      | none =>
        have HNO : Hid (putS s (manyF wnF l) = none) := Lib.hid (putS_head_none wnF l k hst)
        rw [hst] at kX
        simp only [Option.isNone_none, if_true] at kX
        have HST := Lib.hid hst
        clear hst
        have kX1 : (wr.alloc (.cells #[.int .i64 xa, .int .i64 xn, .int .i64 xp] 71 (0, 0))).cell? ⟨X, 0, none⟩ = some (.int .i64 2) := cell_alloc kX hXr _
        go_wp2_with (first
          | (go_at_call 20; refine (wErr_any X _ 2 kX1).mono ?_; rintro e w' ⟨rfl, rfl⟩))
        (first | go_end0 | refine bodyPost_ret (results_none rfl _ _ _) rfl ?_)
        have hw9 := HW.out
        rw [HST.out] at hw9
        rw [HNO.out]
        exact ⟨rfl, hw9.keep (below1 _ _), HBT.out.alloc _⟩
      | some fs =>
        rw [hst] at kX
        simp only [Option.isNone_some, Bool.false_eq_true, if_false] at kX
        clear hst
        have HRX := Lib.hid (HR.out.at HX1.out)
        have HBX := Lib.hid (HKK.out.trans HK1.out)
        have kX1 : (wr.alloc (.cells #[.int .i64 xa, .int .i64 xn, .int .i64 xp] 71 (0, 0))).cell? ⟨X, 0, none⟩ = some (.int .i64 0) := cell_alloc kX hXr _
        go_wp2_with (first
          | (go_at_call 20; refine (wErr_any X _ 0 kX1).mono ?_; rintro e w' ⟨rfl, rfl⟩)
          | (go_at_call 41; refine (wWindow_any X _ xa xn xp _ (HW.out.keep (below1 _ _)) HRX.out).mono ?_; rintro e w2 ⟨rfl, hw2, hb2⟩))
        go_roundw
        case rel => exact ⟨k + 1, by omega, by go_num, Lib.hid (by rw [headF_next _ _ _ _ HX1.out, putS_append]; exact hw2), Lib.hid ((HBT.out.alloc _).trans hb2), Lib.hid ((hb2.at (at_alloc HBX.out) (show w.heap.size ≠ X by omega)).trans HK1.out.symm)⟩
        case measure => simp [intOf]; omega
    · have tk : decide ((k : Int) < (n : Int)) = false := by simp; omega
      have HE : Hid (headF wnF l k = manyF wnF l) := Lib.hid (headF_end _ _ _ (by rw [HN.out]; omega))
      go_wp2_with fail
      (first | go_end0 | refine bodyPost_ret (results_none rfl _ _ _) rfl ?_)
      rw [HE.out] at HW
      exact ⟨rfl, HW.out, HBT.out⟩
set_option maxRecDepth 100000 in
set_option maxHeartbeats 2000000 in
theorem wChannels_any (X : Nat) (s : Option (List Fl)) (a : Option Addr) (n c : Nat) (w : World) (lo hi : Nat) (l : List Ch) (hw : WrS w X s) (hn : l.length = n) (hl : Lies w lo hi (.slice a n c) n 4 (l.flatMap Ch.cells)) (hX : X < lo ∨ hi ≤ X) (hhi : hi ≤ w.heap.size) (hnb : n ≤ 4611686018427387904) (hr : Room s (manyF chF l)) :
    Calls Try.prog 44 #[.agg #[.pointer (some ⟨X, 0, none⟩)], .slice a n c, .func (.func 45) #[] #[]] w fun e w' => e = .returned (.tuple #[]) ∧ WrS w' X (putS s (manyF chF l)) ∧ But X w w' := by
  have HX : X < w.heap.size := hw.lt
  have HWS := Lib.hid hw
  have HL := Lib.hid hl
  have HN := Lib.hid hn
  have HR := Lib.hid hr
  have H1 : Hid (sized 1 [(n : Int)] = headF chF l 0) := Lib.hid (by rw [← hn]; rfl)
  have HR0 : Hid (Room s (sized 1 [(n : Int)])) := Lib.hid (by rw [H1.out]; exact hr.head)
  clear hw hl hn hr
  go_enter Try.func44, Try.ntmps44
  go_wp2_with (first
    | (go_at_call 39; refine (put_new X s 1 [(n : Int)] (w.heap.size + 1) 1 _ ((HWS.out.keep (below1 _ _)).keep (below1 _ _)) rfl (heap_new_at (by simp)) (by rfl) (by omega) (by omega) (by omega) HR0.out).mono ?_; rintro e w1 ⟨rfl, hw1, hb1⟩))
  have HB1 : Hid (But X w w1) := Lib.hid ((But.of_below ((below1 w _).alloc (by simp) _)).trans hb1)
  have HK1 : Hid (w1.heap[w.heap.size]? = _) := Lib.hid (hb1.at (at_alloc (heap_new_at rfl)) (show w.heap.size ≠ X by omega))
  rw [H1.out] at hw1
  have HW1 := Lib.hid hw1
  clear hb1 hw1
  go_loopw [16] (fun i wr => ∃ (k : Nat), k ≤ n ∧ i = .int .i64 k ∧ Hid (WrS wr X (putS s (headF chF l k))) ∧ Hid (But X w wr) ∧ Hid (wr.heap[w.heap.size]? = w1.heap[w.heap.size]?)) (fun i _ => n - (intOf i).toNat)
  case atStart => exact ⟨0, by omega, rfl, HW1, HB1, Lib.hid rfl⟩
  case round =>
    obtain ⟨k, hk, rfl, HW, HBT, HKK⟩ := hrel
    have kb := cell_in (j := 0) (HKK.out.trans HK1.out) rfl
    by_cases hlt : k < n
    · have tk : decide ((k : Int) < (n : Int)) = true := by simpa using hlt
      obtain ⟨x, hx⟩ : ∃ x, l[k]? = some x := ⟨_, List.getElem?_eq_getElem (by rw [HN.out]; exact hlt)⟩
      have HX1 := Lib.hid hx
      have hlies := HL.out.keep (HBT.out.same hX hhi)
      obtain ⟨a2, c2, e2, _, _, hc⟩ := hlies
      cases e2
      rcases hc with h0 | ⟨b, off, rfl, hb1, hb2, hc⟩
      · omega
      obtain ⟨s0, s1, s2, s3⟩ := Lies.ch hc hx
      obtain ⟨xq, xf, xt, xs⟩ := x
      simp only at s0 s1 s2 s3
      have l0 : (0 : Int) ≤ (k : Int) := by omega
      have l1 : (k : Int) < (n : Int) := by omega
      have kX := HW.out.err
      have hXr : X < wr.heap.size := HW.out.lt
      have hbr : w.heap.size < wr.heap.size := by have := HKK.out.trans HK1.out; exact lt_of_block this
      clear hc hx
      cases hst : putS s (headF chF l k) with
      | none =>
        have HNO : Hid (putS s (manyF chF l) = none) := Lib.hid (putS_head_none chF l k hst)
        rw [hst] at kX
        simp only [Option.isNone_none, if_true] at kX
        have HST := Lib.hid hst
        clear hst
        have kX1 : (wr.alloc (.cells #[.bool xq, .int .i64 xf, .int .i64 xt, .int .i64 xs] 79 (0, 0))).cell? ⟨X, 0, none⟩ = some (.int .i64 2) := cell_alloc kX hXr _
        go_wp2_with (first
          | (go_at_call 20; refine (wErr_any X _ 2 kX1).mono ?_; rintro e w' ⟨rfl, rfl⟩))
        (first | go_end0 | refine bodyPost_ret (results_none rfl _ _ _) rfl ?_)
        have hw9 := HW.out
        rw [HST.out] at hw9
        rw [HNO.out]
        exact ⟨rfl, hw9.keep (below1 _ _), HBT.out.alloc _⟩
      | some fs =>
        rw [hst] at kX
        simp only [Option.isNone_some, Bool.false_eq_true, if_false] at kX
        clear hst
        have HRX := Lib.hid (HR.out.at HX1.out)
        have HBX := Lib.hid (HKK.out.trans HK1.out)
        have kX1 : (wr.alloc (.cells #[.bool xq, .int .i64 xf, .int .i64 xt, .int .i64 xs] 79 (0, 0))).cell? ⟨X, 0, none⟩ = some (.int .i64 0) := cell_alloc kX hXr _
        go_wp2_with (first
          | (go_at_call 20; refine (wErr_any X _ 0 kX1).mono ?_; rintro e w' ⟨rfl, rfl⟩)
          | (go_at_call 45; refine (wChannel_any X _ xq xf xt xs _ (HW.out.keep (below1 _ _)) HRX.out).mono ?_; rintro e w2 ⟨rfl, hw2, hb2⟩))
        go_roundw
        case rel => exact ⟨k + 1, by omega, by go_num, Lib.hid (by rw [headF_next _ _ _ _ HX1.out, putS_append]; exact hw2), Lib.hid ((HBT.out.alloc _).trans hb2), Lib.hid ((hb2.at (at_alloc HBX.out) (show w.heap.size ≠ X by omega)).trans HK1.out.symm)⟩
        case measure => simp [intOf]; omega
    · have tk : decide ((k : Int) < (n : Int)) = false := by simp; omega
      have HE : Hid (headF chF l k = manyF chF l) := Lib.hid (headF_end _ _ _ (by rw [HN.out]; omega))
      go_wp2_with fail
      (first | go_end0 | refine bodyPost_ret (results_none rfl _ _ _) rfl ?_)
      rw [HE.out] at HW
      exact ⟨rfl, HW.out, HBT.out⟩
set_option maxRecDepth 100000 in
set_option maxHeartbeats 2000000 in
theorem wTasks_any (X : Nat) (s : Option (List Fl)) (a : Option Addr) (n c : Nat) (w : World) (lo hi : Nat) (l : List Tk) (hw : WrS w X s) (hn : l.length = n) (hl : Lies w lo hi (.slice a n c) n 6 (l.flatMap Tk.cells)) (hX : X < lo ∨ hi ≤ X) (hhi : hi ≤ w.heap.size) (hnb : n ≤ 4611686018427387904) (hr : Room s (manyF tkF l)) :
    Calls Try.prog 64 #[.agg #[.pointer (some ⟨X, 0, none⟩)], .slice a n c, .func (.func 65) #[] #[]] w fun e w' => e = .returned (.tuple #[]) ∧ WrS w' X (putS s (manyF tkF l)) ∧ But X w w' := by
  have HX : X < w.heap.size := hw.lt
  have HWS := Lib.hid hw
  have HL := Lib.hid hl
  have HN := Lib.hid hn
  have HR := Lib.hid hr
  have H1 : Hid (sized 1 [(n : Int)] = headF tkF l 0) := Lib.hid (by rw [← hn]; rfl)
  have HR0 : Hid (Room s (sized 1 [(n : Int)])) := Lib.hid (by rw [H1.out]; exact hr.head)
  clear hw hl hn hr
  go_enter Try.func64, Try.ntmps64
  go_wp2_with (first
    | (go_at_call 39; refine (put_new X s 1 [(n : Int)] (w.heap.size + 1) 1 _ ((HWS.out.keep (below1 _ _)).keep (below1 _ _)) rfl (heap_new_at (by simp)) (by rfl) (by omega) (by omega) (by omega) HR0.out).mono ?_; rintro e w1 ⟨rfl, hw1, hb1⟩))
  have HB1 : Hid (But X w w1) := Lib.hid ((But.of_below ((below1 w _).alloc (by simp) _)).trans hb1)
  have HK1 : Hid (w1.heap[w.heap.size]? = _) := Lib.hid (hb1.at (at_alloc (heap_new_at rfl)) (show w.heap.size ≠ X by omega))
  rw [H1.out] at hw1
  have HW1 := Lib.hid hw1
  clear hb1 hw1
  go_loopw [16] (fun i wr => ∃ (k : Nat), k ≤ n ∧ i = .int .i64 k ∧ Hid (WrS wr X (putS s (headF tkF l k))) ∧ Hid (But X w wr) ∧ Hid (wr.heap[w.heap.size]? = w1.heap[w.heap.size]?)) (fun i _ => n - (intOf i).toNat)
  case atStart => exact ⟨0, by omega, rfl, HW1, HB1, Lib.hid rfl⟩
  case round =>
    obtain ⟨k, hk, rfl, HW, HBT, HKK⟩ := hrel
    have kb := cell_in (j := 0) (HKK.out.trans HK1.out) rfl
    by_cases hlt : k < n
    · have tk : decide ((k : Int) < (n : Int)) = true := by simpa using hlt
      obtain ⟨x, hx⟩ : ∃ x, l[k]? = some x := ⟨_, List.getElem?_eq_getElem (by rw [HN.out]; exact hlt)⟩
      have HX1 := Lib.hid hx
      have hlies := HL.out.keep (HBT.out.same hX hhi)
      obtain ⟨a2, c2, e2, _, _, hc⟩ := hlies
      cases e2
      rcases hc with h0 | ⟨b, off, rfl, hb1, hb2, hc⟩
      · omega
      obtain ⟨s0, s1, s2, s3, s4, s5⟩ := Lies.tk hc hx
      obtain ⟨xh, xt, xd, xv, xl, xp⟩ := x
      simp only at s0 s1 s2 s3 s4 s5
      have l0 : (0 : Int) ≤ (k : Int) := by omega
      have l1 : (k : Int) < (n : Int) := by omega
      have kX := HW.out.err
      have hXr : X < wr.heap.size := HW.out.lt
      have hbr : w.heap.size < wr.heap.size := by have := HKK.out.trans HK1.out; exact lt_of_block this
      clear hc hx
      cases hst : putS s (headF tkF l k) with
      | none =>
        have HNO : Hid (putS s (manyF tkF l) = none) := Lib.hid (putS_head_none tkF l k hst)
        rw [hst] at kX
        simp only [Option.isNone_none, if_true] at kX
        have HST := Lib.hid hst
        clear hst
        have kX1 : (wr.alloc (.cells #[.bool xh, .int .i64 xt, .int .i64 xd, .int .i64 xv, .int .i64 xl, .int .i64 xp] 120 (0, 0))).cell? ⟨X, 0, none⟩ = some (.int .i64 2) := cell_alloc kX hXr _
        go_wp2_with (first
          | (go_at_call 20; refine (wErr_any X _ 2 kX1).mono ?_; rintro e w' ⟨rfl, rfl⟩))
        (first | go_end0 | refine bodyPost_ret (results_none rfl _ _ _) rfl ?_)
        have hw9 := HW.out
        rw [HST.out] at hw9
        rw [HNO.out]
        exact ⟨rfl, hw9.keep (below1 _ _), HBT.out.alloc _⟩
      | some fs =>
        rw [hst] at kX
        simp only [Option.isNone_some, Bool.false_eq_true, if_false] at kX
        clear hst
        have HRX := Lib.hid (HR.out.at HX1.out)
        have HBX := Lib.hid (HKK.out.trans HK1.out)
        have kX1 : (wr.alloc (.cells #[.bool xh, .int .i64 xt, .int .i64 xd, .int .i64 xv, .int .i64 xl, .int .i64 xp] 120 (0, 0))).cell? ⟨X, 0, none⟩ = some (.int .i64 0) := cell_alloc kX hXr _
        go_wp2_with (first
          | (go_at_call 20; refine (wErr_any X _ 0 kX1).mono ?_; rintro e w' ⟨rfl, rfl⟩)
          | (go_at_call 65; refine (wTask_any X _ xh xt xd xv xl xp _ (HW.out.keep (below1 _ _)) HRX.out).mono ?_; rintro e w2 ⟨rfl, hw2, hb2⟩))
        go_roundw
        case rel => exact ⟨k + 1, by omega, by go_num, Lib.hid (by rw [headF_next _ _ _ _ HX1.out, putS_append]; exact hw2), Lib.hid ((HBT.out.alloc _).trans hb2), Lib.hid ((hb2.at (at_alloc HBX.out) (show w.heap.size ≠ X by omega)).trans HK1.out.symm)⟩
        case measure => simp [intOf]; omega
    · have tk : decide ((k : Int) < (n : Int)) = false := by simp; omega
      have HE : Hid (headF tkF l k = manyF tkF l) := Lib.hid (headF_end _ _ _ (by rw [HN.out]; omega))
      go_wp2_with fail
      (first | go_end0 | refine bodyPost_ret (results_none rfl _ _ _) rfl ?_)
      rw [HE.out] at HW
      exact ⟨rfl, HW.out, HBT.out⟩
set_option maxRecDepth 100000 in
set_option maxHeartbeats 2000000 in
theorem wServers_any (X : Nat) (s : Option (List Fl)) (a : Option Addr) (n c : Nat) (w : World) (lo hi : Nat) (l : List Sv) (hw : WrS w X s) (hn : l.length = n) (hl : Lies w lo hi (.slice a n c) n 3 (l.flatMap Sv.cells)) (hX : X < lo ∨ hi ≤ X) (hhi : hi ≤ w.heap.size) (hnb : n ≤ 4611686018427387904) (hr : Room s (manyF svF l)) :
    Calls Try.prog 66 #[.agg #[.pointer (some ⟨X, 0, none⟩)], .slice a n c, .func (.func 67) #[] #[]] w fun e w' => e = .returned (.tuple #[]) ∧ WrS w' X (putS s (manyF svF l)) ∧ But X w w' := by
  have HX : X < w.heap.size := hw.lt
  have HWS := Lib.hid hw
  have HL := Lib.hid hl
  have HN := Lib.hid hn
  have HR := Lib.hid hr
  have H1 : Hid (sized 1 [(n : Int)] = headF svF l 0) := Lib.hid (by rw [← hn]; rfl)
  have HR0 : Hid (Room s (sized 1 [(n : Int)])) := Lib.hid (by rw [H1.out]; exact hr.head)
  clear hw hl hn hr
  go_enter Try.func66, Try.ntmps66
  go_wp2_with (first
    | (go_at_call 39; refine (put_new X s 1 [(n : Int)] (w.heap.size + 1) 1 _ ((HWS.out.keep (below1 _ _)).keep (below1 _ _)) rfl (heap_new_at (by simp)) (by rfl) (by omega) (by omega) (by omega) HR0.out).mono ?_; rintro e w1 ⟨rfl, hw1, hb1⟩))
  have HB1 : Hid (But X w w1) := Lib.hid ((But.of_below ((below1 w _).alloc (by simp) _)).trans hb1)
  have HK1 : Hid (w1.heap[w.heap.size]? = _) := Lib.hid (hb1.at (at_alloc (heap_new_at rfl)) (show w.heap.size ≠ X by omega))
  rw [H1.out] at hw1
  have HW1 := Lib.hid hw1
  clear hb1 hw1
  go_loopw [16] (fun i wr => ∃ (k : Nat), k ≤ n ∧ i = .int .i64 k ∧ Hid (WrS wr X (putS s (headF svF l k))) ∧ Hid (But X w wr) ∧ Hid (wr.heap[w.heap.size]? = w1.heap[w.heap.size]?)) (fun i _ => n - (intOf i).toNat)
  case atStart => exact ⟨0, by omega, rfl, HW1, HB1, Lib.hid rfl⟩
  case round =>
    obtain ⟨k, hk, rfl, HW, HBT, HKK⟩ := hrel
    have kb := cell_in (j := 0) (HKK.out.trans HK1.out) rfl
    by_cases hlt : k < n
    · have tk : decide ((k : Int) < (n : Int)) = true := by simpa using hlt
      obtain ⟨x, hx⟩ : ∃ x, l[k]? = some x := ⟨_, List.getElem?_eq_getElem (by rw [HN.out]; exact hlt)⟩
      have HX1 := Lib.hid hx
      have hlies := HL.out.keep (HBT.out.same hX hhi)
      obtain ⟨a2, c2, e2, _, _, hc⟩ := hlies
      cases e2
      rcases hc with h0 | ⟨b, off, rfl, hb1, hb2, hc⟩
      · omega
      obtain ⟨s0, s1, s2⟩ := Lies.sv hc hx
      obtain ⟨xr, xc, xt⟩ := x
      simp only at s0 s1 s2
      have l0 : (0 : Int) ≤ (k : Int) := by omega
      have l1 : (k : Int) < (n : Int) := by omega
      have kX := HW.out.err
      have hXr : X < wr.heap.size := HW.out.lt
      have hbr : w.heap.size < wr.heap.size := by have := HKK.out.trans HK1.out; exact lt_of_block this
      clear hc hx
      cases hst : putS s (headF svF l k) with
      | none =>
        have HNO : Hid (putS s (manyF svF l) = none) := Lib.hid (putS_head_none svF l k hst)
        rw [hst] at kX
        simp only [Option.isNone_none, if_true] at kX
        have HST := Lib.hid hst
        clear hst
        have kX1 : (wr.alloc (.cells #[.bool xr, .int .i64 xc, .int .i64 xt] 123 (0, 0))).cell? ⟨X, 0, none⟩ = some (.int .i64 2) := cell_alloc kX hXr _
        go_wp2_with (first
          | (go_at_call 20; refine (wErr_any X _ 2 kX1).mono ?_; rintro e w' ⟨rfl, rfl⟩))
        (first | go_end0 | refine bodyPost_ret (results_none rfl _ _ _) rfl ?_)
        have hw9 := HW.out
        rw [HST.out] at hw9
        rw [HNO.out]
        exact ⟨rfl, hw9.keep (below1 _ _), HBT.out.alloc _⟩
      | some fs =>
        rw [hst] at kX
        simp only [Option.isNone_some, Bool.false_eq_true, if_false] at kX
        clear hst
        have HRX := Lib.hid (HR.out.at HX1.out)
        have HBX := Lib.hid (HKK.out.trans HK1.out)
        have kX1 : (wr.alloc (.cells #[.bool xr, .int .i64 xc, .int .i64 xt] 123 (0, 0))).cell? ⟨X, 0, none⟩ = some (.int .i64 0) := cell_alloc kX hXr _
        go_wp2_with (first
          | (go_at_call 20; refine (wErr_any X _ 0 kX1).mono ?_; rintro e w' ⟨rfl, rfl⟩)
          | (go_at_call 67; refine (wServer_any X _ xr xc xt _ (HW.out.keep (below1 _ _)) HRX.out).mono ?_; rintro e w2 ⟨rfl, hw2, hb2⟩))
        go_roundw
        case rel => exact ⟨k + 1, by omega, by go_num, Lib.hid (by rw [headF_next _ _ _ _ HX1.out, putS_append]; exact hw2), Lib.hid ((HBT.out.alloc _).trans hb2), Lib.hid ((hb2.at (at_alloc HBX.out) (show w.heap.size ≠ X by omega)).trans HK1.out.symm)⟩
        case measure => simp [intOf]; omega
    · have tk : decide ((k : Int) < (n : Int)) = false := by simp; omega
      have HE : Hid (headF svF l k = manyF svF l) := Lib.hid (headF_end _ _ _ (by rw [HN.out]; omega))
      go_wp2_with fail
      (first | go_end0 | refine bodyPost_ret (results_none rfl _ _ _) rfl ?_)
      rw [HE.out] at HW
      exact ⟨rfl, HW.out, HBT.out⟩
end Go.Proofs.Ytiombjkjoehjpaa
