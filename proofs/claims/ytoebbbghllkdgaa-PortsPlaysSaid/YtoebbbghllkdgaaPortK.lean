/- Acts of five ints; num; knows. -/
import Derived.Test.YtoebbbghllkdgaaPortV
namespace Go.Proofs.Ytoebbbghllkdgaa
open Go.ChangeShapes Go.WideShapes Go.ChangeAt Go.RowKit
set_option linter.unusedVariables false

structure A5 where
  k : Int
  p : Int
  c : Int
  v : Int
  t : Int
def A5.cells (a : A5) : List Value := [.int .i64 a.k, .int .i64 a.p, .int .i64 a.c, .int .i64 a.v, .int .i64 a.t]
def A5.In (a : A5) : Prop := I64 a.k ∧ I64 a.p ∧ I64 a.c ∧ I64 a.v ∧ I64 a.t
def aAt (l : List A5) (i : Nat) : A5 := l.getD i ⟨0, 0, 0, 0, 0⟩
theorem aAt_eq {l : List A5} {i : Nat} (h : i < l.length) : aAt l i = l[i] := by unfold aAt; rw [List.getD_eq_getElem?_getD, List.getElem?_eq_getElem h]; rfl
theorem aAt_in {l : List A5} (h : ∀ x ∈ l, x.In) (i : Nat) : (aAt l i).In := by
  unfold aAt
  rw [List.getD_eq_getElem?_getD]
  cases hx : l[i]? with
  | none => exact ⟨by unfold I64; simp, by unfold I64; simp, by unfold I64; simp, by unfold I64; simp, by unfold I64; simp⟩
  | some x => exact h x (List.mem_of_getElem? hx)
theorem acts21_read {w : World} {a : Option Addr} {n c : Nat} {l : List A5} (hn : l.length = n) (hl : Lies w 0 w.heap.size (.slice a n c) n 5 (l.flatMap A5.cells)) : ∀ Y, Below w.heap.size w Y → ∀ i, i < n → ∃ b off, a = some ⟨b, off, none⟩ ∧ (Y.cell? ⟨b, off + i * 5, none⟩ = some (.int .i64 (aAt l i).k) ∧ Y.cell? ⟨b, off + i * 5 + 1, none⟩ = some (.int .i64 (aAt l i).p) ∧ Y.cell? ⟨b, off + i * 5 + 2, none⟩ = some (.int .i64 (aAt l i).c) ∧ Y.cell? ⟨b, off + i * 5 + 3, none⟩ = some (.int .i64 (aAt l i).v) ∧ Y.cell? ⟨b, off + i * 5 + 4, none⟩ = some (.int .i64 (aAt l i).t)) ∧ b < w.heap.size := by
  intro Y hY i hi
  have hx : l[i]? = some (aAt l i) := by rw [aAt_eq (by omega)]; exact List.getElem?_eq_getElem (by omega)
  obtain ⟨a', c', e, _, _, hc⟩ := hl.keep (SameIn.of_below hY (Nat.le_refl _))
  cases e
  rcases hc with h0 | ⟨b, off, rfl, _, hb, hc⟩
  · omega
  · exact ⟨b, off, rfl, ⟨hc _ _ (flat_at A5.cells 5 (fun _ => rfl) l i 0 _ hx (by omega)), hc _ _ (flat_at A5.cells 5 (fun _ => rfl) l i 1 _ hx (by omega)), hc _ _ (flat_at A5.cells 5 (fun _ => rfl) l i 2 _ hx (by omega)), hc _ _ (flat_at A5.cells 5 (fun _ => rfl) l i 3 _ hx (by omega)), hc _ _ (flat_at A5.cells 5 (fun _ => rfl) l i 4 _ hx (by omega))⟩, hb⟩
set_option maxRecDepth 100000 in
set_option maxHeartbeats 4000000 in
theorem num21_any (x : Int) (w : World) : Calls Try.prog 10 #[.int .i64 x] w fun e w' => e = .returned (.int .i64 x) ∧ w' = w := by
  go_enter Try.func10, Try.ntmps10
  go_wp2_with fail
  go_ret
  exact ⟨rfl, rfl⟩
/-- One Queue, to 1. -/
def oneQ (sz : Int) : Ch := ⟨true, 0, 1, sz⟩
theorem pnew_one (sz : Int) (W : World) (B : Nat) (h : W.heap[B]? = some (.cells #[.bool true, .int .i64 0, .int .i64 1, .int .i64 sz] 45 (0, 0))) :
    Calls Try.prog 19 #[.slice (some ⟨B, 0, none⟩) 1 1] W fun e w' => ∃ H S, e = .returned (.pointer (some ⟨H, 0, none⟩)) ∧ PrO H [oneQ sz] (fun _ => Ps.new) w' S ∧ (∀ k, S k → W.heap.size ≤ k) ∧ Below W.heap.size W w' :=
  pnew_any (some ⟨B, 0, none⟩) 1 1 W [oneQ sz] rfl (by omega) ((one_lies h rfl).wider (Nat.zero_le _) (lt_of_block h))
set_option maxRecDepth 100000 in
set_option maxHeartbeats 8000000 in
theorem knows21_any (w : World) : Calls Try.prog 7 #[] w fun e w' => e = .returned (.bool true) ∧ Below w.heap.size w w' := by
  have HN : Hid (Calls Try.prog 19 #[.slice (some ⟨w.heap.size, 0, none⟩) 1 1] (w.alloc (.cells #[.bool true, .int .i64 0, .int .i64 1, .int .i64 1] 45)) fun e w' => ∃ H S, e = .returned (.pointer (some ⟨H, 0, none⟩)) ∧ (PrO H [oneQ 1] (fun _ => Ps.new) w' S ∧ (∀ k, S k → w.heap.size ≤ k) ∧ Below w.heap.size w w')) := Lib.hid ((pnew_one 1 _ _ (heap_alloc_new _ _)).mono (by
    rintro e w' ⟨H, S, rfl, q1, q2, q3⟩
    have hb := below1 w (.cells #[.bool true, .int .i64 0, .int .i64 1, .int .i64 1] 45)
    exact ⟨H, S, rfl, q1, fun k hk => Nat.le_trans hb.size (q2 k hk), hb.trans (q3.mono hb.size)⟩))
  obtain ⟨s1, hs1⟩ : ∃ s : Nat → Ps, s = wrS [oneQ 1] (fun _ => Ps.new) 0 0 5 0 := ⟨_, rfl⟩
  obtain ⟨s2, hs2⟩ : ∃ s : Nat → Ps, s = wrS [oneQ 1] s1 0 0 6 0 := ⟨_, rfl⟩
  obtain ⟨s3, hs3⟩ : ∃ s : Nat → Ps, s = rdS [oneQ 1] s2 1 0 := ⟨_, rfl⟩
  have e1 : s1 0 = ⟨[5], 0, 0⟩ := by rw [hs1]; rfl
  have e2 : s2 0 = ⟨[5], 1, 0⟩ := by
    rw [hs2]
    show (s1 0).put (oneQ 1) 6 0 = _
    rw [e1]
    show (⟨[5], wrap64 (0 + 1), 0⟩ : Ps) = ⟨[5], 1, 0⟩
    rw [show wrap64 (0 + 1) = 1 by unfold wrap64; omega]
  have e3 : s3 0 = ⟨[], 0, 0⟩ := by
    rw [hs3]
    show (s2 0).took (oneQ 1) = _
    rw [e2]; rfl
  have E2 : Hid (rdV [oneQ 1] s2 1 0 = 5 ∧ rdN [oneQ 1] s2 1 0 0 = 1 ∧ rdE [oneQ 1] s2 1 0 = 0) := Lib.hid ⟨by show popV 0 (s2 0).l = 5; rw [e2]; rfl, by show besV (oneQ 1) (s2 0) 0 = 1; rw [e2]; rfl, by show (if anyV (s2 0).l = true then (0 : Int) else 6) = 0; rw [e2]; rfl⟩
  have E3 : Hid (rdE [oneQ 1] s3 1 0 = 6) := Lib.hid (by show (if anyV (s3 0).l = true then (0 : Int) else 6) = 6; rw [e3]; rfl)
  have HW : Hid (wrE [oneQ 1] 0 0 = 0) := Lib.hid rfl
  have HZ : Hid (∀ x ∈ [oneQ 1], I64 x.size) := Lib.hid (by intro x hx; simp at hx; subst hx; unfold I64 oneQ; simp)
  have I0 : Hid (I64 0) := Lib.hid (by unfold I64; simp)
  have HS1 := Lib.hid hs1
  have HS2 := Lib.hid hs2
  have HS3 := Lib.hid hs3
  clear hs1 hs2 hs3 e1 e2 e3
  go_enter Try.func7, Try.ntmps7
  go_wp2_with (first
    | (go_at_call 10; refine (num21_any _ _).mono ?_; rintro e w9 ⟨rfl, hw9⟩; rw [hw9]; clear hw9)
    | (go_at_call 13; have _z := h6; refine (pread_any _ _ _ _ _ _ _ _ h6.out.1 I0.out HZ.out).mono ?_; rintro e w7 ⟨S7, rfl, q1, q2⟩; have h7 := Lib.hid (And.intro q1 (q2.step h6.out.2.2 h6.out.2.1)); rw [E3.out]; clear q1 q2)
    | (go_at_call 13; have _z := h5; refine (pread_any _ _ _ _ _ _ _ _ h5.out.1 I0.out HZ.out).mono ?_; rintro e w6 ⟨S6, rfl, q1, q2⟩; rw [← HS3.out] at q1; have h6 : Hid (PrO H [oneQ 1] s3 w6 S6 ∧ (∀ k, S6 k → w.heap.size ≤ k) ∧ Below w.heap.size w w6) := Lib.hid ⟨q1, (q2.step h5.out.2.2 h5.out.2.1).2, (q2.step h5.out.2.2 h5.out.2.1).1⟩; rw [E2.out.1, E2.out.2.1, E2.out.2.2]; clear q1 q2)
    | (go_at_call 11; have _z := h4; refine (pwrite_any _ _ _ _ _ _ _ _ _ h4.out.1 I0.out).mono ?_; rintro e w5 ⟨S5, rfl, q1, q2⟩; rw [← HS2.out] at q1; have h5 : Hid (PrO H [oneQ 1] s2 w5 S5 ∧ (∀ k, S5 k → w.heap.size ≤ k) ∧ Below w.heap.size w w5) := Lib.hid ⟨q1, (q2.step h4.out.2.2 h4.out.2.1).2, (q2.step h4.out.2.2 h4.out.2.1).1⟩; rw [HW.out]; clear q1 q2)
    | (go_at_call 11; have _z := h3; refine (pwrite_any _ _ _ _ _ _ _ _ _ h3.out.1 I0.out).mono ?_; rintro e w4 ⟨S4, rfl, q1, q2⟩; rw [← HS1.out] at q1; have h4 : Hid (PrO H [oneQ 1] s1 w4 S4 ∧ (∀ k, S4 k → w.heap.size ≤ k) ∧ Below w.heap.size w w4) := Lib.hid ⟨q1, (q2.step h3.out.2.2 h3.out.2.1).2, (q2.step h3.out.2.2 h3.out.2.1).1⟩; rw [HW.out]; clear q1 q2)
    | (go_at_call 19; refine HN.out.mono ?_; rintro e w3 ⟨H, S, rfl, q⟩; have h3 := Lib.hid q; clear q)
    | fail "no arm")
  go_ret
  exact ⟨rfl, h7.out.2.1⟩
end Go.Proofs.Ytoebbbghllkdgaa
