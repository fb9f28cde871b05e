/- The program's channels: every call, whatever the number; Clear; and no channels. -/
import Derived.Test.YtoebbbghllkdgaaPortW
namespace Go.Proofs.Ytoebbbghllkdgaa
open Go.ChangeShapes Go.WideShapes Go.ChangeAt Go.RowKit
set_option linter.unusedVariables false

set_option maxRecDepth 100000 in
set_option maxHeartbeats 4000000 in
theorem pno_write (w : World) (q : Option Addr) (p c v now : Int) (HH : Hid (Calls Try.prog 20 #[.pointer q, .int .i64 c] w fun e w' => e = .returned (.bool false) ∧ w' = w)) :
    Calls Try.prog 11 #[.pointer q, .int .i64 p, .int .i64 c, .int .i64 v, .int .i64 now] w fun e w' => e = .returned (.int .i64 1) ∧ w' = w := by
  go_enter Try.func11, Try.ntmps11
  go_wp2_with (first
    | (go_at_call 20; refine HH.out.mono ?_; rintro e w3 ⟨rfl, hw3⟩; rw [hw3]; clear hw3)
    | fail "no arm")
  go_ret
  exact ⟨rfl, rfl⟩
set_option maxRecDepth 100000 in
set_option maxHeartbeats 4000000 in
theorem pno_read (w : World) (q : Option Addr) (p c now : Int) (HH : Hid (Calls Try.prog 20 #[.pointer q, .int .i64 c] w fun e w' => e = .returned (.bool false) ∧ w' = w)) :
    Calls Try.prog 13 #[.pointer q, .int .i64 p, .int .i64 c, .int .i64 now] w fun e w' => e = .returned (.tuple #[.int .i64 0, .int .i64 0, .int .i64 1]) ∧ w' = w := by
  go_enter Try.func13, Try.ntmps13
  go_wp2_with (first
    | (go_at_call 20; refine HH.out.mono ?_; rintro e w3 ⟨rfl, hw3⟩; rw [hw3]; clear hw3)
    | fail "no arm")
  go_ret3
  exact ⟨rfl, rfl⟩
set_option maxRecDepth 100000 in
set_option maxHeartbeats 4000000 in
theorem pno_wait (w : World) (q : Option Addr) (c : Int) (HH : Hid (Calls Try.prog 20 #[.pointer q, .int .i64 c] w fun e w' => e = .returned (.bool false) ∧ w' = w)) :
    Calls Try.prog 17 #[.pointer q, .int .i64 c] w fun e w' => e = .returned (.int .i64 0) ∧ w' = w := by
  go_enter Try.func17, Try.ntmps17
  go_wp2_with (first
    | (go_at_call 20; refine HH.out.mono ?_; rintro e w3 ⟨rfl, hw3⟩; rw [hw3]; clear hw3)
    | fail "no arm")
  go_ret
  exact ⟨rfl, rfl⟩
set_option maxRecDepth 100000 in
set_option maxHeartbeats 4000000 in
theorem phas_nil (w : World) (c : Int) : Calls Try.prog 20 #[.pointer none, .int .i64 c] w fun e w' => e = .returned (.bool false) ∧ w' = w := by
  go_enter Try.func20, Try.ntmps20
  go_wp2_with fail
  go_ret
  exact ⟨rfl, rfl⟩
set_option maxRecDepth 100000 in
set_option maxHeartbeats 4000000 in
theorem pclear_nil (w : World) (p : Int) : Calls Try.prog 15 #[.pointer none, .int .i64 p] w fun e w' => e = .returned (.tuple #[]) ∧ w' = w := by
  go_enter Try.func15, Try.ntmps15
  go_wp2_with fail
  ((try simp only [Exit.inBlock, Exit.then]); refine bodyPost_ret (results_none rfl _ _ _) rfl ?_)
  exact ⟨rfl, rfl⟩
theorem pwrite_any (w : World) (H : Nat) (cs : List Ch) (st : Nat → Ps) (S : Nat → Prop) (p c v now : Int) (h : PrO H cs st w S) (hn : I64 now) :
    Calls Try.prog 11 #[.pointer (some ⟨H, 0, none⟩), .int .i64 p, .int .i64 c, .int .i64 v, .int .i64 now] w fun e w' => ∃ S', e = .returned (.int .i64 (wrE cs p c)) ∧ PrO H cs (wrS cs st p c v now) w' S' ∧ GrowS S S' w w' := by
  unfold wrE wrS
  cases hc : chan cs c with
  | none =>
    obtain ⟨ao, cap, h1, _⟩ := h.box
    refine (pno_write w _ p c v now (Lib.hid (by have := phas_any w H _ _ _ c h1; rw [(chan_none hc).1] at this; exact this))).mono ?_
    rintro e w' ⟨rfl, rfl⟩
    exact ⟨S, rfl, h, GrowS.of_below (Below.refl _ _)⟩
  | some kx =>
    obtain ⟨k, x⟩ := kx
    obtain ⟨rfl, hx, hk, hin⟩ := chan_some hc
    cases hq : x.queue with
    | true => exact pwrite_q w H cs st S p v now k x h hx hq hn hin hk
    | false => exact pwrite_s w H cs st S p v now k x h hx hq hn hin hk
theorem pread_any (w : World) (H : Nat) (cs : List Ch) (st : Nat → Ps) (S : Nat → Prop) (p c now : Int) (h : PrO H cs st w S) (hn : I64 now) (hs : ∀ x ∈ cs, I64 x.size) :
    Calls Try.prog 13 #[.pointer (some ⟨H, 0, none⟩), .int .i64 p, .int .i64 c, .int .i64 now] w fun e w' => ∃ S', e = .returned (.tuple #[.int .i64 (rdV cs st p c), .int .i64 (rdN cs st p c now), .int .i64 (rdE cs st p c)]) ∧ PrO H cs (rdS cs st p c) w' S' ∧ GrowS S S' w w' := by
  unfold rdV rdN rdE rdS
  cases hc : chan cs c with
  | none =>
    obtain ⟨ao, cap, h1, _⟩ := h.box
    refine (pno_read w _ p c now (Lib.hid (by have := phas_any w H _ _ _ c h1; rw [(chan_none hc).1] at this; exact this))).mono ?_
    rintro e w' ⟨rfl, rfl⟩
    exact ⟨S, rfl, h, GrowS.of_below (Below.refl _ _)⟩
  | some kx =>
    obtain ⟨k, x⟩ := kx
    obtain ⟨rfl, hx, hk, hin⟩ := chan_some hc
    have hs' := hs x (List.mem_of_getElem? hx)
    cases hq : x.queue with
    | true => exact pread_q w H cs st S p now k x h hx hq hn hs' hin hk
    | false => exact pread_s w H cs st S p now k x h hx hq hn hs' hin hk
theorem pwait_any (w : World) (H : Nat) (cs : List Ch) (st : Nat → Ps) (S : Nat → Prop) (c : Int) (h : PrO H cs st w S) :
    Calls Try.prog 17 #[.pointer (some ⟨H, 0, none⟩), .int .i64 c] w fun e w' => e = .returned (.int .i64 (waV cs st c)) ∧ Below w.heap.size w w' := by
  unfold waV
  cases hc : chan cs c with
  | none =>
    obtain ⟨ao, cap, h1, _⟩ := h.box
    refine (pno_wait w _ c (Lib.hid (by have := phas_any w H _ _ _ c h1; rw [(chan_none hc).1] at this; exact this))).mono ?_
    rintro e w' ⟨rfl, rfl⟩
    exact ⟨rfl, Below.refl _ _⟩
  | some kx =>
    obtain ⟨k, x⟩ := kx
    obtain ⟨rfl, hx, hk, hin⟩ := chan_some hc
    cases hq : x.queue with
    | true => exact pwait_q w H cs st S k x h hx hq hin hk
    | false => exact pwait_s w H cs st S k x h hx hq hin hk
theorem clS_zero (cs : List Ch) (st : Nat → Ps) (p : Int) : clS cs st p 0 = st := by
  funext i; unfold clS; rw [if_neg (by omega)]
theorem clS_at (cs : List Ch) (st : Nat → Ps) (p : Int) (k : Nat) : clS cs st p k k = st k := by
  unfold clS; rw [if_neg (by omega)]
theorem clS_yes {cs : List Ch} {st : Nat → Ps} {p : Int} {k : Nat} {x : Ch} (hx : cs[k]? = some x) (hp : x.to = p) : updF (clS cs st p k) k (st k).clear = clS cs st p (k + 1) := by
  funext i
  by_cases e : i = k
  · subst e
    rw [updF_at]
    unfold clS
    rw [if_pos (by omega), hx]
    simp [hp]
  · rw [updF_ne _ _ e]
    unfold clS
    by_cases h : i < k
    · rw [if_pos h, if_pos (by omega)]
    · rw [if_neg h, if_neg (by omega)]
theorem clS_no {cs : List Ch} {st : Nat → Ps} {p : Int} {k : Nat} {x : Ch} (hx : cs[k]? = some x) (hp : x.to ≠ p) : clS cs st p k = clS cs st p (k + 1) := by
  funext i
  unfold clS
  by_cases h : i < k
  · rw [if_pos h, if_pos (by omega)]
  · rw [if_neg h]
    by_cases e : i = k
    · subst e
      rw [if_pos (by omega), hx]
      simp [hp]
    · rw [if_neg (by omega)]
set_option maxRecDepth 100000 in
set_option maxHeartbeats 8000000 in
theorem pclear_any (w : World) (H : Nat) (cs : List Ch) (st : Nat → Ps) (S : Nat → Prop) (p : Int) (h : PrO H cs st w S) (hlen : cs.length ≤ 1000) :
    Calls Try.prog 15 #[.pointer (some ⟨H, 0, none⟩), .int .i64 p] w fun e w' => ∃ S', e = .returned (.tuple #[]) ∧ PrO H cs (clS cs st p cs.length) w' S' ∧ GrowS S S' w w' := by
  obtain ⟨ao, cap, h1, hown⟩ := h.box
  obtain ⟨n, hn⟩ : ∃ n, n = cs.length := ⟨_, rfl⟩
  rw [← hn] at h1 ⊢
  have b0 : w.cell? ⟨H, 0, none⟩ = some (.slice ao n cap) := cell_in h1 rfl
  have H0 := Lib.hid h
  have HN := Lib.hid hn
  have H1 := Lib.hid h1
  have hz := lt_of_block h1
  have hn2 : n ≤ 1000 := by omega
  clear h h1 hn hlen hown
  go_enter Try.func15, Try.ntmps15
  go_wp2_with fail
  go_loopw [13] (fun s wr => ∃ (k : Nat) (S' : Nat → Prop), k ≤ n ∧ s = .int .i64 k ∧ Hid (PrO H cs (clS cs st p k) wr S' ∧ GrowS S S' w wr ∧ wr.heap[H]? = w.heap[H]?)) (fun s _ => n - (intOf s).toNat)
  case atStart => exact ⟨0, S, Nat.zero_le _, rfl, Lib.hid ⟨by rw [clS_zero]; exact H0.out, GrowS.of_below (Below.refl _ _), rfl⟩⟩
  case round =>
    obtain ⟨k, S', hk, rfl, HW⟩ := hrel
    by_cases hlt : k < n
    · have d0 : decide ((k : Int) < (n : Int)) = true := decide_eq_true (by omega)
      have d1 : (0 : Int) ≤ (k : Int) := by omega
      have d2 : (k : Int) < (n : Int) := by omega
      have hx : cs[k]? = some (cs.getD k chZ) := by rw [List.getD_eq_getElem?_getD, List.getElem?_eq_getElem (by have := HN.out; omega)]; rfl
      obtain ⟨x, hxx⟩ : ∃ x, x = cs.getD k chZ := ⟨_, rfl⟩
      rw [← hxx] at hx
      obtain ⟨cap', G, B, A, q1, q2, q3, q4, q5, q6, q7⟩ := HW.out.1.at_ hx
      have hbx := (HW.out.2.2.trans H1.out).symm.trans q1
      simp at hbx
      obtain ⟨⟨rfl, -⟩, rfl⟩ : (ao = some ⟨G, 0, none⟩ ∧ n = cs.length) ∧ cap = cap' := ⟨⟨hbx.1, hbx.2.1⟩, hbx.2.2⟩
      have HF := Lib.hid (lto_any wr B x.to p (po_line q3).2)
      have HX := Lib.hid hx
      obtain ⟨f, hf⟩ : ∃ f, f = x.to := ⟨_, rfl⟩
      have HFE := Lib.hid hf
      rw [← hf] at HF
      have hH : H < wr.heap.size := lt_of_block q1
      have HQ3 := Lib.hid q3
      have HQ7 : Hid (∀ (w' : World) (A' : Nat → Prop) (s' : Ps), PoAt B x s' w' A' → GrowS A A' wr w' → ∃ S'', (PrO H cs (updF (clS cs st p k) k s') w' S'' ∧ GrowS S S'' w w' ∧ w'.heap[H]? = w.heap[H]?)) := Lib.hid (fun w' A' s' a1 a2 => by
        obtain ⟨S'', e1, e2⟩ := q7 a1 a2
        exact ⟨S'', e1, HW.out.2.1.trans e2, (a2.block H hH q4).trans HW.out.2.2⟩)
      clear q1 q3 q4 q5 q6 q7 hbx hx hxx hf hH
      cases hq : x.queue with
      | true =>
        obtain ⟨m0, m1, m2, m3, m4, m5, m6⟩ := meths_q B x hq
        simp only [nm21, sl21, Char.isValue, String.reduceSingleton, String.reduceAppend] at m1 m2 m3 m4 m5 m6
        rw [m0] at q2
        have HP : Hid (Calls Try.prog 38 #[.pointer (some ⟨B, 0, none⟩)] wr fun e w' => e = .returned (.tuple #[]) ∧ ∃ S'', (PrO H cs (updF (clS cs st p k) k (st k).clear) w' S'' ∧ GrowS S S'' w w' ∧ w'.heap[H]? = w.heap[H]?)) := Lib.hid ((wempty_q wr B x _ A hq HQ3.out).mono (by
          rintro e w' ⟨A', rfl, a1, a2⟩
          rw [clS_at] at a1
          exact ⟨rfl, HQ7.out _ _ _ a1 a2⟩))
        clear m0 m1 m3 m4 m6 hq HQ3 HQ7
        by_cases e1 : f = p
        · subst e1
          rw [show (f == f) = true by simp] at HF
          go_wp2_with (first
            | (go_at_call 40; refine HF.out.mono ?_; rintro e w3 ⟨rfl, hw3⟩; rw [hw3]; clear hw3)
            | (go_at_call 38; refine HP.out.mono ?_; rintro e w4 ⟨rfl, q'⟩; have q := Lib.hid q'; clear q')
            | fail "no arm")
          go_roundw
          case rel =>
            obtain ⟨S4, g⟩ := q.out
            rw [clS_yes HX.out HFE.out.symm] at g
            exact ⟨k + 1, S4, by omega, by go_num, Lib.hid g⟩
          case measure => simp [intOf]; omega
        · rw [show (f == p) = false by simpa using e1] at HF
          have HE1 := Lib.hid e1
          clear e1
          go_wp2_with (first
            | (go_at_call 40; refine HF.out.mono ?_; rintro e w3 ⟨rfl, hw3⟩; rw [hw3]; clear hw3)
            | fail "no arm")
          go_roundw
          case rel =>
            have g := HW.out
            rw [clS_no HX.out (by rw [← HFE.out]; exact HE1.out)] at g
            exact ⟨k + 1, S', by omega, by go_num, Lib.hid g⟩
          case measure => simp [intOf]; omega
      | false =>
        obtain ⟨m0, m1, m2, m3, m4, m5, m6⟩ := meths_s B x hq
        simp only [nm21, sl21, Char.isValue, String.reduceSingleton, String.reduceAppend] at m1 m2 m3 m4 m5 m6
        rw [m0] at q2
        have HP : Hid (Calls Try.prog 55 #[.pointer (some ⟨B, 0, none⟩)] wr fun e w' => e = .returned (.tuple #[]) ∧ ∃ S'', (PrO H cs (updF (clS cs st p k) k (st k).clear) w' S'' ∧ GrowS S S'' w w' ∧ w'.heap[H]? = w.heap[H]?)) := Lib.hid ((wempty_s wr B x _ A hq HQ3.out).mono (by
          rintro e w' ⟨A', rfl, a1, a2⟩
          rw [clS_at] at a1
          exact ⟨rfl, HQ7.out _ _ _ a1 a2⟩))
        clear m0 m1 m3 m4 m6 hq HQ3 HQ7
        by_cases e1 : f = p
        · subst e1
          rw [show (f == f) = true by simp] at HF
          go_wp2_with (first
            | (go_at_call 40; refine HF.out.mono ?_; rintro e w3 ⟨rfl, hw3⟩; rw [hw3]; clear hw3)
            | (go_at_call 55; refine HP.out.mono ?_; rintro e w4 ⟨rfl, q'⟩; have q := Lib.hid q'; clear q')
            | fail "no arm")
          go_roundw
          case rel =>
            obtain ⟨S4, g⟩ := q.out
            rw [clS_yes HX.out HFE.out.symm] at g
            exact ⟨k + 1, S4, by omega, by go_num, Lib.hid g⟩
          case measure => simp [intOf]; omega
        · rw [show (f == p) = false by simpa using e1] at HF
          have HE1 := Lib.hid e1
          clear e1
          go_wp2_with (first
            | (go_at_call 40; refine HF.out.mono ?_; rintro e w3 ⟨rfl, hw3⟩; rw [hw3]; clear hw3)
            | fail "no arm")
          go_roundw
          case rel =>
            have g := HW.out
            rw [clS_no HX.out (by rw [← HFE.out]; exact HE1.out)] at g
            exact ⟨k + 1, S', by omega, by go_num, Lib.hid g⟩
          case measure => simp [intOf]; omega
    · have d0 : decide ((k : Int) < (n : Int)) = false := decide_eq_false (by omega)
      have hkn : k = n := by omega
      subst hkn
      go_wp2_with fail
      go_end0
      exact ⟨S', rfl, HW.out.1, HW.out.2.1⟩
end Go.Proofs.Ytoebbbghllkdgaa
