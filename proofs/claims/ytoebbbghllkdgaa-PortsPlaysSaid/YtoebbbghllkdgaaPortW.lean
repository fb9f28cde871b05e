/- The program's channels: Write, Read, Waiting, of each kind. -/
import Derived.Test.YtoebbbghllkdgaaPortQ
namespace Go.Proofs.Ytoebbbghllkdgaa
open Go.ChangeShapes Go.WideShapes Go.ChangeAt Go.RowKit
set_option linter.unusedVariables false

theorem po_q {B : Nat} {x : Ch} {s : Ps} {w : World} {A : Nat → Prop} (h : PoAt B x s w A) (hq : x.queue = true) : QuAt B x s w A := h.elim (·.2) (fun h => by rw [hq] at h; cases h.1)
theorem po_s {B : Nat} {x : Ch} {s : Ps} {w : World} {A : Nat → Prop} (h : PoAt B x s w A) (hq : x.queue = false) : SaAt B x s w A := h.elim (fun h => by rw [hq] at h; cases h.1) (·.2)
theorem wput_q (w : World) (B : Nat) (x : Ch) (s : Ps) (A : Nat → Prop) (v now : Int) (hq : x.queue = true) (hn : I64 now) (h : PoAt B x s w A) :
    Calls Try.prog 41 #[.pointer (some ⟨B, 0, none⟩), .int .i64 v, .int .i64 now] w fun e w' => ∃ A', e = .returned (.tuple #[]) ∧ PoAt B x (s.put x v now) w' A' ∧ GrowS A A' w w' :=
  (qput_any w B x s A v now (po_q h hq)).mono (by
    rintro e w' ⟨A', rfl, q1, q2⟩
    exact ⟨A', rfl, .inl ⟨hq, by unfold Ps.put; rw [if_pos hq]; exact q1⟩, q2⟩)
theorem wput_s (w : World) (B : Nat) (x : Ch) (s : Ps) (A : Nat → Prop) (v now : Int) (hq : x.queue = false) (hn : I64 now) (h : PoAt B x s w A) :
    Calls Try.prog 56 #[.pointer (some ⟨B, 0, none⟩), .int .i64 v, .int .i64 now] w fun e w' => ∃ A', e = .returned (.tuple #[]) ∧ PoAt B x (s.put x v now) w' A' ∧ GrowS A A' w w' :=
  (sput_any w B x s A v now hn (po_s h hq)).mono (by
    rintro e w' ⟨rfl, q1, q2⟩
    exact ⟨A, rfl, .inr ⟨hq, by unfold Ps.put; rw [if_neg (by rw [hq]; decide)]; exact q1⟩, q2⟩)
theorem wtake_q (w : World) (B : Nat) (x : Ch) (s : Ps) (A : Nat → Prop) (now : Int) (hq : x.queue = true) (hn : I64 now) (hs : I64 x.size) (h : PoAt B x s w A) :
    Calls Try.prog 42 #[.pointer (some ⟨B, 0, none⟩), .int .i64 now] w fun e w' => ∃ A', e = .returned (.tuple #[.int .i64 (popV 0 s.l), .int .i64 (besV x s now), .bool (anyV s.l)]) ∧ PoAt B x (s.took x) w' A' ∧ GrowS A A' w w' :=
  (qtake_any w B x s A now (po_q h hq)).mono (by
    rintro e w' ⟨A', rfl, q1, q2⟩
    exact ⟨A', by unfold besV; simp only [if_pos hq], .inl ⟨hq, by unfold Ps.took; simpa only [hq, true_and] using q1⟩, q2⟩)
theorem wtake_s (w : World) (B : Nat) (x : Ch) (s : Ps) (A : Nat → Prop) (now : Int) (hq : x.queue = false) (hn : I64 now) (hs : I64 x.size) (h : PoAt B x s w A) :
    Calls Try.prog 57 #[.pointer (some ⟨B, 0, none⟩), .int .i64 now] w fun e w' => ∃ A', e = .returned (.tuple #[.int .i64 (popV 0 s.l), .int .i64 (besV x s now), .bool (anyV s.l)]) ∧ PoAt B x (s.took x) w' A' ∧ GrowS A A' w w' :=
  (stake_any w B x s A now hn hs (po_s h hq)).mono (by
    rintro e w' ⟨rfl, rfl⟩
    exact ⟨A, by unfold besV; simp [hq], by unfold Ps.took; rw [if_neg (fun h => by rw [hq] at h; cases h.1)]; exact h, GrowS.of_below (Below.refl _ _)⟩)
theorem wempty_q (w : World) (B : Nat) (x : Ch) (s : Ps) (A : Nat → Prop) (hq : x.queue = true) (h : PoAt B x s w A) :
    Calls Try.prog 38 #[.pointer (some ⟨B, 0, none⟩)] w fun e w' => ∃ A', e = .returned (.tuple #[]) ∧ PoAt B x s.clear w' A' ∧ GrowS A A' w w' :=
  (qempty_any w B x s A (po_q h hq)).mono (by
    rintro e w' ⟨A', rfl, q1, q2⟩
    exact ⟨A', rfl, .inl ⟨hq, q1⟩, q2⟩)
theorem wempty_s (w : World) (B : Nat) (x : Ch) (s : Ps) (A : Nat → Prop) (hq : x.queue = false) (h : PoAt B x s w A) :
    Calls Try.prog 55 #[.pointer (some ⟨B, 0, none⟩)] w fun e w' => ∃ A', e = .returned (.tuple #[]) ∧ PoAt B x s.clear w' A' ∧ GrowS A A' w w' :=
  (sempty_any w B x s A (po_s h hq)).mono (by
    rintro e w' ⟨rfl, q1, q2⟩
    exact ⟨A, rfl, .inr ⟨hq, q1⟩, q2⟩)
theorem wwait_q (w : World) (B : Nat) (x : Ch) (s : Ps) (A : Nat → Prop) (hq : x.queue = true) (h : PoAt B x s w A) :
    Calls Try.prog 43 #[.pointer (some ⟨B, 0, none⟩)] w fun e w' => e = .returned (.int .i64 (s.l.length : Nat)) ∧ Below w.heap.size w w' := qwait_any w B x s A (po_q h hq)
theorem wwait_s (w : World) (B : Nat) (x : Ch) (s : Ps) (A : Nat → Prop) (hq : x.queue = false) (h : PoAt B x s w A) :
    Calls Try.prog 58 #[.pointer (some ⟨B, 0, none⟩)] w fun e w' => e = .returned (.int .i64 (s.l.length : Nat)) ∧ Below w.heap.size w w' :=
  (swait_any w B x s A (po_s h hq)).mono (by rintro e w' ⟨rfl, rfl⟩; exact ⟨rfl, Below.refl _ _⟩)
/-- A method's name, with its package's path. -/
def sl21 : String := String.singleton (Char.ofNat 47)
def nm21 (s : String) : String := "parclose" ++ sl21 ++ s
theorem meths_q (B : Nat) (x : Ch) (hq : x.queue = true) : poV B x = .iface 67 (.pointer (some ⟨B, 0, none⟩)) ∧
    (∀ w, (method 203 67 (Value.pointer (some ⟨B, 0, none⟩)) (nm21 "ports.leadsFrom")).run Try.prog w = .ok (39, Value.pointer (some ⟨B, 0, none⟩)) w) ∧
    (∀ w, (method 203 67 (Value.pointer (some ⟨B, 0, none⟩)) (nm21 "ports.leadsTo")).run Try.prog w = .ok (40, Value.pointer (some ⟨B, 0, none⟩)) w) ∧
    (∀ w, (method 203 67 (Value.pointer (some ⟨B, 0, none⟩)) (nm21 "ports.put")).run Try.prog w = .ok (41, Value.pointer (some ⟨B, 0, none⟩)) w) ∧
    (∀ w, (method 203 67 (Value.pointer (some ⟨B, 0, none⟩)) (nm21 "ports.take")).run Try.prog w = .ok (42, Value.pointer (some ⟨B, 0, none⟩)) w) ∧
    (∀ w, (method 203 67 (Value.pointer (some ⟨B, 0, none⟩)) (nm21 "ports.empty")).run Try.prog w = .ok (38, Value.pointer (some ⟨B, 0, none⟩)) w) ∧
    (∀ w, (method 203 67 (Value.pointer (some ⟨B, 0, none⟩)) (nm21 "ports.waiting")).run Try.prog w = .ok (43, Value.pointer (some ⟨B, 0, none⟩)) w) :=
  ⟨by unfold poV; simp [hq], fun _ => by kernel_rfl, fun _ => by kernel_rfl, fun _ => by kernel_rfl, fun _ => by kernel_rfl, fun _ => by kernel_rfl, fun _ => by kernel_rfl⟩
set_option maxRecDepth 100000 in
set_option maxHeartbeats 4000000 in
theorem pwrite_q (w : World) (H : Nat) (cs : List Ch) (st : Nat → Ps) (S : Nat → Prop) (p v now : Int) (k : Nat) (x : Ch) (h : PrO H cs st w S) (hx : cs[k]? = some x) (hq : x.queue = true) (hn : I64 now) (hin : inCh cs.length (k : Int) = true) (hk : k < cs.length) :
    Calls Try.prog 11 #[.pointer (some ⟨H, 0, none⟩), .int .i64 p, .int .i64 k, .int .i64 v, .int .i64 now] w fun e w' => ∃ S', e = .returned (.int .i64 (if x.from_ = p then 0 else 1)) ∧ PrO H cs (if x.from_ = p then updF st k ((st k).put x v now) else st) w' S' ∧ GrowS S S' w w' := by
  obtain ⟨cap, G, B, A, h1, h2, h3, h4, h5, h6, h7⟩ := h.at_ hx
  have HP : Hid (Calls Try.prog 41 #[.pointer (some ⟨B, 0, none⟩), .int .i64 v, .int .i64 now] w fun e w' => e = .returned (.tuple #[]) ∧ ∃ S', PrO H cs (updF st k ((st k).put x v now)) w' S' ∧ GrowS S S' w w') := Lib.hid ((wput_q w B x (st k) A v now hq hn h3).mono (by
    rintro e w' ⟨A', rfl, q1, q2⟩
    exact ⟨rfl, h7 q1 q2⟩))
  obtain ⟨n, hnn⟩ : ∃ n, n = cs.length := ⟨_, rfl⟩
  have HH := Lib.hid (phas_any w H _ _ _ k h1)
  rw [hin] at HH
  have HF := Lib.hid (lfrom_any w B x.from_ p (po_line h3).1)
  obtain ⟨m0, m1, m2, m3, m4, m5, m6⟩ := meths_q B x hq
  simp only [nm21, sl21, Char.isValue, String.reduceSingleton, String.reduceAppend] at m1 m2 m3 m4 m5 m6
  rw [m0] at h2
  have b0 : w.cell? ⟨H, 0, none⟩ = some (.slice (some ⟨G, 0, none⟩) cs.length cap) := cell_in h1 rfl
  rw [← hnn] at b0 hk
  have d1 : (0 : Int) ≤ (k : Int) := by omega
  have d2 : (k : Int) < (n : Int) := by omega
  obtain ⟨f, hf⟩ : ∃ f, f = x.from_ := ⟨_, rfl⟩
  rw [← hf] at HF ⊢
  have HO := Lib.hid h
  clear h h1 h3 h4 h5 h6 h7 m0 m2 m4 m5 m6 hnn hf hin hx hq hn
  by_cases e1 : f = p
  · subst e1
    rw [show (f == f) = true by simp] at HF
    rw [if_pos rfl, if_pos rfl]
    go_enter Try.func11, Try.ntmps11
    go_wp2_with (first
      | (go_at_call 20; refine HH.out.mono ?_; rintro e w3 ⟨rfl, hw3⟩; rw [hw3]; clear hw3)
      | (go_at_call 39; refine HF.out.mono ?_; rintro e w3 ⟨rfl, hw3⟩; rw [hw3]; clear hw3)
      | (go_at_call 41; refine HP.out.mono ?_; rintro e w3 ⟨rfl, q'⟩; have q := Lib.hid q'; clear q')
      | fail "no arm")
    go_ret
    obtain ⟨S', q1, q2⟩ := q.out
    exact ⟨S', rfl, q1, q2⟩
  · rw [show (f == p) = false by simpa using e1] at HF
    rw [if_neg e1, if_neg e1]
    clear e1
    go_enter Try.func11, Try.ntmps11
    go_wp2_with (first
      | (go_at_call 20; refine HH.out.mono ?_; rintro e w3 ⟨rfl, hw3⟩; rw [hw3]; clear hw3)
      | (go_at_call 39; refine HF.out.mono ?_; rintro e w3 ⟨rfl, hw3⟩; rw [hw3]; clear hw3)
      | fail "no arm")
    go_ret
    exact ⟨S, rfl, HO.out, GrowS.of_below (Below.refl _ _)⟩
set_option maxRecDepth 100000 in
set_option maxHeartbeats 4000000 in
theorem pread_q (w : World) (H : Nat) (cs : List Ch) (st : Nat → Ps) (S : Nat → Prop) (p now : Int) (k : Nat) (x : Ch) (h : PrO H cs st w S) (hx : cs[k]? = some x) (hq : x.queue = true) (hn : I64 now) (hs : I64 x.size) (hin : inCh cs.length (k : Int) = true) (hk : k < cs.length) :
    Calls Try.prog 13 #[.pointer (some ⟨H, 0, none⟩), .int .i64 p, .int .i64 k, .int .i64 now] w fun e w' => ∃ S', e = .returned (.tuple #[.int .i64 (if x.to = p then popV 0 (st k).l else 0), .int .i64 (if x.to = p then besV x (st k) now else 0), .int .i64 (if x.to = p then (if anyV (st k).l = true then 0 else 6) else 1)]) ∧ PrO H cs (if x.to = p then updF st k ((st k).took x) else st) w' S' ∧ GrowS S S' w w' := by
  obtain ⟨cap, G, B, A, h1, h2, h3, h4, h5, h6, h7⟩ := h.at_ hx
  obtain ⟨an, han⟩ : ∃ b, b = anyV (st k).l := ⟨_, rfl⟩
  obtain ⟨v, hv⟩ : ∃ b, b = popV 0 (st k).l := ⟨_, rfl⟩
  obtain ⟨u, hu⟩ : ∃ b, b = besV x (st k) now := ⟨_, rfl⟩
  have HP : Hid (Calls Try.prog 42 #[.pointer (some ⟨B, 0, none⟩), .int .i64 now] w fun e w' => e = .returned (.tuple #[.int .i64 v, .int .i64 u, .bool an]) ∧ ∃ S', PrO H cs (updF st k ((st k).took x)) w' S' ∧ GrowS S S' w w') := Lib.hid ((wtake_q w B x (st k) A now hq hn hs h3).mono (by
    rintro e w' ⟨A', rfl, q1, q2⟩
    exact ⟨by rw [han, hv, hu], h7 q1 q2⟩))
  have HZ : Hid (an = false → v = 0 ∧ u = 0) := Lib.hid (fun e => by
    rw [han] at e
    refine ⟨?_, by rw [hu]; unfold besV; rw [e]; rfl⟩
    rw [hv]
    cases hl : (st k).l with
    | nil => rfl
    | cons a b => rw [hl] at e; cases e)
  rw [← han, ← hv, ← hu]
  obtain ⟨n, hnn⟩ : ∃ n, n = cs.length := ⟨_, rfl⟩
  have HH := Lib.hid (phas_any w H _ _ _ k h1)
  rw [hin] at HH
  have HF := Lib.hid (lto_any w B x.to p (po_line h3).2)
  obtain ⟨m0, m1, m2, m3, m4, m5, m6⟩ := meths_q B x hq
  simp only [nm21, sl21, Char.isValue, String.reduceSingleton, String.reduceAppend] at m1 m2 m3 m4 m5 m6
  rw [m0] at h2
  have b0 : w.cell? ⟨H, 0, none⟩ = some (.slice (some ⟨G, 0, none⟩) cs.length cap) := cell_in h1 rfl
  rw [← hnn] at b0 hk
  have d1 : (0 : Int) ≤ (k : Int) := by omega
  have d2 : (k : Int) < (n : Int) := by omega
  obtain ⟨f, hf⟩ : ∃ f, f = x.to := ⟨_, rfl⟩
  rw [← hf] at HF ⊢
  have HO := Lib.hid h
  clear h h1 h3 h4 h5 h6 h7 m0 m1 m3 m5 m6 hnn hf hin hx hq hn hs han hv hu
  by_cases e1 : f = p
  · subst e1
    rw [show (f == f) = true by simp] at HF
    rw [if_pos rfl, if_pos rfl, if_pos rfl, if_pos rfl]
    cases an with
    | true =>
      rw [if_pos rfl]
      go_enter Try.func13, Try.ntmps13
      go_wp2_with (first
        | (go_at_call 20; refine HH.out.mono ?_; rintro e w3 ⟨rfl, hw3⟩; rw [hw3]; clear hw3)
        | (go_at_call 40; refine HF.out.mono ?_; rintro e w3 ⟨rfl, hw3⟩; rw [hw3]; clear hw3)
        | (go_at_call 42; refine HP.out.mono ?_; rintro e w3 ⟨rfl, q'⟩; have q := Lib.hid q'; clear q')
        | fail "no arm")
      go_ret3
      obtain ⟨S', q1, q2⟩ := q.out
      exact ⟨S', rfl, q1, q2⟩
    | false =>
      rw [if_neg (by decide)]
      obtain ⟨z1, z2⟩ := HZ.out rfl
      subst z1 z2
      clear HZ
      go_enter Try.func13, Try.ntmps13
      go_wp2_with (first
        | (go_at_call 20; refine HH.out.mono ?_; rintro e w3 ⟨rfl, hw3⟩; rw [hw3]; clear hw3)
        | (go_at_call 40; refine HF.out.mono ?_; rintro e w3 ⟨rfl, hw3⟩; rw [hw3]; clear hw3)
        | (go_at_call 42; refine HP.out.mono ?_; rintro e w3 ⟨rfl, q'⟩; have q := Lib.hid q'; clear q')
        | fail "no arm")
      go_ret3
      obtain ⟨S', q1, q2⟩ := q.out
      exact ⟨S', rfl, q1, q2⟩
  · rw [show (f == p) = false by simpa using e1] at HF
    rw [if_neg e1, if_neg e1, if_neg e1, if_neg e1]
    clear e1
    go_enter Try.func13, Try.ntmps13
    go_wp2_with (first
      | (go_at_call 20; refine HH.out.mono ?_; rintro e w3 ⟨rfl, hw3⟩; rw [hw3]; clear hw3)
      | (go_at_call 40; refine HF.out.mono ?_; rintro e w3 ⟨rfl, hw3⟩; rw [hw3]; clear hw3)
      | fail "no arm")
    go_ret3
    exact ⟨S, rfl, HO.out, GrowS.of_below (Below.refl _ _)⟩
set_option maxRecDepth 100000 in
set_option maxHeartbeats 4000000 in
theorem pwait_q (w : World) (H : Nat) (cs : List Ch) (st : Nat → Ps) (S : Nat → Prop) (k : Nat) (x : Ch) (h : PrO H cs st w S) (hx : cs[k]? = some x) (hq : x.queue = true) (hin : inCh cs.length (k : Int) = true) (hk : k < cs.length) :
    Calls Try.prog 17 #[.pointer (some ⟨H, 0, none⟩), .int .i64 k] w fun e w' => e = .returned (.int .i64 ((st k).l.length : Nat)) ∧ Below w.heap.size w w' := by
  obtain ⟨cap, G, B, A, h1, h2, h3, h4, h5, h6, h7⟩ := h.at_ hx
  have HP := Lib.hid (wwait_q w B x (st k) A hq h3)
  obtain ⟨m, hm⟩ : ∃ n, n = (st k).l.length := ⟨_, rfl⟩
  rw [← hm] at HP ⊢
  obtain ⟨n, hnn⟩ : ∃ n, n = cs.length := ⟨_, rfl⟩
  have HH := Lib.hid (phas_any w H _ _ _ k h1)
  rw [hin] at HH
  obtain ⟨m0, m1, m2, m3, m4, m5, m6⟩ := meths_q B x hq
  simp only [nm21, sl21, Char.isValue, String.reduceSingleton, String.reduceAppend] at m1 m2 m3 m4 m5 m6
  rw [m0] at h2
  have b0 : w.cell? ⟨H, 0, none⟩ = some (.slice (some ⟨G, 0, none⟩) cs.length cap) := cell_in h1 rfl
  rw [← hnn] at b0 hk
  have d1 : (0 : Int) ≤ (k : Int) := by omega
  have d2 : (k : Int) < (n : Int) := by omega
  clear h h1 h3 h4 h5 h6 h7 m0 m1 m2 m3 m4 m5 hnn hin hx hq hm
  go_enter Try.func17, Try.ntmps17
  go_wp2_with (first
    | (go_at_call 20; refine HH.out.mono ?_; rintro e w3 ⟨rfl, hw3⟩; rw [hw3]; clear hw3)
    | (go_at_call 43; refine HP.out.mono ?_; rintro e w3 ⟨rfl, q'⟩; have q := Lib.hid q'; clear q')
    | fail "no arm")
  go_ret
  exact ⟨rfl, q.out⟩
theorem meths_s (B : Nat) (x : Ch) (hq : x.queue = false) : poV B x = .iface 74 (.pointer (some ⟨B, 0, none⟩)) ∧
    (∀ w, (method 203 74 (Value.pointer (some ⟨B, 0, none⟩)) (nm21 "ports.leadsFrom")).run Try.prog w = .ok (39, Value.pointer (some ⟨B, 0, none⟩)) w) ∧
    (∀ w, (method 203 74 (Value.pointer (some ⟨B, 0, none⟩)) (nm21 "ports.leadsTo")).run Try.prog w = .ok (40, Value.pointer (some ⟨B, 0, none⟩)) w) ∧
    (∀ w, (method 203 74 (Value.pointer (some ⟨B, 0, none⟩)) (nm21 "ports.put")).run Try.prog w = .ok (56, Value.pointer (some ⟨B, 0, none⟩)) w) ∧
    (∀ w, (method 203 74 (Value.pointer (some ⟨B, 0, none⟩)) (nm21 "ports.take")).run Try.prog w = .ok (57, Value.pointer (some ⟨B, 0, none⟩)) w) ∧
    (∀ w, (method 203 74 (Value.pointer (some ⟨B, 0, none⟩)) (nm21 "ports.empty")).run Try.prog w = .ok (55, Value.pointer (some ⟨B, 0, none⟩)) w) ∧
    (∀ w, (method 203 74 (Value.pointer (some ⟨B, 0, none⟩)) (nm21 "ports.waiting")).run Try.prog w = .ok (58, Value.pointer (some ⟨B, 0, none⟩)) w) :=
  ⟨by unfold poV; simp [hq], fun _ => by kernel_rfl, fun _ => by kernel_rfl, fun _ => by kernel_rfl, fun _ => by kernel_rfl, fun _ => by kernel_rfl, fun _ => by kernel_rfl⟩
set_option maxRecDepth 100000 in
set_option maxHeartbeats 4000000 in
theorem pwrite_s (w : World) (H : Nat) (cs : List Ch) (st : Nat → Ps) (S : Nat → Prop) (p v now : Int) (k : Nat) (x : Ch) (h : PrO H cs st w S) (hx : cs[k]? = some x) (hq : x.queue = false) (hn : I64 now) (hin : inCh cs.length (k : Int) = true) (hk : k < cs.length) :
    Calls Try.prog 11 #[.pointer (some ⟨H, 0, none⟩), .int .i64 p, .int .i64 k, .int .i64 v, .int .i64 now] w fun e w' => ∃ S', e = .returned (.int .i64 (if x.from_ = p then 0 else 1)) ∧ PrO H cs (if x.from_ = p then updF st k ((st k).put x v now) else st) w' S' ∧ GrowS S S' w w' := by
  obtain ⟨cap, G, B, A, h1, h2, h3, h4, h5, h6, h7⟩ := h.at_ hx
  have HP : Hid (Calls Try.prog 56 #[.pointer (some ⟨B, 0, none⟩), .int .i64 v, .int .i64 now] w fun e w' => e = .returned (.tuple #[]) ∧ ∃ S', PrO H cs (updF st k ((st k).put x v now)) w' S' ∧ GrowS S S' w w') := Lib.hid ((wput_s w B x (st k) A v now hq hn h3).mono (by
    rintro e w' ⟨A', rfl, q1, q2⟩
    exact ⟨rfl, h7 q1 q2⟩))
  obtain ⟨n, hnn⟩ : ∃ n, n = cs.length := ⟨_, rfl⟩
  have HH := Lib.hid (phas_any w H _ _ _ k h1)
  rw [hin] at HH
  have HF := Lib.hid (lfrom_any w B x.from_ p (po_line h3).1)
  obtain ⟨m0, m1, m2, m3, m4, m5, m6⟩ := meths_s B x hq
  simp only [nm21, sl21, Char.isValue, String.reduceSingleton, String.reduceAppend] at m1 m2 m3 m4 m5 m6
  rw [m0] at h2
  have b0 : w.cell? ⟨H, 0, none⟩ = some (.slice (some ⟨G, 0, none⟩) cs.length cap) := cell_in h1 rfl
  rw [← hnn] at b0 hk
  have d1 : (0 : Int) ≤ (k : Int) := by omega
  have d2 : (k : Int) < (n : Int) := by omega
  obtain ⟨f, hf⟩ : ∃ f, f = x.from_ := ⟨_, rfl⟩
  rw [← hf] at HF ⊢
  have HO := Lib.hid h
  clear h h1 h3 h4 h5 h6 h7 m0 m2 m4 m5 m6 hnn hf hin hx hq hn
  by_cases e1 : f = p
  · subst e1
    rw [show (f == f) = true by simp] at HF
    rw [if_pos rfl, if_pos rfl]
    go_enter Try.func11, Try.ntmps11
    go_wp2_with (first
      | (go_at_call 20; refine HH.out.mono ?_; rintro e w3 ⟨rfl, hw3⟩; rw [hw3]; clear hw3)
      | (go_at_call 39; refine HF.out.mono ?_; rintro e w3 ⟨rfl, hw3⟩; rw [hw3]; clear hw3)
      | (go_at_call 56; refine HP.out.mono ?_; rintro e w3 ⟨rfl, q'⟩; have q := Lib.hid q'; clear q')
      | fail "no arm")
    go_ret
    obtain ⟨S', q1, q2⟩ := q.out
    exact ⟨S', rfl, q1, q2⟩
  · rw [show (f == p) = false by simpa using e1] at HF
    rw [if_neg e1, if_neg e1]
    clear e1
    go_enter Try.func11, Try.ntmps11
    go_wp2_with (first
      | (go_at_call 20; refine HH.out.mono ?_; rintro e w3 ⟨rfl, hw3⟩; rw [hw3]; clear hw3)
      | (go_at_call 39; refine HF.out.mono ?_; rintro e w3 ⟨rfl, hw3⟩; rw [hw3]; clear hw3)
      | fail "no arm")
    go_ret
    exact ⟨S, rfl, HO.out, GrowS.of_below (Below.refl _ _)⟩
set_option maxRecDepth 100000 in
set_option maxHeartbeats 4000000 in
theorem pread_s (w : World) (H : Nat) (cs : List Ch) (st : Nat → Ps) (S : Nat → Prop) (p now : Int) (k : Nat) (x : Ch) (h : PrO H cs st w S) (hx : cs[k]? = some x) (hq : x.queue = false) (hn : I64 now) (hs : I64 x.size) (hin : inCh cs.length (k : Int) = true) (hk : k < cs.length) :
    Calls Try.prog 13 #[.pointer (some ⟨H, 0, none⟩), .int .i64 p, .int .i64 k, .int .i64 now] w fun e w' => ∃ S', e = .returned (.tuple #[.int .i64 (if x.to = p then popV 0 (st k).l else 0), .int .i64 (if x.to = p then besV x (st k) now else 0), .int .i64 (if x.to = p then (if anyV (st k).l = true then 0 else 6) else 1)]) ∧ PrO H cs (if x.to = p then updF st k ((st k).took x) else st) w' S' ∧ GrowS S S' w w' := by
  obtain ⟨cap, G, B, A, h1, h2, h3, h4, h5, h6, h7⟩ := h.at_ hx
  obtain ⟨an, han⟩ : ∃ b, b = anyV (st k).l := ⟨_, rfl⟩
  obtain ⟨v, hv⟩ : ∃ b, b = popV 0 (st k).l := ⟨_, rfl⟩
  obtain ⟨u, hu⟩ : ∃ b, b = besV x (st k) now := ⟨_, rfl⟩
  have HP : Hid (Calls Try.prog 57 #[.pointer (some ⟨B, 0, none⟩), .int .i64 now] w fun e w' => e = .returned (.tuple #[.int .i64 v, .int .i64 u, .bool an]) ∧ ∃ S', PrO H cs (updF st k ((st k).took x)) w' S' ∧ GrowS S S' w w') := Lib.hid ((wtake_s w B x (st k) A now hq hn hs h3).mono (by
    rintro e w' ⟨A', rfl, q1, q2⟩
    exact ⟨by rw [han, hv, hu], h7 q1 q2⟩))
  have HZ : Hid (an = false → v = 0 ∧ u = 0) := Lib.hid (fun e => by
    rw [han] at e
    refine ⟨?_, by rw [hu]; unfold besV; rw [e]; rfl⟩
    rw [hv]
    cases hl : (st k).l with
    | nil => rfl
    | cons a b => rw [hl] at e; cases e)
  rw [← han, ← hv, ← hu]
  obtain ⟨n, hnn⟩ : ∃ n, n = cs.length := ⟨_, rfl⟩
  have HH := Lib.hid (phas_any w H _ _ _ k h1)
  rw [hin] at HH
  have HF := Lib.hid (lto_any w B x.to p (po_line h3).2)
  obtain ⟨m0, m1, m2, m3, m4, m5, m6⟩ := meths_s B x hq
  simp only [nm21, sl21, Char.isValue, String.reduceSingleton, String.reduceAppend] at m1 m2 m3 m4 m5 m6
  rw [m0] at h2
  have b0 : w.cell? ⟨H, 0, none⟩ = some (.slice (some ⟨G, 0, none⟩) cs.length cap) := cell_in h1 rfl
  rw [← hnn] at b0 hk
  have d1 : (0 : Int) ≤ (k : Int) := by omega
  have d2 : (k : Int) < (n : Int) := by omega
  obtain ⟨f, hf⟩ : ∃ f, f = x.to := ⟨_, rfl⟩
  rw [← hf] at HF ⊢
  have HO := Lib.hid h
  clear h h1 h3 h4 h5 h6 h7 m0 m1 m3 m5 m6 hnn hf hin hx hq hn hs han hv hu
  by_cases e1 : f = p
  · subst e1
    rw [show (f == f) = true by simp] at HF
    rw [if_pos rfl, if_pos rfl, if_pos rfl, if_pos rfl]
    cases an with
    | true =>
      rw [if_pos rfl]
      go_enter Try.func13, Try.ntmps13
      go_wp2_with (first
        | (go_at_call 20; refine HH.out.mono ?_; rintro e w3 ⟨rfl, hw3⟩; rw [hw3]; clear hw3)
        | (go_at_call 40; refine HF.out.mono ?_; rintro e w3 ⟨rfl, hw3⟩; rw [hw3]; clear hw3)
        | (go_at_call 57; refine HP.out.mono ?_; rintro e w3 ⟨rfl, q'⟩; have q := Lib.hid q'; clear q')
        | fail "no arm")
      go_ret3
      obtain ⟨S', q1, q2⟩ := q.out
      exact ⟨S', rfl, q1, q2⟩
    | false =>
      rw [if_neg (by decide)]
      obtain ⟨z1, z2⟩ := HZ.out rfl
      subst z1 z2
      clear HZ
      go_enter Try.func13, Try.ntmps13
      go_wp2_with (first
        | (go_at_call 20; refine HH.out.mono ?_; rintro e w3 ⟨rfl, hw3⟩; rw [hw3]; clear hw3)
        | (go_at_call 40; refine HF.out.mono ?_; rintro e w3 ⟨rfl, hw3⟩; rw [hw3]; clear hw3)
        | (go_at_call 57; refine HP.out.mono ?_; rintro e w3 ⟨rfl, q'⟩; have q := Lib.hid q'; clear q')
        | fail "no arm")
      go_ret3
      obtain ⟨S', q1, q2⟩ := q.out
      exact ⟨S', rfl, q1, q2⟩
  · rw [show (f == p) = false by simpa using e1] at HF
    rw [if_neg e1, if_neg e1, if_neg e1, if_neg e1]
    clear e1
    go_enter Try.func13, Try.ntmps13
    go_wp2_with (first
      | (go_at_call 20; refine HH.out.mono ?_; rintro e w3 ⟨rfl, hw3⟩; rw [hw3]; clear hw3)
      | (go_at_call 40; refine HF.out.mono ?_; rintro e w3 ⟨rfl, hw3⟩; rw [hw3]; clear hw3)
      | fail "no arm")
    go_ret3
    exact ⟨S, rfl, HO.out, GrowS.of_below (Below.refl _ _)⟩
set_option maxRecDepth 100000 in
set_option maxHeartbeats 4000000 in
theorem pwait_s (w : World) (H : Nat) (cs : List Ch) (st : Nat → Ps) (S : Nat → Prop) (k : Nat) (x : Ch) (h : PrO H cs st w S) (hx : cs[k]? = some x) (hq : x.queue = false) (hin : inCh cs.length (k : Int) = true) (hk : k < cs.length) :
    Calls Try.prog 17 #[.pointer (some ⟨H, 0, none⟩), .int .i64 k] w fun e w' => e = .returned (.int .i64 ((st k).l.length : Nat)) ∧ Below w.heap.size w w' := by
  obtain ⟨cap, G, B, A, h1, h2, h3, h4, h5, h6, h7⟩ := h.at_ hx
  have HP := Lib.hid (wwait_s w B x (st k) A hq h3)
  obtain ⟨m, hm⟩ : ∃ n, n = (st k).l.length := ⟨_, rfl⟩
  rw [← hm] at HP ⊢
  obtain ⟨n, hnn⟩ : ∃ n, n = cs.length := ⟨_, rfl⟩
  have HH := Lib.hid (phas_any w H _ _ _ k h1)
  rw [hin] at HH
  obtain ⟨m0, m1, m2, m3, m4, m5, m6⟩ := meths_s B x hq
  simp only [nm21, sl21, Char.isValue, String.reduceSingleton, String.reduceAppend] at m1 m2 m3 m4 m5 m6
  rw [m0] at h2
  have b0 : w.cell? ⟨H, 0, none⟩ = some (.slice (some ⟨G, 0, none⟩) cs.length cap) := cell_in h1 rfl
  rw [← hnn] at b0 hk
  have d1 : (0 : Int) ≤ (k : Int) := by omega
  have d2 : (k : Int) < (n : Int) := by omega
  clear h h1 h3 h4 h5 h6 h7 m0 m1 m2 m3 m4 m5 hnn hin hx hq hm
  go_enter Try.func17, Try.ntmps17
  go_wp2_with (first
    | (go_at_call 20; refine HH.out.mono ?_; rintro e w3 ⟨rfl, hw3⟩; rw [hw3]; clear hw3)
    | (go_at_call 58; refine HP.out.mono ?_; rintro e w3 ⟨rfl, q'⟩; have q := Lib.hid q'; clear q')
    | fail "no arm")
  go_ret
  exact ⟨rfl, q.out⟩
end Go.Proofs.Ytoebbbghllkdgaa
