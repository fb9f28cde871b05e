/- A channel, plain: what it holds, what it becomes, what it tells; and in the program's memory. -/
import Derived.Test.YtoebbbghllkdgaaRingV
import Derived.Test.YtoebbbghllkdgaaStar
import Derived.OwnWalk
namespace Go.Proofs.Ytoebbbghllkdgaa
open Go.ChangeShapes Go.WideShapes Go.ChangeAt Go.RowKit
set_option linter.unusedVariables false

/-- What a channel holds, how many were lost, when the last one was written. -/
structure Ps where
  l : List Int
  lost : Int
  at_ : Int
def Ps.new : Ps := ⟨[], 0, 0⟩
def lostV (b : Bool) (x : Int) : Int := if b = true then x else wrap64 (x + 1)
def Ps.put (c : Ch) (s : Ps) (v now : Int) : Ps := if c.queue = true then ⟨pushV (roomV c.size) s.l v, lostV (freeV (roomV c.size) s.l) s.lost, s.at_⟩ else ⟨[v], s.lost, now⟩
def Ps.clear (s : Ps) : Ps := ⟨[], 0, s.at_⟩
def Ps.took (c : Ch) (s : Ps) : Ps := if c.queue = true ∧ anyV s.l = true then ⟨s.l.tail, 0, s.at_⟩ else s
def besV (c : Ch) (s : Ps) (now : Int) : Int := if anyV s.l = true then (if c.queue = true then s.lost else if now - s.at_ ≤ c.size then 1 else 0) else 0
theorem roomV_le (x : Int) : 0 ≤ roomV x ∧ roomV x ≤ 4096 := by unfold roomV; omega
/-- A Queue in memory: its box is H. -/
def QuAt (H : Nat) (c : Ch) (s : Ps) (w : World) (S : Nat → Prop) : Prop := ∃ R SR, w.heap[H]? = some (.cells #[.bool true, .int .i64 c.from_, .int .i64 c.to, .int .i64 c.size, .pointer (some ⟨R, 0, none⟩), .int .i64 s.lost] 73 (0, 0)) ∧ ringInt.Rg w R SR (roomV c.size) s.l ∧ ¬ SR H ∧ ∀ k, S k ↔ k = H ∨ SR k
/-- Another one. -/
def SaAt (H : Nat) (c : Ch) (s : Ps) (w : World) (S : Nat → Prop) : Prop := ∃ held v at_, w.heap[H]? = some (.cells #[.bool false, .int .i64 c.from_, .int .i64 c.to, .int .i64 c.size, .bool held, .int .i64 v, .int .i64 at_] 78 (0, 0)) ∧ ((held = false ∧ s.l = []) ∨ (held = true ∧ s.l = [v] ∧ s.at_ = at_ ∧ I64 at_)) ∧ ∀ k, S k ↔ k = H
def PoAt (H : Nat) (c : Ch) (s : Ps) : Own := fun w S => (c.queue = true ∧ QuAt H c s w S) ∨ (c.queue = false ∧ SaAt H c s w S)
/-- The interface's value. -/
def poV (H : Nat) (c : Ch) : Value := if c.queue = true then .iface 67 (.pointer (some ⟨H, 0, none⟩)) else .iface 74 (.pointer (some ⟨H, 0, none⟩))
theorem qu_own (H : Nat) (c : Ch) (s : Ps) : OwnP (QuAt H c s) :=
  ⟨fun ⟨R, SR, h1, h2, h3, h4⟩ hk hz => ⟨R, SR, (hk H ((h4 H).2 (.inl rfl))).trans h1, ringInt.keep h2 (fun k h => hk k ((h4 k).2 (.inr h))) hz, h3, h4⟩,
   fun ⟨R, SR, h1, h2, h3, h4⟩ k hk => ((h4 k).1 hk).elim (fun e => e ▸ lt_of_block h1) (ringInt.lt h2 k)⟩
theorem sa_own (H : Nat) (c : Ch) (s : Ps) : OwnP (SaAt H c s) :=
  ⟨fun ⟨a, v, t, h1, h2, h4⟩ hk hz => ⟨a, v, t, (hk H ((h4 H).2 rfl)).trans h1, h2, h4⟩,
   fun ⟨a, v, t, h1, h2, h4⟩ k hk => ((h4 k).1 hk) ▸ lt_of_block h1⟩
theorem po_own (H : Nat) (c : Ch) (s : Ps) : OwnP (PoAt H c s) :=
  ⟨fun h hk hz => h.elim (fun h => .inl ⟨h.1, (qu_own H c s).keep h.2 hk hz⟩) (fun h => .inr ⟨h.1, (sa_own H c s).keep h.2 hk hz⟩),
   fun h => h.elim (fun h => (qu_own H c s).lt h.2) (fun h => (sa_own H c s).lt h.2)⟩
theorem grow_box {S SR S3 : Nat → Prop} {w w3 Y : World} {H : Nat} (g : GrowS SR S3 w w3) (hS : ∀ k, S k ↔ k = H ∨ SR k) (hb : But H w3 Y) : GrowS S (fun k => k = H ∨ S3 k) w Y :=
  ⟨hb.os.trans g.os, hb.tape.trans g.tape, hb.output.trans g.output, Nat.le_trans g.size hb.size, fun k hk hn => (hb.block k (Nat.lt_of_lt_of_le hk g.size) (fun e => hn ((hS k).2 (.inl e)))).trans (g.block k hk (fun h => hn ((hS k).2 (.inr h)))),
   fun k hk => hk.elim (fun e => .inl ((hS k).2 (.inl e))) (fun h => (g.own k h).elim (fun h => .inl ((hS k).2 (.inr h))) .inr)⟩
theorem grow_one {S : Nat → Prop} {w Y : World} {H : Nat} (hS : ∀ k, S k ↔ k = H) (hb : But H w Y) : GrowS S S w Y :=
  ⟨hb.os, hb.tape, hb.output, hb.size, fun k hk hn => hb.block k hk (fun e => hn ((hS k).2 e)), fun k hk => .inl hk⟩
set_option maxRecDepth 100000 in
set_option maxHeartbeats 4000000 in
theorem lfrom_any (w : World) (H : Nat) (f p : Int) (h : w.cell? ⟨H, 1, none⟩ = some (.int .i64 f)) : Calls Try.prog 39 #[.pointer (some ⟨H, 0, none⟩), .int .i64 p] w fun e w' => e = .returned (.bool (f == p)) ∧ w' = w := by
  go_enter Try.func39, Try.ntmps39
  go_wp2_with fail
  go_ret
  exact ⟨rfl, rfl⟩
set_option maxRecDepth 100000 in
set_option maxHeartbeats 4000000 in
theorem lto_any (w : World) (H : Nat) (f p : Int) (h : w.cell? ⟨H, 2, none⟩ = some (.int .i64 f)) : Calls Try.prog 40 #[.pointer (some ⟨H, 0, none⟩), .int .i64 p] w fun e w' => e = .returned (.bool (f == p)) ∧ w' = w := by
  go_enter Try.func40, Try.ntmps40
  go_wp2_with fail
  go_ret
  exact ⟨rfl, rfl⟩
/-- The box of a Queue, its last cell written. -/
theorem qu_set {Y : World} {H R : Nat} {SR : Nat → Prop} {a b c d e x : Value} {n : Int} {l : List Int} (y : Value) (h : Y.heap[H]? = some (.cells #[a, b, c, d, e, x] 73 (0, 0))) (hr : ringInt.Rg Y R SR n l) (hn : ¬ SR H) :
    (Y.setCell ⟨H, 5, none⟩ y).heap[H]? = some (.cells #[a, b, c, d, e, y] 73 (0, 0)) ∧ ringInt.Rg (Y.setCell ⟨H, 5, none⟩ y) R SR n l ∧ But H Y (Y.setCell ⟨H, 5, none⟩ y) := by
  have hB : But H Y (Y.setCell ⟨H, 5, none⟩ y) := (But.refl H Y).set 5 _
  refine ⟨by rw [set_at h]; rfl, ringInt.keep hr (fun k hk => hB.block k (ringInt.lt hr k hk) (fun e => hn (e ▸ hk))) hB.size, hB⟩
set_option maxRecDepth 100000 in
set_option maxHeartbeats 4000000 in
theorem qput_any (w : World) (H : Nat) (c : Ch) (s : Ps) (S : Nat → Prop) (v now : Int) (h : QuAt H c s w S) :
    Calls Try.prog 41 #[.pointer (some ⟨H, 0, none⟩), .int .i64 v, .int .i64 now] w fun e w' => ∃ S', e = .returned (.tuple #[]) ∧ QuAt H c ⟨pushV (roomV c.size) s.l v, lostV (freeV (roomV c.size) s.l) s.lost, s.at_⟩ w' S' ∧ GrowS S S' w w' := by
  obtain ⟨R, SR, h1, h2, h3, h4⟩ := h
  have b4 : w.cell? ⟨H, 4, none⟩ = some (.pointer (some ⟨R, 0, none⟩)) := cell_in h1 rfl
  obtain ⟨lost, hlost⟩ : ∃ x, x = s.lost := ⟨_, rfl⟩
  rw [← hlost] at h1
  obtain ⟨fr, hfr⟩ : ∃ x, x = freeV (roomV c.size) s.l := ⟨_, rfl⟩
  have hz : H < w.heap.size := lt_of_block h1
  have HP : Hid (Calls Try.prog 45 #[.pointer (some ⟨R, 0, none⟩), .int .i64 v] w fun e w' => ∃ S3, e = .returned (.bool fr) ∧ (ringInt.Rg w' R S3 (roomV c.size) (pushV (roomV c.size) s.l v) ∧ GrowS SR S3 w w' ∧ w'.heap[H]? = some (.cells #[.bool true, .int .i64 c.from_, .int .i64 c.to, .int .i64 c.size, .pointer (some ⟨R, 0, none⟩), .int .i64 lost] 73 (0, 0)) ∧ ¬ S3 H)) := Lib.hid ((ringInt.push w R SR _ _ v h2).mono (by
    rintro e w' ⟨S3, rfl, q1, q2⟩
    exact ⟨S3, by rw [hfr], q1, q2, (q2.block H hz h3).trans h1, q2.not hz h3⟩))
  have H4 := Lib.hid h4
  have HL := Lib.hid (And.intro hlost hfr)
  clear h1 h2 h3 h4 hlost hfr hz
  cases fr with
  | true =>
    go_enter Try.func41, Try.ntmps41
    go_wp2_with (first
      | (go_at_call 45; refine HP.out.mono ?_; rintro e w3 ⟨S3, rfl, q'⟩; have q := Lib.hid q'; clear q')
      | fail "no arm")
    go_end0
    refine ⟨fun k => k = H ∨ S3 k, rfl, ⟨R, S3, ?_, q.out.1, q.out.2.2.2, fun _ => Iff.rfl⟩, grow_box q.out.2.1 H4.out (But.refl H _)⟩
    show w3.heap[H]? = some (.cells #[_, _, _, _, _, .int .i64 (lostV (freeV (roomV c.size) s.l) s.lost)] _ _)
    rw [← HL.out.2, ← HL.out.1]
    exact q.out.2.2.1
  | false =>
    go_enter Try.func41, Try.ntmps41
    go_wp2_with (first
      | (go_at_call 45; refine HP.out.mono ?_; rintro e w3 ⟨S3, rfl, q'⟩; have u0 : w3.cell? ⟨H, 5, none⟩ = some (.int .i64 lost) := cell_in q'.2.2.1 rfl; have u1 : w3.frozen? ⟨H, 5, none⟩ = false := free_in q'.2.2.1 _; have q := Lib.hid q'; clear q')
      | fail "no arm")
    go_end0
    obtain ⟨r1, r2, r3⟩ := qu_set (.int .i64 (wrap64 (lost + 1))) q.out.2.2.1 q.out.1 q.out.2.2.2
    refine ⟨fun k => k = H ∨ S3 k, rfl, ⟨R, S3, ?_, r2, q.out.2.2.2, fun _ => Iff.rfl⟩, grow_box q.out.2.1 H4.out r3⟩
    show (w3.setCell _ _).heap[H]? = some (.cells #[_, _, _, _, _, .int .i64 (lostV (freeV (roomV c.size) s.l) s.lost)] _ _)
    rw [← HL.out.2, ← HL.out.1]
    exact r1
set_option maxRecDepth 100000 in
set_option maxHeartbeats 4000000 in
theorem qtake_any (w : World) (H : Nat) (c : Ch) (s : Ps) (S : Nat → Prop) (now : Int) (h : QuAt H c s w S) :
    Calls Try.prog 42 #[.pointer (some ⟨H, 0, none⟩), .int .i64 now] w fun e w' => ∃ S', e = .returned (.tuple #[.int .i64 (popV 0 s.l), .int .i64 (if anyV s.l = true then s.lost else 0), .bool (anyV s.l)]) ∧ QuAt H c (if anyV s.l = true then ⟨s.l.tail, 0, s.at_⟩ else s) w' S' ∧ GrowS S S' w w' := by
  obtain ⟨R, SR, h1, h2, h3, h4⟩ := h
  have b4 : w.cell? ⟨H, 4, none⟩ = some (.pointer (some ⟨R, 0, none⟩)) := cell_in h1 rfl
  obtain ⟨lost, hlost⟩ : ∃ x, x = s.lost := ⟨_, rfl⟩
  rw [← hlost] at h1 ⊢
  obtain ⟨an, han⟩ : ∃ x, x = anyV s.l := ⟨_, rfl⟩
  obtain ⟨v, hv⟩ : ∃ x, x = popV 0 s.l := ⟨_, rfl⟩
  rw [← han, ← hv]
  have hz : H < w.heap.size := lt_of_block h1
  have HP : Hid (Calls Try.prog 46 #[.pointer (some ⟨R, 0, none⟩)] w fun e w' => ∃ S3, e = .returned (.tuple #[.int .i64 v, .bool an]) ∧ (ringInt.Rg w' R S3 (roomV c.size) s.l.tail ∧ GrowS SR S3 w w' ∧ w'.heap[H]? = some (.cells #[.bool true, .int .i64 c.from_, .int .i64 c.to, .int .i64 c.size, .pointer (some ⟨R, 0, none⟩), .int .i64 lost] 73 (0, 0)) ∧ ¬ S3 H)) := Lib.hid ((ringInt.pop w R SR _ _ h2).mono (by
    rintro e w' ⟨S3, rfl, q1, q2⟩
    exact ⟨S3, by rw [han, hv], q1, q2, (q2.block H hz h3).trans h1, q2.not hz h3⟩))
  have H4 := Lib.hid h4
  have HL := Lib.hid (And.intro hlost (And.intro han hv))
  clear h1 h2 h3 h4 hlost han hv hz
  cases an with
  | false =>
    have HE : Hid (s.l = [] ∧ v = 0) := Lib.hid (by
      have := HL.out.2.1
      have h := HL.out.2.2
      cases hl : s.l with
      | nil => rw [hl] at h; exact ⟨rfl, h⟩
      | cons x l => rw [hl] at this; simp [anyV] at this)
    obtain ⟨hE1, rfl⟩ := HE.out
    clear HE hE1
    go_enter Try.func42, Try.ntmps42
    go_wp2_with (first
      | (go_at_call 46; refine HP.out.mono ?_; rintro e w3 ⟨S3, rfl, q'⟩; have q := Lib.hid q'; clear q')
      | fail "no arm")
    go_ret3
    have hnil : s.l = [] := by
      have := HL.out.2.1
      cases hl : s.l with
      | nil => rfl
      | cons x l => rw [hl] at this; simp [anyV] at this
    refine ⟨rfl, fun k => k = H ∨ S3 k, ⟨R, S3, ?_, ?_, q.out.2.2.2, fun _ => Iff.rfl⟩, grow_box q.out.2.1 H4.out (But.refl H _)⟩
    · show w3.heap[H]? = some (.cells #[_, _, _, _, _, .int .i64 s.lost] _ _)
      rw [← HL.out.1]
      exact q.out.2.2.1
    · show ringInt.Rg w3 R S3 (roomV c.size) s.l
      have := q.out.1
      rw [hnil] at this ⊢
      exact this
  | true =>
    go_enter Try.func42, Try.ntmps42
    go_wp2_with (first
      | (go_at_call 46; refine HP.out.mono ?_; rintro e w3 ⟨S3, rfl, q'⟩; have u0 : w3.cell? ⟨H, 5, none⟩ = some (.int .i64 lost) := cell_in q'.2.2.1 rfl; have u1 : w3.frozen? ⟨H, 5, none⟩ = false := free_in q'.2.2.1 _; have q := Lib.hid q'; clear q')
      | fail "no arm")
    go_ret3
    obtain ⟨r1, r2, r3⟩ := qu_set (.int .i64 0) q.out.2.2.1 q.out.1 q.out.2.2.2
    exact ⟨rfl, fun k => k = H ∨ S3 k, ⟨R, S3, r1, r2, q.out.2.2.2, fun _ => Iff.rfl⟩, grow_box q.out.2.1 H4.out r3⟩
set_option maxRecDepth 100000 in
set_option maxHeartbeats 4000000 in
theorem qempty_any (w : World) (H : Nat) (c : Ch) (s : Ps) (S : Nat → Prop) (h : QuAt H c s w S) :
    Calls Try.prog 38 #[.pointer (some ⟨H, 0, none⟩)] w fun e w' => ∃ S', e = .returned (.tuple #[]) ∧ QuAt H c s.clear w' S' ∧ GrowS S S' w w' := by
  obtain ⟨R, SR, h1, h2, h3, h4⟩ := h
  have b4 : w.cell? ⟨H, 4, none⟩ = some (.pointer (some ⟨R, 0, none⟩)) := cell_in h1 rfl
  have hz : H < w.heap.size := lt_of_block h1
  obtain ⟨lost, hlost⟩ : ∃ x, x = s.lost := ⟨_, rfl⟩
  rw [← hlost] at h1
  have HP : Hid (Calls Try.prog 44 #[.pointer (some ⟨R, 0, none⟩)] w fun e w' => ∃ S3, e = .returned (.tuple #[]) ∧ (ringInt.Rg w' R S3 (roomV c.size) [] ∧ GrowS SR S3 w w' ∧ w'.heap[H]? = some (.cells #[.bool true, .int .i64 c.from_, .int .i64 c.to, .int .i64 c.size, .pointer (some ⟨R, 0, none⟩), .int .i64 lost] 73 (0, 0)) ∧ ¬ S3 H)) := Lib.hid ((ringInt.clear w R SR _ _ h2).mono (by
    rintro e w' ⟨S3, rfl, q1, q2⟩
    exact ⟨S3, rfl, q1, q2, (q2.block H hz h3).trans h1, q2.not hz h3⟩))
  have H4 := Lib.hid h4
  clear h1 h2 h3 h4 hlost hz
  go_enter Try.func38, Try.ntmps38
  go_wp2_with (first
    | (go_at_call 44; refine HP.out.mono ?_; rintro e w3 ⟨S3, rfl, q'⟩; have u0 : w3.cell? ⟨H, 5, none⟩ = some (.int .i64 lost) := cell_in q'.2.2.1 rfl; have u1 : w3.frozen? ⟨H, 5, none⟩ = false := free_in q'.2.2.1 _; have q := Lib.hid q'; clear q')
    | fail "no arm")
  go_end0
  obtain ⟨r1, r2, r3⟩ := qu_set (.int .i64 0) q.out.2.2.1 q.out.1 q.out.2.2.2
  exact ⟨fun k => k = H ∨ S3 k, rfl, ⟨R, S3, r1, r2, q.out.2.2.2, fun _ => Iff.rfl⟩, grow_box q.out.2.1 H4.out r3⟩
set_option maxRecDepth 100000 in
set_option maxHeartbeats 4000000 in
theorem qwait_any (w : World) (H : Nat) (c : Ch) (s : Ps) (S : Nat → Prop) (h : QuAt H c s w S) :
    Calls Try.prog 43 #[.pointer (some ⟨H, 0, none⟩)] w fun e w' => e = .returned (.int .i64 (s.l.length : Nat)) ∧ Below w.heap.size w w' := by
  obtain ⟨R, SR, h1, h2, h3, h4⟩ := h
  have b4 : w.cell? ⟨H, 4, none⟩ = some (.pointer (some ⟨R, 0, none⟩)) := cell_in h1 rfl
  obtain ⟨n, hn⟩ : ∃ n, n = s.l.length := ⟨_, rfl⟩
  have HP := Lib.hid (ringInt.len w R SR _ _ h2)
  rw [← hn] at HP ⊢
  clear h1 h2 h3 h4 hn
  go_enter Try.func43, Try.ntmps43
  go_wp2_with (first
    | (go_at_call 47; refine HP.out.mono ?_; rintro e w3 ⟨rfl, q'⟩; have q := Lib.hid q'; clear q')
    | fail "no arm")
  go_ret
  exact ⟨rfl, q.out⟩
end Go.Proofs.Ytoebbbghllkdgaa
