/- The document's channels: Waiting, Read. -/
import Derived.Test.YtoebbbghllkdgaaPortR
import Derived.BigQuiet
import Derived.BigRegion
namespace Go.Proofs.Ytoebbbghllkdgaa
open Go.ChangeShapes Go.WideShapes Go.ChangeAt Go.RowKit
set_option linter.unusedVariables false

set_option maxRecDepth 100000 in
set_option maxHeartbeats 4000000 in
theorem rwait_any (w : World) (rb : Nat) (cs : List Ch) (st : Nat → Ps) (R : Nat → Prop) (c : Int) (h : DpAt rb cs st w R) :
    Calls Try.prog 18 #[.pointer (some ⟨rb, 0, none⟩), .int .i64 c] w fun e w' => e = .returned (.int .i64 (waV cs st c)) ∧ Below w.heap.size w w' := by
  unfold waV
  cases hc : chan cs c with
  | none =>
    obtain ⟨ao, cap, h1⟩ := h.box
    have b0 : w.cell? ⟨rb, 0, none⟩ = some (.slice ao cs.length cap) := cell_in h1 rfl
    obtain ⟨n, hn⟩ : ∃ n, n = cs.length := ⟨_, rfl⟩
    have hcn := (chan_none hc).2
    rw [← hn] at b0 hcn
    clear hc h h1 hn
    by_cases g0 : c < 0
    · have f0 : decide (c < 0) = true := decide_eq_true g0
      clear g0 hcn
      go_enter Try.func18, Try.ntmps18
      go_wp2_with fail
      go_ret
      exact ⟨rfl, Below.refl _ _⟩
    · have f0 : decide (c < 0) = false := decide_eq_false g0
      have f1 : decide ((n : Int) ≤ c) = true := decide_eq_true (by omega)
      clear g0 hcn
      go_enter Try.func18, Try.ntmps18
      go_wp2_with fail
      go_ret
      exact ⟨rfl, Below.refl _ _⟩
  | some kx =>
    obtain ⟨k, x⟩ := kx
    obtain ⟨rfl, hx, hk, _⟩ := chan_some hc
    obtain ⟨G, cap, cur, la, lc, h1, h2, h3, _, _, _, _⟩ := h.at_ hx
    have b0 : w.cell? ⟨rb, 0, none⟩ = some (.slice (some ⟨G, 0, none⟩) cs.length cap) := cell_in h1 rfl
    obtain ⟨_, _, _, _, c4, _⟩ := pc_cells h2 h3
    obtain ⟨n, hn⟩ : ∃ n, n = cs.length := ⟨_, rfl⟩
    obtain ⟨m, hm⟩ : ∃ n, n = (st k).l.length := ⟨_, rfl⟩
    rw [← hn] at b0 hk
    rw [← hm] at c4
    have f0 : decide ((k : Int) < 0) = false := decide_eq_false (by omega)
    have f1 : decide ((n : Int) ≤ (k : Int)) = false := decide_eq_false (by omega)
    have f2 : (0 : Int) ≤ (k : Int) := by omega
    have f3 : (k : Int) < (n : Int) := by omega
    have f4 : ¬ n ≤ k := by omega
    have f5 : decide (n ≤ k) = false := decide_eq_false f4
    show Calls _ _ _ _ fun e w' => e = .returned (.int .i64 ((st k).l.length : Nat)) ∧ _
    rw [← hm]
    clear hc h h1 h2 h3 hn hm hx
    go_enter Try.func18, Try.ntmps18
    go_wp2_with fail
    go_ret
    exact ⟨rfl, Below.refl _ _⟩
set_option maxRecDepth 100000 in
set_option maxHeartbeats 4000000 in
theorem rread_none (w : World) (rb : Nat) (cs : List Ch) (st : Nat → Ps) (R : Nat → Prop) (p c now : Int) (h : DpAt rb cs st w R) (hc : chan cs c = none) :
    Calls Try.prog 14 #[.pointer (some ⟨rb, 0, none⟩), .int .i64 p, .int .i64 c, .int .i64 now] w fun e w' => e = .returned (.tuple #[.int .i64 0, .int .i64 0, .int .i64 1]) ∧ w' = w := by
  obtain ⟨ao, cap, h1⟩ := h.box
  have b0 : w.cell? ⟨rb, 0, none⟩ = some (.slice ao cs.length cap) := cell_in h1 rfl
  obtain ⟨n, hn⟩ : ∃ n, n = cs.length := ⟨_, rfl⟩
  have hcn := (chan_none hc).2
  rw [← hn] at b0 hcn
  clear hc h h1 hn
  by_cases g0 : c < 0
  · have f0 : decide (c < 0) = true := decide_eq_true g0
    clear g0 hcn
    go_enter Try.func14, Try.ntmps14
    go_wp2_with fail
    go_ret3
    exact ⟨rfl, rfl⟩
  · have f0 : decide (c < 0) = false := decide_eq_false g0
    have f1 : decide ((n : Int) ≤ c) = true := decide_eq_true (by omega)
    clear g0 hcn
    go_enter Try.func14, Try.ntmps14
    go_wp2_with fail
    go_ret3
    exact ⟨rfl, rfl⟩
set_option maxRecDepth 100000 in
set_option maxHeartbeats 4000000 in
theorem rwrite_none (w : World) (rb : Nat) (cs : List Ch) (st : Nat → Ps) (R : Nat → Prop) (p c v now : Int) (h : DpAt rb cs st w R) (hc : chan cs c = none) :
    Calls Try.prog 12 #[.pointer (some ⟨rb, 0, none⟩), .int .i64 p, .int .i64 c, .int .i64 v, .int .i64 now] w fun e w' => e = .returned (.int .i64 1) ∧ w' = w := by
  obtain ⟨ao, cap, h1⟩ := h.box
  have b0 : w.cell? ⟨rb, 0, none⟩ = some (.slice ao cs.length cap) := cell_in h1 rfl
  obtain ⟨n, hn⟩ : ∃ n, n = cs.length := ⟨_, rfl⟩
  have hcn := (chan_none hc).2
  rw [← hn] at b0 hcn
  clear hc h h1 hn
  by_cases g0 : c < 0
  · have f0 : decide (c < 0) = true := decide_eq_true g0
    clear g0 hcn
    go_enter Try.func12, Try.ntmps12
    go_wp2_with fail
    go_ret
    exact ⟨rfl, rfl⟩
  · have f0 : decide (c < 0) = false := decide_eq_false g0
    have f1 : decide ((n : Int) ≤ c) = true := decide_eq_true (by omega)
    clear g0 hcn
    go_enter Try.func12, Try.ntmps12
    go_wp2_with fail
    go_ret
    exact ⟨rfl, rfl⟩
/-- What a call at a channel's number wants of memory. -/
structure RdAt (w : World) (rb G : Nat) (k n cap : Nat) (f t sz : Int) (q : Bool) (la : Option Addr) (m lc : Nat) (lost at_ : Int) : Prop where
  b0 : w.cell? ⟨rb, 0, none⟩ = some (.slice (some ⟨G, 0, none⟩) n cap)
  hk : k < n
  c0 : w.cell? ⟨G, k * 7, none⟩ = some (.bool q)
  c1 : w.cell? ⟨G, k * 7 + 1, none⟩ = some (.int .i64 f)
  c2 : w.cell? ⟨G, k * 7 + 2, none⟩ = some (.int .i64 t)
  c3 : w.cell? ⟨G, k * 7 + 3, none⟩ = some (.int .i64 sz)
  c4 : w.cell? ⟨G, k * 7 + 4, none⟩ = some (.slice la m lc)
  c5 : w.cell? ⟨G, k * 7 + 5, none⟩ = some (.int .i64 lost)
  c6 : w.cell? ⟨G, k * 7 + 6, none⟩ = some (.int .i64 at_)
  u4 : w.frozen? ⟨G, k * 7 + 4, none⟩ = false
  u5 : w.frozen? ⟨G, k * 7 + 5, none⟩ = false
  u6 : w.frozen? ⟨G, k * 7 + 6, none⟩ = false
set_option maxRecDepth 100000 in
set_option maxHeartbeats 4000000 in
theorem rread_walk_no (w : World) (rb G k n cap : Nat) (f t sz : Int) (q : Bool) (la : Option Addr) (m lc : Nat) (lost at_ p now : Int) (h : RdAt w rb G k n cap f t sz q la m lc lost at_) (hp : t ≠ p) :
    Calls Try.prog 14 #[.pointer (some ⟨rb, 0, none⟩), .int .i64 p, .int .i64 k, .int .i64 now] w fun e w' => e = .returned (.tuple #[.int .i64 0, .int .i64 0, .int .i64 1]) ∧ w' = w := by
  obtain ⟨b0, hk, c0, c1, c2, c3, c4, c5, c6, u4, u5, u6⟩ := h
  have f0 : decide ((k : Int) < 0) = false := decide_eq_false (by omega)
  have f1 : decide ((n : Int) ≤ (k : Int)) = false := decide_eq_false (by omega)
  have f2 : (0 : Int) ≤ (k : Int) := by omega
  have f3 : (k : Int) < (n : Int) := by omega
  have f5 : decide (n ≤ k) = false := decide_eq_false (by omega)
  have f6 : (t != p) = true := by simpa using hp
  clear hp
  go_enter Try.func14, Try.ntmps14
  go_wp2_with fail
  go_ret3
  exact ⟨rfl, rfl⟩
set_option maxRecDepth 100000 in
set_option maxHeartbeats 4000000 in
theorem rread_walk_empty (w : World) (rb G k n cap : Nat) (f t sz : Int) (q : Bool) (la : Option Addr) (lc : Nat) (lost at_ now : Int) (h : RdAt w rb G k n cap f t sz q la 0 lc lost at_) :
    Calls Try.prog 14 #[.pointer (some ⟨rb, 0, none⟩), .int .i64 t, .int .i64 k, .int .i64 now] w fun e w' => e = .returned (.tuple #[.int .i64 0, .int .i64 0, .int .i64 6]) ∧ w' = w := by
  obtain ⟨b0, hk, c0, c1, c2, c3, c4, c5, c6, u4, u5, u6⟩ := h
  have f0 : decide ((k : Int) < 0) = false := decide_eq_false (by omega)
  have f1 : decide ((n : Int) ≤ (k : Int)) = false := decide_eq_false (by omega)
  have f2 : (0 : Int) ≤ (k : Int) := by omega
  have f3 : (k : Int) < (n : Int) := by omega
  have f5 : decide (n ≤ k) = false := decide_eq_false (by omega)
  have f6 : (t != t) = false := by simp
  go_enter Try.func14, Try.ntmps14
  go_wp2_with fail
  go_ret3
  exact ⟨rfl, rfl⟩
set_option maxRecDepth 100000 in
set_option maxHeartbeats 4000000 in
theorem rread_walk_queue (w : World) (rb G k n cap : Nat) (f t sz : Int) (b off m lc : Nat) (lost at_ now v : Int) (h : RdAt w rb G k n cap f t sz true (some ⟨b, off, none⟩) (m + 1) lc lost at_) (hm : m + 1 ≤ lc) (hm2 : m + 1 ≤ 4096) (hv : w.cell? ⟨b, off, none⟩ = some (.int .i64 v)) :
    Calls Try.prog 14 #[.pointer (some ⟨rb, 0, none⟩), .int .i64 t, .int .i64 k, .int .i64 now] w fun e w' => e = .returned (.tuple #[.int .i64 v, .int .i64 lost, .int .i64 0]) ∧ w' = (w.setCell ⟨G, k * 7 + 4, none⟩ (.slice (if lc = 1 then some ⟨b, off, none⟩ else some ⟨b, off + 1, none⟩) m (lc - 1))).setCell ⟨G, k * 7 + 5, none⟩ (.int .i64 0) := by
  obtain ⟨b0, hk, c0, c1, c2, c3, c4, c5, c6, u4, u5, u6⟩ := h
  have f0 : decide ((k : Int) < 0) = false := decide_eq_false (by omega)
  have f1 : decide ((n : Int) ≤ (k : Int)) = false := decide_eq_false (by omega)
  have f2 : (0 : Int) ≤ (k : Int) := by omega
  have f3 : (k : Int) < (n : Int) := by omega
  have f5 : decide (n ≤ k) = false := decide_eq_false (by omega)
  have f6 : (t != t) = false := by simp
  have e0 : (((m + 1 : Nat) : Int) == 0) = false := by simp; omega
  have e1 : (1 : Int) ≤ ((m + 1 : Nat) : Int) := by omega
  have e2 : (0 : Int) < ((m + 1 : Nat) : Int) := by omega
  have e3 : ((m + 1 : Nat) : Int) ≤ (lc : Int) := by omega
  by_cases hc : lc = 1
  · subst hc
    obtain rfl : m = 0 := by omega
    rw [if_pos rfl]
    go_enter Try.func14, Try.ntmps14
    go_wp2_with fail
    go_ret3
    exact ⟨rfl, rfl⟩
  · rw [if_neg hc]
    go_enter Try.func14, Try.ntmps14
    go_wp2_with fail
    go_ret3
    exact ⟨rfl, rfl⟩
set_option maxRecDepth 100000 in
set_option maxHeartbeats 4000000 in
theorem rread_walk_sample (w : World) (rb G k n cap : Nat) (f t sz : Int) (b off m lc : Nat) (lost at_ now v : Int) (h : RdAt w rb G k n cap f t sz false (some ⟨b, off, none⟩) (m + 1) lc lost at_) (hm2 : m + 1 ≤ 4096) (hv : w.cell? ⟨b, off, none⟩ = some (.int .i64 v)) (ht : 0 ≤ at_ ∧ at_ ≤ 2305843009213693952) (hn : 0 ≤ now ∧ now ≤ 2305843009213693952) :
    Calls Try.prog 14 #[.pointer (some ⟨rb, 0, none⟩), .int .i64 t, .int .i64 k, .int .i64 now] w fun e w' => e = .returned (.tuple #[.int .i64 v, .int .i64 (if now - at_ ≤ sz then 1 else 0), .int .i64 0]) ∧ Below w.heap.size w w' := by
  obtain ⟨b0, hk, c0, c1, c2, c3, c4, c5, c6, u4, u5, u6⟩ := h
  have f0 : decide ((k : Int) < 0) = false := decide_eq_false (by omega)
  have f1 : decide ((n : Int) ≤ (k : Int)) = false := decide_eq_false (by omega)
  have f2 : (0 : Int) ≤ (k : Int) := by omega
  have f3 : (k : Int) < (n : Int) := by omega
  have f5 : decide (n ≤ k) = false := decide_eq_false (by omega)
  have f6 : (t != t) = false := by simp
  have e0 : (((m + 1 : Nat) : Int) == 0) = false := by simp; omega
  have e2 : (0 : Int) < ((m + 1 : Nat) : Int) := by omega
  have e4 : IntKind.i64.wrap (now - at_) = now - at_ := IntWalk.i64_in _ (by omega)
  have e5 : wrap64 (now - at_) = now - at_ := IntWalk.wrap64_in _ (by omega)
  by_cases hf : now - at_ ≤ sz
  · have e6 : decide (now - at_ ≤ sz) = true := decide_eq_true hf
    rw [if_pos hf]
    clear hf ht hn
    go_enter Try.func14, Try.ntmps14
    go_wp2_with fail
    go_quiet (fail)
    go_wp2_with fail
    go_ret3
    exact ⟨rfl, by repeat first | exact Below.refl _ _ | refine Below.drew ?_ | refine below_drewR _ ?_⟩
  · have e6 : decide (now - at_ ≤ sz) = false := decide_eq_false hf
    rw [if_neg hf]
    clear hf ht hn
    go_enter Try.func14, Try.ntmps14
    go_wp2_with fail
    go_quiet (fail)
    go_wp2_with fail
    go_ret3
    exact ⟨rfl, by repeat first | exact Below.refl _ _ | refine Below.drew ?_ | refine below_drewR _ ?_⟩
end Go.Proofs.Ytoebbbghllkdgaa
