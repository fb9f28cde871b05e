/- The document's wheel. -/
import Derived.Test.YtbjhoncojegjiaaDoorRowAt
import Derived.Deep.RegionLaw
import Derived.Deep.CutRange
namespace Go.Proofs.YtbjhoncojegjiaaDoor
open Go.ChangeShapes Go.WideShapes Go.ChangeAt Go.RowKit
set_option linter.unusedVariables false

structure RWh (w : World) (rb G : Nat) (now : Int) (x : Nat → Int) : Prop where
  box : ∃ cap, w.heap[rb]? = some (.cells #[.int .i64 now, .slice (some ⟨G, 0, none⟩) 256 cap] 32 (0, 0))
  row : RowAt w G 256 x
  ne : rb ≠ G
section
variable {w w' : World} {rb G : Nat} {now : Int} {x : Nat → Int}
theorem RWh.keep (h : RWh w rb G now x) (h1 : w'.heap[rb]? = w.heap[rb]?) (h2 : w'.heap[G]? = w.heap[G]?) : RWh w' rb G now x := by
  obtain ⟨⟨cap, hb⟩, hr, hn⟩ := h
  exact ⟨⟨cap, h1.trans hb⟩, hr.same h2, hn⟩
theorem RWh.lt (h : RWh w rb G now x) : rb < w.heap.size ∧ G < w.heap.size := by
  obtain ⟨⟨cap, hb⟩, hr, hn⟩ := h
  exact ⟨lt_of_block hb, hr.lt⟩
theorem RWh.later (h : RWh w rb G now x) (hb : Below w.heap.size w w') : RWh w' rb G now x := h.keep (hb.block _ h.lt.1) (hb.block _ h.lt.2)
end
def inT (id : Int) : Bool := decide (0 ≤ id) && decide (id < 256)
/-- When one is set: -1, it is not. -/
def whV (x : Nat → Int) (id : Int) : Int := if inT id then x id.toNat else -1
def whA (x : Nat → Int) (id : Int) : Int := if 0 ≤ whV x id then whV x id else 0
def whB (x : Nat → Int) (id : Int) : Bool := decide (0 ≤ whV x id)
def canX (x : Nat → Int) (id : Int) : Nat → Int := if 0 ≤ whV x id then updR x id.toNat (-1) else x
def setC (now id tick : Int) : Int := if inT id then (if now < tick ∧ tick ≤ 4611686018427387904 then 0 else 2) else 1
def setX (now : Int) (x : Nat → Int) (id tick : Int) : Nat → Int := if inT id = true ∧ now < tick ∧ tick ≤ 4611686018427387904 then updR x id.toNat tick else x
set_option maxRecDepth 100000 in
set_option maxHeartbeats 2000000 in
theorem rset_any (w : World) (rb G : Nat) (now : Int) (x : Nat → Int) (h : RWh w rb G now x) (id tick : Int) :
    Calls Tryd.prog 12 #[.pointer (some ⟨rb, 0, none⟩), .int .i64 id, .int .i64 tick] w fun e w' => e = .returned (.int .i64 (setC now id tick)) ∧ RWh w' rb G now (setX now x id tick) ∧ But2 rb G w w' := by
  obtain ⟨cap, hb⟩ := h.box
  have b0 : w.cell? ⟨rb, 0, none⟩ = some (.int .i64 now) := cell_in hb rfl
  have b1 : w.cell? ⟨rb, 1, none⟩ = some (.slice (some ⟨G, 0, none⟩) 256 cap) := cell_in hb rfl
  have HH := Lib.hid h
  clear hb
  cases hin : inT id with
  | false =>
    have HC : Hid (setC now id tick = 1 ∧ setX now x id tick = x) := Lib.hid ⟨by simp [setC, hin], by simp [setX, hin]⟩
    by_cases h0 : id < 0
    · have t0 : decide (id < 0) = true := decide_eq_true h0
      clear h
      go_enter Tryd.func12, Tryd.ntmps12
      go_wp2
      go_ret
      rw [HC.out.1, HC.out.2]
      exact ⟨rfl, HH.out, But2.refl _⟩
    · have t0 : decide (id < 0) = false := decide_eq_false h0
      have t1 : decide ((256 : Int) ≤ id) = true := decide_eq_true (by simp only [inT, show (0 : Int) ≤ id by omega, decide_true, Bool.true_and, decide_eq_false_iff_not] at hin; omega)
      clear h
      go_enter Tryd.func12, Tryd.ntmps12
      go_wp2
      go_ret
      rw [HC.out.1, HC.out.2]
      exact ⟨rfl, HH.out, But2.refl _⟩
  | true =>
    obtain ⟨i, rfl, hi⟩ : ∃ i : Nat, id = i ∧ i < 256 := by
      simp only [inT, Bool.and_eq_true, decide_eq_true_eq] at hin
      exact ⟨id.toNat, by omega, by omega⟩
    have t0 : decide ((i : Int) < 0) = false := decide_eq_false (by omega)
    have t1 : decide ((256 : Int) ≤ (i : Int)) = false := decide_eq_false (by omega)
    have i0 : (0 : Int) ≤ (i : Int) := by omega
    have i1 : (i : Int) < 256 := by omega
    have i2 : i < 256 := hi
    obtain ⟨c0, c1⟩ := h.row.at_ hi
    by_cases h1 : tick ≤ now
    · have t2 : decide (tick ≤ now) = true := decide_eq_true h1
      have HC : Hid (setC now i tick = 2 ∧ setX now x i tick = x) := Lib.hid ⟨by simp [setC, hin]; omega, by simp [setX, hin]; omega⟩
      clear h
      go_enter Tryd.func12, Tryd.ntmps12
      go_wp2
      go_ret
      rw [HC.out.1, HC.out.2]
      exact ⟨rfl, HH.out, But2.refl _⟩
    · have t2 : decide (tick ≤ now) = false := decide_eq_false h1
      by_cases h2 : (4611686018427387904 : Int) < tick
      · have t3 : decide ((4611686018427387904 : Int) < tick) = true := decide_eq_true h2
        have HC : Hid (setC now i tick = 2 ∧ setX now x i tick = x) := Lib.hid ⟨by simp [setC, hin]; omega, by simp [setX, hin]; omega⟩
        clear h
        go_enter Tryd.func12, Tryd.ntmps12
        go_wp2
        go_ret
        rw [HC.out.1, HC.out.2]
        exact ⟨rfl, HH.out, But2.refl _⟩
      · have t3 : decide ((4611686018427387904 : Int) < tick) = false := decide_eq_false h2
        have HC : Hid (setC now i tick = 0 ∧ setX now x i tick = updR x i tick) := Lib.hid ⟨by simp [setC, hin]; omega, by rw [setX, if_pos ⟨hin, by omega, by omega⟩]; simp⟩
        have hn := h.ne
        have hn' := h.ne.symm
        clear h
        go_enter Tryd.func12, Tryd.ntmps12
        go_wp2
        go_ret
        rw [HC.out.1, HC.out.2]
        obtain ⟨hb, hr, _⟩ := HH.out
        obtain ⟨cap, hb⟩ := hb
        exact ⟨rfl, ⟨⟨cap, (Below.heap_setCell _ _ _ _ hn).trans hb⟩, hr.set hi tick, hn⟩, (But2.refl _).set2 _ _⟩
set_option maxRecDepth 100000 in
set_option maxHeartbeats 2000000 in
theorem rwhen_any (w : World) (rb G : Nat) (now : Int) (x : Nat → Int) (h : RWh w rb G now x) (id : Int) :
    Calls Tryd.prog 19 #[.pointer (some ⟨rb, 0, none⟩), .int .i64 id] w fun e w' => e = .returned (.tuple #[.int .i64 (whA x id), .bool (whB x id)]) ∧ Below w.heap.size w w' := by
  obtain ⟨cap, hb⟩ := h.box
  have b1 : w.cell? ⟨rb, 1, none⟩ = some (.slice (some ⟨G, 0, none⟩) 256 cap) := cell_in hb rfl
  clear hb
  cases hin : inT id with
  | false =>
    have HC : Hid (whA x id = 0 ∧ whB x id = false) := Lib.hid (by simp [whA, whB, whV, hin])
    by_cases h0 : id < 0
    · have t0 : decide (id < 0) = true := decide_eq_true h0
      clear h
      go_enter Tryd.func19, Tryd.ntmps19
      go_wp2
      go_ret2
      rw [HC.out.1, HC.out.2]
      exact ⟨rfl, Below.refl _ _⟩
    · have t0 : decide (id < 0) = false := decide_eq_false h0
      have t1 : decide ((256 : Int) ≤ id) = true := decide_eq_true (by simp only [inT, show (0 : Int) ≤ id by omega, decide_true, Bool.true_and, decide_eq_false_iff_not] at hin; omega)
      clear h
      go_enter Tryd.func19, Tryd.ntmps19
      go_wp2
      go_ret2
      rw [HC.out.1, HC.out.2]
      exact ⟨rfl, Below.refl _ _⟩
  | true =>
    obtain ⟨i, rfl, hi⟩ : ∃ i : Nat, id = i ∧ i < 256 := by
      simp only [inT, Bool.and_eq_true, decide_eq_true_eq] at hin
      exact ⟨id.toNat, by omega, by omega⟩
    have t0 : decide ((i : Int) < 0) = false := decide_eq_false (by omega)
    have t1 : decide ((256 : Int) ≤ (i : Int)) = false := decide_eq_false (by omega)
    have i0 : (0 : Int) ≤ (i : Int) := by omega
    have i1 : (i : Int) < 256 := by omega
    have i2 : i < 256 := hi
    obtain ⟨c0, c1⟩ := h.row.at_ hi
    have hwv : whV x i = x i := by simp [whV, hin]
    obtain ⟨v, hv⟩ : ∃ v, v = x i := ⟨_, rfl⟩
    rw [← hv] at c0 hwv
    have HWV := Lib.hid hwv
    clear hwv
    clear h hv
    by_cases h1 : v < 0
    · have t2 : decide (v < 0) = true := decide_eq_true h1
      have HF : Hid (whA x i = 0 ∧ whB x i = false) := Lib.hid (by unfold whA whB; rw [HWV.out]; exact ⟨if_neg (by omega), decide_eq_false (by omega)⟩)
      go_enter Tryd.func19, Tryd.ntmps19
      go_wp2
      go_ret2
      rw [HF.out.1, HF.out.2]
      exact ⟨rfl, Below.refl _ _⟩
    · have t2 : decide (v < 0) = false := decide_eq_false h1
      have HF : Hid (whA x i = v ∧ whB x i = true) := Lib.hid (by unfold whA whB; rw [HWV.out]; exact ⟨if_pos (by omega), decide_eq_true (by omega)⟩)
      go_enter Tryd.func19, Tryd.ntmps19
      go_wp2
      go_ret2
      rw [HF.out.1, HF.out.2]
      exact ⟨rfl, Below.refl _ _⟩
set_option maxRecDepth 100000 in
set_option maxHeartbeats 2000000 in
theorem rcancel_any (w : World) (rb G : Nat) (now : Int) (x : Nat → Int) (h : RWh w rb G now x) (id : Int) :
    Calls Tryd.prog 14 #[.pointer (some ⟨rb, 0, none⟩), .int .i64 id] w fun e w' => e = .returned (.bool (whB x id)) ∧ RWh w' rb G now (canX x id) ∧ But2 rb G w w' := by
  have HW := Lib.hid (rwhen_any w rb G now x h id)
  by_cases h0 : 0 ≤ whV x id
  · have hin : inT id = true := by
      cases hi : inT id with
      | true => rfl
      | false => simp [whV, hi] at h0
    obtain ⟨i, rfl, hi⟩ : ∃ i : Nat, id = i ∧ i < 256 := by
      simp only [inT, Bool.and_eq_true, decide_eq_true_eq] at hin
      exact ⟨id.toNat, by omega, by omega⟩
    have HS : Hid (∀ Y, Below w.heap.size w Y → RWh Y rb G now x) := Lib.hid (fun Y hY => h.later hY)
    have i0 : (0 : Int) ≤ (i : Int) := by omega
    have i1 : (i : Int) < 256 := by omega
    have i2 : i < 256 := hi
    have hn := h.ne
    have hB : whB x i = true := decide_eq_true h0
    have hX : canX x i = updR x i (-1) := by unfold canX; rw [if_pos h0]; simp
    rw [hB] at HW
    rw [hB, hX]
    clear hB hX
    clear h h0
    go_enter Tryd.func14, Tryd.ntmps14
    go_wp2_with (go_at_call 19; refine HW.out.mono ?_; rintro e w3 ⟨rfl, hb3'⟩; have hb3 := Lib.hid hb3'; obtain ⟨⟨cap, q0⟩, q1, _⟩ := HS.out _ hb3'; have q2 : w3.cell? ⟨rb, 1, none⟩ = some (.slice (some ⟨G, 0, none⟩) 256 cap) := cell_in q0 rfl; obtain ⟨q3, q4⟩ := q1.at_ hi; have Q0 := Lib.hid q0; have Q1 := Lib.hid q1; clear q0 q1 hb3')
    go_ret
    exact ⟨rfl, ⟨⟨cap, (Below.heap_setCell _ _ _ _ hn).trans Q0.out⟩, Q1.out.set hi (-1), hn⟩, (But2.of_below hb3.out).set2 _ _⟩
  · have hB : whB x id = false := decide_eq_false h0
    have hX : canX x id = x := by unfold canX; rw [if_neg h0]
    rw [hB] at HW
    rw [hB, hX]
    clear hB hX
    have HH := Lib.hid h
    clear h h0
    go_enter Tryd.func14, Tryd.ntmps14
    go_wp2_with (go_at_call 19; refine HW.out.mono ?_; rintro e w3 ⟨rfl, hb3⟩)
    go_ret
    exact ⟨rfl, HH.out.later hb3, But2.of_below hb3⟩
/-- How many of the first n are set. -/
def cntV (x : Nat → Int) : Nat → Nat
  | 0 => 0
  | n + 1 => cntV x n + if 0 ≤ x n then 1 else 0
theorem cntV_le (x : Nat → Int) : ∀ n, cntV x n ≤ n
  | 0 => Nat.le_refl _
  | n + 1 => by have := cntV_le x n; unfold cntV; split <;> omega
set_option maxRecDepth 100000 in
set_option maxHeartbeats 2000000 in
theorem rlen_any (w : World) (rb G : Nat) (now : Int) (x : Nat → Int) (h : RWh w rb G now x) :
    Calls Tryd.prog 22 #[.pointer (some ⟨rb, 0, none⟩)] w fun e w' => e = .returned (.int .i64 (cntV x 256 : Nat)) ∧ w' = w := by
  obtain ⟨cap, hb⟩ := h.box
  have b1 : w.cell? ⟨rb, 1, none⟩ = some (.slice (some ⟨G, 0, none⟩) 256 cap) := cell_in hb rfl
  have HR := Lib.hid h.row
  clear hb h
  go_enter Tryd.func22, Tryd.ntmps22
  go_wp2_with fail
  go_loopw [3, 4] (fun s1 s2 wr => ∃ k : Nat, k ≤ 256 ∧ s1 = .int .i64 (cntV x k : Nat) ∧ s2 = .int .i64 k ∧ w = wr) (fun _ s _ => 256 - (intOf s).toNat)
  case atStart => exact ⟨0, Nat.zero_le _, rfl, rfl, rfl⟩
  case round =>
    obtain ⟨k, hk, rfl, rfl, hw⟩ := hrel
    subst hw
    have hc := cntV_le x k
    by_cases hlt : k < 256
    · have l0 : decide ((k : Int) < 256) = true := decide_eq_true (by omega)
      have l1 : (0 : Int) ≤ (k : Int) := by omega
      have l2 : (k : Int) < 256 := by omega
      obtain ⟨c0, _⟩ := HR.out.at_ hlt
      have HC : Hid (cntV x (k + 1) = cntV x k + if 0 ≤ x k then 1 else 0) := Lib.hid rfl
      generalize x k = v at c0 HC
      generalize cntV x k = m at hc HC ⊢
      by_cases h1 : 0 ≤ v
      · have t1 : decide (0 ≤ v) = true := decide_eq_true h1
        have HM : Hid (cntV x (k + 1) = m + 1) := Lib.hid (by rw [HC.out, if_pos h1])
        go_wp2
        go_roundw
        case rel => exact ⟨k + 1, by omega, by rw [HM.out]; go_num, by go_num, by trivial⟩
        case measure => simp [intOf]; omega
      · have t1 : decide (0 ≤ v) = false := decide_eq_false h1
        have HM : Hid (cntV x (k + 1) = m) := Lib.hid (by rw [HC.out, if_neg h1]; rfl)
        go_wp2
        go_roundw
        case rel => exact ⟨k + 1, by omega, by rw [HM.out], by go_num, by trivial⟩
        case measure => simp [intOf]; omega
    · have l0 : decide ((k : Int) < 256) = false := decide_eq_false (by omega)
      have HE : Hid (k = 256) := Lib.hid (by omega)
      go_wp2
      go_ret
      exact ⟨by rw [← HE.out]; rfl, rfl⟩
end Go.Proofs.YtbjhoncojegjiaaDoor
