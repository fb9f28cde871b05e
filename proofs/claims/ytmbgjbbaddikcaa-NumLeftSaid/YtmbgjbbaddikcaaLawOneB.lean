/- The walk of the layer's theorem on numbers: what was divided is put together again; what all divide is divided by each. -/
import Derived.Test.YtmbgjbbaddikcaaLawOneA
import Derived.Laws.IdiomElems
namespace Go.Proofs.Ytmbgjbbaddikcaa
open Go.ChangeShapes Go.WideShapes Go.ChangeAt Go.RowKit
set_option linter.unusedVariables false

theorem wrap_back {a b q r : Int} (h : q * b + r = a) (l : -9223372036854775808 ≤ a) (u : a ≤ 9223372036854775807) : wrap64 (wrap64 (q * b) + r) = a := by
  unfold wrap64; omega
theorem put_back (a : Int) {b : Int} (hb : 1 ≤ b) : flo a b * b + rest a b = a ∧ 0 ≤ rest a b ∧ rest a b < b := by
  have p := div_parts a (b := b) (by omega)
  rw [flo_pos hb, rest_pos hb, Int.mul_comm]; omega
theorem cei_flo (a : Int) {b : Int} (hb : 1 ≤ b) : cei a b - flo a b = if rest a b = 0 then 0 else 1 := by
  rw [flo_pos hb, rest_pos hb, cei_pos hb]
  have p := div_parts a (b := b) (by omega)
  split
  · rename_i h
    have := neg_div0 (a := -a) hb (by rw [Int.neg_neg]; exact h)
    rw [Int.neg_neg] at this; omega
  · have := neg_div1 (a := -a) hb (by rw [Int.neg_neg]; omega)
    rw [Int.neg_neg] at this; omega

theorem lcm_ok {most : Int} {l : List Int} (h : lcmOk most l = true) : ∃ n, lcmRun 1 l = some n ∧ n ≤ most ∧ lcmV most l = n := by
  unfold lcmOk at h
  cases e : lcmRun 1 l with
  | none => rw [e] at h; cases h
  | some n =>
    rw [e] at h
    have : ¬ most < n := by simpa using h
    exact ⟨n, rfl, by omega, (lcm_end_in e this).1⟩
theorem lcm_no {most : Int} {l : List Int} (h : lcmOk most l = false) : lcmV most l = 0 := by
  unfold lcmOk at h
  cases e : lcmRun 1 l with
  | none => exact (lcm_end_none e).1
  | some n =>
    rw [e] at h
    have : most < n := by simpa using h
    exact (lcm_end_over e this).1

/-- What a frame tells of a slice of integers that came in. -/
def RowIn (k : IntKind) (w : World) (a : Option Addr) (len cap : Nat) (zs : List Int) : Prop :=
  (a = none ∧ len = 0 ∧ cap = 0 ∧ zs = []) ∨
  ∃ x, a = some x ∧ len ≤ cap ∧ cap ≤ maxLen ∧ zs.length = cap ∧ (∀ i, i < zs.length → w.cell? (x.add i) = some (.int k (zs.getD i 0))) ∧ ∀ n ∈ zs, (Lit.int k n).wf = true
theorem getD_take {l : List Int} {n i : Nat} (h : i < n) : (l.take n).getD i 0 = l.getD i 0 := by
  rw [List.getD_eq_getElem?_getD, List.getD_eq_getElem?_getD, List.getElem?_take_of_lt h]
theorem intRow_of {w : World} {a : Option Addr} {len cap : Nat} {zs : List Int} (h : RowIn .i64 w a len cap zs) : IntRow w a len (zs.take len) := by
  rcases h with ⟨rfl, rfl, rfl, rfl⟩ | ⟨x, rfl, hl, hm, hz, hc, hw⟩
  · exact .inl ⟨rfl, rfl⟩
  · by_cases h0 : len = 0
    · subst h0; exact .inl ⟨rfl, by simp⟩
    · have c0 := hc 0 (by omega)
      have hx : x.spot = none := by
        cases hs : x.spot with
        | none => rfl
        | some s =>
          exfalso
          unfold World.cell? at c0
          simp only [Addr.add] at c0
          split at c0
          · simp [hs] at c0
          · cases c0
      obtain ⟨b, off, s⟩ := x
      simp only at hx; subst hx
      refine .inr ⟨b, off, rfl, by rw [List.length_take]; omega, by omega, fun i hi => ?_, fun i hi => ?_⟩
      · rw [getD_take hi]
        have := hc i (by omega)
        by_cases e : i = 0
        · subst e; simpa [Addr.add] using this
        · simpa [Addr.add, e] using this
      · rw [getD_take hi]
        refine i64_in (hw _ ?_)
        rw [List.getD_eq_getElem?_getD, List.getElem?_eq_getElem (by omega)]; simp

theorem NumLeft_walkRow (a0 a1 : Int) (a2 : Option Addr) (len cap : Nat) (zs : List Int) (w : World) (l0 : -9223372036854775808 ≤ a0) (u0 : a0 ≤ 9223372036854775807) (l1 : -9223372036854775808 ≤ a1) (u1 : a1 ≤ 9223372036854775807) (hr : IntRow w a2 len zs) :
    Calls Try.prog 5 #[.int .i64 a0, .int .i64 a1, .slice a2 len cap] w fun e w' => e = .returned (.bool true) ∧ Below w.heap.size w w' := by
  by_cases hlen : 50 < len
  · have t1 : decide (50 < (len : Int)) = true := by simp; omega
    clear hr
    go_enter Try.func5, Try.ntmps5
    go_wp2_with (first | (go_at_call 10; refine (knows_any _).mono ?_; rintro e w' ⟨rfl, hb⟩))
    go_ret
    exact ⟨rfl, hb⟩
  have t1 : decide (50 < (len : Int)) = false := by simp; omega
  have h50 : len ≤ 50 := by omega
  clear hlen
  have HR := Lib.hid hr; clear hr
  by_cases hb1 : 1 ≤ a1
  case' pos =>
    have k0 : decide (1 ≤ a1) = true := by simpa using hb1
    obtain ⟨p1, p2, p3⟩ := put_back a0 hb1
    have k1 : decide (rest a0 a1 < 0) = false := by simp; omega
    have k2 : decide (a1 ≤ rest a0 a1) = false := by simp; omega
    have k3 : (wrap64 (wrap64 (flo a0 a1 * a1) + rest a0 a1) != a0) = false := by
      rw [wrap_back p1 l0 u0]; simp
    have k4 : (wrap64 (cei a0 a1 - flo a0 a1) != if 1 < rest a0 a1 then 1 else rest a0 a1) = false := by
      rw [cei_flo a0 hb1]
      split <;> split <;> (first | omega | (unfold wrap64; simp; done) | (unfold wrap64; simp; omega))
    clear p1
    go_enter Try.func5, Try.ntmps5
    go_wp2_with (first
      | (go_at_call 10; refine (knows_any _).mono ?_; rintro e w' ⟨rfl, hb⟩)
      | (go_at_call 11; refine (numFloor_any _ _ _ (by omega) (by omega)).mono ?_; rintro e w' ⟨rfl, rfl⟩)
      | (go_at_call 15; refine (numMod_any _ _ _ (by omega) (by omega) (by omega)).mono ?_; rintro e w' ⟨rfl, rfl⟩)
      | (go_at_call 13; refine (numCeil_any _ _ _ (by omega) (by omega)).mono ?_; rintro e w' ⟨rfl, rfl⟩)
      | fail)
  case' neg =>
    have k0 : decide (1 ≤ a1) = false := by simpa using hb1
    go_enter Try.func5, Try.ntmps5
    go_wp2_with (first
      | (go_at_call 10; refine (knows_any _).mono ?_; rintro e w' ⟨rfl, hb⟩)
      | fail)
  all_goals
    have HR2 := Lib.hid (HR.out.later hb)
    refine (numLcm_any _ _ _ _ zs _ HR2.out).mono ?_
    rintro e w'' ⟨rfl, n, rfl⟩
    have hb2 := below_drewN hb n
    try clear k1 k2 k3 k4
    cases hok : lcmOk 4611686018427387904 zs with
    | false =>
      have HV := Lib.hid (lcm_no hok)
      rw [HV.out]
      go_wp2
      go_loopw [11] (fun i wr => i = .int .i64 0 ∧ wr = w'.drewN n) (fun _ _ => 0)
      case atStart => exact ⟨rfl, rfl⟩
      case round =>
        obtain ⟨rfl, rfl⟩ := hrel
        go_wp2
        all_goals (go_ret; exact ⟨rfl, hb2⟩)
    | true =>
      obtain ⟨m, hm, hm2, hv⟩ := lcm_ok hok
      obtain ⟨m1, _, _, hall⟩ := lcmRun_all zs 1 m (by omega) (by omega) hm
      rw [hv]
      have HA := Lib.hid hall
      clear hall hv hm hok
      go_wp2
      go_loopw [11] (fun i wr => ∃ k : Nat, k ≤ len ∧ i = .int .i64 k ∧ wr = w'.drewN n) (fun i _ => len - (intOf i).toNat)
      case atStart => exact ⟨0, by omega, rfl, rfl⟩
      case round =>
        obtain ⟨k, hk, rfl, rfl⟩ := hrel
        by_cases hlt : k < len
        · have tk : decide ((k : Int) < (len : Int)) = true := by simpa using hlt
          rcases HR2.out with ⟨h0, _⟩ | ⟨b, off, rfl, hl, hml, hc, hwz⟩
          · omega
          have hcell := hc k hlt
          have hmem : zs.getD k 0 ∈ zs := by
            rw [List.getD_eq_getElem?_getD, List.getElem?_eq_getElem (by omega)]; simp
          obtain ⟨x1, hdv⟩ := HA.out _ hmem
          have x2 := (hwz k hlt).2
          have e0 : m % zs.getD k 0 = 0 := Int.emod_eq_zero_of_dvd hdv
          clear hc hwz hl hml hdv hmem
          generalize zs.getD k 0 = x at hcell x1 x2 e0
          have t2 : decide (x < 1) = false := by simp; omega
          have t3 : (m % x != 0) = false := by rw [e0]; rfl
          have t4 : (x == 0) = false := by simp; omega
          clear e0
          go_wp2
          go_roundw
          case rel => exact ⟨k + 1, by omega, by go_num, by trivial⟩
          case measure => simp [intOf]; omega
        · have tk : decide ((k : Int) < (len : Int)) = false := by simp; omega
          go_wp2
          go_ret
          exact ⟨rfl, hb2⟩

theorem NumLeft_walk (a0 : Int) (a1 : Int) (a2 : Option Addr) (len2 cap2 : Nat) (z2 : List Int) (w : World) (w0 : (Lit.int .i64 a0).wf = true) (w1 : (Lit.int .i64 a1).wf = true) (w2 : RowIn .i64 w a2 len2 cap2 z2) :
    Calls Try.prog 5 #[.int .i64 a0, .int .i64 a1, .slice a2 len2 cap2] w fun e w' => e = .returned (.bool true) ∧ Below w.heap.size w w' :=
  NumLeft_walkRow a0 a1 a2 len2 cap2 (z2.take len2) w (i64_in w0).1 (i64_in w0).2 (i64_in w1).1 (i64_in w1).2 (intRow_of w2)

end Go.Proofs.Ytmbgjbbaddikcaa
