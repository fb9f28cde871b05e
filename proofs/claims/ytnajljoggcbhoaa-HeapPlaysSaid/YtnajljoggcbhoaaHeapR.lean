/- The document's heap: a list, sorted. -/
import Derived.Test.YtnajljoggcbhoaaHeapK
namespace Go.Proofs.Ytnajljoggcbhoaa
open Go.ChangeShapes Go.WideShapes Go.ChangeAt Go.RowKit
set_option linter.unusedVariables false

/-- The list's row. -/
def RowR (w : World) (lo : Nat) (R : List En) (ao : Option Addr) (cap : Nat) : Prop := (ao = none ∧ R = [] ∧ cap = 0) ∨ ∃ b off, ao = some ⟨b, off, none⟩ ∧ lo ≤ b ∧ b < w.heap.size ∧ R.length ≤ cap ∧ ∀ i (hi : i < R.length), w.cell? ⟨b, off + i * 2, none⟩ = some (.int .i64 ((R[i]).1 : Nat)) ∧ w.cell? ⟨b, off + i * 2 + 1, none⟩ = some (.int .i64 (R[i]).2)
theorem RowR.keep {w w' : World} {lo : Nat} {R : List En} {ao : Option Addr} {cap : Nat} (h : RowR w lo R ao cap) (hs : SameIn w w' lo w.heap.size) (hz : w.heap.size ≤ w'.heap.size) : RowR w' lo R ao cap := by
  rcases h with h | ⟨b, off, h1, h2, h3, h4, h5⟩
  · exact .inl h
  · refine .inr ⟨b, off, h1, h2, by omega, h4, fun i hi => ?_⟩
    have e : ∀ j, w'.cell? ⟨b, j, none⟩ = w.cell? ⟨b, j, none⟩ := fun j => World.cell?_of_block (w := w) (hs b h2 h3)
    rw [e, e]
    exact h5 i hi
theorem RowR.fits {w : World} {lo : Nat} {R : List En} {ao : Option Addr} {cap : Nat} (h : RowR w lo R ao cap) : R.length ≤ cap := by
  rcases h with ⟨_, rfl, _⟩ | ⟨b, off, _, _, _, h4, _⟩
  · simp
  · exact h4
/-- The document's heap in memory. -/
structure RHp (w : World) (rb room : Nat) (R : List En) : Prop where
  is : ∃ ao cap, w.heap[rb]? = some (.cells #[.int .i64 (room : Nat), .slice ao R.length cap] 42 (0, 0)) ∧ RowR w (rb + 1) R ao cap
theorem RHp.keep {w w' : World} {rb room : Nat} {R : List En} (h : RHp w rb room R) (hs : SameIn w w' rb w.heap.size) (hz : w.heap.size ≤ w'.heap.size) : RHp w' rb room R := by
  obtain ⟨ao, cap, h1, h2⟩ := h.is
  exact ⟨ao, cap, (hs rb (Nat.le_refl _) (lt_of_block h1)).trans h1, h2.keep (fun b b1 b2 => hs b (by omega) b2) hz⟩
theorem RHp.later {w w' : World} {rb room : Nat} {R : List En} (h : RHp w rb room R) (hb : Below w.heap.size w w') : RHp w' rb room R := h.keep (SameIn.of_below hb (Nat.le_refl _)) hb.size
theorem RHp.lt {w : World} {rb room : Nat} {R : List En} (h : RHp w rb room R) : rb < w.heap.size := by obtain ⟨ao, cap, h1, _⟩ := h.is; exact lt_of_block h1
set_option maxRecDepth 100000 in
set_option maxHeartbeats 2000000 in
theorem ris_any (w : World) (rb room : Nat) (R : List En) (h : RHp w rb room R) (id : Int) :
    Calls Try.prog 29 #[.pointer (some ⟨rb, 0, none⟩), .int .i64 id] w fun e w' => e = .returned (.bool (InR room id)) ∧ w' = w := by
  obtain ⟨ao, cap, h1, _⟩ := h.is
  have b0 : w.cell? ⟨rb, 0, none⟩ = some (.int .i64 (room : Nat)) := cell_in h1 rfl
  have HR : Hid (∀ a b, a = decide (0 ≤ id) → b = decide (id < room) → InR room id = (a && b)) := Lib.hid (fun a b h1 h2 => by rw [h1, h2]; rfl)
  clear h h1
  by_cases h0 : 0 ≤ id
  · have t0 : decide (0 ≤ id) = true := decide_eq_true h0
    have HT := Lib.hid t0.symm
    by_cases h1 : id < (room : Int)
    · have t1 : decide (id < (room : Int)) = true := decide_eq_true h1
      have HU := Lib.hid t1.symm
      go_enter Try.func29, Try.ntmps29
      go_wp2
      go_ret
      rw [HR.out _ _ HT.out HU.out]
      exact ⟨rfl, rfl⟩
    · have t1 : decide (id < (room : Int)) = false := decide_eq_false h1
      have HU := Lib.hid t1.symm
      go_enter Try.func29, Try.ntmps29
      go_wp2
      go_ret
      rw [HR.out _ _ HT.out HU.out]
      exact ⟨rfl, rfl⟩
  · have t0 : decide (0 ≤ id) = false := decide_eq_false h0
    have HT := Lib.hid t0.symm
    go_enter Try.func29, Try.ntmps29
    go_wp2
    go_ret
    rw [HR.out _ _ HT.out rfl]
    exact ⟨by simp, rfl⟩
def IsFind (R : List En) (id : Int) (k : Int) : Prop := (k = -1 ∧ ∀ j (hj : j < R.length), (((R[j]).1 : Nat) : Int) ≠ id) ∨ ∃ i : Nat, k = i ∧ ∃ hi : i < R.length, (((R[i]).1 : Nat) : Int) = id
set_option maxRecDepth 100000 in
set_option maxHeartbeats 2000000 in
theorem find_any (w : World) (rb room : Nat) (R : List En) (h : RHp w rb room R) (id : Int) (hsm : R.length ≤ 1024) :
    Calls Try.prog 30 #[.pointer (some ⟨rb, 0, none⟩), .int .i64 id] w fun e w' => ∃ k, IsFind R id k ∧ e = .returned (.int .i64 k) ∧ w' = w := by
  obtain ⟨ao, cap, h1, h2⟩ := h.is
  have b1 : w.cell? ⟨rb, 1, none⟩ = some (.slice ao R.length cap) := cell_in h1 rfl
  have HR2 := Lib.hid h2
  obtain ⟨n, hn⟩ : ∃ n, n = R.length := ⟨_, rfl⟩
  rw [← hn] at b1 hsm
  have HN := Lib.hid hn
  clear h h1 h2 hn
  go_enter Try.func30, Try.ntmps30
  go_wp2_with fail
  go_loopw [5] (fun s wr => ∃ k : Nat, k ≤ n ∧ s = .int .i64 k ∧ Hid (∀ j (hj : j < R.length), j < k → (((R[j]).1 : Nat) : Int) ≠ id) ∧ wr = w) (fun s _ => n - (intOf s).toNat)
  case atStart => exact ⟨0, Nat.zero_le _, rfl, Lib.hid (fun j _ h => by omega), rfl⟩
  case round =>
    obtain ⟨k, hk, rfl, HK, rfl⟩ := hrel
    by_cases hlt : k < n
    · have l0 : decide ((k : Int) < (n : Int)) = true := decide_eq_true (by omega)
      have l1 : (0 : Int) ≤ (k : Int) := by omega
      have l2 : (k : Int) < (n : Int) := by omega
      have hkR : k < R.length := by rw [← HN.out]; exact hlt
      rcases HR2.out with ⟨_, h0, _⟩ | ⟨b, off, rfl, _, _, _, hc⟩
      · rw [h0] at hkR; exact absurd hkR (Nat.not_lt_zero _)
      have c0 := (hc k hkR).1
      obtain ⟨x0, hx0⟩ : ∃ x0 : Int, x0 = ((R[k]).1 : Nat) := ⟨_, rfl⟩
      rw [← hx0] at c0
      have HX := Lib.hid hx0
      clear hc hx0
      by_cases he : x0 = id
      · have t0 : decide (x0 = id) = true := decide_eq_true he
        have t1 : (x0 == id) = true := by simpa using he
        have HE := Lib.hid he
        clear he
        go_wp2
        go_ret
        exact ⟨_, .inr ⟨k, rfl, hkR, by rw [← HX.out]; exact HE.out⟩, rfl, rfl⟩
      · have t0 : decide (x0 = id) = false := decide_eq_false he
        have t1 : (x0 == id) = false := by simpa using he
        have HE := Lib.hid he
        go_wp2
        go_roundw
        case rel =>
          refine ⟨k + 1, by omega, by go_num, Lib.hid (fun j hj hjk => ?_), by trivial⟩
          by_cases e : j = k
          · subst e; rw [← HX.out]; exact HE.out
          · exact HK.out j hj (by omega)
        case measure => simp [intOf]; omega
    · have l0 : decide ((k : Int) < (n : Int)) = false := decide_eq_false (by omega)
      have HL : Hid (n ≤ k) := Lib.hid (by omega)
      go_wp2
      go_ret
      exact ⟨_, .inl ⟨rfl, fun j hj => HK.out j hj (by rw [← HN.out] at hj; have := HL.out; omega)⟩, rfl, rfl⟩
theorem find_no {R : List En} {D : Nat → Option Int} (h : Rep R D) {id k : Int} (hf : IsFind R id k) (hd : Dv D id = none) : k = -1 := by
  rcases hf with ⟨h1, _⟩ | ⟨i, rfl, hi, he⟩
  · exact h1
  · rw [← he, Dv.nat, h.find hi] at hd; cases hd
theorem find_yes {R : List En} {D : Nat → Option Int} (h : Rep R D) {i : Nat} {k d : Int} (hf : IsFind R i k) (hd : D i = some d) : ∃ j : Nat, k = j ∧ ∃ hj : j < R.length, R[j] = (i, d) := by
  rcases hf with ⟨_, h2⟩ | ⟨j, rfl, hj, he⟩
  · obtain ⟨j, hj, e⟩ := List.mem_iff_getElem.1 ((h.2 i d).2 hd)
    exact absurd (by rw [e]) (h2 j hj)
  · have h3 := h.find hj
    have e1 : (R[j]).1 = i := by omega
    rw [e1, hd] at h3
    exact ⟨j, rfl, hj, Prod.ext e1 (Option.some.inj h3).symm⟩
set_option maxRecDepth 100000 in
set_option maxHeartbeats 2000000 in
theorem rfirst_any (w : World) (rb room : Nat) (R : List En) (h : RHp w rb room R) (hsm : R.length ≤ 1024) :
    Calls Try.prog 19 #[.pointer (some ⟨rb, 0, none⟩)] w fun e w' => e = .returned (fstV R) ∧ Below w.heap.size w w' := by
  obtain ⟨ao, cap, h1, h2⟩ := h.is
  have b1 : w.cell? ⟨rb, 1, none⟩ = some (.slice ao R.length cap) := cell_in h1 rfl
  clear h h1
  rcases R with _ | ⟨⟨i0, d0⟩, R⟩
  · clear h2
    go_enter Try.func19, Try.ntmps19
    go_wp2
    ((try simp only [Exit.inBlock, Exit.then]); refine bodyPost_ret (results_tmp3 rfl _ _ _) rfl ?_)
    exact ⟨rfl, Below.refl _ _⟩
  · rcases h2 with ⟨_, h0, _⟩ | ⟨b, off, rfl, _, _, _, hc⟩
    · cases h0
    obtain ⟨c0, c1⟩ := hc 0 (by simp)
    simp only [Nat.zero_mul, Nat.add_zero, List.getElem_cons_zero] at c0 c1
    simp only [List.length_cons] at b1 hsm
    obtain ⟨n, hn⟩ : ∃ n, n = R.length + 1 := ⟨_, rfl⟩
    rw [← hn] at b1 hsm
    have n0 : (0 : Int) < (n : Int) := by omega
    have n2 : decide ((n : Int) = 0) = false := decide_eq_false (by omega)
    have n3 : ¬ ((n : Int) = 0) := by omega
    have n4 : ¬ (n = 0) := by omega
    clear hc hn
    go_enter Try.func19, Try.ntmps19
    go_wp2_with fail
    go_region
    go_wp2
    ((try simp only [Exit.inBlock, Exit.then]); refine bodyPost_ret (results_tmp3 rfl _ _ _) rfl ?_)
    exact ⟨rfl, (Below.refl _ _).drew⟩
set_option maxRecDepth 100000 in
set_option maxHeartbeats 2000000 in
theorem rdue_any (w : World) (rb room : Nat) (R : List En) (D : Nat → Option Int) (h : RHp w rb room R) (hR : Rep R D) (id : Int) (hsm : R.length ≤ 1024) :
    Calls Try.prog 21 #[.pointer (some ⟨rb, 0, none⟩), .int .i64 id] w fun e w' => e = .returned (.tuple #[.int .i64 ((Dv D id).getD 0), .bool (Dv D id).isSome]) ∧ w' = w := by
  obtain ⟨ao, cap, h1, h2⟩ := h.is
  have b1 : w.cell? ⟨rb, 1, none⟩ = some (.slice ao R.length cap) := cell_in h1 rfl
  have HF := Lib.hid (find_any w rb room R h id hsm)
  clear h h1
  cases hd : Dv D id with
  | none =>
    go_enter Try.func21, Try.ntmps21
    go_wp2_with (go_at_call 30; refine HF.out.mono ?_; rintro e w3 ⟨k, hk, rfl, hw3⟩; rw [hw3]; clear hw3; obtain rfl := find_no hR hk hd)
    ((try simp only [Exit.inBlock, Exit.then]); refine bodyPost_ret (results_tmp2 rfl _ _ _) rfl ?_)
    exact ⟨rfl, rfl⟩
  | some d =>
    obtain ⟨i, rfl⟩ : ∃ i : Nat, id = i := ⟨id.toNat, by unfold Dv at hd; split at hd; omega; cases hd⟩
    rw [Dv.nat] at hd
    obtain ⟨n, hn⟩ : ∃ n, n = R.length := ⟨_, rfl⟩
    rw [← hn] at b1
    have HN := Lib.hid hn
    rcases h2 with ⟨_, h0, _⟩ | ⟨b, off, rfl, _, _, _, hc⟩
    · subst h0; have := (hR.2 i d).2 hd; cases this
    have HC := Lib.hid hc
    clear hc hn
    go_enter Try.func21, Try.ntmps21
    go_wp2_with (go_at_call 30; refine HF.out.mono ?_; rintro e w3 ⟨k, hk, rfl, hw3⟩; rw [hw3]; clear hw3; obtain ⟨j, rfl, hj, hje⟩ := find_yes hR hk hd; have c1 := (HC.out j hj).2; rw [hje] at c1; have j0 : (0 : Int) ≤ (j : Int) := by omega
                 have j1 : (j : Int) < (n : Int) := by (have := HN.out; omega)
                 have j2 : decide ((j : Int) < 0) = false := decide_eq_false (by omega)
                 clear hje)
    ((try simp only [Exit.inBlock, Exit.then]); refine bodyPost_ret (results_tmp2 rfl _ _ _) rfl ?_)
    exact ⟨rfl, rfl⟩
set_option maxRecDepth 100000 in
set_option maxHeartbeats 2000000 in
theorem rnew_any (room : Int) (w : World) :
    Calls Try.prog 8 #[.int .i64 room] w fun e w' => e = .returned (.pointer (some ⟨w.heap.size, 0, none⟩)) ∧ RHp w' w.heap.size (min (max room 0) 1024).toNat [] ∧ Below w.heap.size w w' := by
  obtain ⟨r, hr⟩ : ∃ r : Nat, r = (min (max room 0) 1024).toNat := ⟨_, rfl⟩
  have hr2 : min (max room 0) 1024 = (r : Int) := by omega
  rw [← hr]
  clear hr
  go_enter Try.func8, Try.ntmps8
  go_wp2
  go_ret
  exact ⟨rfl, ⟨none, 0, heap_alloc_new _ _, .inl ⟨rfl, rfl, rfl⟩⟩, below1 _ _⟩
end Go.Proofs.Ytnajljoggcbhoaa
