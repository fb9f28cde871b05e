/- How long a supply takes to so much work; the making of supplies. -/
import Derived.Test.YtdbbdlobahalkaaSupplyS
namespace Go.Proofs.Ytdbbdlobahalkaa
open Go.ChangeShapes Go.WideShapes Go.ChangeAt Go.RowKit
set_option linter.unusedVariables false

theorem cnt_true : ∀ {f : Int → Bool} {a : Int} {n : Nat}, 1 ≤ cnt f a n → ∃ i : Nat, i < n ∧ f (a + i) = true
  | f, a, n, h => by
    rcases Classical.em (∃ i : Nat, i < n ∧ f (a + i) = true) with h2 | h2
    · exact h2
    · exfalso
      have : cnt f a n = 0 := cnt_zero.2 fun i hi => by
        cases e : f (a + i) with
        | false => rfl
        | true => exact absurd ⟨i, hi, e⟩ h2
      omega
/-- The last row's supply is all of a frame's but one. -/
theorem leastV_last {f : Int → Bool} {F : Nat} (ag : Again f F) (f1 : 1 ≤ F) (ho : 1 ≤ cnt f 0 F) : leastV f F (F - 1) = cnt f 0 F - 1 := by
  have h1 := leastV_next ag f1 (F - 1)
  rw [show F - 1 + 1 = F by omega] at h1
  have h2 := leastV_frame ag f1 0
  rw [Nat.zero_add, leastV_zero, Nat.zero_add] at h2
  obtain ⟨i, hi, ht⟩ := cnt_true ho
  have h3 := leastV_le ag f1 (0 + (i : Int) + 1) (F - 1)
  have h4 := cnt_first f (0 + (i : Int)) (F - 1)
  rw [show F - 1 + 1 = F by omega, cnt_frame ag, if_pos ht] at h4
  omega
theorem wait_is {f : Int → Bool} {F : Nat} (ag : Again f F) (f1 : 1 ≤ F) (ho : 1 ≤ cnt f 0 F) {work k : Nat} (hw : 1 ≤ work) (hk : work % cnt f 0 F ≤ leastV f F k) (hj : ∀ j, j < k → leastV f F j < work % cnt f 0 F) : IsWait f F work (work / cnt f 0 F * F + k) := by
  have e := Nat.div_add_mod work (cnt f 0 F)
  rw [Nat.mul_comm] at e
  have hs : ∀ q i : Nat, leastV f F (q * F + i) = q * cnt f 0 F + leastV f F i := fun q i => by rw [Nat.add_comm, leastV_frames ag f1]
  have hl := leastV_last ag f1 ho
  have hq1 : ∀ q : Nat, (q + 1) * F - 1 = q * F + (F - 1) := fun q => by rw [Nat.add_mul]; omega
  have hq2 : ∀ q : Nat, (q + 1) * cnt f 0 F = q * cnt f 0 F + cnt f 0 F := fun q => by rw [Nat.add_mul]; omega
  generalize cnt f 0 F = O at *
  generalize work / O = q at *
  generalize work % O = r at *
  refine wait_from ag f1 ?_ ?_
  · rw [hs]; omega
  · rcases Nat.eq_zero_or_pos k with h0 | h0
    · subst h0
      rw [leastV_zero] at hk
      rcases Nat.eq_zero_or_pos q with h1 | h1
      · subst h1; omega
      · obtain ⟨p, rfl⟩ : ∃ p, q = p + 1 := ⟨q - 1, by omega⟩
        refine .inr ?_
        rw [Nat.add_zero, hq1, hs, hl]
        rw [hq2] at e
        omega
    · refine .inr ?_
      have := hj (k - 1) (by omega)
      rw [show q * F + k - 1 = q * F + (k - 1) by omega, hs]
      omega
section
variable {w : World} {lo hi g R F : Nat} {f : Int → Bool}
end
set_option maxRecDepth 100000 in
set_option maxHeartbeats 2000000 in
theorem sOf_yes {w : World} {lo hi g F : Nat} {m : Int} {la : Option Addr} {ln lc : Nat} {l : List Wn} (h : Tab w lo hi g F m la ln lc l) (hhi : hi ≤ w.heap.size) (p : Int) (p0 : 0 ≤ p) (p1 : p < 6) :
    Calls Try.prog 35 #[.pointer (some ⟨g, 0, none⟩), .int .i64 p] w fun e w' => ∃ s R, e = .returned (.pointer (some ⟨s, 0, none⟩)) ∧ SupL w' w.heap.size w'.heap.size s R F (isO F m l p) ∧ Below w.heap.size w w' := by
  have H := Lib.hid h
  have f1 := h.f1; have f2 := h.f2
  have HO : Hid ((offeredV F m l p : Int) = (cnt (isO F m l p) 0 F : Int)) := Lib.hid rfl
  have HA := Lib.hid (isO_again F m l p)
  have CF := Lib.hid (fun (W : World) (hb : Below w.heap.size w W) => tFrame_any (H.out.keep hb hhi))
  have CO := Lib.hid (fun (W : World) (hb : Below w.heap.size w W) => tOffered_any (H.out.keep hb hhi) (Nat.le_trans hhi hb.size) p)
  have CT := Lib.hid (fun (W : World) (hb : Below w.heap.size w W) => openTicks_any (H.out.keep hb hhi) (Nat.le_trans hhi hb.size) p)
  clear h H
  generalize (offeredV F m l p : Int) = O at HO CO
  generalize isO F m l p = f at *
  have nz1 : ¬ F = 0 := by omega
  have nz2 : ¬ (F : Int) = 0 := by omega
  have nz : ((F : Int) == 0) = false := by simp; omega
  have nz3 : (F == 0) = false := by simp; omega
  go_enter Try.func35, Try.ntmps35
  go_wp2_with (first
    | (go_at_call 55; refine (CF.out _ (Below.refl _ _)).mono ?_; rintro e w' ⟨rfl, rfl⟩)
    | (go_at_call 57; refine (CO.out _ (Below.refl _ _)).mono ?_; rintro e w2 ⟨rfl, hb2⟩)
    | (go_at_call 58; refine (CT.out _ hb2).mono ?_; rintro e w3 ⟨A, B, rfl, ht, hb3⟩)
    | (go_at_call 56; refine (newTable_any ht (Nat.le_refl _) f1 f2 _).mono ?_; rintro e w4 ⟨R, rfl, hR, hr, hb4⟩))
  go_ret
  have s2 := hb2.size
  have s3 := hb3.size
  have s4 := hb4.size
  have e0 := HO.out
  subst e0
  refine ⟨w4.heap.size, R, rfl, ⟨heap_alloc_new _ _, hr.later (below1 _ _), by omega, by simp, by omega, by have := hr.lt; simp; omega, f1, f2, HA.out⟩, (bel_then (bel_then hb2 (Nat.le_refl _) hb3) (Nat.le_refl _) hb4).alloc (by omega) _⟩
/-- A supply that Of did not make: none, or one without rows. -/
def NoSup (w : World) (v : Value) : Prop := v = .pointer none ∨ ∃ g, v = .pointer (some ⟨g, 0, none⟩) ∧ w.heap[g]? = some (.cells #[.slice none 0 0, .int .i64 0] 122 (0, 0))
theorem NoSup.later {w w' : World} {v : Value} (h : NoSup w v) (hb : Below w.heap.size w w') : NoSup w' v := by
  rcases h with h | ⟨g, h1, h2⟩
  · exact .inl h
  · exact .inr ⟨g, h1, (hb.block g (lt_of_block h2)).trans h2⟩
theorem sMade_no {w : World} {v : Value} (h : NoSup w v) :
    Calls Try.prog 82 #[v] w fun e w' => e = .returned (.bool false) ∧ w = w' := by
  rcases h with rfl | ⟨g, rfl, hg⟩
  · go_enter Try.func82, Try.ntmps82
    go_wp2_with fail
    go_ret
    exact ⟨rfl, rfl⟩
  · have c0 := cell_in (j := 0) hg rfl
    have c1 := cell_in (j := 1) hg rfl
    clear hg
    go_enter Try.func82, Try.ntmps82
    go_wp2_with fail
    go_ret
    exact ⟨rfl, rfl⟩
theorem sLeast_no {w : World} {v : Value} (h : NoSup w v) (n : Int) :
    Calls Try.prog 62 #[v, .int .i64 n] w fun e w' => e = .returned (.int .i64 0) ∧ w = w' := by
  have H := Lib.hid h
  clear h
  go_enter Try.func62, Try.ntmps62
  go_wp2_with (first | (go_at_call 82; refine (sMade_no H.out).mono ?_; rintro e w' ⟨rfl, rfl⟩))
  go_ret
  exact ⟨rfl, rfl⟩
/-- A table that New did not make: none, or one without ticks. -/
def NoTab (w : World) (v : Value) : Prop := v = .pointer none ∨ ∃ g, v = .pointer (some ⟨g, 0, none⟩) ∧ w.heap[g]? = some (.cells #[.int .i64 0, .slice none 0 0, .int .i64 0] 133 (0, 0))
theorem tMade_no {w : World} {v : Value} (h : NoTab w v) :
    Calls Try.prog 75 #[v] w fun e w' => e = .returned (.bool false) ∧ w = w' := by
  rcases h with rfl | ⟨g, rfl, hg⟩
  · go_enter Try.func75, Try.ntmps75
    go_wp2_with fail
    go_ret
    exact ⟨rfl, rfl⟩
  · have c2 := cell_in (j := 2) hg rfl
    clear hg
    go_enter Try.func75, Try.ntmps75
    go_wp2_with fail
    go_ret
    exact ⟨rfl, rfl⟩
theorem tFrame_no {w : World} {v : Value} (h : NoTab w v) :
    Calls Try.prog 55 #[v] w fun e w' => e = .returned (.int .i64 0) ∧ w = w' := by
  have H := Lib.hid h
  clear h
  go_enter Try.func55, Try.ntmps55
  go_wp2_with (first | (go_at_call 75; refine (tMade_no H.out).mono ?_; rintro e w' ⟨rfl, rfl⟩))
  go_ret
  exact ⟨rfl, rfl⟩
theorem sOf_none {w : World} {v : Value} (h : NoTab w v) (p : Int) :
    Calls Try.prog 35 #[v, .int .i64 p] w fun e w' => e = .returned (.pointer none) ∧ w = w' := by
  have H := Lib.hid h
  clear h
  go_enter Try.func35, Try.ntmps35
  go_wp2_with (first | (go_at_call 55; refine (tFrame_no H.out).mono ?_; rintro e w' ⟨rfl, rfl⟩))
  go_ret
  exact ⟨rfl, rfl⟩
end Go.Proofs.Ytdbbdlobahalkaa
