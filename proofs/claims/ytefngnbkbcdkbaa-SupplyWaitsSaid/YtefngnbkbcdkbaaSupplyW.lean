/- How long a supply takes to so much work; the making of supplies. -/
import Derived.Test.YtefngnbkbcdkbaaSupplyS
namespace Go.Proofs.Ytefngnbkbcdkbaa
open Go.ChangeShapes Go.WideShapes Go.ChangeAt Go.RowKit
set_option linter.unusedVariables false

theorem cnt_true : ∀ {f : Int → Bool} {a : Int} {n : Nat}, 1 ≤ cnt f a n → ∃ i : Nat, i < n ∧ f (a + i) = true
  | f, a, n, h => by
    rcases Classical.em (∃ i : Nat, i < n ∧ f (a + i) = true) with h2 | h2
    · exact h2
    · exfalso
      have : cnt f a n = 0 := cnt_zero.2 fun i hi => by
        cases e : f (a + i) with
        | false => rfl
        | true => exact absurd ⟨i, hi, e⟩ h2
      omega
/-- The last row's supply is all of a frame's but one. -/
theorem leastV_last {f : Int → Bool} {F : Nat} (ag : Again f F) (f1 : 1 ≤ F) (ho : 1 ≤ cnt f 0 F) : leastV f F (F - 1) = cnt f 0 F - 1 := by
  have h1 := leastV_next ag f1 (F - 1)
  rw [show F - 1 + 1 = F by omega] at h1
  have h2 := leastV_frame ag f1 0
  rw [Nat.zero_add, leastV_zero, Nat.zero_add] at h2
  obtain ⟨i, hi, ht⟩ := cnt_true ho
  have h3 := leastV_le ag f1 (0 + (i : Int) + 1) (F - 1)
  have h4 := cnt_first f (0 + (i : Int)) (F - 1)
  rw [show F - 1 + 1 = F by omega, cnt_frame ag, if_pos ht] at h4
  omega
theorem wait_is {f : Int → Bool} {F : Nat} (ag : Again f F) (f1 : 1 ≤ F) (ho : 1 ≤ cnt f 0 F) {work k : Nat} (hw : 1 ≤ work) (hk : work % cnt f 0 F ≤ leastV f F k) (hj : ∀ j, j < k → leastV f F j < work % cnt f 0 F) : IsWait f F work (work / cnt f 0 F * F + k) := by
  have e := Nat.div_add_mod work (cnt f 0 F)
  rw [Nat.mul_comm] at e
  have hs : ∀ q i : Nat, leastV f F (q * F + i) = q * cnt f 0 F + leastV f F i := fun q i => by rw [Nat.add_comm, leastV_frames ag f1]
  have hl := leastV_last ag f1 ho
  have hq1 : ∀ q : Nat, (q + 1) * F - 1 = q * F + (F - 1) := fun q => by rw [Nat.add_mul]; omega
  have hq2 : ∀ q : Nat, (q + 1) * cnt f 0 F = q * cnt f 0 F + cnt f 0 F := fun q => by rw [Nat.add_mul]; omega
  generalize cnt f 0 F = O at *
  generalize work / O = q at *
  generalize work % O = r at *
  refine wait_from ag f1 ?_ ?_
  · rw [hs]; omega
  · rcases Nat.eq_zero_or_pos k with h0 | h0
    · subst h0
      rw [leastV_zero] at hk
      rcases Nat.eq_zero_or_pos q with h1 | h1
      · subst h1; omega
      · obtain ⟨p, rfl⟩ : ∃ p, q = p + 1 := ⟨q - 1, by omega⟩
        refine .inr ?_
        rw [Nat.add_zero, hq1, hs, hl]
        rw [hq2] at e
        omega
    · refine .inr ?_
      have := hj (k - 1) (by omega)
      rw [show q * F + k - 1 = q * F + (k - 1) by omega, hs]
      omega
set_option maxRecDepth 100000 in
theorem enough_any (a b r : Int) (X : Nat) (w : World) (c : w.cell? ⟨X, 0, none⟩ = some (.int .i64 r)) (hX : X < w.heap.size) :
    Calls Try.prog 36 #[.agg #[.int .i64 a, .int .i64 b], .pointer (some ⟨X, 0, none⟩)] w fun e w' => e = .returned (.bool (decide (r ≤ a))) ∧ Below w.heap.size w w' := by
  cases hc : decide (r ≤ a)
  all_goals
    (go_enter Try.func36, Try.ntmps36
     go_wp2_with fail
     go_ret
     first
       | exact ⟨by rw [ge_iff_le, hc], below1 _ _⟩
       | exact ⟨rfl, below1 _ _⟩
       | (refine ⟨?_, below1 _ _⟩; simp [hc]))
set_option maxRecDepth 100000 in
set_option maxHeartbeats 1000000 in
theorem rowIndex_any {w : World} {R F : Nat} {f : Int → Bool} (h : CellsAt w R 58 (rowsOf f F F)) (f2 : F ≤ 256) (r X : Nat) (c : w.cell? ⟨X, 0, none⟩ = some (.int .i64 r)) (hX : X < w.heap.size) (he : ∃ k, k < F ∧ r ≤ leastV f F k) :
    Calls Try.prog 35 #[.slice (some ⟨R, 0, none⟩) F F, .func (.func 36) #[] #[.pointer (some ⟨X, 0, none⟩)]] w fun e w' => ∃ k : Nat, e = .returned (.int .i64 k) ∧ k < F ∧ r ≤ leastV f F k ∧ (∀ j, j < k → leastV f F j < r) ∧ Below w.heap.size w w' := by
  have HC := Lib.hid (fun (W : World) (hb : Below w.heap.size w W) => (hb.cell (p := ⟨X, 0, none⟩) hX).trans c)
  have HS := Lib.hid h
  have HE := Lib.hid he
  clear c h he
  go_enter Try.func35, Try.ntmps35
  go_wp2_with fail
  go_loopw [8] (fun i wr => ∃ k : Nat, k ≤ F ∧ i = .int .i64 k ∧ Hid (∀ j, j < k → leastV f F j < r) ∧ Below w.heap.size w wr) (fun i _ => F - (intOf i).toNat)
  case atStart => exact ⟨0, by omega, rfl, Lib.hid (fun j hj => by omega), Below.refl _ _⟩
  case round =>
    obtain ⟨k, hk, rfl, HA, hb⟩ := hrel
    by_cases hlt : k < F
    · have tk : decide ((k : Int) < (F : Int)) = true := by simpa using hlt
      have hR := HS.out.later hb
      obtain ⟨z0, z1⟩ := rowsOf_at (f := f) (F := F) hlt
      have y0 := (hR.cell z0).1
      have y1 := (hR.cell z1).1
      have q0 : (0 : Int) ≤ (k : Int) := by omega
      have q1 : (k : Int) < (F : Int) := by omega
      have CE := Lib.hid (enough_any (leastV f F k) (worstV f F k) r X wr (HC.out wr hb) (by have := hb.size; omega))
      have HK := Lib.hid (show ∀ b, decide ((r : Int) ≤ (leastV f F k : Int)) = b → (b = true → r ≤ leastV f F k) ∧ (b = false → leastV f F k < r) from fun b hb => ⟨fun e => by rw [e, decide_eq_true_eq] at hb; omega, fun e => by rw [e, decide_eq_false_iff_not] at hb; omega⟩)
      clear z0 z1 hR
      cases hd : decide ((r : Int) ≤ (leastV f F k : Int)) with
      | true =>
        have HD := Lib.hid hd
        have HL := Lib.hid ((HK.out _ hd).1 rfl)
        clear hd
        generalize leastV f F k = a at y0 CE HD
        generalize worstV f F k = b at y1 CE
        go_wp2_with (first
          | (go_at_call 36; refine CE.out.mono ?_; rintro e w5 ⟨rfl, hb5⟩; rw [HD.out]))
        go_ret
        exact ⟨k, rfl, hlt, HL.out, HA.out, bel_then hb (Nat.le_refl _) hb5⟩
      | false =>
        have HD := Lib.hid hd
        have HL := Lib.hid ((HK.out _ hd).2 rfl)
        clear hd
        generalize worstV f F k = b at y1 CE
        go_wp2_with (first
          | (go_at_call 36; refine CE.out.mono ?_; rintro e w5 ⟨rfl, hb5⟩; rw [HD.out]))
        go_roundw
        case rel =>
          refine ⟨k + 1, by omega, by go_num, Lib.hid (fun j hj => ?_), bel_then hb (Nat.le_refl _) hb5⟩
          rcases Nat.lt_or_ge j k with h1 | h1
          · exact HA.out j h1
          · rw [show j = k by omega]; exact HL.out
        case measure => simp [intOf]; omega
    · exfalso
      obtain ⟨j, h1, h2⟩ := HE.out
      have := HA.out j (by omega)
      omega
set_option maxRecDepth 100000 in
set_option maxHeartbeats 2000000 in
theorem tabWait_any {w : World} {R F : Nat} {f : Int → Bool} (h : CellsAt w R 58 (rowsOf f F F)) (f1 : 1 ≤ F) (f2 : F ≤ 256) (ag : Again f F) (ho : 1 ≤ cnt f 0 F) (work : Nat) (w1 : 1 ≤ work) (w2 : work ≤ 1099511627776) :
    Calls Try.prog 29 #[.agg #[.slice (some ⟨R, 0, none⟩) F F, .int .i64 (cnt f 0 F)], .int .i64 work] w fun e w' => ∃ n : Nat, e = .returned (.int .i64 n) ∧ IsWait f F work n ∧ n ≤ 281474976710912 ∧ Below w.heap.size w w' := by
  have HW := Lib.hid (fun k => wait_is (k := k) ag f1 ho w1)
  have b1 : cnt f 0 F ≤ F := off_le
  have HE := Lib.hid (show ∃ k, k < F ∧ work % cnt f 0 F ≤ leastV f F k from ⟨F - 1, by omega, by have := leastV_last ag f1 ho; have := Nat.mod_lt work ho; omega⟩)
  have b4 : work / cnt f 0 F ≤ work := Nat.div_le_self _ _
  have e1 : (work : Int) / (cnt f 0 F : Int) = ((work / cnt f 0 F : Nat) : Int) := (Int.natCast_ediv _ _).symm
  have e2 : (work : Int) % (cnt f 0 F : Int) = ((work % cnt f 0 F : Nat) : Int) := (Int.natCast_emod _ _).symm
  have hRw := h.lt
  obtain ⟨V, hV⟩ : ∃ V, V = (w.alloc (.cells #[.slice (some ⟨R, 0, none⟩) F F, .int .i64 (cnt f 0 F)] 39)).alloc (.cells #[.int .i64 (work % cnt f 0 F : Nat)] 3) := ⟨_, rfl⟩
  have hVs : V.heap.size = w.heap.size + 2 := by rw [hV]; simp
  have HB := Lib.hid (show Below w.heap.size w V from by rw [hV]; exact b_alloc (below1 _ _) (Nat.le_refl _) _)
  have HC := Lib.hid (show ∀ W, Below V.heap.size V W → W.cell? ⟨w.heap.size, 0, none⟩ = some (.slice (some ⟨R, 0, none⟩) F F) ∧ W.cell? ⟨w.heap.size, 1, none⟩ = some (.int .i64 (cnt f 0 F)) from fun W hW => by
    have h1 : V.heap[w.heap.size]? = some (.cells #[.slice (some ⟨R, 0, none⟩) F F, .int .i64 (cnt f 0 F)] 39 (0, 0)) := by rw [hV, heap_at, if_neg (by simp)]; exact heap_alloc_new _ _
    have h2 := (hW.block w.heap.size (by omega)).trans h1
    exact ⟨cell_in h2 rfl, cell_in h2 rfl⟩)
  have HI := Lib.hid (rowIndex_any (h.later (show Below w.heap.size w V from HB.out)) f2 (work % cnt f 0 F) (w.heap.size + 1) (by rw [hV]; exact cell_in (heap_at _ _ _ |>.trans (by rw [if_pos (by simp)])) rfl) (by omega) HE.out)
  clear h ag HE
  generalize work / cnt f 0 F = q at *
  generalize work % cnt f 0 F = r at *
  generalize cnt f 0 F = O at *
  have hqF : q * F ≤ 1099511627776 * 256 := Nat.mul_le_mul (by omega) f2
  have s0 : IntKind.i64.wrap (q : Int) = q := IntWalk.i64_in _ (by omega)
  have s1 : IntKind.i64.wrap ((q : Int) * (F : Int)) = ((q * F : Nat) : Int) := by rw [← Int.natCast_mul]; exact IntWalk.i64_in _ (by omega)
  have nz : ((O : Int) == 0) = false := by simp; omega
  have nz1 : ¬ O = 0 := by omega
  have nz2 : ¬ (O : Int) = 0 := by omega
  have nz3 : (O == 0) = false := by simp; omega
  have HV := Lib.hid hV
  clear hV
  go_enter Try.func29, Try.ntmps29
  go_wp2_with (first
    | (go_at_call 35; rw [← HV.out]; refine HI.out.mono ?_; rintro e w5 ⟨k, rfl, hk1, hk2, hk3, hb5⟩; obtain ⟨y0, y1⟩ := HC.out _ hb5))
  go_quiet (fail)
  go_wp2_with fail
  go_ret
  have hw := HW.out k hk2 hk3
  exact ⟨q * F + k, ret_i (by omega), hw, by omega, below_drewN _ (HB.out.trans (hb5.mono (by omega)))⟩
section
variable {w : World} {lo hi g R F : Nat} {f : Int → Bool}
set_option maxRecDepth 100000 in
set_option maxHeartbeats 2000000 in
theorem sWait_any (h : SupL w lo hi g R F f) (hhi : hi ≤ w.heap.size) (work : Int) :
    Calls Try.prog 15 #[.pointer (some ⟨g, 0, none⟩), .int .i64 work] w fun e w' => ∃ (n : Nat) (b : Bool), e = .returned (.tuple #[.int .i64 n, .bool b]) ∧ (b = true → IsWait f F work.toNat n ∧ n ≤ 281474976710912) ∧ (b = false → n = 0 ∧ 1 ≤ work ∧ (cnt f 0 F = 0 ∨ 1099511627776 < work)) ∧ Below w.heap.size w w' := by
  have H := Lib.hid h
  have y := h.says hhi w (Below.refl _ _)
  obtain ⟨_, y0, y1⟩ := y
  by_cases c1 : work ≤ 0
  · have HZ := Lib.hid (show IsWait f F work.toNat 0 from by rw [show work.toNat = 0 by omega]; exact ⟨Nat.zero_le _, fun m hm => by omega⟩)
    clear h
    go_enter Try.func15, Try.ntmps15
    go_wp2_with (first | (go_at_call 21; refine (sMade_any H.out).mono ?_; rintro e w' ⟨rfl, rfl⟩))
    go_ret2
    exact ⟨0, true, rfl, fun _ => ⟨HZ.out, by omega⟩, fun h => (by cases h), Below.refl _ _⟩
  · by_cases c2 : cnt f 0 F = 0
    · rw [c2] at y1
      have z1 : ((0 : Nat) : Int) = 0 := rfl
      rw [z1] at y1
      have HZ := Lib.hid c2
      clear h c2
      go_enter Try.func15, Try.ntmps15
      go_wp2_with (first | (go_at_call 21; refine (sMade_any H.out).mono ?_; rintro e w' ⟨rfl, rfl⟩))
      go_ret2
      exact ⟨0, false, rfl, fun h => (by cases h), fun _ => ⟨rfl, by omega, .inl HZ.out⟩, Below.refl _ _⟩
    · have nz1 : ¬ ((cnt f 0 F : Nat) : Int) = 0 := by omega
      have nz2 : (((cnt f 0 F : Nat) : Int) == 0) = false := by simpa using c2
      have nz3 : ((cnt f 0 F : Nat) == 0) = false := by simpa using c2
      by_cases c3 : 1099511627776 < work
      · clear h
        generalize cnt f 0 F = O at *
        go_enter Try.func15, Try.ntmps15
        go_wp2_with (first | (go_at_call 21; refine (sMade_any H.out).mono ?_; rintro e w' ⟨rfl, rfl⟩))
        go_ret2
        exact ⟨0, false, rfl, fun h => (by cases h), fun _ => ⟨rfl, by omega, .inr c3⟩, Below.refl _ _⟩
      · obtain ⟨k, rfl⟩ : ∃ k : Nat, work = (k : Int) := ⟨work.toNat, by omega⟩
        have CT := Lib.hid (tabWait_any h.row h.f1 h.f2 h.ag (by omega) k (by omega) (by omega))
        have KS := Lib.hid (h.says hhi)
        rw [Int.toNat_natCast]
        clear h
        generalize cnt f 0 F = O at *
        go_enter Try.func15, Try.ntmps15
        go_wp2_with (first
          | (go_at_call 21; refine (sMade_any H.out).mono ?_; rintro e w' ⟨rfl, rfl⟩)
          | (go_at_call 29; refine CT.out.mono ?_; rintro e w5 ⟨n, rfl, hw, hwn, hb5⟩; have HN := Lib.hid hw; clear hw))
        go_ret2
        exact ⟨n, true, rfl, fun _ => ⟨HN.out, hwn⟩, fun h => (by cases h), hb5⟩
end
set_option maxRecDepth 100000 in
set_option maxHeartbeats 2000000 in
theorem sOf_yes {w : World} {lo hi g F : Nat} {m : Int} {la : Option Addr} {ln lc : Nat} {l : List Wn} (h : Tab w lo hi g F m la ln lc l) (hhi : hi ≤ w.heap.size) (p : Int) (p0 : 0 ≤ p) (p1 : p < 6) :
    Calls Try.prog 10 #[.pointer (some ⟨g, 0, none⟩), .int .i64 p] w fun e w' => ∃ s R, e = .returned (.pointer (some ⟨s, 0, none⟩)) ∧ SupL w' w.heap.size w'.heap.size s R F (isO F m l p) ∧ Below w.heap.size w w' := by
  have H := Lib.hid h
  have f1 := h.f1; have f2 := h.f2
  have HO : Hid ((offeredV F m l p : Int) = (cnt (isO F m l p) 0 F : Int)) := Lib.hid rfl
  have HA := Lib.hid (isO_again F m l p)
  have CF := Lib.hid (fun (W : World) (hb : Below w.heap.size w W) => tFrame_any (H.out.keep hb hhi))
  have CO := Lib.hid (fun (W : World) (hb : Below w.heap.size w W) => tOffered_any (H.out.keep hb hhi) (Nat.le_trans hhi hb.size) p)
  have CT := Lib.hid (fun (W : World) (hb : Below w.heap.size w W) => openTicks_any (H.out.keep hb hhi) (Nat.le_trans hhi hb.size) p)
  clear h H
  generalize (offeredV F m l p : Int) = O at HO CO
  generalize isO F m l p = f at *
  have nz1 : ¬ F = 0 := by omega
  have nz2 : ¬ (F : Int) = 0 := by omega
  have nz : ((F : Int) == 0) = false := by simp; omega
  have nz3 : (F == 0) = false := by simp; omega
  go_enter Try.func10, Try.ntmps10
  go_wp2_with (first
    | (go_at_call 18; refine (CF.out _ (Below.refl _ _)).mono ?_; rintro e w' ⟨rfl, rfl⟩)
    | (go_at_call 14; refine (CO.out _ (Below.refl _ _)).mono ?_; rintro e w2 ⟨rfl, hb2⟩)
    | (go_at_call 20; refine (CT.out _ hb2).mono ?_; rintro e w3 ⟨A, B, rfl, ht, hb3⟩)
    | (go_at_call 19; refine (newTable_any ht (Nat.le_refl _) f1 f2 _).mono ?_; rintro e w4 ⟨R, rfl, hR, hr, hb4⟩))
  go_ret
  have s2 := hb2.size
  have s3 := hb3.size
  have s4 := hb4.size
  have e0 := HO.out
  subst e0
  refine ⟨w4.heap.size, R, rfl, ⟨heap_alloc_new _ _, hr.later (below1 _ _), by omega, by simp, by omega, by have := hr.lt; simp; omega, f1, f2, HA.out⟩, (bel_then (bel_then hb2 (Nat.le_refl _) hb3) (Nat.le_refl _) hb4).alloc (by omega) _⟩
/-- A supply that Of did not make: none, or one without rows. -/
def NoSup (w : World) (v : Value) : Prop := v = .pointer none ∨ ∃ g, v = .pointer (some ⟨g, 0, none⟩) ∧ w.heap[g]? = some (.cells #[.slice none 0 0, .int .i64 0] 41 (0, 0))
theorem NoSup.later {w w' : World} {v : Value} (h : NoSup w v) (hb : Below w.heap.size w w') : NoSup w' v := by
  rcases h with h | ⟨g, h1, h2⟩
  · exact .inl h
  · exact .inr ⟨g, h1, (hb.block g (lt_of_block h2)).trans h2⟩
theorem sMade_no {w : World} {v : Value} (h : NoSup w v) :
    Calls Try.prog 21 #[v] w fun e w' => e = .returned (.bool false) ∧ w = w' := by
  rcases h with rfl | ⟨g, rfl, hg⟩
  · go_enter Try.func21, Try.ntmps21
    go_wp2_with fail
    go_ret
    exact ⟨rfl, rfl⟩
  · have c0 := cell_in (j := 0) hg rfl
    have c1 := cell_in (j := 1) hg rfl
    clear hg
    go_enter Try.func21, Try.ntmps21
    go_wp2_with fail
    go_ret
    exact ⟨rfl, rfl⟩
theorem sLeast_no {w : World} {v : Value} (h : NoSup w v) (n : Int) :
    Calls Try.prog 11 #[v, .int .i64 n] w fun e w' => e = .returned (.int .i64 0) ∧ w = w' := by
  have H := Lib.hid h
  clear h
  go_enter Try.func11, Try.ntmps11
  go_wp2_with (first | (go_at_call 21; refine (sMade_no H.out).mono ?_; rintro e w' ⟨rfl, rfl⟩))
  go_ret
  exact ⟨rfl, rfl⟩
theorem sWorst_no {w : World} {v : Value} (h : NoSup w v) (n : Int) :
    Calls Try.prog 13 #[v, .int .i64 n] w fun e w' => e = .returned (.int .i64 0) ∧ w = w' := by
  have H := Lib.hid h
  clear h
  go_enter Try.func13, Try.ntmps13
  go_wp2_with (first | (go_at_call 21; refine (sMade_no H.out).mono ?_; rintro e w' ⟨rfl, rfl⟩))
  go_ret
  exact ⟨rfl, rfl⟩
theorem sWait_no {w : World} {v : Value} (h : NoSup w v) (n : Int) :
    Calls Try.prog 15 #[v, .int .i64 n] w fun e w' => e = .returned (.tuple #[.int .i64 0, .bool false]) ∧ w = w' := by
  have H := Lib.hid h
  clear h
  go_enter Try.func15, Try.ntmps15
  go_wp2_with (first | (go_at_call 21; refine (sMade_no H.out).mono ?_; rintro e w' ⟨rfl, rfl⟩))
  go_ret2
  exact ⟨rfl, rfl⟩
theorem sRate_no {w : World} {v : Value} (h : NoSup w v) :
    Calls Try.prog 16 #[v] w fun e w' => e = .returned (.tuple #[.int .i64 0, .int .i64 0]) ∧ w = w' := by
  have H := Lib.hid h
  clear h
  go_enter Try.func16, Try.ntmps16
  go_wp2_with (first | (go_at_call 21; refine (sMade_no H.out).mono ?_; rintro e w' ⟨rfl, rfl⟩))
  go_ret2
  exact ⟨rfl, rfl⟩
/-- A table that New did not make: none, or one without ticks. -/
def NoTab (w : World) (v : Value) : Prop := v = .pointer none ∨ ∃ g, v = .pointer (some ⟨g, 0, none⟩) ∧ w.heap[g]? = some (.cells #[.int .i64 0, .slice none 0 0, .int .i64 0] 46 (0, 0))
theorem tMade_no {w : World} {v : Value} (h : NoTab w v) :
    Calls Try.prog 24 #[v] w fun e w' => e = .returned (.bool false) ∧ w = w' := by
  rcases h with rfl | ⟨g, rfl, hg⟩
  · go_enter Try.func24, Try.ntmps24
    go_wp2_with fail
    go_ret
    exact ⟨rfl, rfl⟩
  · have c2 := cell_in (j := 2) hg rfl
    clear hg
    go_enter Try.func24, Try.ntmps24
    go_wp2_with fail
    go_ret
    exact ⟨rfl, rfl⟩
theorem tFrame_no {w : World} {v : Value} (h : NoTab w v) :
    Calls Try.prog 18 #[v] w fun e w' => e = .returned (.int .i64 0) ∧ w = w' := by
  have H := Lib.hid h
  clear h
  go_enter Try.func18, Try.ntmps18
  go_wp2_with (first | (go_at_call 24; refine (tMade_no H.out).mono ?_; rintro e w' ⟨rfl, rfl⟩))
  go_ret
  exact ⟨rfl, rfl⟩
theorem sOf_none {w : World} {v : Value} (h : NoTab w v) (p : Int) :
    Calls Try.prog 10 #[v, .int .i64 p] w fun e w' => e = .returned (.pointer none) ∧ w = w' := by
  have H := Lib.hid h
  clear h
  go_enter Try.func10, Try.ntmps10
  go_wp2_with (first | (go_at_call 18; refine (tFrame_no H.out).mono ?_; rintro e w' ⟨rfl, rfl⟩))
  go_ret
  exact ⟨rfl, rfl⟩
end Go.Proofs.Ytefngnbkbcdkbaa
