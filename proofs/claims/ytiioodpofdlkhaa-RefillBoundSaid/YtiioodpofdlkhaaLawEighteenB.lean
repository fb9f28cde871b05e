/- RefillFull, out of the contracts. -/
import Derived.Test.YtiioodpofdlkhaaRefillC
import Derived.BigQuiet
namespace Go.Proofs.Ytiioodpofdlkhaa
open Go.ChangeShapes Go.WideShapes Go.ChangeAt Go.RowKit
set_option linter.unusedVariables false

theorem below_drewC {B : Nat} {a w : World} (d : Nat) (h : Below B a w) : Below B a (w.drewN d) := ⟨h.os, h.tape, h.output, h.size, h.block⟩
theorem sumB_take {l : List Bk} (h : ∀ x ∈ l, 1 ≤ x.n) (k : Nat) : 0 ≤ sumB (l.take k) ∧ sumB (l.take k) ≤ sumB l := by
  have e := List.take_append_drop k l
  have a1 := sumB_append (l.take k) (l.drop k)
  rw [e] at a1
  have b1 := sumB_len (l.take k) (fun x hx => h x (List.mem_of_mem_take hx))
  have b2 := sumB_len (l.drop k) (fun x hx => h x (List.mem_of_mem_drop hx))
  omega
theorem rGo_sum (C T st now : Int) (b : Rd) (busy : Bool) : (rGo C T st b now busy).free + sumB (rGo C T st b now busy).live = fillV C T st b now + sumB b.live ∧ (rGo C T st b now busy).now = now := by
  rw [rGo_eq]
  split
  · refine ⟨?_, rfl⟩
    show 0 + sumB (b.live ++ _) = _
    rw [sumB_append]; simp [sumB]; omega
  · exact ⟨rfl, rfl⟩
theorem fill_full {C T now : Int} {b : Rd} (hT : 1 ≤ T) (h0 : 0 ≤ b.now) (h1 : now = b.now + 1) (h2 : now % T = 0) : fillV C T 0 b now + sumB b.live = C := by
  obtain ⟨q, hq⟩ := Int.dvd_of_emod_eq_zero h2
  have h3 : perOf T 0 now = q := by unfold perOf; rw [Int.sub_zero, hq]; exact Int.mul_ediv_cancel_left _ (by omega)
  have h4 : perOf T 0 b.now < q := by
    unfold perOf; rw [Int.sub_zero]
    refine Int.ediv_lt_of_lt_mul (by omega) ?_
    rw [Int.mul_comm, ← hq]; omega
  unfold fillV
  rw [h3, if_pos h4]; omega
theorem rUse_now (b : Rd) : (rUse b).now = b.now := by
  obtain ⟨a, f, l, s⟩ := b
  cases l with
  | nil => rfl
  | cons x l => unfold rUse; dsimp only; split <;> rfl
set_option maxRecDepth 100000 in
set_option maxHeartbeats 8000000 in
theorem RefillFull_of (O : RefillOk) (re : Bool) (c t : Int) (a1 : Option Addr) (n1 c1 : Nat) (w : World) (l1 : List Bk) (hn1 : l1.length = n1) (hl1 : Lies w 0 w.heap.size (.slice a1 n1 c1) n1 2 (l1.flatMap Bk.cells)) :
    Calls Try.prog 4 #[.agg #[.bool re, .int .i64 c, .int .i64 t], .slice a1 n1 c1] w fun e w' => e = .returned (.bool true) ∧ Below w.heap.size w w' := by
  obtain ⟨V, hV⟩ : ∃ V, V = w.alloc (.cells #[.bool re, .int .i64 c, .int .i64 t] 23) := ⟨_, rfl⟩
  obtain ⟨E, hE⟩ : ∃ E, E = w.heap.size := ⟨_, rfl⟩
  have hbV : Below w.heap.size w V := by rw [hV]; exact below1 _ _
  have hEV : V.heap[E]? = some (.cells #[.bool re, .int .i64 c, .int .i64 t] 23 (0, 0)) := by rw [hV, hE]; exact heap_alloc_new _ _
  have HBV := Lib.hid hbV
  have KE : Hid (∀ Y, Below V.heap.size V Y → Y.cell? ⟨E, 0, none⟩ = some (.bool re) ∧ Y.cell? ⟨E, 1, none⟩ = some (.int .i64 c) ∧ Y.cell? ⟨E, 2, none⟩ = some (.int .i64 t)) := Lib.hid (fun Y hY => by
    have := (hY.block _ (lt_of_block hEV)).trans hEV
    exact ⟨cell_in this rfl, cell_in this rfl, cell_in this rfl⟩)
  have HV := Lib.hid hV
  have HE := Lib.hid hE
  have KA : Hid (∀ Y, Below w.heap.size w Y → ∀ i, i < n1 → ∃ b off k n, a1 = some ⟨b, off, none⟩ ∧ Y.cell? ⟨b, off + i * 2, none⟩ = some (.int .i64 k) ∧ Y.cell? ⟨b, off + i * 2 + 1, none⟩ = some (.int .i64 n) ∧ ∀ Y', Below w.heap.size w Y' → Y'.cell? ⟨b, off + i * 2, none⟩ = some (.int .i64 k)) := Lib.hid (fun Y hY i hi => by
    obtain ⟨b, off, e, c0, c1, _⟩ := bks_read hn1 hl1 Y hY i hi
    refine ⟨b, off, _, _, e, c0, c1, fun Y' hY' => ?_⟩
    obtain ⟨b', off', e', c0', _, _⟩ := bks_read hn1 hl1 Y' hY' i hi
    cases e.symm.trans e'
    exact c0')
  clear hV hE hbV hEV hl1 hn1
  cases hok : newOk re c t 0 with
  | false =>
    have HOK := Lib.hid hok
    clear hok
    by_cases hbig : 150 < n1
    · have t0 : decide ((150 : Int) < (n1 : Int)) = true := decide_eq_true (by omega)
      go_enter Try.func4, Try.ntmps4
      go_upto_region 1 with fail
      rw [← HV.out, ← HE.out]
      obtain ⟨q0, q1, q2⟩ := KE.out V (Below.refl _ _)
      go_wp2_with (first
        | (go_at_call 7; have _z := hb3; refine (knows18_of O _).mono ?_; rintro e w4 ⟨rfl, b4⟩; have hb4 := Lib.hid (hb3.out.trans (b4.mono hb3.out.size)); clear b4)
        | (go_at_call 6; refine (O.new_no re c t 0 V HOK.out).mono ?_; rintro e w3 ⟨rfl, b3⟩; have hb3 := Lib.hid b3; clear b3)
        | fail "no arm")
      go_ret
      exact ⟨rfl, HBV.out.trans (hb4.out.mono HBV.out.size)⟩
    · have t0 : decide ((150 : Int) < (n1 : Int)) = false := decide_eq_false (by omega)
      go_enter Try.func4, Try.ntmps4
      go_upto_region 1 with fail
      rw [← HV.out, ← HE.out]
      obtain ⟨q0, q1, q2⟩ := KE.out V (Below.refl _ _)
      go_wp2_with (first
        | (go_at_call 7; have _z := hb3; refine (knows18_of O _).mono ?_; rintro e w4 ⟨rfl, b4⟩; have hb4 := Lib.hid (hb3.out.trans (b4.mono hb3.out.size)); clear b4)
        | (go_at_call 6; refine (O.new_no re c t 0 V HOK.out).mono ?_; rintro e w3 ⟨rfl, b3⟩; have hb3 := Lib.hid b3; clear b3)
        | fail "no arm")
      go_ret
      exact ⟨rfl, HBV.out.trans (hb4.out.mono HBV.out.size)⟩
  | true =>
    have HOK := Lib.hid hok
    have hsv : 1 ≤ c ∧ c ≤ t ∧ t ≤ 1000 := of_decide_eq_true (by have h := hok; simp only [newOk, Bool.and_eq_true] at h; exact h.1)
    clear hok
    by_cases hbig : 150 < n1
    · have t0 : decide ((150 : Int) < (n1 : Int)) = true := decide_eq_true (by omega)
      go_enter Try.func4, Try.ntmps4
      go_upto_region 1 with fail
      rw [← HV.out, ← HE.out]
      obtain ⟨q0, q1, q2⟩ := KE.out V (Below.refl _ _)
      go_wp2_with (first
        | (go_at_call 7; have _z := hb3; refine (knows18_of O _).mono ?_; rintro e w4 ⟨rfl, b4⟩; have hb4 := Lib.hid (hb3.out.trans (b4.mono hb3.out.size)); clear b4)
        | (go_at_call 6; refine (O.new_yes re c t 0 V HOK.out).mono ?_; rintro e w3 ⟨H, S, rfl, h3', s3', b3⟩; have h3 := Lib.hid h3'; have s3 := Lib.hid s3'; have hb3 := Lib.hid b3; clear h3' s3' b3)
        | fail "no arm")
      go_ret
      exact ⟨rfl, HBV.out.trans (hb4.out.mono HBV.out.size)⟩
    have s0 : n1 ≤ 150 := by omega
    have t0 : decide ((150 : Int) < (n1 : Int)) = false := decide_eq_false (by omega)
    clear hbig
    obtain ⟨s, hs⟩ : ∃ s : Sv, s = ⟨re, c, t⟩ := ⟨_, rfl⟩
    go_enter Try.func4, Try.ntmps4
    go_upto_region 1 with fail
    rw [← HV.out, ← HE.out]
    obtain ⟨q0, q1, q2⟩ := KE.out V (Below.refl _ _)
    go_wp2_with (first
      | (go_at_call 7; have _z := hb3; refine (knows18_of O _).mono ?_; rintro e w4 ⟨rfl, b4⟩; have hb4 := Lib.hid (hb3.out.trans (b4.mono hb3.out.size)); have h4 := Lib.hid ((O.own _ _ _ _).later h3.out b4); clear b4)
      | (go_at_call 6; refine (O.new_yes re c t 0 V HOK.out).mono ?_; rintro e w3 ⟨H, S, rfl, h3', s3', b3⟩; have h3 := Lib.hid h3'; have s3 := Lib.hid s3'; have hb3 := Lib.hid b3; clear h3' s3' b3)
      | fail "no arm")
    rw [← hs] at h4
    have HS := Lib.hid hs
    have hsc : s.c = c := by rw [hs]
    have hst : s.t = t := by rw [hs]
    clear hs
    clear h3 hb3 q0 q1 q2
    go_loopw [6, 7] (fun s6 s7 wr => ∃ (i : Nat) (now : Int) (S : Nat → Prop) (b : Rd), i ≤ n1 ∧ 0 ≤ now ∧ now ≤ i ∧ s6 = .int .i64 now ∧ s7 = .int .i64 i ∧ Hid (O.Rg H s 0 b wr S) ∧ Hid (∀ k, S k → V.heap.size ≤ k) ∧ Hid (Below V.heap.size V wr) ∧ Hid (b.now = now)) (fun _ s _ => n1 - (intOf s).toNat)
    case atStart => exact ⟨0, 0, S, _, Nat.zero_le _, by decide, by decide, rfl, rfl, h4, s3, hb4, Lib.hid rfl⟩
    case round =>
      clear h4 s3 hb4
      obtain ⟨i, now, S, b, hi, hn0, hn1, rfl, rfl, HR, HSS, HB, HBN⟩ := hrel
      obtain ⟨wz, hwz⟩ : ∃ wz, wz = wr := ⟨_, rfl⟩
      subst hwz
      by_cases hlt : i < n1
      · have d0 : decide ((i : Int) < (n1 : Int)) = true := decide_eq_true (by omega)
        have d1 : (0 : Int) ≤ (i : Int) := by omega
        have d2 : (i : Int) < (n1 : Int) := by omega
        obtain ⟨ab, off, kd, nn, rfl, x0, x1, hkc⟩ := KA.out wz (HBV.out.trans (HB.out.mono HBV.out.size)) i hlt
        clear hkc x1
        obtain ⟨now1, hnow1⟩ : ∃ n', n' = now + 1 := ⟨_, rfl⟩
        have HN1 := Lib.hid hnow1
        have v1 : wrap64 (now + 1) = now1 := by rw [hnow1]; exact IntWalk.wrap64_in _ (by omega)
        have v2 : IntKind.i64.wrap (now + 1) = now1 := by rw [hnow1]; exact IntWalk.i64_in _ (by omega)
        obtain ⟨r, hr⟩ : ∃ r, r = now1 % t := ⟨_, rfl⟩
        have HRM := Lib.hid hr
        have vr : now1.tmod t = r := by rw [hr]; exact Int.tmod_eq_emod_of_nonneg (by omega)
        have vt : (t == 0) = false := by simp; omega
        have vt1 : ¬ t = 0 := by omega
        have vb : 0 ≤ r ∧ r < 1000 := by have := Int.emod_nonneg now1 vt1; have := Int.emod_lt_of_pos now1 (show 0 < t by omega); omega
        have vn : 0 ≤ now1 ∧ now1 ≤ 151 := by omega
        clear hnow1 hr
        by_cases q0 : kd = 0
        · subst q0
          obtain ⟨b6, hb6⟩ : ∃ b6, b6 = rGo s.c s.t 0 b now1 (decide ((0 : Int) < 2)) := ⟨_, rfl⟩
          have HB6 := Lib.hid hb6
          have HS6 : Hid (b6.free + sumB b6.live = fillV s.c s.t 0 b now1 + sumB b.live ∧ b6.now = now1) := Lib.hid (by rw [hb6]; exact rGo_sum _ _ _ _ _ _)
          clear hb6
          go_upto_region 14 with (go_at_call 9; refine (O.go _ H S s 0 b now1 (decide ((0 : Int) < 2)) (by have := HBN.out; have := HN1.out; omega) (by omega) HR.out).mono ?_; rintro e w6 ⟨S6, rfl, h6', g6'⟩; rw [← HB6.out] at h6'; have h6 := Lib.hid h6'; have g6' := Lib.hid (g6'.step HB.out HSS.out); have g6 := Lib.hid g6'.out.1; have s6 := Lib.hid g6'.out.2; clear h6' g6')
          clear x0
          have HBD := Lib.hid (O.bd h6.out)
          have HX := Lib.hid (HBD.out.2.1.bounds)
          obtain ⟨m1, hm1⟩ : ∃ m, m = b6.live.length := ⟨_, rfl⟩
          have HM := Lib.hid hm1
          have hmb : m1 ≤ 1000 := by have := HX.out.2.1; rw [hsc] at this; omega
          have hb0 : 0 ≤ b6.free ∧ b6.free ≤ 1000 := by have := HBD.out.2.1.f0; have := HX.out.1; rw [hsc] at this; omega
          have KT := Lib.hid (fun k => sumB_take (l := b6.live) (fun x hx => (HBD.out.2.1.lv x hx).2.2) k)
          have HALL : Hid (b6.free + sumB b6.live ≤ c) := Lib.hid (by rw [← hsc]; exact HBD.out.2.1.all)
          obtain ⟨fr, hfr⟩ : ∃ fr, fr = b6.free := ⟨_, rfl⟩
          have HFR := Lib.hid hfr
          rw [← hfr] at hb0 HALL
          clear hm1 hfr
          go_wp2_with (first
            | (go_at_call 8; have _z := hb7; refine (O.live _ H S6 s 0 b6 ((O.own _ _ _ _).later h6.out hb7.out)).mono ?_; rintro e w8 ⟨a8, c8, rfl, l8', b8⟩; have l8 := l8'.wider (Nat.zero_le _) (Nat.le_refl _); clear l8'; rw [← HM.out] at l8; rw [← HM.out]; have hl8 := Lib.hid l8; have hb8 := Lib.hid (hb7.out.trans (b8.mono hb7.out.size)); clear l8 b8)
            | (go_at_call 14; refine (O.free _ H S6 s 0 b6 h6.out).mono ?_; rintro e w7 ⟨rfl, b7⟩; rw [← HFR.out]; have hb7 := Lib.hid b7; clear b7)
            | fail "no arm")
          go_loopw [8, 10] (fun s8 s10 wp => ∃ (k : Nat) (n : Int), k ≤ m1 ∧ s8 = .int .i64 n ∧ s10 = .int .i64 k ∧ Hid (n = fr + sumB (b6.live.take k)) ∧ Hid (Below w8.heap.size w8 wp)) (fun _ s _ => m1 - (intOf s).toNat)
          case atStart => exact ⟨0, fr, Nat.zero_le _, rfl, rfl, Lib.hid (by simp [sumB]), Lib.hid (Below.refl _ _)⟩
          case round =>
            obtain ⟨k, n, hk, rfl, rfl, HNN, HP⟩ := hrel
            by_cases hk1 : k < m1
            · have e0 : decide ((k : Int) < (m1 : Int)) = true := decide_eq_true (by omega)
              have e1 : (0 : Int) ≤ (k : Int) := by omega
              have e2 : (k : Int) < (m1 : Int) := by omega
              have hkL : k < b6.live.length := by have := HM.out; omega
              obtain ⟨lb, lo, ea, y0, y1, _⟩ := bks_read (l := b6.live) HM.out.symm hl8.out wr HP.out k hk1
              obtain ⟨x, hx⟩ : ∃ x, x = b6.live[k] := ⟨_, rfl⟩
              rw [← hx] at y1
              obtain ⟨n2, hn2⟩ : ∃ n2, n2 = n + x.n := ⟨_, rfl⟩
              have hnx : n2 = fr + sumB (b6.live.take (k + 1)) := by
                rw [hn2, List.take_add_one, List.getElem?_eq_getElem hkL, sumB_append, HNN.out, hx]
                simp [sumB]; omega
              have hu := KT.out (k + 1)
              have hall := HALL.out
              have z2 : wrap64 (n + x.n) = n2 := by rw [← hn2]; exact IntWalk.wrap64_in _ (by omega)
              have z3 : IntKind.i64.wrap (n + x.n) = n2 := by rw [← hn2]; exact IntWalk.i64_in _ (by omega)
              have HN2 := Lib.hid hnx
              subst ea
              clear hx hnx hu hall hn2 y0 hkL
              go_wp2_with fail
              go_roundw
              case rel => exact ⟨k + 1, n2, by omega, by first | rfl | rw [z2], by go_num, HN2, HP⟩
              case measure => simp [intOf]; omega
            · have e3 : decide ((k : Int) < (m1 : Int)) = false := decide_eq_false (by omega)
              have HNK : Hid (n = fr + sumB b6.live) := Lib.hid (by rw [HNN.out, List.take_of_length_le (by have := HM.out; omega)])
              have HB11 : Hid (Below V.heap.size V wr) := Lib.hid (g6.out.trans ((hb8.out.trans (HP.out.mono hb8.out.size)).mono g6.out.size))
              have HR6 : Hid (O.Rg H s 0 b6 wr S6) := Lib.hid ((O.own _ _ _ _).later h6.out (hb8.out.trans (HP.out.mono hb8.out.size)))
              obtain ⟨k0, k1, k2⟩ := KE.out wr HB11.out
              by_cases hr0 : r = 0
              · have hnc : n = c := by
                  have h1 := fill_full (C := s.c) (T := s.t) (b := b) (now := now1) (by omega) (by have := HBN.out; omega) (by have := HBN.out; have := HN1.out; omega) (by rw [hst, ← HRM.out]; exact hr0)
                  rw [HNK.out, HFR.out, HS6.out.1, h1]; exact hsc
                subst hnc
                subst hr0
                go_wp2_with fail
                go_roundw
                case rel => exact ⟨i + 1, now1, S6, b6, by omega, by have := HN1.out; omega, by have := HN1.out; push_cast; omega, by first | rfl | rw [v1], by go_num, HR6, s6, HB11, Lib.hid HS6.out.2⟩
                case measure => simp [intOf]; omega
              · have r0 : (r == 0) = false := by simpa using hr0
                go_wp2_with fail
                go_roundw
                case rel => exact ⟨i + 1, now1, S6, b6, by omega, by have := HN1.out; omega, by have := HN1.out; push_cast; omega, by first | rfl | rw [v1], by go_num, HR6, s6, HB11, Lib.hid HS6.out.2⟩
                case measure => simp [intOf]; omega
        have f0 : (kd == 0) = false := by simpa using q0
        by_cases q1 : kd = 1
        · subst q1
          obtain ⟨b6, hb6⟩ : ∃ b6, b6 = rGo s.c s.t 0 b now1 (decide ((1 : Int) < 2)) := ⟨_, rfl⟩
          have HB6 := Lib.hid hb6
          have HS6 : Hid (b6.free + sumB b6.live = fillV s.c s.t 0 b now1 + sumB b.live ∧ b6.now = now1) := Lib.hid (by rw [hb6]; exact rGo_sum _ _ _ _ _ _)
          clear hb6
          go_upto_region 14 with (go_at_call 9; refine (O.go _ H S s 0 b now1 (decide ((1 : Int) < 2)) (by have := HBN.out; have := HN1.out; omega) (by omega) HR.out).mono ?_; rintro e w6 ⟨S6, rfl, h6', g6'⟩; rw [← HB6.out] at h6'; have h6 := Lib.hid h6'; have g6' := Lib.hid (g6'.step HB.out HSS.out); have g6 := Lib.hid g6'.out.1; have s6 := Lib.hid g6'.out.2; clear h6' g6')
          clear x0
          have HBD := Lib.hid (O.bd h6.out)
          have HX := Lib.hid (HBD.out.2.1.bounds)
          obtain ⟨m1, hm1⟩ : ∃ m, m = b6.live.length := ⟨_, rfl⟩
          have HM := Lib.hid hm1
          have hmb : m1 ≤ 1000 := by have := HX.out.2.1; rw [hsc] at this; omega
          have hb0 : 0 ≤ b6.free ∧ b6.free ≤ 1000 := by have := HBD.out.2.1.f0; have := HX.out.1; rw [hsc] at this; omega
          have KT := Lib.hid (fun k => sumB_take (l := b6.live) (fun x hx => (HBD.out.2.1.lv x hx).2.2) k)
          have HALL : Hid (b6.free + sumB b6.live ≤ c) := Lib.hid (by rw [← hsc]; exact HBD.out.2.1.all)
          obtain ⟨fr, hfr⟩ : ∃ fr, fr = b6.free := ⟨_, rfl⟩
          have HFR := Lib.hid hfr
          rw [← hfr] at hb0 HALL
          clear hm1 hfr
          go_wp2_with (first
            | (go_at_call 8; have _z := hb7; refine (O.live _ H S6 s 0 b6 ((O.own _ _ _ _).later h6.out hb7.out)).mono ?_; rintro e w8 ⟨a8, c8, rfl, l8', b8⟩; have l8 := l8'.wider (Nat.zero_le _) (Nat.le_refl _); clear l8'; rw [← HM.out] at l8; rw [← HM.out]; have hl8 := Lib.hid l8; have hb8 := Lib.hid (hb7.out.trans (b8.mono hb7.out.size)); clear l8 b8)
            | (go_at_call 14; refine (O.free _ H S6 s 0 b6 h6.out).mono ?_; rintro e w7 ⟨rfl, b7⟩; rw [← HFR.out]; have hb7 := Lib.hid b7; clear b7)
            | fail "no arm")
          go_loopw [8, 10] (fun s8 s10 wp => ∃ (k : Nat) (n : Int), k ≤ m1 ∧ s8 = .int .i64 n ∧ s10 = .int .i64 k ∧ Hid (n = fr + sumB (b6.live.take k)) ∧ Hid (Below w8.heap.size w8 wp)) (fun _ s _ => m1 - (intOf s).toNat)
          case atStart => exact ⟨0, fr, Nat.zero_le _, rfl, rfl, Lib.hid (by simp [sumB]), Lib.hid (Below.refl _ _)⟩
          case round =>
            obtain ⟨k, n, hk, rfl, rfl, HNN, HP⟩ := hrel
            by_cases hk1 : k < m1
            · have e0 : decide ((k : Int) < (m1 : Int)) = true := decide_eq_true (by omega)
              have e1 : (0 : Int) ≤ (k : Int) := by omega
              have e2 : (k : Int) < (m1 : Int) := by omega
              have hkL : k < b6.live.length := by have := HM.out; omega
              obtain ⟨lb, lo, ea, y0, y1, _⟩ := bks_read (l := b6.live) HM.out.symm hl8.out wr HP.out k hk1
              obtain ⟨x, hx⟩ : ∃ x, x = b6.live[k] := ⟨_, rfl⟩
              rw [← hx] at y1
              obtain ⟨n2, hn2⟩ : ∃ n2, n2 = n + x.n := ⟨_, rfl⟩
              have hnx : n2 = fr + sumB (b6.live.take (k + 1)) := by
                rw [hn2, List.take_add_one, List.getElem?_eq_getElem hkL, sumB_append, HNN.out, hx]
                simp [sumB]; omega
              have hu := KT.out (k + 1)
              have hall := HALL.out
              have z2 : wrap64 (n + x.n) = n2 := by rw [← hn2]; exact IntWalk.wrap64_in _ (by omega)
              have z3 : IntKind.i64.wrap (n + x.n) = n2 := by rw [← hn2]; exact IntWalk.i64_in _ (by omega)
              have HN2 := Lib.hid hnx
              subst ea
              clear hx hnx hu hall hn2 y0 hkL
              go_wp2_with fail
              go_roundw
              case rel => exact ⟨k + 1, n2, by omega, by first | rfl | rw [z2], by go_num, HN2, HP⟩
              case measure => simp [intOf]; omega
            · have e3 : decide ((k : Int) < (m1 : Int)) = false := decide_eq_false (by omega)
              have HNK : Hid (n = fr + sumB b6.live) := Lib.hid (by rw [HNN.out, List.take_of_length_le (by have := HM.out; omega)])
              have HB11 : Hid (Below V.heap.size V wr) := Lib.hid (g6.out.trans ((hb8.out.trans (HP.out.mono hb8.out.size)).mono g6.out.size))
              have HR6 : Hid (O.Rg H s 0 b6 wr S6) := Lib.hid ((O.own _ _ _ _).later h6.out (hb8.out.trans (HP.out.mono hb8.out.size)))
              obtain ⟨k0, k1, k2⟩ := KE.out wr HB11.out
              by_cases hr0 : r = 0
              · have hnc : n = c := by
                  have h1 := fill_full (C := s.c) (T := s.t) (b := b) (now := now1) (by omega) (by have := HBN.out; omega) (by have := HBN.out; have := HN1.out; omega) (by rw [hst, ← HRM.out]; exact hr0)
                  rw [HNK.out, HFR.out, HS6.out.1, h1]; exact hsc
                subst hnc
                subst hr0
                go_wp2_with fail
                go_roundw
                case rel => exact ⟨i + 1, now1, S6, b6, by omega, by have := HN1.out; omega, by have := HN1.out; push_cast; omega, by first | rfl | rw [v1], by go_num, HR6, s6, HB11, Lib.hid HS6.out.2⟩
                case measure => simp [intOf]; omega
              · have r0 : (r == 0) = false := by simpa using hr0
                go_wp2_with fail
                go_roundw
                case rel => exact ⟨i + 1, now1, S6, b6, by omega, by have := HN1.out; omega, by have := HN1.out; push_cast; omega, by first | rfl | rw [v1], by go_num, HR6, s6, HB11, Lib.hid HS6.out.2⟩
                case measure => simp [intOf]; omega
        have f1 : (kd == 1) = false := by simpa using q1
        by_cases q2 : kd = 2
        · subst q2
          obtain ⟨b6, hb6⟩ : ∃ b6, b6 = rGo s.c s.t 0 b now1 (decide ((2 : Int) < 2)) := ⟨_, rfl⟩
          have HB6 := Lib.hid hb6
          have HS6 : Hid (b6.free + sumB b6.live = fillV s.c s.t 0 b now1 + sumB b.live ∧ b6.now = now1) := Lib.hid (by rw [hb6]; exact rGo_sum _ _ _ _ _ _)
          clear hb6
          go_upto_region 14 with (go_at_call 9; refine (O.go _ H S s 0 b now1 (decide ((2 : Int) < 2)) (by have := HBN.out; have := HN1.out; omega) (by omega) HR.out).mono ?_; rintro e w6 ⟨S6, rfl, h6', g6'⟩; rw [← HB6.out] at h6'; have h6 := Lib.hid h6'; have g6' := Lib.hid (g6'.step HB.out HSS.out); have g6 := Lib.hid g6'.out.1; have s6 := Lib.hid g6'.out.2; clear h6' g6')
          clear x0
          have HBD := Lib.hid (O.bd h6.out)
          have HX := Lib.hid (HBD.out.2.1.bounds)
          obtain ⟨m1, hm1⟩ : ∃ m, m = b6.live.length := ⟨_, rfl⟩
          have HM := Lib.hid hm1
          have hmb : m1 ≤ 1000 := by have := HX.out.2.1; rw [hsc] at this; omega
          have hb0 : 0 ≤ b6.free ∧ b6.free ≤ 1000 := by have := HBD.out.2.1.f0; have := HX.out.1; rw [hsc] at this; omega
          have KT := Lib.hid (fun k => sumB_take (l := b6.live) (fun x hx => (HBD.out.2.1.lv x hx).2.2) k)
          have HALL : Hid (b6.free + sumB b6.live ≤ c) := Lib.hid (by rw [← hsc]; exact HBD.out.2.1.all)
          obtain ⟨fr, hfr⟩ : ∃ fr, fr = b6.free := ⟨_, rfl⟩
          have HFR := Lib.hid hfr
          rw [← hfr] at hb0 HALL
          clear hm1 hfr
          go_wp2_with (first
            | (go_at_call 8; have _z := hb7; refine (O.live _ H S6 s 0 b6 ((O.own _ _ _ _).later h6.out hb7.out)).mono ?_; rintro e w8 ⟨a8, c8, rfl, l8', b8⟩; have l8 := l8'.wider (Nat.zero_le _) (Nat.le_refl _); clear l8'; rw [← HM.out] at l8; rw [← HM.out]; have hl8 := Lib.hid l8; have hb8 := Lib.hid (hb7.out.trans (b8.mono hb7.out.size)); clear l8 b8)
            | (go_at_call 14; refine (O.free _ H S6 s 0 b6 h6.out).mono ?_; rintro e w7 ⟨rfl, b7⟩; rw [← HFR.out]; have hb7 := Lib.hid b7; clear b7)
            | fail "no arm")
          go_loopw [8, 10] (fun s8 s10 wp => ∃ (k : Nat) (n : Int), k ≤ m1 ∧ s8 = .int .i64 n ∧ s10 = .int .i64 k ∧ Hid (n = fr + sumB (b6.live.take k)) ∧ Hid (Below w8.heap.size w8 wp)) (fun _ s _ => m1 - (intOf s).toNat)
          case atStart => exact ⟨0, fr, Nat.zero_le _, rfl, rfl, Lib.hid (by simp [sumB]), Lib.hid (Below.refl _ _)⟩
          case round =>
            obtain ⟨k, n, hk, rfl, rfl, HNN, HP⟩ := hrel
            by_cases hk1 : k < m1
            · have e0 : decide ((k : Int) < (m1 : Int)) = true := decide_eq_true (by omega)
              have e1 : (0 : Int) ≤ (k : Int) := by omega
              have e2 : (k : Int) < (m1 : Int) := by omega
              have hkL : k < b6.live.length := by have := HM.out; omega
              obtain ⟨lb, lo, ea, y0, y1, _⟩ := bks_read (l := b6.live) HM.out.symm hl8.out wr HP.out k hk1
              obtain ⟨x, hx⟩ : ∃ x, x = b6.live[k] := ⟨_, rfl⟩
              rw [← hx] at y1
              obtain ⟨n2, hn2⟩ : ∃ n2, n2 = n + x.n := ⟨_, rfl⟩
              have hnx : n2 = fr + sumB (b6.live.take (k + 1)) := by
                rw [hn2, List.take_add_one, List.getElem?_eq_getElem hkL, sumB_append, HNN.out, hx]
                simp [sumB]; omega
              have hu := KT.out (k + 1)
              have hall := HALL.out
              have z2 : wrap64 (n + x.n) = n2 := by rw [← hn2]; exact IntWalk.wrap64_in _ (by omega)
              have z3 : IntKind.i64.wrap (n + x.n) = n2 := by rw [← hn2]; exact IntWalk.i64_in _ (by omega)
              have HN2 := Lib.hid hnx
              subst ea
              clear hx hnx hu hall hn2 y0 hkL
              go_wp2_with fail
              go_roundw
              case rel => exact ⟨k + 1, n2, by omega, by first | rfl | rw [z2], by go_num, HN2, HP⟩
              case measure => simp [intOf]; omega
            · have e3 : decide ((k : Int) < (m1 : Int)) = false := decide_eq_false (by omega)
              have HNK : Hid (n = fr + sumB b6.live) := Lib.hid (by rw [HNN.out, List.take_of_length_le (by have := HM.out; omega)])
              have HB11 : Hid (Below V.heap.size V wr) := Lib.hid (g6.out.trans ((hb8.out.trans (HP.out.mono hb8.out.size)).mono g6.out.size))
              have HR6 : Hid (O.Rg H s 0 b6 wr S6) := Lib.hid ((O.own _ _ _ _).later h6.out (hb8.out.trans (HP.out.mono hb8.out.size)))
              obtain ⟨k0, k1, k2⟩ := KE.out wr HB11.out
              by_cases hr0 : r = 0
              · have hnc : n = c := by
                  have h1 := fill_full (C := s.c) (T := s.t) (b := b) (now := now1) (by omega) (by have := HBN.out; omega) (by have := HBN.out; have := HN1.out; omega) (by rw [hst, ← HRM.out]; exact hr0)
                  rw [HNK.out, HFR.out, HS6.out.1, h1]; exact hsc
                subst hnc
                subst hr0
                go_wp2_with fail
                go_roundw
                case rel => exact ⟨i + 1, now1, S6, b6, by omega, by have := HN1.out; omega, by have := HN1.out; push_cast; omega, by first | rfl | rw [v1], by go_num, HR6, s6, HB11, Lib.hid HS6.out.2⟩
                case measure => simp [intOf]; omega
              · have r0 : (r == 0) = false := by simpa using hr0
                go_wp2_with fail
                go_roundw
                case rel => exact ⟨i + 1, now1, S6, b6, by omega, by have := HN1.out; omega, by have := HN1.out; push_cast; omega, by first | rfl | rw [v1], by go_num, HR6, s6, HB11, Lib.hid HS6.out.2⟩
                case measure => simp [intOf]; omega
        have f2 : (kd == 2) = false := by simpa using q2
        by_cases q3 : kd = 3
        · subst q3
          go_wp2_with (go_at_call 10; refine (O.use _ H S s 0 b HR.out).mono ?_; rintro e w6 ⟨S6, rfl, h6', g6'⟩; have h6 := Lib.hid h6'; have g6 := Lib.hid (g6'.step HB.out HSS.out); clear h6' g6')
          go_roundw
          case rel => exact ⟨i + 1, now, S6, (rUse b), by omega, by omega, by push_cast; omega, rfl, by go_num, h6, Lib.hid g6.out.2, Lib.hid g6.out.1, Lib.hid ((rUse_now b).trans HBN.out)⟩
          case measure => simp [intOf]; omega
        have f3 : (kd == 3) = false := by simpa using q3
        by_cases q4 : kd = 4
        · subst q4
          go_wp2_with (go_at_call 10; refine (O.use _ H S s 0 b HR.out).mono ?_; rintro e w6 ⟨S6, rfl, h6', g6'⟩; have h6 := Lib.hid h6'; have g6 := Lib.hid (g6'.step HB.out HSS.out); clear h6' g6')
          go_roundw
          case rel => exact ⟨i + 1, now, S6, (rUse b), by omega, by omega, by push_cast; omega, rfl, by go_num, h6, Lib.hid g6.out.2, Lib.hid g6.out.1, Lib.hid ((rUse_now b).trans HBN.out)⟩
          case measure => simp [intOf]; omega
        have f4 : (kd == 4) = false := by simpa using q4
        by_cases q5 : kd = 5
        · subst q5
          go_wp2_with (go_at_call 11; refine (O.done_ _ H S s 0 b HR.out).mono ?_; rintro e w6 ⟨S6, rfl, h6', g6'⟩; have h6 := Lib.hid h6'; have g6 := Lib.hid (g6'.step HB.out HSS.out); clear h6' g6')
          go_roundw
          case rel => exact ⟨i + 1, now, S6, (rDone b), by omega, by omega, by push_cast; omega, rfl, by go_num, h6, Lib.hid g6.out.2, Lib.hid g6.out.1, Lib.hid (HBN.out)⟩
          case measure => simp [intOf]; omega
        have f5 : (kd == 5) = false := by simpa using q5
        go_wp2_with fail
        go_roundw
        case rel => exact ⟨i + 1, now, S, b, by omega, by omega, by push_cast; omega, rfl, by go_num, HR, HSS, HB, HBN⟩
        case measure => simp [intOf]; omega
      · have d0 : decide ((i : Int) < (n1 : Int)) = false := decide_eq_false (by omega)
        go_wp2_with fail
        go_ret
        exact ⟨rfl, HBV.out.trans (HB.out.mono HBV.out.size)⟩
end Go.Proofs.Ytiioodpofdlkhaa
