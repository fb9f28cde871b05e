/- LedgerOnce, out of the contracts. -/
import Derived.Test.YtikjahdnffklhaaLedgC
import Derived.BigRegion
namespace Go.Proofs.Ytikjahdnffklhaa
open Go.ChangeShapes Go.WideShapes Go.ChangeAt Go.RowKit
set_option linter.unusedVariables false
set_option maxRecDepth 100000 in
set_option maxHeartbeats 8000000 in
theorem LedgerOnce_of (O : LedgerOk) (parts : Int) (a0 : Option Addr) (n0 c0 : Nat) (w : World) (l0 : List Wn) (hparts : I64 parts) (hn0 : l0.length = n0) (hl0 : Lies w 0 w.heap.size (.slice a0 n0 c0) n0 3 (l0.flatMap Wn.cells)) (hi0 : ∀ x ∈ l0, x.In) :
    Calls Try.prog 4 #[.int .i64 parts, .slice a0 n0 c0] w fun e w' => e = .returned (.bool true) ∧ Below w.heap.size w w' := by
  have HK := Lib.hid (knows15_of O w)
  by_cases hbig : 300 < n0
  · have t0 : decide ((300 : Int) < (n0 : Int)) = true := decide_eq_true (by omega)
    clear hbig hn0 hl0 hi0
    go_enter Try.func4, Try.ntmps4
    go_wp2_with (go_at_call 7; refine HK.out.mono ?_; rintro e w3 ⟨rfl, hb3⟩)
    go_ret
    exact ⟨rfl, hb3⟩
  have s0 : n0 ≤ 300 := by omega
  have t0 : decide ((300 : Int) < (n0 : Int)) = false := decide_eq_false (by omega)
  have KA : Hid (∀ Y, Below w.heap.size w Y → ∀ i, i < n0 → ∃ b off k p q, a0 = some ⟨b, off, none⟩ ∧ Y.cell? ⟨b, off + i * 3, none⟩ = some (.int .i64 k) ∧ Y.cell? ⟨b, off + i * 3 + 1, none⟩ = some (.int .i64 p) ∧ Y.cell? ⟨b, off + i * 3 + 2, none⟩ = some (.int .i64 q) ∧ ∀ Y', Below w.heap.size w Y' → Y'.cell? ⟨b, off + i * 3, none⟩ = some (.int .i64 k) ∧ Y'.cell? ⟨b, off + i * 3 + 1, none⟩ = some (.int .i64 p) ∧ Y'.cell? ⟨b, off + i * 3 + 2, none⟩ = some (.int .i64 q)) := Lib.hid (fun Y hY i hi => by
    obtain ⟨b, off, e, c0, c1, c2, _⟩ := acts_read hn0 hl0 Y hY i hi
    refine ⟨b, off, _, _, _, e, c0, c1, c2, fun Y' hY' => ?_⟩
    obtain ⟨b', off', e', c0', c1', c2', _⟩ := acts_read hn0 hl0 Y' hY' i hi
    cases e.symm.trans e'
    exact ⟨c0', c1', c2'⟩)
  clear hbig hn0 hl0 hi0 hparts
  go_enter Try.func4, Try.ntmps4
  go_wp2_with (first
    | (go_at_call 8; refine (O.new parts _).mono ?_; rintro e w2 ⟨H, S, rfl, hh2', hs2', hb2'⟩; have hh2 := Lib.hid hh2'; have hs2 := Lib.hid (fun k hk => Nat.le_trans hb1.out.size (hs2' k hk)); have hb2 := Lib.hid (hb1.out.trans (hb2'.mono hb1.out.size)); clear hh2' hb2' hs2')
    | (go_at_call 7; refine HK.out.mono ?_; rintro e w1 ⟨rfl, hb1'⟩; have hb1 := Lib.hid hb1'; clear hb1')
    | fail "no arm")
  obtain ⟨n, hn⟩ : ∃ n, n = partsV parts := ⟨_, rfl⟩
  rw [← hn] at hh2
  clear hn hb1
  go_loopw [6, 7, 8] (fun s6 s7 s8 wr => ∃ (k : Nat) (S : Nat → Prop) (L : List Wn), k ≤ n0 ∧ L.length ≤ k ∧ s6 = .int .i64 (gapsV L : Nat) ∧ s7 = .int .i64 (L.length : Nat) ∧ s8 = .int .i64 k ∧ Hid (O.Lg wr H S n L) ∧ Hid (∀ k, S k → w.heap.size ≤ k) ∧ Hid (Below w.heap.size w wr)) (fun _ _ s _ => n0 - (intOf s).toNat)
  case atStart => exact ⟨0, S, [], Nat.zero_le _, Nat.le_refl _, rfl, rfl, rfl, hh2, hs2, hb2⟩
  case round =>
    clear hh2 hs2 hb2
    obtain ⟨k, S, L, hk, hLk, rfl, rfl, rfl, HR, HS, HB⟩ := hrel
    have hgl := gapsV_le L
    obtain ⟨gp, hgp⟩ : ∃ gp, gp = gapsV L := ⟨_, rfl⟩
    obtain ⟨ll, hll⟩ : ∃ ll, ll = L.length := ⟨_, rfl⟩
    by_cases hlt : k < n0
    · have d0 : decide ((k : Int) < (n0 : Int)) = true := decide_eq_true (by omega)
      have d1 : (0 : Int) ≤ (k : Int) := by omega
      have d2 : (k : Int) < (n0 : Int) := by omega
      obtain ⟨b, off, kd, p, q, rfl, q0, q1, q2, hkc⟩ := KA.out wr HB.out k hlt
      have KC := Lib.hid hkc
      clear hkc
      cases c0 : okC n kd p q with
      | false =>
        have HE : Hid (errV n kd p q = 1 ∧ chV n L kd p q = L) := Lib.hid ⟨(ch_no (L := L) c0).2, (ch_no (L := L) c0).1⟩
        clear c0
        go_wp2_with fail
        go_region_held3 (fun Y => Y.cell? ⟨b, off + k * 3, none⟩ = some (.int .i64 kd) ∧ Y.cell? ⟨b, off + k * 3 + 1, none⟩ = some (.int .i64 p) ∧ Y.cell? ⟨b, off + k * 3 + 2, none⟩ = some (.int .i64 q))
          (first | exact KC.out _ g5.out.1 | exact KC.out _ (HB.out.drew) | fail "no keep")
          (first
          | (go_at_call 10; have _z := g5; refine (num15_any _ _).mono ?_; rintro e w6 ⟨rfl, hw6⟩; rw [hw6]; clear hw6)
          | (go_at_call 11; refine (O.charge _ H S n L kd p q (O.later HR.out (Below.refl _ _).drew) (by omega)).mono ?_; rintro e w5 ⟨S5, rfl, h5', g5'⟩; rw [HE.out.2] at h5'; rw [HE.out.1]; have h5 := Lib.hid h5'; have g5 := Lib.hid (g5'.step HB.out.drew HS.out); obtain ⟨k0, k1, k2⟩ := KC.out _ g5.out.1; clear h5' g5')
          | fail "no arm")
        go_wp2_with fail
        go_roundw
        case rel => exact ⟨k + 1, S5, L, by omega, by omega, rfl, rfl, by go_num, h5, Lib.hid g5.out.2, Lib.hid g5.out.1⟩
        case measure => simp [intOf]; omega
      | true =>
        by_cases c4 : kd = 4
        · have HE : Hid (errV n kd p q = 0 ∧ chV n L kd p q = L ++ [entC kd p q]) := Lib.hid ⟨(ch_yes (L := L) c0).2, (ch_yes (L := L) c0).1⟩
          have f4 : (kd == 4) = true := by simpa using c4
          have HGP : Hid (gapsV (L ++ [entC kd p q]) = gapsV L + 1) := Lib.hid (by rw [gapsV_snoc, ent_at, if_pos c4])
          have HLN2 : Hid ((L ++ [entC kd p q]).length = L.length + 1) := Lib.hid (by simp)
          clear c0 c4
          go_wp2_with fail
          go_region_held3 (fun Y => Y.cell? ⟨b, off + k * 3, none⟩ = some (.int .i64 kd) ∧ Y.cell? ⟨b, off + k * 3 + 1, none⟩ = some (.int .i64 p) ∧ Y.cell? ⟨b, off + k * 3 + 2, none⟩ = some (.int .i64 q))
            (first | exact KC.out _ g5.out.1 | exact KC.out _ (HB.out.drew) | fail "no keep")
            (first
            | (go_at_call 10; have _z := g5; refine (num15_any _ _).mono ?_; rintro e w6 ⟨rfl, hw6⟩; rw [hw6]; clear hw6)
            | (go_at_call 11; refine (O.charge _ H S n L kd p q (O.later HR.out (Below.refl _ _).drew) (by omega)).mono ?_; rintro e w5 ⟨S5, rfl, h5', g5'⟩; rw [HE.out.2] at h5'; rw [HE.out.1]; have h5 := Lib.hid h5'; have g5 := Lib.hid (g5'.step HB.out.drew HS.out); obtain ⟨k0, k1, k2⟩ := KC.out _ g5.out.1; clear h5' g5')
            | fail "no arm")
          go_wp2_with fail
          go_roundw
          case rel => exact ⟨k + 1, S5, _, by omega, by rw [HLN2.out]; omega, by rw [HGP.out]; go_num, by rw [HLN2.out]; go_num, by go_num, h5, Lib.hid g5.out.2, Lib.hid g5.out.1⟩
          case measure => simp [intOf]; omega
        · have HE : Hid (errV n kd p q = 0 ∧ chV n L kd p q = L ++ [entC kd p q]) := Lib.hid ⟨(ch_yes (L := L) c0).2, (ch_yes (L := L) c0).1⟩
          have f4 : (kd == 4) = false := by simpa using c4
          have HGP : Hid (gapsV (L ++ [entC kd p q]) = gapsV L + 0) := Lib.hid (by rw [gapsV_snoc, ent_at, if_neg c4])
          have HLN2 : Hid ((L ++ [entC kd p q]).length = L.length + 1) := Lib.hid (by simp)
          clear c0 c4
          go_wp2_with fail
          go_region_held3 (fun Y => Y.cell? ⟨b, off + k * 3, none⟩ = some (.int .i64 kd) ∧ Y.cell? ⟨b, off + k * 3 + 1, none⟩ = some (.int .i64 p) ∧ Y.cell? ⟨b, off + k * 3 + 2, none⟩ = some (.int .i64 q))
            (first | exact KC.out _ g5.out.1 | exact KC.out _ (HB.out.drew) | fail "no keep")
            (first
            | (go_at_call 10; have _z := g5; refine (num15_any _ _).mono ?_; rintro e w6 ⟨rfl, hw6⟩; rw [hw6]; clear hw6)
            | (go_at_call 11; refine (O.charge _ H S n L kd p q (O.later HR.out (Below.refl _ _).drew) (by omega)).mono ?_; rintro e w5 ⟨S5, rfl, h5', g5'⟩; rw [HE.out.2] at h5'; rw [HE.out.1]; have h5 := Lib.hid h5'; have g5 := Lib.hid (g5'.step HB.out.drew HS.out); obtain ⟨k0, k1, k2⟩ := KC.out _ g5.out.1; clear h5' g5')
            | fail "no arm")
          go_wp2_with fail
          go_roundw
          case rel => exact ⟨k + 1, S5, _, by omega, by rw [HLN2.out]; omega, by rw [HGP.out]; go_num, by rw [HLN2.out]; go_num, by go_num, h5, Lib.hid g5.out.2, Lib.hid g5.out.1⟩
          case measure => simp [intOf]; omega
    · have d0 : decide ((k : Int) < (n0 : Int)) = false := decide_eq_false (by omega)
      have hbd := O.bd HR.out
      have hn6 := hbd.2.1
      have X1 := Lib.hid (once_all hn6 L hbd.2.2)
      have X2 := Lib.hid (fun p => once_row hn6 p L hbd.2.2)
      have X3 := Lib.hid (fun p => once_self hn6 p L hbd.2.2)
      have X4 := Lib.hid (once_gave hn6 L hbd.2.2)
      have HLN : Hid (L.length ≤ 1000) := Lib.hid (by omega)
      have HLL := Lib.hid (show L.length ≤ 300 by omega)
      have XC := Lib.hid (fun k p q => cntV_le L k p q)
      clear hbd hn6 hgp hll hLk hgl
      have hgl : gapsV L ≤ 300 := Nat.le_trans (gapsV_le L) HLL.out
      go_wp2_with fail
      obtain ⟨wz, hwz⟩ : ∃ wz, wz = wr := ⟨_, rfl⟩
      subst hwz
      have HL2 : Hid (∀ W : World, Below wz.heap.size wz W → O.Lg W H S n L) := Lib.hid (fun W hW => O.later HR.out hW)
      clear HR
      go_loopw [9, 10, 11, 12] (fun s9 s10 s11 s12 wp => ∃ p A B C : Nat, p ≤ 6 ∧ A ≤ 300 + 1200 * p ∧ B ≤ 300 * p ∧ C ≤ 300 * p ∧ s9 = .int .i64 A ∧ s10 = .int .i64 B ∧ s11 = .int .i64 C ∧ s12 = .int .i64 p ∧ Hid (A = gapsV L + sumN (colV L) p) ∧ Hid (B = sumN (fun p => cntV L 1 p (-2)) p) ∧ Hid (C = sumN (fun p => cntV L 1 (-2) p) p) ∧ Hid (Below wz.heap.size wz wp)) (fun _ _ _ s _ => 6 - (intOf s).toNat)
      case atStart => exact ⟨0, gapsV L, 0, 0, by omega, by omega, by omega, by omega, rfl, rfl, rfl, rfl, Lib.hid rfl, Lib.hid rfl, Lib.hid rfl, Lib.hid (Below.refl _ _)⟩
      case round =>
        clear hgl
        obtain ⟨p, A, B, C, hp, hA, hB, hC, rfl, rfl, rfl, rfl, HA, HB', HC, HP⟩ := hrel
        obtain ⟨wo, hwo⟩ : ∃ wo, wo = wr := ⟨_, rfl⟩
        subst hwo
        by_cases hp6 : p < 6
        · have d3 : decide ((p : Int) < 6) = true := decide_eq_true (by omega)
          have AP := Lib.hid (show ofV L 1 (p : Int) = (cntV L 1 p (-2) : Nat) from ofV_nat L 1 p (by omega))
          have GP := Lib.hid (gotV_nat L p)
          have GS := Lib.hid (show gaveV L (p : Int) (p : Int) = 0 from (gaveV_nat L p p).trans (by rw [X3.out p]; rfl))
          obtain ⟨ap, hap⟩ : ∃ ap, ap = cntV L 1 p (-2) := ⟨_, rfl⟩
          obtain ⟨gt, hgt⟩ : ∃ gt, gt = cntV L 1 (-2) p := ⟨_, rfl⟩
          have hap3 : ap ≤ 300 := by rw [hap]; exact Nat.le_trans (XC.out _ _ _) HLL.out
          have hgt3 : gt ≤ 300 := by rw [hgt]; exact Nat.le_trans (XC.out _ _ _) HLL.out
          rw [← hap] at AP
          rw [← hgt] at GP
          have HAP := Lib.hid hap
          have HGT := Lib.hid hgt
          clear hap hgt
          go_wp2_with fail
          go_loopw [9, 13] (fun s9 s13 wp => ∃ kd A' : Nat, kd ≤ 4 ∧ A' ≤ 300 + 1200 * p + 300 * kd ∧ s9 = .int .i64 A' ∧ s13 = .int .i64 kd ∧ Hid (A' = A + sumN (fun k => cntV L k p (-2)) kd) ∧ Hid (Below wz.heap.size wz wp)) (fun _ s _ => 4 - (intOf s).toNat)
          case atStart => exact ⟨0, A, by omega, by omega, rfl, rfl, Lib.hid rfl, HP⟩
          case round =>
            clear HP
            obtain ⟨kd, A', hkd, hA', rfl, rfl, HA', HP⟩ := hrel
            by_cases hk4 : kd < 4
            · have d4 : decide ((kd : Int) < 4) = true := decide_eq_true (by omega)
              have OF := Lib.hid (ofV_nat L kd p hk4)
              obtain ⟨oc, hoc⟩ : ∃ oc, oc = cntV L kd p (-2) := ⟨_, rfl⟩
              have hoc3 : oc ≤ 300 := by rw [hoc]; exact Nat.le_trans (XC.out _ _ _) HLL.out
              rw [← hoc] at OF
              have HOC := Lib.hid hoc
              clear hoc
              go_wp2_with (first
                | (go_at_call 14; refine (O.of _ H S n L kd p (HL2.out _ HP.out) HLN.out).mono ?_; rintro e w6 ⟨rfl, b6⟩; rw [OF.out]; have h6 := Lib.hid (HP.out.trans (b6.mono HP.out.size)); clear b6)
                | fail "no arm")
              go_roundw
              case rel => exact ⟨kd + 1, A' + oc, by omega, by omega, by go_num, by go_num, Lib.hid (by rw [HA'.out, HOC.out]; simp only [sumN]; omega), h6⟩
              case measure => simp [intOf]; omega
            · have d4 : decide ((kd : Int) < 4) = false := decide_eq_false (by omega)
              obtain ⟨wq, hwq⟩ : ∃ wq, wq = wr := ⟨_, rfl⟩
              subst hwq
              have HA2 : Hid (A' = gapsV L + sumN (colV L) (p + 1)) := Lib.hid (by
                obtain rfl : kd = 4 := by omega
                rw [HA'.out, HA.out]
                show _ = gapsV L + (sumN (colV L) p + colV L p)
                unfold colV
                omega)
              have hA2 : A' ≤ 300 + 1200 * (p + 1) := by omega
              go_wp2_with (first
                | (go_at_call 15; have _z := h6; refine (O.got _ H S n L p (HL2.out _ h6.out) HLN.out).mono ?_; rintro e w7 ⟨rfl, b7⟩; rw [GP.out]; have h7 := Lib.hid (h6.out.trans (b7.mono h6.out.size)); clear b7)
                | (go_at_call 14; refine (O.of _ H S n L 1 p (HL2.out _ HP.out) HLN.out).mono ?_; rintro e w6 ⟨rfl, b6⟩; rw [AP.out]; have h6 := Lib.hid (HP.out.trans (b6.mono HP.out.size)); clear b6)
                | fail "no arm")
              go_loopw [14, 15] (fun s14 s15 wp => ∃ q D : Nat, q ≤ 6 ∧ D ≤ 300 * q ∧ s14 = .int .i64 D ∧ s15 = .int .i64 q ∧ Hid (D = sumN (fun q => cntV L 1 p q) q) ∧ Hid (Below wz.heap.size wz wp)) (fun _ s _ => 6 - (intOf s).toNat)
              case atStart => exact ⟨0, 0, by omega, by omega, rfl, rfl, Lib.hid rfl, h7⟩
              case round =>
                clear h7 h6 HP
                obtain ⟨q, D, hq, hD, rfl, rfl, HD, HP⟩ := hrel
                by_cases hq6 : q < 6
                · have d5 : decide ((q : Int) < 6) = true := decide_eq_true (by omega)
                  have OF := Lib.hid (gaveV_nat L p q)
                  obtain ⟨oc, hoc⟩ : ∃ oc, oc = cntV L 1 p q := ⟨_, rfl⟩
                  have hoc3 : oc ≤ 300 := by rw [hoc]; exact Nat.le_trans (XC.out _ _ _) HLL.out
                  rw [← hoc] at OF
                  have HOC := Lib.hid hoc
                  clear hoc
                  go_wp2_with (first
                    | (go_at_call 16; refine (O.gave _ H S n L p q (HL2.out _ HP.out) HLN.out).mono ?_; rintro e w6 ⟨rfl, b6⟩; rw [OF.out]; have h6 := Lib.hid (HP.out.trans (b6.mono HP.out.size)); clear b6)
                    | fail "no arm")
                  go_roundw
                  case rel => exact ⟨q + 1, D + oc, by omega, by omega, by go_num, by go_num, Lib.hid (by rw [HD.out, HOC.out]; rfl), h6⟩
                  case measure => simp [intOf]; omega
                · have d5 : decide ((q : Int) < 6) = false := decide_eq_false (by omega)
                  have HD2 : D = ap := by
                    obtain rfl : q = 6 := by omega
                    rw [HD.out, X2.out p, HAP.out]
                  subst HD2
                  go_wp2_with (first
                    | (go_at_call 16; have _z := h6; refine (O.gave _ H S n L p p (HL2.out _ h6.out) HLN.out).mono ?_; rintro e w7 ⟨rfl, b7⟩; rw [GS.out]; have h7 := Lib.hid (h6.out.trans (b7.mono h6.out.size)); clear b7)
                    | (go_at_call 14; refine (O.of _ H S n L 1 p (HL2.out _ HP.out) HLN.out).mono ?_; rintro e w6 ⟨rfl, b6⟩; rw [AP.out]; have h6 := Lib.hid (HP.out.trans (b6.mono HP.out.size)); clear b6)
                    | fail "no arm")
                  go_roundw
                  case rel => exact ⟨p + 1, A', B + D, C + gt, by omega, hA2, by omega, by omega, rfl, by go_num, by go_num, by go_num, HA2, Lib.hid (by rw [HB'.out, HAP.out]; rfl), Lib.hid (by rw [HC.out, HGT.out]; rfl), h7⟩
                  case measure => simp [intOf]; omega
        · have d3 : decide ((p : Int) < 6) = false := decide_eq_false (by omega)
          have e1 : A = L.length := by
            obtain rfl : p = 6 := by omega
            rw [HA.out, X1.out]
          have e2 : B = C := by
            obtain rfl : p = 6 := by omega
            rw [HB'.out, HC.out, X4.out]
          subst e2
          subst e1
          go_wp2_with (first
            | (go_at_call 17; refine (O.total _ H S n L (HL2.out _ HP.out) HLN.out).mono ?_; rintro e w6 ⟨rfl, b6⟩; have h6 := Lib.hid (HP.out.trans (b6.mono HP.out.size)); clear b6)
            | fail "no arm")
          go_ret
          exact ⟨by simp, HB.out.trans (h6.out.mono HB.out.size)⟩
end Go.Proofs.Ytikjahdnffklhaa
