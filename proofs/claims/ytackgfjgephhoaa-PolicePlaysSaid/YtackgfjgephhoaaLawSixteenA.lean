/- PolicePlays, out of the contracts. -/
import Derived.Test.YtackgfjgephhoaaPolC
import Derived.Deep.CutRange
import Derived.Deep.CutBlock
import Derived.BigRegion
import Derived.BigQuiet
namespace Go.Proofs.Ytackgfjgephhoaa
open Go.ChangeShapes Go.WideShapes Go.ChangeAt Go.RowKit
set_option linter.unusedVariables false

theorem acts16_read {w : World} {a : Option Addr} {n c : Nat} {l : List Wn} (hn : l.length = n) (hl : Lies w 0 w.heap.size (.slice a n c) n 3 (l.flatMap Wn.cells)) : ∀ Y, Below w.heap.size w Y → ∀ i, i < n → ∃ b off k d e, a = some ⟨b, off, none⟩ ∧ Y.cell? ⟨b, off + i * 3, none⟩ = some (.int .i64 k) ∧ Y.cell? ⟨b, off + i * 3 + 1, none⟩ = some (.int .i64 d) ∧ Y.cell? ⟨b, off + i * 3 + 2, none⟩ = some (.int .i64 e) ∧ b < w.heap.size := by
  intro Y hY i hi
  obtain ⟨a', c', e, _, _, hc⟩ := hl.keep (SameIn.of_below hY (Nat.le_refl _))
  cases e
  rcases hc with h0 | ⟨b, off, rfl, _, hb, hc⟩
  · omega
  · have hx : l[i]? = some l[i] := List.getElem?_eq_getElem (by omega)
    have f0 := hc _ _ (flat_at Wn.cells 3 (fun _ => rfl) l i 0 _ hx (by omega))
    have f1 := hc _ _ (flat_at Wn.cells 3 (fun _ => rfl) l i 1 _ hx (by omega))
    have f2 := hc _ _ (flat_at Wn.cells 3 (fun _ => rfl) l i 2 _ hx (by omega))
    exact ⟨b, off, _, _, _, rfl, f0, f1, f2, hb⟩
set_option maxRecDepth 100000 in
set_option maxHeartbeats 8000000 in
theorem PolicePlays_of (O : PoliceOk) (a0 : Option Addr) (n0 c0 : Nat) (a1 : Option Addr) (n1 c1 : Nat) (w : World) (ts : List Tk) (l1 : List Wn) (hn0 : ts.length = n0) (hl0 : Lies w 0 w.heap.size (.slice a0 n0 c0) n0 6 (ts.flatMap Tk.cells)) (hi0 : ∀ x ∈ ts, x.In) (hn1 : l1.length = n1) (hl1 : Lies w 0 w.heap.size (.slice a1 n1 c1) n1 3 (l1.flatMap Wn.cells)) (hi1 : ∀ x ∈ l1, x.In) :
    Calls Try.prog 3 #[.slice a0 n0 c0, .slice a1 n1 c1] w fun e w' => e = .returned (.bool true) ∧ Below w.heap.size w w' := by
  have HK := Lib.hid (knows16_of O w)
  by_cases hbig : 20 < n0
  · have t0 : decide ((20 : Int) < (n0 : Int)) = true := decide_eq_true (by omega)
    clear hbig hn0 hl0 hi0 hn1 hl1 hi1
    go_enter Try.func3, Try.ntmps3
    go_wp2_with (go_at_call 6; refine HK.out.mono ?_; rintro e w3 ⟨rfl, hb3⟩)
    go_ret
    exact ⟨rfl, hb3⟩
  have t0 : decide ((20 : Int) < (n0 : Int)) = false := decide_eq_false (by omega)
  by_cases hbig1 : 150 < n1
  · have t1 : decide ((150 : Int) < (n1 : Int)) = true := decide_eq_true (by omega)
    have s0 : ¬ 20 < n0 := hbig
    clear hbig1 hn0 hl0 hi0 hn1 hl1 hi1
    go_enter Try.func3, Try.ntmps3
    go_wp2_with (go_at_call 6; refine HK.out.mono ?_; rintro e w3 ⟨rfl, hb3⟩)
    go_ret
    exact ⟨rfl, hb3⟩
  have s0 : n0 ≤ 20 := by omega
  have s1 : n1 ≤ 150 := by omega
  have t1 : decide ((150 : Int) < (n1 : Int)) = false := decide_eq_false (by omega)
  have KA := Lib.hid (acts16_read hn1 hl1)
  have HNN := Lib.hid hn0
  have HLI : Hid (∀ Y, Below w.heap.size w Y → Lies Y 0 Y.heap.size (.slice a0 n0 c0) n0 6 (ts.flatMap Tk.cells)) := Lib.hid (fun Y hY => (hl0.keep (SameIn.of_below hY (Nat.le_refl _))).wider (Nat.le_refl _) hY.size)
  have HIN := Lib.hid hi0
  clear hbig hbig1 hn0 hl0 hi0 hn1 hl1 hi1
  cases hok : okN ts with
  | false =>
    have HOK := Lib.hid hok
    clear hok
    by_cases hz : n1 = 0
    · subst hz
      go_enter Try.func3, Try.ntmps3
      go_wp2_with (first
        | (go_at_call 8; have _z := hb2; refine (prnew_any _ a0 n0 c0 ts HNN.out (HLI.out _ hb2.out)).mono ?_; rintro e w3 ⟨_, f2, b3⟩; obtain rfl := f2 HOK.out; have hb3 := Lib.hid (hb2.out.trans (b3.mono hb2.out.size)); clear f2 b3)
        | (go_at_call 7; have _z := hb1; refine (own16_of O _ a0 n0 c0 ts HNN.out (HLI.out _ hb1.out) HIN.out s0).mono ?_; rintro e w2 ⟨_, f2, b2⟩; obtain rfl := f2 HOK.out; have hb2 := Lib.hid (hb1.out.trans (b2.mono hb1.out.size)); clear f2 b2)
        | (go_at_call 6; refine HK.out.mono ?_; rintro e w1 ⟨rfl, hb1'⟩; have hb1 := Lib.hid hb1'; clear hb1')
        | fail "no arm")
      go_loopw [7] (fun s wr => s = .int .i64 0 ∧ Hid (Below w.heap.size w wr)) (fun _ _ => 0)
      case atStart => exact ⟨rfl, hb3⟩
      case round =>
        obtain ⟨rfl, HB⟩ := hrel
        go_wp2_with fail
        go_ret
        exact ⟨rfl, HB.out⟩
    · have d0 : decide ((0 : Int) < (n1 : Int)) = true := decide_eq_true (by omega)
      have d1 : 0 < n1 := by omega
      go_enter Try.func3, Try.ntmps3
      go_wp2_with (first
        | (go_at_call 8; have _z := hb2; refine (prnew_any _ a0 n0 c0 ts HNN.out (HLI.out _ hb2.out)).mono ?_; rintro e w3 ⟨_, f2, b3⟩; obtain rfl := f2 HOK.out; have hb3 := Lib.hid (hb2.out.trans (b3.mono hb2.out.size)); clear f2 b3)
        | (go_at_call 7; have _z := hb1; refine (own16_of O _ a0 n0 c0 ts HNN.out (HLI.out _ hb1.out) HIN.out s0).mono ?_; rintro e w2 ⟨_, f2, b2⟩; obtain rfl := f2 HOK.out; have hb2 := Lib.hid (hb1.out.trans (b2.mono hb1.out.size)); clear f2 b2)
        | (go_at_call 6; refine HK.out.mono ?_; rintro e w1 ⟨rfl, hb1'⟩; have hb1 := Lib.hid hb1'; clear hb1')
        | fail "no arm")
      go_loopw [7] (fun s wr => s = .int .i64 0 ∧ Hid (Below w.heap.size w wr)) (fun _ _ => 0)
      case atStart => exact ⟨rfl, hb3⟩
      case round =>
        obtain ⟨rfl, HB⟩ := hrel
        go_wp2_with fail
        go_ret
        exact ⟨rfl, HB.out⟩
  | true =>
    have HOK := Lib.hid hok
    clear hok
    go_enter Try.func3, Try.ntmps3
    go_wp2_with (first
      | (go_at_call 8; have _z := hb2; refine (prnew_any _ a0 n0 c0 ts HNN.out (HLI.out _ hb2.out)).mono ?_; rintro e w3 ⟨f1, _, b3⟩; obtain ⟨rb, R, rfl, r3', R3'⟩ := f1 HOK.out; have r3 := Lib.hid r3'; have R3 := Lib.hid R3'; have b3' := Lib.hid b3; clear f1 b3 r3' R3')
      | (go_at_call 7; have _z := hb1; refine (own16_of O _ a0 n0 c0 ts HNN.out (HLI.out _ hb1.out) HIN.out s0).mono ?_; rintro e w2 ⟨f1, _, b2⟩; obtain ⟨H, S, rfl, h2', S2'⟩ := f1 HOK.out; have h2 := Lib.hid h2'; have S2 := Lib.hid S2'; have hb2 := Lib.hid (hb1.out.trans (b2.mono hb1.out.size)); clear f1 b2 h2' S2')
      | (go_at_call 6; refine HK.out.mono ?_; rintro e w1 ⟨rfl, hb1'⟩; have hb1 := Lib.hid hb1'; clear hb1')
      | fail "no arm")
    obtain ⟨ls, hls⟩ : ∃ ls, ls = List.replicate n0 (-1 : Int) := ⟨_, rfl⟩
    rw [← hls] at h2 r3
    clear hls
    have HT3 : Hid (Both w w3 (O.Pl H ts ls false) (PRg rb ts ls false) S R) := Lib.hid ⟨(O.own _ _ _ _).later h2.out b3'.out, r3.out, O.own _ _ _ _, pr_own _ _ _ _, fun k hs hr => by have := (O.own _ _ _ _).lt h2.out k hs; have := R3.out k hr; omega, fun k hk => Nat.le_trans hb1.out.size (S2.out k hk), fun k hk => Nat.le_trans hb2.out.size (R3.out k hk), hb2.out.trans (b3'.out.mono hb2.out.size)⟩
    clear h2 S2 hb2 hb1 r3 R3 b3'
    go_loopw [7] (fun s wr => ∃ (k : Nat) (S R : Nat → Prop) (la : List Int) (hi : Bool), k ≤ n1 ∧ s = .int .i64 k ∧ Hid (Both w wr (O.Pl H ts la hi) (PRg rb ts la hi) S R)) (fun s _ => n1 - (intOf s).toNat)
    case atStart => exact ⟨0, _, _, _, _, Nat.zero_le _, rfl, HT3⟩
    case round =>
      clear HT3
      obtain ⟨k, S, R, la, hi, hk, rfl, HT⟩ := hrel
      by_cases hlt : k < n1
      · have d0 : decide ((k : Int) < (n1 : Int)) = true := decide_eq_true (by omega)
        have d1 : (0 : Int) ≤ (k : Int) := by omega
        have d2 : (k : Int) < (n1 : Int) := by omega
        obtain ⟨b, off, kd, tk, now, rfl, c0', c1', c2', hb⟩ := KA.out wr HT.out.b k hlt
        obtain ⟨V, hV⟩ : ∃ V, V = wr.alloc (.cells #[.int .i64 kd, .int .i64 tk, .int .i64 now] 30) := ⟨_, rfl⟩
        obtain ⟨E, hE⟩ : ∃ E, E = wr.heap.size := ⟨_, rfl⟩
        have hEV : V.heap[E]? = some (.cells #[.int .i64 kd, .int .i64 tk, .int .i64 now] 30 (0, 0)) := by rw [hV, hE]; exact heap_alloc_new _ _
        have hbwV : Below wr.heap.size wr V := by rw [hV]; exact below1 _ _
        have HTV : Hid (Both w V (O.Pl H ts la hi) (PRg rb ts la hi) S R) := Lib.hid (HT.out.later hbwV)
        have HBD := Lib.hid (O.bd HTV.out.h)
        have HEK : Hid (Aside V V E S R) := Lib.hid ⟨rfl, lt_of_block hEV, fun h => by have := HT.out.oh.lt HT.out.h E h; omega, fun h => by have := HT.out.or.lt HT.out.r E h; omega⟩
        have KS : Hid (∀ Y : World, Y.heap[E]? = V.heap[E]? → Y.cell? ⟨E, 1, none⟩ = some (.int .i64 tk) ∧ Y.cell? ⟨E, 2, none⟩ = some (.int .i64 now)) := Lib.hid (fun Y hY => ⟨cell_in (hY.trans hEV) rfl, cell_in (hY.trans hEV) rfl⟩)
        have K0 : Hid (V.cell? ⟨E, 0, none⟩ = some (.int .i64 kd)) := Lib.hid (cell_in hEV rfl)
        have HV := Lib.hid hV
        have HEE := Lib.hid hE
        obtain ⟨er, her⟩ : ∃ er, er = errP ts la hi tk now := ⟨_, rfl⟩
        have HER := Lib.hid her
        clear hV hE hEV hbwV HT her
        go_upto_block 2 with fail
        rw [← HV.out, ← HEE.out]
        clear c0' c1' c2' HV HEE
        obtain ⟨k1, k2⟩ := KS.out V rfl
        have k0 := K0.out
        go_cut [9, 10, 11, 12, 13] from 50 to 97 (fun s _ _ _ _ wx => ∃ (S' R' : Nat → Prop) (la' : List Int) (hi' : Bool), s = .bool true ∧ Hid (Both w wx (O.Pl H ts la' hi') (PRg rb ts la' hi') S' R') ∧ Hid (Aside V wx E S' R'))
        case first =>
          by_cases q0 : kd = 0
          · subst q0
            go_upto_region 15 with fail
            go_region_held3 (fun Y => Y.cell? ⟨E, 1, none⟩ = some (.int .i64 tk) ∧ Y.cell? ⟨E, 2, none⟩ = some (.int .i64 now))
              (first | exact KS.out _ e5.out.k | exact KS.out _ e4.out.k | exact KS.out _ rfl | fail "no")
              (first
              | (go_at_call 11; have _z := t4; refine (prtake_any _ rb R ts la hi t4.out.r HBD.out.1 HBD.out.2.2 HBD.out.2.1 tk now).mono ?_; rintro e w5 ⟨rfl, r5', g5'⟩; rw [← HER.out]; have t5 := Lib.hid (t4.out.ref r5' g5' (pr_own _ _ _ _)); have e5 := Lib.hid (e4.out.ref g5'); clear r5' g5')
              | (go_at_call 9; have _z := t4; refine (num16_any _ _).mono ?_; rintro e w20 ⟨rfl, hw20⟩; rw [hw20]; clear hw20)
              | (go_at_call 10; refine (O.take _ H S ts la hi tk now (HTV.out.later (Below.refl _ _).drew).h).mono ?_; rintro e w4 ⟨S4, rfl, h4', g4'⟩; rw [← HER.out]; have t4 := Lib.hid ((HTV.out.later (Below.refl _ _).drew).prog h4' g4' (O.own _ _ _ _)); have e4 := Lib.hid ((HEK.out.later (Below.refl _ _).drew).prog g4'); clear h4' g4')
              | fail "no arm")
            go_wp2_with fail
            go_meet
            case rel => exact ⟨S4, R, _, _, by simp, t5, e5⟩
          · have f0 : (kd == 0) = false := by simpa using q0
            by_cases q1 : kd = 1
            · subst q1
              go_upto_region 15 with fail
              go_region_held3 (fun Y => Y.cell? ⟨E, 1, none⟩ = some (.int .i64 tk) ∧ Y.cell? ⟨E, 2, none⟩ = some (.int .i64 now))
                (first | exact KS.out _ e5.out.k | exact KS.out _ e4.out.k | exact KS.out _ rfl | fail "no")
                (first
                | (go_at_call 11; have _z := t4; refine (prtake_any _ rb R ts la hi t4.out.r HBD.out.1 HBD.out.2.2 HBD.out.2.1 tk now).mono ?_; rintro e w5 ⟨rfl, r5', g5'⟩; rw [← HER.out]; have t5 := Lib.hid (t4.out.ref r5' g5' (pr_own _ _ _ _)); have e5 := Lib.hid (e4.out.ref g5'); clear r5' g5')
                | (go_at_call 9; have _z := t4; refine (num16_any _ _).mono ?_; rintro e w20 ⟨rfl, hw20⟩; rw [hw20]; clear hw20)
                | (go_at_call 10; refine (O.take _ H S ts la hi tk now (HTV.out.later (Below.refl _ _).drew).h).mono ?_; rintro e w4 ⟨S4, rfl, h4', g4'⟩; rw [← HER.out]; have t4 := Lib.hid ((HTV.out.later (Below.refl _ _).drew).prog h4' g4' (O.own _ _ _ _)); have e4 := Lib.hid ((HEK.out.later (Below.refl _ _).drew).prog g4'); clear h4' g4')
                | fail "no arm")
              go_wp2_with fail
              go_meet
              case rel => exact ⟨S4, R, _, _, by simp, t5, e5⟩
            · have f1 : (kd == 1) = false := by simpa using q1
              by_cases q2 : kd = 2
              · subst q2
                go_upto_region 17 with fail
                go_region_held3 (fun Y => Y.cell? ⟨E, 1, none⟩ = some (.int .i64 tk) ∧ Y.cell? ⟨E, 2, none⟩ = some (.int .i64 now))
                  (first | exact KS.out _ e5.out.k | exact KS.out _ e4.out.k | exact KS.out _ rfl | fail "no")
                  (first
                  | (go_at_call 13; have _z := t4; refine (prmay_any _ rb R ts la hi t4.out.r HBD.out.1 HBD.out.2.2 HBD.out.2.1 tk now).mono ?_; rintro e w5 ⟨rfl, b5⟩; rw [← HER.out]; have t5 := Lib.hid (t4.out.later b5); have e5 := Lib.hid (e4.out.later b5); clear b5)
                  | (go_at_call 9; have _z := t4; refine (num16_any _ _).mono ?_; rintro e w20 ⟨rfl, hw20⟩; rw [hw20]; clear hw20)
                  | (go_at_call 12; refine (O.may _ H S ts la hi tk now (HTV.out.later (Below.refl _ _).drew).h).mono ?_; rintro e w4 ⟨rfl, b4⟩; rw [← HER.out]; have t4 := Lib.hid ((HTV.out.later (Below.refl _ _).drew).later b4); have e4 := Lib.hid ((HEK.out.later (Below.refl _ _).drew).later b4); clear b4)
                  | fail "no arm")
                go_wp2_with fail
                go_meet
                case rel => exact ⟨S, R, _, _, by simp, t5, e5⟩
              · have f2 : (kd == 2) = false := by simpa using q2
                by_cases q3 : kd = 3
                · subst q3
                  go_wp2_with (go_at_call 14; refine (O.drop _ H S ts la hi _ HTV.out.h).mono ?_; rintro e w4 ⟨S4, rfl, h4', g4'⟩; have t4 := Lib.hid (HTV.out.prog h4' g4' (O.own _ _ _ _)); have e4 := Lib.hid (HEK.out.prog g4'); obtain ⟨j1, j2⟩ := KS.out _ e4.out.k; obtain ⟨ao, bo, e1, e2, x1⟩ := t4.out.r; have x2 : w4.cell? ⟨rb, 2, none⟩ = some (.bool hi) := cell_in x1.box rfl; have x3 : w4.frozen? ⟨rb, 2, none⟩ = false := free_in x1.box 2; have X1 := Lib.hid x1; clear h4' g4' x1)
                  obtain ⟨r5', g5'⟩ := X1.out.setH (decide (0 ≤ now))
                  have t5 := Lib.hid (t4.out.ref (Q' := PRg rb ts la (decide (0 ≤ now))) ⟨_, _, _, _, r5'⟩ g5' (pr_own _ _ _ _))
                  have e5 := Lib.hid (e4.out.ref g5')
                  clear r5' g5'
                  go_meet
                  case rel => exact ⟨S4, R, la, _, rfl, t5, e5⟩
                · have f3 : (kd == 3) = false := by simpa using q3
                  go_wp2_with fail
                  go_meet
                  case rel => exact ⟨S, R, la, hi, rfl, HTV, HEK⟩
        case rest =>
          obtain ⟨S', R', la', hi', rfl, HT2, HE2⟩ := hcut
          clear HTV HEK k0 k1 k2 HBD HER
          have HBD2 := Lib.hid (O.bd HT2.out.h)
          obtain ⟨k1, k2⟩ := KS.out wc HE2.out.k
          obtain ⟨dv, hdv⟩ : ∃ dv, dv = dropV ts hi' tk := ⟨_, rfl⟩
          have HDV := Lib.hid hdv.symm
          clear hdv
          cases hin : inT ts tk with
          | false =>
            have HLW : Hid (lastV ts la' tk = 0 ∧ wasV ts la' tk = false) := Lib.hid ⟨by unfold lastV wasV; rw [hin]; rfl, by unfold wasV; rw [hin]; rfl⟩
            rcases inT_f hin with g | ⟨g, g2⟩
            · have u0 : decide (0 ≤ tk) = false := decide_eq_false (by omega)
              clear hin
              go_wp2_with (first
                | (go_at_call 15; refine (O.last _ H S' ts la' hi' tk HT2.out.h).mono ?_; rintro e w7 ⟨rfl, b7⟩; rw [HLW.out.1, HLW.out.2]; have t7 := Lib.hid (HT2.out.later b7); have e7 := Lib.hid (HE2.out.later b7); obtain ⟨j1, j2⟩ := KS.out _ e7.out.k; clear b7)
                | fail "no arm")
              go_quiet (fail)
              have t8 : Hid (Both w w7 (O.Pl H ts la' hi') (PRg rb ts la' hi') S' R') := t7
              go_wp2_with fail
              go_region_held3 (fun Y => Y.cell? ⟨E, 1, none⟩ = some (.int .i64 tk))
                (first | exact (KS.out _ e10.out.k).1 | exact (KS.out _ e9.out.k).1 | exact (KS.out _ e7.out.k).1 | fail "no")
                (first
                | (go_at_call 17; have _z := t9; refine (prdrop_any _ rb R' ts la' hi' t9.out.r HBD2.out.1 tk).mono ?_; rintro e w10 ⟨rfl, b10⟩; rw [HDV.out]; have t10 := Lib.hid (t9.out.later b10); have e10 := Lib.hid (e9.out.later b10); clear b10)
                | (go_at_call 16; refine (O.dropped _ H S' ts la' hi' tk (t7.out.later (below_drewM _ (Below.refl _ _)).drew).h).mono ?_; rintro e w9 ⟨rfl, b9⟩; rw [HDV.out]; have t9 := Lib.hid ((t7.out.later (below_drewM _ (Below.refl _ _)).drew).later b9); have e9 := Lib.hid ((e7.out.later (below_drewM _ (Below.refl _ _)).drew).later b9); clear b9)
                | fail "no arm")
              go_wp2_with fail
              go_roundw
              case rel => exact ⟨k + 1, S', R', la', hi', by omega, by go_num, t10⟩
              case measure => simp [intOf]; omega
            · have u0 : decide (0 ≤ tk) = true := decide_eq_true g
              have g3 : ¬ tk < (n0 : Int) := by have := HNN.out; omega
              have u1 : decide (tk < (n0 : Int)) = false := decide_eq_false g3
              clear hin g2
              go_wp2_with (first
                | (go_at_call 15; refine (O.last _ H S' ts la' hi' tk HT2.out.h).mono ?_; rintro e w7 ⟨rfl, b7⟩; rw [HLW.out.1, HLW.out.2]; have t7 := Lib.hid (HT2.out.later b7); have e7 := Lib.hid (HE2.out.later b7); obtain ⟨j1, j2⟩ := KS.out _ e7.out.k; clear b7)
                | fail "no arm")
              go_quiet (fail)
              have t8 : Hid (Both w w7 (O.Pl H ts la' hi') (PRg rb ts la' hi') S' R') := t7
              go_wp2_with fail
              go_region_held3 (fun Y => Y.cell? ⟨E, 1, none⟩ = some (.int .i64 tk))
                (first | exact (KS.out _ e10.out.k).1 | exact (KS.out _ e9.out.k).1 | exact (KS.out _ e7.out.k).1 | fail "no")
                (first
                | (go_at_call 17; have _z := t9; refine (prdrop_any _ rb R' ts la' hi' t9.out.r HBD2.out.1 tk).mono ?_; rintro e w10 ⟨rfl, b10⟩; rw [HDV.out]; have t10 := Lib.hid (t9.out.later b10); have e10 := Lib.hid (e9.out.later b10); clear b10)
                | (go_at_call 16; refine (O.dropped _ H S' ts la' hi' tk (t7.out.later (below_drewM _ (Below.refl _ _)).drew).h).mono ?_; rintro e w9 ⟨rfl, b9⟩; rw [HDV.out]; have t9 := Lib.hid ((t7.out.later (below_drewM _ (Below.refl _ _)).drew).later b9); have e9 := Lib.hid ((e7.out.later (below_drewM _ (Below.refl _ _)).drew).later b9); clear b9)
                | fail "no arm")
              go_wp2_with fail
              go_roundw
              case rel => exact ⟨k + 1, S', R', la', hi', by omega, by go_num, t10⟩
              case measure => simp [intOf]; omega
          | true =>
            obtain ⟨i, rfl, hi'⟩ := inT_nat hin
            have u0 : decide (0 ≤ (i : Int)) = true := decide_eq_true (by omega)
            have g3 : (i : Int) < (n0 : Int) := by have := HNN.out; omega
            have u1 : decide ((i : Int) < (n0 : Int)) = true := decide_eq_true g3
            have hla := HBD2.out.2.2
            have hil : i < la'.length := by rw [hla.len]; exact hi'
            obtain ⟨x, hx⟩ : ∃ x, x = laAt la' i := ⟨_, rfl⟩
            obtain ⟨m, hm⟩ : ∃ m, m = la'.length := ⟨_, rfl⟩
            obtain ⟨ao, bo, e1, e2, x1⟩ := HT2.out.r
            obtain ⟨g, rfl, y1, y2, y3, y4⟩ := x1.rl.at1 (f := intCells) (emb := fun x => .int .i64 x) (fun _ => rfl) hil
            have KL : Hid (∀ Y, Below wc.heap.size wc Y → Y.cell? ⟨rb, 1, none⟩ = some (.slice (some ⟨g, 0, none⟩) m e2) ∧ Y.cell? ⟨g, i, none⟩ = some (.int .i64 x)) := Lib.hid (fun Y hY => by
              have h2 := x1.later hY
              obtain ⟨g', e3, _, _, z3, _⟩ := h2.rl.at1 (f := intCells) (emb := fun x => .int .i64 x) (fun _ => rfl) hil
              cases e3
              rw [hm, hx, laAt_eq hil]
              exact ⟨cell_in h2.box rfl, z3⟩)
            have l0 : (0 : Int) ≤ (i : Int) := by omega
            have l2 : (i : Int) < (m : Int) := by rw [hm]; omega
            clear y1 y2 y3 y4 x1
            by_cases x0 : 0 ≤ x
            · have u2 : decide (0 ≤ x) = true := decide_eq_true x0
              have hw : wasV ts la' i = true := by unfold wasV; rw [hin, Int.toNat_natCast, ← hx, u2]; rfl
              have HLW : Hid (lastV ts la' i = x ∧ wasV ts la' i = true) := Lib.hid ⟨by unfold lastV; rw [hw, hx]; simp, hw⟩
              clear hin hi' hla hil hx hm hw
              go_wp2_with (first
                | (go_at_call 15; refine (O.last _ H S' ts la' hi' (i : Int) HT2.out.h).mono ?_; rintro e w7 ⟨rfl, b7⟩; rw [HLW.out.1, HLW.out.2]; have t7 := Lib.hid (HT2.out.later b7); have e7 := Lib.hid (HE2.out.later b7); obtain ⟨j1, j2⟩ := KS.out _ e7.out.k; obtain ⟨y1, y2⟩ := KL.out _ b7; clear b7)
                | fail "no arm")
              go_quiet (fail)
              go_wp2_with fail
              go_quiet (fail)
              have t8 : Hid (Both w w7 (O.Pl H ts la' hi') (PRg rb ts la' hi') S' R') := t7
              go_wp2_with fail
              go_region_held3 (fun Y => Y.cell? ⟨E, 1, none⟩ = some (.int .i64 (i : Int)))
                (first | exact (KS.out _ e10.out.k).1 | exact (KS.out _ e9.out.k).1 | exact (KS.out _ e7.out.k).1 | fail "no")
                (first
                | (go_at_call 17; have _z := t9; refine (prdrop_any _ rb R' ts la' hi' t9.out.r HBD2.out.1 (i : Int)).mono ?_; rintro e w10 ⟨rfl, b10⟩; rw [HDV.out]; have t10 := Lib.hid (t9.out.later b10); have e10 := Lib.hid (e9.out.later b10); clear b10)
                | (go_at_call 16; refine (O.dropped _ H S' ts la' hi' (i : Int) (t7.out.later (below_drewM _ (Below.refl _ _)).drew).h).mono ?_; rintro e w9 ⟨rfl, b9⟩; rw [HDV.out]; have t9 := Lib.hid ((t7.out.later (below_drewM _ (Below.refl _ _)).drew).later b9); have e9 := Lib.hid ((e7.out.later (below_drewM _ (Below.refl _ _)).drew).later b9); clear b9)
                | fail "no arm")
              go_wp2_with fail
              go_roundw
              case rel => exact ⟨k + 1, S', R', la', hi', by omega, by go_num, t10⟩
              case measure => simp [intOf]; omega
            · have u2 : decide (0 ≤ x) = false := decide_eq_false x0
              have hw : wasV ts la' i = false := by unfold wasV; rw [hin, Int.toNat_natCast, ← hx, u2]; rfl
              have HLW : Hid (lastV ts la' i = 0 ∧ wasV ts la' i = false) := Lib.hid ⟨by unfold lastV; rw [hw]; rfl, hw⟩
              clear hin hi' hla hil hx hm hw
              go_wp2_with (first
                | (go_at_call 15; refine (O.last _ H S' ts la' hi' (i : Int) HT2.out.h).mono ?_; rintro e w7 ⟨rfl, b7⟩; rw [HLW.out.1, HLW.out.2]; have t7 := Lib.hid (HT2.out.later b7); have e7 := Lib.hid (HE2.out.later b7); obtain ⟨j1, j2⟩ := KS.out _ e7.out.k; obtain ⟨y1, y2⟩ := KL.out _ b7; clear b7)
                | fail "no arm")
              go_quiet (fail)
              have t8 : Hid (Both w w7 (O.Pl H ts la' hi') (PRg rb ts la' hi') S' R') := t7
              go_wp2_with fail
              go_region_held3 (fun Y => Y.cell? ⟨E, 1, none⟩ = some (.int .i64 (i : Int)))
                (first | exact (KS.out _ e10.out.k).1 | exact (KS.out _ e9.out.k).1 | exact (KS.out _ e7.out.k).1 | fail "no")
                (first
                | (go_at_call 17; have _z := t9; refine (prdrop_any _ rb R' ts la' hi' t9.out.r HBD2.out.1 (i : Int)).mono ?_; rintro e w10 ⟨rfl, b10⟩; rw [HDV.out]; have t10 := Lib.hid (t9.out.later b10); have e10 := Lib.hid (e9.out.later b10); clear b10)
                | (go_at_call 16; refine (O.dropped _ H S' ts la' hi' (i : Int) (t7.out.later (below_drewM _ (Below.refl _ _)).drew).h).mono ?_; rintro e w9 ⟨rfl, b9⟩; rw [HDV.out]; have t9 := Lib.hid ((t7.out.later (below_drewM _ (Below.refl _ _)).drew).later b9); have e9 := Lib.hid ((e7.out.later (below_drewM _ (Below.refl _ _)).drew).later b9); clear b9)
                | fail "no arm")
              go_wp2_with fail
              go_roundw
              case rel => exact ⟨k + 1, S', R', la', hi', by omega, by go_num, t10⟩
              case measure => simp [intOf]; omega
      · have d0 : decide ((k : Int) < (n1 : Int)) = false := decide_eq_false (by omega)
        go_wp2_with fail
        go_ret
        exact ⟨rfl, HT.out.b⟩
end Go.Proofs.Ytackgfjgephhoaa
