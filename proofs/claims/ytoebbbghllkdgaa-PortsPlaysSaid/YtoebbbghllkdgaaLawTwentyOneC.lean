/- PortsPlays. -/
import Derived.Test.YtoebbbghllkdgaaPortO
import Derived.Test.YtoebbbghllkdgaaPortG
import Derived.Deep.RegionHeld3
namespace Go.Proofs.Ytoebbbghllkdgaa
open Go.ChangeShapes Go.WideShapes Go.ChangeAt Go.RowKit
set_option linter.unusedVariables false

def isW (k : Int) : Bool := decide (k = 0 ∨ k = 1 ∨ k = 2)
def isR (k : Int) : Bool := decide (k = 3 ∨ k = 4 ∨ k = 5)
set_option maxRecDepth 100000 in
set_option maxHeartbeats 16000000 in
theorem PortsPlays_walk (a0 : Option Addr) (n0 c0 : Nat) (a1 : Option Addr) (n1 c1 : Nat) (w : World) (cs : List Ch) (l1 : List A5) (hn0 : cs.length = n0) (hl0 : Lies w 0 w.heap.size (.slice a0 n0 c0) n0 4 (cs.flatMap Ch.cells)) (hi0 : ∀ x ∈ cs, x.In)
    (hn1 : l1.length = n1) (hl1 : Lies w 0 w.heap.size (.slice a1 n1 c1) n1 5 (l1.flatMap A5.cells)) (hi1 : ∀ x ∈ l1, x.In) :
    Calls Try.prog 3 #[.slice a0 n0 c0, .slice a1 n1 c1] w fun e w' => e = .returned (.bool true) ∧ Below w.heap.size w w' := by
  have HK := Lib.hid (knows21_any w)
  by_cases hbig : 20 < n0
  · have t0 : decide ((20 : Int) < (n0 : Int)) = true := decide_eq_true (by omega)
    clear hbig hn0 hl0 hi0 hn1 hl1 hi1
    go_enter Try.func3, Try.ntmps3
    go_wp2_with (go_at_call 7; refine HK.out.mono ?_; rintro e w3 ⟨rfl, hb3⟩)
    go_ret
    exact ⟨rfl, hb3⟩
  have t0 : decide ((20 : Int) < (n0 : Int)) = false := decide_eq_false (by omega)
  by_cases hbig1 : 200 < n1
  · have t1 : decide ((200 : Int) < (n1 : Int)) = true := decide_eq_true (by omega)
    clear hbig hbig1 hn0 hl0 hi0 hn1 hl1 hi1
    go_enter Try.func3, Try.ntmps3
    go_wp2_with (go_at_call 7; refine HK.out.mono ?_; rintro e w3 ⟨rfl, hb3⟩)
    go_ret
    exact ⟨rfl, hb3⟩
  have t1 : decide ((200 : Int) < (n1 : Int)) = false := decide_eq_false (by omega)
  have hs1 : n1 ≤ 200 := by omega
  have KC := Lib.hid (chs_read hn0 hl0)
  have KA := Lib.hid (acts21_read hn1 hl1)
  have KI := Lib.hid (aAt_in hi1)
  have HR := Lib.hid (fun (W : World) (h : Below w.heap.size w W) => rnew_any a0 n0 c0 W cs hn0 (by omega) ((hl0.keep (SameIn.of_below h (Nat.le_refl _))).wider (Nat.zero_le _) h.size))
  have HO := Lib.hid (fun (W : World) (h : Below w.heap.size w W) => own21_any a0 n0 c0 W cs hn0 (by omega) ((hl0.keep (SameIn.of_below h (Nat.le_refl _))).wider (Nat.zero_le _) h.size))
  have HZ : Hid (∀ x ∈ cs, I64 x.size) := Lib.hid (fun x hx => (hi0 x hx).2.2)
  have HN := Lib.hid hn0
  have hn20 : n0 ≤ 20 := by omega
  clear hbig hbig1 hn0 hl0 hi0 hn1 hl1 hi1
  go_enter Try.func3, Try.ntmps3
  go_wp2_with (first
    | (go_at_call 9; have _z := hb2; refine (HR.out _ hb2.out).mono ?_; rintro e w3 ⟨H2, R, rfl, q'⟩; have q3 := Lib.hid q'; clear q')
    | (go_at_call 8; have _z := hb1; refine (HO.out _ hb1.out).mono ?_; rintro e w2 ⟨H, S, rfl, q'⟩; have q2 := Lib.hid q'; have hb2 : Hid (Below w.heap.size w w2) := Lib.hid (hb1.out.trans (q'.2.2.mono hb1.out.size)); clear q')
    | (go_at_call 7; refine HK.out.mono ?_; rintro e w1 ⟨rfl, hb1'⟩; have hb1 := Lib.hid hb1'; clear hb1')
    | fail "no arm")
  have HT3 : Hid (Both w w3 (PrO H cs (fun _ => Ps.new)) (DpAt H2 cs (fun _ => Ps.new)) S R) := Lib.hid (by
    have hw1 := hb1.out.size
    have hw2 := hb2.out.size
    exact ⟨(pro_own _ _ _).later q2.out.1 q3.out.2.2, q3.out.1, pro_own _ _ _, dp_own _ _ _, fun k hs hr => by have := (pro_own _ _ _).lt q2.out.1 k hs; have := q3.out.2.1 k hr; omega, fun k hk => Nat.le_trans hw1 (q2.out.2.1 k hk), fun k hk => Nat.le_trans hw2 (q3.out.2.1 k hk), hb2.out.trans (q3.out.2.2.mono hw2)⟩)
  clear q2 q3 hb1 hb2
  go_loopw [7] (fun s wr => ∃ (k : Nat) (st : Nat → Ps) (S R : Nat → Prop), k ≤ n1 ∧ s = .int .i64 k ∧ Hid (Both w wr (PrO H cs st) (DpAt H2 cs st) S R)) (fun s _ => n1 - (intOf s).toNat)
  case atStart => exact ⟨0, _, _, _, Nat.zero_le _, rfl, HT3⟩
  case round =>
    clear HT3
    obtain ⟨k, st, S, R, hk, rfl, HT⟩ := hrel
    by_cases hlt : k < n1
    · have d0 : decide ((k : Int) < (n1 : Int)) = true := decide_eq_true (by omega)
      have d1 : (0 : Int) ≤ (k : Int) := by omega
      have d2 : (k : Int) < (n1 : Int) := by omega
      obtain ⟨b, off, rfl, ⟨x0, x1, x2, x3, x4⟩, hb⟩ := KA.out wr HT.out.b k hlt
      have hin := KI.out k
      obtain ⟨ac, hac⟩ : ∃ ac, ac = aAt l1 k := ⟨_, rfl⟩
      rw [← hac] at x0 x1 x2 x3 x4 hin
      clear hac
      obtain ⟨kd, pp, ch, vv, tt⟩ := ac
      have I4 := Lib.hid hin.2.2.2.2
      clear hin
      obtain ⟨V, hV⟩ : ∃ V, V = wr.alloc (.cells #[.int .i64 kd, .int .i64 pp, .int .i64 ch, .int .i64 vv, .int .i64 tt] 30) := ⟨_, rfl⟩
      obtain ⟨E, hE⟩ : ∃ E, E = wr.heap.size := ⟨_, rfl⟩
      have hEV : V.heap[E]? = some (.cells #[.int .i64 kd, .int .i64 pp, .int .i64 ch, .int .i64 vv, .int .i64 tt] 30 (0, 0)) := by rw [hV, hE]; exact heap_alloc_new _ _
      have hbwV : Below wr.heap.size wr V := by rw [hV]; exact below1 _ _
      have HTV : Hid (Both w V (PrO H cs st) (DpAt H2 cs st) S R) := Lib.hid (HT.out.later hbwV)
      have HEK : Hid (Aside V V E S R) := Lib.hid ⟨rfl, lt_of_block hEV, fun h => by have := (pro_own _ _ _).lt HT.out.h E h; omega, fun h => by have := (dp_own _ _ _).lt HT.out.r E h; omega⟩
      have KS : Hid (∀ Y : World, Y.heap[E]? = V.heap[E]? → Y.cell? ⟨E, 1, none⟩ = some (.int .i64 pp) ∧ Y.cell? ⟨E, 2, none⟩ = some (.int .i64 ch) ∧ Y.cell? ⟨E, 3, none⟩ = some (.int .i64 vv) ∧ Y.cell? ⟨E, 4, none⟩ = some (.int .i64 tt)) := Lib.hid (fun Y hY => ⟨cell_in (hY.trans hEV) rfl, cell_in (hY.trans hEV) rfl, cell_in (hY.trans hEV) rfl, cell_in (hY.trans hEV) rfl⟩)
      have k0 : V.cell? ⟨E, 0, none⟩ = some (.int .i64 kd) := cell_in hEV rfl
      obtain ⟨k1, k2, k3, k4⟩ := KS.out V rfl
      have HV := Lib.hid hV
      have HEE := Lib.hid hE
      clear hV hE hEV hbwV HT hb
      go_upto_region 9 with fail
      rw [← HV.out, ← HEE.out]
      clear x0 x1 x2 x3 x4 HV HEE
      go_cut [9] from 44 to 47 (fun s wx => V = wx ∧ ∃ now, s = .int .i64 now ∧ nowOk now)
      case first =>
        rcases (show (tt < 0 ∧ ¬ 0 ≤ tt ∧ ¬ 0 < tt) ∨ (0 ≤ tt ∧ ¬ tt < 0 ∧ tt ≤ 2305843009213693952 ∧ ¬ 2305843009213693952 < tt) ∨ (2305843009213693952 < tt ∧ 0 < tt ∧ ¬ tt < 0 ∧ ¬ tt ≤ 2305843009213693952) by omega) with ⟨g1, g2, g3⟩ | ⟨g1, g2, g3, g4⟩ | ⟨g1, g2, g3, g4⟩
        all_goals go_wp2_with fail
        all_goals go_meet
        all_goals exact ⟨rfl, _, rfl, by unfold nowOk; omega⟩
      case rest =>
        obtain ⟨rfl, now, rfl, hnow⟩ := hcut
        have HNOW := Lib.hid hnow
        have INOW : Hid (I64 now) := Lib.hid (by unfold nowOk at hnow; unfold I64; omega)
        clear hnow I4
        go_upto_if 50 with fail
        go_cut [50] from 51 to 53 (fun s wx => s = .bool (isW kd) ∧ V = wx)
        case first =>
          by_cases q0 : kd = 0
          · subst q0
            go_wp2_with fail
            go_meet
            exact ⟨rfl, rfl⟩
          have f00 : (kd == 0) = false := by simpa using q0
          by_cases q1 : kd = 1
          · subst q1
            go_wp2_with fail
            go_meet
            exact ⟨rfl, rfl⟩
          have f10 : (kd == 1) = false := by simpa using q1
          by_cases q2 : kd = 2
          · subst q2
            go_wp2_with fail
            go_meet
            exact ⟨rfl, rfl⟩
          have f20 : (kd == 2) = false := by simpa using q2
          have hno : isW kd = false := by unfold isW; simp [q0, q1, q2]
          go_wp2_with fail
          go_meet
          exact ⟨by rw [hno], rfl⟩
        case rest =>
          obtain ⟨rfl, rfl⟩ := hcut
          cases hW : isW kd with
          | true =>
            go_upto_region 15 with fail
            obtain ⟨er, her⟩ : ∃ x, x = wrE cs pp ch := ⟨_, rfl⟩
            have HER := Lib.hid her
            clear her
            go_region_held3 (fun Y => Y.cell? ⟨E, 1, none⟩ = some (.int .i64 pp) ∧ Y.cell? ⟨E, 2, none⟩ = some (.int .i64 ch) ∧ Y.cell? ⟨E, 3, none⟩ = some (.int .i64 vv))
              (first | exact ⟨(KS.out _ e5.out.k).1, (KS.out _ e5.out.k).2.1, (KS.out _ e5.out.k).2.2.1⟩ | exact ⟨(KS.out _ e4.out.k).1, (KS.out _ e4.out.k).2.1, (KS.out _ e4.out.k).2.2.1⟩ | exact ⟨(KS.out _ rfl).1, (KS.out _ rfl).2.1, (KS.out _ rfl).2.2.1⟩ | fail "no")
              (first
              | (go_at_call 12; have _z := t4; refine (rwrite_any t4.out.r pp ch vv now HNOW.out).mono ?_; rintro e w5 ⟨R5, rfl, r5', g5'⟩; have t5 := Lib.hid (t4.out.ref r5' g5' (dp_own _ _ _)); have e5 := Lib.hid (e4.out.ref g5'); rw [← HER.out]; clear r5' g5')
              | (go_at_call 10; refine (num21_any _ _).mono ?_; rintro e w7 ⟨rfl, hw7⟩; rw [hw7]; clear hw7)
              | (go_at_call 11; refine (pwrite_any _ H cs st S pp ch vv now (HTV.out.later (Below.refl _ _).drew).h INOW.out).mono ?_; rintro e w4 ⟨S4, rfl, h4', g4'⟩; have t4 := Lib.hid ((HTV.out.later (Below.refl _ _).drew).prog h4' g4' (pro_own _ _ _)); have e4 := Lib.hid ((HEK.out.later (Below.refl _ _).drew).prog g4'); rw [← HER.out]; clear h4' g4')
              | fail "no arm")
            go_upto_region 25 with fail
            obtain ⟨wv, hwv⟩ : ∃ x, x = waV cs (wrS cs st pp ch vv now) ch := ⟨_, rfl⟩
            have HWV := Lib.hid hwv
            clear hwv
            go_region_held3 (fun W => W.cell? ⟨E, 2, none⟩ = some (.int .i64 ch))
              (first | exact (KS.out _ e9.out.k).2.1 | exact (KS.out _ e8.out.k).2.1 | exact (KS.out _ (e5.out.later (Below.refl _ _).drew).k).2.1 | fail "no")
              (first
              | (go_at_call 18; have _z := t8; refine (rwait_any _ H2 cs (wrS cs st pp ch vv now) _ ch t8.out.r).mono ?_; rintro e w9 ⟨rfl, h9'⟩; rw [← HWV.out]; have t9 := Lib.hid (t8.out.later h9'); have e9 := Lib.hid (e8.out.later h9'); clear h9')
              | (go_at_call 17; refine (pwait_any _ H cs (wrS cs st pp ch vv now) _ ch (t5.out.later (Below.refl _ _).drew).h).mono ?_; rintro e w8 ⟨rfl, h8'⟩; rw [← HWV.out]; have t8 := Lib.hid ((t5.out.later (Below.refl _ _).drew).later h8'); have e8 := Lib.hid ((e5.out.later (Below.refl _ _).drew).later h8'); clear h8')
              | fail "no arm")
            go_wp2_with fail
            go_roundw
            case rel => exact ⟨k + 1, _, _, _, by omega, by go_num, t9⟩
            case measure => simp [intOf]; omega
          | false =>
            go_upto_if 74 with fail
            go_cut [74] from 75 to 77 (fun s wx => s = .bool (isR kd) ∧ V = wx)
            case first =>
              by_cases q3 : kd = 3
              · subst q3
                go_wp2_with fail
                go_meet
                exact ⟨rfl, rfl⟩
              have f30 : (kd == 3) = false := by simpa using q3
              by_cases q4 : kd = 4
              · subst q4
                go_wp2_with fail
                go_meet
                exact ⟨rfl, rfl⟩
              have f40 : (kd == 4) = false := by simpa using q4
              by_cases q5 : kd = 5
              · subst q5
                go_wp2_with fail
                go_meet
                exact ⟨rfl, rfl⟩
              have f50 : (kd == 5) = false := by simpa using q5
              have hno : isR kd = false := by unfold isR; simp [q3, q4, q5]
              go_wp2_with fail
              go_meet
              exact ⟨by rw [hno], rfl⟩
            case rest =>
              obtain ⟨rfl, rfl⟩ := hcut
              cases hR : isR kd with
              | true =>
                obtain ⟨rv, hrv⟩ : ∃ x, x = rdV cs st pp ch := ⟨_, rfl⟩
                obtain ⟨rn, hrn⟩ : ∃ x, x = rdN cs st pp ch now := ⟨_, rfl⟩
                obtain ⟨re, hre⟩ : ∃ x, x = rdE cs st pp ch := ⟨_, rfl⟩
                have HRD := Lib.hid (And.intro hrv (And.intro hrn hre))
                clear hrv hrn hre
                go_upto_region 25 with (first
                  | (go_at_call 10; refine (num21_any _ _).mono ?_; rintro e w7 ⟨rfl, hw7⟩; rw [hw7]; clear hw7)
                  | (go_at_call 14; have _z := t4; refine (rread_any t4.out.r pp ch now HNOW.out).mono ?_; rintro e w5 ⟨R5, rfl, r5', g5'⟩; have t5 := Lib.hid (t4.out.ref r5' g5' (dp_own _ _ _)); have e5 := Lib.hid (e4.out.ref g5'); rw [← HRD.out.1, ← HRD.out.2.1, ← HRD.out.2.2]; clear r5' g5')
                  | (go_at_call 13; refine (pread_any _ H cs st S pp ch now HTV.out.h INOW.out HZ.out).mono ?_; rintro e w4 ⟨S4, rfl, h4', g4'⟩; have t4 := Lib.hid (HTV.out.prog h4' g4' (pro_own _ _ _)); have e4 := Lib.hid (HEK.out.prog g4'); obtain ⟨m1, m2, m3, m4⟩ := KS.out _ e4.out.k; rw [← HRD.out.1, ← HRD.out.2.1, ← HRD.out.2.2]; clear h4' g4')
                  | fail "no arm")
                go_upto_region 25 with fail
                obtain ⟨wv, hwv⟩ : ∃ x, x = waV cs (rdS cs st pp ch) ch := ⟨_, rfl⟩
                have HWV := Lib.hid hwv
                clear hwv
                go_region_held3 (fun W => W.cell? ⟨E, 2, none⟩ = some (.int .i64 ch))
                  (first | exact (KS.out _ e9.out.k).2.1 | exact (KS.out _ e8.out.k).2.1 | exact (KS.out _ (e5.out.later (Below.refl _ _).drew).k).2.1 | fail "no")
                  (first
                  | (go_at_call 18; have _z := t8; refine (rwait_any _ H2 cs (rdS cs st pp ch) _ ch t8.out.r).mono ?_; rintro e w9 ⟨rfl, h9'⟩; rw [← HWV.out]; have t9 := Lib.hid (t8.out.later h9'); have e9 := Lib.hid (e8.out.later h9'); clear h9')
                  | (go_at_call 17; refine (pwait_any _ H cs (rdS cs st pp ch) _ ch (t5.out.later (Below.refl _ _).drew).h).mono ?_; rintro e w8 ⟨rfl, h8'⟩; rw [← HWV.out]; have t8 := Lib.hid ((t5.out.later (Below.refl _ _).drew).later h8'); have e8 := Lib.hid ((e5.out.later (Below.refl _ _).drew).later h8'); clear h8')
                  | fail "no arm")
                go_wp2_with fail
                go_roundw
                case rel => exact ⟨k + 1, _, _, _, by omega, by go_num, t9⟩
                case measure => simp [intOf]; omega
              | false =>
                by_cases q6 : kd = 6
                · subst q6
                  go_upto_region 25 with (first
                    | (go_at_call 16; have _z := t4; refine (rclear_any _ H2 cs st R pp t4.out.r (by rw [HN.out]; omega)).mono ?_; rintro e w5 ⟨R5, rfl, r5', g5'⟩; have t5 := Lib.hid (t4.out.ref r5' g5' (dp_own _ _ _)); have e5 := Lib.hid (e4.out.ref g5'); clear r5' g5')
                    | (go_at_call 15; refine (pclear_any _ H cs st S pp HTV.out.h (by rw [HN.out]; omega)).mono ?_; rintro e w4 ⟨S4, rfl, h4', g4'⟩; have t4 := Lib.hid (HTV.out.prog h4' g4' (pro_own _ _ _)); have e4 := Lib.hid (HEK.out.prog g4'); obtain ⟨m1, m2, m3, m4⟩ := KS.out _ e4.out.k; clear h4' g4')
                    | fail "no arm")
                  go_upto_region 25 with fail
                  obtain ⟨wv, hwv⟩ : ∃ x, x = waV cs (clS cs st pp cs.length) ch := ⟨_, rfl⟩
                  have HWV := Lib.hid hwv
                  clear hwv
                  go_region_held3 (fun W => W.cell? ⟨E, 2, none⟩ = some (.int .i64 ch))
                    (first | exact (KS.out _ e9.out.k).2.1 | exact (KS.out _ e8.out.k).2.1 | exact (KS.out _ (e5.out.later (Below.refl _ _).drew).k).2.1 | fail "no")
                    (first
                    | (go_at_call 18; have _z := t8; refine (rwait_any _ H2 cs (clS cs st pp cs.length) _ ch t8.out.r).mono ?_; rintro e w9 ⟨rfl, h9'⟩; rw [← HWV.out]; have t9 := Lib.hid (t8.out.later h9'); have e9 := Lib.hid (e8.out.later h9'); clear h9')
                    | (go_at_call 17; refine (pwait_any _ H cs (clS cs st pp cs.length) _ ch (t5.out.later (Below.refl _ _).drew).h).mono ?_; rintro e w8 ⟨rfl, h8'⟩; rw [← HWV.out]; have t8 := Lib.hid ((t5.out.later (Below.refl _ _).drew).later h8'); have e8 := Lib.hid ((e5.out.later (Below.refl _ _).drew).later h8'); clear h8')
                    | fail "no arm")
                  go_wp2_with fail
                  go_roundw
                  case rel => exact ⟨k + 1, _, _, _, by omega, by go_num, t9⟩
                  case measure => simp [intOf]; omega
                have f60 : (kd == 6) = false := by simpa using q6
                go_upto_region 25 with fail
                obtain ⟨wv, hwv⟩ : ∃ x, x = waV cs st ch := ⟨_, rfl⟩
                have HWV := Lib.hid hwv
                clear hwv
                go_region_held3 (fun W => W.cell? ⟨E, 2, none⟩ = some (.int .i64 ch))
                  (first | exact (KS.out _ e9.out.k).2.1 | exact (KS.out _ e8.out.k).2.1 | exact (KS.out _ (HEK.out.later (Below.refl _ _).drew).k).2.1 | fail "no")
                  (first
                  | (go_at_call 18; have _z := t8; refine (rwait_any _ H2 cs st _ ch t8.out.r).mono ?_; rintro e w9 ⟨rfl, h9'⟩; rw [← HWV.out]; have t9 := Lib.hid (t8.out.later h9'); have e9 := Lib.hid (e8.out.later h9'); clear h9')
                  | (go_at_call 17; refine (pwait_any _ H cs st _ ch (HTV.out.later (Below.refl _ _).drew).h).mono ?_; rintro e w8 ⟨rfl, h8'⟩; rw [← HWV.out]; have t8 := Lib.hid ((HTV.out.later (Below.refl _ _).drew).later h8'); have e8 := Lib.hid ((HEK.out.later (Below.refl _ _).drew).later h8'); clear h8')
                  | fail "no arm")
                go_wp2_with fail
                go_roundw
                case rel => exact ⟨k + 1, _, _, _, by omega, by go_num, t9⟩
                case measure => simp [intOf]; omega
    · have d0 : decide ((k : Int) < (n1 : Int)) = false := decide_eq_false (by omega)
      go_wp2_with fail
      go_ret
      exact ⟨rfl, HT.out.b⟩
end Go.Proofs.Ytoebbbghllkdgaa
