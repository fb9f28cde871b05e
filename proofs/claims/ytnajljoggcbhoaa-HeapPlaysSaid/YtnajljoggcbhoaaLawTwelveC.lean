/- HeapPlays: the walk. -/
import Derived.Test.YtnajljoggcbhoaaHeapW
namespace Go.Proofs.Ytnajljoggcbhoaa
open Go.ChangeShapes Go.WideShapes Go.ChangeAt Go.RowKit
set_option linter.unusedVariables false

set_option maxRecDepth 100000 in
set_option maxHeartbeats 8000000 in
theorem HeapPlays_walk (room : Int) (a0 : Option Addr) (n0 c0 : Nat) (w : World) (l0 : List Wn) (hroom : I64 room) (hn0 : l0.length = n0) (hl0 : Lies w 0 w.heap.size (.slice a0 n0 c0) n0 3 (l0.flatMap Wn.cells)) (hi0 : ∀ x ∈ l0, x.In) :
    Calls Try.prog 3 #[.int .i64 room, .slice a0 n0 c0] w fun e w' => e = .returned (.bool true) ∧ Below w.heap.size w w' := by
  by_cases hbig : 150 < n0
  · exact HeapPlays_big room a0 n0 c0 w hbig
  have s0 : n0 ≤ 150 := by omega
  have t0 : decide ((150 : Int) < (n0 : Int)) = false := decide_eq_false (by omega)
  have HK := Lib.hid (knows12_any w)
  have KA := Lib.hid (acts_read hn0 hl0)
  clear hbig hn0 hl0 hi0 hroom
  go_enter Try.func3, Try.ntmps3
  go_wp2_with (first
    | (go_at_call 8; refine (rnew_any room _).mono ?_; rintro e w3 ⟨rfl, hr3', hb3'⟩; have hr3 := Lib.hid hr3'; have hb3 := Lib.hid hb3'; clear hr3' hb3')
    | (go_at_call 7; refine (hnew_any room _).mono ?_; rintro e w2 ⟨hi', H, W, X, rfl, hh2', hb2'⟩; have hh2 := Lib.hid hh2'; have hb2 := Lib.hid hb2'; clear hh2' hb2')
    | (go_at_call 6; refine HK.out.mono ?_; rintro e w1 ⟨rfl, hb1'⟩; have hb1 := Lib.hid hb1'; clear hb1')
    | fail "no arm")
  obtain ⟨r, hr⟩ : ∃ r, r = (min (max room 0) 1024).toNat := ⟨_, rfl⟩
  obtain ⟨lo, hlo⟩ : ∃ lo, lo = w1.heap.size := ⟨_, rfl⟩
  obtain ⟨rb, hrb⟩ : ∃ rb, rb = w2.heap.size := ⟨_, rfl⟩
  have hlow : w.heap.size ≤ lo := by rw [hlo]; exact hb1.out.size
  have hrbw : w.heap.size ≤ rb := by rw [hrb]; exact Nat.le_trans hb1.out.size hb2.out.size
  have hT3 : Two w3 lo hi' H W X r rb (fun _ => none) [] := by
    rw [hlo, hrb, hr]
    exact ⟨hh2.out.later hb3.out, hr3.out, Rep.nil, hh2.out.lo.2⟩
  have HT3 := Lib.hid hT3
  have HB3 : Hid (Below w.heap.size w w3) := Lib.hid ((hb1.out.trans (hb2.out.mono hb1.out.size)).trans (hb3.out.mono (Nat.le_trans hb1.out.size hb2.out.size)))
  rw [← hrb]
  clear hr hlo hrb hT3 hr3 hb3 hh2 hb2 hb1
  go_loopw [7] (fun s wr => ∃ (k : Nat) (D : Nat → Option Int) (R : List En), k ≤ n0 ∧ s = .int .i64 k ∧ Hid (Two wr lo hi' H W X r rb D R) ∧ Hid (Below w.heap.size w wr)) (fun s _ => n0 - (intOf s).toNat)
  case atStart => exact ⟨0, _, _, Nat.zero_le _, rfl, HT3, HB3⟩
  case round =>
    clear HT3 HB3
    obtain ⟨k, D, R, hk, rfl, HT, HB⟩ := hrel
    by_cases hlt : k < n0
    · have d0 : decide ((k : Int) < (n0 : Int)) = true := decide_eq_true (by omega)
      have d1 : (0 : Int) ≤ (k : Int) := by omega
      have d2 : (k : Int) < (n0 : Int) := by omega
      obtain ⟨b, off, kd, id, due, rfl, c0, c1, c2, hb⟩ := KA.out wr HB.out k hlt
      obtain ⟨V, hV⟩ : ∃ V, V = wr.alloc (.cells #[.int .i64 kd, .int .i64 id, .int .i64 due] 29) := ⟨_, rfl⟩
      obtain ⟨E, hE⟩ : ∃ E, E = wr.heap.size := ⟨_, rfl⟩
      have hEV : V.heap[E]? = some (.cells #[.int .i64 kd, .int .i64 id, .int .i64 due] 29 (0, 0)) := by rw [hV, hE]; exact heap_alloc_new _ _
      have hbwV : Below wr.heap.size wr V := by rw [hV]; exact below1 _ _
      have HTV : Hid (Two V lo hi' H W X r rb D R) := Lib.hid (HT.out.later hbwV)
      have HBV : Hid (Below w.heap.size w V) := Lib.hid (HB.out.trans (hbwV.mono HB.out.size))
      have HE1 : Hid (E < V.heap.size) := Lib.hid (lt_of_block hEV)
      have hrbE : rb < E := by rw [hE]; exact HT.out.r.lt
      have hiE : hi' ≤ E := by have := HT.out.rng; omega
      have hErb : E ≠ rb := by omega
      have KS : Hid (∀ Y : World, Y.heap[E]? = V.heap[E]? → Y.cell? ⟨E, 1, none⟩ = some (.int .i64 id) ∧ Y.cell? ⟨E, 2, none⟩ = some (.int .i64 due)) := Lib.hid (fun Y hY => ⟨cell_in (hY.trans hEV) rfl, cell_in (hY.trans hEV) rfl⟩)
      have HV := Lib.hid hV
      have HEE := Lib.hid hE
      clear hV hE hEV hbwV HB HT
      go_upto_block 2 with fail
      rw [← HV.out, ← HEE.out]
      clear c0 c1 c2 HV HEE
      obtain ⟨k1, k2⟩ := KS.out V rfl
      go_cut [9, 10, 11, 12, 13, 14, 15] from 49 to 121 (fun s _ _ _ _ _ _ wx => ∃ (D' : Nat → Option Int) (R' : List En), s = .bool true ∧ Hid (Two wx lo hi' H W X r rb D' R') ∧ Hid (Below w.heap.size w wx) ∧ Hid (wx.heap[E]? = V.heap[E]?))
      case first =>
        by_cases e0 : kd = 0
        · subst e0
          go_upto_region 13 with fail
          go_region_held3 (fun Y => Y.cell? ⟨E, 1, none⟩ = some (.int .i64 id) ∧ Y.cell? ⟨E, 2, none⟩ = some (.int .i64 due))
            (first | exact KS.out _ hk5.out | exact KS.out _ hk4.out | exact KS.out _ rfl | (go_split_ands; exact ⟨by assumption, by assumption⟩) | fail "no")
            (first
            | (go_at_call 11; have _z := h4; refine (rput_all _ r rb D R r4.out HTV.out.rep HTV.out.len id due).mono ?_; rintro e w5 ⟨R5, rfl, r5', p5', b5'⟩; have T5 := Lib.hid (Two.made h4.out r5' p5' b5' HTV.out.rng); have hk5 := Lib.hid ((b5'.block E hkz4.out (by omega)).trans hk4.out); have hb5 := Lib.hid (hb4.out.trans (b5'.below (B := w.heap.size) hrbw hb4.out.size)); clear r5' p5' b5')
            | (go_at_call 9; refine (num_any _ _).mono ?_; rintro e w7 ⟨rfl, hw7⟩; rw [hw7]; clear hw7)
            | (go_at_call 10; refine (hput_all _ lo hi' H W X r _ D (HTV.out.later (Below.refl _ _).drew).h id due).mono ?_; rintro e w4 ⟨n4, rfl, h4', m4'⟩; have h4 := Lib.hid h4'; have r4 := Lib.hid ((HTV.out.later (Below.refl _ _).drew).mv m4'); have hk4 := Lib.hid (m4'.above E hiE HE1.out); have hkz4 := Lib.hid (show E < w4.heap.size from Nat.lt_of_lt_of_le HE1.out m4'.below.size); have hb4 := Lib.hid ((HBV.out.drew).trans (m4'.below.mono hlow)); clear h4' m4')
            | fail "no arm")
          go_wp2_with fail
          go_meet
          case rel => exact ⟨_, R5, rfl, T5, hb5, hk5⟩
        · by_cases e1 : kd = 1
          · subst e1
            go_upto_region 13 with fail
            go_region_held3 (fun Y => Y.cell? ⟨E, 1, none⟩ = some (.int .i64 id) ∧ Y.cell? ⟨E, 2, none⟩ = some (.int .i64 due))
              (first | exact KS.out _ hk5.out | exact KS.out _ hk4.out | exact KS.out _ rfl | (go_split_ands; exact ⟨by assumption, by assumption⟩) | fail "no")
              (first
              | (go_at_call 11; have _z := h4; refine (rput_all _ r rb D R r4.out HTV.out.rep HTV.out.len id due).mono ?_; rintro e w5 ⟨R5, rfl, r5', p5', b5'⟩; have T5 := Lib.hid (Two.made h4.out r5' p5' b5' HTV.out.rng); have hk5 := Lib.hid ((b5'.block E hkz4.out (by omega)).trans hk4.out); have hb5 := Lib.hid (hb4.out.trans (b5'.below (B := w.heap.size) hrbw hb4.out.size)); clear r5' p5' b5')
              | (go_at_call 9; refine (num_any _ _).mono ?_; rintro e w7 ⟨rfl, hw7⟩; rw [hw7]; clear hw7)
              | (go_at_call 10; refine (hput_all _ lo hi' H W X r _ D (HTV.out.later (Below.refl _ _).drew).h id due).mono ?_; rintro e w4 ⟨n4, rfl, h4', m4'⟩; have h4 := Lib.hid h4'; have r4 := Lib.hid ((HTV.out.later (Below.refl _ _).drew).mv m4'); have hk4 := Lib.hid (m4'.above E hiE HE1.out); have hkz4 := Lib.hid (show E < w4.heap.size from Nat.lt_of_lt_of_le HE1.out m4'.below.size); have hb4 := Lib.hid ((HBV.out.drew).trans (m4'.below.mono hlow)); clear h4' m4')
              | fail "no arm")
            go_wp2_with fail
            go_meet
            case rel => exact ⟨_, R5, rfl, T5, hb5, hk5⟩
          · by_cases e2 : kd = 2
            · subst e2
              go_upto_region 15 with fail
              go_region_held3 (fun Y => Y.cell? ⟨E, 1, none⟩ = some (.int .i64 id) ∧ Y.cell? ⟨E, 2, none⟩ = some (.int .i64 due))
                (first | exact KS.out _ hk5.out | exact KS.out _ hk4.out | exact KS.out _ rfl | (go_split_ands; exact ⟨by assumption, by assumption⟩) | fail "no")
                (first
                | (go_at_call 13; have _z := h4; refine (rchange_all _ r rb D R r4.out HTV.out.rep HTV.out.len id due).mono ?_; rintro e w5 ⟨R5, rfl, r5', p5', b5'⟩; have T5 := Lib.hid (Two.made h4.out r5' p5' b5' HTV.out.rng); have hk5 := Lib.hid ((b5'.block E hkz4.out (by omega)).trans hk4.out); have hb5 := Lib.hid (hb4.out.trans (b5'.below (B := w.heap.size) hrbw hb4.out.size)); clear r5' p5' b5')
                | (go_at_call 9; refine (num_any _ _).mono ?_; rintro e w7 ⟨rfl, hw7⟩; rw [hw7]; clear hw7)
                | (go_at_call 12; refine (hchange_all _ lo hi' H W X r _ D (HTV.out.later (Below.refl _ _).drew).h id due).mono ?_; rintro e w4 ⟨n4, rfl, h4', m4'⟩; have h4 := Lib.hid h4'; have r4 := Lib.hid ((HTV.out.later (Below.refl _ _).drew).mv m4'); have hk4 := Lib.hid (m4'.above E hiE HE1.out); have hkz4 := Lib.hid (show E < w4.heap.size from Nat.lt_of_lt_of_le HE1.out m4'.below.size); have hb4 := Lib.hid ((HBV.out.drew).trans (m4'.below.mono hlow)); clear h4' m4')
                | fail "no arm")
              go_wp2_with fail
              go_meet
              case rel => exact ⟨_, R5, rfl, T5, hb5, hk5⟩
            · by_cases e3 : kd = 3
              · subst e3
                go_upto_region 17 with fail
                go_region_held3 (fun Y => Y.cell? ⟨E, 1, none⟩ = some (.int .i64 id) ∧ Y.cell? ⟨E, 2, none⟩ = some (.int .i64 due))
                  (first | exact KS.out _ hk5.out | exact KS.out _ hk4.out | exact KS.out _ rfl | (go_split_ands; exact ⟨by assumption, by assumption⟩) | fail "no")
                  (first
                  | (go_at_call 15; have _z := h4; refine (rremove_all _ r rb D R r4.out HTV.out.rep HTV.out.len id).mono ?_; rintro e w5 ⟨R5, rfl, r5', p5', b5'⟩; have T5 := Lib.hid (Two.made h4.out r5' p5' b5' HTV.out.rng); have hk5 := Lib.hid ((b5'.block E hkz4.out (by omega)).trans hk4.out); have hb5 := Lib.hid (hb4.out.trans (b5'.below (B := w.heap.size) hrbw hb4.out.size)); clear r5' p5' b5')
                  | (go_at_call 14; refine (hremove_all _ lo hi' H W X r _ D (HTV.out.later (Below.refl _ _).drew).h id).mono ?_; rintro e w4 ⟨n4, rfl, h4', m4'⟩; have h4 := Lib.hid h4'; have r4 := Lib.hid ((HTV.out.later (Below.refl _ _).drew).mv m4'); have hk4 := Lib.hid (m4'.above E hiE HE1.out); have hkz4 := Lib.hid (show E < w4.heap.size from Nat.lt_of_lt_of_le HE1.out m4'.below.size); have hb4 := Lib.hid ((HBV.out.drew).trans (m4'.below.mono hlow)); clear h4' m4')
                  | fail "no arm")
                go_wp2_with fail
                go_meet
                case rel => exact ⟨_, R5, rfl, T5, hb5, hk5⟩
              · have f0 : (kd == 0) = false := by simpa using e0
                have f1 : (kd == 1) = false := by simpa using e1
                have f2 : (kd == 2) = false := by simpa using e2
                have f3 : (kd == 3) = false := by simpa using e3
                by_cases e4 : kd = 4
                · subst e4
                  clear e0 e1 e2 e3 f0 f1 f2 f3
                  obtain ⟨u1, u2, u3, hu⟩ := fstV_eq R
                  have HU := Lib.hid hu
                  clear hu
                  go_wp2_with (first
                    | (go_at_call 17; have _z := h4; refine (rpop_all _ r rb D R r4.out HTV.out.rep HTV.out.len).mono ?_; rintro e w5 ⟨rfl, r5', p5', b5'⟩; rw [HU.out]; have T5 := Lib.hid (Two.made h4.out r5' p5' b5' HTV.out.rng); have hk5 := Lib.hid ((b5'.block E hkz4.out (by omega)).trans hk4.out); have hb5 := Lib.hid (hb4.out.trans (b5'.below (B := w.heap.size) hrbw hb4.out.size)); clear r5' p5' b5')
                    | (go_at_call 16; refine (hpop_all _ lo hi' H W X r _ D R HTV.out.h HTV.out.rep).mono ?_; rintro e w4 ⟨n4, rfl, h4', m4'⟩; rw [HU.out]; have h4 := Lib.hid h4'; have r4 := Lib.hid (HTV.out.mv m4'); have hk4 := Lib.hid (m4'.above E hiE HE1.out); have hkz4 := Lib.hid (show E < w4.heap.size from Nat.lt_of_lt_of_le HE1.out m4'.below.size); have hb4 := Lib.hid ((HBV.out).trans (m4'.below.mono hlow)); clear h4' m4')
                    | fail "no arm")
                  go_meet
                  case rel => exact ⟨_, _, by simp, T5, hb5, hk5⟩
                · have f4 : (kd == 4) = false := by simpa using e4
                  go_wp2_with fail
                  go_meet
                  case rel => exact ⟨D, R, rfl, HTV, HBV, Lib.hid rfl⟩
      case rest =>
        obtain ⟨D', R', rfl, HT2, HB2, HK2⟩ := hcut
        have hEx : E < wc.heap.size := lt_of_block (HK2.out.trans (Array.getElem?_eq_getElem HE1.out))
        have HKX : Hid (∀ Y, Below wc.heap.size wc Y → Y.cell? ⟨E, 1, none⟩ = some (.int .i64 id)) := Lib.hid (fun Y hY => (KS.out Y ((hY.block E hEx).trans HK2.out)).1)
        obtain ⟨u1, u2, u3, hu⟩ := fstV_eq R'
        have HU := Lib.hid hu
        obtain ⟨v1, hv1⟩ : ∃ v1, v1 = (Dv D' id).getD 0 := ⟨_, rfl⟩
        obtain ⟨v2, hv2⟩ : ∃ v2, v2 = (Dv D' id).isSome := ⟨_, rfl⟩
        have HVV := Lib.hid (And.intro hv1 hv2)
        clear hu hv1 hv2 HTV HBV k1 k2
        go_wp2_with (first
          | (go_at_call 21; have _z := hb6; refine (rdue_any _ rb r R' D' (HT2.out.later hb6.out).r HT2.out.rep id HT2.out.len).mono ?_; rintro e w7 ⟨rfl, hw7⟩; rw [hw7, ← HVV.out.1, ← HVV.out.2]; clear hw7)
          | (go_at_call 20; have _z := hb6; refine (hdue_any _ lo hi' H W X r _ D' (HT2.out.later hb6.out).h id).mono ?_; rintro e w7 ⟨rfl, hw7⟩; rw [hw7, ← HVV.out.1, ← HVV.out.2]; clear hw7)
          | (go_at_call 19; have _z := hb5; refine (rfirst_any _ rb r R' (HT2.out.later hb5.out).r HT2.out.len).mono ?_; rintro e w6 ⟨rfl, hb6'⟩; rw [HU.out]; have hb6 := Lib.hid (hb5.out.trans (hb6'.mono hb5.out.size)); have q6 := HKX.out _ hb6.out; clear hb6')
          | (go_at_call 18; refine (firstD_any _ lo hi' H W X r _ D' R' HT2.out.h HT2.out.rep).mono ?_; rintro e w5 ⟨rfl, hb5'⟩; rw [HU.out]; have hb5 := Lib.hid hb5'; clear hb5')
          | fail "no arm")
        obtain ⟨ao, cap, x1, x2⟩ := (HT2.out.later hb6.out).r.is
        obtain ⟨n, hn⟩ : ∃ n, n = R'.length := ⟨_, rfl⟩
        rw [← hn] at x1
        have HN := Lib.hid hn
        have X1 := Lib.hid x1
        have X2 := Lib.hid x2
        have KR : Hid (∀ Y, Below w6.heap.size w6 Y → Y.cell? ⟨rb, 1, none⟩ = some (.slice ao n cap)) := Lib.hid (fun Y hY => cell_in ((hY.block rb (lt_of_block X1.out)).trans X1.out) rfl)
        have HLN : Hid (∀ Y, Below w6.heap.size w6 Y → HpD Y lo hi' H W X r n D') := Lib.hid (fun Y hY => by rw [HN.out]; exact ((HT2.out.later hb6.out).later hY).h)
        have HS : Hid (n ≤ 1024) := Lib.hid (by rw [HN.out]; exact HT2.out.len)
        have z0 := KR.out w6 (Below.refl _ _)
        clear x1 x2 hn
        go_region_held3 (fun Y => Y.cell? ⟨rb, 1, none⟩ = some (.slice ao n cap))
          (first | exact KR.out _ hb9.out | exact KR.out _ hb8.out | exact KR.out _ (Below.refl _ _).drew | fail "no")
          (first
          | (go_at_call 23; have _z := hb8; refine (ids_any _ G n y hw8.out (rb + 1) R' ao cap (X2.out.keep (SameIn.of_below hb8.out (Nat.le_refl _)) hb8.out.size) HN.out HS.out hy8.out).mono ?_; rintro e w9 ⟨rfl, hb9'⟩; have hb9 := Lib.hid (hb8.out.trans (hb9'.mono hb8.out.size)); clear hb9')
          | (go_at_call 24; refine (allD_any _ lo hi' H W X r n D' R' (HLN.out _ (Below.refl _ _).drew) HT2.out.rep).mono ?_; rintro e w8 ⟨G, y, rfl, _, hw8', hy8', hb8'⟩; have hw8 := Lib.hid hw8'; have hy8 := Lib.hid hy8'; have hb8 := Lib.hid (((Below.refl w6.heap.size w6).drew).trans hb8'); clear hw8' hy8' hb8')
          | (go_at_call 22; refine (lenD_any _ lo hi' H W X r n D' (HLN.out _ (Below.refl _ _).drew)).mono ?_; rintro e w7 ⟨rfl, hw7⟩; rw [hw7]; clear hw7)
          | fail "no arm")
        go_wp2_with fail
        go_roundw
        case rel => exact ⟨k + 1, D', R', by omega, by go_num, Lib.hid (HT2.out.later (hb6.out.trans (hb9.out.mono hb6.out.size))), Lib.hid (HB2.out.trans ((hb6.out.trans (hb9.out.mono hb6.out.size)).mono HB2.out.size))⟩
        case measure => simp [intOf]; omega
    · have d0 : decide ((k : Int) < (n0 : Int)) = false := decide_eq_false (by omega)
      go_wp2_with fail
      go_ret
      exact ⟨rfl, HB.out⟩
end Go.Proofs.Ytnajljoggcbhoaa
