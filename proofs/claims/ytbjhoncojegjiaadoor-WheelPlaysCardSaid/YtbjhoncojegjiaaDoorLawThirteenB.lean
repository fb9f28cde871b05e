/- WheelPlays, out of the contracts: the walk. -/
import Derived.Test.YtbjhoncojegjiaaDoorWheelT
namespace Go.Proofs.YtbjhoncojegjiaaDoor
open Go.ChangeShapes Go.WideShapes Go.ChangeAt Go.RowKit
set_option linter.unusedVariables false

set_option maxRecDepth 100000 in
set_option maxHeartbeats 8000000 in
theorem WheelPlays_of (O : WheelOk) (start : Int) (a0 : Option Addr) (n0 c0 : Nat) (w : World) (hT : O.T w) (l0 : List Wn) (hstart : I64 start) (hn0 : l0.length = n0) (hl0 : Lies w 0 w.heap.size (.slice a0 n0 c0) n0 3 (l0.flatMap Wn.cells)) (hi0 : ∀ x ∈ l0, x.In) :
    Calls Tryd.prog 3 #[.int .i64 start, .slice a0 n0 c0] w fun e w' => e = .returned (.bool true) ∧ Below w.heap.size w w' := by
  have HK := Lib.hid (knows13_of O w hT)
  have HTT : Hid (∀ Y, Below w.heap.size w Y → O.T Y) := Lib.hid (fun Y hY => O.tlater hT hY)
  have HTU : Hid (∀ a b, w.heap.size ≤ a → w.heap.size ≤ b → ∀ A B, But2 a b A B → O.T A → O.T B) := Lib.hid (fun a b ha hb A B => O.tbut hT ha hb A B)
  clear hT
  by_cases hbig : 60 < n0
  · have t0 : decide ((60 : Int) < (n0 : Int)) = true := decide_eq_true (by omega)
    clear hbig hn0 hl0 hi0
    go_enter Tryd.func3, Tryd.ntmps3
    go_wp2_with (go_at_call 7; refine HK.out.mono ?_; rintro e w3 ⟨rfl, hb3⟩)
    go_ret
    exact ⟨rfl, hb3⟩
  have s0 : n0 ≤ 60 := by omega
  have t0 : decide ((60 : Int) < (n0 : Int)) = false := decide_eq_false (by omega)
  have KA := Lib.hid (acts13_read hn0 hl0)
  clear hbig hn0 hl0 hi0 hstart
  go_enter Tryd.func3, Tryd.ntmps3
  go_wp2_with (first
    | (go_at_call 9; refine (rnewW_any start _).mono ?_; rintro e w3 ⟨G, rfl, hG', hr3', hb3'⟩; have hG := Lib.hid hG'; have hr3 := Lib.hid hr3'; have hb3 := Lib.hid hb3'; clear hr3' hb3' hG')
    | (go_at_call 8; refine (O.new start _ (HTT.out _ hb1.out)).mono ?_; rintro e w2 ⟨H, S, rfl, hh2', hs2', hb2'⟩; have hh2 := Lib.hid hh2'; have hs2 := Lib.hid hs2'; have hb2 := Lib.hid hb2'; clear hh2' hb2' hs2')
    | (go_at_call 7; refine HK.out.mono ?_; rintro e w1 ⟨rfl, hb1'⟩; have hb1 := Lib.hid hb1'; clear hb1')
    | fail "no arm")
  obtain ⟨rb, hrb⟩ : ∃ rb, rb = w2.heap.size := ⟨_, rfl⟩
  have hrbw : w.heap.size ≤ rb := by rw [hrb]; exact Nat.le_trans hb1.out.size hb2.out.size
  have hGw : w.heap.size ≤ G := by have := hG.out; rw [← hrb] at this; omega
  have HTB : Hid (∀ A B, But2 rb G A B → O.T A → O.T B) := Lib.hid (HTU.out rb G hrbw hGw)
  have HT3 : Hid (TwoW O w3 H S rb G (min (max start 0) 4611686018427387904) (fun _ => -1)) := Lib.hid (by
    have e1 := O.lt hh2.out
    have e2 := hG.out
    rw [hrb]
    exact ⟨O.later hh2.out hb3.out, hr3.out, fun h => by have := e1 _ h; omega, fun h => by have := e1 _ h; omega, ⟨by omega, by omega⟩, by rw [← hrb]; exact HTB.out⟩)
  have HS3 : Hid (∀ k, S k → w.heap.size ≤ k) := Lib.hid (fun k hk => Nat.le_trans hb1.out.size (hs2.out k hk))
  have HB3 : Hid (Below w.heap.size w w3) := Lib.hid ((hb1.out.trans (hb2.out.mono hb1.out.size)).trans (hb3.out.mono (Nat.le_trans hb1.out.size hb2.out.size)))
  rw [← hrb]
  clear hrb hG hr3 hb3 hh2 hb2 hb1 hs2
  go_loopw [7] (fun s wr => ∃ (k : Nat) (S : Nat → Prop) (now : Int) (x : Nat → Int), k ≤ n0 ∧ s = .int .i64 k ∧ Hid (TwoW O wr H S rb G now x) ∧ Hid (∀ k, S k → w.heap.size ≤ k) ∧ Hid (Below w.heap.size w wr)) (fun s _ => n0 - (intOf s).toNat)
  case atStart => exact ⟨0, _, _, _, Nat.zero_le _, rfl, HT3, HS3, HB3⟩
  case round =>
    clear HT3 HB3 HS3
    obtain ⟨k, S, now, x, hk, rfl, HT, HSB, HB⟩ := hrel
    by_cases hlt : k < n0
    · have d0 : decide ((k : Int) < (n0 : Int)) = true := decide_eq_true (by omega)
      have d1 : (0 : Int) ≤ (k : Int) := by omega
      have d2 : (k : Int) < (n0 : Int) := by omega
      obtain ⟨b, off, kd, id, due, rfl, c0, c1, c2, hb⟩ := KA.out wr HB.out k hlt
      obtain ⟨V, hV⟩ : ∃ V, V = wr.alloc (.cells #[.int .i64 kd, .int .i64 id, .int .i64 due] 29) := ⟨_, rfl⟩
      obtain ⟨E, hE⟩ : ∃ E, E = wr.heap.size := ⟨_, rfl⟩
      have hEV : V.heap[E]? = some (.cells #[.int .i64 kd, .int .i64 id, .int .i64 due] 29 (0, 0)) := by rw [hV, hE]; exact heap_alloc_new _ _
      have hbwV : Below wr.heap.size wr V := by rw [hV]; exact below1 _ _
      have HTV : Hid (∀ Y, Below V.heap.size V Y → TwoW O Y H S rb G now x) := Lib.hid (fun Y hY => (HT.out.later hbwV).later hY)
      have HBV : Hid (Below w.heap.size w V) := Lib.hid (HB.out.trans (hbwV.mono HB.out.size))
      have HE1 : Hid (E < V.heap.size) := Lib.hid (lt_of_block hEV)
      have hrl := HT.out.r.lt
      have HES : Hid (¬ S E) := Lib.hid (fun h => by have := O.lt HT.out.h E h; omega)
      have hErb : E ≠ rb := by omega
      have hEG : E ≠ G := by omega
      have HNB : Hid (0 ≤ now ∧ now ≤ 4611686018427387904) := Lib.hid HT.out.b
      have KN : Hid (∀ Y, Below V.heap.size V Y → Y.cell? ⟨rb, 0, none⟩ = some (.int .i64 now)) := Lib.hid (fun Y hY => by
        obtain ⟨cap, hb9⟩ := ((HT.out.later hbwV).later hY).r.box
        exact cell_in hb9 rfl)
      have KS : Hid (∀ Y : World, Y.heap[E]? = V.heap[E]? → Y.cell? ⟨E, 1, none⟩ = some (.int .i64 id) ∧ Y.cell? ⟨E, 2, none⟩ = some (.int .i64 due)) := Lib.hid (fun Y hY => ⟨cell_in (hY.trans hEV) rfl, cell_in (hY.trans hEV) rfl⟩)
      have HV := Lib.hid hV
      have HEE := Lib.hid hE
      clear hV hE hEV hbwV HB HT hrl
      go_upto_block 2 with fail
      rw [← HV.out, ← HEE.out]
      clear c0 c1 c2 HV HEE
      obtain ⟨k1, k2⟩ := KS.out V rfl
      go_cut [9, 10] from 39 to 108 (fun _ _ wx => ∃ (S' : Nat → Prop) (now' : Int) (x' : Nat → Int), Hid (TwoW O wx H S' rb G now' x') ∧ Hid (∀ k, S' k → w.heap.size ≤ k) ∧ Hid (Below w.heap.size w wx) ∧ Hid (wx.heap[E]? = V.heap[E]?))
      case first =>
        by_cases e0 : kd = 0
        · subst e0
          go_upto_region 12 with fail
          obtain ⟨tt, htt⟩ : ∃ tt, tt = now + min (max due 0) 2305843009213693952 := ⟨_, rfl⟩
          have HTT := Lib.hid htt
          go_cut [9] from 42 to 50 (fun s wx => s = .int .i64 tt ∧ Hid (Below V.heap.size V wx))
          case first =>
            have q0 := KN.out _ (Below.refl _ _)
            obtain ⟨nb0, nb1⟩ := HNB.out
            rcases (show (due < 0 ∧ tt = now) ∨ (0 ≤ due ∧ due ≤ 2305843009213693952 ∧ tt = now + due) ∨ (2305843009213693952 < due ∧ tt = now + 2305843009213693952) by omega) with ⟨g1, g3⟩ | ⟨g1, g2, g3⟩ | ⟨g1, g3⟩
            all_goals
              have G3 := Lib.hid g3
              clear g3 htt
              go_region
              go_wp2_with fail
              go_meet
              case rel => exact ⟨by rw [G3.out], Lib.hid (Below.refl _ _).drew⟩
          case rest =>
            clear htt
            obtain ⟨rfl, HWC⟩ := hcut
            have hkc := Lib.hid (HWC.out.block E HE1.out)
            go_upto_region 13 with fail
            go_region_held3 (fun Y => Y.cell? ⟨E, 1, none⟩ = some (.int .i64 id) ∧ Y.cell? ⟨E, 2, none⟩ = some (.int .i64 due))
              (first | exact KS.out _ hk5.out | exact KS.out _ hk4.out | exact KS.out _ hkc.out | fail "no")
              (first
              | (go_at_call 12; have _z := h4; refine (rset_any _ rb G now _ r4.out.1 id tt).mono ?_; rintro e w5 ⟨rfl, r5', b5'⟩; have T5 := Lib.hid (TwoW.made h4.out r4.out.2.1 r4.out.2.2 b5' r5' HNB.out HTB.out); have hk5 := Lib.hid ((b5'.block E hkz4.out hErb hEG).trans hk4.out); have hb5 := Lib.hid (hb4.out.1.trans (b5'.belowH (B := w.heap.size) hrbw hGw hb4.out.1.size)); clear r5' b5')
              | (go_at_call 10; refine (num13_any _ _).mono ?_; rintro e w7 ⟨rfl, hw7⟩; rw [hw7]; clear hw7)
              | (go_at_call 11; refine (O.set _ H S now x id tt (HTV.out _ HWC.out.drew).h).mono ?_; rintro e w4 ⟨S4, rfl, h4', g4'⟩; have h4 := Lib.hid h4'; have r4 := Lib.hid ((HTV.out _ HWC.out.drew).grow g4'); have hk4 := Lib.hid ((g4'.block E (Nat.lt_of_lt_of_le HE1.out (HWC.out.drew).size) HES.out).trans hkc.out); have hkz4 := Lib.hid (show E < w4.heap.size from Nat.lt_of_lt_of_le (Nat.lt_of_lt_of_le HE1.out (HWC.out.drew).size) g4'.size); have hb4 := Lib.hid (show Below w.heap.size w w4 ∧ ∀ k, S4 k → w.heap.size ≤ k from (by have hv := HBV.out.trans ((HWC.out.drew).mono HBV.out.size); have h9 := g4'.below HSB.out hv.size; exact ⟨hv.trans h9.1, h9.2⟩)); clear h4' g4')
              | fail "no arm")
            go_wp2_with fail
            go_meet
            case rel => exact ⟨S4, now, _, T5, Lib.hid hb4.out.2, hb5, hk5⟩
        · by_cases e1 : kd = 1
          · subst e1
            go_upto_region 12 with fail
            obtain ⟨tt, htt⟩ : ∃ tt, tt = now + min (max due 0) 2305843009213693952 := ⟨_, rfl⟩
            have HTT := Lib.hid htt
            go_cut [9] from 42 to 50 (fun s wx => s = .int .i64 tt ∧ Hid (Below V.heap.size V wx))
            case first =>
              have q0 := KN.out _ (Below.refl _ _)
              obtain ⟨nb0, nb1⟩ := HNB.out
              rcases (show (due < 0 ∧ tt = now) ∨ (0 ≤ due ∧ due ≤ 2305843009213693952 ∧ tt = now + due) ∨ (2305843009213693952 < due ∧ tt = now + 2305843009213693952) by omega) with ⟨g1, g3⟩ | ⟨g1, g2, g3⟩ | ⟨g1, g3⟩
              all_goals
                have G3 := Lib.hid g3
                clear g3 htt
                go_region
                go_wp2_with fail
                go_meet
                case rel => exact ⟨by rw [G3.out], Lib.hid (Below.refl _ _).drew⟩
            case rest =>
              clear htt
              obtain ⟨rfl, HWC⟩ := hcut
              have hkc := Lib.hid (HWC.out.block E HE1.out)
              go_upto_region 13 with fail
              go_region_held3 (fun Y => Y.cell? ⟨E, 1, none⟩ = some (.int .i64 id) ∧ Y.cell? ⟨E, 2, none⟩ = some (.int .i64 due))
                (first | exact KS.out _ hk5.out | exact KS.out _ hk4.out | exact KS.out _ hkc.out | fail "no")
                (first
                | (go_at_call 12; have _z := h4; refine (rset_any _ rb G now _ r4.out.1 id tt).mono ?_; rintro e w5 ⟨rfl, r5', b5'⟩; have T5 := Lib.hid (TwoW.made h4.out r4.out.2.1 r4.out.2.2 b5' r5' HNB.out HTB.out); have hk5 := Lib.hid ((b5'.block E hkz4.out hErb hEG).trans hk4.out); have hb5 := Lib.hid (hb4.out.1.trans (b5'.belowH (B := w.heap.size) hrbw hGw hb4.out.1.size)); clear r5' b5')
                | (go_at_call 10; refine (num13_any _ _).mono ?_; rintro e w7 ⟨rfl, hw7⟩; rw [hw7]; clear hw7)
                | (go_at_call 11; refine (O.set _ H S now x id tt (HTV.out _ HWC.out.drew).h).mono ?_; rintro e w4 ⟨S4, rfl, h4', g4'⟩; have h4 := Lib.hid h4'; have r4 := Lib.hid ((HTV.out _ HWC.out.drew).grow g4'); have hk4 := Lib.hid ((g4'.block E (Nat.lt_of_lt_of_le HE1.out (HWC.out.drew).size) HES.out).trans hkc.out); have hkz4 := Lib.hid (show E < w4.heap.size from Nat.lt_of_lt_of_le (Nat.lt_of_lt_of_le HE1.out (HWC.out.drew).size) g4'.size); have hb4 := Lib.hid (show Below w.heap.size w w4 ∧ ∀ k, S4 k → w.heap.size ≤ k from (by have hv := HBV.out.trans ((HWC.out.drew).mono HBV.out.size); have h9 := g4'.below HSB.out hv.size; exact ⟨hv.trans h9.1, h9.2⟩)); clear h4' g4')
                | fail "no arm")
              go_wp2_with fail
              go_meet
              case rel => exact ⟨S4, now, _, T5, Lib.hid hb4.out.2, hb5, hk5⟩
          · by_cases e2 : kd = 2
            · subst e2
              go_upto_region 16 with fail
              go_region_held3 (fun Y => Y.cell? ⟨E, 1, none⟩ = some (.int .i64 id) ∧ Y.cell? ⟨E, 2, none⟩ = some (.int .i64 due))
                (first | exact KS.out _ hk5.out | exact KS.out _ hk4.out | exact KS.out _ rfl | fail "no")
                (first
                | (go_at_call 12; have _z := h4; refine (rset_any _ rb G now _ r4.out.1 id due).mono ?_; rintro e w5 ⟨rfl, r5', b5'⟩; have T5 := Lib.hid (TwoW.made h4.out r4.out.2.1 r4.out.2.2 b5' r5' HNB.out HTB.out); have hk5 := Lib.hid ((b5'.block E hkz4.out hErb hEG).trans hk4.out); have hb5 := Lib.hid (hb4.out.1.trans (b5'.belowH (B := w.heap.size) hrbw hGw hb4.out.1.size)); clear r5' b5')
                | (go_at_call 10; refine (num13_any _ _).mono ?_; rintro e w7 ⟨rfl, hw7⟩; rw [hw7]; clear hw7)
                | (go_at_call 11; refine (O.set _ H S now x id due (HTV.out _ ((Below.refl V.heap.size V).drew)).h).mono ?_; rintro e w4 ⟨S4, rfl, h4', g4'⟩; have h4 := Lib.hid h4'; have r4 := Lib.hid ((HTV.out _ ((Below.refl V.heap.size V).drew)).grow g4'); have hk4 := Lib.hid ((g4'.block E (Nat.lt_of_lt_of_le HE1.out ((Below.refl V.heap.size V).drew).size) HES.out)); have hkz4 := Lib.hid (show E < w4.heap.size from Nat.lt_of_lt_of_le (Nat.lt_of_lt_of_le HE1.out ((Below.refl V.heap.size V).drew).size) g4'.size); have hb4 := Lib.hid (show Below w.heap.size w w4 ∧ ∀ k, S4 k → w.heap.size ≤ k from (by have hv := HBV.out.trans (((Below.refl V.heap.size V).drew).mono HBV.out.size); have h9 := g4'.below HSB.out hv.size; exact ⟨hv.trans h9.1, h9.2⟩)); clear h4' g4')
                | fail "no arm")
              go_wp2_with fail
              go_meet
              case rel => exact ⟨S4, now, _, T5, Lib.hid hb4.out.2, hb5, hk5⟩
            · by_cases e3 : kd = 3
              · subst e3
                go_upto_region 19 with fail
                go_region_held3 (fun Y => Y.cell? ⟨E, 1, none⟩ = some (.int .i64 id) ∧ Y.cell? ⟨E, 2, none⟩ = some (.int .i64 due))
                  (first | exact KS.out _ hk5.out | exact KS.out _ hk4.out | exact KS.out _ rfl | fail "no")
                  (first
                  | (go_at_call 14; have _z := h4; refine (rcancel_any _ rb G now _ r4.out.1 id).mono ?_; rintro e w5 ⟨rfl, r5', b5'⟩; have T5 := Lib.hid (TwoW.made h4.out r4.out.2.1 r4.out.2.2 b5' r5' HNB.out HTB.out); have hk5 := Lib.hid ((b5'.block E hkz4.out hErb hEG).trans hk4.out); have hb5 := Lib.hid (hb4.out.1.trans (b5'.belowH (B := w.heap.size) hrbw hGw hb4.out.1.size)); clear r5' b5')
                  | (go_at_call 13; refine (O.cancel _ H S now x id (HTV.out _ ((Below.refl V.heap.size V).drew)).h).mono ?_; rintro e w4 ⟨S4, rfl, h4', g4'⟩; have h4 := Lib.hid h4'; have r4 := Lib.hid ((HTV.out _ ((Below.refl V.heap.size V).drew)).grow g4'); have hk4 := Lib.hid ((g4'.block E (Nat.lt_of_lt_of_le HE1.out ((Below.refl V.heap.size V).drew).size) HES.out)); have hkz4 := Lib.hid (show E < w4.heap.size from Nat.lt_of_lt_of_le (Nat.lt_of_lt_of_le HE1.out ((Below.refl V.heap.size V).drew).size) g4'.size); have hb4 := Lib.hid (show Below w.heap.size w w4 ∧ ∀ k, S4 k → w.heap.size ≤ k from (by have hv := HBV.out.trans (((Below.refl V.heap.size V).drew).mono HBV.out.size); have h9 := g4'.below HSB.out hv.size; exact ⟨hv.trans h9.1, h9.2⟩)); clear h4' g4')
                  | fail "no arm")
                go_wp2_with fail
                go_meet
                case rel => exact ⟨S4, now, _, T5, Lib.hid hb4.out.2, hb5, hk5⟩
              · have f0 : (kd == 0) = false := by simpa using e0
                have f1 : (kd == 1) = false := by simpa using e1
                have f2 : (kd == 2) = false := by simpa using e2
                have f3 : (kd == 3) = false := by simpa using e3
                by_cases e4 : kd = 4
                · subst e4
                  clear e0 e1 e2 e3
                  go_wp2_with fail
                  go_loopw [10] (fun s wq => ∃ (k : Nat) (S' : Nat → Prop) (now' : Int) (x' : Nat → Int), k ≤ 600 ∧ s = .int .i64 k ∧ Hid (TwoW O wq H S' rb G now' x') ∧ Hid (∀ k, S' k → w.heap.size ≤ k) ∧ Hid (Below w.heap.size w wq) ∧ Hid (wq.heap[E]? = V.heap[E]?) ∧ Hid (¬ S' E)) (fun s _ => 600 - (intOf s).toNat)
                  case atStart => exact ⟨0, S, now, x, by omega, rfl, Lib.hid (HTV.out _ (Below.refl _ _)), HSB, HBV, Lib.hid rfl, HES⟩
                  case round =>
                    obtain ⟨q, S', now', x', hq, rfl, HT1, HS1, HB1, HK1, HES1⟩ := hrel
                    have q2 := (KS.out _ HK1.out).2
                    by_cases g1 : (q : Int) < due
                    · have f1 : decide ((q : Int) < due) = true := decide_eq_true g1
                      by_cases g2 : q < 600
                      · have f2 : decide ((q : Int) < 600) = true := decide_eq_true (by omega)
                        have hEw : E < wr.heap.size := lt_of_block (HK1.out.trans (Array.getElem?_eq_getElem HE1.out))
                        have hrbr := HT1.out.r.lt
                        by_cases hend : now' = 4611686018427387904
                        · have HEND := Lib.hid hend
                          clear hend
                          go_wp2_with (first
                            | (go_at_call 15; have _z := b5; refine (ints13_any _ ao none 0 cap 0 [] [] (none_lies _ _ _ hac5) (none_lies _ _ _ (fun _ => rfl)) rfl rfl (by omega)).mono ?_; rintro e w7 ⟨rfl, hb7'⟩; have hb7 := Lib.hid hb7'; clear hb7')
                            | (go_at_call 17; have _z := b5; refine (rgo_end _ rb G x' (by have h9 := r5.out.1; rwa [HEND.out] at h9)).mono ?_; rintro e w6 ⟨rfl, hw6⟩; rw [hw6]; clear hw6)
                            | (go_at_call 16; refine (O.goEnd _ H S' x' (by have h9 := HT1.out.h; rwa [HEND.out] at h9)).mono ?_; rintro e w5 ⟨S5, ao, cap, rfl, hac5, h5', g5'⟩; rw [← HEND.out] at h5'; have h5 := Lib.hid h5'; have r5 := Lib.hid (HT1.out.grow g5'); have k5 := Lib.hid ((g5'.block E hEw HES1.out).trans HK1.out); have e5 := Lib.hid (g5'.not hEw HES1.out); have b5 := Lib.hid (show Below w.heap.size w w5 ∧ ∀ k, S5 k → w.heap.size ≤ k from ⟨HB1.out.trans (g5'.below HS1.out HB1.out.size).1, (g5'.below HS1.out HB1.out.size).2⟩); clear h5' g5')
                            | fail "no arm")
                          go_roundw
                          case rel => exact ⟨q + 1, S5, now', x', by omega, by go_num, Lib.hid (TwoW.later ⟨h5.out, r5.out.1, r5.out.2.1, r5.out.2.2, HT1.out.b, HTB.out⟩ hb7.out), Lib.hid b5.out.2, Lib.hid (b5.out.1.trans (hb7.out.mono b5.out.1.size)), Lib.hid ((hb7.out.block E (lt_of_block (k5.out.trans (Array.getElem?_eq_getElem HE1.out)))).trans k5.out), e5⟩
                          case measure => simp [intOf]; omega
                        · have hlt' : now' < 4611686018427387904 := by have := HT1.out.b; omega
                          have HLT := Lib.hid hlt'
                          obtain ⟨L, hL⟩ : ∃ L, L = goL x' (now' + 1) 256 := ⟨_, rfl⟩
                          have hLs : L.length ≤ 256 := by rw [hL]; exact goL_len _ _ _
                          have CG0 := O.go _ H S' now' x' HT1.out.h hlt'
                          have CR0 := fun (Y : World) (hY : RWh Y rb G now' x') => rgo_any Y rb G now' x' hY HT1.out.b.1 hlt'
                          rw [← hL] at CG0 CR0
                          have CG := Lib.hid CG0
                          have CR := Lib.hid CR0
                          clear CG0 CR0 hend hlt' hL
                          obtain ⟨m, hm⟩ : ∃ m, m = L.length := ⟨_, rfl⟩
                          rw [← hm] at hLs
                          have HM := Lib.hid hm
                          clear hm
                          go_wp2_with (first
                            | (go_at_call 15; have _z := b6; refine (ints13_any _ ao ao2 m cap cap2 L L (L5.out.wider (Nat.zero_le _) (Nat.le_refl _)) (L6.out.wider (Nat.zero_le _) (Nat.le_refl _)) rfl HM.out.symm (by omega)).mono ?_; rintro e w7 ⟨rfl, hb7'⟩; have hb7 := Lib.hid hb7'; clear hb7')
                            | (go_at_call 17; have _z := b5; refine (CR.out _ r5.out.1).mono ?_; rintro e w6 ⟨ao2, cap2, rfl, o6, r6', c6'⟩; rw [← HM.out] at o6 ⊢; have T6 := Lib.hid (TwoW.made h5.out r5.out.2.1 r5.out.2.2 c6' r6' ⟨by have := HT1.out.b; omega, by have := HLT.out; omega⟩ HTB.out); have L6 := Lib.hid (Lies.of_owns o6); have L5 := Lib.hid ((l5.out.keep (fun b k1 k2 => c6'.block b k2 (by omega) (by omega))).wider (lo' := 0) (hi' := w6.heap.size) (Nat.zero_le _) c6'.size); have k6 := Lib.hid ((c6'.block E (lt_of_block (k5.out.trans (Array.getElem?_eq_getElem HE1.out))) hErb hEG).trans k5.out); have b6 := Lib.hid (b5.out.1.trans (c6'.belowH hrbw hGw b5.out.1.size)); clear o6 r6' c6')
                            | (go_at_call 16; refine CG.out.mono ?_; rintro e w5 ⟨S5, ao, cap, rfl, l5', h5', g5'⟩; rw [← HM.out] at l5' ⊢; have l5 := Lib.hid l5'; have h5 := Lib.hid h5'; have r5 := Lib.hid (HT1.out.grow g5'); have k5 := Lib.hid ((g5'.block E hEw HES1.out).trans HK1.out); have e5 := Lib.hid (g5'.not hEw HES1.out); have b5 := Lib.hid (show Below w.heap.size w w5 ∧ ∀ k, S5 k → w.heap.size ≤ k from ⟨HB1.out.trans (g5'.below HS1.out HB1.out.size).1, (g5'.below HS1.out HB1.out.size).2⟩); clear l5' h5' g5')
                            | fail "no arm")
                          go_roundw
                          case rel => exact ⟨q + 1, S5, now' + 1, _, by omega, by go_num, Lib.hid (T6.out.later hb7.out), Lib.hid b5.out.2, Lib.hid (b6.out.trans (hb7.out.mono b6.out.size)), Lib.hid ((hb7.out.block E (lt_of_block (k6.out.trans (Array.getElem?_eq_getElem HE1.out)))).trans k6.out), e5⟩
                          case measure => simp [intOf]; omega
                      · have f2 : decide ((q : Int) < 600) = false := decide_eq_false (by omega)
                        go_wp2_with fail
                        go_meet
                        case rel => exact ⟨S', now', x', HT1, HS1, HB1, HK1⟩
                    · have f1 : decide ((q : Int) < due) = false := decide_eq_false g1
                      go_wp2_with fail
                      go_meet
                      case rel => exact ⟨S', now', x', HT1, HS1, HB1, HK1⟩
                · by_cases e5 : kd = 5
                  · subst e5
                    clear e0 e1 e2 e3
                    go_wp2_with fail
                    go_loopw [10] (fun s wq => ∃ (k : Nat) (S' : Nat → Prop) (now' : Int) (x' : Nat → Int), k ≤ 600 ∧ s = .int .i64 k ∧ Hid (TwoW O wq H S' rb G now' x') ∧ Hid (∀ k, S' k → w.heap.size ≤ k) ∧ Hid (Below w.heap.size w wq) ∧ Hid (wq.heap[E]? = V.heap[E]?) ∧ Hid (¬ S' E)) (fun s _ => 600 - (intOf s).toNat)
                    case atStart => exact ⟨0, S, now, x, by omega, rfl, Lib.hid (HTV.out _ (Below.refl _ _)), HSB, HBV, Lib.hid rfl, HES⟩
                    case round =>
                      obtain ⟨q, S', now', x', hq, rfl, HT1, HS1, HB1, HK1, HES1⟩ := hrel
                      have q2 := (KS.out _ HK1.out).2
                      by_cases g1 : (q : Int) < due
                      · have f1 : decide ((q : Int) < due) = true := decide_eq_true g1
                        by_cases g2 : q < 600
                        · have f2 : decide ((q : Int) < 600) = true := decide_eq_true (by omega)
                          have hEw : E < wr.heap.size := lt_of_block (HK1.out.trans (Array.getElem?_eq_getElem HE1.out))
                          have hrbr := HT1.out.r.lt
                          by_cases hend : now' = 4611686018427387904
                          · have HEND := Lib.hid hend
                            clear hend
                            go_wp2_with (first
                              | (go_at_call 15; have _z := b5; refine (ints13_any _ ao none 0 cap 0 [] [] (none_lies _ _ _ hac5) (none_lies _ _ _ (fun _ => rfl)) rfl rfl (by omega)).mono ?_; rintro e w7 ⟨rfl, hb7'⟩; have hb7 := Lib.hid hb7'; clear hb7')
                              | (go_at_call 17; have _z := b5; refine (rgo_end _ rb G x' (by have h9 := r5.out.1; rwa [HEND.out] at h9)).mono ?_; rintro e w6 ⟨rfl, hw6⟩; rw [hw6]; clear hw6)
                              | (go_at_call 16; refine (O.goEnd _ H S' x' (by have h9 := HT1.out.h; rwa [HEND.out] at h9)).mono ?_; rintro e w5 ⟨S5, ao, cap, rfl, hac5, h5', g5'⟩; rw [← HEND.out] at h5'; have h5 := Lib.hid h5'; have r5 := Lib.hid (HT1.out.grow g5'); have k5 := Lib.hid ((g5'.block E hEw HES1.out).trans HK1.out); have e5 := Lib.hid (g5'.not hEw HES1.out); have b5 := Lib.hid (show Below w.heap.size w w5 ∧ ∀ k, S5 k → w.heap.size ≤ k from ⟨HB1.out.trans (g5'.below HS1.out HB1.out.size).1, (g5'.below HS1.out HB1.out.size).2⟩); clear h5' g5')
                              | fail "no arm")
                            go_roundw
                            case rel => exact ⟨q + 1, S5, now', x', by omega, by go_num, Lib.hid (TwoW.later ⟨h5.out, r5.out.1, r5.out.2.1, r5.out.2.2, HT1.out.b, HTB.out⟩ hb7.out), Lib.hid b5.out.2, Lib.hid (b5.out.1.trans (hb7.out.mono b5.out.1.size)), Lib.hid ((hb7.out.block E (lt_of_block (k5.out.trans (Array.getElem?_eq_getElem HE1.out)))).trans k5.out), e5⟩
                            case measure => simp [intOf]; omega
                          · have hlt' : now' < 4611686018427387904 := by have := HT1.out.b; omega
                            have HLT := Lib.hid hlt'
                            obtain ⟨L, hL⟩ : ∃ L, L = goL x' (now' + 1) 256 := ⟨_, rfl⟩
                            have hLs : L.length ≤ 256 := by rw [hL]; exact goL_len _ _ _
                            have CG0 := O.go _ H S' now' x' HT1.out.h hlt'
                            have CR0 := fun (Y : World) (hY : RWh Y rb G now' x') => rgo_any Y rb G now' x' hY HT1.out.b.1 hlt'
                            rw [← hL] at CG0 CR0
                            have CG := Lib.hid CG0
                            have CR := Lib.hid CR0
                            clear CG0 CR0 hend hlt' hL
                            obtain ⟨m, hm⟩ : ∃ m, m = L.length := ⟨_, rfl⟩
                            rw [← hm] at hLs
                            have HM := Lib.hid hm
                            clear hm
                            go_wp2_with (first
                              | (go_at_call 15; have _z := b6; refine (ints13_any _ ao ao2 m cap cap2 L L (L5.out.wider (Nat.zero_le _) (Nat.le_refl _)) (L6.out.wider (Nat.zero_le _) (Nat.le_refl _)) rfl HM.out.symm (by omega)).mono ?_; rintro e w7 ⟨rfl, hb7'⟩; have hb7 := Lib.hid hb7'; clear hb7')
                              | (go_at_call 17; have _z := b5; refine (CR.out _ r5.out.1).mono ?_; rintro e w6 ⟨ao2, cap2, rfl, o6, r6', c6'⟩; rw [← HM.out] at o6 ⊢; have T6 := Lib.hid (TwoW.made h5.out r5.out.2.1 r5.out.2.2 c6' r6' ⟨by have := HT1.out.b; omega, by have := HLT.out; omega⟩ HTB.out); have L6 := Lib.hid (Lies.of_owns o6); have L5 := Lib.hid ((l5.out.keep (fun b k1 k2 => c6'.block b k2 (by omega) (by omega))).wider (lo' := 0) (hi' := w6.heap.size) (Nat.zero_le _) c6'.size); have k6 := Lib.hid ((c6'.block E (lt_of_block (k5.out.trans (Array.getElem?_eq_getElem HE1.out))) hErb hEG).trans k5.out); have b6 := Lib.hid (b5.out.1.trans (c6'.belowH hrbw hGw b5.out.1.size)); clear o6 r6' c6')
                              | (go_at_call 16; refine CG.out.mono ?_; rintro e w5 ⟨S5, ao, cap, rfl, l5', h5', g5'⟩; rw [← HM.out] at l5' ⊢; have l5 := Lib.hid l5'; have h5 := Lib.hid h5'; have r5 := Lib.hid (HT1.out.grow g5'); have k5 := Lib.hid ((g5'.block E hEw HES1.out).trans HK1.out); have e5 := Lib.hid (g5'.not hEw HES1.out); have b5 := Lib.hid (show Below w.heap.size w w5 ∧ ∀ k, S5 k → w.heap.size ≤ k from ⟨HB1.out.trans (g5'.below HS1.out HB1.out.size).1, (g5'.below HS1.out HB1.out.size).2⟩); clear l5' h5' g5')
                              | fail "no arm")
                            go_roundw
                            case rel => exact ⟨q + 1, S5, now' + 1, _, by omega, by go_num, Lib.hid (T6.out.later hb7.out), Lib.hid b5.out.2, Lib.hid (b6.out.trans (hb7.out.mono b6.out.size)), Lib.hid ((hb7.out.block E (lt_of_block (k6.out.trans (Array.getElem?_eq_getElem HE1.out)))).trans k6.out), e5⟩
                            case measure => simp [intOf]; omega
                        · have f2 : decide ((q : Int) < 600) = false := decide_eq_false (by omega)
                          go_wp2_with fail
                          go_meet
                          case rel => exact ⟨S', now', x', HT1, HS1, HB1, HK1⟩
                      · have f1 : decide ((q : Int) < due) = false := decide_eq_false g1
                        go_wp2_with fail
                        go_meet
                        case rel => exact ⟨S', now', x', HT1, HS1, HB1, HK1⟩
                  · have f4 : (kd == 4) = false := by simpa using e4
                    have f5 : (kd == 5) = false := by simpa using e5
                    go_wp2_with fail
                    go_meet
                    case rel => exact ⟨S, now, x, Lib.hid (HTV.out _ (Below.refl _ _)), HSB, HBV, Lib.hid rfl⟩
      case rest =>
        obtain ⟨S', now', x', HT2, HS2, HB2, HK2⟩ := hcut
        have hEx : E < wc.heap.size := lt_of_block (HK2.out.trans (Array.getElem?_eq_getElem HE1.out))
        have HKX : Hid (∀ Y, Below wc.heap.size wc Y → Y.cell? ⟨E, 1, none⟩ = some (.int .i64 id)) := Lib.hid (fun Y hY => (KS.out Y ((hY.block E hEx).trans HK2.out)).1)
        obtain ⟨v1, hv1⟩ : ∃ v1, v1 = whA x' id := ⟨_, rfl⟩
        obtain ⟨v2, hv2⟩ : ∃ v2, v2 = whB x' id := ⟨_, rfl⟩
        have HVV := Lib.hid (And.intro hv1 hv2)
        have q5 := HKX.out _ (Below.refl _ _)
        clear hv1 hv2 HTV HBV k1 k2
        go_wp2_with (first
          | (go_at_call 19; have _z := hb5; refine (rwhen_any _ rb G now' x' (HT2.out.later hb5.out).r id).mono ?_; rintro e w6 ⟨rfl, hb6'⟩; rw [← HVV.out.1, ← HVV.out.2]; have hb6 := Lib.hid (hb5.out.trans (hb6'.mono hb5.out.size)); clear hb6')
          | (go_at_call 18; refine (O.when _ H S' now' x' id HT2.out.h).mono ?_; rintro e w5 ⟨rfl, hb5'⟩; rw [← HVV.out.1, ← HVV.out.2]; have hb5 := Lib.hid hb5'; have q6 := HKX.out _ hb5'; clear hb5')
          | fail "no arm")
        have HT6 : Hid (∀ Y, Below w6.heap.size w6 Y → TwoW O Y H S' rb G now' x') := Lib.hid (fun Y hY => (HT2.out.later hb6.out).later hY)
        have KR : Hid (∀ Y, Below w6.heap.size w6 Y → Y.cell? ⟨rb, 0, none⟩ = some (.int .i64 now')) := Lib.hid (fun Y hY => by
          obtain ⟨cap, hb9⟩ := (HT6.out Y hY).r.box
          exact cell_in hb9 rfl)
        have z0 := KR.out w6 (Below.refl _ _)
        go_region_held3 (fun Y => Y.cell? ⟨rb, 0, none⟩ = some (.int .i64 now'))
          (first | exact KR.out _ hb8.out | exact KR.out _ hb7.out | exact KR.out _ (Below.refl _ _).drew | fail "no")
          (first
          | (go_at_call 22; have _z := hb8; refine (rlen_any _ rb G now' x' (HT6.out _ hb8.out).r).mono ?_; rintro e w9 ⟨rfl, hw9⟩; rw [hw9]; clear hw9)
          | (go_at_call 21; have _z := hb7; refine (O.len _ H S' now' x' (HT6.out _ hb7.out).h).mono ?_; rintro e w8 ⟨rfl, hb8'⟩; have hb8 := Lib.hid (hb7.out.trans (hb8'.mono hb7.out.size)); clear hb8')
          | (go_at_call 20; refine (O.nowV _ H S' now' x' (HT6.out _ (Below.refl _ _).drew).h).mono ?_; rintro e w7 ⟨rfl, hb7'⟩; have hb7 := Lib.hid (((Below.refl w6.heap.size w6).drew).trans hb7'); clear hb7')
          | fail "no arm")
        go_wp2_with fail
        go_roundw
        case rel => exact ⟨k + 1, S', now', x', by omega, by go_num, Lib.hid (HT6.out _ hb8.out), HS2, Lib.hid (HB2.out.trans ((hb6.out.trans (hb8.out.mono hb6.out.size)).mono HB2.out.size))⟩
        case measure => simp [intOf]; omega
    · have d0 : decide ((k : Int) < (n0 : Int)) = false := decide_eq_false (by omega)
      go_wp2_with fail
      go_ret
      exact ⟨rfl, HB.out⟩
end Go.Proofs.YtbjhoncojegjiaaDoor
