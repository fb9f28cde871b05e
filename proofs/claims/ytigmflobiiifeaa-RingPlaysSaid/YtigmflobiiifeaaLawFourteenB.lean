/- RingPlays, out of the contracts. -/
import Derived.Test.YtigmflobiiifeaaRingT
namespace Go.Proofs.Ytigmflobiiifeaa
open Go.ChangeShapes Go.WideShapes Go.ChangeAt Go.RowKit
set_option linter.unusedVariables false

set_option maxRecDepth 100000 in
set_option maxHeartbeats 8000000 in
theorem RingPlays_of (O : RingInt) (room : Int) (a0 : Option Addr) (n0 c0 : Nat) (w : World) (l0 : List Wn) (hroom : I64 room) (hn0 : l0.length = n0) (hl0 : Lies w 0 w.heap.size (.slice a0 n0 c0) n0 3 (l0.flatMap Wn.cells)) (hi0 : ∀ x ∈ l0, x.In) :
    Calls Try.prog 3 #[.int .i64 room, .slice a0 n0 c0] w fun e w' => e = .returned (.bool true) ∧ Below w.heap.size w w' := by
  have HK := Lib.hid (knows14_of O.toRingOk w)
  by_cases hbig : 200 < n0
  · have t0 : decide ((200 : Int) < (n0 : Int)) = true := decide_eq_true (by omega)
    clear hbig hn0 hl0 hi0
    go_enter Try.func3, Try.ntmps3
    go_wp2_with (go_at_call 6; refine HK.out.mono ?_; rintro e w3 ⟨rfl, hb3⟩)
    go_ret
    exact ⟨rfl, hb3⟩
  have s0 : n0 ≤ 200 := by omega
  have t0 : decide ((200 : Int) < (n0 : Int)) = false := decide_eq_false (by omega)
  have KA := Lib.hid (acts14_read hn0 hl0)
  clear hbig hn0 hl0 hi0 hroom
  go_enter Try.func3, Try.ntmps3
  go_wp2_with (first
    | (go_at_call 8; refine (rrnew_any room _).mono ?_; rintro e w3 ⟨R, rfl, hr3', hR3', hb3'⟩; have hr3 := Lib.hid hr3'; have hR3 := Lib.hid hR3'; have hb3 := Lib.hid hb3'; clear hr3' hb3' hR3')
    | (go_at_call 7; refine (O.new room _).mono ?_; rintro e w2 ⟨H, S, rfl, hh2', hs2', hb2'⟩; have hh2 := Lib.hid hh2'; have hs2 := Lib.hid hs2'; have hb2 := Lib.hid hb2'; clear hh2' hb2' hs2')
    | (go_at_call 6; refine HK.out.mono ?_; rintro e w1 ⟨rfl, hb1'⟩; have hb1 := Lib.hid hb1'; clear hb1')
    | fail "no arm")
  obtain ⟨rb, hrb⟩ : ∃ rb, rb = w2.heap.size := ⟨_, rfl⟩
  obtain ⟨n, hn⟩ : ∃ n, n = roomV room := ⟨_, rfl⟩
  have HT3 : Hid (TwoR O w w3 H rb S R n [] []) := Lib.hid (by
    rw [hn, hrb]
    have hw1 := hb1.out.size
    have hw2 := hb2.out.size
    exact ⟨O.later hh2.out hb3.out, hr3.out, fun k hs hr => by have := O.lt hh2.out k hs; have := hR3.out k hr; omega, fun k hk => Nat.le_trans hw1 (hs2.out k hk), fun k hk => by have := hR3.out k hk; omega, (hb1.out.trans (hb2.out.mono hw1)).trans (hb3.out.mono (Nat.le_trans hw1 hw2))⟩)
  rw [← hrb]
  clear hrb hn hr3 hb3 hR3 hh2 hb2 hb1 hs2
  go_loopw [7] (fun s wr => ∃ (k : Nat) (S R : Nat → Prop) (l : List Int), k ≤ n0 ∧ s = .int .i64 k ∧ Hid (TwoR O w wr H rb S R n l l)) (fun s _ => n0 - (intOf s).toNat)
  case atStart => exact ⟨0, _, _, _, Nat.zero_le _, rfl, HT3⟩
  case round =>
    clear HT3
    obtain ⟨k, S, R, l, hk, rfl, HT⟩ := hrel
    by_cases hlt : k < n0
    · have d0 : decide ((k : Int) < (n0 : Int)) = true := decide_eq_true (by omega)
      have d1 : (0 : Int) ≤ (k : Int) := by omega
      have d2 : (k : Int) < (n0 : Int) := by omega
      obtain ⟨b, off, kd, id, due, rfl, c0, c1, c2, hb⟩ := KA.out wr HT.out.b k hlt
      obtain ⟨V, hV⟩ : ∃ V, V = wr.alloc (.cells #[.int .i64 kd, .int .i64 id, .int .i64 due] 29) := ⟨_, rfl⟩
      obtain ⟨E, hE⟩ : ∃ E, E = wr.heap.size := ⟨_, rfl⟩
      have hEV : V.heap[E]? = some (.cells #[.int .i64 kd, .int .i64 id, .int .i64 due] 29 (0, 0)) := by rw [hV, hE]; exact heap_alloc_new _ _
      have hbwV : Below wr.heap.size wr V := by rw [hV]; exact below1 _ _
      have HTV : Hid (TwoR O w V H rb S R n l l) := Lib.hid (HT.out.later hbwV)
      have HN := Lib.hid (O.bd HTV.out.h)
      have HEK : Hid (EK V V E S R) := Lib.hid ⟨rfl, lt_of_block hEV, fun h => by have := O.lt HT.out.h E h; omega, fun h => by have := HT.out.r.lt E h; omega⟩
      have KS : Hid (∀ Y : World, Y.heap[E]? = V.heap[E]? → Y.cell? ⟨E, 1, none⟩ = some (.int .i64 id) ∧ Y.cell? ⟨E, 2, none⟩ = some (.int .i64 due)) := Lib.hid (fun Y hY => ⟨cell_in (hY.trans hEV) rfl, cell_in (hY.trans hEV) rfl⟩)
      have HV := Lib.hid hV
      have HEE := Lib.hid hE
      clear hV hE hEV hbwV HT
      go_upto_block 2 with fail
      rw [← HV.out, ← HEE.out]
      clear c0 c1 c2 HV HEE
      obtain ⟨k1, k2⟩ := KS.out V rfl
      go_cut [9, 10, 11, 12, 13] from 42 to 100 (fun s _ _ _ _ wx => ∃ (S' R' : Nat → Prop) (l' : List Int), s = .bool true ∧ Hid (TwoR O w wx H rb S' R' n l' l') ∧ Hid (EK V wx E S' R'))
      case first =>
        by_cases q0 : kd = 0
        · subst q0
          go_upto_region 14 with fail
          go_region_held3 (fun Y => Y.cell? ⟨E, 2, none⟩ = some (.int .i64 due))
            (first | exact (KS.out _ e5.out.k).2 | exact (KS.out _ e4.out.k).2 | exact (KS.out _ rfl).2 | fail "no")
            (first
            | (go_at_call 10; have _z := t4; refine (rrpush_any _ rb R n l t4.out.r HN.out.2.1 due).mono ?_; rintro e w5 ⟨R5, rfl, r5', g5'⟩; have t5 := Lib.hid (t4.out.ref r5' g5'); have e5 := Lib.hid (e4.out.ref g5'); clear r5' g5')
            | (go_at_call 9; refine (O.push _ H S n l due (HTV.out.later (Below.refl _ _).drew).h).mono ?_; rintro e w4 ⟨S4, rfl, h4', g4'⟩; have t4 := Lib.hid ((HTV.out.later (Below.refl _ _).drew).prog h4' g4'); have e4 := Lib.hid ((HEK.out.later (Below.refl _ _).drew).prog g4'); clear h4' g4')
            | fail "no arm")
          go_wp2_with fail
          go_meet
          case rel => exact ⟨S4, R5, _, by simp, t5, e5⟩
        · have f0 : (kd == 0) = false := by simpa using q0
          by_cases q1 : kd = 1
          · subst q1
            go_upto_region 14 with fail
            go_region_held3 (fun Y => Y.cell? ⟨E, 2, none⟩ = some (.int .i64 due))
              (first | exact (KS.out _ e5.out.k).2 | exact (KS.out _ e4.out.k).2 | exact (KS.out _ rfl).2 | fail "no")
              (first
              | (go_at_call 10; have _z := t4; refine (rrpush_any _ rb R n l t4.out.r HN.out.2.1 due).mono ?_; rintro e w5 ⟨R5, rfl, r5', g5'⟩; have t5 := Lib.hid (t4.out.ref r5' g5'); have e5 := Lib.hid (e4.out.ref g5'); clear r5' g5')
              | (go_at_call 9; refine (O.push _ H S n l due (HTV.out.later (Below.refl _ _).drew).h).mono ?_; rintro e w4 ⟨S4, rfl, h4', g4'⟩; have t4 := Lib.hid ((HTV.out.later (Below.refl _ _).drew).prog h4' g4'); have e4 := Lib.hid ((HEK.out.later (Below.refl _ _).drew).prog g4'); clear h4' g4')
              | fail "no arm")
            go_wp2_with fail
            go_meet
            case rel => exact ⟨S4, R5, _, by simp, t5, e5⟩
          · have f1 : (kd == 1) = false := by simpa using q1
            by_cases q2 : kd = 2
            · subst q2
              go_upto_region 14 with fail
              go_region_held3 (fun Y => Y.cell? ⟨E, 2, none⟩ = some (.int .i64 due))
                (first | exact (KS.out _ e5.out.k).2 | exact (KS.out _ e4.out.k).2 | exact (KS.out _ rfl).2 | fail "no")
                (first
                | (go_at_call 10; have _z := t4; refine (rrpush_any _ rb R n l t4.out.r HN.out.2.1 due).mono ?_; rintro e w5 ⟨R5, rfl, r5', g5'⟩; have t5 := Lib.hid (t4.out.ref r5' g5'); have e5 := Lib.hid (e4.out.ref g5'); clear r5' g5')
                | (go_at_call 9; refine (O.push _ H S n l due (HTV.out.later (Below.refl _ _).drew).h).mono ?_; rintro e w4 ⟨S4, rfl, h4', g4'⟩; have t4 := Lib.hid ((HTV.out.later (Below.refl _ _).drew).prog h4' g4'); have e4 := Lib.hid ((HEK.out.later (Below.refl _ _).drew).prog g4'); clear h4' g4')
                | fail "no arm")
              go_wp2_with fail
              go_meet
              case rel => exact ⟨S4, R5, _, by simp, t5, e5⟩
            · have f2 : (kd == 2) = false := by simpa using q2
              by_cases q3 : kd = 3
              · subst q3
                go_wp2_with (first
                  | (go_at_call 12; have _z := t4; refine (rrpop_any _ rb R n l t4.out.r).mono ?_; rintro e w5 ⟨rfl, r5', g5'⟩; have t5 := Lib.hid (t4.out.ref r5' g5'); have e5 := Lib.hid (e4.out.ref g5'); clear r5' g5')
                  | (go_at_call 11; refine (O.pop _ H S n l HTV.out.h).mono ?_; rintro e w4 ⟨S4, rfl, h4', g4'⟩; have t4 := Lib.hid (HTV.out.prog h4' g4'); have e4 := Lib.hid (HEK.out.prog g4'); clear h4' g4')
                  | fail "no arm")
                go_meet
                case rel => exact ⟨S4, R, _, by simp, t5, e5⟩
              · have f3 : (kd == 3) = false := by simpa using q3
                by_cases q4 : kd = 4
                · subst q4
                  go_wp2_with (first
                    | (go_at_call 12; have _z := t4; refine (rrpop_any _ rb R n l t4.out.r).mono ?_; rintro e w5 ⟨rfl, r5', g5'⟩; have t5 := Lib.hid (t4.out.ref r5' g5'); have e5 := Lib.hid (e4.out.ref g5'); clear r5' g5')
                    | (go_at_call 11; refine (O.pop _ H S n l HTV.out.h).mono ?_; rintro e w4 ⟨S4, rfl, h4', g4'⟩; have t4 := Lib.hid (HTV.out.prog h4' g4'); have e4 := Lib.hid (HEK.out.prog g4'); clear h4' g4')
                    | fail "no arm")
                  go_meet
                  case rel => exact ⟨S4, R, _, by simp, t5, e5⟩
                · have f4 : (kd == 4) = false := by simpa using q4
                  by_cases q5 : kd = 5
                  · subst q5
                    go_upto_region 21 with fail
                    go_region_held3 (fun Y => Y.cell? ⟨E, 1, none⟩ = some (.int .i64 id) ∧ Y.cell? ⟨E, 2, none⟩ = some (.int .i64 due))
                      (first | exact KS.out _ e5.out.k | exact KS.out _ e4.out.k | exact KS.out _ rfl | fail "no")
                      (first
                      | (go_at_call 14; have _z := t4; refine (rrset_any _ rb R n l t4.out.r HN.out.2.1 HN.out.2.2 id due).mono ?_; rintro e w5 ⟨R5, rfl, r5', g5'⟩; have t5 := Lib.hid (t4.out.ref r5' g5'); have e5 := Lib.hid (e4.out.ref g5'); clear r5' g5')
                      | (go_at_call 13; refine (O.set _ H S n l id due (HTV.out.later (Below.refl _ _).drew).h).mono ?_; rintro e w4 ⟨S4, rfl, h4', g4'⟩; have t4 := Lib.hid ((HTV.out.later (Below.refl _ _).drew).prog h4' g4'); have e4 := Lib.hid ((HEK.out.later (Below.refl _ _).drew).prog g4'); clear h4' g4')
                      | fail "no arm")
                    go_wp2_with fail
                    go_meet
                    case rel => exact ⟨S4, R5, _, by simp, t5, e5⟩
                  · have f5 : (kd == 5) = false := by simpa using q5
                    by_cases q6 : kd = 6
                    · subst q6
                      by_cases i0 : id = 0
                      · subst i0
                        go_wp2_with (go_at_call 15; refine (O.clear _ H S n l HTV.out.h).mono ?_; rintro e w4 ⟨S4, rfl, h4', g4'⟩; have t4 := Lib.hid (HTV.out.prog h4' g4'); have e4 := Lib.hid (HEK.out.prog g4'); obtain ⟨ao, cap, x1, _⟩ := t4.out.r.is; have x2 : w4.cell? ⟨rb, 1, none⟩ = some (.slice ao l.length cap) := cell_in x1 rfl; have x3 : w4.frozen? ⟨rb, 1, none⟩ = false := free_in x1 1; have X1 := Lib.hid x1; clear h4' g4' x1)
                        obtain ⟨r5', g5'⟩ := RRg.cut (l' := []) (m := 0) (ao := none) (cap := 0) t4.out.r X1.out (.inl ⟨rfl, rfl, rfl⟩) rfl
                        have t5 := Lib.hid (t4.out.ref r5' g5')
                        have e5 := Lib.hid (e4.out.ref g5')
                        clear r5' g5'
                        go_meet
                        case rel => exact ⟨S4, R, _, rfl, t5, e5⟩
                      · have i1 : (id == 0) = false := by simpa using i0
                        go_wp2_with fail
                        go_meet
                        case rel => exact ⟨S, R, l, rfl, HTV, HEK⟩
                    · have f6 : (kd == 6) = false := by simpa using q6
                      go_wp2_with fail
                      go_meet
                      case rel => exact ⟨S, R, l, rfl, HTV, HEK⟩
      case rest =>
        obtain ⟨S', R', l', rfl, HT2, HE2⟩ := hcut
        clear HTV HEK k1 k2 HN
        have HN := Lib.hid (O.bd HT2.out.h)
        obtain ⟨ao, cap, x1, x2⟩ := HT2.out.r.is
        obtain ⟨mm, hm⟩ : ∃ mm, mm = l'.length := ⟨_, rfl⟩
        rw [← hm] at x1
        have HM := Lib.hid hm
        have X1 := Lib.hid x1
        have X2 := Lib.hid x2
        have KR : Hid (∀ Y, Below wc.heap.size wc Y → Y.cell? ⟨rb, 1, none⟩ = some (.slice ao mm cap) ∧ Y.cell? ⟨rb, 0, none⟩ = some (.int .i64 n)) := Lib.hid (fun Y hY => ⟨cell_in ((hY.block rb (lt_of_block X1.out)).trans X1.out) rfl, cell_in ((hY.block rb (lt_of_block X1.out)).trans X1.out) rfl⟩)
        have KE : Hid (∀ Y, Below wc.heap.size wc Y → Y.cell? ⟨E, 1, none⟩ = some (.int .i64 id)) := Lib.hid (fun Y hY => (KS.out Y ((hY.block E HE2.out.z).trans HE2.out.k)).1)
        have q0 := KE.out wc (Below.refl _ _)
        have hsm : mm ≤ 4096 := by have := HN.out; omega
        obtain ⟨v1, hv1⟩ : ∃ v1, v1 = atL l' id := ⟨_, rfl⟩
        obtain ⟨v2, hv2⟩ : ∃ v2, v2 = inL l' id := ⟨_, rfl⟩
        have HVV := Lib.hid (And.intro hv1 hv2)
        clear x1 x2 hm hv1 hv2
        go_wp2_with (first
          | (go_at_call 17; have _z := hb5; refine (rrat_any _ rb R' n l' (HT2.out.r.later hb5.out) id).mono ?_; rintro e w6 ⟨rfl, hw6⟩; rw [hw6, ← HVV.out.1, ← HVV.out.2]; clear hw6)
          | (go_at_call 16; refine (O.at' _ H S' n l' id HT2.out.h).mono ?_; rintro e w5 ⟨rfl, hb5'⟩; rw [← HVV.out.1, ← HVV.out.2]; have hb5 := Lib.hid hb5'; have q5 := KE.out _ hb5'; clear hb5')
          | fail "no arm")
        obtain ⟨z0, z1⟩ := KR.out _ hb5.out
        go_region_held3 (fun Y => Y.cell? ⟨rb, 1, none⟩ = some (.slice ao mm cap) ∧ Y.cell? ⟨rb, 0, none⟩ = some (.int .i64 n))
          (first | exact KR.out _ hb9.out | exact KR.out _ hb8.out | exact KR.out _ hb7.out | exact KR.out _ hb6.out | exact KR.out _ hb5.out.drew | fail "no")
          (first
          | (go_at_call 20; have _z := hb8; refine (ints14_any _ ao8 ao cap8 cap mm l' HM.out.symm hsm ly8.out (by have hh := (X2.out.lies hb8.out).wider (Nat.zero_le _) hb8.out.size; rw [← HM.out] at hh; exact hh)).mono ?_; rintro e w9 ⟨rfl, hb9'⟩; have hb9 := Lib.hid (hb8.out.trans (hb9'.mono hb8.out.size)); clear hb9')
          | (go_at_call 21; have _z := hb7; refine (O.all _ H S' n l' (O.later HT2.out.h hb7.out)).mono ?_; rintro e w8 ⟨ao8, cap8, rfl, ly8', hb8'⟩; rw [← HM.out] at ly8'; rw [← HM.out]; have ly8 := Lib.hid ly8'; have hb8 := Lib.hid (hb7.out.trans (hb8'.mono hb7.out.size)); clear ly8' hb8')
          | (go_at_call 19; have _z := hb6; refine (O.room _ H S' n l' (O.later HT2.out.h hb6.out)).mono ?_; rintro e w7 ⟨rfl, hb7'⟩; have hb7 := Lib.hid (hb6.out.trans (hb7'.mono hb6.out.size)); clear hb7')
          | (go_at_call 18; refine (O.len _ H S' n l' (O.later HT2.out.h hb5.out.drew)).mono ?_; rintro e w6 ⟨rfl, hb6'⟩; rw [← HM.out]; have hb6 := Lib.hid ((hb5.out.drew).trans (hb6'.mono (hb5.out.drew).size)); clear hb6')
          | fail "no arm")
        go_wp2_with fail
        go_roundw
        case rel => exact ⟨k + 1, S', R', l', by omega, by go_num, Lib.hid (HT2.out.later hb9.out)⟩
        case measure => simp [intOf]; omega
    · have d0 : decide ((k : Int) < (n0 : Int)) = false := decide_eq_false (by omega)
      go_wp2_with fail
      go_ret
      exact ⟨rfl, HT.out.b⟩
end Go.Proofs.Ytigmflobiiifeaa
