/- Both ledgers; LedgerPlays, out of the contracts. -/
import Derived.Test.YtikjahdnffklhaaLedgC
import Derived.BigRegion
namespace Go.Proofs.Ytikjahdnffklhaa
open Go.ChangeShapes Go.WideShapes Go.ChangeAt Go.RowKit
set_option linter.unusedVariables false

/-- Both ledgers: the program's has L, the document's M. -/
structure TwoL (O : LedgerOk) (w wx : World) (H rb : Nat) (S R : Nat → Prop) (n : Int) (L M : List Wn) : Prop where
  h : O.Lg wx H S n L
  r : LRg wx rb R n M
  d : ∀ k, S k → ¬ R k
  sb : ∀ k, S k → w.heap.size ≤ k
  rb' : ∀ k, R k → w.heap.size ≤ k
  b : Below w.heap.size w wx
section
variable {O : LedgerOk} {w wx Y : World} {H rb : Nat} {S R S' R' : Nat → Prop} {n : Int} {L M L' M' : List Wn}
theorem TwoL.later (t : TwoL O w wx H rb S R n L M) (hb : Below wx.heap.size wx Y) : TwoL O w Y H rb S R n L M := ⟨O.later t.h hb, t.r.later hb, t.d, t.sb, t.rb', t.b.trans (hb.mono t.b.size)⟩
theorem TwoL.prog (t : TwoL O w wx H rb S R n L M) (h : O.Lg Y H S' n L') (g : GrowS S S' wx Y) : TwoL O w Y H rb S' R n L' M :=
  ⟨h, t.r.keep (fun k hk => g.block k (t.r.lt k hk) (fun hs => t.d k hs hk)) g.size, fun k hs hr => (g.own k hs).elim (fun h1 => t.d k h1 hr) (fun h1 => by have := t.r.lt k hr; omega), (g.step t.b t.sb).2, t.rb', (g.step t.b t.sb).1⟩
theorem TwoL.ref (t : TwoL O w wx H rb S R n L M) (r : LRg Y rb R' n M') (g : GrowS R R' wx Y) : TwoL O w Y H rb S R' n L M' :=
  ⟨O.keep t.h (fun k hk => g.block k (O.lt t.h k hk) (t.d k hk)) g.size, r, fun k hs hr => (g.own k hr).elim (t.d k hs) (fun h1 => by have := O.lt t.h k hs; omega), t.sb, (g.step t.b t.rb').2, (g.step t.b t.rb').1⟩
end
set_option maxRecDepth 100000 in
set_option maxHeartbeats 8000000 in
theorem LedgerPlays_of (O : LedgerOk) (parts : Int) (a0 : Option Addr) (n0 c0 : Nat) (pp qq : Int) (w : World) (l0 : List Wn) (hparts : I64 parts) (hn0 : l0.length = n0) (hl0 : Lies w 0 w.heap.size (.slice a0 n0 c0) n0 3 (l0.flatMap Wn.cells)) (hi0 : ∀ x ∈ l0, x.In) (hpp : I64 pp) (hqq : I64 qq) :
    Calls Try.prog 3 #[.int .i64 parts, .slice a0 n0 c0, .int .i64 pp, .int .i64 qq] w fun e w' => e = .returned (.bool true) ∧ Below w.heap.size w w' := by
  have HK := Lib.hid (knows15_of O w)
  by_cases hbig : 200 < n0
  · have t0 : decide ((200 : Int) < (n0 : Int)) = true := decide_eq_true (by omega)
    clear hbig hn0 hl0 hi0
    go_enter Try.func3, Try.ntmps3
    go_wp2_with (go_at_call 7; refine HK.out.mono ?_; rintro e w3 ⟨rfl, hb3⟩)
    go_ret
    exact ⟨rfl, hb3⟩
  have s0 : n0 ≤ 200 := by omega
  have t0 : decide ((200 : Int) < (n0 : Int)) = false := decide_eq_false (by omega)
  have KA : Hid (∀ Y, Below w.heap.size w Y → ∀ i, i < n0 → ∃ b off k p q, a0 = some ⟨b, off, none⟩ ∧ Y.cell? ⟨b, off + i * 3, none⟩ = some (.int .i64 k) ∧ Y.cell? ⟨b, off + i * 3 + 1, none⟩ = some (.int .i64 p) ∧ Y.cell? ⟨b, off + i * 3 + 2, none⟩ = some (.int .i64 q) ∧ ∀ Y', Below w.heap.size w Y' → Y'.cell? ⟨b, off + i * 3, none⟩ = some (.int .i64 k) ∧ Y'.cell? ⟨b, off + i * 3 + 1, none⟩ = some (.int .i64 p) ∧ Y'.cell? ⟨b, off + i * 3 + 2, none⟩ = some (.int .i64 q)) := Lib.hid (fun Y hY i hi => by
    obtain ⟨b, off, e, c0, c1, c2, _⟩ := acts_read hn0 hl0 Y hY i hi
    refine ⟨b, off, _, _, _, e, c0, c1, c2, fun Y' hY' => ?_⟩
    obtain ⟨b', off', e', c0', c1', c2', _⟩ := acts_read hn0 hl0 Y' hY' i hi
    cases e.symm.trans e'
    exact ⟨c0', c1', c2'⟩)
  clear hbig hn0 hl0 hi0 hparts hpp hqq
  go_enter Try.func3, Try.ntmps3
  go_wp2_with (first
    | (go_at_call 9; refine (lrnew_any parts _).mono ?_; rintro e w3 ⟨R, rfl, hr3', hR3', hb3'⟩; have hr3 := Lib.hid hr3'; have hR3 := Lib.hid hR3'; have hb3 := Lib.hid hb3'; clear hr3' hb3' hR3')
    | (go_at_call 8; refine (O.new parts _).mono ?_; rintro e w2 ⟨H, S, rfl, hh2', hs2', hb2'⟩; have hh2 := Lib.hid hh2'; have hs2 := Lib.hid hs2'; have hb2 := Lib.hid hb2'; clear hh2' hb2' hs2')
    | (go_at_call 7; refine HK.out.mono ?_; rintro e w1 ⟨rfl, hb1'⟩; have hb1 := Lib.hid hb1'; clear hb1')
    | fail "no arm")
  obtain ⟨rb, hrb⟩ : ∃ rb, rb = w2.heap.size := ⟨_, rfl⟩
  obtain ⟨n, hn⟩ : ∃ n, n = partsV parts := ⟨_, rfl⟩
  have HT3 : Hid (TwoL O w w3 H rb S R n [] []) := Lib.hid (by
    rw [hn, hrb]
    have hw1 := hb1.out.size
    have hw2 := hb2.out.size
    exact ⟨O.later hh2.out hb3.out, hr3.out, fun k hs hr => by have := O.lt hh2.out k hs; have := hR3.out k hr; omega, fun k hk => Nat.le_trans hw1 (hs2.out k hk), fun k hk => by have := hR3.out k hk; omega, (hb1.out.trans (hb2.out.mono hw1)).trans (hb3.out.mono (Nat.le_trans hw1 hw2))⟩)
  rw [← hrb]
  clear hrb hn hr3 hb3 hR3 hh2 hb2 hb1 hs2
  go_loopw [11] (fun s wr => ∃ (k : Nat) (S R : Nat → Prop) (L : List Wn), k ≤ n0 ∧ L.length ≤ k ∧ s = .int .i64 k ∧ Hid (TwoL O w wr H rb S R n L L)) (fun s _ => n0 - (intOf s).toNat)
  case atStart => exact ⟨0, _, _, _, Nat.zero_le _, Nat.le_refl _, rfl, HT3⟩
  case round =>
    clear HT3
    obtain ⟨k, S, R, L, hk, hLk, rfl, HT⟩ := hrel
    by_cases hlt : k < n0
    · have d0 : decide ((k : Int) < (n0 : Int)) = true := decide_eq_true (by omega)
      have d1 : (0 : Int) ≤ (k : Int) := by omega
      have d2 : (k : Int) < (n0 : Int) := by omega
      obtain ⟨b, off, kd, p, q, rfl, q0, q1, q2, hkc⟩ := KA.out wr HT.out.b k hlt
      have KC := Lib.hid hkc
      obtain ⟨ev, hev⟩ : ∃ ev, ev = errV n kd p q := ⟨_, rfl⟩
      have HEV := Lib.hid hev
      have HCL := Lib.hid (ch_len n L kd p q)
      have HL1 : Hid (L.length ≤ 1000) := Lib.hid (by omega)
      clear hkc hev
      go_wp2_with fail
      go_region_held3 (fun Y => Y.cell? ⟨b, off + k * 3, none⟩ = some (.int .i64 kd) ∧ Y.cell? ⟨b, off + k * 3 + 1, none⟩ = some (.int .i64 p) ∧ Y.cell? ⟨b, off + k * 3 + 2, none⟩ = some (.int .i64 q))
        (first | exact KC.out _ t6.out.b | exact KC.out _ t5.out.b | exact KC.out _ (HT.out.b.drew) | fail "no keep")
        (first
        | (go_at_call 12; have _z := t5; refine (lrcharge_any _ rb R n L kd p q t5.out.r HL1.out).mono ?_; rintro e w6 ⟨R6, rfl, r6, g6⟩; rw [← HEV.out]; have t6 := Lib.hid (t5.out.ref r6 g6); clear r6 g6)
        | (go_at_call 10; have _z := t5; refine (num15_any _ _).mono ?_; rintro e w6 ⟨rfl, hw6⟩; rw [hw6]; clear hw6)
        | (go_at_call 11; refine (O.charge _ H S n L kd p q (HT.out.later (Below.refl _ _).drew).h HL1.out).mono ?_; rintro e w5 ⟨S5, rfl, h5', g5'⟩; rw [← HEV.out]; have t5 := Lib.hid ((HT.out.later (Below.refl _ _).drew).prog h5' g5'); obtain ⟨k0, k1, k2⟩ := KC.out _ t5.out.b; clear h5' g5')
        | fail "no arm")
      go_wp2_with fail
      go_roundw
      case rel => exact ⟨k + 1, S5, R6, _, by omega, by have := HCL.out; omega, by go_num, t6⟩
      case measure => simp [intOf]; omega
    · have d0 : decide ((k : Int) < (n0 : Int)) = false := decide_eq_false (by omega)
      have HLN : Hid (L.length ≤ 1000) := Lib.hid (by omega)
      obtain ⟨m, hm⟩ : ∃ m, m = L.length := ⟨_, rfl⟩
      have HM := Lib.hid hm
      obtain ⟨wz, hwz⟩ : ∃ wz, wz = wr := ⟨_, rfl⟩
      subst hwz
      clear hm hLk
      go_wp2_with fail
      go_loopw [12] (fun s wp => ∃ kd : Nat, kd ≤ 6 ∧ s = .int .i64 kd ∧ Hid (TwoL O w wp H rb S R n L L)) (fun s _ => 6 - (intOf s).toNat)
      case atStart => exact ⟨0, by omega, rfl, HT⟩
      case round =>
        clear HT
        obtain ⟨kd, hkd, rfl, HT⟩ := hrel
        by_cases hk6 : kd < 6
        · have d3 : decide ((kd : Int) < 6) = true := decide_eq_true (by omega)
          by_cases hp0 : 0 ≤ pp
          · have d4 : decide (0 ≤ pp) = true := decide_eq_true hp0
            by_cases hk4 : kd < 4
            · have d5 : decide ((kd : Int) < 4) = true := decide_eq_true (by omega)
              obtain ⟨oc, hoc⟩ : ∃ oc, oc = cntV L kd pp (-2) := ⟨_, rfl⟩
              have OF : Hid (ofV L kd pp = (oc : Nat)) := Lib.hid (by rw [hoc]; exact if_pos (by omega))
              have HCN := Lib.hid hoc.symm
              clear hoc hp0
              go_wp2_with (first
                | (go_at_call 14; have _z := t6; refine (O.of _ H S n L kd pp t6.out.h HLN.out).mono ?_; rintro e w7 ⟨rfl, b7⟩; rw [OF.out]; have t7 := Lib.hid (t6.out.later b7); clear b7)
                | (go_at_call 13; refine (lrcount_any _ rb R n L HT.out.r HLN.out kd pp (-2)).mono ?_; rintro e w6 ⟨rfl, b6⟩; rw [HCN.out]; have t6 := Lib.hid (HT.out.later b6); clear b6)
                | fail "no arm")
              go_roundw
              case rel => exact ⟨kd + 1, by omega, by go_num, t7⟩
              case measure => simp [intOf]; omega
            · have d5 : decide ((kd : Int) < 4) = false := decide_eq_false (by omega)
              have OF : Hid (ofV L kd pp = 0) := Lib.hid (if_neg (by omega))
              clear hp0
              go_wp2_with (first
                | (go_at_call 14; refine (O.of _ H S n L kd pp HT.out.h HLN.out).mono ?_; rintro e w7 ⟨rfl, b7⟩; rw [OF.out]; have t7 := Lib.hid (HT.out.later b7); clear b7)
                | fail "no arm")
              go_roundw
              case rel => exact ⟨kd + 1, by omega, by go_num, t7⟩
              case measure => simp [intOf]; omega
          · have d4 : decide (0 ≤ pp) = false := decide_eq_false hp0
            have OF : Hid (ofV L kd pp = 0) := Lib.hid (if_neg (by omega))
            clear hp0
            go_wp2_with (first
              | (go_at_call 14; refine (O.of _ H S n L kd pp HT.out.h HLN.out).mono ?_; rintro e w7 ⟨rfl, b7⟩; rw [OF.out]; have t7 := Lib.hid (HT.out.later b7); clear b7)
              | fail "no arm")
            go_roundw
            case rel => exact ⟨kd + 1, by omega, by go_num, t7⟩
            case measure => simp [intOf]; omega
        · have d3 : decide ((kd : Int) < 6) = false := decide_eq_false (by omega)
          by_cases hp0 : 0 ≤ pp
          · have d4 : decide (0 ≤ pp) = true := decide_eq_true hp0
            obtain ⟨g1, hg1⟩ : ∃ g1, g1 = cntV L 1 (-2) pp := ⟨_, rfl⟩
            have GT : Hid (gotV L pp = (g1 : Nat)) := Lib.hid (by rw [hg1]; exact if_pos hp0)
            have HC1 := Lib.hid hg1.symm
            by_cases hq0 : 0 ≤ qq
            · have d5 : decide (0 ≤ qq) = true := decide_eq_true hq0
              obtain ⟨g2, hg2⟩ : ∃ g2, g2 = cntV L 1 pp qq := ⟨_, rfl⟩
              have GV : Hid (gaveV L pp qq = (g2 : Nat)) := Lib.hid (by rw [hg2]; exact if_pos ⟨hp0, hq0⟩)
              have HC2 := Lib.hid hg2.symm
              clear hp0 hq0 hg1 hg2
              go_wp2_with (first
                | (go_at_call 13; have _z := t20; refine (lrcount_any _ rb R n L t20.out.r HLN.out 1 pp qq).mono ?_; rintro e w21 ⟨rfl, b21⟩; rw [HC2.out]; have t21 := Lib.hid (t20.out.later b21); clear b21)
                | (go_at_call 13; refine (lrcount_any _ rb R n L HT.out.r HLN.out 1 (-2) pp).mono ?_; rintro e w20 ⟨rfl, b20⟩; rw [HC1.out]; have t20 := Lib.hid (HT.out.later b20); clear b20)
                | fail "no arm")
              have HTF := t21
              obtain ⟨ao, cap, x1, _⟩ := HTF.out.r.is
              rw [← HM.out] at x1
              have KR : Hid (∀ wl : World, TwoL O w wl H rb S R n L L → Hid (wl.heap[rb]? = some (.cells #[.int .i64 n, .slice ao m cap] 38 (0, 0))) → wl.cell? ⟨rb, 1, none⟩ = some (.slice ao m cap)) := Lib.hid (fun wl _ hx => cell_in hx.out rfl)
              have X1 := Lib.hid x1
              clear x1
              go_region_held3 (fun Y => Y.cell? ⟨rb, 1, none⟩ = some (.slice ao m cap))
                (first | exact cell_in xb3.out rfl | exact cell_in xb2.out rfl | exact cell_in xb1.out rfl | exact cell_in X1.out rfl | fail "no keep")
                (first
                | (go_at_call 17; have _z := tb2; refine (O.total _ H S n L tb2.out.h HLN.out).mono ?_; rintro e w33 ⟨rfl, b3⟩; rw [← HM.out]; have tb3 := Lib.hid (tb2.out.later b3); have xb3 := Lib.hid ((b3.block rb (tb2.out.r.lt rb tb2.out.r.own)).trans xb2.out); clear b3)
                | (go_at_call 16; have _z := tb1; refine (O.gave _ H S n L pp qq tb1.out.h HLN.out).mono ?_; rintro e w32 ⟨rfl, b2⟩; rw [GV.out]; have tb2 := Lib.hid (tb1.out.later b2); have xb2 := Lib.hid ((b2.block rb (tb1.out.r.lt rb tb1.out.r.own)).trans xb1.out); clear b2)
                | (go_at_call 15; refine (O.got _ H S n L pp (HTF.out.later (Below.refl _ _).drew).h HLN.out).mono ?_; rintro e w31 ⟨rfl, b1⟩; rw [GT.out]; have tb1 := Lib.hid ((HTF.out.later (Below.refl _ _).drew).later b1); have xb1 := Lib.hid ((b1.block rb (HTF.out.r.lt rb HTF.out.r.own)).trans X1.out); clear b1)
                | fail "no arm")
              go_wp2_with fail
              go_ret
              exact ⟨by simp, tb3.out.b⟩
            · have d5 : decide (0 ≤ qq) = false := decide_eq_false hq0
              have GV : Hid (gaveV L pp qq = 0) := Lib.hid (if_neg (by omega))
              clear hp0 hq0 hg1
              go_wp2_with (first
                | (go_at_call 13; refine (lrcount_any _ rb R n L HT.out.r HLN.out 1 (-2) pp).mono ?_; rintro e w20 ⟨rfl, b20⟩; rw [HC1.out]; have t20 := Lib.hid (HT.out.later b20); clear b20)
                | fail "no arm")
              have HTF := t20
              obtain ⟨ao, cap, x1, _⟩ := HTF.out.r.is
              rw [← HM.out] at x1
              have KR : Hid (∀ wl : World, TwoL O w wl H rb S R n L L → Hid (wl.heap[rb]? = some (.cells #[.int .i64 n, .slice ao m cap] 38 (0, 0))) → wl.cell? ⟨rb, 1, none⟩ = some (.slice ao m cap)) := Lib.hid (fun wl _ hx => cell_in hx.out rfl)
              have X1 := Lib.hid x1
              clear x1
              go_region_held3 (fun Y => Y.cell? ⟨rb, 1, none⟩ = some (.slice ao m cap))
                (first | exact cell_in xb3.out rfl | exact cell_in xb2.out rfl | exact cell_in xb1.out rfl | exact cell_in X1.out rfl | fail "no keep")
                (first
                | (go_at_call 17; have _z := tb2; refine (O.total _ H S n L tb2.out.h HLN.out).mono ?_; rintro e w33 ⟨rfl, b3⟩; rw [← HM.out]; have tb3 := Lib.hid (tb2.out.later b3); have xb3 := Lib.hid ((b3.block rb (tb2.out.r.lt rb tb2.out.r.own)).trans xb2.out); clear b3)
                | (go_at_call 16; have _z := tb1; refine (O.gave _ H S n L pp qq tb1.out.h HLN.out).mono ?_; rintro e w32 ⟨rfl, b2⟩; rw [GV.out]; have tb2 := Lib.hid (tb1.out.later b2); have xb2 := Lib.hid ((b2.block rb (tb1.out.r.lt rb tb1.out.r.own)).trans xb1.out); clear b2)
                | (go_at_call 15; refine (O.got _ H S n L pp (HTF.out.later (Below.refl _ _).drew).h HLN.out).mono ?_; rintro e w31 ⟨rfl, b1⟩; rw [GT.out]; have tb1 := Lib.hid ((HTF.out.later (Below.refl _ _).drew).later b1); have xb1 := Lib.hid ((b1.block rb (HTF.out.r.lt rb HTF.out.r.own)).trans X1.out); clear b1)
                | fail "no arm")
              go_wp2_with fail
              go_ret
              exact ⟨by simp, tb3.out.b⟩
          · have d4 : decide (0 ≤ pp) = false := decide_eq_false hp0
            have GT : Hid (gotV L pp = 0) := Lib.hid (if_neg hp0)
            have GV : Hid (gaveV L pp qq = 0) := Lib.hid (if_neg (by omega))
            clear hp0
            go_wp2_with fail
            have HTF := HT
            obtain ⟨ao, cap, x1, _⟩ := HTF.out.r.is
            rw [← HM.out] at x1
            have KR : Hid (∀ wl : World, TwoL O w wl H rb S R n L L → Hid (wl.heap[rb]? = some (.cells #[.int .i64 n, .slice ao m cap] 38 (0, 0))) → wl.cell? ⟨rb, 1, none⟩ = some (.slice ao m cap)) := Lib.hid (fun wl _ hx => cell_in hx.out rfl)
            have X1 := Lib.hid x1
            clear x1
            go_region_held3 (fun Y => Y.cell? ⟨rb, 1, none⟩ = some (.slice ao m cap))
              (first | exact cell_in xb3.out rfl | exact cell_in xb2.out rfl | exact cell_in xb1.out rfl | exact cell_in X1.out rfl | fail "no keep")
              (first
              | (go_at_call 17; have _z := tb2; refine (O.total _ H S n L tb2.out.h HLN.out).mono ?_; rintro e w33 ⟨rfl, b3⟩; rw [← HM.out]; have tb3 := Lib.hid (tb2.out.later b3); have xb3 := Lib.hid ((b3.block rb (tb2.out.r.lt rb tb2.out.r.own)).trans xb2.out); clear b3)
              | (go_at_call 16; have _z := tb1; refine (O.gave _ H S n L pp qq tb1.out.h HLN.out).mono ?_; rintro e w32 ⟨rfl, b2⟩; rw [GV.out]; have tb2 := Lib.hid (tb1.out.later b2); have xb2 := Lib.hid ((b2.block rb (tb1.out.r.lt rb tb1.out.r.own)).trans xb1.out); clear b2)
              | (go_at_call 15; refine (O.got _ H S n L pp (HTF.out.later (Below.refl _ _).drew).h HLN.out).mono ?_; rintro e w31 ⟨rfl, b1⟩; rw [GT.out]; have tb1 := Lib.hid ((HTF.out.later (Below.refl _ _).drew).later b1); have xb1 := Lib.hid ((b1.block rb (HTF.out.r.lt rb HTF.out.r.own)).trans X1.out); clear b1)
              | fail "no arm")
            go_wp2_with fail
            go_ret
            exact ⟨by simp, tb3.out.b⟩
end Go.Proofs.Ytikjahdnffklhaa
