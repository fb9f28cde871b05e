/- HealthPlays. -/
import Derived.Test.YtndpodkgdinijaaLawTwentyTwoA
import Derived.Deep.RegionHeld3
namespace Go.Proofs.Ytndpodkgdinijaa
open Go.ChangeShapes Go.WideShapes Go.ChangeAt Go.RowKit
set_option linter.unusedVariables false

theorem cell_same22 {w w' : World} {b o : Nat} (h : w'.heap[b]? = w.heap[b]?) : w'.cell? ⟨b, o, none⟩ = w.cell? ⟨b, o, none⟩ := by unfold World.cell?; simp only [h]
def l22 (l : List Int) (i : Nat) : Int := l.getD i 0
theorem ints22_read {w : World} {a : Option Addr} {n c : Nat} {l : List Int} (hn : l.length = n) (hl : Lies w 0 w.heap.size (.slice a n c) n 1 (l.flatMap intCells)) : ∀ Y : World, (∀ b, b < w.heap.size → Y.heap[b]? = w.heap[b]?) → ∀ i, i < n → ∃ b off, a = some ⟨b, off, none⟩ ∧ Y.cell? ⟨b, off + i, none⟩ = some (.int .i64 (l22 l i)) ∧ b < w.heap.size := by
  intro Y hY i hi
  have hx : l[i]? = some (l22 l i) := by unfold l22; rw [List.getD_eq_getElem?_getD, List.getElem?_eq_getElem (by omega)]; rfl
  obtain ⟨a', c', e, _, _, hc⟩ := hl.keep (w' := Y) (fun b _ h2 => hY b h2)
  cases e
  rcases hc with h0 | ⟨b, off, rfl, _, hb, hc⟩
  · omega
  · have := hc _ _ (flat_at intCells 1 (fun _ => rfl) l i 0 _ hx (by omega))
    exact ⟨b, off, rfl, by simpa using this, hb⟩
/-- Both monitors, alike, behind some faults: no count is above n. -/
structure Mon2 (w : World) (a b c : Int) (H R : Nat) (n : Nat) (x y z : Int) (W : World) : Prop where
  h : HmAt H a b c x y z W
  r : HrAt R a b c x y z W
  hH : w.heap.size ≤ H
  hR : w.heap.size ≤ R
  ne : H ≠ R
  b : Below w.heap.size w W
  lim : (0 ≤ x ∧ x ≤ n) ∧ (0 ≤ y ∧ y ≤ n) ∧ (0 ≤ z ∧ z ≤ n)
theorem bump_lim {k j v : Int} {n : Nat} (h : 0 ≤ v ∧ v ≤ n) : 0 ≤ bumpV k j v ∧ bumpV k j v ≤ ((n + 1 : Nat) : Int) := by
  unfold bumpV
  split <;> omega
theorem Mon2.later {w : World} {a b c : Int} {H R n : Nat} {x y z : Int} {W W' : World} (m : Mon2 w a b c H R n x y z W) (hb : Below W.heap.size W W') : Mon2 w a b c H R n x y z W' := ⟨(hb.block _ (lt_of_block m.h)).trans m.h, (hb.block _ (lt_of_block m.r)).trans m.r, m.hH, m.hR, m.ne, m.b.trans (hb.mono m.b.size), m.lim⟩
theorem Mon2.prog {w : World} {a b c : Int} {H R n : Nat} {x y z k : Int} {W W' : World} (m : Mon2 w a b c H R n x y z W) (h : HmAt H a b c (bumpV k 0 x) (bumpV k 1 y) (bumpV k 2 z) W') (hb : But H W W') :
    HmAt H a b c (bumpV k 0 x) (bumpV k 1 y) (bumpV k 2 z) W' ∧ HrAt R a b c x y z W' ∧ Below w.heap.size w W' := ⟨h, hb.at m.r (Ne.symm m.ne), m.b.trans (hb.below m.hH m.b.size)⟩

set_option maxRecDepth 100000 in
set_option maxHeartbeats 8000000 in
theorem HealthPlays_walk (a b c : Int) (a1 : Option Addr) (n1 c1 : Nat) (w : World) (l1 : List Int) (hn1 : l1.length = n1) (hl1 : Lies w 0 w.heap.size (.slice a1 n1 c1) n1 1 (l1.flatMap intCells)) (hi1 : ∀ x ∈ l1, I64 x) :
    Calls Try.prog 3 #[.agg #[.int .u8 a, .int .u8 b, .int .u8 c], .slice a1 n1 c1] w fun e w' => e = .returned (.bool true) ∧ Below w.heap.size w w' := by
  obtain ⟨V, hV⟩ : ∃ V, V = w.alloc (.cells #[.int .u8 a, .int .u8 b, .int .u8 c] 22) := ⟨_, rfl⟩
  obtain ⟨E, hE⟩ : ∃ E, E = w.heap.size := ⟨_, rfl⟩
  have hbV : Below w.heap.size w V := by rw [hV]; exact below1 _ _
  have hEV : V.heap[E]? = some (.cells #[.int .u8 a, .int .u8 b, .int .u8 c] 22 (0, 0)) := by rw [hV, hE]; exact heap_alloc_new _ _
  have KS : Hid (∀ Y : World, Below V.heap.size V Y → Y.cell? ⟨E, 0, none⟩ = some (.int .u8 a) ∧ Y.cell? ⟨E, 1, none⟩ = some (.int .u8 b) ∧ Y.cell? ⟨E, 2, none⟩ = some (.int .u8 c)) := Lib.hid (fun Y hY => ⟨cell_in ((hY.block _ (lt_of_block hEV)).trans hEV) rfl, cell_in ((hY.block _ (lt_of_block hEV)).trans hEV) rfl, cell_in ((hY.block _ (lt_of_block hEV)).trans hEV) rfl⟩)
  have KL := Lib.hid (ints22_read hn1 hl1)
  have HBV := Lib.hid hbV
  have HV := Lib.hid hV
  have HEE := Lib.hid hE
  have HK := Lib.hid (knows22_any V)
  have HEQ : ∀ W : World, (Op.equalIn 10000 22 (.agg #[.int .u8 a, .int .u8 b, .int .u8 c]) (.agg #[.int .u8 a, .int .u8 b, .int .u8 c])).run Try.prog W = .ok true W := fun W => eqInA3 a b c W
  have hM : Try.prog.eqGuardType Try.prog.depth 22 = false := by kernel_rfl
  clear hV hE hbV hl1 hn1 hEV hi1
  by_cases hbig : 200 < n1
  · have t1 : decide ((200 : Int) < (n1 : Int)) = true := decide_eq_true (by omega)
    clear hbig HEQ hM
    go_enter Try.func3, Try.ntmps3
    go_upto_region 1 with fail
    rw [← HV.out, ← HEE.out]
    go_wp2_with (go_at_call 5; refine HK.out.mono ?_; rintro e w3 ⟨rfl, hb3⟩)
    go_ret
    exact ⟨rfl, HBV.out.trans (hb3.mono HBV.out.size)⟩
  have t1 : decide ((200 : Int) < (n1 : Int)) = false := decide_eq_false (by omega)
  have hs1 : n1 ≤ 200 := by omega
  clear hbig

  by_cases hok : a ≤ 2 ∧ b ≤ 2 ∧ c ≤ 2
  · have hoA : okActs a b c = true := (okActs_iff a b c).2 hok
    have HN := Lib.hid (fun W : World => hnew_yes W a b c hoA)
    have HR := Lib.hid (fun W : World => rnew22_yes W a b c hok)
    clear hok hoA
    go_enter Try.func3, Try.ntmps3
    go_upto_region 1 with fail
    rw [← HV.out, ← HEE.out]
    go_upto_region 5 with (first
      | (go_at_call 7; have _z := hb2; refine (HR.out _).mono ?_; rintro e w3 ⟨R, rfl, r3', hR', hb3'⟩; have hb3 := Lib.hid (hb2.out.trans (hb3'.mono hb2.out.size)); have h3 : Hid (HmAt H a b c 0 0 0 w3) := Lib.hid ((hb3'.block _ (lt_of_block h2.out)).trans h2.out); have r3 := Lib.hid r3'; have hR := Lib.hid (And.intro hR' (lt_of_block h2.out)); clear r3' hR' hb3')
      | (go_at_call 6; have _z := hb1; refine (HN.out _).mono ?_; rintro e w2 ⟨H, rfl, h2', hH', hb2'⟩; have hb2 := Lib.hid (hb1.out.trans (hb2'.mono hb1.out.size)); have h2 := Lib.hid h2'; have hH := Lib.hid hH'; obtain ⟨m3, m4, m5⟩ := KS.out _ hb2.out; clear h2' hH' hb2')
      | (go_at_call 5; refine HK.out.mono ?_; rintro e w1 ⟨rfl, hb1'⟩; have hb1 := Lib.hid hb1'; obtain ⟨m0, m1, m2⟩ := KS.out _ hb1'; clear hb1')
      | fail "no arm")
    have HT3 : Hid (Mon2 V a b c H R 0 0 0 0 w3) := Lib.hid ⟨h3.out, r3.out, Nat.le_trans hb1.out.size hH.out, Nat.le_trans hb2.out.size hR.out.1, by have := hR.out.1; have := hR.out.2; omega, hb3.out, by omega⟩
    clear h2 hH hb2 h3 r3 hR hb3 hb1 m0 m1 m2 m3 m4 m5
    go_wp2_with fail
    go_loopw [7] (fun s wr => ∃ (k : Nat) (x y z : Int), k ≤ n1 ∧ s = .int .i64 k ∧ Hid (Mon2 V a b c H R k x y z wr)) (fun s _ => n1 - (intOf s).toNat)
    case atStart => exact ⟨0, 0, 0, 0, Nat.zero_le _, rfl, HT3⟩
    case round =>
      clear HT3
      obtain ⟨k, x, y, z, hk, rfl, HT⟩ := hrel
      by_cases hlt : k < n1
      · have d0 : decide ((k : Int) < (n1 : Int)) = true := decide_eq_true (by omega)
        have d1 : (0 : Int) ≤ (k : Int) := by omega
        have d2 : (k : Int) < (n1 : Int) := by omega
        obtain ⟨bb, off, rfl, x0, hbb⟩ := KL.out wr (fun b hb => ((HBV.out.trans (HT.out.b.mono HBV.out.size)).block b hb)) k hlt
        obtain ⟨kd, hkd⟩ : ∃ kd, kd = l22 l1 k := ⟨_, rfl⟩
        rw [← hkd] at x0
        clear hkd
        obtain ⟨s0, s1, s2⟩ := KS.out _ HT.out.b
        have hlim := HT.out.lim
        have HF := Lib.hid (hfault_any wr H a b c x y z kd HT.out.h (by omega))
        obtain ⟨av, hav⟩ : ∃ av, av = actV kd a b c := ⟨_, rfl⟩
        obtain ⟨ev, hev⟩ : ∃ ev, ev = kndE kd := ⟨_, rfl⟩
        have HAV := Lib.hid hav
        have HEV := Lib.hid hev
        have HLB := Lib.hid hlim
        have HKS2 : Hid (∀ Y : World, Below V.heap.size V Y → Y.cell? ⟨bb, off + k, none⟩ = some (.int .i64 kd)) := Lib.hid (fun Y hY => by
          have h1 := HT.out.b.block bb (Nat.lt_of_lt_of_le hbb HBV.out.size)
          have h2 := hY.block bb (Nat.lt_of_lt_of_le hbb HBV.out.size)
          rw [cell_same22 (h2.trans h1.symm)]
          exact x0)
        clear hav hev hlim
        have d3 : k ≤ 200 := by omega
        go_upto_region 12 with (first
          | (go_at_call 9; have _z := q4; refine (rfault_any _ R a b c x y z kd q4.out.2.1 (by have := HLB.out; omega)).mono ?_; rintro e w5 ⟨rfl, r5', hb5'⟩; rw [← HAV.out, ← HEV.out]; have t5 : Hid (Mon2 V a b c H R (k + 1) (bumpV kd 0 x) (bumpV kd 1 y) (bumpV kd 2 z) w5) := Lib.hid ⟨hb5'.at q4.out.1 HT.out.ne, r5', HT.out.hH, HT.out.hR, HT.out.ne, q4.out.2.2.trans (hb5'.below HT.out.hR q4.out.2.2.size), bump_lim HLB.out.1, bump_lim HLB.out.2.1, bump_lim HLB.out.2.2⟩; obtain ⟨y0, y1, y2⟩ := KS.out _ t5.out.b; clear r5' hb5')
          | (go_at_call 8; refine HF.out.mono ?_; rintro e w4 ⟨rfl, h4', hb4'⟩; rw [← HAV.out, ← HEV.out]; have q4 := Lib.hid (HT.out.prog h4' hb4'); have z0 := HKS2.out _ q4.out.2.2; clear h4' hb4')
          | fail "no arm")
        go_region_held3 (fun Y => Y.cell? ⟨E, 0, none⟩ = some (.int .u8 a) ∧ Y.cell? ⟨E, 1, none⟩ = some (.int .u8 b) ∧ Y.cell? ⟨E, 2, none⟩ = some (.int .u8 c))
          (first | exact KS.out _ t6.out.b | exact KS.out _ (t5.out.b.trans (Below.refl _ _).drew) | exact KS.out _ t5.out.b | fail "no")
          (first
          | (go_at_call 10; refine (hnum_any _ _).mono ?_; rintro e w9 ⟨rfl, hw9⟩; rw [hw9]; clear hw9)
          | (go_at_call 11; refine (hacts_any _ H a b c _ _ _ (t5.out.later (Below.refl _ _).drew).h).mono ?_; rintro e w6 ⟨rfl, hb6'⟩; have t6 := Lib.hid ((t5.out.later (Below.refl _ _).drew).later hb6'); clear hb6')
          | fail "no arm")
        go_wp2_with fail
        go_roundw
        case rel => exact ⟨k + 1, _, _, _, by omega, by go_num, t6⟩
        case measure => simp [intOf]; omega
      · have d0 : decide ((k : Int) < (n1 : Int)) = false := decide_eq_false (by omega)
        obtain ⟨wo, hwo⟩ : ∃ wo, wo = wr := ⟨_, rfl⟩
        subst hwo
        have HM := Lib.hid (And.intro HT.out.h HT.out.r)
        have HBE := Lib.hid (HBV.out.trans (HT.out.b.mono HBV.out.size))
        have HC : Hid (∀ W : World, W.heap = wo.heap → W.cell? ⟨R, 3, none⟩ = some (.int .i64 x) ∧ W.cell? ⟨R, 4, none⟩ = some (.int .i64 y) ∧ W.cell? ⟨R, 5, none⟩ = some (.int .i64 z)) := Lib.hid (fun W hW => by
          have h : W.heap[R]? = _ := (congrArg (fun h => h[R]?) hW).trans HM.out.2
          exact ⟨cell_in h rfl, cell_in h rfl, cell_in h rfl⟩)
        have HA : ∀ W : World, W.heap = wo.heap → HmAt H a b c x y z W := fun W hW => (congrArg (fun h => h[H]?) hW).trans HM.out.1
        have C0 := Lib.hid (fun (W : World) (hW : W.heap = wo.heap) => hcount_0 W H a b c x y z (HA W hW))
        have C1 := Lib.hid (fun (W : World) (hW : W.heap = wo.heap) => hcount_1 W H a b c x y z (HA W hW))
        have C2 := Lib.hid (fun (W : World) (hW : W.heap = wo.heap) => hcount_2 W H a b c x y z (HA W hW))
        have C3 := Lib.hid (fun (W : World) (hW : W.heap = wo.heap) => hcount_any W H a b c x y z 3 (HA W hW))
        have C4 := Lib.hid (fun (W : World) (hW : W.heap = wo.heap) => hcount_any W H a b c x y z (-1) (HA W hW))
        clear HT HA
        go_wp2_with fail
        go_loopw [12] (fun s wx => Hid (wx.heap = wo.heap ∧ Below wo.heap.size wo wx) ∧ ∃ j : Int, 0 ≤ j ∧ j ≤ 3 ∧ s = .int .i64 j) (fun s _ => 3 - (intOf s).toNat)
        case atStart => exact ⟨Lib.hid ⟨rfl, Below.refl _ _⟩, 0, by omega, by omega, rfl⟩
        case round =>
          obtain ⟨HX, j, hj0, hj, rfl⟩ := hrel
          have hj4 : j = 0 ∨ j = 1 ∨ j = 2 ∨ j = 3 := by omega
          rcases hj4 with rfl | rfl | rfl | rfl

          · obtain ⟨c0, c1, c2⟩ := HC.out _ HX.out.1
            go_upto_region 17 with fail
            go_region_held3 (fun Y => Y.cell? ⟨R, 3, none⟩ = some (.int .i64 x))
              (first | exact c0 | fail "no")
              (first
              | (go_at_call 12; refine (C0.out _ (by exact HX.out.1)).mono ?_; rintro e w9 ⟨rfl, hw9⟩; rw [hw9]; clear hw9)
              | fail "no arm")
            go_wp2_with fail
            go_roundw
            case rel => exact ⟨Lib.hid ⟨HX.out.1, HX.out.2.drew⟩, 1, by omega, by omega, by go_num⟩
            case measure => simp [intOf]
          · obtain ⟨c0, c1, c2⟩ := HC.out _ HX.out.1
            go_upto_region 17 with fail
            go_region_held3 (fun Y => Y.cell? ⟨R, 4, none⟩ = some (.int .i64 y))
              (first | exact c1 | fail "no")
              (first
              | (go_at_call 12; refine (C1.out _ (by exact HX.out.1)).mono ?_; rintro e w9 ⟨rfl, hw9⟩; rw [hw9]; clear hw9)
              | fail "no arm")
            go_wp2_with fail
            go_roundw
            case rel => exact ⟨Lib.hid ⟨HX.out.1, HX.out.2.drew⟩, 2, by omega, by omega, by go_num⟩
            case measure => simp [intOf]
          · obtain ⟨c0, c1, c2⟩ := HC.out _ HX.out.1
            go_upto_region 17 with fail
            go_region_held3 (fun Y => Y.cell? ⟨R, 5, none⟩ = some (.int .i64 z))
              (first | exact c2 | fail "no")
              (first
              | (go_at_call 12; refine (C2.out _ (by exact HX.out.1)).mono ?_; rintro e w9 ⟨rfl, hw9⟩; rw [hw9]; clear hw9)
              | fail "no arm")
            go_wp2_with fail
            go_roundw
            case rel => exact ⟨Lib.hid ⟨HX.out.1, HX.out.2.drew⟩, 3, by omega, by omega, by go_num⟩
            case measure => simp [intOf]
          · go_wp2_with (first
              | (go_at_call 12; have _z := HDONE; refine (C4.out _ (by exact HX.out.1)).mono ?_; rintro e w9 ⟨rfl, hw9⟩; rw [hw9]; clear hw9)
              | (go_at_call 12; refine (C3.out _ (by exact HX.out.1)).mono ?_; rintro e w9 ⟨rfl, hw9⟩; rw [hw9]; have HDONE := trivial; clear hw9)
              | fail "no arm")
            go_ret
            exact ⟨rfl, HBE.out.trans (HX.out.2.mono HBE.out.size)⟩
  · have hoA : okActs a b c = false := by
      cases h : okActs a b c with
      | false => rfl
      | true => exact absurd ((okActs_iff a b c).1 h) hok
    have HN := Lib.hid (fun W : World => hnew_no W a b c hoA)
    have HR : Hid (∀ W : World, Calls Try.prog 7 #[.agg #[.int .u8 a, .int .u8 b, .int .u8 c]] W fun e w' => e = .returned (.pointer none) ∧ Below W.heap.size W w') := Lib.hid (fun W => by
      rcases (show 2 < a ∨ (a ≤ 2 ∧ 2 < b) ∨ (a ≤ 2 ∧ b ≤ 2 ∧ 2 < c) by omega) with h | h | h
      · exact rnew22_noa W a b c h
      · exact rnew22_nob W a b c h
      · exact rnew22_noc W a b c h)
    have C3 := Lib.hid (fun W : World => hcount_no W none 3 (Lib.hid (hknows_nil W 3)))
    have C4 := Lib.hid (fun W : World => hcount_no W none (-1) (Lib.hid (hknows_nil W (-1))))
    clear hok hoA HEQ hM
    go_enter Try.func3, Try.ntmps3
    go_upto_region 1 with fail
    rw [← HV.out, ← HEE.out]
    go_upto_region 5 with (first
      | (go_at_call 7; have _z := hb2; refine (HR.out _).mono ?_; rintro e w3 ⟨rfl, hb3'⟩; have hb3 := Lib.hid (hb2.out.trans (hb3'.mono hb2.out.size)); clear hb3')
      | (go_at_call 6; have _z := hb1; refine (HN.out _).mono ?_; rintro e w2 ⟨rfl, hb2'⟩; have hb2 := Lib.hid (hb1.out.trans (hb2'.mono hb1.out.size)); obtain ⟨m3, m4, m5⟩ := KS.out _ hb2.out; clear hb2')
      | (go_at_call 5; refine HK.out.mono ?_; rintro e w1 ⟨rfl, hb1'⟩; have hb1 := Lib.hid hb1'; obtain ⟨m0, m1, m2⟩ := KS.out _ hb1'; clear hb1')
      | fail "no arm")
    have HBE := Lib.hid (HBV.out.trans (hb3.out.mono HBV.out.size))
    clear hb2 hb3 hb1 m0 m1 m2 m3 m4 m5
    obtain ⟨tt, htt⟩ : ∃ tt, decide ((0 : Int) < (n1 : Int)) = tt := ⟨_, rfl⟩
    have htn : decide (0 < n1) = tt := by rw [← htt]; congr 1; exact propext ⟨fun h => by omega, fun h => by omega⟩
    clear t1 hs1
    cases tt
    all_goals
      go_wp2_with fail
      go_loopw [7] (fun s wx => w3 = wx ∧ s = .int .i64 0) (fun s _ => 0)
      case atStart => exact ⟨rfl, rfl⟩
      case round =>
        obtain ⟨hw, rfl⟩ := hrel
        subst hw
        go_wp2_with fail
        go_loopw [12] (fun s wx => Hid (w3 = wx) ∧ ∃ j : Int, 0 ≤ j ∧ j ≤ 0 ∧ s = .int .i64 j) (fun s _ => 0)
        case atStart => exact ⟨Lib.hid rfl, 0, by omega, by omega, rfl⟩
        case round =>
          obtain ⟨hw, j, hj0, hj1, rfl⟩ := hrel
          obtain rfl : j = 0 := by omega
          have hw' := hw.out
          clear hw
          subst hw'
          go_wp2_with (first
            | (go_at_call 12; have _z := HDONE; refine (C4.out _).mono ?_; rintro e w9 ⟨rfl, hw9⟩; rw [hw9]; clear hw9)
            | (go_at_call 12; refine (C3.out _).mono ?_; rintro e w9 ⟨rfl, hw9⟩; rw [hw9]; have HDONE := trivial; clear hw9)
            | fail "no arm")
          go_ret
          exact ⟨rfl, HBE.out⟩
end Go.Proofs.Ytndpodkgdinijaa
