/- fits, of the statements of chapter 20: is the demand of any time at most that time? -/
import Derived.Test.YtchbehnkkcjdgaaGreatDemandSum
import Derived.Test.YtchbehnkkcjdgaaGreatBoundProg
import Derived.Deep.CutRange
import Derived.Deep.CutBlock
namespace Go.Proofs.YtchbehnkkcjdgaaGreat
open Go.ChangeShapes Go.WideShapes Go.ChangeAt Go.RowKit
set_option linter.unusedVariables false
set_option linter.unusedSimpArgs false
/-- What fits tells when it tells true. -/
structure FitB (p : Pt) : Prop where
 ok : boundOk 1 p = true
 low : ∀ t : Int, 0 ≤ t → t < boundV 1 p → lowV p t ≤ t
 rate : rateV (hyperV 1 p) p false ≤ hyperV 1 p
set_option maxRecDepth 100000 in
set_option maxHeartbeats 8000000 in
theorem fits_any (ta sa da : Option Addr) (tn tc sn sc dn dc : Nat) (x0 x1 x2 : Int) (w : World) (hi : Nat) (p : Pt) (hp : PartAt w hi p ta sa tn tc sn sc) (ht2 : tn ≤ 20) (hs2 : sn ≤ 20) :
 Calls Tryz.prog 36 #[.agg #[.slice ta tn tc, .slice sa sn sc, .slice da dn dc, .int .u8 x0, .int .u8 x1, .int .u8 x2]] w fun e w' => ∃ fb, e = .returned (.bool fb) ∧ Hid (fb = true → FitB p) ∧ Below w.heap.size w w' := by
 obtain ⟨V, hV⟩ : ∃ V, V = w.alloc (.cells #[.slice ta tn tc, .slice sa sn sc, .slice da dn dc, .int .u8 x0, .int .u8 x1, .int .u8 x2] 37) := ⟨_, rfl⟩
 obtain ⟨E, hE⟩ : ∃ E, E = w.heap.size := ⟨_, rfl⟩
 have hEV : V.heap[E]? = some (.cells #[.slice ta tn tc, .slice sa sn sc, .slice da dn dc, .int .u8 x0, .int .u8 x1, .int .u8 x2] 37 (0, 0)) := by rw [hV, hE]; exact heap_alloc_new _ _
 have hbV : Below w.heap.size w V := by rw [hV]; exact below1 _ _
 have KS := Lib.hid (fun (Y : World) (hY : Below V.heap.size V Y) => by
  have h := (hY.block _ (lt_of_block hEV)).trans hEV
  exact (⟨cell_in h rfl, cell_in h rfl, cell_in h rfl, cell_in h rfl, cell_in h rfl, cell_in h rfl⟩ : Y.cell? ⟨E, 0, none⟩ = some (.slice ta tn tc) ∧ Y.cell? ⟨E, 1, none⟩ = some (.slice sa sn sc) ∧ Y.cell? ⟨E, 2, none⟩ = some (.slice da dn dc) ∧ Y.cell? ⟨E, 3, none⟩ = some (.int .u8 x0) ∧ Y.cell? ⟨E, 4, none⟩ = some (.int .u8 x1) ∧ Y.cell? ⟨E, 5, none⟩ = some (.int .u8 x2)))
 have KP : Hid (∀ Y : World, Below V.heap.size V Y → PartAt Y hi p ta sa tn tc sn sc) := Lib.hid (fun Y hY => hp.later (hbV.trans (hY.mono hbV.size)))
 have CB := Lib.hid (fun (Y : World) (hY : Below V.heap.size V Y) => bound_any 1 ta sa da tn tc sn sc dn dc x0 x1 x2 Y 0 hi p (by omega) (KP.out Y hY).etn (KP.out Y hY).esn (KP.out Y hY).ts (KP.out Y hY).ss (KP.out Y hY).le (by omega) (by omega))
 have CH := Lib.hid (fun (Y : World) (hY : Below V.heap.size V Y) => hyper_any 1 ta sa da tn tc sn sc dn dc x0 x1 x2 Y 0 hi p (by omega) (KP.out Y hY).etn (KP.out Y hY).esn (KP.out Y hY).ts (KP.out Y hY).ss (KP.out Y hY).le (by omega) (by omega))
 have CLo := Lib.hid (fun (Y : World) (hY : Below V.heap.size V Y) (t : Int) => low_any ta sa da tn tc sn sc dn dc x0 x1 x2 t Y hi p (KP.out Y hY) ht2 hs2)
 have CHi := Lib.hid (fun (Y : World) (hY : Below V.heap.size V Y) (t : Int) => high_any ta sa da tn tc sn sc dn dc x0 x1 x2 t Y hi p (KP.out Y hY) ht2 hs2)
 have CR := Lib.hid (fun (Y : World) (hY : Below V.heap.size V Y) (t : Int) (b : Bool) => rate_any ta sa da tn tc sn sc dn dc x0 x1 x2 t b Y hi p (KP.out Y hY) ht2 hs2)
 obtain ⟨z0, z1, z2, z3, z4, z5⟩ := KS.out V (Below.refl _ _)
 have HB := Lib.hid hbV
 have HV := Lib.hid hV
 have HE := Lib.hid hE
 have hbd : 0 ≤ boundV 1 p ∧ boundV 1 p ≤ 65536 := by
  have := farV_bd p
  unfold boundV
  split
  ·rename_i hb
   unfold boundOk at hb
   rw [Bool.and_eq_true, decide_eq_true_eq] at hb
   have := hyper_ok hb.1
   omega
  ·omega
 obtain ⟨bo, hbo⟩ : ∃ bo, bo = boundOk 1 p := ⟨_, rfl⟩
 obtain ⟨n, hn⟩ : ∃ n, n = boundV 1 p := ⟨_, rfl⟩
 rw [← hn] at hbd
 have HBO := Lib.hid hbo.symm
 have HNB := Lib.hid hn.symm
 clear hp hV hE hEV hbV hbo hn
 cases bo with
 | false =>
   go_enter Tryz.func36, Tryz.ntmps36
   go_upto_region 1 with fail
   rw [← HV.out, ← HE.out]
   go_wp2_with (first
    | (go_at_call 82; refine (CB.out V (Below.refl _ _)).mono ?_; rintro e w1 ⟨rfl, b1⟩; rw [HNB.out, HBO.out]; have hb1 := Lib.hid b1; clear b1)
    | fail "no arm")
   go_ret
   exact ⟨false, rfl, Lib.hid (fun h => by cases h), HB.out.trans (hb1.out.mono HB.out.size)⟩
 | true =>
   by_cases hbig : 600 < n
   ·have t0 : decide ((600 : Int) < n) = true := decide_eq_true hbig
    go_enter Tryz.func36, Tryz.ntmps36
    go_upto_region 1 with fail
    rw [← HV.out, ← HE.out]
    go_wp2_with (first
     | (go_at_call 82; refine (CB.out V (Below.refl _ _)).mono ?_; rintro e w1 ⟨rfl, b1⟩; rw [HNB.out, HBO.out]; have hb1 := Lib.hid b1; clear b1)
     | fail "no arm")
    go_ret
    exact ⟨false, rfl, Lib.hid (fun h => by cases h), HB.out.trans (hb1.out.mono HB.out.size)⟩
   ·have t0 : decide ((600 : Int) < n) = false := decide_eq_false hbig
    obtain ⟨m, rfl⟩ : ∃ m : Nat, n = m := Int.eq_ofNat_of_zero_le hbd.1
    go_enter Tryz.func36, Tryz.ntmps36
    go_upto_region 1 with fail
    rw [← HV.out, ← HE.out]
    go_wp2_with (first
     | (go_at_call 82; refine (CB.out V (Below.refl _ _)).mono ?_; rintro e w1 ⟨rfl, b1⟩; rw [HNB.out, HBO.out]; have hb1 := Lib.hid b1; clear b1)
     | fail "no arm")
    clear z0 z1 z2 z3 z4 z5
    go_loopw [5] (fun s wr => ∃ k : Nat, k ≤ m ∧ s = .int .i64 k ∧ Hid (∀ t : Int, 0 ≤ t → t < k → lowV p t ≤ t) ∧ Hid (Below V.heap.size V wr)) (fun s _ => m - (intOf s).toNat)
    case atStart => exact ⟨0, Nat.zero_le _, rfl, Lib.hid (fun t h1 h2 => by omega), hb1⟩
    case round =>
     obtain ⟨k, hk, rfl, HL, HB2⟩ := hrel
     obtain ⟨z0, z1, z2, z3, z4, z5⟩ := KS.out wr HB2.out
     by_cases hlt : k < m
     ·have d0 : decide ((k : Int) < (m : Int)) = true := decide_eq_true (by omega)
      obtain ⟨lo, hlo⟩ : ∃ lo, lo = lowV p (k : Int) := ⟨_, rfl⟩
      have HLO := Lib.hid hlo.symm
      clear hlo
      by_cases h1 : (k : Int) < lo
      ·have t1 : decide ((k : Int) < lo) = true := decide_eq_true h1
       go_wp2_with (first
        | (go_at_call 83; refine (CLo.out _ HB2.out _).mono ?_; rintro e w3 ⟨rfl, b3⟩; rw [HLO.out]; have hb3 := Lib.hid (HB2.out.trans (b3.mono HB2.out.size)); clear b3)
        | fail "no arm")
       go_ret
       exact ⟨false, rfl, Lib.hid (fun h => by cases h), HB.out.trans (hb3.out.mono HB.out.size)⟩
      ·have t1 : decide ((k : Int) < lo) = false := decide_eq_false h1
       obtain ⟨hv, hhv⟩ : ∃ hv, hv = highV p (k : Int) := ⟨_, rfl⟩
       have HHV := Lib.hid hhv.symm
       clear hhv
       by_cases h2 : (k : Int) < hv
       ·have t2 : decide ((k : Int) < hv) = true := decide_eq_true h2
        go_wp2_with (first
         | (go_at_call 84; have _z := hb3; refine (CHi.out _ hb3.out _).mono ?_; rintro e w4 ⟨rfl, b4⟩; rw [HHV.out]; have hb4 := Lib.hid (hb3.out.trans (b4.mono hb3.out.size)); clear b4)
         | (go_at_call 83; refine (CLo.out _ HB2.out _).mono ?_; rintro e w3 ⟨rfl, b3⟩; rw [HLO.out]; have hb3 := Lib.hid (HB2.out.trans (b3.mono HB2.out.size)); obtain ⟨z0, z1, z2, z3, z4, z5⟩ := KS.out w3 hb3.out; clear b3)
         | fail "no arm")
        go_ret
        exact ⟨false, rfl, Lib.hid (fun h => by cases h), HB.out.trans (hb4.out.mono HB.out.size)⟩
       ·have t2 : decide ((k : Int) < hv) = false := decide_eq_false h2
        go_wp2_with (first
         | (go_at_call 84; have _z := hb3; refine (CHi.out _ hb3.out _).mono ?_; rintro e w4 ⟨rfl, b4⟩; rw [HHV.out]; have hb4 := Lib.hid (hb3.out.trans (b4.mono hb3.out.size)); clear b4)
         | (go_at_call 83; refine (CLo.out _ HB2.out _).mono ?_; rintro e w3 ⟨rfl, b3⟩; rw [HLO.out]; have hb3 := Lib.hid (HB2.out.trans (b3.mono HB2.out.size)); obtain ⟨z0, z1, z2, z3, z4, z5⟩ := KS.out w3 hb3.out; clear b3)
         | fail "no arm")
        go_roundw
        case rel => exact ⟨k + 1, by omega, by go_num, Lib.hid (fun t g1 g2 => by
         by_cases e : t = k
         ·rw [e, HLO.out]; omega
         ·exact HL.out t g1 (by omega)), hb4⟩
        case measure => simp [intOf]; omega
     ·have d0 : decide ((k : Int) < (m : Int)) = false := decide_eq_false (by omega)
      obtain ⟨hy, hhy⟩ : ∃ hy, hy = hyperV 1 p := ⟨_, rfl⟩
      have HHY := Lib.hid hhy.symm
      obtain ⟨r1, hr1⟩ : ∃ r1, r1 = rateV hy p false := ⟨_, rfl⟩
      obtain ⟨r2, hr2⟩ : ∃ r2, r2 = rateV hy p true := ⟨_, rfl⟩
      have HR1 := Lib.hid hr1.symm
      have HR2 := Lib.hid hr2.symm
      have HKM : Hid (k = m) := Lib.hid (by omega)
      clear hhy hr1 hr2
      by_cases h1 : r1 ≤ hy
      ·have t1 : decide (r1 ≤ hy) = true := decide_eq_true h1
       go_wp2_with (first
        | (go_at_call 86; have _z := hb6; refine (CR.out _ hb6.out _ _).mono ?_; rintro e w7 ⟨rfl, b7⟩; rw [HR2.out]; have hb7 := Lib.hid (hb6.out.trans (b7.mono hb6.out.size)); clear b7)
        | (go_at_call 86; have _z := hb5; refine (CR.out _ hb5.out _ _).mono ?_; rintro e w6 ⟨rfl, b6⟩; rw [HR1.out]; have hb6 := Lib.hid (hb5.out.trans (b6.mono hb5.out.size)); obtain ⟨z0, z1, z2, z3, z4, z5⟩ := KS.out w6 hb6.out; clear b6)
        | (go_at_call 85; refine (CH.out _ HB2.out).mono ?_; rintro e w5 ⟨rfl, b5⟩; rw [HHY.out]; have hb5 := Lib.hid (HB2.out.trans (b5.mono HB2.out.size)); obtain ⟨z0, z1, z2, z3, z4, z5⟩ := KS.out w5 hb5.out; clear b5)
        | fail "no arm")
       go_ret
       exact ⟨_, rfl, Lib.hid (fun _ => ⟨HBO.out, fun t g1 g2 => HL.out t g1 (by rw [HNB.out] at g2; have := HKM.out; omega), by rw [HHY.out, HR1.out]; exact h1⟩), HB.out.trans (hb7.out.mono HB.out.size)⟩
      ·have t1 : decide (r1 ≤ hy) = false := decide_eq_false h1
       go_wp2_with (first
        | (go_at_call 86; have _z := hb5; refine (CR.out _ hb5.out _ _).mono ?_; rintro e w6 ⟨rfl, b6⟩; rw [HR1.out]; have hb6 := Lib.hid (hb5.out.trans (b6.mono hb5.out.size)); clear b6)
        | (go_at_call 85; refine (CH.out _ HB2.out).mono ?_; rintro e w5 ⟨rfl, b5⟩; rw [HHY.out]; have hb5 := Lib.hid (HB2.out.trans (b5.mono HB2.out.size)); obtain ⟨z0, z1, z2, z3, z4, z5⟩ := KS.out w5 hb5.out; clear b5)
        | fail "no arm")
       go_ret
       exact ⟨false, rfl, Lib.hid (fun h => by cases h), HB.out.trans (hb6.out.mono HB.out.size)⟩
end Go.Proofs.YtchbehnkkcjdgaaGreat
