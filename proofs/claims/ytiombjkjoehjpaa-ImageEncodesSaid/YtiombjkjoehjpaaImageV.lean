/- A partition put into the document's writer. -/
import Derived.Test.YtiombjkjoehjpaaImageU
import Derived.Test.YtiombjkjoehjpaaImageE
import Derived.Deep.CutBlock
import Derived.Deep.CutRange
namespace Go.Proofs.Ytiombjkjoehjpaa
open Go.ChangeShapes Go.WideShapes Go.ChangeAt Go.RowKit
set_option linter.unusedVariables false

/-- There is room for these, too (the document's writer). -/
def RoomR (s : Option (List Fl)) (l : List Fl) : Prop := ∀ fs, s = some fs → szL fs + szL l ≤ 1099511627776
theorem RoomR.left {s : Option (List Fl)} {a b : List Fl} (h : RoomR s (a ++ b)) : RoomR s a := fun fs e => by
  have := h fs e; rw [szL_append] at this; omega
theorem RoomR.right {s : Option (List Fl)} {a b : List Fl} (h : RoomR s (a ++ b)) : RoomR (putS s a) b := fun fs e => by
  cases s with
  | none => cases e
  | some x =>
    have h1 := h x rfl
    rw [szL_append] at h1
    unfold putS at e
    simp only at e
    split at e
    · cases e; rw [szL_append]; omega
    · cases e
theorem RoomR.at {α : Type} {s : Option (List Fl)} {f : α → List Fl} {l : List α} (h : RoomR s (manyF f l)) {k : Nat} {x : α} (hx : l[k]? = some x) : RoomR (putS s (headF f l k)) (f x) := by
  rw [headF_split f l (k + 1), headF_next f l k x hx, List.append_assoc] at h
  exact h.right.left
theorem RoomR.head {α : Type} {s : Option (List Fl)} {f : α → List Fl} {l : List α} (h : RoomR s (manyF f l)) : RoomR s (headF f l 0) := by
  rw [headF_split f l 0] at h; exact h.left
theorem flag_any (b : Bool) (w : World) : Calls Try.prog 25 #[.bool b] w fun e w' => e = .returned (.int .i64 (flagV b)) ∧ w = w' := by
  cases b
  all_goals
    go_enter Try.func25, Try.ntmps25
    go_wp2_with fail
    go_ret
    exact ⟨rfl, rfl⟩
theorem rput_new (X : Nat) (s : Option (List Fl)) (sz : Nat) (l : List Int) (b n : Nat) (w : World) {cs : Array Value} (hw : WrR w X s) (hn : l.length = n) (hr : w.heap[b]? = some (.cells cs 3 (0, 0))) (hc : cs.toList = ints l) (s1 : 1 ≤ sz) (s7 : sz ≤ 7) (hnb : n ≤ 1000) (hb : RoomR s (sized sz l)) :
    Calls Try.prog 23 #[.pointer (some ⟨X, 0, none⟩), .int .i64 (sz : Int), .slice (some ⟨b, 0, none⟩) n n] w fun e w' => e = .returned (.tuple #[]) ∧ WrR w' X (putS s (sized sz l)) ∧ Mine X w w' :=
  rPut_any X s sz l _ n n w b (b + 1) hw hn (fun W hm => row_lies (hm.keep b _ _ _ hr (by decide) (by decide)) hc hn) s1 s7 (by omega) (fun fs e => by have := hb fs e; rw [szL_sized, hn] at this; exact this)
theorem flat_sized (z : Nat) (l : List Int) : sized z l = l.flatMap fun d => [((z, d) : Fl)] := by
  induction l with
  | nil => rfl
  | cons x l ih => rw [List.flatMap_cons, ← ih]; rfl
set_option maxRecDepth 100000 in
set_option maxHeartbeats 4000000 in
theorem rPartW_any (X : Nat) (s : Option (List Fl)) (ta sa da : Option Addr) (tn tc sn sc dn dc : Nat) (x0 x1 x2 : Int) (w : World) (lo hi : Nat) (ts : List Tk) (ss : List Sv) (ds : List Int) (hw : WrR w X s)
    (ht : ts.length = tn) (hs : ss.length = sn) (hd : ds.length = dn) (lt : Lies w lo hi (.slice ta tn tc) tn 6 (ts.flatMap Tk.cells)) (ls : Lies w lo hi (.slice sa sn sc) sn 3 (ss.flatMap Sv.cells)) (ld : Lies w lo hi (.slice da dn dc) dn 1 (ds.flatMap intCells))
    (hX : hi ≤ X) (hf : Fair ⟨ts, ss, ds, x0, x1, x2⟩) (hr : RoomR s (ptF ⟨ts, ss, ds, x0, x1, x2⟩)) :
    Calls Try.prog 24 #[.pointer (some ⟨X, 0, none⟩), .agg #[.slice ta tn tc, .slice sa sn sc, .slice da dn dc, .int .u8 x0, .int .u8 x1, .int .u8 x2]] w fun e w' => e = .returned (.tuple #[]) ∧ WrR w' X (putS s (ptF ⟨ts, ss, ds, x0, x1, x2⟩)) ∧ Mine X w w' := by
  obtain ⟨b1, b2, b3, ⟨q0, r0⟩, ⟨q1, r1⟩, ⟨q2, r2⟩⟩ := hf
  simp only at b1 b2 b3 q0 r0 q1 r1 q2 r2
  rw [ht] at b1; rw [hs] at b2; rw [hd] at b3
  have u0 : IntKind.i64.wrap x0 = x0 := IntWalk.i64_in _ (by omega)
  have u1 : IntKind.i64.wrap x1 = x1 := IntWalk.i64_in _ (by omega)
  have u2 : IntKind.i64.wrap x2 = x2 := IntWalk.i64_in _ (by omega)
  have HX : X < w.heap.size := hw.lt
  have HF : Hid (ptF ⟨ts, ss, ds, x0, x1, x2⟩ = manyF tkF ts ++ (manyF svF ss ++ (manyF (fun d => [(1, d)]) ds ++ [(1, x0), (1, x1), (1, x2)]))) := Lib.hid rfl
  rw [HF.out] at hr
  have R1 := Lib.hid hr.left
  have R2 := Lib.hid hr.right.left
  have R3 := Lib.hid hr.right.right.left
  have R4 := Lib.hid hr.right.right.right
  have HLT := Lib.hid lt; have HLS := Lib.hid ls; have HLD := Lib.hid ld
  have HT := Lib.hid ht; have HS := Lib.hid hs; have HD := Lib.hid hd
  have HWS := Lib.hid hw
  have E1 : Hid (sized 1 [(tn : Int)] = headF tkF ts 0) := Lib.hid (by rw [← ht]; rfl)
  have E2 : Hid (sized 1 [(sn : Int)] = headF svF ss 0) := Lib.hid (by rw [← hs]; rfl)
  have E3 : Hid (manyF (fun d => [((1, d) : Fl)]) ds = sized 1 [(dn : Int)] ++ sized 1 ds) := Lib.hid (by rw [flat_sized 1 ds, ← hd]; rfl)
  clear hw ht hs hd lt ls ld hr
  go_enter Try.func24, Try.ntmps24
  go_upto_block 0 with (first
    | (go_at_call 23
       refine (rput_new X s 1 [(tn : Int)] (w.heap.size + 1) 1 _ ((HWS.out.keep (below1 _ _)).keep (below1 _ _)) rfl (heap_new_at (by simp)) (by rfl) (by omega) (by omega) (by omega) (by rw [E1.out]; exact R1.out.head)).mono ?_
       rintro e w1 ⟨rfl, hw1, hm1⟩
       have HM1 : Hid (Mine X w w1) := Lib.hid ((((Mine.refl X w).alloc (by omega) _).alloc (by omega) _).trans hm1)
       have HK1 : Hid (w1.heap[w.heap.size]? = some (.cells #[.slice ta tn tc, .slice sa sn sc, .slice da dn dc, .int .u8 x0, .int .u8 x1, .int .u8 x2] 58 (0, 0))) := Lib.hid (hm1.keep _ _ _ _ (at_alloc (heap_new_at rfl)) (by decide) (by decide))
       rw [E1.out] at hw1
       have HW1 := Lib.hid hw1
       clear hw1 hm1))
  go_cut [4, 5] from 13 to 50 (fun _ _ wx => Hid (WrR wx X (putS s (manyF tkF ts))) ∧ Hid (Mine X w wx) ∧ Hid (wx.heap[w.heap.size]? = some (.cells #[.slice ta tn tc, .slice sa sn sc, .slice da dn dc, .int .u8 x0, .int .u8 x1, .int .u8 x2] 58 (0, 0))))
  case first =>
    go_wp2_with fail
    go_loopw [4] (fun i wr => ∃ (k : Nat), k ≤ tn ∧ i = .int .i64 k ∧ Hid (WrR wr X (putS s (headF tkF ts k))) ∧ Hid (Mine X w wr) ∧ Hid (wr.heap[w.heap.size]? = some (.cells #[.slice ta tn tc, .slice sa sn sc, .slice da dn dc, .int .u8 x0, .int .u8 x1, .int .u8 x2] 58 (0, 0)))) (fun i _ => tn - (intOf i).toNat)
    case atStart => exact ⟨0, by omega, rfl, HW1, HM1, HK1⟩
    case round =>
      obtain ⟨k, hk, rfl, HW, HM, HK⟩ := hrel
      have kX := HW.out.err
      have hXr : X < wr.heap.size := HW.out.lt
      have hbr : w.heap.size < wr.heap.size := lt_of_block HK.out
      have pb := cell_in (j := 0) HK.out rfl
      by_cases hlt : k < tn
      · have tk : decide ((k : Int) < (tn : Int)) = true := by simpa using hlt
        cases hst : putS s (headF tkF ts k) with
        | none =>
          have HNO : Hid (putS s (manyF tkF ts) = none) := Lib.hid (putS_head_none tkF ts k hst)
          rw [hst] at kX
          simp only [Option.isNone_none, if_true] at kX
          have HW9 : Hid (WrR wr X none) := Lib.hid (by have := HW.out; rw [hst] at this; exact this)
          clear hst
          go_wp2_with fail
          go_meet
          exact ⟨by rw [HNO.out]; exact HW9, HM, HK⟩
        | some fs =>
          rw [hst] at kX
          simp only [Option.isNone_some, Bool.false_eq_true, if_false] at kX
          clear hst
          obtain ⟨x, hx⟩ : ∃ x, ts[k]? = some x := ⟨_, List.getElem?_eq_getElem (by rw [HT.out]; exact hlt)⟩
          have HX1 := Lib.hid hx
          have hlies := HLT.out.keep (SameIn.of_below HM.out.below hX)
          obtain ⟨a2, c2, e2, _, _, hc⟩ := hlies
          cases e2
          rcases hc with h0 | ⟨b, off, rfl, hb1, hb2, hc⟩
          · omega
          obtain ⟨s0, s1, s2, s3, s4, s5⟩ := Lies.tk hc hx
          obtain ⟨xh, xt, xd, xv, xl, xp⟩ := x
          simp only at s0 s1 s2 s3 s4 s5
          have l0 : (0 : Int) ≤ (k : Int) := by omega
          have l1 : (k : Int) < (tn : Int) := by omega
          have HRX := Lib.hid (R1.out.at HX1.out)
          have hbX : b < X := by omega
          clear hc hx
          have TF : Hid (tkF ⟨xh, xt, xd, xv, xl, xp⟩ = [(1, flagV xh)] ++ sized 2 [xt, xd, xv, xl, xp]) := Lib.hid rfl
          have RA := Lib.hid (show RoomR _ [(1, flagV xh)] from (by have := HRX.out; rw [TF.out] at this; exact this.left))
          have RB := Lib.hid (show RoomR _ (sized 2 [xt, xd, xv, xl, xp]) from (by have := HRX.out; rw [TF.out] at this; exact this.right))
          go_wp2_with (first
            | (go_at_call 25; refine (flag_any _ _).mono ?_; rintro e9 w9 ⟨rfl, rfl⟩)
            | (go_at_call 23
               refine (rput_new X _ 2 [xt, xd, xv, xl, xp] w2.heap.size 5 _ (HW2.out.keep (below1 _ _)) rfl (heap_new_at rfl) (by rfl) (by omega) (by omega) (by omega) RB.out).mono ?_
               rintro e w3 ⟨rfl, hw3, hm3⟩
               have HKN := Lib.hid (hm3.keep _ _ _ _ (at_alloc HK2.out) (by decide) (by decide))
               have HMN := Lib.hid ((HM2.out.alloc (by omega) _).trans hm3)
               have HWN : Hid (WrR w3 X (putS _ (tkF ⟨xh, xt, xd, xv, xl, xp⟩))) := Lib.hid (by rw [TF.out, putS_append]; exact hw3)
               clear hw3 hm3)
            | (go_at_call 23
               refine (rput_new X _ 1 [flagV xh] (wr.heap.size + 1) 1 _ ((HW.out.keep (below1 _ _)).keep (below1 _ _)) rfl (heap_new_at (by simp)) (by rfl) (by omega) (by omega) (by omega) RA.out).mono ?_
               rintro e w2 ⟨rfl, hw2, hm2⟩
               have HK2 := Lib.hid (hm2.keep _ _ _ _ (at_alloc (at_alloc HK.out)) (by decide) (by decide))
               have HM2 := Lib.hid (((HM.out.alloc (by omega) _).alloc (by omega) _).trans hm2)
               have kt := hm2.keep _ _ _ _ (at_alloc (heap_new_at rfl)) (by decide) (by decide)
               have z1 := cell_in (j := 1) kt rfl
               have z2 := cell_in (j := 2) kt rfl
               have z3 := cell_in (j := 3) kt rfl
               have z4 := cell_in (j := 4) kt rfl
               have z5 := cell_in (j := 5) kt rfl
               have hwt := lt_of_block kt
               have HW2 := Lib.hid hw2
               clear hw2 hm2 kt))
          go_roundw
          case rel => exact ⟨k + 1, by omega, by go_num, Lib.hid (by rw [headF_next _ _ _ _ HX1.out, putS_append]; exact HWN.out), HMN, HKN⟩
          case measure => simp [intOf]; omega
      · have tk : decide ((k : Int) < (tn : Int)) = false := by simp; omega
        have HE : Hid (headF tkF ts k = manyF tkF ts) := Lib.hid (headF_end _ _ _ (by rw [HT.out]; omega))
        go_wp2_with fail
        go_meet
        exact ⟨by rw [← HE.out]; exact HW, HM, HK⟩
  case rest =>
    obtain ⟨HWA, HMA, HKA⟩ := hcut
    have hXA : X < wc.heap.size := HWA.out.lt
    have hwA : w.heap.size < wc.heap.size := lt_of_block HKA.out
    have pA := cell_in (j := 1) HKA.out rfl
    go_upto_block 2 with (first
      | (go_at_call 23
         refine (rput_new X _ 1 [(sn : Int)] wc.heap.size 1 _ (HWA.out.keep (below1 _ _)) rfl (heap_new_at rfl) (by rfl) (by omega) (by omega) (by omega) (by rw [E2.out]; exact R2.out.head)).mono ?_
         rintro e w4 ⟨rfl, hw4, hm4⟩
         have HM4 := Lib.hid ((HMA.out.alloc (by omega) _).trans hm4)
         have HK4 := Lib.hid (hm4.keep _ _ _ _ (at_alloc HKA.out) (by decide) (by decide))
         rw [E2.out] at hw4
         have HW4 := Lib.hid hw4
         clear hw4 hm4))
    go_cut [6] from 57 to 95 (fun _ wx => Hid (WrR wx X (putS (putS s (manyF tkF ts)) (manyF svF ss))) ∧ Hid (Mine X w wx) ∧ Hid (wx.heap[w.heap.size]? = some (.cells #[.slice ta tn tc, .slice sa sn sc, .slice da dn dc, .int .u8 x0, .int .u8 x1, .int .u8 x2] 58 (0, 0))))
    case first =>
      go_wp2_with fail
      go_loopw [6] (fun i wr => ∃ (k : Nat), k ≤ sn ∧ i = .int .i64 k ∧ Hid (WrR wr X (putS (putS s (manyF tkF ts)) (headF svF ss k))) ∧ Hid (Mine X w wr) ∧ Hid (wr.heap[w.heap.size]? = some (.cells #[.slice ta tn tc, .slice sa sn sc, .slice da dn dc, .int .u8 x0, .int .u8 x1, .int .u8 x2] 58 (0, 0)))) (fun i _ => sn - (intOf i).toNat)
      case atStart => exact ⟨0, by omega, rfl, HW4, HM4, HK4⟩
      case round =>
        obtain ⟨k, hk, rfl, HW, HM, HK⟩ := hrel
        have kX := HW.out.err
        have hXr : X < wr.heap.size := HW.out.lt
        have hbr : w.heap.size < wr.heap.size := lt_of_block HK.out
        have pb := cell_in (j := 1) HK.out rfl
        by_cases hlt : k < sn
        · have tk : decide ((k : Int) < (sn : Int)) = true := by simpa using hlt
          cases hst : putS (putS s (manyF tkF ts)) (headF svF ss k) with
          | none =>
            have HNO : Hid (putS (putS s (manyF tkF ts)) (manyF svF ss) = none) := Lib.hid (putS_head_none svF ss k hst)
            rw [hst] at kX
            simp only [Option.isNone_none, if_true] at kX
            have HW9 : Hid (WrR wr X none) := Lib.hid (by have := HW.out; rw [hst] at this; exact this)
            clear hst
            go_wp2_with fail
            go_meet
            exact ⟨by rw [HNO.out]; exact HW9, HM, HK⟩
          | some fs =>
            rw [hst] at kX
            simp only [Option.isNone_some, Bool.false_eq_true, if_false] at kX
            clear hst
            obtain ⟨x, hx⟩ : ∃ x, ss[k]? = some x := ⟨_, List.getElem?_eq_getElem (by rw [HS.out]; exact hlt)⟩
            have HX1 := Lib.hid hx
            have hlies := HLS.out.keep (SameIn.of_below HM.out.below hX)
            obtain ⟨a2, c2, e2, _, _, hc⟩ := hlies
            cases e2
            rcases hc with h0 | ⟨b, off, rfl, hb1, hb2, hc⟩
            · omega
            obtain ⟨s0, s1, s2⟩ := Lies.sv hc hx
            obtain ⟨xr, xc, xt⟩ := x
            simp only at s0 s1 s2
            have l0 : (0 : Int) ≤ (k : Int) := by omega
            have l1 : (k : Int) < (sn : Int) := by omega
            have HRX := Lib.hid (R2.out.at HX1.out)
            have hbX : b < X := by omega
            have S1 := Lib.hid ((HM.out.below.cell (p := ⟨b, off + k * 3 + 1, none⟩) hbX).symm.trans s1)
            have S2 := Lib.hid ((HM.out.below.cell (p := ⟨b, off + k * 3 + 2, none⟩) hbX).symm.trans s2)
            clear hc hx
            have TF : Hid (svF ⟨xr, xc, xt⟩ = [(1, flagV xr)] ++ sized 2 [xc, xt]) := Lib.hid rfl
            have RA := Lib.hid (show RoomR _ [(1, flagV xr)] from (by have := HRX.out; rw [TF.out] at this; exact this.left))
            have RB := Lib.hid (show RoomR _ (sized 2 [xc, xt]) from (by have := HRX.out; rw [TF.out] at this; exact this.right))
            have hbw : b < wr.heap.size := by omega
            go_wp2_with (first
              | (go_at_call 25; refine (flag_any _ _).mono ?_; rintro e9 w9 ⟨rfl, rfl⟩)
              | (go_at_call 23
                 refine (rput_new X _ 1 [flagV xr] wr.heap.size 1 _ (HW.out.keep (below1 _ _)) rfl (heap_new_at rfl) (by rfl) (by omega) (by omega) (by omega) RA.out).mono ?_
                 rintro e w2 ⟨rfl, hw2, hm2⟩
                 have kk := hm2.keep _ _ _ _ (at_alloc HK.out) (by decide) (by decide)
                 have HK2 := Lib.hid kk
                 have y1 := cell_in (j := 1) kk rfl
                 have HM2 := Lib.hid ((HM.out.alloc (by omega) _).trans hm2)
                 have hsb := HM2.out.below.size
                 have v1 := (HM2.out.below.cell (p := ⟨b, off + k * 3 + 1, none⟩) hbX).trans S1.out
                 have v2 := (HM2.out.below.cell (p := ⟨b, off + k * 3 + 2, none⟩) hbX).trans S2.out
                 have HW2 := Lib.hid hw2
                 have hX2 : X < w2.heap.size := hw2.lt
                 have hb2w : b < w2.heap.size := by omega
                 have hk2w : w.heap.size < w2.heap.size := lt_of_block kk
                 clear hw2 hm2 kk))
            go_region_law (first
              | (go_simp
                 go_at_call 23
                 refine (rput_new X _ 2 [xc, xt] w2.heap.size 2 _ ((HW2.out.keep (Below.refl _ _).drew).keep (below1 _ _)) rfl (heap_new_at rfl) (by rfl) (by omega) (by omega) (by omega) RB.out).mono ?_
                 rintro e w3 ⟨rfl, hw3, hm3⟩
                 have HKN := Lib.hid (hm3.keep _ _ _ _ (at_alloc (w := w2.drew) HK2.out) (by decide) (by decide))
                 have HMN := Lib.hid ((HM2.out.drew.alloc (by omega) _).trans hm3)
                 have HWN : Hid (WrR w3 X (putS _ (svF ⟨xr, xc, xt⟩))) := Lib.hid (by rw [TF.out, putS_append]; exact hw3)
                 clear hw3 hm3))
            all_goals go_wp2_with fail
            all_goals go_roundw
            all_goals first
              | (case rel => exact ⟨k + 1, by omega, by go_num, Lib.hid (by rw [headF_next _ _ _ _ HX1.out, putS_append]; exact HWN.out), HMN, HKN⟩)
              | (case measure => simp [intOf]; omega)
        · have tk : decide ((k : Int) < (sn : Int)) = false := by simp; omega
          have HE : Hid (headF svF ss k = manyF svF ss) := Lib.hid (headF_end _ _ _ (by rw [HS.out]; omega))
          go_wp2_with fail
          go_meet
          exact ⟨by rw [← HE.out]; exact HW, HM, HK⟩
    case rest =>
      obtain ⟨HWB, HMB, HKB⟩ := hcut
      have hXB : X < wc.heap.size := HWB.out.lt
      have hwB : w.heap.size < wc.heap.size := lt_of_block HKB.out
      have pB := cell_in (j := 2) HKB.out rfl
      have R31 := Lib.hid (show RoomR _ (sized 1 [(dn : Int)]) from (by have := R3.out; rw [E3.out] at this; exact this.left))
      have R32 := Lib.hid (show RoomR _ (sized 1 ds) from (by have := R3.out; rw [E3.out] at this; exact this.right))
      have R4' : Hid (RoomR (putS (putS (putS (putS s (manyF tkF ts)) (manyF svF ss)) (sized 1 [(dn : Int)])) (sized 1 ds)) (sized 1 [x0, x1, x2])) := Lib.hid (by have := R4.out; rw [E3.out, putS_append] at this; exact this)
      go_wp2_with (first
        | (go_at_call 23
           refine (rput_new X _ 1 [x0, x1, x2] w6.heap.size 3 _ (HW6.out.keep (below1 _ _)) rfl (heap_new_at rfl) (by rfl) (by omega) (by omega) (by omega) R4'.out).mono ?_
           rintro e w7 ⟨rfl, hw7, hm7⟩
           have HM7 := Lib.hid ((HM6.out.alloc (by omega) _).trans hm7)
           have HW7 := Lib.hid hw7
           clear hw7 hm7)
        | (go_at_call 23
           refine (rPut_any X _ 1 ds da dn dc w5 lo hi HW5.out HD.out (fun W hm => HLD.out.keep (SameIn.of_below (HM5.out.trans hm).below hX)) (by omega) (by omega) b3 (fun fs e => by have := R32.out fs e; rw [szL_sized, HD.out] at this; exact this)).mono ?_
           rintro e w6 ⟨rfl, hw6, hm6⟩
           have HM6 := Lib.hid (HM5.out.trans hm6)
           have kk := hm6.keep _ _ _ _ HK5.out (by decide) (by decide)
           have y3 := cell_in (j := 3) kk rfl
           have y4 := cell_in (j := 4) kk rfl
           have y5 := cell_in (j := 5) kk rfl
           have hk6 := lt_of_block kk
           have hX6 : X < w6.heap.size := hw6.lt
           have HW6 := Lib.hid hw6
           clear hw6 hm6 kk)
        | (go_at_call 23
           refine (rput_new X _ 1 [(dn : Int)] wc.heap.size 1 _ (HWB.out.keep (below1 _ _)) rfl (heap_new_at rfl) (by rfl) (by omega) (by omega) (by omega) R31.out).mono ?_
           rintro e w5 ⟨rfl, hw5, hm5⟩
           have HM5 := Lib.hid ((HMB.out.alloc (by omega) _).trans hm5)
           have kk := hm5.keep _ _ _ _ (at_alloc HKB.out) (by decide) (by decide)
           have HK5 := Lib.hid kk
           have y2 := cell_in (j := 2) kk rfl
           have HW5 := Lib.hid hw5
           clear hw5 hm5 kk))
      (first | go_end0 | refine bodyPost_ret (results_none rfl _ _ _) rfl ?_)
      refine ⟨rfl, ?_, HM7.out⟩
      rw [HF.out, E3.out, putS_append, putS_append, putS_append, putS_append]
      exact HW7.out
end Go.Proofs.Ytiombjkjoehjpaa
