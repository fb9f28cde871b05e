/- TasksPlays, out of the contracts. -/
import Derived.Test.YtnenbgdonkgkfaaGreatTaskDo
import Derived.Test.YtnenbgdonkgkfaaGreatTaskK
import Derived.Test.YtnenbgdonkgkfaaGreatTks
import Derived.Deep.CutRange
import Derived.Deep.CutBlock
namespace Go.Proofs.YtnenbgdonkgkfaaGreat
open Go.ChangeShapes Go.WideShapes Go.ChangeAt Go.RowKit
set_option linter.unusedVariables false

set_option maxRecDepth 100000 in
set_option maxHeartbeats 16000000 in
theorem TasksPlays_of (O : TasksOk) (a0 : Option Addr) (n0 c0 : Nat) (a1 : Option Addr) (n1 c1 : Nat) (w : World) (ts : List Tk) (l1 : List Ac) (hn0 : ts.length = n0) (hl0 : Lies w 0 w.heap.size (.slice a0 n0 c0) n0 6 (ts.flatMap Tk.cells)) (hi0 : ∀ x ∈ ts, x.In) (hn1 : l1.length = n1) (hl1 : Lies w 0 w.heap.size (.slice a1 n1 c1) n1 7 (l1.flatMap Ac.cells)) (ho1 : ∀ x ∈ l1, x.Ok w) :
    Calls Tryz.prog 3 #[.slice a0 n0 c0, .slice a1 n1 c1] w fun e w' => e = .returned (.bool true) ∧ Below w.heap.size w w' := by
  have HK := Lib.hid (knows19_of O)
  have HLA : Hid (∀ Y, Below w.heap.size w Y → Calls Tryz.prog 5 #[.slice a1 n1 c1] Y fun e w' => e = .returned (.bool (lightV l1)) ∧ Below Y.heap.size Y w') := Lib.hid (fun Y hY => light_any Y a1 n1 c1 l1 hn1 ((hl1.keep (SameIn.of_below hY (Nat.le_refl _))).wider (Nat.le_refl _) hY.size) (fun x hx => ((ho1 x hx).keep (SameIn.of_below hY (Nat.le_refl _))).wider (Nat.le_refl _) hY.size))
  have KA := Lib.hid (acts19_read hn1 hl1 ho1)
  have KT := Lib.hid (tks_read hn0 hl0)
  have HLI : Hid (∀ Y, Below w.heap.size w Y → Lies Y 0 Y.heap.size (.slice a0 n0 c0) n0 6 (ts.flatMap Tk.cells)) := Lib.hid (fun Y hY => (hl0.keep (SameIn.of_below hY (Nat.le_refl _))).wider (Nat.le_refl _) hY.size)
  have HNN := Lib.hid hn0
  have HN1 := Lib.hid hn1
  have HIN := Lib.hid hi0
  have HB0 : Hid (Below w.heap.size w w) := Lib.hid (Below.refl _ _)
  clear hl0 hi0 hl1 ho1
  by_cases hbig : 20 < n0
  · have t0 : decide ((20 : Int) < (n0 : Int)) = true := decide_eq_true (by omega)
    clear hbig hn0 hn1
    go_enter Tryz.func3, Tryz.ntmps3
    go_wp2_with (first
      | (go_at_call 6; have _z := HB0; refine (HK.out _).mono ?_; rintro e w3 ⟨rfl, b3⟩; have hb3 := Lib.hid (HB0.out.trans (b3.mono HB0.out.size)); clear b3)
      | fail "no arm")
    go_ret
    exact ⟨rfl, hb3.out⟩
  have t0 : decide ((20 : Int) < (n0 : Int)) = false := decide_eq_false (by omega)
  have hs0 : n0 * 48 ≤ 140737488355328 := by omega
  cases hlv : lightV l1 with
  | false =>
    have HLV := Lib.hid hlv
    clear hbig hn0 hn1 hlv hs0
    go_enter Tryz.func3, Tryz.ntmps3
    go_wp2_with (first
      | (go_at_call 6; have _z := hb2; refine (HK.out _).mono ?_; rintro e w3 ⟨rfl, b3⟩; have hb3 := Lib.hid (hb2.out.trans (b3.mono hb2.out.size)); clear b3)
      | (go_at_call 5; refine (HLA.out _ HB0.out).mono ?_; rintro e w2 ⟨rfl, b2⟩; rw [HLV.out]; have hb2 := Lib.hid b2; clear b2)
      | fail "no arm")
    go_ret
    exact ⟨rfl, hb3.out⟩
  | true =>
  have HLV := Lib.hid hlv
  have HL70 := Lib.hid (light_bd hlv)
  have hs1 : n1 ≤ 120 := by have := HL70.out.1; omega
  have HS0 := Lib.hid hs0
  clear hbig hn0 hn1 hlv hs0
  cases hok : okN ts with
  | false =>
    have HOK := Lib.hid hok
    clear hok
    by_cases hz : n1 = 0
    · subst hz
      go_enter Tryz.func3, Tryz.ntmps3
      go_wp2_with (first
        | (go_at_call 8; have _z := hb3; refine (rtnew_any w _ a0 n0 c0 ts HNN.out (HLI.out _ hb3.out)).mono ?_; rintro e w4 ⟨f1, f2, b4⟩; clear f1; obtain rfl := f2 HOK.out; have hb4 := Lib.hid (hb3.out.trans (b4.mono hb3.out.size)); clear f2 b4)
        | (go_at_call 7; have _z := hb2; refine (own19_of O _ a0 n0 c0 ts HNN.out (HLI.out _ hb2.out) HIN.out HS0.out).mono ?_; rintro e w3 ⟨f1, f2, b3⟩; clear f1; obtain rfl := f2 HOK.out; have hb3 := Lib.hid (hb2.out.trans (b3.mono hb2.out.size)); clear f2 b3)
        | (go_at_call 6; have _z := hb1; refine (HK.out _).mono ?_; rintro e w2 ⟨rfl, b2⟩; have hb2 := Lib.hid (hb1.out.trans (b2.mono hb1.out.size)); clear b2)
        | (go_at_call 5; refine (HLA.out _ HB0.out).mono ?_; rintro e w1 ⟨rfl, b1⟩; rw [HLV.out]; have hb1 := Lib.hid b1; clear b1)
        | fail "no arm")
      go_loopw [7] (fun s wr => s = .int .i64 0 ∧ Hid (Below w.heap.size w wr)) (fun _ _ => 0)
      case atStart => exact ⟨rfl, hb4⟩
      case round =>
        obtain ⟨rfl, HB⟩ := hrel
        go_wp2_with fail
        go_ret
        exact ⟨rfl, HB.out⟩
    · have d0 : decide ((0 : Int) < (n1 : Int)) = true := decide_eq_true (by omega)
      have d1 : 0 < n1 := by omega
      go_enter Tryz.func3, Tryz.ntmps3
      go_wp2_with (first
        | (go_at_call 8; have _z := hb3; refine (rtnew_any w _ a0 n0 c0 ts HNN.out (HLI.out _ hb3.out)).mono ?_; rintro e w4 ⟨f1, f2, b4⟩; clear f1; obtain rfl := f2 HOK.out; have hb4 := Lib.hid (hb3.out.trans (b4.mono hb3.out.size)); clear f2 b4)
        | (go_at_call 7; have _z := hb2; refine (own19_of O _ a0 n0 c0 ts HNN.out (HLI.out _ hb2.out) HIN.out HS0.out).mono ?_; rintro e w3 ⟨f1, f2, b3⟩; clear f1; obtain rfl := f2 HOK.out; have hb3 := Lib.hid (hb2.out.trans (b3.mono hb2.out.size)); clear f2 b3)
        | (go_at_call 6; have _z := hb1; refine (HK.out _).mono ?_; rintro e w2 ⟨rfl, b2⟩; have hb2 := Lib.hid (hb1.out.trans (b2.mono hb1.out.size)); clear b2)
        | (go_at_call 5; refine (HLA.out _ HB0.out).mono ?_; rintro e w1 ⟨rfl, b1⟩; rw [HLV.out]; have hb1 := Lib.hid b1; clear b1)
        | fail "no arm")
      go_loopw [7] (fun s wr => s = .int .i64 0 ∧ Hid (Below w.heap.size w wr)) (fun _ _ => 0)
      case atStart => exact ⟨rfl, hb4⟩
      case round =>
        obtain ⟨rfl, HB⟩ := hrel
        go_wp2_with fail
        go_ret
        exact ⟨rfl, HB.out⟩
  | true =>
    have HOK := Lib.hid hok
    have hn6 : n0 ≤ 6 := by
      unfold okN at hok
      rw [Bool.and_eq_true, decide_eq_true_eq] at hok
      have := HNN.out
      omega
    clear hok
    go_enter Tryz.func3, Tryz.ntmps3
    go_wp2_with (first
      | (go_at_call 8; have _z := hb3; refine (rtnew_any w _ a0 n0 c0 ts HNN.out (HLI.out _ hb3.out)).mono ?_; rintro e w4 ⟨f1, f2, b4⟩; obtain ⟨rb, R, rfl, r4', R4'⟩ := f1 HOK.out; clear f2; have r4 := Lib.hid r4'; have R4 := Lib.hid R4'; have b4' := Lib.hid b4; clear f1 b4 r4' R4')
      | (go_at_call 7; have _z := hb2; refine (own19_of O _ a0 n0 c0 ts HNN.out (HLI.out _ hb2.out) HIN.out HS0.out).mono ?_; rintro e w3 ⟨f1, f2, b3⟩; obtain ⟨H, S, rfl, h3', S3'⟩ := f1 HOK.out; clear f2; have h3 := Lib.hid h3'; have S3 := Lib.hid S3'; have hb3 := Lib.hid (hb2.out.trans (b3.mono hb2.out.size)); clear f1 b3 h3' S3')
      | (go_at_call 6; have _z := hb1; refine (HK.out _).mono ?_; rintro e w2 ⟨rfl, b2⟩; have hb2 := Lib.hid (hb1.out.trans (b2.mono hb1.out.size)); clear b2)
      | (go_at_call 5; refine (HLA.out _ HB0.out).mono ?_; rintro e w1 ⟨rfl, b1⟩; rw [HLV.out]; have hb1 := Lib.hid b1; clear b1)
      | fail "no arm")
    have HT3 : Hid (Both w w4 (O.Tb H ts false (fun _ => none)) (TrG w rb ts false (fun _ => none)) S R) := Lib.hid ⟨(O.own _ _ _ _).later h3.out b4'.out, r4.out, O.own _ _ _ _, tr_own _ _ _ _ _, fun k hs hr => by have := (O.own _ _ _ _).lt h3.out k hs; have := R4.out k hr; omega, fun k hk => Nat.le_trans hb2.out.size (S3.out k hk), fun k hk => Nat.le_trans hb3.out.size (R4.out k hk), hb3.out.trans (b4'.out.mono hb3.out.size)⟩
    have HH0 : Hid (HiOk ts false (fun _ => none)) := Lib.hid (fun h => by cases h)
    clear h3 S3 hb3 hb2 hb1 r4 R4 b4'
    go_loopw [7] (fun s wr => ∃ (k : Nat) (S R : Nat → Prop) (hm : Bool) (js : Js), k ≤ n1 ∧ s = .int .i64 k ∧ Hid (Both w wr (O.Tb H ts hm js) (TrG w rb ts hm js) S R) ∧ Hid (HiOk ts hm js)) (fun s _ => n1 - (intOf s).toNat)
    case atStart => exact ⟨0, _, _, _, _, Nat.zero_le _, rfl, HT3, HH0⟩
    case round =>
      clear HT3 HH0
      obtain ⟨k, S, R, hm, js, hk, rfl, HT, HH⟩ := hrel
      by_cases hlt : k < n1
      · have d0 : decide ((k : Int) < (n1 : Int)) = true := decide_eq_true (by omega)
        have d1 : (0 : Int) ≤ (k : Int) := by omega
        have d2 : (k : Int) < (n1 : Int) := by omega
        obtain ⟨b, off, oa, oc, ea, ⟨k0, k1, k2, k3, k4, k5, k6⟩, hb, hlo⟩ := KA.out wr HT.out.b k hlt
        have K1 : Hid (∀ Y, Below w.heap.size w Y → Y.cell? ⟨b, off + k * 7 + 1, none⟩ = some (.int .i64 (acAt l1 k).k)) := Lib.hid (fun Y hY => by
          obtain ⟨b', off', _, _, ea', ⟨_, y1, _⟩, _⟩ := KA.out Y hY k hlt
          cases ea.symm.trans ea'
          exact y1)
        subst ea
        have HO70 : Hid ((acAt l1 k).ops.length ≤ 70) := Lib.hid (HL70.out.2 k (by have := HN1.out; omega))
        obtain ⟨x, hx⟩ : ∃ x, x = acAt l1 k := ⟨_, rfl⟩
        rw [← hx] at k0 k1 k2 k3 k4 k5 k6 hlo K1 HO70
        obtain ⟨kd, kk, tk, arr, work, done, ov, ops⟩ := x
        dsimp only at k0 k1 k2 k3 k4 k5 k6 hlo K1 HO70
        obtain ⟨m, hm'⟩ : ∃ m, m = ops.length := ⟨_, rfl⟩
        rw [← hm'] at k6 hlo HO70
        have HMO := Lib.hid hm'.symm
        have HLO := Lib.hid hlo
        clear hx hb hlo hm'
        go_upto_region 12 with (first
          | (go_at_call 9; refine (do19_of O w wr H rb S R ts hm js HT.out HH.out kd kk tk arr work done oa m oc ops HMO.out HLO.out HO70.out).mono ?_; rintro e w5 ⟨rfl, S5, R5, hm5, js5, t5', hh5⟩; have t5 := Lib.hid t5'; have HH5 := Lib.hid hh5; clear t5' hh5)
          | fail "no arm")
        have HBD := Lib.hid (O.bd t5.out.h)
        obtain ⟨fk, hfk⟩ : ∃ fk, fk = fkV ts hm5 js5 := ⟨_, rfl⟩
        obtain ⟨fd, hfd⟩ : ∃ fd, fd = fdV ts hm5 js5 := ⟨_, rfl⟩
        obtain ⟨fo, hfo⟩ : ∃ fo, fo = foV ts hm5 js5 := ⟨_, rfl⟩
        have HF := Lib.hid (And.intro hfk (And.intro hfd hfo))
        obtain ⟨gt, hgt⟩ : ∃ gt, gt = getT ts js5 kk := ⟨_, rfl⟩
        obtain ⟨gj, hgj⟩ : ∃ gj, gj = getJ ts js5 kk := ⟨_, rfl⟩
        obtain ⟨tv, htv⟩ : ∃ tv, tv = thereT ts js5 kk := ⟨_, rfl⟩
        have HG := Lib.hid (And.intro hgt (And.intro hgj htv))
        have HGM : Hid (gj.ops.length ≤ 64) := Lib.hid (by
          rw [hgj]
          cases hth : thereT ts js5 kk with
          | false => rw [(get_no hth).2]; simp
          | true =>
            obtain ⟨q, j, e, hq, hj⟩ := there_nat hth
            rw [e, (get_yes hq hj).2]
            exact (HBD.out.2.2.bd q j hj).2.2.2.2.2.2)
        have HCP : Hid (∀ Y, O.Tb H ts hm5 js5 Y S5 → Calls Tryz.prog 12 #[.pointer (some ⟨H, 0, none⟩), .int .i64 kk] Y fun e w' => ∃ ao cap, e = .returned (.tuple #[.agg #[.int .i64 gt, .int .i64 gj.arr, .int .i64 gj.work, .int .i64 gj.done, .slice ao gj.ops.length cap], .bool tv]) ∧ Lies w' Y.heap.size w'.heap.size (.slice ao gj.ops.length cap) gj.ops.length 3 (gj.ops.flatMap Wn.cells) ∧ Below Y.heap.size Y w') := Lib.hid (by
          rw [hgt, hgj, htv]
          exact fun Y h => O.get Y H S5 ts hm5 js5 kk h)
        have HCR : Hid (∀ Y, TrG w rb ts hm5 js5 Y R5 → Calls Tryz.prog 13 #[.pointer (some ⟨rb, 0, none⟩), .int .i64 kk] Y fun e w' => ∃ oa oc, e = .returned (.tuple #[.agg #[.int .i64 gt, .int .i64 gj.arr, .int .i64 gj.work, .int .i64 gj.done, .slice oa gj.ops.length oc], .bool tv]) ∧ Lies w 0 w.heap.size (.slice oa gj.ops.length oc) gj.ops.length 3 (gj.ops.flatMap Wn.cells) ∧ Below Y.heap.size Y w') := Lib.hid (by
          rw [hgt, hgj, htv]
          exact fun Y h => rtget_any w Y rb R5 ts hm5 js5 h kk)
        obtain ⟨cn, hcn⟩ : ∃ cn, cn = cntT js5 ts.length := ⟨_, rfl⟩
        have HCN := Lib.hid hcn
        clear hfk hfd hfo hgt hgj htv hcn k0 k1 k2 k3 k4 k5 k6
        go_upto_region 16 with (first
          | (go_at_call 13; have _z := t8; refine (HCR.out _ t8.out.r).mono ?_; rintro e w9 ⟨oa9, oc9, rfl, l9', b9⟩; have l9 := Lib.hid l9'; have t9 := Lib.hid (t8.out.later b9); have e9 := Lib.hid ((b9.block _ (lt_of_block e8.out)).trans e8.out); have l8b := Lib.hid (l8.out.keep (SameIn.of_below b9 (by simp))); have s9 : Hid (w8.heap.size + 1 ≤ w9.heap.size) := Lib.hid (by have := b9.size; simp at this; omega); clear l9' b9)
          | (go_at_call 12; have _z := t7; refine (HCP.out _ t7.out.h).mono ?_; rintro e w8 ⟨ao8, cap8, rfl, l8', b8⟩; have l8 := Lib.hid ((l8'.wider (Nat.zero_le _) (Nat.le_refl _)).keep (SameIn.of_below (below1 w8 (.cells #[.int .i64 gt, .int .i64 gj.arr, .int .i64 gj.work, .int .i64 gj.done, .slice ao8 gj.ops.length cap8] 40)) (Nat.le_refl _))); have t8 := Lib.hid ((t7.out.later b8).later (below1 w8 (.cells #[.int .i64 gt, .int .i64 gj.arr, .int .i64 gj.work, .int .i64 gj.done, .slice ao8 gj.ops.length cap8] 40))); have e8 := Lib.hid (heap_alloc_new w8 (.cells #[.int .i64 gt, .int .i64 gj.arr, .int .i64 gj.work, .int .i64 gj.done, .slice ao8 gj.ops.length cap8] 40)); have j2 := K1.out _ t8.out.b; clear l8' b8)
          | (go_at_call 11; have _z := t6; refine (rtfirst_any w _ rb R5 ts hm5 js5 t6.out.r).mono ?_; rintro e w7 ⟨rfl, b7⟩; rw [← HF.out.1, ← HF.out.2.1, ← HF.out.2.2]; have t7 := Lib.hid (t6.out.later b7); have j1 := K1.out _ t7.out.b; clear b7)
          | (go_at_call 10; refine (O.first _ H S5 ts hm5 js5 t5.out.h).mono ?_; rintro e w6 ⟨rfl, b6⟩; rw [← HF.out.1, ← HF.out.2.1, ← HF.out.2.2]; have t6 := Lib.hid (t5.out.later b6); clear b6)
          | fail "no arm")
        obtain ⟨X, hX⟩ : ∃ X, X = w9.alloc (.cells #[.int .i64 gt, .int .i64 gj.arr, .int .i64 gj.work, .int .i64 gj.done, .slice oa9 gj.ops.length oc9] 33) := ⟨_, rfl⟩
        obtain ⟨B8, hB8⟩ : ∃ B8, B8 = w8.heap.size := ⟨_, rfl⟩
        obtain ⟨B9, hB9⟩ : ∃ B9, B9 = w9.heap.size := ⟨_, rfl⟩
        rw [← hX, ← hB8, ← hB9]
        have hbX : Below w9.heap.size w9 X := by rw [hX]; exact below1 _ _
        have h8 : X.heap[B8]? = some (.cells #[.int .i64 gt, .int .i64 gj.arr, .int .i64 gj.work, .int .i64 gj.done, .slice ao8 gj.ops.length cap8] 40 (0, 0)) := by rw [hB8]; exact (hbX.block _ (lt_of_block e9.out)).trans e9.out
        have h9 : X.heap[B9]? = some (.cells #[.int .i64 gt, .int .i64 gj.arr, .int .i64 gj.work, .int .i64 gj.done, .slice oa9 gj.ops.length oc9] 33 (0, 0)) := by rw [hX, hB9]; exact heap_alloc_new _ _
        have tX := Lib.hid (t9.out.later hbX)
        have LX := Lib.hid (l8b.out.keep (SameIn.of_below hbX (by have := s9.out; omega)))
        have SX : Hid (w8.heap.size ≤ X.heap.size) := Lib.hid (by have := s9.out; have := hbX.size; omega)
        obtain ⟨q, hq⟩ : ∃ q, q = gj.ops.length := ⟨_, rfl⟩
        have HQ := Lib.hid hq.symm
        have HQ64 : Hid (q ≤ 64) := Lib.hid (by rw [hq]; exact HGM.out)
        rw [← hq] at LX l9 h8 h9 ⊢
        have KX : Hid (∀ Y, Below X.heap.size X Y → (Y.cell? ⟨B8, 0, none⟩ = some (.int .i64 gt) ∧ Y.cell? ⟨B8, 1, none⟩ = some (.int .i64 gj.arr) ∧ Y.cell? ⟨B8, 2, none⟩ = some (.int .i64 gj.work) ∧ Y.cell? ⟨B8, 3, none⟩ = some (.int .i64 gj.done) ∧ Y.cell? ⟨B8, 4, none⟩ = some (.slice ao8 q cap8)) ∧ (Y.cell? ⟨B9, 0, none⟩ = some (.int .i64 gt) ∧ Y.cell? ⟨B9, 1, none⟩ = some (.int .i64 gj.arr) ∧ Y.cell? ⟨B9, 2, none⟩ = some (.int .i64 gj.work) ∧ Y.cell? ⟨B9, 3, none⟩ = some (.int .i64 gj.done) ∧ Y.cell? ⟨B9, 4, none⟩ = some (.slice oa9 q oc9)) ∧ Y.cell? ⟨rb, 37, none⟩ = some (.bool hm5)) := Lib.hid (fun Y hY => by
          have g8 := (hY.block B8 (lt_of_block h8)).trans h8
          have g9 := (hY.block B9 (lt_of_block h9)).trans h9
          obtain ⟨_, _, _, hr⟩ := (tX.out.later hY).r
          exact ⟨⟨cell_in g8 rfl, cell_in g8 rfl, cell_in g8 rfl, cell_in g8 rfl, cell_in g8 rfl⟩, ⟨cell_in g9 rfl, cell_in g9 rfl, cell_in g9 rfl, cell_in g9 rfl, cell_in g9 rfl⟩, hr.c37⟩)
        have KL8 : Hid (∀ Y, Below X.heap.size X Y → Lies Y 0 Y.heap.size (.slice ao8 q cap8) q 3 (gj.ops.flatMap Wn.cells)) := Lib.hid (fun Y hY => (LX.out.keep (SameIn.of_below hY SX.out)).wider (Nat.le_refl _) (Nat.le_trans SX.out hY.size))
        obtain ⟨⟨x0, x1, x2, x3, x4⟩, ⟨y0, y1, y2, y3, y4⟩, y5⟩ := KX.out X (Below.refl _ _)
        have nn1 : (fk != fk) = false := by simp
        have nn2 : (fd != fd) = false := by simp
        have nn3 : (fo != fo) = false := by simp
        have nn4 : (tv != tv) = false := by simp
        have nn5 : ((cn : Int) != (cn : Int)) = false := by simp
        have nn6 : (hm5 != hm5) = false := by simp
        clear hX hB8 hB9 hbX h8 h9 hq
        go_region_held3 (fun Y => (Y.cell? ⟨B8, 0, none⟩ = some (.int .i64 gt) ∧ Y.cell? ⟨B8, 1, none⟩ = some (.int .i64 gj.arr) ∧ Y.cell? ⟨B8, 2, none⟩ = some (.int .i64 gj.work) ∧ Y.cell? ⟨B8, 3, none⟩ = some (.int .i64 gj.done) ∧ Y.cell? ⟨B8, 4, none⟩ = some (.slice ao8 q cap8)) ∧ (Y.cell? ⟨B9, 0, none⟩ = some (.int .i64 gt) ∧ Y.cell? ⟨B9, 1, none⟩ = some (.int .i64 gj.arr) ∧ Y.cell? ⟨B9, 2, none⟩ = some (.int .i64 gj.work) ∧ Y.cell? ⟨B9, 3, none⟩ = some (.int .i64 gj.done) ∧ Y.cell? ⟨B9, 4, none⟩ = some (.slice oa9 q oc9)) ∧ Y.cell? ⟨rb, 37, none⟩ = some (.bool hm5))
          (first | exact KX.out _ g15.out | exact KX.out _ g14.out | exact KX.out _ g13.out | exact KX.out _ g12.out | exact KX.out _ g11.out | exact KX.out _ (by repeat first | exact Below.refl _ _ | refine Below.drew ?_) | fail "no")
          (first
          | (go_at_call 18; have _z := g14; refine (O.high _ H S5 ts hm5 js5 (tX.out.later g14.out).h).mono ?_; rintro e w15 ⟨rfl, b15⟩; have g15 := Lib.hid (g14.out.trans (b15.mono g14.out.size)); clear b15)
          | (go_at_call 17; have _z := g13; refine (rtlen_any w _ rb R5 ts hm5 js5 (tX.out.later g13.out).r).mono ?_; rintro e w14 ⟨rfl, b14⟩; rw [← HCN.out]; have g14 := Lib.hid (g13.out.trans (b14.mono g13.out.size)); clear b14)
          | (go_at_call 16; have _z := g12; refine (O.len _ H S5 ts hm5 js5 (tX.out.later g12.out).h).mono ?_; rintro e w13 ⟨rfl, b13⟩; rw [← HCN.out]; have g13 := Lib.hid (g12.out.trans (b13.mono g12.out.size)); clear b13)
          | (go_at_call 14; have _z := g11; refine (same19_any _ gt gj.arr gj.work gj.done ao11 oa9 q cap11 oc9 0 _ 0 w.heap.size gj.ops HQ.out l11.out (Nat.le_refl _) (l9.out.keep (SameIn.of_below (tX.out.later g11.out).b (Nat.le_refl _))) (tX.out.later g11.out).b.size (by have := HQ64.out; omega)).mono ?_; rintro e w12 ⟨rfl, b12⟩; have g12 := Lib.hid (g11.out.trans (b12.mono g11.out.size)); clear b12)
          | (go_at_call 15; refine (refJob_any _ gt gj.arr gj.work gj.done ao8 q cap8 gj.ops HQ.out (KL8.out _ (by repeat first | exact Below.refl _ _ | refine Below.drew ?_)) (by have := HQ64.out; omega)).mono ?_; rintro e w11 ⟨ao11, cap11, rfl, l11', b11⟩; have g11 : Hid (Below X.heap.size X w11) := Lib.hid (Below.trans (by repeat first | exact Below.refl _ _ | refine Below.drew ?_) b11); have l11 := Lib.hid (l11'.wider (Nat.zero_le _) (Nat.le_refl _)); clear l11' b11)
          | fail "no arm")
        go_wp2_with fail
        go_roundw
        case rel => exact ⟨k + 1, S5, R5, hm5, js5, by omega, by go_num, Lib.hid (tX.out.later g15.out), HH5⟩
        case measure => simp [intOf]; omega
      · have d0 : decide ((k : Int) < (n1 : Int)) = false := decide_eq_false (by omega)
        go_wp2_with fail
        go_ret
        exact ⟨rfl, HT.out.b⟩
end Go.Proofs.YtnenbgdonkgkfaaGreat
