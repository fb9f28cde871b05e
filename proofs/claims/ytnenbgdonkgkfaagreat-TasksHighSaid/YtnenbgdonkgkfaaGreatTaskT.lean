/- The program's table of jobs: those gone of which a closure holds; what comes of a tick. -/
import Derived.Test.YtnenbgdonkgkfaaGreatTaskS
namespace Go.Proofs.YtnenbgdonkgkfaaGreat
open Go.ChangeShapes Go.WideShapes Go.ChangeAt Go.RowKit
set_option linter.unusedVariables false

theorem Tryz.infoTInt : (Tryz.prog.info? 3).map (fun i => (i.zero, i.size, i.bytes)) = some (some (.int .i64 0), 1, 8) := by kernel_rfl
theorem below_drewM {B : Nat} {a w : World} (d : Nat) (h : Below B a w) : Below B a (w.drewN d) := ⟨h.os, h.tape, h.output, h.size, h.block⟩
set_option maxRecDepth 100000 in
set_option maxHeartbeats 4000000 in
theorem rise1_any (w : World) (G o : Nat) (th : Bool) (b5 : w.cell? ⟨G, o + 5, none⟩ = some (.bool th)) :
    Calls Tryz.prog 51 #[.pointer (some ⟨G, o, none⟩)] w fun e w' => e = .returned (.bool (!th)) ∧ ∃ n, w' = w.drewN n := by
  go_enter Tryz.func51, Tryz.ntmps51
  go_wp2
  go_ret
  exact ⟨rfl, 0, rfl⟩
set_option maxRecDepth 100000 in
set_option maxHeartbeats 4000000 in
theorem clear1_any (w : World) (v : Value) :
    Calls Tryz.prog 56 #[v] w fun e w' => e = .returned (.bool true) ∧ ∃ n, w' = w.drewN n := by
  go_enter Tryz.func56, Tryz.ntmps56
  go_wp2
  go_ret
  exact ⟨rfl, 0, rfl⟩
set_option maxRecDepth 100000 in
set_option maxHeartbeats 4000000 in
theorem missed1_any (w : World) (G o B : Nat) (arr d now : Int) (b1 : w.cell? ⟨G, o + 1, none⟩ = some (.int .i64 arr)) (b7 : w.cell? ⟨G, o + 7, none⟩ = some (.int .i64 d)) (h1 : 0 ≤ arr ∧ arr ≤ 4611686018427387904) (h2 : 0 ≤ d ∧ d ≤ 1000) (bB : w.cell? ⟨B, 0, none⟩ = some (.int .i64 now)) :
    Calls Tryz.prog 54 #[.pointer (some ⟨G, o, none⟩), .pointer (some ⟨B, 0, none⟩)] w fun e w' => e = .returned (.bool (decide (arr + d ≤ now))) ∧ ∃ n, w' = w.drewN n := by
  have HD : Hid (∀ W : World, W.heap = w.heap → Calls Tryz.prog 55 #[.pointer (some ⟨G, o, none⟩)] W fun e w' => e = .returned (.int .i64 (arr + d)) ∧ ∃ m, w' = W.drewN m) := Lib.hid (fun W hW => tdead_any W G o arr d (by unfold World.cell? at b1 ⊢; rw [hW]; exact b1) (by unfold World.cell? at b7 ⊢; rw [hW]; exact b7) h1 h2)
  clear b1 b7 h1 h2
  go_enter Tryz.func54, Tryz.ntmps54
  go_wp2_with fail
  go_quiet (first | (go_at_call 55; exact Calls.quiet_of (HD.out _ rfl)))
  go_wp2_with fail
  go_ret
  exact ⟨rfl, _, rfl⟩
set_option maxRecDepth 100000 in
set_option maxHeartbeats 8000000 in
theorem tdrop_rise (w : World) (T G lo hi H W X m : Nat) (S : Nat → Prop) (ts : List Tk) (hm : Bool) (js : Js) (D : Nat → Option Int) (f : Nat → Jc) (h : TbD w T G lo hi H W X m S ts hm js D f) :
    Calls Tryz.prog 50 #[.pointer (some ⟨T, 0, none⟩), .func (.func 51) #[] #[]] w fun e w' => ∃ m' f' ao cap, e = .returned (.slice ao (lisT (lowP ts) js ts.length).length cap) ∧ Lies w' w.heap.size w'.heap.size (.slice ao (lisT (lowP ts) js ts.length).length cap) (lisT (lowP ts) js ts.length).length 1 ((lisT (lowP ts) js ts.length).flatMap intCells) ∧ TbD w' T G lo hi H W X m' S ts hm (remT (lowP ts) js ts.length js) (remT (lowP ts) js ts.length D) f' ∧ GrowS S S w w' := by
  obtain ⟨p, hp⟩ : ∃ p : Nat → Jb → Bool, p = lowP ts := ⟨_, rfl⟩
  rw [← hp]
  have HP := Lib.hid hp
  have HTS := Lib.hid h.tk
  have HLT := Lib.hid h.lt
  have HW := Lib.hid h.ok
  have c0 := h.c0
  obtain ⟨n, hn⟩ : ∃ n, n = ts.length := ⟨_, rfl⟩
  rw [← hn] at c0
  rw [← hn]
  have HN := Lib.hid hn
  have n6 : n ≤ 6 := by rw [hn]; exact h.n6
  have H0 : Hid (TbD w T G lo hi H W X m S ts hm (remT p js 0 js) (remT p js 0 D) f) := Lib.hid (by rw [rem_zero, rem_zero]; exact h)
  obtain ⟨i0, hi0, hz0, hz1, hz2⟩ := info_parts Tryz.infoTInt
  have HI := Lib.hid hi0
  clear h hp hn hi0
  go_enter Tryz.func50, Tryz.ntmps50
  go_wp2_with fail
  go_loopw [5, 14] (fun s5 s14 wr => ∃ (k : Nat) (ao : Option Addr) (cap m' : Nat) (f' : Nat → Jc), k ≤ n ∧ s14 = .int .i64 k ∧ s5 = .slice ao (lisT p js k).length cap ∧ Hid (wr.ownsRow w.heap.size 3 1 (.slice ao (lisT p js k).length cap) (lisT p js k).length ((lisT p js k).flatMap intCells)) ∧ Hid (TbD wr T G lo hi H W X m' S ts hm (remT p js k js) (remT p js k D) f') ∧ Hid (GrowS S S w wr)) (fun _ s _ => n - (intOf s).toNat)
  case atStart => exact ⟨0, none, 0, m, f, Nat.zero_le _, rfl, rfl, Lib.hid ⟨rfl, .inl ⟨rfl, rfl⟩⟩, H0, Lib.hid (GrowS.of_below (Below.refl _ _))⟩
  case round =>
    clear H0 c0
    obtain ⟨k, ao, cap, m1, f1, hk, rfl, rfl, HO, HT, HG⟩ := hrel
    by_cases hlt : k < n
    · have d0 : decide ((k : Int) < (n : Int)) = true := decide_eq_true (by omega)
      have d1 : (0 : Int) ≤ (k : Int) := by omega
      have d2 : (k : Int) < (n : Int) := by omega
      have HKT : Hid (k < ts.length) := Lib.hid (by rw [← HN.out]; exact hlt)
      have HTH := Lib.hid (tthere_any wr T G lo hi H W X m1 S ts hm _ _ f1 HT.out (k : Int))
      cases hj : js k with
      | none =>
        have HF : Hid (thereT ts (remT p js k js) (k : Int) = false) := Lib.hid (there_f (by rw [rem_here]; exact hj))
        have HQ : Hid (goneT p js k = false) := Lib.hid (gone_none hj)
        clear hj
        go_wp2_with (first
          | (go_at_call 38; refine HTH.out.mono ?_; rintro e w3 ⟨rfl, hw3⟩; rw [hw3, HF.out]; clear hw3)
          | fail "no arm")
        go_roundw
        case rel => exact ⟨k + 1, ao, cap, m1, f1, by omega, by go_num, by rw [lis_no HQ.out], by rw [lis_no HQ.out]; exact HO, by rw [rem_no HQ.out, rem_no HQ.out]; exact HT, HG⟩
        case measure => simp [intOf]; omega
      | some j =>
        have HF : Hid (thereT ts (remT p js k js) (k : Int) = true) := Lib.hid (there_yes HKT.out (by rw [rem_here]; exact hj))
        have HJ := Lib.hid hj
        have HR : Hid (remT p js k js k = some j) := Lib.hid (by rw [rem_here]; exact hj)
        have c0 := HT.out.c0
        rw [← HN.out] at c0
        cases hb : p k j with
        | false =>
          have HQ : Hid (goneT p js k = false) := Lib.hid (by rw [gone_some hj]; exact hb)
          have HCL : Hid (Calls Tryz.prog 51 #[.pointer (some ⟨G, k * 11, none⟩)] wr fun e w' => e = .returned (.bool false) ∧ Below wr.heap.size wr w') := Lib.hid (by
            have hbb := hb
            rw [HP.out] at hbb
            have := rise1_any wr G (k * 11) (tkAt ts k).hi ((HT.out.seatAt HKT.out).2.2.2.2.2.1)
            rw [show (!(tkAt ts k).hi) = false from hbb] at this
            exact this.mono (fun e w' h => ⟨h.1, by obtain ⟨n, hn⟩ := h.2; rw [hn]; exact below_drewM _ (Below.refl _ _)⟩))
          clear hj hb
          go_wp2_with (first
            | (go_at_call 38; refine HTH.out.mono ?_; rintro e w3 ⟨rfl, hw3⟩; rw [hw3, HF.out]; clear hw3)
            | (go_at_call 51; refine HCL.out.mono ?_; rintro e w4 ⟨rfl, hb4⟩; have HB4 := Lib.hid hb4; clear hb4)
            | fail "no arm")
          go_roundw
          case rel => exact ⟨k + 1, ao, cap, m1, f1, by omega, by go_num, by rw [lis_no HQ.out], by rw [lis_no HQ.out]; exact Lib.hid (owns_later HO.out HB4.out), by rw [rem_no HQ.out, rem_no HQ.out]; exact Lib.hid (HT.out.later HB4.out), Lib.hid (growS_then HG.out (HB4.out.mono HG.out.size))⟩
          case measure => simp [intOf]; omega
        | true =>
          have HQ : Hid (goneT p js k = true) := Lib.hid (by rw [gone_some hj]; exact hb)
          have HCL : Hid (Calls Tryz.prog 51 #[.pointer (some ⟨G, k * 11, none⟩)] wr fun e w' => e = .returned (.bool true) ∧ Below wr.heap.size wr w') := Lib.hid (by
            have hbb := hb
            rw [HP.out] at hbb
            have := rise1_any wr G (k * 11) (tkAt ts k).hi ((HT.out.seatAt HKT.out).2.2.2.2.2.1)
            rw [show (!(tkAt ts k).hi) = true from hbb] at this
            exact this.mono (fun e w' h => ⟨h.1, by obtain ⟨n, hn⟩ := h.2; rw [hn]; exact below_drewM _ (Below.refl _ _)⟩))
          obtain ⟨q, hq⟩ : ∃ q, q = (lisT p js k).length := ⟨_, rfl⟩
          have hq6 : q ≤ 6 := by have := lis_len p js k; omega
          obtain ⟨xs, hxs⟩ : ∃ xs, xs = (lisT p js k).flatMap intCells := ⟨_, rfl⟩
          rw [← hq, ← hxs] at HO
          rw [← hq]
          have HQX := Lib.hid (And.intro hq hxs)
          clear hj hb hq hxs
          go_wp2_with (first
            | (go_at_call 38; refine HTH.out.mono ?_; rintro e w3 ⟨rfl, hw3⟩; rw [hw3, HF.out]; clear hw3)
            | (go_at_call 51; refine HCL.out.mono ?_; rintro e w4 ⟨rfl, hb4⟩; have HB4 := Lib.hid hb4; clear hb4)
            | (go_at_call 68; refine (tleave_any w4 T G lo hi H W X m1 S ts hm _ _ f1 (HT.out.later HB4.out) k j HR.out).mono ?_; rintro e w5 ⟨m5, rfl, h5', g5'⟩
               rw [← rem_yes HQ.out, ← rem_yes HQ.out] at h5'
               have H5 := Lib.hid h5'
               have G5 : Hid (GrowS S S w w5) := Lib.hid ((growS_then HG.out (HB4.out.mono HG.out.size)).trans g5')
               have HVB : Hid (Below w5.heap.size w5 (w5.alloc (.cells #[.int .i64 (k : Int)] 3))) := Lib.hid (below1 _ _)
               have HV : Hid ((w5.alloc (.cells #[.int .i64 (k : Int)] 3)).ownsRow w.heap.size 3 1 (.slice ao q cap) q xs ∧ Lies (w5.alloc (.cells #[.int .i64 (k : Int)] 3)) w5.heap.size (w5.heap.size + 1) (.slice (some ⟨w5.heap.size, 0, none⟩) 1 1) 1 1 [.int .i64 (k : Int)] ∧ w.heap.size ≤ (w5.alloc (.cells #[.int .i64 (k : Int)] 3)).heap.size) := Lib.hid ⟨owns_later (owns_hold HO.out ⟨by have := g5'.size; have := HB4.out.size; omega, fun g hg => (g5'.block g (by have := (owns_own HO.out g hg).2; have := HB4.out.size; omega) (fun hs => by have := HLT.out g hs; have := (owns_own HO.out g hg).1; omega)).trans (HB4.out.block g (owns_own HO.out g hg).2)⟩) (below1 _ _), one_lies (heap_alloc_new _ _) rfl, by have := G5.out.size; simp; omega⟩
               clear h5' g5')
            | (refine wpList_append_lie2 (by rfl) (.tmp 33) (.tmp 35) 63 (by rfl) w.heap.size 3 i0 _ 1 8 Tryz.underlying63 HI.out hz0 hz1 hz2 rfl (by omega) (.slice ao q cap) q xs (by rfl) HV.out.1 (.slice (some ⟨w5.heap.size, 0, none⟩) 1 1) w5.heap.size (w5.heap.size + 1) 1 [.int .i64 (k : Int)] (by rfl) HV.out.2.1 (in_one (k : Int)) (q + 1) rfl (by simp only [maxLen]; omega) (by omega) HV.out.2.2 ?_
               intro ao2 cap2 w6 hown6' hgrow6' hob6'
               have hown6 := Lib.hid hown6'
               have B6 : Hid (Below w.heap.size w5 w6) := Lib.hid ((HVB.out.mono G5.out.size).grown hgrow6' (by have := HVB.out.size; have := G5.out.size; omega) (fun g hg => (owns_block HV.out.1 g hg).1))
               clear hown6' hgrow6' hob6')
            | fail "no arm")
          go_roundw
          case rel => exact ⟨k + 1, ao2, cap2, m5, upd f1 k Jc.z, by omega, by go_num, by rw [lis_yes HQ.out, List.length_append, ← HQX.out.1]; rfl, by rw [lis_yes HQ.out, List.length_append, ← HQX.out.1, List.flatMap_append, ← HQX.out.2]; exact hown6, Lib.hid (H5.out.keep (fun g hg => B6.out.block g (HLT.out g hg)) B6.out.size), Lib.hid (growS_then G5.out B6.out)⟩
          case measure => simp [intOf]; omega
    · have d0 : decide ((k : Int) < (n : Int)) = false := decide_eq_false (by omega)
      have hkn : k = n := by omega
      subst hkn
      go_wp2_with fail
      go_ret
      exact ⟨m1, f1, ao, cap, rfl, Lies.of_owns HO.out, HT.out, HG.out⟩
set_option maxRecDepth 100000 in
set_option maxHeartbeats 8000000 in
theorem tdrop_clear (w : World) (T G lo hi H W X m : Nat) (S : Nat → Prop) (ts : List Tk) (hm : Bool) (js : Js) (D : Nat → Option Int) (f : Nat → Jc) (h : TbD w T G lo hi H W X m S ts hm js D f) :
    Calls Tryz.prog 50 #[.pointer (some ⟨T, 0, none⟩), .func (.func 56) #[] #[]] w fun e w' => ∃ m' f' ao cap, e = .returned (.slice ao (lisT (fun _ _ => true) js ts.length).length cap) ∧ Lies w' w.heap.size w'.heap.size (.slice ao (lisT (fun _ _ => true) js ts.length).length cap) (lisT (fun _ _ => true) js ts.length).length 1 ((lisT (fun _ _ => true) js ts.length).flatMap intCells) ∧ TbD w' T G lo hi H W X m' S ts hm (remT (fun _ _ => true) js ts.length js) (remT (fun _ _ => true) js ts.length D) f' ∧ GrowS S S w w' := by
  obtain ⟨p, hp⟩ : ∃ p : Nat → Jb → Bool, p = fun _ _ => true := ⟨_, rfl⟩
  rw [← hp]
  have HP := Lib.hid hp
  have HTS := Lib.hid h.tk
  have HLT := Lib.hid h.lt
  have HW := Lib.hid h.ok
  have c0 := h.c0
  obtain ⟨n, hn⟩ : ∃ n, n = ts.length := ⟨_, rfl⟩
  rw [← hn] at c0
  rw [← hn]
  have HN := Lib.hid hn
  have n6 : n ≤ 6 := by rw [hn]; exact h.n6
  have H0 : Hid (TbD w T G lo hi H W X m S ts hm (remT p js 0 js) (remT p js 0 D) f) := Lib.hid (by rw [rem_zero, rem_zero]; exact h)
  obtain ⟨i0, hi0, hz0, hz1, hz2⟩ := info_parts Tryz.infoTInt
  have HI := Lib.hid hi0
  clear h hp hn hi0
  go_enter Tryz.func50, Tryz.ntmps50
  go_wp2_with fail
  go_loopw [5, 14] (fun s5 s14 wr => ∃ (k : Nat) (ao : Option Addr) (cap m' : Nat) (f' : Nat → Jc), k ≤ n ∧ s14 = .int .i64 k ∧ s5 = .slice ao (lisT p js k).length cap ∧ Hid (wr.ownsRow w.heap.size 3 1 (.slice ao (lisT p js k).length cap) (lisT p js k).length ((lisT p js k).flatMap intCells)) ∧ Hid (TbD wr T G lo hi H W X m' S ts hm (remT p js k js) (remT p js k D) f') ∧ Hid (GrowS S S w wr)) (fun _ s _ => n - (intOf s).toNat)
  case atStart => exact ⟨0, none, 0, m, f, Nat.zero_le _, rfl, rfl, Lib.hid ⟨rfl, .inl ⟨rfl, rfl⟩⟩, H0, Lib.hid (GrowS.of_below (Below.refl _ _))⟩
  case round =>
    clear H0 c0
    obtain ⟨k, ao, cap, m1, f1, hk, rfl, rfl, HO, HT, HG⟩ := hrel
    by_cases hlt : k < n
    · have d0 : decide ((k : Int) < (n : Int)) = true := decide_eq_true (by omega)
      have d1 : (0 : Int) ≤ (k : Int) := by omega
      have d2 : (k : Int) < (n : Int) := by omega
      have HKT : Hid (k < ts.length) := Lib.hid (by rw [← HN.out]; exact hlt)
      have HTH := Lib.hid (tthere_any wr T G lo hi H W X m1 S ts hm _ _ f1 HT.out (k : Int))
      cases hj : js k with
      | none =>
        have HF : Hid (thereT ts (remT p js k js) (k : Int) = false) := Lib.hid (there_f (by rw [rem_here]; exact hj))
        have HQ : Hid (goneT p js k = false) := Lib.hid (gone_none hj)
        clear hj
        go_wp2_with (first
          | (go_at_call 38; refine HTH.out.mono ?_; rintro e w3 ⟨rfl, hw3⟩; rw [hw3, HF.out]; clear hw3)
          | fail "no arm")
        go_roundw
        case rel => exact ⟨k + 1, ao, cap, m1, f1, by omega, by go_num, by rw [lis_no HQ.out], by rw [lis_no HQ.out]; exact HO, by rw [rem_no HQ.out, rem_no HQ.out]; exact HT, HG⟩
        case measure => simp [intOf]; omega
      | some j =>
        have HF : Hid (thereT ts (remT p js k js) (k : Int) = true) := Lib.hid (there_yes HKT.out (by rw [rem_here]; exact hj))
        have HJ := Lib.hid hj
        have HR : Hid (remT p js k js k = some j) := Lib.hid (by rw [rem_here]; exact hj)
        have c0 := HT.out.c0
        rw [← HN.out] at c0
        cases hb : p k j with
        | false =>
          have HQ : Hid (goneT p js k = false) := Lib.hid (by rw [gone_some hj]; exact hb)
          have HCL : Hid (Calls Tryz.prog 56 #[.pointer (some ⟨G, k * 11, none⟩)] wr fun e w' => e = .returned (.bool false) ∧ Below wr.heap.size wr w') := Lib.hid (by
            have hbb := hb
            rw [HP.out] at hbb
            have := clear1_any wr (.pointer (some ⟨G, k * 11, none⟩))
            rw [show true = false from hbb] at this
            exact this.mono (fun e w' h => ⟨h.1, by obtain ⟨n, hn⟩ := h.2; rw [hn]; exact below_drewM _ (Below.refl _ _)⟩))
          clear hj hb
          go_wp2_with (first
            | (go_at_call 38; refine HTH.out.mono ?_; rintro e w3 ⟨rfl, hw3⟩; rw [hw3, HF.out]; clear hw3)
            | (go_at_call 56; refine HCL.out.mono ?_; rintro e w4 ⟨rfl, hb4⟩; have HB4 := Lib.hid hb4; clear hb4)
            | fail "no arm")
          go_roundw
          case rel => exact ⟨k + 1, ao, cap, m1, f1, by omega, by go_num, by rw [lis_no HQ.out], by rw [lis_no HQ.out]; exact Lib.hid (owns_later HO.out HB4.out), by rw [rem_no HQ.out, rem_no HQ.out]; exact Lib.hid (HT.out.later HB4.out), Lib.hid (growS_then HG.out (HB4.out.mono HG.out.size))⟩
          case measure => simp [intOf]; omega
        | true =>
          have HQ : Hid (goneT p js k = true) := Lib.hid (by rw [gone_some hj]; exact hb)
          have HCL : Hid (Calls Tryz.prog 56 #[.pointer (some ⟨G, k * 11, none⟩)] wr fun e w' => e = .returned (.bool true) ∧ Below wr.heap.size wr w') := Lib.hid (by
            have hbb := hb
            rw [HP.out] at hbb
            have := clear1_any wr (.pointer (some ⟨G, k * 11, none⟩))
            rw [show true = true from rfl] at this
            exact this.mono (fun e w' h => ⟨h.1, by obtain ⟨n, hn⟩ := h.2; rw [hn]; exact below_drewM _ (Below.refl _ _)⟩))
          obtain ⟨q, hq⟩ : ∃ q, q = (lisT p js k).length := ⟨_, rfl⟩
          have hq6 : q ≤ 6 := by have := lis_len p js k; omega
          obtain ⟨xs, hxs⟩ : ∃ xs, xs = (lisT p js k).flatMap intCells := ⟨_, rfl⟩
          rw [← hq, ← hxs] at HO
          rw [← hq]
          have HQX := Lib.hid (And.intro hq hxs)
          clear hj hb hq hxs
          go_wp2_with (first
            | (go_at_call 38; refine HTH.out.mono ?_; rintro e w3 ⟨rfl, hw3⟩; rw [hw3, HF.out]; clear hw3)
            | (go_at_call 56; refine HCL.out.mono ?_; rintro e w4 ⟨rfl, hb4⟩; have HB4 := Lib.hid hb4; clear hb4)
            | (go_at_call 68; refine (tleave_any w4 T G lo hi H W X m1 S ts hm _ _ f1 (HT.out.later HB4.out) k j HR.out).mono ?_; rintro e w5 ⟨m5, rfl, h5', g5'⟩
               rw [← rem_yes HQ.out, ← rem_yes HQ.out] at h5'
               have H5 := Lib.hid h5'
               have G5 : Hid (GrowS S S w w5) := Lib.hid ((growS_then HG.out (HB4.out.mono HG.out.size)).trans g5')
               have HVB : Hid (Below w5.heap.size w5 (w5.alloc (.cells #[.int .i64 (k : Int)] 3))) := Lib.hid (below1 _ _)
               have HV : Hid ((w5.alloc (.cells #[.int .i64 (k : Int)] 3)).ownsRow w.heap.size 3 1 (.slice ao q cap) q xs ∧ Lies (w5.alloc (.cells #[.int .i64 (k : Int)] 3)) w5.heap.size (w5.heap.size + 1) (.slice (some ⟨w5.heap.size, 0, none⟩) 1 1) 1 1 [.int .i64 (k : Int)] ∧ w.heap.size ≤ (w5.alloc (.cells #[.int .i64 (k : Int)] 3)).heap.size) := Lib.hid ⟨owns_later (owns_hold HO.out ⟨by have := g5'.size; have := HB4.out.size; omega, fun g hg => (g5'.block g (by have := (owns_own HO.out g hg).2; have := HB4.out.size; omega) (fun hs => by have := HLT.out g hs; have := (owns_own HO.out g hg).1; omega)).trans (HB4.out.block g (owns_own HO.out g hg).2)⟩) (below1 _ _), one_lies (heap_alloc_new _ _) rfl, by have := G5.out.size; simp; omega⟩
               clear h5' g5')
            | (refine wpList_append_lie2 (by rfl) (.tmp 33) (.tmp 35) 63 (by rfl) w.heap.size 3 i0 _ 1 8 Tryz.underlying63 HI.out hz0 hz1 hz2 rfl (by omega) (.slice ao q cap) q xs (by rfl) HV.out.1 (.slice (some ⟨w5.heap.size, 0, none⟩) 1 1) w5.heap.size (w5.heap.size + 1) 1 [.int .i64 (k : Int)] (by rfl) HV.out.2.1 (in_one (k : Int)) (q + 1) rfl (by simp only [maxLen]; omega) (by omega) HV.out.2.2 ?_
               intro ao2 cap2 w6 hown6' hgrow6' hob6'
               have hown6 := Lib.hid hown6'
               have B6 : Hid (Below w.heap.size w5 w6) := Lib.hid ((HVB.out.mono G5.out.size).grown hgrow6' (by have := HVB.out.size; have := G5.out.size; omega) (fun g hg => (owns_block HV.out.1 g hg).1))
               clear hown6' hgrow6' hob6')
            | fail "no arm")
          go_roundw
          case rel => exact ⟨k + 1, ao2, cap2, m5, upd f1 k Jc.z, by omega, by go_num, by rw [lis_yes HQ.out, List.length_append, ← HQX.out.1]; rfl, by rw [lis_yes HQ.out, List.length_append, ← HQX.out.1, List.flatMap_append, ← HQX.out.2]; exact hown6, Lib.hid (H5.out.keep (fun g hg => B6.out.block g (HLT.out g hg)) B6.out.size), Lib.hid (growS_then G5.out B6.out)⟩
          case measure => simp [intOf]; omega
    · have d0 : decide ((k : Int) < (n : Int)) = false := decide_eq_false (by omega)
      have hkn : k = n := by omega
      subst hkn
      go_wp2_with fail
      go_ret
      exact ⟨m1, f1, ao, cap, rfl, Lies.of_owns HO.out, HT.out, HG.out⟩
set_option maxRecDepth 100000 in
set_option maxHeartbeats 8000000 in
theorem tdrop_miss (w : World) (T G lo hi H W X m : Nat) (S : Nat → Prop) (ts : List Tk) (hm : Bool) (js : Js) (D : Nat → Option Int) (f : Nat → Jc) (h : TbD w T G lo hi H W X m S ts hm js D f) (now : Int) (B : Nat) (hB : w.cell? ⟨B, 0, none⟩ = some (.int .i64 now)) (hBl : B < w.heap.size) (hBS : ¬ S B) :
    Calls Tryz.prog 50 #[.pointer (some ⟨T, 0, none⟩), .func (.func 54) #[] #[.pointer (some ⟨B, 0, none⟩)]] w fun e w' => ∃ m' f' ao cap, e = .returned (.slice ao (lisT (misP ts now) js ts.length).length cap) ∧ Lies w' w.heap.size w'.heap.size (.slice ao (lisT (misP ts now) js ts.length).length cap) (lisT (misP ts now) js ts.length).length 1 ((lisT (misP ts now) js ts.length).flatMap intCells) ∧ TbD w' T G lo hi H W X m' S ts hm (remT (misP ts now) js ts.length js) (remT (misP ts now) js ts.length D) f' ∧ GrowS S S w w' := by
  obtain ⟨p, hp⟩ : ∃ p : Nat → Jb → Bool, p = misP ts now := ⟨_, rfl⟩
  rw [← hp]
  have HP := Lib.hid hp
  have HTS := Lib.hid h.tk
  have HLT := Lib.hid h.lt
  have HW := Lib.hid h.ok
  have c0 := h.c0
  obtain ⟨n, hn⟩ : ∃ n, n = ts.length := ⟨_, rfl⟩
  rw [← hn] at c0
  rw [← hn]
  have HN := Lib.hid hn
  have n6 : n ≤ 6 := by rw [hn]; exact h.n6
  have KB : Hid (∀ Y, GrowS S S w Y → Y.cell? ⟨B, 0, none⟩ = some (.int .i64 now)) := Lib.hid (fun Y hY => by unfold World.cell? at hB ⊢; rw [hY.block B hBl hBS]; exact hB)
  clear hB hBl hBS
  have H0 : Hid (TbD w T G lo hi H W X m S ts hm (remT p js 0 js) (remT p js 0 D) f) := Lib.hid (by rw [rem_zero, rem_zero]; exact h)
  obtain ⟨i0, hi0, hz0, hz1, hz2⟩ := info_parts Tryz.infoTInt
  have HI := Lib.hid hi0
  clear h hp hn hi0
  go_enter Tryz.func50, Tryz.ntmps50
  go_wp2_with fail
  go_loopw [5, 14] (fun s5 s14 wr => ∃ (k : Nat) (ao : Option Addr) (cap m' : Nat) (f' : Nat → Jc), k ≤ n ∧ s14 = .int .i64 k ∧ s5 = .slice ao (lisT p js k).length cap ∧ Hid (wr.ownsRow w.heap.size 3 1 (.slice ao (lisT p js k).length cap) (lisT p js k).length ((lisT p js k).flatMap intCells)) ∧ Hid (TbD wr T G lo hi H W X m' S ts hm (remT p js k js) (remT p js k D) f') ∧ Hid (GrowS S S w wr)) (fun _ s _ => n - (intOf s).toNat)
  case atStart => exact ⟨0, none, 0, m, f, Nat.zero_le _, rfl, rfl, Lib.hid ⟨rfl, .inl ⟨rfl, rfl⟩⟩, H0, Lib.hid (GrowS.of_below (Below.refl _ _))⟩
  case round =>
    clear H0 c0
    obtain ⟨k, ao, cap, m1, f1, hk, rfl, rfl, HO, HT, HG⟩ := hrel
    by_cases hlt : k < n
    · have d0 : decide ((k : Int) < (n : Int)) = true := decide_eq_true (by omega)
      have d1 : (0 : Int) ≤ (k : Int) := by omega
      have d2 : (k : Int) < (n : Int) := by omega
      have HKT : Hid (k < ts.length) := Lib.hid (by rw [← HN.out]; exact hlt)
      have HTH := Lib.hid (tthere_any wr T G lo hi H W X m1 S ts hm _ _ f1 HT.out (k : Int))
      cases hj : js k with
      | none =>
        have HF : Hid (thereT ts (remT p js k js) (k : Int) = false) := Lib.hid (there_f (by rw [rem_here]; exact hj))
        have HQ : Hid (goneT p js k = false) := Lib.hid (gone_none hj)
        clear hj
        go_wp2_with (first
          | (go_at_call 38; refine HTH.out.mono ?_; rintro e w3 ⟨rfl, hw3⟩; rw [hw3, HF.out]; clear hw3)
          | fail "no arm")
        go_roundw
        case rel => exact ⟨k + 1, ao, cap, m1, f1, by omega, by go_num, by rw [lis_no HQ.out], by rw [lis_no HQ.out]; exact HO, by rw [rem_no HQ.out, rem_no HQ.out]; exact HT, HG⟩
        case measure => simp [intOf]; omega
      | some j =>
        have HF : Hid (thereT ts (remT p js k js) (k : Int) = true) := Lib.hid (there_yes HKT.out (by rw [rem_here]; exact hj))
        have HJ := Lib.hid hj
        have HR : Hid (remT p js k js k = some j) := Lib.hid (by rw [rem_here]; exact hj)
        have c0 := HT.out.c0
        rw [← HN.out] at c0
        cases hb : p k j with
        | false =>
          have HQ : Hid (goneT p js k = false) := Lib.hid (by rw [gone_some hj]; exact hb)
          have HCL : Hid (Calls Tryz.prog 54 #[.pointer (some ⟨G, k * 11, none⟩), .pointer (some ⟨B, 0, none⟩)] wr fun e w' => e = .returned (.bool false) ∧ Below wr.heap.size wr w') := Lib.hid (by
            have hbb := hb
            rw [HP.out] at hbb
            have := missed1_any wr G (k * 11) B j.arr (tkAt ts k).d now (by obtain ⟨_, _, _, g, _⟩ := HT.out.jobAt HR.out; exact g) ((HT.out.seatAt HKT.out).2.2.2.2.2.2.1) ⟨(HW.out.bd k j hj).1, (HW.out.bd k j hj).2.1⟩ (by have := okTk_bd HTS.out HKT.out; omega) (KB.out wr HG.out)
            rw [show decide (j.arr + (tkAt ts k).d ≤ now) = false from hbb] at this
            exact this.mono (fun e w' h => ⟨h.1, by obtain ⟨n, hn⟩ := h.2; rw [hn]; exact below_drewM _ (Below.refl _ _)⟩))
          clear hj hb
          go_wp2_with (first
            | (go_at_call 38; refine HTH.out.mono ?_; rintro e w3 ⟨rfl, hw3⟩; rw [hw3, HF.out]; clear hw3)
            | (go_at_call 54; refine HCL.out.mono ?_; rintro e w4 ⟨rfl, hb4⟩; have HB4 := Lib.hid hb4; clear hb4)
            | fail "no arm")
          go_roundw
          case rel => exact ⟨k + 1, ao, cap, m1, f1, by omega, by go_num, by rw [lis_no HQ.out], by rw [lis_no HQ.out]; exact Lib.hid (owns_later HO.out HB4.out), by rw [rem_no HQ.out, rem_no HQ.out]; exact Lib.hid (HT.out.later HB4.out), Lib.hid (growS_then HG.out (HB4.out.mono HG.out.size))⟩
          case measure => simp [intOf]; omega
        | true =>
          have HQ : Hid (goneT p js k = true) := Lib.hid (by rw [gone_some hj]; exact hb)
          have HCL : Hid (Calls Tryz.prog 54 #[.pointer (some ⟨G, k * 11, none⟩), .pointer (some ⟨B, 0, none⟩)] wr fun e w' => e = .returned (.bool true) ∧ Below wr.heap.size wr w') := Lib.hid (by
            have hbb := hb
            rw [HP.out] at hbb
            have := missed1_any wr G (k * 11) B j.arr (tkAt ts k).d now (by obtain ⟨_, _, _, g, _⟩ := HT.out.jobAt HR.out; exact g) ((HT.out.seatAt HKT.out).2.2.2.2.2.2.1) ⟨(HW.out.bd k j hj).1, (HW.out.bd k j hj).2.1⟩ (by have := okTk_bd HTS.out HKT.out; omega) (KB.out wr HG.out)
            rw [show decide (j.arr + (tkAt ts k).d ≤ now) = true from hbb] at this
            exact this.mono (fun e w' h => ⟨h.1, by obtain ⟨n, hn⟩ := h.2; rw [hn]; exact below_drewM _ (Below.refl _ _)⟩))
          obtain ⟨q, hq⟩ : ∃ q, q = (lisT p js k).length := ⟨_, rfl⟩
          have hq6 : q ≤ 6 := by have := lis_len p js k; omega
          obtain ⟨xs, hxs⟩ : ∃ xs, xs = (lisT p js k).flatMap intCells := ⟨_, rfl⟩
          rw [← hq, ← hxs] at HO
          rw [← hq]
          have HQX := Lib.hid (And.intro hq hxs)
          clear hj hb hq hxs
          go_wp2_with (first
            | (go_at_call 38; refine HTH.out.mono ?_; rintro e w3 ⟨rfl, hw3⟩; rw [hw3, HF.out]; clear hw3)
            | (go_at_call 54; refine HCL.out.mono ?_; rintro e w4 ⟨rfl, hb4⟩; have HB4 := Lib.hid hb4; clear hb4)
            | (go_at_call 68; refine (tleave_any w4 T G lo hi H W X m1 S ts hm _ _ f1 (HT.out.later HB4.out) k j HR.out).mono ?_; rintro e w5 ⟨m5, rfl, h5', g5'⟩
               rw [← rem_yes HQ.out, ← rem_yes HQ.out] at h5'
               have H5 := Lib.hid h5'
               have G5 : Hid (GrowS S S w w5) := Lib.hid ((growS_then HG.out (HB4.out.mono HG.out.size)).trans g5')
               have HVB : Hid (Below w5.heap.size w5 (w5.alloc (.cells #[.int .i64 (k : Int)] 3))) := Lib.hid (below1 _ _)
               have HV : Hid ((w5.alloc (.cells #[.int .i64 (k : Int)] 3)).ownsRow w.heap.size 3 1 (.slice ao q cap) q xs ∧ Lies (w5.alloc (.cells #[.int .i64 (k : Int)] 3)) w5.heap.size (w5.heap.size + 1) (.slice (some ⟨w5.heap.size, 0, none⟩) 1 1) 1 1 [.int .i64 (k : Int)] ∧ w.heap.size ≤ (w5.alloc (.cells #[.int .i64 (k : Int)] 3)).heap.size) := Lib.hid ⟨owns_later (owns_hold HO.out ⟨by have := g5'.size; have := HB4.out.size; omega, fun g hg => (g5'.block g (by have := (owns_own HO.out g hg).2; have := HB4.out.size; omega) (fun hs => by have := HLT.out g hs; have := (owns_own HO.out g hg).1; omega)).trans (HB4.out.block g (owns_own HO.out g hg).2)⟩) (below1 _ _), one_lies (heap_alloc_new _ _) rfl, by have := G5.out.size; simp; omega⟩
               clear h5' g5')
            | (refine wpList_append_lie2 (by rfl) (.tmp 33) (.tmp 35) 63 (by rfl) w.heap.size 3 i0 _ 1 8 Tryz.underlying63 HI.out hz0 hz1 hz2 rfl (by omega) (.slice ao q cap) q xs (by rfl) HV.out.1 (.slice (some ⟨w5.heap.size, 0, none⟩) 1 1) w5.heap.size (w5.heap.size + 1) 1 [.int .i64 (k : Int)] (by rfl) HV.out.2.1 (in_one (k : Int)) (q + 1) rfl (by simp only [maxLen]; omega) (by omega) HV.out.2.2 ?_
               intro ao2 cap2 w6 hown6' hgrow6' hob6'
               have hown6 := Lib.hid hown6'
               have B6 : Hid (Below w.heap.size w5 w6) := Lib.hid ((HVB.out.mono G5.out.size).grown hgrow6' (by have := HVB.out.size; have := G5.out.size; omega) (fun g hg => (owns_block HV.out.1 g hg).1))
               clear hown6' hgrow6' hob6')
            | fail "no arm")
          go_roundw
          case rel => exact ⟨k + 1, ao2, cap2, m5, upd f1 k Jc.z, by omega, by go_num, by rw [lis_yes HQ.out, List.length_append, ← HQX.out.1]; rfl, by rw [lis_yes HQ.out, List.length_append, ← HQX.out.1, List.flatMap_append, ← HQX.out.2]; exact hown6, Lib.hid (H5.out.keep (fun g hg => B6.out.block g (HLT.out g hg)) B6.out.size), Lib.hid (growS_then G5.out B6.out)⟩
          case measure => simp [intOf]; omega
    · have d0 : decide ((k : Int) < (n : Int)) = false := decide_eq_false (by omega)
      have hkn : k = n := by omega
      subst hkn
      go_wp2_with fail
      go_ret
      exact ⟨m1, f1, ao, cap, rfl, Lies.of_owns HO.out, HT.out, HG.out⟩
end Go.Proofs.YtnenbgdonkgkfaaGreat
