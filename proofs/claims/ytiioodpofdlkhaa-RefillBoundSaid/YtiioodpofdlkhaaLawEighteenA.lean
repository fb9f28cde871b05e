/- RefillBound, out of the contracts. -/
import Derived.Test.YtiioodpofdlkhaaLawEighteenB
import Derived.Test.YtiioodpofdlkhaaDemandOne
import Derived.BigRegion
namespace Go.Proofs.Ytiioodpofdlkhaa
open Go.ChangeShapes Go.WideShapes Go.ChangeAt Go.RowKit
set_option linter.unusedVariables false

/-- A row of ints in blocks of R. -/
def FrQ (ao : Option Addr) (cap : Nat) (fr : List Int) (w : World) (R : Nat → Prop) : Prop := w.ownsRow 0 3 1 (.slice ao fr.length cap) fr.length (fr.flatMap intCells) ∧ (∀ b, (Value.slice ao fr.length cap).ownBlock = some b → R b) ∧ ∀ k, R k → k < w.heap.size
theorem fr_own (ao : Option Addr) (cap : Nat) (fr : List Int) : OwnP (FrQ ao cap fr) := ⟨fun h hs hz => ⟨owns_hold h.1 ⟨hz, fun g hg => hs g (h.2.1 g hg)⟩, h.2.1, fun k hk => Nat.lt_of_lt_of_le (h.2.2 k hk) hz⟩, fun h => h.2.2⟩
theorem FrQ.app {w w2 : World} {R : Nat → Prop} {fr : List Int} {x : Int} {m : Nat} {ao ao2 : Option Addr} {cap cap2 : Nat} (h : FrQ ao cap fr w R) (hm : m = fr.length) (h2 : w2.ownsRow 0 3 1 (.slice ao2 (m + 1) cap2) (m + 1) (fr.flatMap intCells ++ [.int .i64 x])) (hg : ∃ w1, Below w.heap.size w w1 ∧ w1.grownBy w2 (Value.slice ao m cap).ownBlock ∧ ((Value.slice ao2 (m + 1) cap2).ownBlock = (Value.slice ao m cap).ownBlock ∨ (Value.slice ao2 (m + 1) cap2).ownBlock = some w1.heap.size)) :
    FrQ ao2 cap2 (fr ++ [x]) w2 (fun k => (Value.slice ao2 (m + 1) cap2).ownBlock = some k) ∧ GrowS R (fun k => (Value.slice ao2 (m + 1) cap2).ownBlock = some k) w w2 := by
  subst hm
  obtain ⟨w1, hb1, hgr, hblk⟩ := hg
  have s1 := hb1.size
  have s2 := hgr.size
  have hin : ∀ b, (Value.slice ao2 (fr.length + 1) cap2).ownBlock = some b → b < w2.heap.size := fun b hb => by
    obtain ⟨_, c, hc⟩ := owns_block h2 b hb
    exact lt_of_block hc
  have hxs : (fr ++ [x]).flatMap intCells = fr.flatMap intCells ++ [.int .i64 x] := by simp [intCells]
  refine ⟨⟨by rw [hxs, List.length_append]; exact h2, fun b hb => by rw [List.length_append] at hb; exact hb, fun k hk => hin k hk⟩, ⟨hgr.os.trans hb1.os, hgr.tape.trans hb1.tape, hgr.output.trans hb1.output, by omega, fun k hk hS => (hgr.block k (by omega) (fun e => hS (h.2.1 k e.symm))).trans (hb1.block k hk), fun k hk => ?_⟩⟩
  rcases hblk with h1 | h1
  · exact .inl (h.2.1 k (h1 ▸ hk))
  · have := h1.symm.trans hk; cases this; right; omega
theorem FrQ.at_ {w : World} {R : Nat → Prop} {fr : List Int} {ao : Option Addr} {cap : Nat} (h : FrQ ao cap fr w R) {i : Nat} (hi : i < fr.length) : ∃ g, ao = some ⟨g, 0, none⟩ ∧ w.cell? ⟨g, i, none⟩ = some (.int .i64 fr[i]) := by
  have hr : RowR w w.heap.size R 3 1 ao fr.length cap (fr.flatMap intCells) := ⟨h.1, fun b hb => ⟨h.2.1 b hb, fun e => by have := h.2.2 b (h.2.1 b hb); omega⟩⟩
  obtain ⟨g, e, _, _, c0, _⟩ := hr.at1 (f := intCells) (emb := fun x => .int .i64 x) (fun _ => rfl) hi
  exact ⟨g, e, c0⟩

/-- How many of some lie between. -/
def btw (l : List Int) (x y : Int) : Nat := (l.filter (fun z => decide (x ≤ z) && decide (z ≤ y))).length
theorem btw_snoc (l : List Int) (z x y : Int) : btw (l ++ [z]) x y = btw l x y + (if (decide (x ≤ z) && decide (z ≤ y)) = true then 1 else 0) := by
  unfold btw
  rw [List.filter_append, List.length_append, List.filter_cons]
  split <;> simp
theorem btw_le (l : List Int) (x y : Int) : btw l x y ≤ l.length := List.length_filter_le _ _
theorem Try.infoInt18 : (Try.prog.info? 3).map (fun i => (i.zero, i.size, i.bytes)) = some (some (.int .i64 0), 1, 8) := by kernel_rfl
set_option maxRecDepth 100000 in
set_option maxHeartbeats 8000000 in
theorem RefillBound_of (O : RefillOk) (re : Bool) (c t st : Int) (a1 : Option Addr) (n1 c1 : Nat) (w : World) (l1 : List Bk) (hn1 : l1.length = n1) (hl1 : Lies w 0 w.heap.size (.slice a1 n1 c1) n1 2 (l1.flatMap Bk.cells)) :
    Calls Try.prog 3 #[.agg #[.bool re, .int .i64 c, .int .i64 t], .int .i64 st, .slice a1 n1 c1] w fun e w' => e = .returned (.bool true) ∧ Below w.heap.size w w' := by
  obtain ⟨V, hV⟩ : ∃ V, V = w.alloc (.cells #[.bool re, .int .i64 c, .int .i64 t] 23) := ⟨_, rfl⟩
  obtain ⟨E, hE⟩ : ∃ E, E = w.heap.size := ⟨_, rfl⟩
  have hbV : Below w.heap.size w V := by rw [hV]; exact below1 _ _
  have hEV : V.heap[E]? = some (.cells #[.bool re, .int .i64 c, .int .i64 t] 23 (0, 0)) := by rw [hV, hE]; exact heap_alloc_new _ _
  have HBV := Lib.hid hbV
  have KE : Hid (∀ Y, Below V.heap.size V Y → Y.cell? ⟨E, 0, none⟩ = some (.bool re) ∧ Y.cell? ⟨E, 1, none⟩ = some (.int .i64 c) ∧ Y.cell? ⟨E, 2, none⟩ = some (.int .i64 t)) := Lib.hid (fun Y hY => by
    have := (hY.block _ (lt_of_block hEV)).trans hEV
    exact ⟨cell_in this rfl, cell_in this rfl, cell_in this rfl⟩)
  have HV := Lib.hid hV
  have HE := Lib.hid hE
  have KA : Hid (∀ Y, Below w.heap.size w Y → ∀ i, i < n1 → ∃ b off k n, a1 = some ⟨b, off, none⟩ ∧ Y.cell? ⟨b, off + i * 2, none⟩ = some (.int .i64 k) ∧ Y.cell? ⟨b, off + i * 2 + 1, none⟩ = some (.int .i64 n) ∧ ∀ Y', Below w.heap.size w Y' → Y'.cell? ⟨b, off + i * 2, none⟩ = some (.int .i64 k) ∧ Y'.cell? ⟨b, off + i * 2 + 1, none⟩ = some (.int .i64 n)) := Lib.hid (fun Y hY i hi => by
    obtain ⟨b, off, e, c0, c1, _⟩ := bks_read hn1 hl1 Y hY i hi
    refine ⟨b, off, _, _, e, c0, c1, fun Y' hY' => ?_⟩
    obtain ⟨b', off', e', c0', c1', _⟩ := bks_read hn1 hl1 Y' hY' i hi
    cases e.symm.trans e'
    exact ⟨c0', c1'⟩)
  clear hV hE hbV hEV hl1 hn1
  cases hok : newOk re c t st with
  | false =>
    have HOK := Lib.hid hok
    clear hok
    by_cases hbig : 150 < n1
    · have t0 : decide ((150 : Int) < (n1 : Int)) = true := decide_eq_true (by omega)
      go_enter Try.func3, Try.ntmps3
      go_upto_region 1 with fail
      rw [← HV.out, ← HE.out]
      obtain ⟨q0, q1, q2⟩ := KE.out V (Below.refl _ _)
      go_wp2_with (first
        | (go_at_call 7; have _z := hb3; refine (knows18_of O _).mono ?_; rintro e w4 ⟨rfl, b4⟩; have hb4 := Lib.hid (hb3.out.trans (b4.mono hb3.out.size)); clear b4)
        | (go_at_call 6; refine (O.new_no re c t st V HOK.out).mono ?_; rintro e w3 ⟨rfl, b3⟩; have hb3 := Lib.hid b3; clear b3)
        | fail "no arm")
      go_ret
      exact ⟨rfl, HBV.out.trans (hb4.out.mono HBV.out.size)⟩
    · have t0 : decide ((150 : Int) < (n1 : Int)) = false := decide_eq_false (by omega)
      go_enter Try.func3, Try.ntmps3
      go_upto_region 1 with fail
      rw [← HV.out, ← HE.out]
      obtain ⟨q0, q1, q2⟩ := KE.out V (Below.refl _ _)
      go_wp2_with (first
        | (go_at_call 7; have _z := hb3; refine (knows18_of O _).mono ?_; rintro e w4 ⟨rfl, b4⟩; have hb4 := Lib.hid (hb3.out.trans (b4.mono hb3.out.size)); clear b4)
        | (go_at_call 6; refine (O.new_no re c t st V HOK.out).mono ?_; rintro e w3 ⟨rfl, b3⟩; have hb3 := Lib.hid b3; clear b3)
        | fail "no arm")
      go_ret
      exact ⟨rfl, HBV.out.trans (hb4.out.mono HBV.out.size)⟩
  | true =>
    have HOK := Lib.hid hok
    have hsv : 1 ≤ c ∧ c ≤ t ∧ t ≤ 1000 := of_decide_eq_true (by have h := hok; simp only [newOk, Bool.and_eq_true] at h; exact h.1)
    clear hok
    by_cases hbig : 150 < n1
    · have t0 : decide ((150 : Int) < (n1 : Int)) = true := decide_eq_true (by omega)
      go_enter Try.func3, Try.ntmps3
      go_upto_region 1 with fail
      rw [← HV.out, ← HE.out]
      obtain ⟨q0, q1, q2⟩ := KE.out V (Below.refl _ _)
      go_wp2_with (first
        | (go_at_call 7; have _z := hb3; refine (knows18_of O _).mono ?_; rintro e w4 ⟨rfl, b4⟩; have hb4 := Lib.hid (hb3.out.trans (b4.mono hb3.out.size)); clear b4)
        | (go_at_call 6; refine (O.new_yes re c t st V HOK.out).mono ?_; rintro e w3 ⟨H, S, rfl, h3', s3', b3⟩; have h3 := Lib.hid h3'; have s3 := Lib.hid s3'; have hb3 := Lib.hid b3; clear h3' s3' b3)
        | fail "no arm")
      go_ret
      exact ⟨rfl, HBV.out.trans (hb4.out.mono HBV.out.size)⟩
    have s0 : n1 ≤ 150 := by omega
    have t0 : decide ((150 : Int) < (n1 : Int)) = false := decide_eq_false (by omega)
    clear hbig
    by_cases hhalf : (2305843009213693952 : Int) < st
    · have t1 : decide ((2305843009213693952 : Int) < st) = true := decide_eq_true hhalf
      go_enter Try.func3, Try.ntmps3
      go_upto_region 1 with fail
      rw [← HV.out, ← HE.out]
      obtain ⟨q0, q1, q2⟩ := KE.out V (Below.refl _ _)
      go_wp2_with (first
        | (go_at_call 7; have _z := hb3; refine (knows18_of O _).mono ?_; rintro e w4 ⟨rfl, b4⟩; have hb4 := Lib.hid (hb3.out.trans (b4.mono hb3.out.size)); clear b4)
        | (go_at_call 6; refine (O.new_yes re c t st V HOK.out).mono ?_; rintro e w3 ⟨H, S, rfl, h3', s3', b3⟩; have h3 := Lib.hid h3'; have s3 := Lib.hid s3'; have hb3 := Lib.hid b3; clear h3' s3' b3)
        | fail "no arm")
      go_ret
      exact ⟨rfl, HBV.out.trans (hb4.out.mono HBV.out.size)⟩
    have hp1 : st ≤ 2305843009213693952 := by omega
    have t1 : decide ((2305843009213693952 : Int) < st) = false := decide_eq_false hhalf
    have hp0 : 0 ≤ st := (by have h := HOK.out; simp only [newOk, Bool.and_eq_true, decide_eq_true_eq] at h; exact h.2.1)
    clear hhalf
    obtain ⟨s, hs⟩ : ∃ s : Sv, s = ⟨re, c, t⟩ := ⟨_, rfl⟩
    go_enter Try.func3, Try.ntmps3
    go_upto_region 1 with fail
    rw [← HV.out, ← HE.out]
    obtain ⟨q0, q1, q2⟩ := KE.out V (Below.refl _ _)
    go_wp2_with (first
      | (go_at_call 7; have _z := hb3; refine (knows18_of O _).mono ?_; rintro e w4 ⟨rfl, b4⟩; have hb4 := Lib.hid (hb3.out.trans (b4.mono hb3.out.size)); have h4 := Lib.hid ((O.own _ _ _ _).later h3.out b4); clear b4)
      | (go_at_call 6; refine (O.new_yes re c t st V HOK.out).mono ?_; rintro e w3 ⟨H, S, rfl, h3', s3', b3⟩; have h3 := Lib.hid h3'; have s3 := Lib.hid s3'; have hb3 := Lib.hid b3; clear h3' s3' b3)
      | fail "no arm")
    rw [← hs] at h4
    have HS := Lib.hid hs
    have hsc : s.c = c := by rw [hs]
    have hst : s.t = t := by rw [hs]
    clear hs
    clear h3 hb3 q0 q1 q2
    have HT0 : Hid (Both V w4 (O.Rg H s st ⟨st, c, [], false⟩) (FrQ none 0 []) S (fun _ => False)) := Lib.hid ⟨h4.out, ⟨⟨rfl, .inl ⟨rfl, rfl⟩⟩, fun b hb => (by cases hb), fun k hk => hk.elim⟩, O.own _ _ _ _, fr_own _ _ _, fun k _ h => h, s3.out, fun k hk => hk.elim, hb4.out⟩
    have HN0 : Hid (NeverR c t st ⟨st, c, [], false⟩ []) := Lib.hid (NeverR.begin_ (by omega) t st)
    go_loopw [8, 9, 10] (fun s8 s9 s10 wr => ∃ (i : Nat) (now : Int) (S R : Nat → Prop) (b : Rd) (fr : List Int) (ao : Option Addr) (cap m : Nat), i ≤ n1 ∧ st ≤ now ∧ now ≤ st + 20 * (i : Int) ∧ m ≤ i ∧ s8 = .int .i64 now ∧ s9 = .slice ao m cap ∧ s10 = .int .i64 i ∧ m = fr.length ∧ Hid (Both V wr (O.Rg H s st b) (FrQ ao cap fr) S R) ∧ Hid (NeverR c t st b fr) ∧ Hid (∀ z ∈ fr, st ≤ z ∧ z ≤ now) ∧ Hid (b.now = now)) (fun _ _ s _ => n1 - (intOf s).toNat)
    case atStart => exact ⟨0, st, S, _, _, [], none, 0, 0, Nat.zero_le _, Int.le_refl _, by simp, Nat.le_refl _, rfl, rfl, rfl, rfl, HT0, HN0, Lib.hid (fun z hz => by cases hz), Lib.hid rfl⟩
    case round =>
      clear h4 s3 hb4 HT0 HN0
      obtain ⟨i, now, S, R, b, fr, ao, cap, m, hi, hn0, hn1, hmi, rfl, rfl, rfl, hfm, HT, HNV, HFB, HBN⟩ := hrel
      by_cases hlt : i < n1
      · have d0 : decide ((i : Int) < (n1 : Int)) = true := decide_eq_true (by omega)
        have d1 : (0 : Int) ≤ (i : Int) := by omega
        have d2 : (i : Int) < (n1 : Int) := by omega
        obtain ⟨ab, off, kd, nn, rfl, x0, x1, hkc⟩ := KA.out wr (HBV.out.trans (HT.out.b.mono HBV.out.size)) i hlt
        have KC := Lib.hid hkc
        obtain ⟨m5, hm5'⟩ : ∃ m5, m5 = b.live.length := ⟨_, rfl⟩
        have HM5 := Lib.hid hm5'
        have HFM := Lib.hid hfm
        have HST : Hid (∀ x ∈ b.live, st ≤ x.at_) := Lib.hid (O.bd HT.out.h).2.2.2
        clear hkc hm5' hfm x0 x1
        go_upto_region 10 with (go_at_call 8; refine (O.live _ H S s st b HT.out.h).mono ?_; rintro e w6 ⟨a6, c6, rfl, l6, b6⟩; rw [← HM5.out] at l6; rw [← HM5.out]; have hl6 := Lib.hid l6; have t6 := Lib.hid (HT.out.later b6); obtain ⟨kk0, kk1⟩ := KC.out _ (HBV.out.trans (t6.out.b.mono HBV.out.size)); clear l6 b6)
        by_cases q0 : kd = 0
        · subst q0
          go_wp2_with fail
          go_loopw [8, 12] (fun s8 s12 wr => ∃ (k : Nat) (nw : Int) (S2 : Nat → Prop) (b2 : Rd), k ≤ 20 ∧ now ≤ nw ∧ nw ≤ now + k ∧ s8 = .int .i64 nw ∧ s12 = .int .i64 k ∧ Hid (Both V wr (O.Rg H s st b2) (FrQ ao cap fr) S2 R) ∧ Hid (NeverR c t st b2 fr) ∧ Hid (b2.now = nw)) (fun _ s _ => 20 - (intOf s).toNat)
          case atStart => exact ⟨0, now, S, b, Nat.zero_le _, Int.le_refl _, by simp, rfl, rfl, t6, HNV, HBN⟩
          case round =>
            obtain ⟨k, nw, S2, b2, hk, hw0, hw1, rfl, rfl, HT2, HNV2, HBN2⟩ := hrel
            obtain ⟨wy, hwy⟩ : ∃ wy, wy = wr := ⟨_, rfl⟩
            subst hwy
            clear kk0 kk1
            obtain ⟨kk0, kk1⟩ := KC.out _ (HBV.out.trans (HT2.out.b.mono HBV.out.size))
            have hnwb : st ≤ nw ∧ nw ≤ st + 20 * ((i + 1 : Nat) : Int) := by push_cast; omega
            have HFB2 : Hid (∀ z ∈ fr, st ≤ z ∧ z ≤ nw) := Lib.hid (fun z hz => by have := HFB.out z hz; omega)
            by_cases g1 : (k : Int) < nn
            · have j0 : decide ((k : Int) < nn) = true := decide_eq_true g1
              by_cases g2 : k < 20
              · have j1 : decide ((k : Int) < 20) = true := decide_eq_true (by omega)
                obtain ⟨nw1, hnw1⟩ : ∃ n', n' = nw + 1 := ⟨_, rfl⟩
                have HN1 := Lib.hid hnw1
                have v1 : wrap64 (nw + 1) = nw1 := by rw [hnw1]; exact IntWalk.wrap64_in _ (by omega)
                have v2 : IntKind.i64.wrap (nw + 1) = nw1 := by rw [hnw1]; exact IntWalk.i64_in _ (by omega)
                have vn : 0 ≤ nw1 ∧ nw1 ≤ 4611687117939015680 := by omega
                clear hnw1
                obtain ⟨b3, hb3⟩ : ∃ b3, b3 = rGo s.c s.t st b2 nw1 (decide ((0 : Int) < 2)) := ⟨_, rfl⟩
                have HB3 := Lib.hid hb3
                have HBN3 : Hid (b3.now = nw1) := Lib.hid (by rw [hb3]; exact (rGo_sum _ _ _ _ _ _).2)
                have HNV3 : Hid (NeverR c t st b3 fr) := Lib.hid (by
                  rw [hb3, hsc, hst]
                  have h1 := (O.bd HT2.out.h).2.1
                  rw [hsc] at h1
                  exact HNV2.out.go (by omega) h1 (by have := HBN2.out; have := HN1.out; omega) _)
                clear hb3
                go_wp2_with (go_at_call 9; refine (O.go _ H S2 s st b2 nw1 (decide ((0 : Int) < 2)) (by have := HBN2.out; have := HN1.out; omega) (by omega) HT2.out.h).mono ?_; rintro e w7 ⟨S7, rfl, h7', g7'⟩; rw [← HB3.out] at h7'; have t7 := Lib.hid (HT2.out.prog h7' g7' (O.own _ _ _ _)); clear h7' g7')
                go_roundw
                case rel => exact ⟨k + 1, nw1, S7, b3, by omega, by have := HN1.out; omega, by have := HN1.out; push_cast; omega, by first | rfl | rw [v1], by go_num, t7, HNV3, HBN3⟩
                case measure => simp [intOf]; omega
              · have j1 : decide ((k : Int) < 20) = false := decide_eq_false (by omega)
                go_upto_region 31 with fail
                obtain ⟨b9, hb9⟩ : ∃ b9, b9 = b2 := ⟨_, rfl⟩
                have HB9 := Lib.hid hb9
                have t9 : Hid (Both V wy (O.Rg H s st b9) (FrQ ao cap fr) S2 R) := Lib.hid (by rw [hb9]; exact HT2.out)
                clear hb9
                have HBD := Lib.hid (O.bd t9.out.h)
                have HX := Lib.hid (HBD.out.2.1.bounds)
                obtain ⟨m1, hm1⟩ : ∃ m, m = b9.live.length := ⟨_, rfl⟩
                have HM := Lib.hid hm1
                have hmb : m1 ≤ 1000 := by have := HX.out.2.1; rw [hsc] at this; omega
                have hb0 : 0 ≤ b9.free ∧ b9.free ≤ 1000 := by have := HBD.out.2.1.f0; have := HX.out.1; rw [hsc] at this; omega
                have KT := Lib.hid (fun k => sumB_take (l := b9.live) (fun x hx => (HBD.out.2.1.lv x hx).2.2) k)
                have HALL : Hid (b9.free + sumB b9.live ≤ c) := Lib.hid (by rw [← hsc]; exact HBD.out.2.1.all)
                obtain ⟨ff, hff⟩ : ∃ fr, fr = b9.free := ⟨_, rfl⟩
                have HFF := Lib.hid hff
                rw [← hff] at hb0 HALL
                clear hm1 hff
                go_wp2_with (first
                  | (go_at_call 8; have _z := hbF; refine (O.live _ H _ s st b9 (t9.out.later hbF.out).h).mono ?_; rintro e wL ⟨aL, cL, rfl, lL', bL⟩; have lL := lL'.wider (Nat.zero_le _) (Nat.le_refl _); clear lL'; rw [← HM.out] at lL; rw [← HM.out]; have hlL := Lib.hid lL; have hbL := Lib.hid (hbF.out.trans (bL.mono hbF.out.size)); clear lL bL)
                  | (go_at_call 14; refine (O.free _ H _ s st b9 t9.out.h).mono ?_; rintro e wF ⟨rfl, bF⟩; rw [← HFF.out]; have hbF := Lib.hid bF; clear bF)
                  | fail "no arm")
                go_loopw [13, 15] (fun s8 s10 wp => ∃ (k : Nat) (n : Int), k ≤ m1 ∧ s8 = .int .i64 n ∧ s10 = .int .i64 k ∧ Hid (n = ff + sumB (b9.live.take k)) ∧ Hid (Below wL.heap.size wL wp)) (fun _ s _ => m1 - (intOf s).toNat)
                case atStart => exact ⟨0, ff, Nat.zero_le _, rfl, rfl, Lib.hid (by simp [sumB]), Lib.hid (Below.refl _ _)⟩
                case round =>
                  obtain ⟨k, n, hk, rfl, rfl, HNN, HP⟩ := hrel
                  by_cases hk1 : k < m1
                  · have e0 : decide ((k : Int) < (m1 : Int)) = true := decide_eq_true (by omega)
                    have e1 : (0 : Int) ≤ (k : Int) := by omega
                    have e2 : (k : Int) < (m1 : Int) := by omega
                    have hkL : k < b9.live.length := by have := HM.out; omega
                    obtain ⟨lb, lo, ea, y0, y1, _⟩ := bks_read (l := b9.live) HM.out.symm hlL.out wr HP.out k hk1
                    obtain ⟨x, hx⟩ : ∃ x, x = b9.live[k] := ⟨_, rfl⟩
                    rw [← hx] at y1
                    obtain ⟨n2, hn2⟩ : ∃ n2, n2 = n + x.n := ⟨_, rfl⟩
                    have hnx : n2 = ff + sumB (b9.live.take (k + 1)) := by
                      rw [hn2, List.take_add_one, List.getElem?_eq_getElem hkL, sumB_append, HNN.out, hx]
                      simp [sumB]; omega
                    have hu := KT.out (k + 1)
                    have hall := HALL.out
                    have z2 : wrap64 (n + x.n) = n2 := by rw [← hn2]; exact IntWalk.wrap64_in _ (by omega)
                    have z3 : IntKind.i64.wrap (n + x.n) = n2 := by rw [← hn2]; exact IntWalk.i64_in _ (by omega)
                    have HN2 := Lib.hid hnx
                    subst ea
                    clear hx hnx hu hall hn2 y0 hkL
                    go_wp2_with fail
                    go_roundw
                    case rel => exact ⟨k + 1, n2, by omega, by first | rfl | rw [z2], by go_num, HN2, HP⟩
                    case measure => simp [intOf]; omega
                  · have e3 : decide ((k : Int) < (m1 : Int)) = false := decide_eq_false (by omega)
                    have hnc : n ≤ c := by rw [HNN.out, List.take_of_length_le (by have := HM.out; omega)]; exact HALL.out
                    have e4 : decide (c < n) = false := decide_eq_false (by omega)
                    have tA := Lib.hid (t9.out.later (hbL.out.trans (HP.out.mono hbL.out.size)))
                    obtain ⟨k0, k1, k2⟩ := KE.out wr tA.out.b
                    clear hnc
                    go_wp2_with fail
                    go_roundw
                    case rel => exact ⟨i + 1, nw, S2, R, b9, fr, ao, cap, m, by omega, hnwb.1, hnwb.2, by omega, by first | rfl | go_num, rfl, by go_num, HFM.out, tA, Lib.hid (by rw [HB9.out]; exact HNV2.out), HFB2, Lib.hid (by rw [HB9.out]; exact HBN2.out)⟩
                    case measure => simp [intOf]; omega
            · have j0 : decide ((k : Int) < nn) = false := decide_eq_false g1
              go_upto_region 31 with fail
              obtain ⟨b9, hb9⟩ : ∃ b9, b9 = b2 := ⟨_, rfl⟩
              have HB9 := Lib.hid hb9
              have t9 : Hid (Both V wy (O.Rg H s st b9) (FrQ ao cap fr) S2 R) := Lib.hid (by rw [hb9]; exact HT2.out)
              clear hb9
              have HBD := Lib.hid (O.bd t9.out.h)
              have HX := Lib.hid (HBD.out.2.1.bounds)
              obtain ⟨m1, hm1⟩ : ∃ m, m = b9.live.length := ⟨_, rfl⟩
              have HM := Lib.hid hm1
              have hmb : m1 ≤ 1000 := by have := HX.out.2.1; rw [hsc] at this; omega
              have hb0 : 0 ≤ b9.free ∧ b9.free ≤ 1000 := by have := HBD.out.2.1.f0; have := HX.out.1; rw [hsc] at this; omega
              have KT := Lib.hid (fun k => sumB_take (l := b9.live) (fun x hx => (HBD.out.2.1.lv x hx).2.2) k)
              have HALL : Hid (b9.free + sumB b9.live ≤ c) := Lib.hid (by rw [← hsc]; exact HBD.out.2.1.all)
              obtain ⟨ff, hff⟩ : ∃ fr, fr = b9.free := ⟨_, rfl⟩
              have HFF := Lib.hid hff
              rw [← hff] at hb0 HALL
              clear hm1 hff
              go_wp2_with (first
                | (go_at_call 8; have _z := hbF; refine (O.live _ H _ s st b9 (t9.out.later hbF.out).h).mono ?_; rintro e wL ⟨aL, cL, rfl, lL', bL⟩; have lL := lL'.wider (Nat.zero_le _) (Nat.le_refl _); clear lL'; rw [← HM.out] at lL; rw [← HM.out]; have hlL := Lib.hid lL; have hbL := Lib.hid (hbF.out.trans (bL.mono hbF.out.size)); clear lL bL)
                | (go_at_call 14; refine (O.free _ H _ s st b9 t9.out.h).mono ?_; rintro e wF ⟨rfl, bF⟩; rw [← HFF.out]; have hbF := Lib.hid bF; clear bF)
                | fail "no arm")
              go_loopw [13, 15] (fun s8 s10 wp => ∃ (k : Nat) (n : Int), k ≤ m1 ∧ s8 = .int .i64 n ∧ s10 = .int .i64 k ∧ Hid (n = ff + sumB (b9.live.take k)) ∧ Hid (Below wL.heap.size wL wp)) (fun _ s _ => m1 - (intOf s).toNat)
              case atStart => exact ⟨0, ff, Nat.zero_le _, rfl, rfl, Lib.hid (by simp [sumB]), Lib.hid (Below.refl _ _)⟩
              case round =>
                obtain ⟨k, n, hk, rfl, rfl, HNN, HP⟩ := hrel
                by_cases hk1 : k < m1
                · have e0 : decide ((k : Int) < (m1 : Int)) = true := decide_eq_true (by omega)
                  have e1 : (0 : Int) ≤ (k : Int) := by omega
                  have e2 : (k : Int) < (m1 : Int) := by omega
                  have hkL : k < b9.live.length := by have := HM.out; omega
                  obtain ⟨lb, lo, ea, y0, y1, _⟩ := bks_read (l := b9.live) HM.out.symm hlL.out wr HP.out k hk1
                  obtain ⟨x, hx⟩ : ∃ x, x = b9.live[k] := ⟨_, rfl⟩
                  rw [← hx] at y1
                  obtain ⟨n2, hn2⟩ : ∃ n2, n2 = n + x.n := ⟨_, rfl⟩
                  have hnx : n2 = ff + sumB (b9.live.take (k + 1)) := by
                    rw [hn2, List.take_add_one, List.getElem?_eq_getElem hkL, sumB_append, HNN.out, hx]
                    simp [sumB]; omega
                  have hu := KT.out (k + 1)
                  have hall := HALL.out
                  have z2 : wrap64 (n + x.n) = n2 := by rw [← hn2]; exact IntWalk.wrap64_in _ (by omega)
                  have z3 : IntKind.i64.wrap (n + x.n) = n2 := by rw [← hn2]; exact IntWalk.i64_in _ (by omega)
                  have HN2 := Lib.hid hnx
                  subst ea
                  clear hx hnx hu hall hn2 y0 hkL
                  go_wp2_with fail
                  go_roundw
                  case rel => exact ⟨k + 1, n2, by omega, by first | rfl | rw [z2], by go_num, HN2, HP⟩
                  case measure => simp [intOf]; omega
                · have e3 : decide ((k : Int) < (m1 : Int)) = false := decide_eq_false (by omega)
                  have hnc : n ≤ c := by rw [HNN.out, List.take_of_length_le (by have := HM.out; omega)]; exact HALL.out
                  have e4 : decide (c < n) = false := decide_eq_false (by omega)
                  have tA := Lib.hid (t9.out.later (hbL.out.trans (HP.out.mono hbL.out.size)))
                  obtain ⟨k0, k1, k2⟩ := KE.out wr tA.out.b
                  clear hnc
                  go_wp2_with fail
                  go_roundw
                  case rel => exact ⟨i + 1, nw, S2, R, b9, fr, ao, cap, m, by omega, hnwb.1, hnwb.2, by omega, by first | rfl | go_num, rfl, by go_num, HFM.out, tA, Lib.hid (by rw [HB9.out]; exact HNV2.out), HFB2, Lib.hid (by rw [HB9.out]; exact HBN2.out)⟩
                  case measure => simp [intOf]; omega
        have f0 : (kd == 0) = false := by simpa using q0
        by_cases q1 : kd = 1
        · subst q1
          go_wp2_with fail
          go_loopw [8, 12] (fun s8 s12 wr => ∃ (k : Nat) (nw : Int) (S2 : Nat → Prop) (b2 : Rd), k ≤ 20 ∧ now ≤ nw ∧ nw ≤ now + k ∧ s8 = .int .i64 nw ∧ s12 = .int .i64 k ∧ Hid (Both V wr (O.Rg H s st b2) (FrQ ao cap fr) S2 R) ∧ Hid (NeverR c t st b2 fr) ∧ Hid (b2.now = nw)) (fun _ s _ => 20 - (intOf s).toNat)
          case atStart => exact ⟨0, now, S, b, Nat.zero_le _, Int.le_refl _, by simp, rfl, rfl, t6, HNV, HBN⟩
          case round =>
            obtain ⟨k, nw, S2, b2, hk, hw0, hw1, rfl, rfl, HT2, HNV2, HBN2⟩ := hrel
            obtain ⟨wy, hwy⟩ : ∃ wy, wy = wr := ⟨_, rfl⟩
            subst hwy
            clear kk0 kk1
            obtain ⟨kk0, kk1⟩ := KC.out _ (HBV.out.trans (HT2.out.b.mono HBV.out.size))
            have hnwb : st ≤ nw ∧ nw ≤ st + 20 * ((i + 1 : Nat) : Int) := by push_cast; omega
            have HFB2 : Hid (∀ z ∈ fr, st ≤ z ∧ z ≤ nw) := Lib.hid (fun z hz => by have := HFB.out z hz; omega)
            by_cases g1 : (k : Int) < nn
            · have j0 : decide ((k : Int) < nn) = true := decide_eq_true g1
              by_cases g2 : k < 20
              · have j1 : decide ((k : Int) < 20) = true := decide_eq_true (by omega)
                obtain ⟨nw1, hnw1⟩ : ∃ n', n' = nw + 1 := ⟨_, rfl⟩
                have HN1 := Lib.hid hnw1
                have v1 : wrap64 (nw + 1) = nw1 := by rw [hnw1]; exact IntWalk.wrap64_in _ (by omega)
                have v2 : IntKind.i64.wrap (nw + 1) = nw1 := by rw [hnw1]; exact IntWalk.i64_in _ (by omega)
                have vn : 0 ≤ nw1 ∧ nw1 ≤ 4611687117939015680 := by omega
                clear hnw1
                obtain ⟨b3, hb3⟩ : ∃ b3, b3 = rGo s.c s.t st b2 nw1 (decide ((1 : Int) < 2)) := ⟨_, rfl⟩
                have HB3 := Lib.hid hb3
                have HBN3 : Hid (b3.now = nw1) := Lib.hid (by rw [hb3]; exact (rGo_sum _ _ _ _ _ _).2)
                have HNV3 : Hid (NeverR c t st b3 fr) := Lib.hid (by
                  rw [hb3, hsc, hst]
                  have h1 := (O.bd HT2.out.h).2.1
                  rw [hsc] at h1
                  exact HNV2.out.go (by omega) h1 (by have := HBN2.out; have := HN1.out; omega) _)
                clear hb3
                go_wp2_with (go_at_call 9; refine (O.go _ H S2 s st b2 nw1 (decide ((1 : Int) < 2)) (by have := HBN2.out; have := HN1.out; omega) (by omega) HT2.out.h).mono ?_; rintro e w7 ⟨S7, rfl, h7', g7'⟩; rw [← HB3.out] at h7'; have t7 := Lib.hid (HT2.out.prog h7' g7' (O.own _ _ _ _)); clear h7' g7')
                go_roundw
                case rel => exact ⟨k + 1, nw1, S7, b3, by omega, by have := HN1.out; omega, by have := HN1.out; push_cast; omega, by first | rfl | rw [v1], by go_num, t7, HNV3, HBN3⟩
                case measure => simp [intOf]; omega
              · have j1 : decide ((k : Int) < 20) = false := decide_eq_false (by omega)
                go_upto_region 31 with fail
                obtain ⟨b9, hb9⟩ : ∃ b9, b9 = b2 := ⟨_, rfl⟩
                have HB9 := Lib.hid hb9
                have t9 : Hid (Both V wy (O.Rg H s st b9) (FrQ ao cap fr) S2 R) := Lib.hid (by rw [hb9]; exact HT2.out)
                clear hb9
                have HBD := Lib.hid (O.bd t9.out.h)
                have HX := Lib.hid (HBD.out.2.1.bounds)
                obtain ⟨m1, hm1⟩ : ∃ m, m = b9.live.length := ⟨_, rfl⟩
                have HM := Lib.hid hm1
                have hmb : m1 ≤ 1000 := by have := HX.out.2.1; rw [hsc] at this; omega
                have hb0 : 0 ≤ b9.free ∧ b9.free ≤ 1000 := by have := HBD.out.2.1.f0; have := HX.out.1; rw [hsc] at this; omega
                have KT := Lib.hid (fun k => sumB_take (l := b9.live) (fun x hx => (HBD.out.2.1.lv x hx).2.2) k)
                have HALL : Hid (b9.free + sumB b9.live ≤ c) := Lib.hid (by rw [← hsc]; exact HBD.out.2.1.all)
                obtain ⟨ff, hff⟩ : ∃ fr, fr = b9.free := ⟨_, rfl⟩
                have HFF := Lib.hid hff
                rw [← hff] at hb0 HALL
                clear hm1 hff
                go_wp2_with (first
                  | (go_at_call 8; have _z := hbF; refine (O.live _ H _ s st b9 (t9.out.later hbF.out).h).mono ?_; rintro e wL ⟨aL, cL, rfl, lL', bL⟩; have lL := lL'.wider (Nat.zero_le _) (Nat.le_refl _); clear lL'; rw [← HM.out] at lL; rw [← HM.out]; have hlL := Lib.hid lL; have hbL := Lib.hid (hbF.out.trans (bL.mono hbF.out.size)); clear lL bL)
                  | (go_at_call 14; refine (O.free _ H _ s st b9 t9.out.h).mono ?_; rintro e wF ⟨rfl, bF⟩; rw [← HFF.out]; have hbF := Lib.hid bF; clear bF)
                  | fail "no arm")
                go_loopw [13, 15] (fun s8 s10 wp => ∃ (k : Nat) (n : Int), k ≤ m1 ∧ s8 = .int .i64 n ∧ s10 = .int .i64 k ∧ Hid (n = ff + sumB (b9.live.take k)) ∧ Hid (Below wL.heap.size wL wp)) (fun _ s _ => m1 - (intOf s).toNat)
                case atStart => exact ⟨0, ff, Nat.zero_le _, rfl, rfl, Lib.hid (by simp [sumB]), Lib.hid (Below.refl _ _)⟩
                case round =>
                  obtain ⟨k, n, hk, rfl, rfl, HNN, HP⟩ := hrel
                  by_cases hk1 : k < m1
                  · have e0 : decide ((k : Int) < (m1 : Int)) = true := decide_eq_true (by omega)
                    have e1 : (0 : Int) ≤ (k : Int) := by omega
                    have e2 : (k : Int) < (m1 : Int) := by omega
                    have hkL : k < b9.live.length := by have := HM.out; omega
                    obtain ⟨lb, lo, ea, y0, y1, _⟩ := bks_read (l := b9.live) HM.out.symm hlL.out wr HP.out k hk1
                    obtain ⟨x, hx⟩ : ∃ x, x = b9.live[k] := ⟨_, rfl⟩
                    rw [← hx] at y1
                    obtain ⟨n2, hn2⟩ : ∃ n2, n2 = n + x.n := ⟨_, rfl⟩
                    have hnx : n2 = ff + sumB (b9.live.take (k + 1)) := by
                      rw [hn2, List.take_add_one, List.getElem?_eq_getElem hkL, sumB_append, HNN.out, hx]
                      simp [sumB]; omega
                    have hu := KT.out (k + 1)
                    have hall := HALL.out
                    have z2 : wrap64 (n + x.n) = n2 := by rw [← hn2]; exact IntWalk.wrap64_in _ (by omega)
                    have z3 : IntKind.i64.wrap (n + x.n) = n2 := by rw [← hn2]; exact IntWalk.i64_in _ (by omega)
                    have HN2 := Lib.hid hnx
                    subst ea
                    clear hx hnx hu hall hn2 y0 hkL
                    go_wp2_with fail
                    go_roundw
                    case rel => exact ⟨k + 1, n2, by omega, by first | rfl | rw [z2], by go_num, HN2, HP⟩
                    case measure => simp [intOf]; omega
                  · have e3 : decide ((k : Int) < (m1 : Int)) = false := decide_eq_false (by omega)
                    have hnc : n ≤ c := by rw [HNN.out, List.take_of_length_le (by have := HM.out; omega)]; exact HALL.out
                    have e4 : decide (c < n) = false := decide_eq_false (by omega)
                    have tA := Lib.hid (t9.out.later (hbL.out.trans (HP.out.mono hbL.out.size)))
                    obtain ⟨k0, k1, k2⟩ := KE.out wr tA.out.b
                    clear hnc
                    go_wp2_with fail
                    go_roundw
                    case rel => exact ⟨i + 1, nw, S2, R, b9, fr, ao, cap, m, by omega, hnwb.1, hnwb.2, by omega, by first | rfl | go_num, rfl, by go_num, HFM.out, tA, Lib.hid (by rw [HB9.out]; exact HNV2.out), HFB2, Lib.hid (by rw [HB9.out]; exact HBN2.out)⟩
                    case measure => simp [intOf]; omega
            · have j0 : decide ((k : Int) < nn) = false := decide_eq_false g1
              go_upto_region 31 with fail
              obtain ⟨b9, hb9⟩ : ∃ b9, b9 = b2 := ⟨_, rfl⟩
              have HB9 := Lib.hid hb9
              have t9 : Hid (Both V wy (O.Rg H s st b9) (FrQ ao cap fr) S2 R) := Lib.hid (by rw [hb9]; exact HT2.out)
              clear hb9
              have HBD := Lib.hid (O.bd t9.out.h)
              have HX := Lib.hid (HBD.out.2.1.bounds)
              obtain ⟨m1, hm1⟩ : ∃ m, m = b9.live.length := ⟨_, rfl⟩
              have HM := Lib.hid hm1
              have hmb : m1 ≤ 1000 := by have := HX.out.2.1; rw [hsc] at this; omega
              have hb0 : 0 ≤ b9.free ∧ b9.free ≤ 1000 := by have := HBD.out.2.1.f0; have := HX.out.1; rw [hsc] at this; omega
              have KT := Lib.hid (fun k => sumB_take (l := b9.live) (fun x hx => (HBD.out.2.1.lv x hx).2.2) k)
              have HALL : Hid (b9.free + sumB b9.live ≤ c) := Lib.hid (by rw [← hsc]; exact HBD.out.2.1.all)
              obtain ⟨ff, hff⟩ : ∃ fr, fr = b9.free := ⟨_, rfl⟩
              have HFF := Lib.hid hff
              rw [← hff] at hb0 HALL
              clear hm1 hff
              go_wp2_with (first
                | (go_at_call 8; have _z := hbF; refine (O.live _ H _ s st b9 (t9.out.later hbF.out).h).mono ?_; rintro e wL ⟨aL, cL, rfl, lL', bL⟩; have lL := lL'.wider (Nat.zero_le _) (Nat.le_refl _); clear lL'; rw [← HM.out] at lL; rw [← HM.out]; have hlL := Lib.hid lL; have hbL := Lib.hid (hbF.out.trans (bL.mono hbF.out.size)); clear lL bL)
                | (go_at_call 14; refine (O.free _ H _ s st b9 t9.out.h).mono ?_; rintro e wF ⟨rfl, bF⟩; rw [← HFF.out]; have hbF := Lib.hid bF; clear bF)
                | fail "no arm")
              go_loopw [13, 15] (fun s8 s10 wp => ∃ (k : Nat) (n : Int), k ≤ m1 ∧ s8 = .int .i64 n ∧ s10 = .int .i64 k ∧ Hid (n = ff + sumB (b9.live.take k)) ∧ Hid (Below wL.heap.size wL wp)) (fun _ s _ => m1 - (intOf s).toNat)
              case atStart => exact ⟨0, ff, Nat.zero_le _, rfl, rfl, Lib.hid (by simp [sumB]), Lib.hid (Below.refl _ _)⟩
              case round =>
                obtain ⟨k, n, hk, rfl, rfl, HNN, HP⟩ := hrel
                by_cases hk1 : k < m1
                · have e0 : decide ((k : Int) < (m1 : Int)) = true := decide_eq_true (by omega)
                  have e1 : (0 : Int) ≤ (k : Int) := by omega
                  have e2 : (k : Int) < (m1 : Int) := by omega
                  have hkL : k < b9.live.length := by have := HM.out; omega
                  obtain ⟨lb, lo, ea, y0, y1, _⟩ := bks_read (l := b9.live) HM.out.symm hlL.out wr HP.out k hk1
                  obtain ⟨x, hx⟩ : ∃ x, x = b9.live[k] := ⟨_, rfl⟩
                  rw [← hx] at y1
                  obtain ⟨n2, hn2⟩ : ∃ n2, n2 = n + x.n := ⟨_, rfl⟩
                  have hnx : n2 = ff + sumB (b9.live.take (k + 1)) := by
                    rw [hn2, List.take_add_one, List.getElem?_eq_getElem hkL, sumB_append, HNN.out, hx]
                    simp [sumB]; omega
                  have hu := KT.out (k + 1)
                  have hall := HALL.out
                  have z2 : wrap64 (n + x.n) = n2 := by rw [← hn2]; exact IntWalk.wrap64_in _ (by omega)
                  have z3 : IntKind.i64.wrap (n + x.n) = n2 := by rw [← hn2]; exact IntWalk.i64_in _ (by omega)
                  have HN2 := Lib.hid hnx
                  subst ea
                  clear hx hnx hu hall hn2 y0 hkL
                  go_wp2_with fail
                  go_roundw
                  case rel => exact ⟨k + 1, n2, by omega, by first | rfl | rw [z2], by go_num, HN2, HP⟩
                  case measure => simp [intOf]; omega
                · have e3 : decide ((k : Int) < (m1 : Int)) = false := decide_eq_false (by omega)
                  have hnc : n ≤ c := by rw [HNN.out, List.take_of_length_le (by have := HM.out; omega)]; exact HALL.out
                  have e4 : decide (c < n) = false := decide_eq_false (by omega)
                  have tA := Lib.hid (t9.out.later (hbL.out.trans (HP.out.mono hbL.out.size)))
                  obtain ⟨k0, k1, k2⟩ := KE.out wr tA.out.b
                  clear hnc
                  go_wp2_with fail
                  go_roundw
                  case rel => exact ⟨i + 1, nw, S2, R, b9, fr, ao, cap, m, by omega, hnwb.1, hnwb.2, by omega, by first | rfl | go_num, rfl, by go_num, HFM.out, tA, Lib.hid (by rw [HB9.out]; exact HNV2.out), HFB2, Lib.hid (by rw [HB9.out]; exact HBN2.out)⟩
                  case measure => simp [intOf]; omega
        have f1 : (kd == 1) = false := by simpa using q1
        by_cases q2 : kd = 2
        · subst q2
          go_wp2_with fail
          go_loopw [8, 12] (fun s8 s12 wr => ∃ (k : Nat) (nw : Int) (S2 : Nat → Prop) (b2 : Rd), k ≤ 20 ∧ now ≤ nw ∧ nw ≤ now + k ∧ s8 = .int .i64 nw ∧ s12 = .int .i64 k ∧ Hid (Both V wr (O.Rg H s st b2) (FrQ ao cap fr) S2 R) ∧ Hid (NeverR c t st b2 fr) ∧ Hid (b2.now = nw)) (fun _ s _ => 20 - (intOf s).toNat)
          case atStart => exact ⟨0, now, S, b, Nat.zero_le _, Int.le_refl _, by simp, rfl, rfl, t6, HNV, HBN⟩
          case round =>
            obtain ⟨k, nw, S2, b2, hk, hw0, hw1, rfl, rfl, HT2, HNV2, HBN2⟩ := hrel
            obtain ⟨wy, hwy⟩ : ∃ wy, wy = wr := ⟨_, rfl⟩
            subst hwy
            clear kk0 kk1
            obtain ⟨kk0, kk1⟩ := KC.out _ (HBV.out.trans (HT2.out.b.mono HBV.out.size))
            have hnwb : st ≤ nw ∧ nw ≤ st + 20 * ((i + 1 : Nat) : Int) := by push_cast; omega
            have HFB2 : Hid (∀ z ∈ fr, st ≤ z ∧ z ≤ nw) := Lib.hid (fun z hz => by have := HFB.out z hz; omega)
            by_cases g1 : (k : Int) < nn
            · have j0 : decide ((k : Int) < nn) = true := decide_eq_true g1
              by_cases g2 : k < 20
              · have j1 : decide ((k : Int) < 20) = true := decide_eq_true (by omega)
                obtain ⟨nw1, hnw1⟩ : ∃ n', n' = nw + 1 := ⟨_, rfl⟩
                have HN1 := Lib.hid hnw1
                have v1 : wrap64 (nw + 1) = nw1 := by rw [hnw1]; exact IntWalk.wrap64_in _ (by omega)
                have v2 : IntKind.i64.wrap (nw + 1) = nw1 := by rw [hnw1]; exact IntWalk.i64_in _ (by omega)
                have vn : 0 ≤ nw1 ∧ nw1 ≤ 4611687117939015680 := by omega
                clear hnw1
                obtain ⟨b3, hb3⟩ : ∃ b3, b3 = rGo s.c s.t st b2 nw1 (decide ((2 : Int) < 2)) := ⟨_, rfl⟩
                have HB3 := Lib.hid hb3
                have HBN3 : Hid (b3.now = nw1) := Lib.hid (by rw [hb3]; exact (rGo_sum _ _ _ _ _ _).2)
                have HNV3 : Hid (NeverR c t st b3 fr) := Lib.hid (by
                  rw [hb3, hsc, hst]
                  have h1 := (O.bd HT2.out.h).2.1
                  rw [hsc] at h1
                  exact HNV2.out.go (by omega) h1 (by have := HBN2.out; have := HN1.out; omega) _)
                clear hb3
                go_wp2_with (go_at_call 9; refine (O.go _ H S2 s st b2 nw1 (decide ((2 : Int) < 2)) (by have := HBN2.out; have := HN1.out; omega) (by omega) HT2.out.h).mono ?_; rintro e w7 ⟨S7, rfl, h7', g7'⟩; rw [← HB3.out] at h7'; have t7 := Lib.hid (HT2.out.prog h7' g7' (O.own _ _ _ _)); clear h7' g7')
                go_roundw
                case rel => exact ⟨k + 1, nw1, S7, b3, by omega, by have := HN1.out; omega, by have := HN1.out; push_cast; omega, by first | rfl | rw [v1], by go_num, t7, HNV3, HBN3⟩
                case measure => simp [intOf]; omega
              · have j1 : decide ((k : Int) < 20) = false := decide_eq_false (by omega)
                go_upto_region 31 with fail
                obtain ⟨b9, hb9⟩ : ∃ b9, b9 = b2 := ⟨_, rfl⟩
                have HB9 := Lib.hid hb9
                have t9 : Hid (Both V wy (O.Rg H s st b9) (FrQ ao cap fr) S2 R) := Lib.hid (by rw [hb9]; exact HT2.out)
                clear hb9
                have HBD := Lib.hid (O.bd t9.out.h)
                have HX := Lib.hid (HBD.out.2.1.bounds)
                obtain ⟨m1, hm1⟩ : ∃ m, m = b9.live.length := ⟨_, rfl⟩
                have HM := Lib.hid hm1
                have hmb : m1 ≤ 1000 := by have := HX.out.2.1; rw [hsc] at this; omega
                have hb0 : 0 ≤ b9.free ∧ b9.free ≤ 1000 := by have := HBD.out.2.1.f0; have := HX.out.1; rw [hsc] at this; omega
                have KT := Lib.hid (fun k => sumB_take (l := b9.live) (fun x hx => (HBD.out.2.1.lv x hx).2.2) k)
                have HALL : Hid (b9.free + sumB b9.live ≤ c) := Lib.hid (by rw [← hsc]; exact HBD.out.2.1.all)
                obtain ⟨ff, hff⟩ : ∃ fr, fr = b9.free := ⟨_, rfl⟩
                have HFF := Lib.hid hff
                rw [← hff] at hb0 HALL
                clear hm1 hff
                go_wp2_with (first
                  | (go_at_call 8; have _z := hbF; refine (O.live _ H _ s st b9 (t9.out.later hbF.out).h).mono ?_; rintro e wL ⟨aL, cL, rfl, lL', bL⟩; have lL := lL'.wider (Nat.zero_le _) (Nat.le_refl _); clear lL'; rw [← HM.out] at lL; rw [← HM.out]; have hlL := Lib.hid lL; have hbL := Lib.hid (hbF.out.trans (bL.mono hbF.out.size)); clear lL bL)
                  | (go_at_call 14; refine (O.free _ H _ s st b9 t9.out.h).mono ?_; rintro e wF ⟨rfl, bF⟩; rw [← HFF.out]; have hbF := Lib.hid bF; clear bF)
                  | fail "no arm")
                go_loopw [13, 15] (fun s8 s10 wp => ∃ (k : Nat) (n : Int), k ≤ m1 ∧ s8 = .int .i64 n ∧ s10 = .int .i64 k ∧ Hid (n = ff + sumB (b9.live.take k)) ∧ Hid (Below wL.heap.size wL wp)) (fun _ s _ => m1 - (intOf s).toNat)
                case atStart => exact ⟨0, ff, Nat.zero_le _, rfl, rfl, Lib.hid (by simp [sumB]), Lib.hid (Below.refl _ _)⟩
                case round =>
                  obtain ⟨k, n, hk, rfl, rfl, HNN, HP⟩ := hrel
                  by_cases hk1 : k < m1
                  · have e0 : decide ((k : Int) < (m1 : Int)) = true := decide_eq_true (by omega)
                    have e1 : (0 : Int) ≤ (k : Int) := by omega
                    have e2 : (k : Int) < (m1 : Int) := by omega
                    have hkL : k < b9.live.length := by have := HM.out; omega
                    obtain ⟨lb, lo, ea, y0, y1, _⟩ := bks_read (l := b9.live) HM.out.symm hlL.out wr HP.out k hk1
                    obtain ⟨x, hx⟩ : ∃ x, x = b9.live[k] := ⟨_, rfl⟩
                    rw [← hx] at y1
                    obtain ⟨n2, hn2⟩ : ∃ n2, n2 = n + x.n := ⟨_, rfl⟩
                    have hnx : n2 = ff + sumB (b9.live.take (k + 1)) := by
                      rw [hn2, List.take_add_one, List.getElem?_eq_getElem hkL, sumB_append, HNN.out, hx]
                      simp [sumB]; omega
                    have hu := KT.out (k + 1)
                    have hall := HALL.out
                    have z2 : wrap64 (n + x.n) = n2 := by rw [← hn2]; exact IntWalk.wrap64_in _ (by omega)
                    have z3 : IntKind.i64.wrap (n + x.n) = n2 := by rw [← hn2]; exact IntWalk.i64_in _ (by omega)
                    have HN2 := Lib.hid hnx
                    subst ea
                    clear hx hnx hu hall hn2 y0 hkL
                    go_wp2_with fail
                    go_roundw
                    case rel => exact ⟨k + 1, n2, by omega, by first | rfl | rw [z2], by go_num, HN2, HP⟩
                    case measure => simp [intOf]; omega
                  · have e3 : decide ((k : Int) < (m1 : Int)) = false := decide_eq_false (by omega)
                    have hnc : n ≤ c := by rw [HNN.out, List.take_of_length_le (by have := HM.out; omega)]; exact HALL.out
                    have e4 : decide (c < n) = false := decide_eq_false (by omega)
                    have tA := Lib.hid (t9.out.later (hbL.out.trans (HP.out.mono hbL.out.size)))
                    obtain ⟨k0, k1, k2⟩ := KE.out wr tA.out.b
                    clear hnc
                    go_wp2_with fail
                    go_roundw
                    case rel => exact ⟨i + 1, nw, S2, R, b9, fr, ao, cap, m, by omega, hnwb.1, hnwb.2, by omega, by first | rfl | go_num, rfl, by go_num, HFM.out, tA, Lib.hid (by rw [HB9.out]; exact HNV2.out), HFB2, Lib.hid (by rw [HB9.out]; exact HBN2.out)⟩
                    case measure => simp [intOf]; omega
            · have j0 : decide ((k : Int) < nn) = false := decide_eq_false g1
              go_upto_region 31 with fail
              obtain ⟨b9, hb9⟩ : ∃ b9, b9 = b2 := ⟨_, rfl⟩
              have HB9 := Lib.hid hb9
              have t9 : Hid (Both V wy (O.Rg H s st b9) (FrQ ao cap fr) S2 R) := Lib.hid (by rw [hb9]; exact HT2.out)
              clear hb9
              have HBD := Lib.hid (O.bd t9.out.h)
              have HX := Lib.hid (HBD.out.2.1.bounds)
              obtain ⟨m1, hm1⟩ : ∃ m, m = b9.live.length := ⟨_, rfl⟩
              have HM := Lib.hid hm1
              have hmb : m1 ≤ 1000 := by have := HX.out.2.1; rw [hsc] at this; omega
              have hb0 : 0 ≤ b9.free ∧ b9.free ≤ 1000 := by have := HBD.out.2.1.f0; have := HX.out.1; rw [hsc] at this; omega
              have KT := Lib.hid (fun k => sumB_take (l := b9.live) (fun x hx => (HBD.out.2.1.lv x hx).2.2) k)
              have HALL : Hid (b9.free + sumB b9.live ≤ c) := Lib.hid (by rw [← hsc]; exact HBD.out.2.1.all)
              obtain ⟨ff, hff⟩ : ∃ fr, fr = b9.free := ⟨_, rfl⟩
              have HFF := Lib.hid hff
              rw [← hff] at hb0 HALL
              clear hm1 hff
              go_wp2_with (first
                | (go_at_call 8; have _z := hbF; refine (O.live _ H _ s st b9 (t9.out.later hbF.out).h).mono ?_; rintro e wL ⟨aL, cL, rfl, lL', bL⟩; have lL := lL'.wider (Nat.zero_le _) (Nat.le_refl _); clear lL'; rw [← HM.out] at lL; rw [← HM.out]; have hlL := Lib.hid lL; have hbL := Lib.hid (hbF.out.trans (bL.mono hbF.out.size)); clear lL bL)
                | (go_at_call 14; refine (O.free _ H _ s st b9 t9.out.h).mono ?_; rintro e wF ⟨rfl, bF⟩; rw [← HFF.out]; have hbF := Lib.hid bF; clear bF)
                | fail "no arm")
              go_loopw [13, 15] (fun s8 s10 wp => ∃ (k : Nat) (n : Int), k ≤ m1 ∧ s8 = .int .i64 n ∧ s10 = .int .i64 k ∧ Hid (n = ff + sumB (b9.live.take k)) ∧ Hid (Below wL.heap.size wL wp)) (fun _ s _ => m1 - (intOf s).toNat)
              case atStart => exact ⟨0, ff, Nat.zero_le _, rfl, rfl, Lib.hid (by simp [sumB]), Lib.hid (Below.refl _ _)⟩
              case round =>
                obtain ⟨k, n, hk, rfl, rfl, HNN, HP⟩ := hrel
                by_cases hk1 : k < m1
                · have e0 : decide ((k : Int) < (m1 : Int)) = true := decide_eq_true (by omega)
                  have e1 : (0 : Int) ≤ (k : Int) := by omega
                  have e2 : (k : Int) < (m1 : Int) := by omega
                  have hkL : k < b9.live.length := by have := HM.out; omega
                  obtain ⟨lb, lo, ea, y0, y1, _⟩ := bks_read (l := b9.live) HM.out.symm hlL.out wr HP.out k hk1
                  obtain ⟨x, hx⟩ : ∃ x, x = b9.live[k] := ⟨_, rfl⟩
                  rw [← hx] at y1
                  obtain ⟨n2, hn2⟩ : ∃ n2, n2 = n + x.n := ⟨_, rfl⟩
                  have hnx : n2 = ff + sumB (b9.live.take (k + 1)) := by
                    rw [hn2, List.take_add_one, List.getElem?_eq_getElem hkL, sumB_append, HNN.out, hx]
                    simp [sumB]; omega
                  have hu := KT.out (k + 1)
                  have hall := HALL.out
                  have z2 : wrap64 (n + x.n) = n2 := by rw [← hn2]; exact IntWalk.wrap64_in _ (by omega)
                  have z3 : IntKind.i64.wrap (n + x.n) = n2 := by rw [← hn2]; exact IntWalk.i64_in _ (by omega)
                  have HN2 := Lib.hid hnx
                  subst ea
                  clear hx hnx hu hall hn2 y0 hkL
                  go_wp2_with fail
                  go_roundw
                  case rel => exact ⟨k + 1, n2, by omega, by first | rfl | rw [z2], by go_num, HN2, HP⟩
                  case measure => simp [intOf]; omega
                · have e3 : decide ((k : Int) < (m1 : Int)) = false := decide_eq_false (by omega)
                  have hnc : n ≤ c := by rw [HNN.out, List.take_of_length_le (by have := HM.out; omega)]; exact HALL.out
                  have e4 : decide (c < n) = false := decide_eq_false (by omega)
                  have tA := Lib.hid (t9.out.later (hbL.out.trans (HP.out.mono hbL.out.size)))
                  obtain ⟨k0, k1, k2⟩ := KE.out wr tA.out.b
                  clear hnc
                  go_wp2_with fail
                  go_roundw
                  case rel => exact ⟨i + 1, nw, S2, R, b9, fr, ao, cap, m, by omega, hnwb.1, hnwb.2, by omega, by first | rfl | go_num, rfl, by go_num, HFM.out, tA, Lib.hid (by rw [HB9.out]; exact HNV2.out), HFB2, Lib.hid (by rw [HB9.out]; exact HBN2.out)⟩
                  case measure => simp [intOf]; omega
        have f2 : (kd == 2) = false := by simpa using q2
        by_cases q3 : kd = 3
        · subst q3
          obtain ⟨lv5, hlv5⟩ : ∃ lv5, lv5 = b.live := ⟨_, rfl⟩
          cases lv5 with
          | nil =>
            have HU : Hid (rUseOk b = false) := Lib.hid (by unfold rUseOk; rw [← hlv5]; rfl)
            have HUB : Hid (rUse b = b) := Lib.hid (by unfold rUse; rw [← hlv5])
            clear hlv5
            go_upto_region 31 with (go_at_call 10; refine (O.use _ H S s st b t6.out.h).mono ?_; rintro e w7 ⟨S7, rfl, h7', g7'⟩; rw [HU.out]; rw [HUB.out] at h7'; have t7 := Lib.hid (t6.out.prog h7' g7' (O.own _ _ _ _)); clear h7' g7')
            obtain ⟨b9, hb9⟩ : ∃ b9, b9 = b := ⟨_, rfl⟩
            have HB9 := Lib.hid hb9
            have t9 : Hid (Both V w7 (O.Rg H s st b9) (FrQ ao cap fr) S7 R) := Lib.hid (by rw [hb9]; exact t7.out)
            clear hb9
            have HBD := Lib.hid (O.bd t9.out.h)
            have HX := Lib.hid (HBD.out.2.1.bounds)
            obtain ⟨m1, hm1⟩ : ∃ m, m = b9.live.length := ⟨_, rfl⟩
            have HM := Lib.hid hm1
            have hmb : m1 ≤ 1000 := by have := HX.out.2.1; rw [hsc] at this; omega
            have hb0 : 0 ≤ b9.free ∧ b9.free ≤ 1000 := by have := HBD.out.2.1.f0; have := HX.out.1; rw [hsc] at this; omega
            have KT := Lib.hid (fun k => sumB_take (l := b9.live) (fun x hx => (HBD.out.2.1.lv x hx).2.2) k)
            have HALL : Hid (b9.free + sumB b9.live ≤ c) := Lib.hid (by rw [← hsc]; exact HBD.out.2.1.all)
            obtain ⟨ff, hff⟩ : ∃ fr, fr = b9.free := ⟨_, rfl⟩
            have HFF := Lib.hid hff
            rw [← hff] at hb0 HALL
            clear hm1 hff
            go_wp2_with (first
              | (go_at_call 8; have _z := hbF; refine (O.live _ H _ s st b9 (t9.out.later hbF.out).h).mono ?_; rintro e wL ⟨aL, cL, rfl, lL', bL⟩; have lL := lL'.wider (Nat.zero_le _) (Nat.le_refl _); clear lL'; rw [← HM.out] at lL; rw [← HM.out]; have hlL := Lib.hid lL; have hbL := Lib.hid (hbF.out.trans (bL.mono hbF.out.size)); clear lL bL)
              | (go_at_call 14; refine (O.free _ H _ s st b9 t9.out.h).mono ?_; rintro e wF ⟨rfl, bF⟩; rw [← HFF.out]; have hbF := Lib.hid bF; clear bF)
              | fail "no arm")
            go_loopw [13, 15] (fun s8 s10 wp => ∃ (k : Nat) (n : Int), k ≤ m1 ∧ s8 = .int .i64 n ∧ s10 = .int .i64 k ∧ Hid (n = ff + sumB (b9.live.take k)) ∧ Hid (Below wL.heap.size wL wp)) (fun _ s _ => m1 - (intOf s).toNat)
            case atStart => exact ⟨0, ff, Nat.zero_le _, rfl, rfl, Lib.hid (by simp [sumB]), Lib.hid (Below.refl _ _)⟩
            case round =>
              obtain ⟨k, n, hk, rfl, rfl, HNN, HP⟩ := hrel
              by_cases hk1 : k < m1
              · have e0 : decide ((k : Int) < (m1 : Int)) = true := decide_eq_true (by omega)
                have e1 : (0 : Int) ≤ (k : Int) := by omega
                have e2 : (k : Int) < (m1 : Int) := by omega
                have hkL : k < b9.live.length := by have := HM.out; omega
                obtain ⟨lb, lo, ea, y0, y1, _⟩ := bks_read (l := b9.live) HM.out.symm hlL.out wr HP.out k hk1
                obtain ⟨x, hx⟩ : ∃ x, x = b9.live[k] := ⟨_, rfl⟩
                rw [← hx] at y1
                obtain ⟨n2, hn2⟩ : ∃ n2, n2 = n + x.n := ⟨_, rfl⟩
                have hnx : n2 = ff + sumB (b9.live.take (k + 1)) := by
                  rw [hn2, List.take_add_one, List.getElem?_eq_getElem hkL, sumB_append, HNN.out, hx]
                  simp [sumB]; omega
                have hu := KT.out (k + 1)
                have hall := HALL.out
                have z2 : wrap64 (n + x.n) = n2 := by rw [← hn2]; exact IntWalk.wrap64_in _ (by omega)
                have z3 : IntKind.i64.wrap (n + x.n) = n2 := by rw [← hn2]; exact IntWalk.i64_in _ (by omega)
                have HN2 := Lib.hid hnx
                subst ea
                clear hx hnx hu hall hn2 y0 hkL
                go_wp2_with fail
                go_roundw
                case rel => exact ⟨k + 1, n2, by omega, by first | rfl | rw [z2], by go_num, HN2, HP⟩
                case measure => simp [intOf]; omega
              · have e3 : decide ((k : Int) < (m1 : Int)) = false := decide_eq_false (by omega)
                have hnc : n ≤ c := by rw [HNN.out, List.take_of_length_le (by have := HM.out; omega)]; exact HALL.out
                have e4 : decide (c < n) = false := decide_eq_false (by omega)
                have tA := Lib.hid (t9.out.later (hbL.out.trans (HP.out.mono hbL.out.size)))
                obtain ⟨k0, k1, k2⟩ := KE.out wr tA.out.b
                clear hnc
                go_wp2_with fail
                go_roundw
                case rel => exact ⟨i + 1, now, S7, R, b9, fr, ao, cap, m, by omega, by omega, by push_cast; omega, by omega, by first | rfl | go_num, rfl, by go_num, HFM.out, tA, Lib.hid (by rw [HB9.out]; exact HNV.out), HFB, Lib.hid (by rw [HB9.out]; exact HBN.out)⟩
                case measure => simp [intOf]; omega
          | cons x lrest =>
            have HU : Hid (rUseOk b = true) := Lib.hid (by unfold rUseOk; rw [← hlv5]; rfl)
            have HLV := Lib.hid hlv5
            have hm5 : 0 < m5 := by rw [HM5.out, ← hlv5]; simp
            have u0 : ((m5 : Int) == 0) = false := by simp; omega
            have u1 : (0 : Int) < (m5 : Int) := by omega
            have u2 : ¬ m5 = 0 := by omega
            obtain ⟨xa, hxae⟩ : ∃ xa, xa = x.at_ := ⟨_, rfl⟩
            have HXE := Lib.hid hxae
            obtain ⟨i0, hi0, hz0, hz1, hz2⟩ := info_parts Try.infoInt18
            have HI := Lib.hid hi0
            obtain ⟨xs, hxs⟩ : ∃ xs, xs = fr.flatMap intCells := ⟨_, rfl⟩
            have HXS := Lib.hid hxs
            clear hlv5 hxae hi0 hxs
            go_upto_region 24 with (go_at_call 10; refine (O.use _ H S s st b t6.out.h).mono ?_; rintro e w7 ⟨S7, rfl, h7', g7'⟩; rw [HU.out]; have hl7 := Lib.hid g7'; have t7 := Lib.hid (t6.out.prog h7' g7' (O.own _ _ _ _)); clear h7' g7')
            obtain ⟨lb, lo, ea, y7⟩ : ∃ lb lo, a6 = some ⟨lb, lo, none⟩ ∧ w7.cell? ⟨lb, lo, none⟩ = some (.int .i64 xa) := by
              obtain ⟨a', c', e, _, _, hc⟩ := hl6.out
              cases e
              rcases hc with h0 | ⟨lb, lo, rfl, hlo, hb, hc⟩
              · omega
              · have hx0 : b.live[0]? = some x := by rw [← HLV.out]; rfl
                have f0 := hc _ _ (flat_at Bk.cells 2 (fun _ => rfl) b.live 0 0 _ hx0 (by omega))
                refine ⟨lb, lo, rfl, ?_⟩
                have hnS : ¬ S lb := fun h => by have := HT.out.oh.lt HT.out.h lb h; omega
                rw [World.cell?_of_block (w := w6) (hl7.out.block lb hb hnS), HXE.out]
                simpa using f0
            subst ea
            have HVB : Hid (Below w7.heap.size w7 (w7.alloc (.cells #[.int .i64 xa] 3))) := Lib.hid (below1 _ _)
            have HV7 : Hid ((w7.alloc (.cells #[.int .i64 xa] 3)).ownsRow 0 3 1 (.slice ao m cap) m xs ∧ Lies (w7.alloc (.cells #[.int .i64 xa] 3)) w7.heap.size (w7.heap.size + 1) (.slice (some ⟨w7.heap.size, 0, none⟩) 1 1) 1 1 [.int .i64 xa]) := Lib.hid (by
              refine ⟨?_, one_lies (cs := #[.int .i64 xa]) (t := 3) (heap_alloc_new _ _) rfl⟩
              have h1 := ((fr_own ao cap fr).later t7.out.r HVB.out).1
              rw [HFM.out, HXS.out]
              exact h1)
            go_upto_region 31 with (first
              | (refine wpList_append_lie2 (by rfl) (.tmp 89) (.tmp 94) 29 (by rfl) 0 3 i0 _ 1 8 Try.underlying29 HI.out hz0 hz1 hz2 rfl (by omega) (.slice ao m cap) m xs (by rfl) HV7.out.1 (.slice (some ⟨w7.heap.size, 0, none⟩) 1 1) w7.heap.size (w7.heap.size + 1) 1 [.int .i64 xa] (by rfl) HV7.out.2 (in_one xa) (m + 1) rfl (by simp only [maxLen]; omega) (by omega) (Nat.zero_le _) ?_
                 intro ao2 cap2 w8 hown8' hgrow8' hob8'
                 have h8 := Lib.hid (And.intro hown8' (And.intro hgrow8' hob8'))
                 clear hown8' hgrow8' hob8')
              | fail "no arm")
            obtain ⟨f8, g8⟩ := FrQ.app (x := xa) t7.out.r HFM.out (by rw [← HXS.out]; exact h8.out.1) ⟨_, HVB.out, h8.out.2.1, h8.out.2.2⟩
            have t8 := Lib.hid (t7.out.ref f8 g8 (fr_own _ _ _))
            clear f8 g8
            have HNV7 : Hid (NeverR c t st (rUse b) (fr ++ [xa])) := Lib.hid (by
              have h1 := (O.bd HT.out.h).2.1
              rw [hsc] at h1
              rw [HXE.out]
              exact HNV.out.use (by omega) h1 HLV.out.symm)
            have HFB7 : Hid (∀ z ∈ fr ++ [xa], st ≤ z ∧ z ≤ now) := Lib.hid (fun z hz => by
              rcases List.mem_append.1 hz with hz | hz
              · exact HFB.out z hz
              · rw [List.mem_singleton.1 hz, HXE.out]
                have h1 := (O.bd HT.out.h).2.1.lv x (by rw [← HLV.out]; exact List.mem_cons_self ..)
                have h2 := HST.out x (by rw [← HLV.out]; exact List.mem_cons_self ..)
                have h3 := HBN.out
                omega)
            have HBN7 : Hid ((rUse b).now = now) := Lib.hid ((rUse_now b).trans HBN.out)
            have HFM7 : Hid (m + 1 = (fr ++ [xa]).length) := Lib.hid (by rw [List.length_append, ← HFM.out]; rfl)
            obtain ⟨b9, hb9⟩ : ∃ b9, b9 = (rUse b) := ⟨_, rfl⟩
            have HB9 := Lib.hid hb9
            have t9 : Hid (Both V w8 (O.Rg H s st b9) (FrQ ao2 cap2 (fr ++ [xa])) S7 _) := Lib.hid (by rw [hb9]; exact t8.out)
            clear hb9
            have HBD := Lib.hid (O.bd t9.out.h)
            have HX := Lib.hid (HBD.out.2.1.bounds)
            obtain ⟨m1, hm1⟩ : ∃ m, m = b9.live.length := ⟨_, rfl⟩
            have HM := Lib.hid hm1
            have hmb : m1 ≤ 1000 := by have := HX.out.2.1; rw [hsc] at this; omega
            have hb0 : 0 ≤ b9.free ∧ b9.free ≤ 1000 := by have := HBD.out.2.1.f0; have := HX.out.1; rw [hsc] at this; omega
            have KT := Lib.hid (fun k => sumB_take (l := b9.live) (fun x hx => (HBD.out.2.1.lv x hx).2.2) k)
            have HALL : Hid (b9.free + sumB b9.live ≤ c) := Lib.hid (by rw [← hsc]; exact HBD.out.2.1.all)
            obtain ⟨ff, hff⟩ : ∃ fr, fr = b9.free := ⟨_, rfl⟩
            have HFF := Lib.hid hff
            rw [← hff] at hb0 HALL
            clear hm1 hff
            go_wp2_with (first
              | (go_at_call 8; have _z := hbF; refine (O.live _ H _ s st b9 (t9.out.later hbF.out).h).mono ?_; rintro e wL ⟨aL, cL, rfl, lL', bL⟩; have lL := lL'.wider (Nat.zero_le _) (Nat.le_refl _); clear lL'; rw [← HM.out] at lL; rw [← HM.out]; have hlL := Lib.hid lL; have hbL := Lib.hid (hbF.out.trans (bL.mono hbF.out.size)); clear lL bL)
              | (go_at_call 14; refine (O.free _ H _ s st b9 t9.out.h).mono ?_; rintro e wF ⟨rfl, bF⟩; rw [← HFF.out]; have hbF := Lib.hid bF; clear bF)
              | fail "no arm")
            go_loopw [13, 15] (fun s8 s10 wp => ∃ (k : Nat) (n : Int), k ≤ m1 ∧ s8 = .int .i64 n ∧ s10 = .int .i64 k ∧ Hid (n = ff + sumB (b9.live.take k)) ∧ Hid (Below wL.heap.size wL wp)) (fun _ s _ => m1 - (intOf s).toNat)
            case atStart => exact ⟨0, ff, Nat.zero_le _, rfl, rfl, Lib.hid (by simp [sumB]), Lib.hid (Below.refl _ _)⟩
            case round =>
              obtain ⟨k, n, hk, rfl, rfl, HNN, HP⟩ := hrel
              by_cases hk1 : k < m1
              · have e0 : decide ((k : Int) < (m1 : Int)) = true := decide_eq_true (by omega)
                have e1 : (0 : Int) ≤ (k : Int) := by omega
                have e2 : (k : Int) < (m1 : Int) := by omega
                have hkL : k < b9.live.length := by have := HM.out; omega
                obtain ⟨lb, lo, ea, y0, y1, _⟩ := bks_read (l := b9.live) HM.out.symm hlL.out wr HP.out k hk1
                obtain ⟨x, hx⟩ : ∃ x, x = b9.live[k] := ⟨_, rfl⟩
                rw [← hx] at y1
                obtain ⟨n2, hn2⟩ : ∃ n2, n2 = n + x.n := ⟨_, rfl⟩
                have hnx : n2 = ff + sumB (b9.live.take (k + 1)) := by
                  rw [hn2, List.take_add_one, List.getElem?_eq_getElem hkL, sumB_append, HNN.out, hx]
                  simp [sumB]; omega
                have hu := KT.out (k + 1)
                have hall := HALL.out
                have z2 : wrap64 (n + x.n) = n2 := by rw [← hn2]; exact IntWalk.wrap64_in _ (by omega)
                have z3 : IntKind.i64.wrap (n + x.n) = n2 := by rw [← hn2]; exact IntWalk.i64_in _ (by omega)
                have HN2 := Lib.hid hnx
                subst ea
                clear hx hnx hu hall hn2 y0 hkL
                go_wp2_with fail
                go_roundw
                case rel => exact ⟨k + 1, n2, by omega, by first | rfl | rw [z2], by go_num, HN2, HP⟩
                case measure => simp [intOf]; omega
              · have e3 : decide ((k : Int) < (m1 : Int)) = false := decide_eq_false (by omega)
                have hnc : n ≤ c := by rw [HNN.out, List.take_of_length_le (by have := HM.out; omega)]; exact HALL.out
                have e4 : decide (c < n) = false := decide_eq_false (by omega)
                have tA := Lib.hid (t9.out.later (hbL.out.trans (HP.out.mono hbL.out.size)))
                obtain ⟨k0, k1, k2⟩ := KE.out wr tA.out.b
                clear hnc
                go_wp2_with fail
                go_roundw
                case rel => exact ⟨i + 1, now, S7, _, b9, (fr ++ [xa]), ao2, cap2, (m + 1), by omega, by omega, by push_cast; omega, by omega, by first | rfl | go_num, rfl, by go_num, HFM7.out, tA, Lib.hid (by rw [HB9.out]; exact HNV7.out), HFB7, Lib.hid (by rw [HB9.out]; exact HBN7.out)⟩
                case measure => simp [intOf]; omega
        have f3 : (kd == 3) = false := by simpa using q3
        by_cases q4 : kd = 4
        · subst q4
          obtain ⟨lv5, hlv5⟩ : ∃ lv5, lv5 = b.live := ⟨_, rfl⟩
          cases lv5 with
          | nil =>
            have HU : Hid (rUseOk b = false) := Lib.hid (by unfold rUseOk; rw [← hlv5]; rfl)
            have HUB : Hid (rUse b = b) := Lib.hid (by unfold rUse; rw [← hlv5])
            clear hlv5
            go_upto_region 31 with (go_at_call 10; refine (O.use _ H S s st b t6.out.h).mono ?_; rintro e w7 ⟨S7, rfl, h7', g7'⟩; rw [HU.out]; rw [HUB.out] at h7'; have t7 := Lib.hid (t6.out.prog h7' g7' (O.own _ _ _ _)); clear h7' g7')
            obtain ⟨b9, hb9⟩ : ∃ b9, b9 = b := ⟨_, rfl⟩
            have HB9 := Lib.hid hb9
            have t9 : Hid (Both V w7 (O.Rg H s st b9) (FrQ ao cap fr) S7 R) := Lib.hid (by rw [hb9]; exact t7.out)
            clear hb9
            have HBD := Lib.hid (O.bd t9.out.h)
            have HX := Lib.hid (HBD.out.2.1.bounds)
            obtain ⟨m1, hm1⟩ : ∃ m, m = b9.live.length := ⟨_, rfl⟩
            have HM := Lib.hid hm1
            have hmb : m1 ≤ 1000 := by have := HX.out.2.1; rw [hsc] at this; omega
            have hb0 : 0 ≤ b9.free ∧ b9.free ≤ 1000 := by have := HBD.out.2.1.f0; have := HX.out.1; rw [hsc] at this; omega
            have KT := Lib.hid (fun k => sumB_take (l := b9.live) (fun x hx => (HBD.out.2.1.lv x hx).2.2) k)
            have HALL : Hid (b9.free + sumB b9.live ≤ c) := Lib.hid (by rw [← hsc]; exact HBD.out.2.1.all)
            obtain ⟨ff, hff⟩ : ∃ fr, fr = b9.free := ⟨_, rfl⟩
            have HFF := Lib.hid hff
            rw [← hff] at hb0 HALL
            clear hm1 hff
            go_wp2_with (first
              | (go_at_call 8; have _z := hbF; refine (O.live _ H _ s st b9 (t9.out.later hbF.out).h).mono ?_; rintro e wL ⟨aL, cL, rfl, lL', bL⟩; have lL := lL'.wider (Nat.zero_le _) (Nat.le_refl _); clear lL'; rw [← HM.out] at lL; rw [← HM.out]; have hlL := Lib.hid lL; have hbL := Lib.hid (hbF.out.trans (bL.mono hbF.out.size)); clear lL bL)
              | (go_at_call 14; refine (O.free _ H _ s st b9 t9.out.h).mono ?_; rintro e wF ⟨rfl, bF⟩; rw [← HFF.out]; have hbF := Lib.hid bF; clear bF)
              | fail "no arm")
            go_loopw [13, 15] (fun s8 s10 wp => ∃ (k : Nat) (n : Int), k ≤ m1 ∧ s8 = .int .i64 n ∧ s10 = .int .i64 k ∧ Hid (n = ff + sumB (b9.live.take k)) ∧ Hid (Below wL.heap.size wL wp)) (fun _ s _ => m1 - (intOf s).toNat)
            case atStart => exact ⟨0, ff, Nat.zero_le _, rfl, rfl, Lib.hid (by simp [sumB]), Lib.hid (Below.refl _ _)⟩
            case round =>
              obtain ⟨k, n, hk, rfl, rfl, HNN, HP⟩ := hrel
              by_cases hk1 : k < m1
              · have e0 : decide ((k : Int) < (m1 : Int)) = true := decide_eq_true (by omega)
                have e1 : (0 : Int) ≤ (k : Int) := by omega
                have e2 : (k : Int) < (m1 : Int) := by omega
                have hkL : k < b9.live.length := by have := HM.out; omega
                obtain ⟨lb, lo, ea, y0, y1, _⟩ := bks_read (l := b9.live) HM.out.symm hlL.out wr HP.out k hk1
                obtain ⟨x, hx⟩ : ∃ x, x = b9.live[k] := ⟨_, rfl⟩
                rw [← hx] at y1
                obtain ⟨n2, hn2⟩ : ∃ n2, n2 = n + x.n := ⟨_, rfl⟩
                have hnx : n2 = ff + sumB (b9.live.take (k + 1)) := by
                  rw [hn2, List.take_add_one, List.getElem?_eq_getElem hkL, sumB_append, HNN.out, hx]
                  simp [sumB]; omega
                have hu := KT.out (k + 1)
                have hall := HALL.out
                have z2 : wrap64 (n + x.n) = n2 := by rw [← hn2]; exact IntWalk.wrap64_in _ (by omega)
                have z3 : IntKind.i64.wrap (n + x.n) = n2 := by rw [← hn2]; exact IntWalk.i64_in _ (by omega)
                have HN2 := Lib.hid hnx
                subst ea
                clear hx hnx hu hall hn2 y0 hkL
                go_wp2_with fail
                go_roundw
                case rel => exact ⟨k + 1, n2, by omega, by first | rfl | rw [z2], by go_num, HN2, HP⟩
                case measure => simp [intOf]; omega
              · have e3 : decide ((k : Int) < (m1 : Int)) = false := decide_eq_false (by omega)
                have hnc : n ≤ c := by rw [HNN.out, List.take_of_length_le (by have := HM.out; omega)]; exact HALL.out
                have e4 : decide (c < n) = false := decide_eq_false (by omega)
                have tA := Lib.hid (t9.out.later (hbL.out.trans (HP.out.mono hbL.out.size)))
                obtain ⟨k0, k1, k2⟩ := KE.out wr tA.out.b
                clear hnc
                go_wp2_with fail
                go_roundw
                case rel => exact ⟨i + 1, now, S7, R, b9, fr, ao, cap, m, by omega, by omega, by push_cast; omega, by omega, by first | rfl | go_num, rfl, by go_num, HFM.out, tA, Lib.hid (by rw [HB9.out]; exact HNV.out), HFB, Lib.hid (by rw [HB9.out]; exact HBN.out)⟩
                case measure => simp [intOf]; omega
          | cons x lrest =>
            have HU : Hid (rUseOk b = true) := Lib.hid (by unfold rUseOk; rw [← hlv5]; rfl)
            have HLV := Lib.hid hlv5
            have hm5 : 0 < m5 := by rw [HM5.out, ← hlv5]; simp
            have u0 : ((m5 : Int) == 0) = false := by simp; omega
            have u1 : (0 : Int) < (m5 : Int) := by omega
            have u2 : ¬ m5 = 0 := by omega
            obtain ⟨xa, hxae⟩ : ∃ xa, xa = x.at_ := ⟨_, rfl⟩
            have HXE := Lib.hid hxae
            obtain ⟨i0, hi0, hz0, hz1, hz2⟩ := info_parts Try.infoInt18
            have HI := Lib.hid hi0
            obtain ⟨xs, hxs⟩ : ∃ xs, xs = fr.flatMap intCells := ⟨_, rfl⟩
            have HXS := Lib.hid hxs
            clear hlv5 hxae hi0 hxs
            go_upto_region 24 with (go_at_call 10; refine (O.use _ H S s st b t6.out.h).mono ?_; rintro e w7 ⟨S7, rfl, h7', g7'⟩; rw [HU.out]; have hl7 := Lib.hid g7'; have t7 := Lib.hid (t6.out.prog h7' g7' (O.own _ _ _ _)); clear h7' g7')
            obtain ⟨lb, lo, ea, y7⟩ : ∃ lb lo, a6 = some ⟨lb, lo, none⟩ ∧ w7.cell? ⟨lb, lo, none⟩ = some (.int .i64 xa) := by
              obtain ⟨a', c', e, _, _, hc⟩ := hl6.out
              cases e
              rcases hc with h0 | ⟨lb, lo, rfl, hlo, hb, hc⟩
              · omega
              · have hx0 : b.live[0]? = some x := by rw [← HLV.out]; rfl
                have f0 := hc _ _ (flat_at Bk.cells 2 (fun _ => rfl) b.live 0 0 _ hx0 (by omega))
                refine ⟨lb, lo, rfl, ?_⟩
                have hnS : ¬ S lb := fun h => by have := HT.out.oh.lt HT.out.h lb h; omega
                rw [World.cell?_of_block (w := w6) (hl7.out.block lb hb hnS), HXE.out]
                simpa using f0
            subst ea
            have HVB : Hid (Below w7.heap.size w7 (w7.alloc (.cells #[.int .i64 xa] 3))) := Lib.hid (below1 _ _)
            have HV7 : Hid ((w7.alloc (.cells #[.int .i64 xa] 3)).ownsRow 0 3 1 (.slice ao m cap) m xs ∧ Lies (w7.alloc (.cells #[.int .i64 xa] 3)) w7.heap.size (w7.heap.size + 1) (.slice (some ⟨w7.heap.size, 0, none⟩) 1 1) 1 1 [.int .i64 xa]) := Lib.hid (by
              refine ⟨?_, one_lies (cs := #[.int .i64 xa]) (t := 3) (heap_alloc_new _ _) rfl⟩
              have h1 := ((fr_own ao cap fr).later t7.out.r HVB.out).1
              rw [HFM.out, HXS.out]
              exact h1)
            go_upto_region 31 with (first
              | (refine wpList_append_lie2 (by rfl) (.tmp 89) (.tmp 94) 29 (by rfl) 0 3 i0 _ 1 8 Try.underlying29 HI.out hz0 hz1 hz2 rfl (by omega) (.slice ao m cap) m xs (by rfl) HV7.out.1 (.slice (some ⟨w7.heap.size, 0, none⟩) 1 1) w7.heap.size (w7.heap.size + 1) 1 [.int .i64 xa] (by rfl) HV7.out.2 (in_one xa) (m + 1) rfl (by simp only [maxLen]; omega) (by omega) (Nat.zero_le _) ?_
                 intro ao2 cap2 w8 hown8' hgrow8' hob8'
                 have h8 := Lib.hid (And.intro hown8' (And.intro hgrow8' hob8'))
                 clear hown8' hgrow8' hob8')
              | fail "no arm")
            obtain ⟨f8, g8⟩ := FrQ.app (x := xa) t7.out.r HFM.out (by rw [← HXS.out]; exact h8.out.1) ⟨_, HVB.out, h8.out.2.1, h8.out.2.2⟩
            have t8 := Lib.hid (t7.out.ref f8 g8 (fr_own _ _ _))
            clear f8 g8
            have HNV7 : Hid (NeverR c t st (rUse b) (fr ++ [xa])) := Lib.hid (by
              have h1 := (O.bd HT.out.h).2.1
              rw [hsc] at h1
              rw [HXE.out]
              exact HNV.out.use (by omega) h1 HLV.out.symm)
            have HFB7 : Hid (∀ z ∈ fr ++ [xa], st ≤ z ∧ z ≤ now) := Lib.hid (fun z hz => by
              rcases List.mem_append.1 hz with hz | hz
              · exact HFB.out z hz
              · rw [List.mem_singleton.1 hz, HXE.out]
                have h1 := (O.bd HT.out.h).2.1.lv x (by rw [← HLV.out]; exact List.mem_cons_self ..)
                have h2 := HST.out x (by rw [← HLV.out]; exact List.mem_cons_self ..)
                have h3 := HBN.out
                omega)
            have HBN7 : Hid ((rUse b).now = now) := Lib.hid ((rUse_now b).trans HBN.out)
            have HFM7 : Hid (m + 1 = (fr ++ [xa]).length) := Lib.hid (by rw [List.length_append, ← HFM.out]; rfl)
            obtain ⟨b9, hb9⟩ : ∃ b9, b9 = (rUse b) := ⟨_, rfl⟩
            have HB9 := Lib.hid hb9
            have t9 : Hid (Both V w8 (O.Rg H s st b9) (FrQ ao2 cap2 (fr ++ [xa])) S7 _) := Lib.hid (by rw [hb9]; exact t8.out)
            clear hb9
            have HBD := Lib.hid (O.bd t9.out.h)
            have HX := Lib.hid (HBD.out.2.1.bounds)
            obtain ⟨m1, hm1⟩ : ∃ m, m = b9.live.length := ⟨_, rfl⟩
            have HM := Lib.hid hm1
            have hmb : m1 ≤ 1000 := by have := HX.out.2.1; rw [hsc] at this; omega
            have hb0 : 0 ≤ b9.free ∧ b9.free ≤ 1000 := by have := HBD.out.2.1.f0; have := HX.out.1; rw [hsc] at this; omega
            have KT := Lib.hid (fun k => sumB_take (l := b9.live) (fun x hx => (HBD.out.2.1.lv x hx).2.2) k)
            have HALL : Hid (b9.free + sumB b9.live ≤ c) := Lib.hid (by rw [← hsc]; exact HBD.out.2.1.all)
            obtain ⟨ff, hff⟩ : ∃ fr, fr = b9.free := ⟨_, rfl⟩
            have HFF := Lib.hid hff
            rw [← hff] at hb0 HALL
            clear hm1 hff
            go_wp2_with (first
              | (go_at_call 8; have _z := hbF; refine (O.live _ H _ s st b9 (t9.out.later hbF.out).h).mono ?_; rintro e wL ⟨aL, cL, rfl, lL', bL⟩; have lL := lL'.wider (Nat.zero_le _) (Nat.le_refl _); clear lL'; rw [← HM.out] at lL; rw [← HM.out]; have hlL := Lib.hid lL; have hbL := Lib.hid (hbF.out.trans (bL.mono hbF.out.size)); clear lL bL)
              | (go_at_call 14; refine (O.free _ H _ s st b9 t9.out.h).mono ?_; rintro e wF ⟨rfl, bF⟩; rw [← HFF.out]; have hbF := Lib.hid bF; clear bF)
              | fail "no arm")
            go_loopw [13, 15] (fun s8 s10 wp => ∃ (k : Nat) (n : Int), k ≤ m1 ∧ s8 = .int .i64 n ∧ s10 = .int .i64 k ∧ Hid (n = ff + sumB (b9.live.take k)) ∧ Hid (Below wL.heap.size wL wp)) (fun _ s _ => m1 - (intOf s).toNat)
            case atStart => exact ⟨0, ff, Nat.zero_le _, rfl, rfl, Lib.hid (by simp [sumB]), Lib.hid (Below.refl _ _)⟩
            case round =>
              obtain ⟨k, n, hk, rfl, rfl, HNN, HP⟩ := hrel
              by_cases hk1 : k < m1
              · have e0 : decide ((k : Int) < (m1 : Int)) = true := decide_eq_true (by omega)
                have e1 : (0 : Int) ≤ (k : Int) := by omega
                have e2 : (k : Int) < (m1 : Int) := by omega
                have hkL : k < b9.live.length := by have := HM.out; omega
                obtain ⟨lb, lo, ea, y0, y1, _⟩ := bks_read (l := b9.live) HM.out.symm hlL.out wr HP.out k hk1
                obtain ⟨x, hx⟩ : ∃ x, x = b9.live[k] := ⟨_, rfl⟩
                rw [← hx] at y1
                obtain ⟨n2, hn2⟩ : ∃ n2, n2 = n + x.n := ⟨_, rfl⟩
                have hnx : n2 = ff + sumB (b9.live.take (k + 1)) := by
                  rw [hn2, List.take_add_one, List.getElem?_eq_getElem hkL, sumB_append, HNN.out, hx]
                  simp [sumB]; omega
                have hu := KT.out (k + 1)
                have hall := HALL.out
                have z2 : wrap64 (n + x.n) = n2 := by rw [← hn2]; exact IntWalk.wrap64_in _ (by omega)
                have z3 : IntKind.i64.wrap (n + x.n) = n2 := by rw [← hn2]; exact IntWalk.i64_in _ (by omega)
                have HN2 := Lib.hid hnx
                subst ea
                clear hx hnx hu hall hn2 y0 hkL
                go_wp2_with fail
                go_roundw
                case rel => exact ⟨k + 1, n2, by omega, by first | rfl | rw [z2], by go_num, HN2, HP⟩
                case measure => simp [intOf]; omega
              · have e3 : decide ((k : Int) < (m1 : Int)) = false := decide_eq_false (by omega)
                have hnc : n ≤ c := by rw [HNN.out, List.take_of_length_le (by have := HM.out; omega)]; exact HALL.out
                have e4 : decide (c < n) = false := decide_eq_false (by omega)
                have tA := Lib.hid (t9.out.later (hbL.out.trans (HP.out.mono hbL.out.size)))
                obtain ⟨k0, k1, k2⟩ := KE.out wr tA.out.b
                clear hnc
                go_wp2_with fail
                go_roundw
                case rel => exact ⟨i + 1, now, S7, _, b9, (fr ++ [xa]), ao2, cap2, (m + 1), by omega, by omega, by push_cast; omega, by omega, by first | rfl | go_num, rfl, by go_num, HFM7.out, tA, Lib.hid (by rw [HB9.out]; exact HNV7.out), HFB7, Lib.hid (by rw [HB9.out]; exact HBN7.out)⟩
                case measure => simp [intOf]; omega
        have f4 : (kd == 4) = false := by simpa using q4
        by_cases q5 : kd = 5
        · subst q5
          go_upto_region 31 with (go_at_call 11; refine (O.done_ _ H S s st b t6.out.h).mono ?_; rintro e w7 ⟨S7, rfl, h7', g7'⟩; have t7 := Lib.hid (t6.out.prog h7' g7' (O.own _ _ _ _)); clear h7' g7')
          have HNV7 : Hid (NeverR c t st (rDone b) fr) := Lib.hid (by
            have h1 := (O.bd HT.out.h).2.1
            rw [hsc] at h1
            exact HNV.out.done h1)
          obtain ⟨b9, hb9⟩ : ∃ b9, b9 = (rDone b) := ⟨_, rfl⟩
          have HB9 := Lib.hid hb9
          have t9 : Hid (Both V w7 (O.Rg H s st b9) (FrQ ao cap fr) S7 R) := Lib.hid (by rw [hb9]; exact t7.out)
          clear hb9
          have HBD := Lib.hid (O.bd t9.out.h)
          have HX := Lib.hid (HBD.out.2.1.bounds)
          obtain ⟨m1, hm1⟩ : ∃ m, m = b9.live.length := ⟨_, rfl⟩
          have HM := Lib.hid hm1
          have hmb : m1 ≤ 1000 := by have := HX.out.2.1; rw [hsc] at this; omega
          have hb0 : 0 ≤ b9.free ∧ b9.free ≤ 1000 := by have := HBD.out.2.1.f0; have := HX.out.1; rw [hsc] at this; omega
          have KT := Lib.hid (fun k => sumB_take (l := b9.live) (fun x hx => (HBD.out.2.1.lv x hx).2.2) k)
          have HALL : Hid (b9.free + sumB b9.live ≤ c) := Lib.hid (by rw [← hsc]; exact HBD.out.2.1.all)
          obtain ⟨ff, hff⟩ : ∃ fr, fr = b9.free := ⟨_, rfl⟩
          have HFF := Lib.hid hff
          rw [← hff] at hb0 HALL
          clear hm1 hff
          go_wp2_with (first
            | (go_at_call 8; have _z := hbF; refine (O.live _ H _ s st b9 (t9.out.later hbF.out).h).mono ?_; rintro e wL ⟨aL, cL, rfl, lL', bL⟩; have lL := lL'.wider (Nat.zero_le _) (Nat.le_refl _); clear lL'; rw [← HM.out] at lL; rw [← HM.out]; have hlL := Lib.hid lL; have hbL := Lib.hid (hbF.out.trans (bL.mono hbF.out.size)); clear lL bL)
            | (go_at_call 14; refine (O.free _ H _ s st b9 t9.out.h).mono ?_; rintro e wF ⟨rfl, bF⟩; rw [← HFF.out]; have hbF := Lib.hid bF; clear bF)
            | fail "no arm")
          go_loopw [13, 15] (fun s8 s10 wp => ∃ (k : Nat) (n : Int), k ≤ m1 ∧ s8 = .int .i64 n ∧ s10 = .int .i64 k ∧ Hid (n = ff + sumB (b9.live.take k)) ∧ Hid (Below wL.heap.size wL wp)) (fun _ s _ => m1 - (intOf s).toNat)
          case atStart => exact ⟨0, ff, Nat.zero_le _, rfl, rfl, Lib.hid (by simp [sumB]), Lib.hid (Below.refl _ _)⟩
          case round =>
            obtain ⟨k, n, hk, rfl, rfl, HNN, HP⟩ := hrel
            by_cases hk1 : k < m1
            · have e0 : decide ((k : Int) < (m1 : Int)) = true := decide_eq_true (by omega)
              have e1 : (0 : Int) ≤ (k : Int) := by omega
              have e2 : (k : Int) < (m1 : Int) := by omega
              have hkL : k < b9.live.length := by have := HM.out; omega
              obtain ⟨lb, lo, ea, y0, y1, _⟩ := bks_read (l := b9.live) HM.out.symm hlL.out wr HP.out k hk1
              obtain ⟨x, hx⟩ : ∃ x, x = b9.live[k] := ⟨_, rfl⟩
              rw [← hx] at y1
              obtain ⟨n2, hn2⟩ : ∃ n2, n2 = n + x.n := ⟨_, rfl⟩
              have hnx : n2 = ff + sumB (b9.live.take (k + 1)) := by
                rw [hn2, List.take_add_one, List.getElem?_eq_getElem hkL, sumB_append, HNN.out, hx]
                simp [sumB]; omega
              have hu := KT.out (k + 1)
              have hall := HALL.out
              have z2 : wrap64 (n + x.n) = n2 := by rw [← hn2]; exact IntWalk.wrap64_in _ (by omega)
              have z3 : IntKind.i64.wrap (n + x.n) = n2 := by rw [← hn2]; exact IntWalk.i64_in _ (by omega)
              have HN2 := Lib.hid hnx
              subst ea
              clear hx hnx hu hall hn2 y0 hkL
              go_wp2_with fail
              go_roundw
              case rel => exact ⟨k + 1, n2, by omega, by first | rfl | rw [z2], by go_num, HN2, HP⟩
              case measure => simp [intOf]; omega
            · have e3 : decide ((k : Int) < (m1 : Int)) = false := decide_eq_false (by omega)
              have hnc : n ≤ c := by rw [HNN.out, List.take_of_length_le (by have := HM.out; omega)]; exact HALL.out
              have e4 : decide (c < n) = false := decide_eq_false (by omega)
              have tA := Lib.hid (t9.out.later (hbL.out.trans (HP.out.mono hbL.out.size)))
              obtain ⟨k0, k1, k2⟩ := KE.out wr tA.out.b
              clear hnc
              go_wp2_with fail
              go_roundw
              case rel => exact ⟨i + 1, now, S7, R, b9, fr, ao, cap, m, by omega, by omega, by push_cast; omega, by omega, by first | rfl | go_num, rfl, by go_num, HFM.out, tA, Lib.hid (by rw [HB9.out]; exact HNV7.out), HFB, Lib.hid (by rw [HB9.out]; exact HBN.out)⟩
              case measure => simp [intOf]; omega
        have f5 : (kd == 5) = false := by simpa using q5
        by_cases q6 : kd = 6
        · subst q6
          go_upto_region 31 with (go_at_call 12; refine (O.stop _ H S s st b t6.out.h).mono ?_; rintro e w7 ⟨S7, rfl, h7', g7'⟩; have t7 := Lib.hid (t6.out.prog h7' g7' (O.own _ _ _ _)); clear h7' g7')
          have HNV7 : Hid (NeverR c t st (rStop (rDone b) true) fr) := Lib.hid (by
            have h1 := (O.bd HT.out.h).2.1
            rw [hsc] at h1
            exact (HNV.out.done h1).stopped true)
          obtain ⟨b9, hb9⟩ : ∃ b9, b9 = (rStop (rDone b) true) := ⟨_, rfl⟩
          have HB9 := Lib.hid hb9
          have t9 : Hid (Both V w7 (O.Rg H s st b9) (FrQ ao cap fr) S7 R) := Lib.hid (by rw [hb9]; exact t7.out)
          clear hb9
          have HBD := Lib.hid (O.bd t9.out.h)
          have HX := Lib.hid (HBD.out.2.1.bounds)
          obtain ⟨m1, hm1⟩ : ∃ m, m = b9.live.length := ⟨_, rfl⟩
          have HM := Lib.hid hm1
          have hmb : m1 ≤ 1000 := by have := HX.out.2.1; rw [hsc] at this; omega
          have hb0 : 0 ≤ b9.free ∧ b9.free ≤ 1000 := by have := HBD.out.2.1.f0; have := HX.out.1; rw [hsc] at this; omega
          have KT := Lib.hid (fun k => sumB_take (l := b9.live) (fun x hx => (HBD.out.2.1.lv x hx).2.2) k)
          have HALL : Hid (b9.free + sumB b9.live ≤ c) := Lib.hid (by rw [← hsc]; exact HBD.out.2.1.all)
          obtain ⟨ff, hff⟩ : ∃ fr, fr = b9.free := ⟨_, rfl⟩
          have HFF := Lib.hid hff
          rw [← hff] at hb0 HALL
          clear hm1 hff
          go_wp2_with (first
            | (go_at_call 8; have _z := hbF; refine (O.live _ H _ s st b9 (t9.out.later hbF.out).h).mono ?_; rintro e wL ⟨aL, cL, rfl, lL', bL⟩; have lL := lL'.wider (Nat.zero_le _) (Nat.le_refl _); clear lL'; rw [← HM.out] at lL; rw [← HM.out]; have hlL := Lib.hid lL; have hbL := Lib.hid (hbF.out.trans (bL.mono hbF.out.size)); clear lL bL)
            | (go_at_call 14; refine (O.free _ H _ s st b9 t9.out.h).mono ?_; rintro e wF ⟨rfl, bF⟩; rw [← HFF.out]; have hbF := Lib.hid bF; clear bF)
            | fail "no arm")
          go_loopw [13, 15] (fun s8 s10 wp => ∃ (k : Nat) (n : Int), k ≤ m1 ∧ s8 = .int .i64 n ∧ s10 = .int .i64 k ∧ Hid (n = ff + sumB (b9.live.take k)) ∧ Hid (Below wL.heap.size wL wp)) (fun _ s _ => m1 - (intOf s).toNat)
          case atStart => exact ⟨0, ff, Nat.zero_le _, rfl, rfl, Lib.hid (by simp [sumB]), Lib.hid (Below.refl _ _)⟩
          case round =>
            obtain ⟨k, n, hk, rfl, rfl, HNN, HP⟩ := hrel
            by_cases hk1 : k < m1
            · have e0 : decide ((k : Int) < (m1 : Int)) = true := decide_eq_true (by omega)
              have e1 : (0 : Int) ≤ (k : Int) := by omega
              have e2 : (k : Int) < (m1 : Int) := by omega
              have hkL : k < b9.live.length := by have := HM.out; omega
              obtain ⟨lb, lo, ea, y0, y1, _⟩ := bks_read (l := b9.live) HM.out.symm hlL.out wr HP.out k hk1
              obtain ⟨x, hx⟩ : ∃ x, x = b9.live[k] := ⟨_, rfl⟩
              rw [← hx] at y1
              obtain ⟨n2, hn2⟩ : ∃ n2, n2 = n + x.n := ⟨_, rfl⟩
              have hnx : n2 = ff + sumB (b9.live.take (k + 1)) := by
                rw [hn2, List.take_add_one, List.getElem?_eq_getElem hkL, sumB_append, HNN.out, hx]
                simp [sumB]; omega
              have hu := KT.out (k + 1)
              have hall := HALL.out
              have z2 : wrap64 (n + x.n) = n2 := by rw [← hn2]; exact IntWalk.wrap64_in _ (by omega)
              have z3 : IntKind.i64.wrap (n + x.n) = n2 := by rw [← hn2]; exact IntWalk.i64_in _ (by omega)
              have HN2 := Lib.hid hnx
              subst ea
              clear hx hnx hu hall hn2 y0 hkL
              go_wp2_with fail
              go_roundw
              case rel => exact ⟨k + 1, n2, by omega, by first | rfl | rw [z2], by go_num, HN2, HP⟩
              case measure => simp [intOf]; omega
            · have e3 : decide ((k : Int) < (m1 : Int)) = false := decide_eq_false (by omega)
              have hnc : n ≤ c := by rw [HNN.out, List.take_of_length_le (by have := HM.out; omega)]; exact HALL.out
              have e4 : decide (c < n) = false := decide_eq_false (by omega)
              have tA := Lib.hid (t9.out.later (hbL.out.trans (HP.out.mono hbL.out.size)))
              obtain ⟨k0, k1, k2⟩ := KE.out wr tA.out.b
              clear hnc
              go_wp2_with fail
              go_roundw
              case rel => exact ⟨i + 1, now, S7, R, b9, fr, ao, cap, m, by omega, by omega, by push_cast; omega, by omega, by first | rfl | go_num, rfl, by go_num, HFM.out, tA, Lib.hid (by rw [HB9.out]; exact HNV7.out), HFB, Lib.hid (by rw [HB9.out]; exact HBN.out)⟩
              case measure => simp [intOf]; omega
        have f6 : (kd == 6) = false := by simpa using q6
        by_cases q7 : kd = 7
        · subst q7
          go_upto_region 31 with (go_at_call 13; refine (O.resume _ H S s st b t6.out.h).mono ?_; rintro e w7 ⟨S7, rfl, h7', g7'⟩; have t7 := Lib.hid (t6.out.prog h7' g7' (O.own _ _ _ _)); clear h7' g7')
          have HNV7 : Hid (NeverR c t st (rStop b false) fr) := Lib.hid (by
            have h1 := (O.bd HT.out.h).2.1
            rw [hsc] at h1
            exact HNV.out.stopped false)
          obtain ⟨b9, hb9⟩ : ∃ b9, b9 = (rStop b false) := ⟨_, rfl⟩
          have HB9 := Lib.hid hb9
          have t9 : Hid (Both V w7 (O.Rg H s st b9) (FrQ ao cap fr) S7 R) := Lib.hid (by rw [hb9]; exact t7.out)
          clear hb9
          have HBD := Lib.hid (O.bd t9.out.h)
          have HX := Lib.hid (HBD.out.2.1.bounds)
          obtain ⟨m1, hm1⟩ : ∃ m, m = b9.live.length := ⟨_, rfl⟩
          have HM := Lib.hid hm1
          have hmb : m1 ≤ 1000 := by have := HX.out.2.1; rw [hsc] at this; omega
          have hb0 : 0 ≤ b9.free ∧ b9.free ≤ 1000 := by have := HBD.out.2.1.f0; have := HX.out.1; rw [hsc] at this; omega
          have KT := Lib.hid (fun k => sumB_take (l := b9.live) (fun x hx => (HBD.out.2.1.lv x hx).2.2) k)
          have HALL : Hid (b9.free + sumB b9.live ≤ c) := Lib.hid (by rw [← hsc]; exact HBD.out.2.1.all)
          obtain ⟨ff, hff⟩ : ∃ fr, fr = b9.free := ⟨_, rfl⟩
          have HFF := Lib.hid hff
          rw [← hff] at hb0 HALL
          clear hm1 hff
          go_wp2_with (first
            | (go_at_call 8; have _z := hbF; refine (O.live _ H _ s st b9 (t9.out.later hbF.out).h).mono ?_; rintro e wL ⟨aL, cL, rfl, lL', bL⟩; have lL := lL'.wider (Nat.zero_le _) (Nat.le_refl _); clear lL'; rw [← HM.out] at lL; rw [← HM.out]; have hlL := Lib.hid lL; have hbL := Lib.hid (hbF.out.trans (bL.mono hbF.out.size)); clear lL bL)
            | (go_at_call 14; refine (O.free _ H _ s st b9 t9.out.h).mono ?_; rintro e wF ⟨rfl, bF⟩; rw [← HFF.out]; have hbF := Lib.hid bF; clear bF)
            | fail "no arm")
          go_loopw [13, 15] (fun s8 s10 wp => ∃ (k : Nat) (n : Int), k ≤ m1 ∧ s8 = .int .i64 n ∧ s10 = .int .i64 k ∧ Hid (n = ff + sumB (b9.live.take k)) ∧ Hid (Below wL.heap.size wL wp)) (fun _ s _ => m1 - (intOf s).toNat)
          case atStart => exact ⟨0, ff, Nat.zero_le _, rfl, rfl, Lib.hid (by simp [sumB]), Lib.hid (Below.refl _ _)⟩
          case round =>
            obtain ⟨k, n, hk, rfl, rfl, HNN, HP⟩ := hrel
            by_cases hk1 : k < m1
            · have e0 : decide ((k : Int) < (m1 : Int)) = true := decide_eq_true (by omega)
              have e1 : (0 : Int) ≤ (k : Int) := by omega
              have e2 : (k : Int) < (m1 : Int) := by omega
              have hkL : k < b9.live.length := by have := HM.out; omega
              obtain ⟨lb, lo, ea, y0, y1, _⟩ := bks_read (l := b9.live) HM.out.symm hlL.out wr HP.out k hk1
              obtain ⟨x, hx⟩ : ∃ x, x = b9.live[k] := ⟨_, rfl⟩
              rw [← hx] at y1
              obtain ⟨n2, hn2⟩ : ∃ n2, n2 = n + x.n := ⟨_, rfl⟩
              have hnx : n2 = ff + sumB (b9.live.take (k + 1)) := by
                rw [hn2, List.take_add_one, List.getElem?_eq_getElem hkL, sumB_append, HNN.out, hx]
                simp [sumB]; omega
              have hu := KT.out (k + 1)
              have hall := HALL.out
              have z2 : wrap64 (n + x.n) = n2 := by rw [← hn2]; exact IntWalk.wrap64_in _ (by omega)
              have z3 : IntKind.i64.wrap (n + x.n) = n2 := by rw [← hn2]; exact IntWalk.i64_in _ (by omega)
              have HN2 := Lib.hid hnx
              subst ea
              clear hx hnx hu hall hn2 y0 hkL
              go_wp2_with fail
              go_roundw
              case rel => exact ⟨k + 1, n2, by omega, by first | rfl | rw [z2], by go_num, HN2, HP⟩
              case measure => simp [intOf]; omega
            · have e3 : decide ((k : Int) < (m1 : Int)) = false := decide_eq_false (by omega)
              have hnc : n ≤ c := by rw [HNN.out, List.take_of_length_le (by have := HM.out; omega)]; exact HALL.out
              have e4 : decide (c < n) = false := decide_eq_false (by omega)
              have tA := Lib.hid (t9.out.later (hbL.out.trans (HP.out.mono hbL.out.size)))
              obtain ⟨k0, k1, k2⟩ := KE.out wr tA.out.b
              clear hnc
              go_wp2_with fail
              go_roundw
              case rel => exact ⟨i + 1, now, S7, R, b9, fr, ao, cap, m, by omega, by omega, by push_cast; omega, by omega, by first | rfl | go_num, rfl, by go_num, HFM.out, tA, Lib.hid (by rw [HB9.out]; exact HNV7.out), HFB, Lib.hid (by rw [HB9.out]; exact HBN.out)⟩
              case measure => simp [intOf]; omega
        have f7 : (kd == 7) = false := by simpa using q7
        go_upto_region 31 with fail
        obtain ⟨b9, hb9⟩ : ∃ b9, b9 = b := ⟨_, rfl⟩
        have HB9 := Lib.hid hb9
        have t9 : Hid (Both V w6 (O.Rg H s st b9) (FrQ ao cap fr) S R) := Lib.hid (by rw [hb9]; exact t6.out)
        clear hb9
        have HBD := Lib.hid (O.bd t9.out.h)
        have HX := Lib.hid (HBD.out.2.1.bounds)
        obtain ⟨m1, hm1⟩ : ∃ m, m = b9.live.length := ⟨_, rfl⟩
        have HM := Lib.hid hm1
        have hmb : m1 ≤ 1000 := by have := HX.out.2.1; rw [hsc] at this; omega
        have hb0 : 0 ≤ b9.free ∧ b9.free ≤ 1000 := by have := HBD.out.2.1.f0; have := HX.out.1; rw [hsc] at this; omega
        have KT := Lib.hid (fun k => sumB_take (l := b9.live) (fun x hx => (HBD.out.2.1.lv x hx).2.2) k)
        have HALL : Hid (b9.free + sumB b9.live ≤ c) := Lib.hid (by rw [← hsc]; exact HBD.out.2.1.all)
        obtain ⟨ff, hff⟩ : ∃ fr, fr = b9.free := ⟨_, rfl⟩
        have HFF := Lib.hid hff
        rw [← hff] at hb0 HALL
        clear hm1 hff
        go_wp2_with (first
          | (go_at_call 8; have _z := hbF; refine (O.live _ H _ s st b9 (t9.out.later hbF.out).h).mono ?_; rintro e wL ⟨aL, cL, rfl, lL', bL⟩; have lL := lL'.wider (Nat.zero_le _) (Nat.le_refl _); clear lL'; rw [← HM.out] at lL; rw [← HM.out]; have hlL := Lib.hid lL; have hbL := Lib.hid (hbF.out.trans (bL.mono hbF.out.size)); clear lL bL)
          | (go_at_call 14; refine (O.free _ H _ s st b9 t9.out.h).mono ?_; rintro e wF ⟨rfl, bF⟩; rw [← HFF.out]; have hbF := Lib.hid bF; clear bF)
          | fail "no arm")
        go_loopw [13, 15] (fun s8 s10 wp => ∃ (k : Nat) (n : Int), k ≤ m1 ∧ s8 = .int .i64 n ∧ s10 = .int .i64 k ∧ Hid (n = ff + sumB (b9.live.take k)) ∧ Hid (Below wL.heap.size wL wp)) (fun _ s _ => m1 - (intOf s).toNat)
        case atStart => exact ⟨0, ff, Nat.zero_le _, rfl, rfl, Lib.hid (by simp [sumB]), Lib.hid (Below.refl _ _)⟩
        case round =>
          obtain ⟨k, n, hk, rfl, rfl, HNN, HP⟩ := hrel
          by_cases hk1 : k < m1
          · have e0 : decide ((k : Int) < (m1 : Int)) = true := decide_eq_true (by omega)
            have e1 : (0 : Int) ≤ (k : Int) := by omega
            have e2 : (k : Int) < (m1 : Int) := by omega
            have hkL : k < b9.live.length := by have := HM.out; omega
            obtain ⟨lb, lo, ea, y0, y1, _⟩ := bks_read (l := b9.live) HM.out.symm hlL.out wr HP.out k hk1
            obtain ⟨x, hx⟩ : ∃ x, x = b9.live[k] := ⟨_, rfl⟩
            rw [← hx] at y1
            obtain ⟨n2, hn2⟩ : ∃ n2, n2 = n + x.n := ⟨_, rfl⟩
            have hnx : n2 = ff + sumB (b9.live.take (k + 1)) := by
              rw [hn2, List.take_add_one, List.getElem?_eq_getElem hkL, sumB_append, HNN.out, hx]
              simp [sumB]; omega
            have hu := KT.out (k + 1)
            have hall := HALL.out
            have z2 : wrap64 (n + x.n) = n2 := by rw [← hn2]; exact IntWalk.wrap64_in _ (by omega)
            have z3 : IntKind.i64.wrap (n + x.n) = n2 := by rw [← hn2]; exact IntWalk.i64_in _ (by omega)
            have HN2 := Lib.hid hnx
            subst ea
            clear hx hnx hu hall hn2 y0 hkL
            go_wp2_with fail
            go_roundw
            case rel => exact ⟨k + 1, n2, by omega, by first | rfl | rw [z2], by go_num, HN2, HP⟩
            case measure => simp [intOf]; omega
          · have e3 : decide ((k : Int) < (m1 : Int)) = false := decide_eq_false (by omega)
            have hnc : n ≤ c := by rw [HNN.out, List.take_of_length_le (by have := HM.out; omega)]; exact HALL.out
            have e4 : decide (c < n) = false := decide_eq_false (by omega)
            have tA := Lib.hid (t9.out.later (hbL.out.trans (HP.out.mono hbL.out.size)))
            obtain ⟨k0, k1, k2⟩ := KE.out wr tA.out.b
            clear hnc
            go_wp2_with fail
            go_roundw
            case rel => exact ⟨i + 1, now, S, R, b9, fr, ao, cap, m, by omega, by omega, by push_cast; omega, by omega, by first | rfl | go_num, rfl, by go_num, HFM.out, tA, Lib.hid (by rw [HB9.out]; exact HNV.out), HFB, Lib.hid (by rw [HB9.out]; exact HBN.out)⟩
            case measure => simp [intOf]; omega
      · have d0 : decide ((i : Int) < (n1 : Int)) = false := decide_eq_false (by omega)
        obtain ⟨wz, hwz⟩ : ∃ wz, wz = wr := ⟨_, rfl⟩
        subst hwz
        have hm150 : m ≤ 150 := by omega
        have HMORE : Hid (∀ x y : Int, x ≤ y → ((btw fr x y : Nat) : Int) ≤ c * ((y + t - x - 1) / t + 1)) := Lib.hid (fun x y hxy => by
          have h1 := (O.bd HT.out.h).2.1
          rw [hsc] at h1
          exact never_moreR (by omega) HNV.out h1 hxy)
        have HFM := Lib.hid hfm
        have KF : Hid (∀ Y, Below wz.heap.size wz Y → ∀ p, p < m → ∃ g f, ao = some ⟨g, 0, none⟩ ∧ Y.cell? ⟨g, p, none⟩ = some (.int .i64 f) ∧ fr[p]? = some f ∧ st ≤ f ∧ f ≤ st + 3000) := Lib.hid (fun Y hY p hp => by
          have hpl : p < fr.length := by omega
          obtain ⟨g, e, c0⟩ := FrQ.at_ ((fr_own ao cap fr).later HT.out.r hY) hpl
          have h1 := HFB.out _ (List.getElem_mem hpl)
          exact ⟨g, _, e, c0, List.getElem?_eq_getElem hpl, h1.1, by omega⟩)
        have KEV : Hid (∀ Y, Below wz.heap.size wz Y → Y.cell? ⟨E, 1, none⟩ = some (.int .i64 c) ∧ Y.cell? ⟨E, 2, none⟩ = some (.int .i64 t)) := Lib.hid (fun Y hY => (KE.out Y (HT.out.b.trans (hY.mono HT.out.b.size))).2)
        have HEND : Hid (∀ Y, Below wz.heap.size wz Y → Below w.heap.size w Y) := Lib.hid (fun Y hY => HBV.out.trans ((HT.out.b.trans (hY.mono HT.out.b.size)).mono HBV.out.size))
        clear hfm
        go_wp2_with fail
        go_loopw [16] (fun s10 wp => ∃ p : Nat, p ≤ m ∧ s10 = .int .i64 p ∧ Hid (Below wz.heap.size wz wp)) (fun s _ => m - (intOf s).toNat)
        case atStart => exact ⟨0, Nat.zero_le _, rfl, Lib.hid (Below.refl _ _)⟩
        case round =>
          obtain ⟨p, hp, rfl, HW2⟩ := hrel
          by_cases hpm : p < m
          · have e0 : decide ((p : Int) < (m : Int)) = true := decide_eq_true (by omega)
            have p1 : (0 : Int) ≤ (p : Int) := by omega
            have p2 : (p : Int) < (m : Int) := by omega
            obtain ⟨wp2, hwp2⟩ : ∃ wp2, wp2 = wr := ⟨_, rfl⟩
            subst hwp2
            go_wp2_with fail
            go_loopw [17] (fun s11 wp => ∃ q : Nat, q ≤ m ∧ s11 = .int .i64 q ∧ Hid (Below wz.heap.size wz wp)) (fun s _ => m - (intOf s).toNat)
            case atStart => exact ⟨0, Nat.zero_le _, rfl, HW2⟩
            case round =>
              clear HW2
              obtain ⟨q, hq, rfl, HW3⟩ := hrel
              by_cases hqm : q < m
              · have e1 : decide ((q : Int) < (m : Int)) = true := decide_eq_true (by omega)
                have q1 : (0 : Int) ≤ (q : Int) := by omega
                have q2 : (q : Int) < (m : Int) := by omega
                obtain ⟨wq3, hwq3⟩ : ∃ wq3, wq3 = wr := ⟨_, rfl⟩
                subst hwq3
                obtain ⟨g, fp, eg, z0, zp, fp0, fp1⟩ := KF.out wq3 HW3.out p hpm
                obtain ⟨g', fq, eg', z1, zq, fq0, fq1⟩ := KF.out wq3 HW3.out q hqm
                cases eg.symm.trans eg'
                have KPQ : Hid (∀ Y, Below wz.heap.size wz Y → Y.cell? ⟨g, p, none⟩ = some (.int .i64 fp) ∧ Y.cell? ⟨g, q, none⟩ = some (.int .i64 fq)) := Lib.hid (fun Y hY => by
                  obtain ⟨ga, fa, ea, ca, za, _⟩ := KF.out Y hY p hpm
                  obtain ⟨gb, fb, eb, cb, zb, _⟩ := KF.out Y hY q hqm
                  cases eg.symm.trans ea
                  cases eg.symm.trans eb
                  rw [zp] at za
                  rw [zq] at zb
                  cases za
                  cases zb
                  exact ⟨ca, cb⟩)
                have HEG := Lib.hid eg
                subst eg
                clear zp zq eg'
                by_cases hfl : fq < fp
                · have e2 : decide (fq < fp) = true := decide_eq_true hfl
                  go_wp2_with fail
                  go_quiet (fail)
                  go_wp2_with fail
                  go_roundw
                  case rel => exact ⟨q + 1, by omega, by go_num, Lib.hid (below_drewC _ HW3.out)⟩
                  case measure => simp [intOf]; omega
                · have e2 : decide (fq < fp) = false := decide_eq_false hfl
                  go_wp2_with fail
                  go_quiet (fail)
                  go_wp2_with fail
                  have HW3' : Hid (Below wz.heap.size wz (wq3.drewN nq)) := Lib.hid (below_drewC _ HW3.out)
                  go_loopw [18, 19] (fun s12 s13 wp => ∃ j n : Nat, j ≤ m ∧ n ≤ j ∧ s12 = .int .i64 n ∧ s13 = .int .i64 j ∧ Hid (n = btw (fr.take j) fp fq) ∧ Hid (Below wz.heap.size wz wp)) (fun _ s _ => m - (intOf s).toNat)
                  case atStart => exact ⟨0, 0, Nat.zero_le _, Nat.le_refl _, rfl, rfl, Lib.hid rfl, HW3'⟩
                  case round =>
                    clear HW3 HW3' z0 z1
                    obtain ⟨j, n, hj, hnj, rfl, rfl, HNB4, HW4⟩ := hrel
                    obtain ⟨z0, z1⟩ := KPQ.out wr HW4.out
                    by_cases hjm : j < m
                    · have e3 : decide ((j : Int) < (m : Int)) = true := decide_eq_true (by omega)
                      have j1 : (0 : Int) ≤ (j : Int) := by omega
                      have j2 : (j : Int) < (m : Int) := by omega
                      obtain ⟨gj, fj, ej, zj, xj, _, _⟩ := KF.out wr HW4.out j hjm
                      cases ej
                      have HJT : Hid (fr.take (j + 1) = fr.take j ++ [fj]) := Lib.hid (by rw [List.take_add_one, xj]; rfl)
                      clear xj
                      by_cases h1 : fp ≤ fj
                      · have e4 : decide (fp ≤ fj) = true := decide_eq_true h1
                        by_cases h2 : fj ≤ fq
                        · have e5 : decide (fj ≤ fq) = true := decide_eq_true h2
                          have HJX : Hid ((if (decide (fp ≤ fj) && decide (fj ≤ fq)) = true then 1 else 0) = 1) := Lib.hid (by rw [e4, e5]; rfl)
                          have HB1 : Hid (btw (fr.take (j + 1)) fp fq = n + 1) := Lib.hid (by rw [HJT.out, btw_snoc, ← HNB4.out, HJX.out])
                          clear h1 h2
                          go_wp2_with fail
                          go_quiet (fail)
                          go_wp2_with fail
                          go_roundw
                          case rel => exact ⟨j + 1, n + 1, by omega, by omega, by go_num, by go_num, Lib.hid HB1.out.symm, Lib.hid (below_drewC _ HW4.out)⟩
                          case measure => simp [intOf]; omega
                        · have e5 : decide (fj ≤ fq) = false := decide_eq_false h2
                          have HJX : Hid ((if (decide (fp ≤ fj) && decide (fj ≤ fq)) = true then 1 else 0) = 0) := Lib.hid (by rw [e4, e5]; rfl)
                          have HB1 : Hid (btw (fr.take (j + 1)) fp fq = n) := Lib.hid (by rw [HJT.out, btw_snoc, ← HNB4.out, HJX.out]; rfl)
                          clear h1 h2
                          go_wp2_with fail
                          go_quiet (fail)
                          go_wp2_with fail
                          go_roundw
                          case rel => exact ⟨j + 1, n, by omega, by omega, rfl, by go_num, Lib.hid HB1.out.symm, Lib.hid (below_drewC _ HW4.out)⟩
                          case measure => simp [intOf]; omega
                      · have e4 : decide (fp ≤ fj) = false := decide_eq_false h1
                        have HJX : Hid ((if (decide (fp ≤ fj) && decide (fj ≤ fq)) = true then 1 else 0) = 0) := Lib.hid (by rw [e4]; rfl)
                        have HB1 : Hid (btw (fr.take (j + 1)) fp fq = n) := Lib.hid (by rw [HJT.out, btw_snoc, ← HNB4.out, HJX.out]; rfl)
                        clear h1
                        go_wp2_with fail
                        go_quiet (fail)
                        go_wp2_with fail
                        go_roundw
                        case rel => exact ⟨j + 1, n, by omega, by omega, rfl, by go_num, Lib.hid HB1.out.symm, Lib.hid (below_drewC _ HW4.out)⟩
                        case measure => simp [intOf]; omega
                    · have e3 : decide ((j : Int) < (m : Int)) = false := decide_eq_false (by omega)
                      have HNN : Hid (n = btw fr fp fq) := Lib.hid (by rw [HNB4.out, List.take_of_length_le (by have := HFM.out; omega)])
                      obtain ⟨d1, hd1⟩ : ∃ d1, d1 = fq + t - fp := ⟨_, rfl⟩
                      obtain ⟨e9, he9⟩ : ∃ e9, e9 = fq + t := ⟨_, rfl⟩
                      have w1 : IntKind.i64.wrap (fq + t) = e9 := by rw [he9]; exact IntWalk.i64_in _ (by omega)
                      have w2 : IntKind.i64.wrap (e9 - fp) = d1 := by rw [hd1, he9]; exact IntWalk.i64_in _ (by omega)
                      obtain ⟨sv, hsvv⟩ : ∃ sv, sv = servV ⟨true, c, t⟩ d1 := ⟨_, rfl⟩
                      have hle : (n : Int) ≤ sv := by
                        rw [hsvv, hd1, HNN.out]
                        have h5 := HMORE.out fp fq (by omega)
                        have ho : okSv ⟨true, c, t⟩ = true := decide_eq_true hsv
                        unfold servV
                        rw [if_pos ho, cutT_of (by omega) (by omega)]
                        unfold servAt
                        rw [if_pos rfl, if_neg (by show ¬ (fq + t - fp < t); omega)]
                        exact h5
                      have HSV := Lib.hid hsvv.symm
                      have e6 : decide (sv < (n : Int)) = false := decide_eq_false (by omega)
                      have e7 : ¬ sv < (n : Int) := by omega
                      obtain ⟨k1, k2⟩ := KEV.out wr HW4.out
                      clear hd1 he9 hsvv hle
                      go_wp2_with fail
                      go_region_held3 (fun Y => Y.cell? ⟨E, 1, none⟩ = some (.int .i64 c) ∧ Y.cell? ⟨E, 2, none⟩ = some (.int .i64 t) ∧ Y.cell? ⟨g, p, none⟩ = some (.int .i64 fp) ∧ Y.cell? ⟨g, q, none⟩ = some (.int .i64 fq))
                        (first | exact ⟨(KEV.out _ HW4.out.drew).1, (KEV.out _ HW4.out.drew).2, (KPQ.out _ HW4.out.drew).1, (KPQ.out _ HW4.out.drew).2⟩ | exact ⟨(KEV.out _ hw9.out).1, (KEV.out _ hw9.out).2, (KPQ.out _ hw9.out).1, (KPQ.out _ hw9.out).2⟩ | fail "no keep")
                        (first | (go_at_call 15; refine (serve_any true c t d1 _).mono ?_; rintro e w9 ⟨rfl, b9⟩; rw [HSV.out]; have hw9 := Lib.hid (HW4.out.drew.trans (b9.mono HW4.out.drew.size)); clear b9) | fail "no arm")
                      go_wp2_with fail
                      go_roundw
                      case rel => exact ⟨q + 1, by omega, by go_num, hw9⟩
                      case measure => simp [intOf]; omega
              · have e1 : decide ((q : Int) < (m : Int)) = false := decide_eq_false (by omega)
                go_wp2_with fail
                go_roundw
                case rel => exact ⟨p + 1, by omega, by go_num, HW3⟩
                case measure => simp [intOf]; omega
          · have e0 : decide ((p : Int) < (m : Int)) = false := decide_eq_false (by omega)
            go_wp2_with fail
            go_ret
            exact ⟨rfl, HEND.out _ HW2.out⟩
end Go.Proofs.Ytiioodpofdlkhaa
