/- The greatest bound of a system: the program's All, the document's. -/
import Derived.Test.YtdbbdlobahalkaaLawTenA
import Derived.Test.YtdbbdlobahalkaaSys
namespace Go.Proofs.Ytdbbdlobahalkaa
open Go.ChangeShapes Go.WideShapes Go.ChangeAt Go.RowKit
set_option linter.unusedVariables false
attribute [local go_sem ↓] Go.wp_at_zero Go.wp_at_succ

theorem drop_some {α : Type} {l : List α} {k : Nat} {x : α} (h : l[k]? = some x) : l.drop k = x :: l.drop (k + 1) := by
  obtain ⟨h1, h2⟩ := List.getElem?_eq_some_iff.1 h
  rw [List.drop_eq_getElem_cons h1, h2]
theorem ret_two {a b c d : Int} (h : a = c) (k : b = d) : Ending.returned (.tuple #[.int .i64 a, .int .i64 b]) = .returned (.tuple #[.int .i64 c, .int .i64 d]) := by rw [h, k]
theorem boxK5 (w : World) (v0 v1 v2 v3 v4 : Value) (T : TypeId) (W : World) (h : Below (w.alloc (.cells #[v0, v1, v2, v3, v4] T)).heap.size (w.alloc (.cells #[v0, v1, v2, v3, v4] T)) W) :
    W.cell? ⟨w.heap.size, 0, none⟩ = some v0 ∧ W.cell? ⟨w.heap.size, 1, none⟩ = some v1 ∧ W.cell? ⟨w.heap.size, 2, none⟩ = some v2 ∧ W.cell? ⟨w.heap.size, 3, none⟩ = some v3 ∧ W.cell? ⟨w.heap.size, 4, none⟩ = some v4 :=
  have k := box_says w #[v0, v1, v2, v3, v4] T W h
  ⟨k 0 _ rfl, k 1 _ rfl, k 2 _ rfl, k 3 _ rfl, k 4 _ rfl⟩
/-- A partition of a system, as it is read. -/
theorem SysL.part {w : World} {hi : Nat} {c : Cf} {pvs : List Pv} {wa pa ca : Option Addr} {wc pc cc : Nat} (h : SysL w hi c pvs wa pa ca wc pc cc) (hh : hi ≤ w.heap.size) {k : Nat} (hk : k < c.ps.length) :
    ∃ (x : Pt) (pv : Pv) (ta sa da : Option Addr) (tc sc dc : Nat) (b off : Nat), c.ps[k]? = some x ∧ pa = some ⟨b, off, none⟩ ∧ b < hi ∧ PartAt w hi x ta sa x.ts.length tc x.ss.length sc ∧
      w.cell? ⟨b, off + k * 6, none⟩ = some (.slice ta x.ts.length tc) ∧ w.cell? ⟨b, off + k * 6 + 1, none⟩ = some (.slice sa x.ss.length sc) ∧ w.cell? ⟨b, off + k * 6 + 2, none⟩ = some (.slice da x.ds.length dc) ∧ w.cell? ⟨b, off + k * 6 + 3, none⟩ = some (.int .u8 pv.a0) ∧ w.cell? ⟨b, off + k * 6 + 4, none⟩ = some (.int .u8 pv.a1) ∧ w.cell? ⟨b, off + k * 6 + 5, none⟩ = some (.int .u8 pv.a2) := by
  obtain ⟨x, hx⟩ : ∃ x, c.ps[k]? = some x := ⟨_, List.getElem?_eq_getElem hk⟩
  obtain ⟨pv, hpv⟩ : ∃ x, pvs[k]? = some x := ⟨_, List.getElem?_eq_getElem (by rw [h.l3.length]; exact hk)⟩
  have hp := h.l3.at hpv hx
  obtain ⟨ta, sa, da, tc, sc, dc, e1, e2, e3⟩ := hp.slices
  obtain ⟨a2, c2, ee, _, _, hc⟩ := h.l2
  cases ee
  rcases hc with h0 | ⟨b, off, rfl, hb1, hb2, hc⟩
  · omega
  obtain ⟨s0, s1, s2, s3, s4, s5⟩ := Lies.pv hc hpv
  rw [e1] at s0; rw [e2] at s1; rw [e3] at s2
  refine ⟨x, pv, ta, sa, da, tc, sc, dc, b, off, hx, rfl, hb2, ⟨rfl, rfl, ?_, ?_, hh⟩, s0, s1, s2, s3, s4, s5⟩
  · rw [← e1]; exact hp.1
  · rw [← e2]; exact hp.2.1
set_option maxRecDepth 100000 in
set_option maxHeartbeats 4000000 in
theorem all_sys {w : World} {hi : Nat} {c : Cf} {pvs : List Pv} {wa pa ca : Option Addr} {wc pc cc : Nat} (fw : Few c) (hF : I64 c.frame) (h : SysL w hi c pvs wa pa ca wc pc cc) (hh : hi ≤ w.heap.size) :
    Calls Try.prog 18 #[.agg #[.int .i64 c.frame, .int .i64 c.margin, .slice wa c.ws.length wc, .slice pa c.ps.length pc, .slice ca c.cs.length cc]] w fun e w' => e = .returned (.tuple #[.int .i64 (allV c).1, .int .i64 (allV c).2]) ∧ Below w.heap.size w w' := by
  obtain ⟨V, hV⟩ : ∃ V, V = w.alloc (.cells #[.int .i64 c.frame, .int .i64 c.margin, .slice wa c.ws.length wc, .slice pa c.ps.length pc, .slice ca c.cs.length cc] 33) := ⟨_, rfl⟩
  have ks : ∀ W : World, Below V.heap.size V W → W.cell? ⟨w.heap.size, 0, none⟩ = some (.int .i64 c.frame) ∧ W.cell? ⟨w.heap.size, 1, none⟩ = some (.int .i64 c.margin) ∧ W.cell? ⟨w.heap.size, 2, none⟩ = some (.slice wa c.ws.length wc) ∧ W.cell? ⟨w.heap.size, 3, none⟩ = some (.slice pa c.ps.length pc) ∧ W.cell? ⟨w.heap.size, 4, none⟩ = some (.slice ca c.cs.length cc) := fun W g => by
    rw [hV] at g
    exact boxK5 _ _ _ _ _ _ _ W g
  have hBV : Below w.heap.size w V := by rw [hV]; exact below1 _ _
  have hVw : w.heap.size < V.heap.size := by rw [hV]; simp
  have HS := Lib.hid (fun (W : World) (g : Below V.heap.size V W) => And.intro (h.keep (SameIn.of_below (hBV.trans (g.mono (Nat.le_of_lt hVw))) hh)) (Nat.le_trans (Nat.le_trans hh (Nat.le_of_lt hVw)) g.size))
  have HV := Lib.hid hV; have HBV := Lib.hid hBV; have KS := Lib.hid ks; have HF := Lib.hid hF
  have HFW := Lib.hid fw.2.2.2
  have hpn : c.ps.length ≤ 1000 := fw.2.1
  have HA0 : Hid (allV c = allRun c.frame 0 ((0 : Nat) : Int) (c.ps.drop 0)) := Lib.hid rfl
  obtain ⟨z0, z1, z2, z3, z4⟩ := ks V (Below.refl _ _)
  clear hV hBV ks h fw hF
  go_enter Try.func18, Try.ntmps18
  go_wp2_with fail
  rw [← HV.out]
  go_wp2_with fail
  clear z0 z1 z2 z3 z4
  go_loopw [4, 12] (fun s i wr => ∃ (k : Nat) (m : Int), k ≤ c.ps.length ∧ s = .int .i64 m ∧ i = .int .i64 k ∧ 0 ≤ m ∧ m ≤ 65536 ∧ Hid (allV c = allRun c.frame m (k : Int) (c.ps.drop k)) ∧ Below V.heap.size V wr) (fun _ i _ => c.ps.length - (intOf i).toNat)
  case atStart => exact ⟨0, 0, by omega, rfl, rfl, by omega, by omega, HA0, Below.refl _ _⟩
  case round =>
    obtain ⟨k, m, hk, rfl, rfl, m0, m1, HA, hb⟩ := hrel
    by_cases hlt : k < c.ps.length
    · have tk : decide ((k : Int) < (c.ps.length : Int)) = true := by simpa using hlt
      obtain ⟨x, pv, ta, sa, da, tc, sc, dc, b, off, hx, rfl, hb2, hpx, s0, s1, s2, s3, s4, s5⟩ := (HS.out wr hb).1.part (HS.out wr hb).2 hlt
      obtain ⟨q1, q2, _⟩ := HFW.out x (List.mem_of_getElem? hx)
      have HX := Lib.hid hx
      have HPX := Lib.hid hpx
      have hbw : b < wr.heap.size := by have := hb.size; omega
      have l0 : (0 : Int) ≤ (k : Int) := by omega
      have l1 : (k : Int) < (c.ps.length : Int) := by omega
      have hn := drop_some hx
      obtain ⟨B, hB⟩ : ∃ B, B = wr.alloc (.cells #[.slice ta x.ts.length tc, .slice sa x.ss.length sc, .slice da x.ds.length dc, .int .u8 pv.a0, .int .u8 pv.a1, .int .u8 pv.a2] 58) := ⟨_, rfl⟩
      have hBB : Below wr.heap.size wr B := by rw [hB]; exact below1 _ _
      have hbV := bel_thenD hb (Nat.le_refl _) hBB
      have hbp := boxK6 wr (.slice ta x.ts.length tc) (.slice sa x.ss.length sc) (.slice da x.ds.length dc) (.int .u8 pv.a0) (.int .u8 pv.a1) (.int .u8 pv.a2) 58 B (by rw [hB]; exact Below.refl _ _)
      obtain ⟨y0, y1, y2, y3, y4, y5⟩ := hbp
      obtain ⟨z0, z1, z2, z3, z4⟩ := KS.out B hbV
      obtain ⟨n0, n1⟩ := bound_bd c.frame x
      have HBV2 := Lib.hid hbV
      have CO := Lib.hid (bound_at HF.out (hpx.later hBB) q1 q2 da x.ds.length dc pv.a0 pv.a1 pv.a2)
      rw [hB] at y0 y1 y2 y3 y4 y5 z0 z1 z2 z3 z4
      have HB := Lib.hid hB
      clear hx hpx hBB hbV hB
      cases hok : boundOk c.frame x with
      | true =>
        have HOK := Lib.hid hok
        have HN : Hid (allV c = allRun c.frame (max m (boundV c.frame x)) ((k + 1 : Nat) : Int) (c.ps.drop (k + 1))) := Lib.hid (by rw [HA.out, hn, allRun_next hok]; rfl)
        clear hn hok HA
        generalize boundV c.frame x = bv at *
        go_wp2_with (first
          | (go_at_call 15; rw [← HB.out]; refine CO.out.mono ?_; rintro e w2 ⟨rfl, hb2'⟩; rw [HOK.out]; have HB5 := Lib.hid (bel_thenD HBV2.out (Nat.le_refl _) hb2'); clear hb2'))
        go_roundw
        case rel => exact ⟨k + 1, max m bv, by omega, (by first | rfl | (congr 1; omega) | go_num), by go_num, by omega, by omega, HN, HB5.out⟩
        case measure => simp [intOf]; omega
      | false =>
        have HOK := Lib.hid hok
        have HN : Hid (allV c = ((k : Int), 0)) := Lib.hid (by rw [HA.out, hn, allRun_stop hok])
        clear hn hok HA
        generalize boundV c.frame x = bv at *
        go_wp2_with (first
          | (go_at_call 15; rw [← HB.out]; refine CO.out.mono ?_; rintro e w2 ⟨rfl, hb2'⟩; rw [HOK.out]; have HB5 := Lib.hid (bel_thenD HBV2.out (Nat.le_refl _) hb2'); clear hb2'))
        go_ret2
        exact ⟨ret_two (by rw [HN.out]) (by rw [HN.out]), HBV.out.trans (HB5.out.mono (Nat.le_of_lt hVw))⟩
    · have tk : decide ((k : Int) < (c.ps.length : Int)) = false := by simp; omega
      have HN : Hid (allV c = (-1, m)) := Lib.hid (by rw [HA.out, List.drop_of_length_le (by omega)]; rfl)
      go_wp2_with fail
      go_ret2
      exact ⟨ret_two (by rw [HN.out]) (by rw [HN.out]), HBV.out.trans (hb.mono (Nat.le_of_lt hVw))⟩
set_option maxRecDepth 100000 in
set_option maxHeartbeats 4000000 in
theorem refAll_sys {w : World} {hi : Nat} {c : Cf} {pvs : List Pv} {wa pa ca : Option Addr} {wc pc cc : Nat} (fw : Few c) (hF : I64 c.frame) (h : SysL w hi c pvs wa pa ca wc pc cc) (hh : hi ≤ w.heap.size) :
    Calls Try.prog 16 #[.agg #[.int .i64 c.frame, .int .i64 c.margin, .slice wa c.ws.length wc, .slice pa c.ps.length pc, .slice ca c.cs.length cc]] w fun e w' => e = .returned (.tuple #[.int .i64 (allV c).1, .int .i64 (allV c).2]) ∧ Below w.heap.size w w' := by
  obtain ⟨V, hV⟩ : ∃ V, V = w.alloc (.cells #[.int .i64 c.frame, .int .i64 c.margin, .slice wa c.ws.length wc, .slice pa c.ps.length pc, .slice ca c.cs.length cc] 26) := ⟨_, rfl⟩
  have ks : ∀ W : World, Below V.heap.size V W → W.cell? ⟨w.heap.size, 0, none⟩ = some (.int .i64 c.frame) ∧ W.cell? ⟨w.heap.size, 1, none⟩ = some (.int .i64 c.margin) ∧ W.cell? ⟨w.heap.size, 2, none⟩ = some (.slice wa c.ws.length wc) ∧ W.cell? ⟨w.heap.size, 3, none⟩ = some (.slice pa c.ps.length pc) ∧ W.cell? ⟨w.heap.size, 4, none⟩ = some (.slice ca c.cs.length cc) := fun W g => by
    rw [hV] at g
    exact boxK5 _ _ _ _ _ _ _ W g
  have hBV : Below w.heap.size w V := by rw [hV]; exact below1 _ _
  have hVw : w.heap.size < V.heap.size := by rw [hV]; simp
  have HS := Lib.hid (fun (W : World) (g : Below V.heap.size V W) => And.intro (h.keep (SameIn.of_below (hBV.trans (g.mono (Nat.le_of_lt hVw))) hh)) (Nat.le_trans (Nat.le_trans hh (Nat.le_of_lt hVw)) g.size))
  have HV := Lib.hid hV; have HBV := Lib.hid hBV; have KS := Lib.hid ks; have HF := Lib.hid hF
  have HFW := Lib.hid fw.2.2.2
  have hpn : c.ps.length ≤ 1000 := fw.2.1
  have HA0 : Hid (allV c = allRun c.frame 0 ((0 : Nat) : Int) (c.ps.drop 0)) := Lib.hid rfl
  clear hV hBV ks h fw hF
  go_enter Try.func16, Try.ntmps16
  go_wp2_with fail
  rw [← HV.out]
  go_loopw [4, 5] (fun s i wr => ∃ (k : Nat) (m : Int), k ≤ c.ps.length ∧ s = .int .i64 m ∧ i = .int .i64 k ∧ 0 ≤ m ∧ m ≤ 65536 ∧ Hid (allV c = allRun c.frame m (k : Int) (c.ps.drop k)) ∧ Below V.heap.size V wr) (fun _ i _ => c.ps.length - (intOf i).toNat)
  case atStart => exact ⟨0, 0, by omega, rfl, rfl, by omega, by omega, HA0, Below.refl _ _⟩
  case round =>
    obtain ⟨k, m, hk, rfl, rfl, m0, m1, HA, hb⟩ := hrel
    obtain ⟨z0, z1, z2, z3, z4⟩ := KS.out wr hb
    by_cases hlt : k < c.ps.length
    · have tk : decide ((k : Int) < (c.ps.length : Int)) = true := by simpa using hlt
      obtain ⟨x, pv, ta, sa, da, tc, sc, dc, b, off, hx, rfl, hb2, hpx, s0, s1, s2, s3, s4, s5⟩ := (HS.out wr hb).1.part (HS.out wr hb).2 hlt
      obtain ⟨q1, q2, _⟩ := HFW.out x (List.mem_of_getElem? hx)
      have hbw : b < wr.heap.size := by have := hb.size; omega
      have l0 : (0 : Int) ≤ (k : Int) := by omega
      have l1 : (k : Int) < (c.ps.length : Int) := by omega
      have hn := drop_some hx
      have KT : Hid (∀ W : World, Below wr.heap.size wr W → Below wr.heap.size wr W ∧ W.cell? ⟨w.heap.size, 0, none⟩ = some (.int .i64 c.frame) ∧ W.cell? ⟨w.heap.size, 3, none⟩ = some (.slice (some ⟨b, off, none⟩) c.ps.length pc) ∧ W.cell? ⟨b, off + k * 6, none⟩ = some (.slice ta x.ts.length tc) ∧ W.cell? ⟨b, off + k * 6 + 1, none⟩ = some (.slice sa x.ss.length sc) ∧ W.cell? ⟨b, off + k * 6 + 2, none⟩ = some (.slice da x.ds.length dc) ∧ W.cell? ⟨b, off + k * 6 + 3, none⟩ = some (.int .u8 pv.a0) ∧ W.cell? ⟨b, off + k * 6 + 4, none⟩ = some (.int .u8 pv.a1) ∧ W.cell? ⟨b, off + k * 6 + 5, none⟩ = some (.int .u8 pv.a2)) := Lib.hid fun W g => by
        have kk := KS.out W (hb.trans (g.mono hb.size))
        exact ⟨g, kk.1, kk.2.2.2.1, (g.cell (p := ⟨b, off + k * 6, none⟩) hbw).trans s0, (g.cell (p := ⟨b, off + k * 6 + 1, none⟩) hbw).trans s1, (g.cell (p := ⟨b, off + k * 6 + 2, none⟩) hbw).trans s2, (g.cell (p := ⟨b, off + k * 6 + 3, none⟩) hbw).trans s3, (g.cell (p := ⟨b, off + k * 6 + 4, none⟩) hbw).trans s4, (g.cell (p := ⟨b, off + k * 6 + 5, none⟩) hbw).trans s5⟩
      have CO := Lib.hid (fun (W : World) (g : Below wr.heap.size wr W) => refBound_at HF.out (hpx.later g) q1 q2 da x.ds.length dc pv.a0 pv.a1 pv.a2)
      obtain ⟨n0, n1⟩ := bound_bd c.frame x
      have R0 := Lib.hid (Below.refl wr.heap.size wr)
      clear hx hpx
      cases hok : boundOk c.frame x with
      | true =>
        have HOK := Lib.hid hok
        have HN : Hid (allV c = allRun c.frame (max m (boundV c.frame x)) ((k + 1 : Nat) : Int) (c.ps.drop (k + 1))) := Lib.hid (by rw [HA.out, hn, allRun_next hok]; rfl)
        clear hn hok HA
        obtain ⟨bv, hbv⟩ : ∃ bv, bv = boundV c.frame x := ⟨_, rfl⟩
        rw [← hbv] at HN n0 n1
        have HBV2 := Lib.hid hbv
        clear hbv
        go_wp2_with fail
        go_region_held3 (fun W => Below wr.heap.size wr W ∧ W.cell? ⟨w.heap.size, 0, none⟩ = some (.int .i64 c.frame) ∧ W.cell? ⟨w.heap.size, 3, none⟩ = some (.slice (some ⟨b, off, none⟩) c.ps.length pc) ∧ W.cell? ⟨b, off + k * 6, none⟩ = some (.slice ta x.ts.length tc) ∧ W.cell? ⟨b, off + k * 6 + 1, none⟩ = some (.slice sa x.ss.length sc) ∧ W.cell? ⟨b, off + k * 6 + 2, none⟩ = some (.slice da x.ds.length dc) ∧ W.cell? ⟨b, off + k * 6 + 3, none⟩ = some (.int .u8 pv.a0) ∧ W.cell? ⟨b, off + k * 6 + 4, none⟩ = some (.int .u8 pv.a1) ∧ W.cell? ⟨b, off + k * 6 + 5, none⟩ = some (.int .u8 pv.a2))
          (first | exact KT.out _ R0.out | exact KT.out _ R0.out.drew | exact KT.out _ (by assumption))
          (first
            | (go_at_call 13; refine (CO.out _ R0.out.drew).mono ?_; rintro e w2 ⟨rfl, hb2'⟩; rw [HOK.out, ← HBV2.out]; have hbn : Below wr.heap.size wr w2 := bel_thenD R0.out.drew (Nat.le_refl _) hb2')
            | fail "no arm")
        all_goals go_wp2_with fail
        all_goals go_roundw
        case rel => exact ⟨k + 1, max m bv, by omega, (by first | rfl | (congr 1; omega) | go_num), by go_num, by omega, by omega, HN, hb.trans ((show Below wr.heap.size wr _ by assumption).mono hb.size)⟩
        case measure => simp [intOf]; omega
      | false =>
        have HOK := Lib.hid hok
        have HN : Hid (allV c = ((k : Int), 0)) := Lib.hid (by rw [HA.out, hn, allRun_stop hok])
        clear hn hok HA
        obtain ⟨bv, hbv⟩ : ∃ bv, bv = boundV c.frame x := ⟨_, rfl⟩
        rw [← hbv] at n0 n1
        have HBV2 := Lib.hid hbv
        clear hbv
        go_wp2_with fail
        go_region_held3 (fun W => Below wr.heap.size wr W ∧ W.cell? ⟨w.heap.size, 0, none⟩ = some (.int .i64 c.frame) ∧ W.cell? ⟨w.heap.size, 3, none⟩ = some (.slice (some ⟨b, off, none⟩) c.ps.length pc) ∧ W.cell? ⟨b, off + k * 6, none⟩ = some (.slice ta x.ts.length tc) ∧ W.cell? ⟨b, off + k * 6 + 1, none⟩ = some (.slice sa x.ss.length sc) ∧ W.cell? ⟨b, off + k * 6 + 2, none⟩ = some (.slice da x.ds.length dc) ∧ W.cell? ⟨b, off + k * 6 + 3, none⟩ = some (.int .u8 pv.a0) ∧ W.cell? ⟨b, off + k * 6 + 4, none⟩ = some (.int .u8 pv.a1) ∧ W.cell? ⟨b, off + k * 6 + 5, none⟩ = some (.int .u8 pv.a2))
          (first | exact KT.out _ R0.out | exact KT.out _ R0.out.drew | exact KT.out _ (by assumption))
          (first
            | (go_at_call 13; refine (CO.out _ R0.out.drew).mono ?_; rintro e w2 ⟨rfl, hb2'⟩; rw [HOK.out, ← HBV2.out]; have hbn : Below wr.heap.size wr w2 := bel_thenD R0.out.drew (Nat.le_refl _) hb2')
            | fail "no arm")
        all_goals go_wp2_with fail
        all_goals go_ret2
        all_goals exact ⟨ret_two (by rw [HN.out]) (by rw [HN.out]), HBV.out.trans ((hb.trans ((show Below wr.heap.size wr _ by assumption).mono hb.size)).mono (Nat.le_of_lt hVw))⟩
    · have tk : decide ((k : Int) < (c.ps.length : Int)) = false := by simp; omega
      have HN : Hid (allV c = (-1, m)) := Lib.hid (by rw [HA.out, List.drop_of_length_le (by omega)]; rfl)
      go_wp2_with fail
      go_ret2
      exact ⟨ret_two (by rw [HN.out]) (by rw [HN.out]), HBV.out.trans (hb.mono (Nat.le_of_lt hVw))⟩
end Go.Proofs.Ytdbbdlobahalkaa
