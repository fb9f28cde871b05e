/- ChunkAll, out of the contracts. -/
import Derived.Test.YtoofkeeoolgpdaaChunkC
import Derived.BigQuiet
namespace Go.Proofs.Ytoofkeeoolgpdaa
open Go.ChangeShapes Go.WideShapes Go.ChangeAt Go.RowKit
set_option linter.unusedVariables false

theorem below_drewC {B : Nat} {a w : World} (d : Nat) (h : Below B a w) : Below B a (w.drewN d) := ⟨h.os, h.tape, h.output, h.size, h.block⟩
theorem wns_read {w : World} {a : Option Addr} {n c : Nat} {l : List Wn} (hn : l.length = n) (hl : Lies w 0 w.heap.size (.slice a n c) n 3 (l.flatMap Wn.cells)) : ∀ Y, Below w.heap.size w Y → ∀ i (hi : i < n), ∃ b off, a = some ⟨b, off, none⟩ ∧ Y.cell? ⟨b, off + i * 3, none⟩ = some (.int .i64 (l[i]'(by omega)).at_) ∧ Y.cell? ⟨b, off + i * 3 + 1, none⟩ = some (.int .i64 (l[i]'(by omega)).len) ∧ Y.cell? ⟨b, off + i * 3 + 2, none⟩ = some (.int .i64 (l[i]'(by omega)).part) ∧ b < w.heap.size := by
  intro Y hY i hi
  obtain ⟨a', c', e, _, _, hc⟩ := hl.keep (SameIn.of_below hY (Nat.le_refl _))
  cases e
  rcases hc with h0 | ⟨b, off, rfl, _, hb, hc⟩
  · omega
  · have hx : l[i]? = some l[i] := List.getElem?_eq_getElem (by omega)
    exact ⟨b, off, rfl, hc _ _ (flat_at Wn.cells 3 (fun _ => rfl) l i 0 _ hx (by omega)), hc _ _ (flat_at Wn.cells 3 (fun _ => rfl) l i 1 _ hx (by omega)), hc _ _ (flat_at Wn.cells 3 (fun _ => rfl) l i 2 _ hx (by omega)), hb⟩
theorem sumLeft_take {l : List Wn} (h : ∀ x ∈ l, 1 ≤ x.len ∧ 0 ≤ x.part) (k : Nat) : 0 ≤ sumLeft (l.take k) ∧ sumLeft (l.take k) ≤ sumLeft l ∧ 0 ≤ sumUsed (l.take k) ∧ sumUsed (l.take k) ≤ sumUsed l := by
  have e := List.take_append_drop k l
  have a1 := sumLeft_append (l.take k) (l.drop k)
  have a2 := sumUsed_append (l.take k) (l.drop k)
  rw [e] at a1 a2
  have b1 := sumLeft_len (l.take k) (fun x hx => (h x (List.mem_of_mem_take hx)).1)
  have b2 := sumLeft_len (l.drop k) (fun x hx => (h x (List.mem_of_mem_drop hx)).1)
  have b3 := sumUsed_pos (l.take k) (fun x hx => (h x (List.mem_of_mem_take hx)).2)
  have b4 := sumUsed_pos (l.drop k) (fun x hx => (h x (List.mem_of_mem_drop hx)).2)
  omega
theorem sumB_take {l : List Bk} (h : ∀ x ∈ l, 1 ≤ x.n) (k : Nat) : 0 ≤ sumB (l.take k) ∧ sumB (l.take k) ≤ sumB l := by
  have e := List.take_append_drop k l
  have a1 := sumB_append (l.take k) (l.drop k)
  rw [e] at a1
  have b1 := sumB_len (l.take k) (fun x hx => h x (List.mem_of_mem_take hx))
  have b2 := sumB_len (l.drop k) (fun x hx => h x (List.mem_of_mem_drop hx))
  omega
set_option maxRecDepth 100000 in
set_option maxHeartbeats 8000000 in
theorem ChunkAll_of (O : ChunkOk) (re : Bool) (c t : Int) (a1 : Option Addr) (n1 c1 : Nat) (w : World) (l1 : List Bk) (hn1 : l1.length = n1) (hl1 : Lies w 0 w.heap.size (.slice a1 n1 c1) n1 2 (l1.flatMap Bk.cells)) :
    Calls Try.prog 4 #[.agg #[.bool re, .int .i64 c, .int .i64 t], .slice a1 n1 c1] w fun e w' => e = .returned (.bool true) ∧ Below w.heap.size w w' := by
  obtain ⟨V, hV⟩ : ∃ V, V = w.alloc (.cells #[.bool re, .int .i64 c, .int .i64 t] 23) := ⟨_, rfl⟩
  obtain ⟨E, hE⟩ : ∃ E, E = w.heap.size := ⟨_, rfl⟩
  have hbV : Below w.heap.size w V := by rw [hV]; exact below1 _ _
  have hEV : V.heap[E]? = some (.cells #[.bool re, .int .i64 c, .int .i64 t] 23 (0, 0)) := by rw [hV, hE]; exact heap_alloc_new _ _
  have HBV := Lib.hid hbV
  have KE : Hid (∀ Y, Below V.heap.size V Y → Y.cell? ⟨E, 0, none⟩ = some (.bool re) ∧ Y.cell? ⟨E, 1, none⟩ = some (.int .i64 c) ∧ Y.cell? ⟨E, 2, none⟩ = some (.int .i64 t)) := Lib.hid (fun Y hY => by
    have := (hY.block _ (lt_of_block hEV)).trans hEV
    exact ⟨cell_in this rfl, cell_in this rfl, cell_in this rfl⟩)
  have HV := Lib.hid hV
  have HE := Lib.hid hE
  have KA : Hid (∀ Y, Below w.heap.size w Y → ∀ i, i < n1 → ∃ b off k n, a1 = some ⟨b, off, none⟩ ∧ Y.cell? ⟨b, off + i * 2, none⟩ = some (.int .i64 k) ∧ Y.cell? ⟨b, off + i * 2 + 1, none⟩ = some (.int .i64 n) ∧ ∀ Y', Below w.heap.size w Y' → Y'.cell? ⟨b, off + i * 2, none⟩ = some (.int .i64 k)) := Lib.hid (fun Y hY i hi => by
    obtain ⟨b, off, e, c0, c1, _⟩ := bks_read hn1 hl1 Y hY i hi
    refine ⟨b, off, _, _, e, c0, c1, fun Y' hY' => ?_⟩
    obtain ⟨b', off', e', c0', _, _⟩ := bks_read hn1 hl1 Y' hY' i hi
    cases e.symm.trans e'
    exact c0')
  clear hV hE hbV hEV hl1 hn1
  cases hok : okSv ⟨re, c, t⟩ with
  | false =>
    have HOK := Lib.hid hok
    clear hok
    by_cases hbig : 150 < n1
    · have t0 : decide ((150 : Int) < (n1 : Int)) = true := decide_eq_true (by omega)
      go_enter Try.func4, Try.ntmps4
      go_upto_region 1 with fail
      rw [← HV.out, ← HE.out]
      obtain ⟨q0, q1, q2⟩ := KE.out V (Below.refl _ _)
      go_wp2_with (first
        | (go_at_call 7; have _z := hb3; refine (knows17_of O _).mono ?_; rintro e w4 ⟨rfl, b4⟩; have hb4 := Lib.hid (hb3.out.trans (b4.mono hb3.out.size)); clear b4)
        | (go_at_call 8; refine (O.new_no re c t V HOK.out).mono ?_; rintro e w3 ⟨rfl, b3⟩; have hb3 := Lib.hid b3; clear b3)
        | fail "no arm")
      go_ret
      exact ⟨rfl, HBV.out.trans (hb4.out.mono HBV.out.size)⟩
    · have t0 : decide ((150 : Int) < (n1 : Int)) = false := decide_eq_false (by omega)
      go_enter Try.func4, Try.ntmps4
      go_upto_region 1 with fail
      rw [← HV.out, ← HE.out]
      obtain ⟨q0, q1, q2⟩ := KE.out V (Below.refl _ _)
      go_wp2_with (first
        | (go_at_call 7; have _z := hb3; refine (knows17_of O _).mono ?_; rintro e w4 ⟨rfl, b4⟩; have hb4 := Lib.hid (hb3.out.trans (b4.mono hb3.out.size)); clear b4)
        | (go_at_call 8; refine (O.new_no re c t V HOK.out).mono ?_; rintro e w3 ⟨rfl, b3⟩; have hb3 := Lib.hid b3; clear b3)
        | fail "no arm")
      go_ret
      exact ⟨rfl, HBV.out.trans (hb4.out.mono HBV.out.size)⟩
  | true =>
    have HOK := Lib.hid hok
    have hsv : 1 ≤ c ∧ c ≤ t ∧ t ≤ 1000 := of_decide_eq_true hok
    clear hok
    by_cases hbig : 150 < n1
    · have t0 : decide ((150 : Int) < (n1 : Int)) = true := decide_eq_true (by omega)
      go_enter Try.func4, Try.ntmps4
      go_upto_region 1 with fail
      rw [← HV.out, ← HE.out]
      obtain ⟨q0, q1, q2⟩ := KE.out V (Below.refl _ _)
      go_wp2_with (first
        | (go_at_call 7; have _z := hb3; refine (knows17_of O _).mono ?_; rintro e w4 ⟨rfl, b4⟩; have hb4 := Lib.hid (hb3.out.trans (b4.mono hb3.out.size)); clear b4)
        | (go_at_call 8; refine (O.new_yes re c t V HOK.out).mono ?_; rintro e w3 ⟨H, S, rfl, h3', s3', b3⟩; have h3 := Lib.hid h3'; have s3 := Lib.hid s3'; have hb3 := Lib.hid b3; clear h3' s3' b3)
        | fail "no arm")
      go_ret
      exact ⟨rfl, HBV.out.trans (hb4.out.mono HBV.out.size)⟩
    have s0 : n1 ≤ 150 := by omega
    have t0 : decide ((150 : Int) < (n1 : Int)) = false := decide_eq_false (by omega)
    clear hbig
    obtain ⟨s, hs⟩ : ∃ s : Sv, s = ⟨re, c, t⟩ := ⟨_, rfl⟩
    go_enter Try.func4, Try.ntmps4
    go_upto_region 1 with fail
    rw [← HV.out, ← HE.out]
    obtain ⟨q0, q1, q2⟩ := KE.out V (Below.refl _ _)
    go_wp2_with (first
      | (go_at_call 7; have _z := hb3; refine (knows17_of O _).mono ?_; rintro e w4 ⟨rfl, b4⟩; have hb4 := Lib.hid (hb3.out.trans (b4.mono hb3.out.size)); have h4 := Lib.hid ((O.own _ _ _).later h3.out b4); clear b4)
      | (go_at_call 8; refine (O.new_yes re c t V HOK.out).mono ?_; rintro e w3 ⟨H, S, rfl, h3', s3', b3⟩; have h3 := Lib.hid h3'; have s3 := Lib.hid s3'; have hb3 := Lib.hid b3; clear h3' s3' b3)
      | fail "no arm")
    rw [← hs] at h4
    have HS := Lib.hid hs
    have hsc : s.c = c := by rw [hs]
    have hst : s.t = t := by rw [hs]
    clear hs
    clear h3 hb3 q0 q1 q2
    go_loopw [6, 7] (fun s6 s7 wr => ∃ (i : Nat) (now : Int) (S : Nat → Prop) (b : Bd), i ≤ n1 ∧ 0 ≤ now ∧ now ≤ 1000 * i ∧ s6 = .int .i64 now ∧ s7 = .int .i64 i ∧ Hid (O.Bg H s b wr S) ∧ Hid (∀ k, S k → V.heap.size ≤ k) ∧ Hid (Below V.heap.size V wr)) (fun _ s _ => n1 - (intOf s).toNat)
    case atStart => exact ⟨0, 0, S, _, Nat.zero_le _, by decide, by decide, rfl, rfl, h4, s3, hb4⟩
    case round =>
      clear h4 s3 hb4
      obtain ⟨i, now, S, b, hi, hn0, hn1, rfl, rfl, HR, HSS, HB⟩ := hrel
      obtain ⟨wz, hwz⟩ : ∃ wz, wz = wr := ⟨_, rfl⟩
      subst hwz
      by_cases hlt : i < n1
      · have d0 : decide ((i : Int) < (n1 : Int)) = true := decide_eq_true (by omega)
        have d1 : (0 : Int) ≤ (i : Int) := by omega
        have d2 : (i : Int) < (n1 : Int) := by omega
        obtain ⟨ab, off, kd, nn, rfl, x0, x1, hkc⟩ := KA.out wz (HBV.out.trans (HB.out.mono HBV.out.size)) i hlt
        have KC := Lib.hid hkc
        have HNB := Lib.hid (nowN_bd kd nn now)
        clear hkc
        go_upto_region 9 with (go_at_call 21; refine (do17_of O _ H S s b kd nn now hn0 (by omega) HR.out).mono ?_; rintro e w5 ⟨S5, rfl, h5', g5'⟩; have h5 := Lib.hid h5'; have g5 := Lib.hid (g5'.step HB.out HSS.out); have kk := KC.out _ (HBV.out.trans (g5.out.1.mono HBV.out.size)); clear h5' g5')
        clear x0 x1
        obtain ⟨now5, hnow5⟩ : ∃ now5, now5 = nowN kd nn now := ⟨_, rfl⟩
        obtain ⟨b5, hb5⟩ : ∃ b5, b5 = actB s.t kd nn now b := ⟨_, rfl⟩
        rw [← hnow5] at HNB ⊢
        rw [← hb5] at h5
        clear hnow5 hb5
        by_cases q3 : kd = 3
        · subst q3
          go_upto_region 13 with (go_at_call 12; refine (O.use _ H S5 s b5 h5.out).mono ?_; rintro e w6 ⟨S6, rfl, h6', g6'⟩; have h6 := Lib.hid h6'; have g6' := Lib.hid (g6'.step g5.out.1 g5.out.2); have g6 := Lib.hid g6'.out.1; have s6 := Lib.hid g6'.out.2; have kk6 := KC.out _ (HBV.out.trans (g6.out.mono HBV.out.size)); clear h6' g6')
          obtain ⟨b6, hb6⟩ : ∃ b6', b6' = useB s.t b5 := ⟨_, rfl⟩
          rw [← hb6] at h6
          clear hb6 kk6 h5 g5 kk
          have HBD := Lib.hid (O.bd h6.out)
          have HX := Lib.hid (HBD.out.2.bounds)
          obtain ⟨m1, hm1⟩ : ∃ m, m = b6.live.length := ⟨_, rfl⟩
          obtain ⟨m2, hm2⟩ : ∃ m, m = b6.backs.length := ⟨_, rfl⟩
          have HM := Lib.hid (And.intro hm1 hm2)
          have hmb : m1 ≤ 1000 ∧ m2 ≤ 1000 := by have := HX.out.2.1; have := HX.out.2.2.1; rw [hsc] at *; omega
          obtain ⟨hmb1, hmb2⟩ := hmb
          have hb0 : 0 ≤ b6.free ∧ b6.free ≤ 1000 := by have := HBD.out.2.f0; have := HX.out.1; rw [hsc] at this; omega
          have KT := Lib.hid (fun k => sumLeft_take (l := b6.live) (fun x hx => ⟨(HBD.out.2.lv x hx).2.2.1, (HBD.out.2.lv x hx).2.2.2⟩) k)
          have KU := Lib.hid (fun k => sumB_take (l := b6.backs) (fun x hx => (HBD.out.2.bk x hx).2.2) k)
          have HALL : Hid (b6.free + sumLeft b6.live + sumUsed b6.live + sumB b6.backs = c) := Lib.hid (by rw [← hsc]; exact HBD.out.2.all)
          obtain ⟨fr, hfr⟩ : ∃ fr, fr = b6.free := ⟨_, rfl⟩
          have HFR := Lib.hid hfr
          rw [← hfr] at hb0 HALL
          clear hm1 hm2 hfr
          go_wp2_with (first
            | (go_at_call 23; have _z := hb7; refine (O.live _ H S6 s b6 ((O.own _ _ _).later h6.out hb7.out)).mono ?_; rintro e w8 ⟨a8, c8, rfl, l8', b8⟩; have l8 := l8'.wider (Nat.zero_le _) (Nat.le_refl _); clear l8'; rw [← HM.out.1] at l8; rw [← HM.out.1]; have hl8 := Lib.hid l8; have hb8 := Lib.hid (hb7.out.trans (b8.mono hb7.out.size)); clear l8 b8)
            | (go_at_call 22; refine (O.free _ H S6 s b6 h6.out).mono ?_; rintro e w7 ⟨rfl, b7⟩; rw [← HFR.out]; have hb7 := Lib.hid b7; clear b7)
            | fail "no arm")
          go_loopw [8, 10] (fun s8 s10 wp => ∃ (k : Nat) (n : Int), k ≤ m1 ∧ s8 = .int .i64 n ∧ s10 = .int .i64 k ∧ Hid (n = fr + sumLeft (b6.live.take k) + sumUsed (b6.live.take k)) ∧ Hid (Below w8.heap.size w8 wp)) (fun _ s _ => m1 - (intOf s).toNat)
          case atStart => exact ⟨0, fr, Nat.zero_le _, rfl, rfl, Lib.hid (by simp [sumLeft, sumUsed]), Lib.hid (Below.refl _ _)⟩
          case round =>
            obtain ⟨k, n, hk, rfl, rfl, HNN, HP⟩ := hrel
            by_cases hk1 : k < m1
            · have e0 : decide ((k : Int) < (m1 : Int)) = true := decide_eq_true (by omega)
              have e1 : (0 : Int) ≤ (k : Int) := by omega
              have e2 : (k : Int) < (m1 : Int) := by omega
              have hkL : k < b6.live.length := by have := HM.out.1; omega
              obtain ⟨lb, lo, ea, y0, y1, y2, _⟩ := wns_read (l := b6.live) HM.out.1.symm hl8.out wr HP.out k hk1
              obtain ⟨x, hx⟩ : ∃ x, x = b6.live[k] := ⟨_, rfl⟩
              rw [← hx] at y1 y2
              have hnx : n + x.len + x.part = fr + sumLeft (b6.live.take (k + 1)) + sumUsed (b6.live.take (k + 1)) := by
                rw [List.take_add_one, List.getElem?_eq_getElem hkL, sumLeft_append, sumUsed_append, HNN.out, hx]
                simp [sumLeft, sumUsed]; omega
              have hkt := KT.out (k + 1)
              have hkt0 := KT.out k
              have hall := HALL.out
              have hub := KU.out 0
              have hnn := HNN.out
              have hxl := HBD.out.2.lv _ (List.getElem_mem hkL)
              rw [← hx] at hxl
              have z1 : IntKind.i64.wrap (n + x.len) = n + x.len := IntWalk.i64_in _ (by omega)
              obtain ⟨n2, hn2⟩ : ∃ n2, n2 = n + x.len + x.part := ⟨_, rfl⟩
              have z2 : IntKind.i64.wrap (n + x.len + x.part) = n2 := by rw [hn2]; exact IntWalk.i64_in _ (by omega)
              have HN2 : Hid (n2 = fr + sumLeft (b6.live.take (k + 1)) + sumUsed (b6.live.take (k + 1))) := Lib.hid (by rw [hn2]; exact hnx)
              subst ea
              clear hx hnx hkt hkt0 hall hub hnn hxl hn2 y0 hkL
              go_wp2_with fail
              go_quiet (fail)
              go_wp2_with fail
              go_roundw
              case rel => exact ⟨k + 1, n2, by omega, rfl, by go_num, HN2, Lib.hid (below_drewC _ HP.out)⟩
              case measure => simp [intOf]; omega
            · have e0 : decide ((k : Int) < (m1 : Int)) = false := decide_eq_false (by omega)
              have HNK : Hid (n = fr + sumLeft b6.live + sumUsed b6.live) := Lib.hid (by rw [HNN.out, List.take_of_length_le (by have := HM.out.1; omega)])
              have HB9 : Hid (Below w6.heap.size w6 wr) := Lib.hid (hb8.out.trans (HP.out.mono hb8.out.size))
              obtain ⟨wq, hwq⟩ : ∃ wq, wq = wr := ⟨_, rfl⟩
              subst hwq
              go_wp2_with (first
                | (go_at_call 24; refine (O.backs _ H S6 s b6 ((O.own _ _ _).later h6.out HB9.out)).mono ?_; rintro e w10 ⟨a10, c10, rfl, l10', b10⟩; have l10 := l10'.wider (Nat.zero_le _) (Nat.le_refl _); clear l10'; rw [← HM.out.2] at l10; rw [← HM.out.2]; have hl10 := Lib.hid l10; have hb10 := Lib.hid (HB9.out.trans (b10.mono HB9.out.size)); clear l10 b10)
                | fail "no arm")
              go_loopw [8, 12] (fun s8 s12 wp => ∃ (q : Nat) (n : Int), q ≤ m2 ∧ s8 = .int .i64 n ∧ s12 = .int .i64 q ∧ Hid (n = fr + sumLeft b6.live + sumUsed b6.live + sumB (b6.backs.take q)) ∧ Hid (Below w10.heap.size w10 wp)) (fun _ s _ => m2 - (intOf s).toNat)
              case atStart => exact ⟨0, n, Nat.zero_le _, rfl, rfl, Lib.hid (by rw [HNK.out]; simp [sumB]), Lib.hid (Below.refl _ _)⟩
              case round =>
                clear HNN HNK HP
                obtain ⟨q, n, hq, rfl, rfl, HNN, HP⟩ := hrel
                by_cases hq1 : q < m2
                · have e3 : decide ((q : Int) < (m2 : Int)) = true := decide_eq_true (by omega)
                  have e4 : (0 : Int) ≤ (q : Int) := by omega
                  have e5 : (q : Int) < (m2 : Int) := by omega
                  have hqL : q < b6.backs.length := by have := HM.out.2; omega
                  obtain ⟨lb, lo, ea, y0, y1, _⟩ := bks_read (l := b6.backs) HM.out.2.symm hl10.out wr HP.out q hq1
                  obtain ⟨x, hx⟩ : ∃ x, x = b6.backs[q] := ⟨_, rfl⟩
                  rw [← hx] at y1
                  obtain ⟨n2, hn2⟩ : ∃ n2, n2 = n + x.n := ⟨_, rfl⟩
                  have hnx : n2 = fr + sumLeft b6.live + sumUsed b6.live + sumB (b6.backs.take (q + 1)) := by
                    rw [hn2, List.take_add_one, List.getElem?_eq_getElem hqL, sumB_append, HNN.out, hx]
                    simp [sumB]; omega
                  have hu := KU.out (q + 1)
                  have hall := HALL.out
                  have hkt := KT.out b6.live.length
                  have hlv := HX.out
                  have z2 : wrap64 (n + x.n) = n2 := by rw [← hn2]; exact IntWalk.wrap64_in _ (by omega)
                  have z3 : IntKind.i64.wrap (n + x.n) = n2 := by rw [← hn2]; exact IntWalk.i64_in _ (by omega)
                  have HN2 := Lib.hid hnx
                  subst ea
                  clear hx hnx hu hall hkt hlv hn2 y0 hqL
                  go_wp2_with fail
                  go_roundw
                  case rel => exact ⟨q + 1, n2, by omega, by first | rfl | rw [z2], by go_num, HN2, HP⟩
                  case measure => simp [intOf]; omega
                · have e3 : decide ((q : Int) < (m2 : Int)) = false := decide_eq_false (by omega)
                  have hnc : n = c := by rw [HNN.out, List.take_of_length_le (by have := HM.out.2; omega), HALL.out]
                  subst hnc
                  have HB11 : Hid (Below V.heap.size V wr) := Lib.hid (g6.out.trans ((hb10.out.trans (HP.out.mono hb10.out.size)).mono g6.out.size))
                  obtain ⟨k0, k1, k2⟩ := KE.out wr HB11.out
                  go_wp2_with fail
                  go_roundw
                  case rel => exact ⟨i + 1, now5, S6, b6, by omega, by have := HNB.out; omega, by have := HNB.out; push_cast; omega, rfl, by go_num, Lib.hid ((O.own _ _ _).later h6.out (hb10.out.trans (HP.out.mono hb10.out.size))), s6, HB11⟩
                  case measure => simp [intOf]; omega
        · have f3 : (kd == 3) = false := by simpa using q3
          by_cases q4 : kd = 4
          · subst q4
            go_upto_region 13 with (go_at_call 12; refine (O.use _ H S5 s b5 h5.out).mono ?_; rintro e w6 ⟨S6, rfl, h6', g6'⟩; have h6 := Lib.hid h6'; have g6' := Lib.hid (g6'.step g5.out.1 g5.out.2); have g6 := Lib.hid g6'.out.1; have s6 := Lib.hid g6'.out.2; have kk6 := KC.out _ (HBV.out.trans (g6.out.mono HBV.out.size)); clear h6' g6')
            obtain ⟨b6, hb6⟩ : ∃ b6', b6' = useB s.t b5 := ⟨_, rfl⟩
            rw [← hb6] at h6
            clear hb6 kk6 h5 g5 kk
            have HBD := Lib.hid (O.bd h6.out)
            have HX := Lib.hid (HBD.out.2.bounds)
            obtain ⟨m1, hm1⟩ : ∃ m, m = b6.live.length := ⟨_, rfl⟩
            obtain ⟨m2, hm2⟩ : ∃ m, m = b6.backs.length := ⟨_, rfl⟩
            have HM := Lib.hid (And.intro hm1 hm2)
            have hmb : m1 ≤ 1000 ∧ m2 ≤ 1000 := by have := HX.out.2.1; have := HX.out.2.2.1; rw [hsc] at *; omega
            obtain ⟨hmb1, hmb2⟩ := hmb
            have hb0 : 0 ≤ b6.free ∧ b6.free ≤ 1000 := by have := HBD.out.2.f0; have := HX.out.1; rw [hsc] at this; omega
            have KT := Lib.hid (fun k => sumLeft_take (l := b6.live) (fun x hx => ⟨(HBD.out.2.lv x hx).2.2.1, (HBD.out.2.lv x hx).2.2.2⟩) k)
            have KU := Lib.hid (fun k => sumB_take (l := b6.backs) (fun x hx => (HBD.out.2.bk x hx).2.2) k)
            have HALL : Hid (b6.free + sumLeft b6.live + sumUsed b6.live + sumB b6.backs = c) := Lib.hid (by rw [← hsc]; exact HBD.out.2.all)
            obtain ⟨fr, hfr⟩ : ∃ fr, fr = b6.free := ⟨_, rfl⟩
            have HFR := Lib.hid hfr
            rw [← hfr] at hb0 HALL
            clear hm1 hm2 hfr
            go_wp2_with (first
              | (go_at_call 23; have _z := hb7; refine (O.live _ H S6 s b6 ((O.own _ _ _).later h6.out hb7.out)).mono ?_; rintro e w8 ⟨a8, c8, rfl, l8', b8⟩; have l8 := l8'.wider (Nat.zero_le _) (Nat.le_refl _); clear l8'; rw [← HM.out.1] at l8; rw [← HM.out.1]; have hl8 := Lib.hid l8; have hb8 := Lib.hid (hb7.out.trans (b8.mono hb7.out.size)); clear l8 b8)
              | (go_at_call 22; refine (O.free _ H S6 s b6 h6.out).mono ?_; rintro e w7 ⟨rfl, b7⟩; rw [← HFR.out]; have hb7 := Lib.hid b7; clear b7)
              | fail "no arm")
            go_loopw [8, 10] (fun s8 s10 wp => ∃ (k : Nat) (n : Int), k ≤ m1 ∧ s8 = .int .i64 n ∧ s10 = .int .i64 k ∧ Hid (n = fr + sumLeft (b6.live.take k) + sumUsed (b6.live.take k)) ∧ Hid (Below w8.heap.size w8 wp)) (fun _ s _ => m1 - (intOf s).toNat)
            case atStart => exact ⟨0, fr, Nat.zero_le _, rfl, rfl, Lib.hid (by simp [sumLeft, sumUsed]), Lib.hid (Below.refl _ _)⟩
            case round =>
              obtain ⟨k, n, hk, rfl, rfl, HNN, HP⟩ := hrel
              by_cases hk1 : k < m1
              · have e0 : decide ((k : Int) < (m1 : Int)) = true := decide_eq_true (by omega)
                have e1 : (0 : Int) ≤ (k : Int) := by omega
                have e2 : (k : Int) < (m1 : Int) := by omega
                have hkL : k < b6.live.length := by have := HM.out.1; omega
                obtain ⟨lb, lo, ea, y0, y1, y2, _⟩ := wns_read (l := b6.live) HM.out.1.symm hl8.out wr HP.out k hk1
                obtain ⟨x, hx⟩ : ∃ x, x = b6.live[k] := ⟨_, rfl⟩
                rw [← hx] at y1 y2
                have hnx : n + x.len + x.part = fr + sumLeft (b6.live.take (k + 1)) + sumUsed (b6.live.take (k + 1)) := by
                  rw [List.take_add_one, List.getElem?_eq_getElem hkL, sumLeft_append, sumUsed_append, HNN.out, hx]
                  simp [sumLeft, sumUsed]; omega
                have hkt := KT.out (k + 1)
                have hkt0 := KT.out k
                have hall := HALL.out
                have hub := KU.out 0
                have hnn := HNN.out
                have hxl := HBD.out.2.lv _ (List.getElem_mem hkL)
                rw [← hx] at hxl
                have z1 : IntKind.i64.wrap (n + x.len) = n + x.len := IntWalk.i64_in _ (by omega)
                obtain ⟨n2, hn2⟩ : ∃ n2, n2 = n + x.len + x.part := ⟨_, rfl⟩
                have z2 : IntKind.i64.wrap (n + x.len + x.part) = n2 := by rw [hn2]; exact IntWalk.i64_in _ (by omega)
                have HN2 : Hid (n2 = fr + sumLeft (b6.live.take (k + 1)) + sumUsed (b6.live.take (k + 1))) := Lib.hid (by rw [hn2]; exact hnx)
                subst ea
                clear hx hnx hkt hkt0 hall hub hnn hxl hn2 y0 hkL
                go_wp2_with fail
                go_quiet (fail)
                go_wp2_with fail
                go_roundw
                case rel => exact ⟨k + 1, n2, by omega, rfl, by go_num, HN2, Lib.hid (below_drewC _ HP.out)⟩
                case measure => simp [intOf]; omega
              · have e0 : decide ((k : Int) < (m1 : Int)) = false := decide_eq_false (by omega)
                have HNK : Hid (n = fr + sumLeft b6.live + sumUsed b6.live) := Lib.hid (by rw [HNN.out, List.take_of_length_le (by have := HM.out.1; omega)])
                have HB9 : Hid (Below w6.heap.size w6 wr) := Lib.hid (hb8.out.trans (HP.out.mono hb8.out.size))
                obtain ⟨wq, hwq⟩ : ∃ wq, wq = wr := ⟨_, rfl⟩
                subst hwq
                go_wp2_with (first
                  | (go_at_call 24; refine (O.backs _ H S6 s b6 ((O.own _ _ _).later h6.out HB9.out)).mono ?_; rintro e w10 ⟨a10, c10, rfl, l10', b10⟩; have l10 := l10'.wider (Nat.zero_le _) (Nat.le_refl _); clear l10'; rw [← HM.out.2] at l10; rw [← HM.out.2]; have hl10 := Lib.hid l10; have hb10 := Lib.hid (HB9.out.trans (b10.mono HB9.out.size)); clear l10 b10)
                  | fail "no arm")
                go_loopw [8, 12] (fun s8 s12 wp => ∃ (q : Nat) (n : Int), q ≤ m2 ∧ s8 = .int .i64 n ∧ s12 = .int .i64 q ∧ Hid (n = fr + sumLeft b6.live + sumUsed b6.live + sumB (b6.backs.take q)) ∧ Hid (Below w10.heap.size w10 wp)) (fun _ s _ => m2 - (intOf s).toNat)
                case atStart => exact ⟨0, n, Nat.zero_le _, rfl, rfl, Lib.hid (by rw [HNK.out]; simp [sumB]), Lib.hid (Below.refl _ _)⟩
                case round =>
                  clear HNN HNK HP
                  obtain ⟨q, n, hq, rfl, rfl, HNN, HP⟩ := hrel
                  by_cases hq1 : q < m2
                  · have e3 : decide ((q : Int) < (m2 : Int)) = true := decide_eq_true (by omega)
                    have e4 : (0 : Int) ≤ (q : Int) := by omega
                    have e5 : (q : Int) < (m2 : Int) := by omega
                    have hqL : q < b6.backs.length := by have := HM.out.2; omega
                    obtain ⟨lb, lo, ea, y0, y1, _⟩ := bks_read (l := b6.backs) HM.out.2.symm hl10.out wr HP.out q hq1
                    obtain ⟨x, hx⟩ : ∃ x, x = b6.backs[q] := ⟨_, rfl⟩
                    rw [← hx] at y1
                    obtain ⟨n2, hn2⟩ : ∃ n2, n2 = n + x.n := ⟨_, rfl⟩
                    have hnx : n2 = fr + sumLeft b6.live + sumUsed b6.live + sumB (b6.backs.take (q + 1)) := by
                      rw [hn2, List.take_add_one, List.getElem?_eq_getElem hqL, sumB_append, HNN.out, hx]
                      simp [sumB]; omega
                    have hu := KU.out (q + 1)
                    have hall := HALL.out
                    have hkt := KT.out b6.live.length
                    have hlv := HX.out
                    have z2 : wrap64 (n + x.n) = n2 := by rw [← hn2]; exact IntWalk.wrap64_in _ (by omega)
                    have z3 : IntKind.i64.wrap (n + x.n) = n2 := by rw [← hn2]; exact IntWalk.i64_in _ (by omega)
                    have HN2 := Lib.hid hnx
                    subst ea
                    clear hx hnx hu hall hkt hlv hn2 y0 hqL
                    go_wp2_with fail
                    go_roundw
                    case rel => exact ⟨q + 1, n2, by omega, by first | rfl | rw [z2], by go_num, HN2, HP⟩
                    case measure => simp [intOf]; omega
                  · have e3 : decide ((q : Int) < (m2 : Int)) = false := decide_eq_false (by omega)
                    have hnc : n = c := by rw [HNN.out, List.take_of_length_le (by have := HM.out.2; omega), HALL.out]
                    subst hnc
                    have HB11 : Hid (Below V.heap.size V wr) := Lib.hid (g6.out.trans ((hb10.out.trans (HP.out.mono hb10.out.size)).mono g6.out.size))
                    obtain ⟨k0, k1, k2⟩ := KE.out wr HB11.out
                    go_wp2_with fail
                    go_roundw
                    case rel => exact ⟨i + 1, now5, S6, b6, by omega, by have := HNB.out; omega, by have := HNB.out; push_cast; omega, rfl, by go_num, Lib.hid ((O.own _ _ _).later h6.out (hb10.out.trans (HP.out.mono hb10.out.size))), s6, HB11⟩
                    case measure => simp [intOf]; omega
          · have f4 : (kd == 4) = false := by simpa using q4
            by_cases q8 : kd = 8
            · subst q8
              go_upto_region 13 with (go_at_call 18; refine (O.reset _ H S5 s b5 h5.out).mono ?_; rintro e w6 ⟨S6, rfl, h6', g6'⟩; have h6 := Lib.hid h6'; have g6' := Lib.hid (g6'.step g5.out.1 g5.out.2); have g6 := Lib.hid g6'.out.1; have s6 := Lib.hid g6'.out.2; have kk6 := KC.out _ (HBV.out.trans (g6.out.mono HBV.out.size)); clear h6' g6')
              obtain ⟨b6, hb6⟩ : ∃ b6', b6' = resetB s.c := ⟨_, rfl⟩
              rw [← hb6] at h6
              clear hb6 kk6 h5 g5 kk
              have HBD := Lib.hid (O.bd h6.out)
              have HX := Lib.hid (HBD.out.2.bounds)
              obtain ⟨m1, hm1⟩ : ∃ m, m = b6.live.length := ⟨_, rfl⟩
              obtain ⟨m2, hm2⟩ : ∃ m, m = b6.backs.length := ⟨_, rfl⟩
              have HM := Lib.hid (And.intro hm1 hm2)
              have hmb : m1 ≤ 1000 ∧ m2 ≤ 1000 := by have := HX.out.2.1; have := HX.out.2.2.1; rw [hsc] at *; omega
              obtain ⟨hmb1, hmb2⟩ := hmb
              have hb0 : 0 ≤ b6.free ∧ b6.free ≤ 1000 := by have := HBD.out.2.f0; have := HX.out.1; rw [hsc] at this; omega
              have KT := Lib.hid (fun k => sumLeft_take (l := b6.live) (fun x hx => ⟨(HBD.out.2.lv x hx).2.2.1, (HBD.out.2.lv x hx).2.2.2⟩) k)
              have KU := Lib.hid (fun k => sumB_take (l := b6.backs) (fun x hx => (HBD.out.2.bk x hx).2.2) k)
              have HALL : Hid (b6.free + sumLeft b6.live + sumUsed b6.live + sumB b6.backs = c) := Lib.hid (by rw [← hsc]; exact HBD.out.2.all)
              obtain ⟨fr, hfr⟩ : ∃ fr, fr = b6.free := ⟨_, rfl⟩
              have HFR := Lib.hid hfr
              rw [← hfr] at hb0 HALL
              clear hm1 hm2 hfr
              go_wp2_with (first
                | (go_at_call 23; have _z := hb7; refine (O.live _ H S6 s b6 ((O.own _ _ _).later h6.out hb7.out)).mono ?_; rintro e w8 ⟨a8, c8, rfl, l8', b8⟩; have l8 := l8'.wider (Nat.zero_le _) (Nat.le_refl _); clear l8'; rw [← HM.out.1] at l8; rw [← HM.out.1]; have hl8 := Lib.hid l8; have hb8 := Lib.hid (hb7.out.trans (b8.mono hb7.out.size)); clear l8 b8)
                | (go_at_call 22; refine (O.free _ H S6 s b6 h6.out).mono ?_; rintro e w7 ⟨rfl, b7⟩; rw [← HFR.out]; have hb7 := Lib.hid b7; clear b7)
                | fail "no arm")
              go_loopw [8, 10] (fun s8 s10 wp => ∃ (k : Nat) (n : Int), k ≤ m1 ∧ s8 = .int .i64 n ∧ s10 = .int .i64 k ∧ Hid (n = fr + sumLeft (b6.live.take k) + sumUsed (b6.live.take k)) ∧ Hid (Below w8.heap.size w8 wp)) (fun _ s _ => m1 - (intOf s).toNat)
              case atStart => exact ⟨0, fr, Nat.zero_le _, rfl, rfl, Lib.hid (by simp [sumLeft, sumUsed]), Lib.hid (Below.refl _ _)⟩
              case round =>
                obtain ⟨k, n, hk, rfl, rfl, HNN, HP⟩ := hrel
                by_cases hk1 : k < m1
                · have e0 : decide ((k : Int) < (m1 : Int)) = true := decide_eq_true (by omega)
                  have e1 : (0 : Int) ≤ (k : Int) := by omega
                  have e2 : (k : Int) < (m1 : Int) := by omega
                  have hkL : k < b6.live.length := by have := HM.out.1; omega
                  obtain ⟨lb, lo, ea, y0, y1, y2, _⟩ := wns_read (l := b6.live) HM.out.1.symm hl8.out wr HP.out k hk1
                  obtain ⟨x, hx⟩ : ∃ x, x = b6.live[k] := ⟨_, rfl⟩
                  rw [← hx] at y1 y2
                  have hnx : n + x.len + x.part = fr + sumLeft (b6.live.take (k + 1)) + sumUsed (b6.live.take (k + 1)) := by
                    rw [List.take_add_one, List.getElem?_eq_getElem hkL, sumLeft_append, sumUsed_append, HNN.out, hx]
                    simp [sumLeft, sumUsed]; omega
                  have hkt := KT.out (k + 1)
                  have hkt0 := KT.out k
                  have hall := HALL.out
                  have hub := KU.out 0
                  have hnn := HNN.out
                  have hxl := HBD.out.2.lv _ (List.getElem_mem hkL)
                  rw [← hx] at hxl
                  have z1 : IntKind.i64.wrap (n + x.len) = n + x.len := IntWalk.i64_in _ (by omega)
                  obtain ⟨n2, hn2⟩ : ∃ n2, n2 = n + x.len + x.part := ⟨_, rfl⟩
                  have z2 : IntKind.i64.wrap (n + x.len + x.part) = n2 := by rw [hn2]; exact IntWalk.i64_in _ (by omega)
                  have HN2 : Hid (n2 = fr + sumLeft (b6.live.take (k + 1)) + sumUsed (b6.live.take (k + 1))) := Lib.hid (by rw [hn2]; exact hnx)
                  subst ea
                  clear hx hnx hkt hkt0 hall hub hnn hxl hn2 y0 hkL
                  go_wp2_with fail
                  go_quiet (fail)
                  go_wp2_with fail
                  go_roundw
                  case rel => exact ⟨k + 1, n2, by omega, rfl, by go_num, HN2, Lib.hid (below_drewC _ HP.out)⟩
                  case measure => simp [intOf]; omega
                · have e0 : decide ((k : Int) < (m1 : Int)) = false := decide_eq_false (by omega)
                  have HNK : Hid (n = fr + sumLeft b6.live + sumUsed b6.live) := Lib.hid (by rw [HNN.out, List.take_of_length_le (by have := HM.out.1; omega)])
                  have HB9 : Hid (Below w6.heap.size w6 wr) := Lib.hid (hb8.out.trans (HP.out.mono hb8.out.size))
                  obtain ⟨wq, hwq⟩ : ∃ wq, wq = wr := ⟨_, rfl⟩
                  subst hwq
                  go_wp2_with (first
                    | (go_at_call 24; refine (O.backs _ H S6 s b6 ((O.own _ _ _).later h6.out HB9.out)).mono ?_; rintro e w10 ⟨a10, c10, rfl, l10', b10⟩; have l10 := l10'.wider (Nat.zero_le _) (Nat.le_refl _); clear l10'; rw [← HM.out.2] at l10; rw [← HM.out.2]; have hl10 := Lib.hid l10; have hb10 := Lib.hid (HB9.out.trans (b10.mono HB9.out.size)); clear l10 b10)
                    | fail "no arm")
                  go_loopw [8, 12] (fun s8 s12 wp => ∃ (q : Nat) (n : Int), q ≤ m2 ∧ s8 = .int .i64 n ∧ s12 = .int .i64 q ∧ Hid (n = fr + sumLeft b6.live + sumUsed b6.live + sumB (b6.backs.take q)) ∧ Hid (Below w10.heap.size w10 wp)) (fun _ s _ => m2 - (intOf s).toNat)
                  case atStart => exact ⟨0, n, Nat.zero_le _, rfl, rfl, Lib.hid (by rw [HNK.out]; simp [sumB]), Lib.hid (Below.refl _ _)⟩
                  case round =>
                    clear HNN HNK HP
                    obtain ⟨q, n, hq, rfl, rfl, HNN, HP⟩ := hrel
                    by_cases hq1 : q < m2
                    · have e3 : decide ((q : Int) < (m2 : Int)) = true := decide_eq_true (by omega)
                      have e4 : (0 : Int) ≤ (q : Int) := by omega
                      have e5 : (q : Int) < (m2 : Int) := by omega
                      have hqL : q < b6.backs.length := by have := HM.out.2; omega
                      obtain ⟨lb, lo, ea, y0, y1, _⟩ := bks_read (l := b6.backs) HM.out.2.symm hl10.out wr HP.out q hq1
                      obtain ⟨x, hx⟩ : ∃ x, x = b6.backs[q] := ⟨_, rfl⟩
                      rw [← hx] at y1
                      obtain ⟨n2, hn2⟩ : ∃ n2, n2 = n + x.n := ⟨_, rfl⟩
                      have hnx : n2 = fr + sumLeft b6.live + sumUsed b6.live + sumB (b6.backs.take (q + 1)) := by
                        rw [hn2, List.take_add_one, List.getElem?_eq_getElem hqL, sumB_append, HNN.out, hx]
                        simp [sumB]; omega
                      have hu := KU.out (q + 1)
                      have hall := HALL.out
                      have hkt := KT.out b6.live.length
                      have hlv := HX.out
                      have z2 : wrap64 (n + x.n) = n2 := by rw [← hn2]; exact IntWalk.wrap64_in _ (by omega)
                      have z3 : IntKind.i64.wrap (n + x.n) = n2 := by rw [← hn2]; exact IntWalk.i64_in _ (by omega)
                      have HN2 := Lib.hid hnx
                      subst ea
                      clear hx hnx hu hall hkt hlv hn2 y0 hqL
                      go_wp2_with fail
                      go_roundw
                      case rel => exact ⟨q + 1, n2, by omega, by first | rfl | rw [z2], by go_num, HN2, HP⟩
                      case measure => simp [intOf]; omega
                    · have e3 : decide ((q : Int) < (m2 : Int)) = false := decide_eq_false (by omega)
                      have hnc : n = c := by rw [HNN.out, List.take_of_length_le (by have := HM.out.2; omega), HALL.out]
                      subst hnc
                      have HB11 : Hid (Below V.heap.size V wr) := Lib.hid (g6.out.trans ((hb10.out.trans (HP.out.mono hb10.out.size)).mono g6.out.size))
                      obtain ⟨k0, k1, k2⟩ := KE.out wr HB11.out
                      go_wp2_with fail
                      go_roundw
                      case rel => exact ⟨i + 1, now5, S6, b6, by omega, by have := HNB.out; omega, by have := HNB.out; push_cast; omega, rfl, by go_num, Lib.hid ((O.own _ _ _).later h6.out (hb10.out.trans (HP.out.mono hb10.out.size))), s6, HB11⟩
                      case measure => simp [intOf]; omega
            · have f8 : (kd == 8) = false := by simpa using q8
              go_upto_region 13 with fail
              obtain ⟨S6, b6, w6, hw6, h6, s6, g6⟩ : ∃ (S6 : Nat → Prop) (b6 : Bd) (w6 : World), w6 = w5 ∧ Hid (O.Bg H s b6 w6 S6) ∧ Hid (∀ k, S6 k → V.heap.size ≤ k) ∧ Hid (Below V.heap.size V w6) := ⟨S5, b5, w5, rfl, h5, Lib.hid g5.out.2, Lib.hid g5.out.1⟩
              rw [← hw6]
              clear hw6 h5 g5 kk
              have HBD := Lib.hid (O.bd h6.out)
              have HX := Lib.hid (HBD.out.2.bounds)
              obtain ⟨m1, hm1⟩ : ∃ m, m = b6.live.length := ⟨_, rfl⟩
              obtain ⟨m2, hm2⟩ : ∃ m, m = b6.backs.length := ⟨_, rfl⟩
              have HM := Lib.hid (And.intro hm1 hm2)
              have hmb : m1 ≤ 1000 ∧ m2 ≤ 1000 := by have := HX.out.2.1; have := HX.out.2.2.1; rw [hsc] at *; omega
              obtain ⟨hmb1, hmb2⟩ := hmb
              have hb0 : 0 ≤ b6.free ∧ b6.free ≤ 1000 := by have := HBD.out.2.f0; have := HX.out.1; rw [hsc] at this; omega
              have KT := Lib.hid (fun k => sumLeft_take (l := b6.live) (fun x hx => ⟨(HBD.out.2.lv x hx).2.2.1, (HBD.out.2.lv x hx).2.2.2⟩) k)
              have KU := Lib.hid (fun k => sumB_take (l := b6.backs) (fun x hx => (HBD.out.2.bk x hx).2.2) k)
              have HALL : Hid (b6.free + sumLeft b6.live + sumUsed b6.live + sumB b6.backs = c) := Lib.hid (by rw [← hsc]; exact HBD.out.2.all)
              obtain ⟨fr, hfr⟩ : ∃ fr, fr = b6.free := ⟨_, rfl⟩
              have HFR := Lib.hid hfr
              rw [← hfr] at hb0 HALL
              clear hm1 hm2 hfr
              go_wp2_with (first
                | (go_at_call 23; have _z := hb7; refine (O.live _ H S6 s b6 ((O.own _ _ _).later h6.out hb7.out)).mono ?_; rintro e w8 ⟨a8, c8, rfl, l8', b8⟩; have l8 := l8'.wider (Nat.zero_le _) (Nat.le_refl _); clear l8'; rw [← HM.out.1] at l8; rw [← HM.out.1]; have hl8 := Lib.hid l8; have hb8 := Lib.hid (hb7.out.trans (b8.mono hb7.out.size)); clear l8 b8)
                | (go_at_call 22; refine (O.free _ H S6 s b6 h6.out).mono ?_; rintro e w7 ⟨rfl, b7⟩; rw [← HFR.out]; have hb7 := Lib.hid b7; clear b7)
                | fail "no arm")
              go_loopw [8, 10] (fun s8 s10 wp => ∃ (k : Nat) (n : Int), k ≤ m1 ∧ s8 = .int .i64 n ∧ s10 = .int .i64 k ∧ Hid (n = fr + sumLeft (b6.live.take k) + sumUsed (b6.live.take k)) ∧ Hid (Below w8.heap.size w8 wp)) (fun _ s _ => m1 - (intOf s).toNat)
              case atStart => exact ⟨0, fr, Nat.zero_le _, rfl, rfl, Lib.hid (by simp [sumLeft, sumUsed]), Lib.hid (Below.refl _ _)⟩
              case round =>
                obtain ⟨k, n, hk, rfl, rfl, HNN, HP⟩ := hrel
                by_cases hk1 : k < m1
                · have e0 : decide ((k : Int) < (m1 : Int)) = true := decide_eq_true (by omega)
                  have e1 : (0 : Int) ≤ (k : Int) := by omega
                  have e2 : (k : Int) < (m1 : Int) := by omega
                  have hkL : k < b6.live.length := by have := HM.out.1; omega
                  obtain ⟨lb, lo, ea, y0, y1, y2, _⟩ := wns_read (l := b6.live) HM.out.1.symm hl8.out wr HP.out k hk1
                  obtain ⟨x, hx⟩ : ∃ x, x = b6.live[k] := ⟨_, rfl⟩
                  rw [← hx] at y1 y2
                  have hnx : n + x.len + x.part = fr + sumLeft (b6.live.take (k + 1)) + sumUsed (b6.live.take (k + 1)) := by
                    rw [List.take_add_one, List.getElem?_eq_getElem hkL, sumLeft_append, sumUsed_append, HNN.out, hx]
                    simp [sumLeft, sumUsed]; omega
                  have hkt := KT.out (k + 1)
                  have hkt0 := KT.out k
                  have hall := HALL.out
                  have hub := KU.out 0
                  have hnn := HNN.out
                  have hxl := HBD.out.2.lv _ (List.getElem_mem hkL)
                  rw [← hx] at hxl
                  have z1 : IntKind.i64.wrap (n + x.len) = n + x.len := IntWalk.i64_in _ (by omega)
                  obtain ⟨n2, hn2⟩ : ∃ n2, n2 = n + x.len + x.part := ⟨_, rfl⟩
                  have z2 : IntKind.i64.wrap (n + x.len + x.part) = n2 := by rw [hn2]; exact IntWalk.i64_in _ (by omega)
                  have HN2 : Hid (n2 = fr + sumLeft (b6.live.take (k + 1)) + sumUsed (b6.live.take (k + 1))) := Lib.hid (by rw [hn2]; exact hnx)
                  subst ea
                  clear hx hnx hkt hkt0 hall hub hnn hxl hn2 y0 hkL
                  go_wp2_with fail
                  go_quiet (fail)
                  go_wp2_with fail
                  go_roundw
                  case rel => exact ⟨k + 1, n2, by omega, rfl, by go_num, HN2, Lib.hid (below_drewC _ HP.out)⟩
                  case measure => simp [intOf]; omega
                · have e0 : decide ((k : Int) < (m1 : Int)) = false := decide_eq_false (by omega)
                  have HNK : Hid (n = fr + sumLeft b6.live + sumUsed b6.live) := Lib.hid (by rw [HNN.out, List.take_of_length_le (by have := HM.out.1; omega)])
                  have HB9 : Hid (Below w6.heap.size w6 wr) := Lib.hid (hb8.out.trans (HP.out.mono hb8.out.size))
                  obtain ⟨wq, hwq⟩ : ∃ wq, wq = wr := ⟨_, rfl⟩
                  subst hwq
                  go_wp2_with (first
                    | (go_at_call 24; refine (O.backs _ H S6 s b6 ((O.own _ _ _).later h6.out HB9.out)).mono ?_; rintro e w10 ⟨a10, c10, rfl, l10', b10⟩; have l10 := l10'.wider (Nat.zero_le _) (Nat.le_refl _); clear l10'; rw [← HM.out.2] at l10; rw [← HM.out.2]; have hl10 := Lib.hid l10; have hb10 := Lib.hid (HB9.out.trans (b10.mono HB9.out.size)); clear l10 b10)
                    | fail "no arm")
                  go_loopw [8, 12] (fun s8 s12 wp => ∃ (q : Nat) (n : Int), q ≤ m2 ∧ s8 = .int .i64 n ∧ s12 = .int .i64 q ∧ Hid (n = fr + sumLeft b6.live + sumUsed b6.live + sumB (b6.backs.take q)) ∧ Hid (Below w10.heap.size w10 wp)) (fun _ s _ => m2 - (intOf s).toNat)
                  case atStart => exact ⟨0, n, Nat.zero_le _, rfl, rfl, Lib.hid (by rw [HNK.out]; simp [sumB]), Lib.hid (Below.refl _ _)⟩
                  case round =>
                    clear HNN HNK HP
                    obtain ⟨q, n, hq, rfl, rfl, HNN, HP⟩ := hrel
                    by_cases hq1 : q < m2
                    · have e3 : decide ((q : Int) < (m2 : Int)) = true := decide_eq_true (by omega)
                      have e4 : (0 : Int) ≤ (q : Int) := by omega
                      have e5 : (q : Int) < (m2 : Int) := by omega
                      have hqL : q < b6.backs.length := by have := HM.out.2; omega
                      obtain ⟨lb, lo, ea, y0, y1, _⟩ := bks_read (l := b6.backs) HM.out.2.symm hl10.out wr HP.out q hq1
                      obtain ⟨x, hx⟩ : ∃ x, x = b6.backs[q] := ⟨_, rfl⟩
                      rw [← hx] at y1
                      obtain ⟨n2, hn2⟩ : ∃ n2, n2 = n + x.n := ⟨_, rfl⟩
                      have hnx : n2 = fr + sumLeft b6.live + sumUsed b6.live + sumB (b6.backs.take (q + 1)) := by
                        rw [hn2, List.take_add_one, List.getElem?_eq_getElem hqL, sumB_append, HNN.out, hx]
                        simp [sumB]; omega
                      have hu := KU.out (q + 1)
                      have hall := HALL.out
                      have hkt := KT.out b6.live.length
                      have hlv := HX.out
                      have z2 : wrap64 (n + x.n) = n2 := by rw [← hn2]; exact IntWalk.wrap64_in _ (by omega)
                      have z3 : IntKind.i64.wrap (n + x.n) = n2 := by rw [← hn2]; exact IntWalk.i64_in _ (by omega)
                      have HN2 := Lib.hid hnx
                      subst ea
                      clear hx hnx hu hall hkt hlv hn2 y0 hqL
                      go_wp2_with fail
                      go_roundw
                      case rel => exact ⟨q + 1, n2, by omega, by first | rfl | rw [z2], by go_num, HN2, HP⟩
                      case measure => simp [intOf]; omega
                    · have e3 : decide ((q : Int) < (m2 : Int)) = false := decide_eq_false (by omega)
                      have hnc : n = c := by rw [HNN.out, List.take_of_length_le (by have := HM.out.2; omega), HALL.out]
                      subst hnc
                      have HB11 : Hid (Below V.heap.size V wr) := Lib.hid (g6.out.trans ((hb10.out.trans (HP.out.mono hb10.out.size)).mono g6.out.size))
                      obtain ⟨k0, k1, k2⟩ := KE.out wr HB11.out
                      go_wp2_with fail
                      go_roundw
                      case rel => exact ⟨i + 1, now5, S6, b6, by omega, by have := HNB.out; omega, by have := HNB.out; push_cast; omega, rfl, by go_num, Lib.hid ((O.own _ _ _).later h6.out (hb10.out.trans (HP.out.mono hb10.out.size))), s6, HB11⟩
                      case measure => simp [intOf]; omega
      · have d0 : decide ((i : Int) < (n1 : Int)) = false := decide_eq_false (by omega)
        go_wp2_with fail
        go_ret
        exact ⟨rfl, HBV.out.trans (HB.out.mono HBV.out.size)⟩
end Go.Proofs.Ytoofkeeoolgpdaa
