/- ChunkPlays, out of the contracts. -/
import Derived.Test.YtoofkeeoolgpdaaChunkW
import Derived.Test.YtoofkeeoolgpdaaChunkT
import Derived.Test.YtoofkeeoolgpdaaChunkV
import Derived.Deep.CutRange
import Derived.Deep.CutBlock
namespace Go.Proofs.Ytoofkeeoolgpdaa
open Go.ChangeShapes Go.WideShapes Go.ChangeAt Go.RowKit
set_option linter.unusedVariables false
set_option linter.unusedSimpArgs false

theorem live_nums {s : Sv} {b : Bd} (hs : okSv s = true) (h5 : BdOk s.c s.t 1099511627776 b) : ∀ x ∈ b.live, (0 ≤ x.at_ ∧ x.at_ ≤ 1099511627776) ∧ (1 ≤ x.len ∧ x.len ≤ 1000) ∧ (0 ≤ x.part ∧ x.part ≤ 1000) := by
  have h : 1 ≤ s.c ∧ s.c ≤ s.t ∧ s.t ≤ 1000 := by simpa [okSv] using hs
  have hb := h5.bounds
  have ha := h5.all
  have hf := h5.f0
  intro x hx
  have hl := h5.lv x hx
  obtain ⟨i, hi, rfl⟩ := List.getElem_of_mem hx
  have t1 := sumLeft_take (l := b.live) (fun y hy => ⟨(h5.lv y hy).2.2.1, (h5.lv y hy).2.2.2⟩) (i + 1)
  have t2 := sumLeft_take (l := b.live) (fun y hy => ⟨(h5.lv y hy).2.2.1, (h5.lv y hy).2.2.2⟩) i
  have e : b.live.take (i + 1) = b.live.take i ++ [b.live[i]] := by rw [List.take_add_one, List.getElem?_eq_getElem hi]; rfl
  rw [e, sumLeft_append, sumUsed_append] at t1
  have e1 : sumLeft [b.live[i]] = b.live[i].len := by simp [sumLeft]
  have e2 : sumUsed [b.live[i]] = b.live[i].part := by simp [sumUsed]
  rw [e1, e2] at t1
  exact ⟨⟨hl.1, hl.2.1⟩, ⟨hl.2.2.1, by omega⟩, ⟨hl.2.2.2, by omega⟩⟩
theorem rstop_at {w : World} {H : Nat} {s : Sv} {b : Bd} {R : Nat → Prop} (h : RgAt H s b w R) (v : Bool) : (w.cell? ⟨H, 6, none⟩ = some (.bool b.stop) ∧ w.frozen? ⟨H, 6, none⟩ = false) ∧ RgAt H s (stopB b v) (w.setCell ⟨H, 6, none⟩ (.bool v)) R ∧ GrowS R R w (w.setCell ⟨H, 6, none⟩ (.bool v)) := by
  obtain ⟨la, ea, lc, ec, hk, rfl⟩ := h
  have hB : But H w (w.setCell ⟨H, 6, none⟩ (.bool v)) := (But.refl H w).set 6 _
  exact ⟨⟨hk.c6, hk.fz 6⟩, ⟨la, ea, lc, ec, hk.boxed (set_at hk.box) (fun q hq hqn => hB.block q hq hqn), rfl⟩, grow_but hB (.inl rfl)⟩
set_option maxRecDepth 100000 in
set_option maxHeartbeats 16000000 in
theorem ChunkPlays_of (O : ChunkOk) (re : Bool) (c t : Int) (a1 : Option Addr) (n1 c1 : Nat) (w : World) (l1 : List Bk) (hn1 : l1.length = n1) (hl1 : Lies w 0 w.heap.size (.slice a1 n1 c1) n1 2 (l1.flatMap Bk.cells)) :
    Calls Try.prog 3 #[.agg #[.bool re, .int .i64 c, .int .i64 t], .slice a1 n1 c1] w fun e w' => e = .returned (.bool true) ∧ Below w.heap.size w w' := by
  obtain ⟨V, hV⟩ : ∃ V, V = w.alloc (.cells #[.bool re, .int .i64 c, .int .i64 t] 23) := ⟨_, rfl⟩
  obtain ⟨E, hE⟩ : ∃ E, E = w.heap.size := ⟨_, rfl⟩
  have hbV : Below w.heap.size w V := by rw [hV]; exact below1 _ _
  have hEV : V.heap[E]? = some (.cells #[.bool re, .int .i64 c, .int .i64 t] 23 (0, 0)) := by rw [hV, hE]; exact heap_alloc_new _ _
  have KE : Hid (∀ W, Below V.heap.size V W → W.cell? ⟨E, 0, none⟩ = some (.bool re) ∧ W.cell? ⟨E, 1, none⟩ = some (.int .i64 c) ∧ W.cell? ⟨E, 2, none⟩ = some (.int .i64 t)) := Lib.hid (fun W hW => by
    have := (hW.block E (lt_of_block hEV)).trans hEV
    exact ⟨cell_in this rfl, cell_in this rfl, cell_in this rfl⟩)
  have HV := Lib.hid hV
  have HE := Lib.hid hE
  have HBV := Lib.hid hbV
  have HK := Lib.hid (knows17_of O V)
  clear hV hE hEV hbV
  by_cases hbig : 150 < n1
  · have t0 : decide ((150 : Int) < (n1 : Int)) = true := decide_eq_true (by omega)
    clear hbig hn1 hl1
    go_enter Try.func3, Try.ntmps3
    go_upto_region 1 with fail
    rw [← HV.out, ← HE.out]
    go_wp2_with (go_at_call 7; refine HK.out.mono ?_; rintro e w3 ⟨rfl, hb3'⟩; have hb3 := Lib.hid hb3'; clear hb3')
    go_ret
    exact ⟨rfl, HBV.out.trans (hb3.out.mono HBV.out.size)⟩
  have t0 : decide ((150 : Int) < (n1 : Int)) = false := decide_eq_false (by omega)
  have hn150 : n1 ≤ 150 := by omega
  have KA : Hid (∀ i, i < n1 → ∃ (b off : Nat) (k nn : Int), a1 = some ⟨b, off, none⟩ ∧ ∀ Y, Below w.heap.size w Y → Y.cell? ⟨b, off + i * 2, none⟩ = some (.int .i64 k) ∧ Y.cell? ⟨b, off + i * 2 + 1, none⟩ = some (.int .i64 nn)) := Lib.hid (fun i hi => by
    obtain ⟨b, off, e, _, _, _⟩ := bks_read hn1 hl1 w (Below.refl _ _) i hi
    refine ⟨b, off, (l1[i]'(by omega)).at_, (l1[i]'(by omega)).n, e, fun Y hY => ?_⟩
    obtain ⟨b', off', e', c0, c1, _⟩ := bks_read hn1 hl1 Y hY i hi
    rw [e] at e'
    cases e'
    exact ⟨c0, c1⟩)
  clear hbig hn1 hl1
  obtain ⟨s, hs⟩ : ∃ s : Sv, s = ⟨re, c, t⟩ := ⟨_, rfl⟩
  have HSV := Lib.hid hs
  cases hok : okSv ⟨re, c, t⟩ with
  | false =>
    have HOK := Lib.hid hok
    have HN := Lib.hid (fun w => O.new_no re c t w hok)
    clear hok hs
    go_enter Try.func3, Try.ntmps3
    go_upto_region 1 with fail
    rw [← HV.out, ← HE.out]
    go_wp2_with (first
      | (go_at_call 9; have _z := b4; refine (rnew_any re c t w4).mono ?_; rintro e w5 ⟨h5, b5'⟩; rcases h5 with ⟨h5, _⟩ | ⟨_, rfl⟩; (rw [HOK.out] at h5; cases h5); have b5 := Lib.hid (b4.out.trans (b5'.mono b4.out.size)); clear b5')
      | (go_at_call 8; have _z := b3; refine (HN.out w3).mono ?_; rintro e w4 ⟨rfl, b4'⟩; have b4 := Lib.hid (b3.out.trans (b4'.mono b3.out.size)); obtain ⟨y0', y1', y2'⟩ := KE.out _ b4.out; clear b4')
      | (go_at_call 7; refine HK.out.mono ?_; rintro e w3 ⟨rfl, hb3'⟩; have b3 := Lib.hid hb3'; obtain ⟨y0, y1, y2⟩ := KE.out _ hb3'; clear hb3')
      | fail "no arm")
    go_loopw [7, 8] (fun s7 s8 wr => s7 = .int .i64 0 ∧ s8 = .int .i64 0 ∧ Hid (Below V.heap.size V wr)) (fun _ _ _ => 0)
    case atStart => exact ⟨rfl, rfl, b5⟩
    case round =>
      obtain ⟨rfl, rfl, HB⟩ := hrel
      by_cases h0 : 0 < n1
      · have d0 : decide ((0 : Int) < (n1 : Int)) = true := decide_eq_true (by omega)
        go_wp2_with fail
        go_ret
        exact ⟨rfl, HBV.out.trans (HB.out.mono HBV.out.size)⟩
      · have d0 : decide ((0 : Int) < (n1 : Int)) = false := decide_eq_false (by omega)
        go_wp2_with fail
        go_ret
        exact ⟨rfl, HBV.out.trans (HB.out.mono HBV.out.size)⟩
  | true =>
    have HOK := Lib.hid hok
    have HN := Lib.hid (fun w => O.new_yes re c t w hok)
    have HOS : Hid (okSv s = true) := Lib.hid (by rw [hs]; exact hok)
    clear hok hs
    go_enter Try.func3, Try.ntmps3
    go_upto_region 1 with fail
    rw [← HV.out, ← HE.out]
    go_wp2_with (first
      | (go_at_call 9; have _z := b4; refine (rnew_any re c t w4).mono ?_; rintro e w5 ⟨h5, b5'⟩; rcases h5 with ⟨_, rb, rfl, h5, r5⟩ | ⟨h5, _⟩; rotate_left; (rw [HOK.out] at h5; cases h5); have b5 := Lib.hid (b4.out.trans (b5'.mono b4.out.size)); have HR5 := Lib.hid (And.intro h5 (And.intro r5 b5')); clear b5' h5 r5)
      | (go_at_call 8; have _z := b3; refine (HN.out w3).mono ?_; rintro e w4 ⟨H, S4, rfl, h4, s4, b4'⟩; have b4 := Lib.hid (b3.out.trans (b4'.mono b3.out.size)); have HP4 := Lib.hid (And.intro h4 (And.intro s4 b4')); obtain ⟨y0', y1', y2'⟩ := KE.out _ b4.out; clear b4' h4 s4)
      | (go_at_call 7; refine HK.out.mono ?_; rintro e w3 ⟨rfl, hb3'⟩; have b3 := Lib.hid hb3'; obtain ⟨y0, y1, y2⟩ := KE.out _ hb3'; clear hb3')
      | fail "no arm")
    have T5 : Hid (Both w w5 (O.Bg H s (resetB c)) (RgAt rb s (resetB c)) S4 (Rl rb none none)) := Lib.hid (by
      have s3 := (HBV.out.trans (b3.out.mono HBV.out.size)).size
      obtain ⟨h4, s4, b4'⟩ := HP4.out
      obtain ⟨h5, r5, b5'⟩ := HR5.out
      have hlt := (O.own _ _ _).lt h4
      have hrb : ∀ k, Rl rb none none k → k = rb := by
        rintro k (h | h | h)
        · exact h
        · cases h
        · cases h
      have s4' := b4'.size
      rw [HSV.out]
      exact ⟨(O.own _ _ _).later h4 b5', h5, O.own _ _ _, rg_own _ _ _, fun k hk hr => by have := hlt k hk; have := hrb k hr; omega, fun k hk => by have := s4 k hk; omega, fun k hk => by have := hrb k hk; omega, HBV.out.trans (b5.out.mono HBV.out.size)⟩)
    clear HP4 HR5 HN b3 b4 b5 y0 y1 y2 y0' y1' y2' HK
    go_loopw [7, 8] (fun s7 s8 wr => ∃ (i : Nat) (now : Int) (b : Bd) (S R : Nat → Prop), i ≤ n1 ∧ 0 ≤ now ∧ now ≤ 1000 * (i : Int) ∧ s7 = .int .i64 now ∧ s8 = .int .i64 i ∧ Hid (Both w wr (O.Bg H s b) (RgAt rb s b) S R)) (fun _ s _ => n1 - (intOf s).toNat)
    case atStart => exact ⟨0, 0, _, _, _, by omega, by omega, by omega, rfl, rfl, T5⟩
    case round =>
      clear T5
      obtain ⟨i, now, b, S, R, hi, hn0, hnI, rfl, rfl, HT⟩ := hrel
      by_cases hlt : i < n1
      · have d0 : decide ((i : Int) < (n1 : Int)) = true := decide_eq_true (by omega)
        have d1 : (0 : Int) ≤ (i : Int) := by omega
        have d2 : (i : Int) < (n1 : Int) := by omega
        obtain ⟨ab, off, k, nn, rfl, hka⟩ := KA.out i hlt
        obtain ⟨z0, z1⟩ := hka wr HT.out.b
        have KK : Hid (∀ W, Below w.heap.size w W → W.cell? ⟨ab, off + i * 2, none⟩ = some (.int .i64 k)) := Lib.hid (fun W hW => (hka W hW).1)
        clear hka
        have HBD := Lib.hid (O.bd HT.out.h)
        have hcut := cutN_bd nn
        by_cases q0 : k = 0
        · subst q0
          go_upto_region 16 with fail
          go_cut [7] from 46 to 54 (fun s7 wx => s7 = .int .i64 (now + cutN nn) ∧ wx = wr)
          case first =>
            obtain ⟨cn, hcn⟩ : ∃ cn, cn = cutN nn := ⟨_, rfl⟩
            have HCN := Lib.hid hcn
            rcases (show (nn < 0 ∧ cn = 0) ∨ (0 ≤ nn ∧ nn ≤ 1000 ∧ cn = nn) ∨ (0 ≤ nn ∧ 1000 < nn ∧ cn = 1000) by unfold cutN at hcn; omega) with ⟨g1, g3⟩ | ⟨g1, g2, g3⟩ | ⟨g1, g2, g3⟩
            all_goals
              clear hcn
              have G3 := Lib.hid g3
              clear g3
              go_wp2_with fail
              go_meet
              case rel => exact ⟨by rw [← HCN.out, G3.out]; try go_num, rfl⟩
          case rest =>
            obtain ⟨rfl, hwc⟩ := hcut
            subst hwc
            go_wp2_with (first
              | (go_at_call 20; have _z := tB; refine (same17_of O _ H rb _ _ s _ tB.out.h tB.out.r).mono ?_; rintro e w9 ⟨rfl, b9'⟩; have t9 := Lib.hid (tB.out.later b9'); clear b9')
              | (go_at_call 11; have _z := tA; refine (rgo_any _ rb R s b (now + cutN nn) (decide ((0 : Int) < 2)) (by omega) (by omega) tA.out.r HBD.out.1 HBD.out.2).mono ?_; rintro e w8 ⟨R8, rfl, h8', g8'⟩; have tB := Lib.hid (tA.out.ref h8' g8' (rg_own _ _ _)); clear h8' g8')
              | (go_at_call 10; refine (O.go _ H S s b (now + cutN nn) (decide ((0 : Int) < 2)) (by omega) (by omega) HT.out.h).mono ?_; rintro e w7 ⟨S7, rfl, h7', g7'⟩; have tA := Lib.hid (HT.out.prog h7' g7' (O.own _ _ _)); have kk7 := KK.out _ tA.out.b; clear h7' g7')
              | fail "no arm")
            go_roundw
            case rel => exact ⟨i + 1, now + cutN nn, _, _, _, by omega, by omega, by omega, by first | rfl | go_num, by go_num, t9⟩
            case measure => simp [intOf]; omega
        have f0 : (k == 0) = false := by simpa using q0
        by_cases q1 : k = 1
        · subst q1
          go_upto_region 16 with fail
          go_cut [7] from 46 to 54 (fun s7 wx => s7 = .int .i64 (now + cutN nn) ∧ wx = wr)
          case first =>
            obtain ⟨cn, hcn⟩ : ∃ cn, cn = cutN nn := ⟨_, rfl⟩
            have HCN := Lib.hid hcn
            rcases (show (nn < 0 ∧ cn = 0) ∨ (0 ≤ nn ∧ nn ≤ 1000 ∧ cn = nn) ∨ (0 ≤ nn ∧ 1000 < nn ∧ cn = 1000) by unfold cutN at hcn; omega) with ⟨g1, g3⟩ | ⟨g1, g2, g3⟩ | ⟨g1, g2, g3⟩
            all_goals
              clear hcn
              have G3 := Lib.hid g3
              clear g3
              go_wp2_with fail
              go_meet
              case rel => exact ⟨by rw [← HCN.out, G3.out]; try go_num, rfl⟩
          case rest =>
            obtain ⟨rfl, hwc⟩ := hcut
            subst hwc
            go_wp2_with (first
              | (go_at_call 20; have _z := tB; refine (same17_of O _ H rb _ _ s _ tB.out.h tB.out.r).mono ?_; rintro e w9 ⟨rfl, b9'⟩; have t9 := Lib.hid (tB.out.later b9'); clear b9')
              | (go_at_call 11; have _z := tA; refine (rgo_any _ rb R s b (now + cutN nn) (decide ((1 : Int) < 2)) (by omega) (by omega) tA.out.r HBD.out.1 HBD.out.2).mono ?_; rintro e w8 ⟨R8, rfl, h8', g8'⟩; have tB := Lib.hid (tA.out.ref h8' g8' (rg_own _ _ _)); clear h8' g8')
              | (go_at_call 10; refine (O.go _ H S s b (now + cutN nn) (decide ((1 : Int) < 2)) (by omega) (by omega) HT.out.h).mono ?_; rintro e w7 ⟨S7, rfl, h7', g7'⟩; have tA := Lib.hid (HT.out.prog h7' g7' (O.own _ _ _)); have kk7 := KK.out _ tA.out.b; clear h7' g7')
              | fail "no arm")
            go_roundw
            case rel => exact ⟨i + 1, now + cutN nn, _, _, _, by omega, by omega, by omega, by first | rfl | go_num, by go_num, t9⟩
            case measure => simp [intOf]; omega
        have f1 : (k == 1) = false := by simpa using q1
        by_cases q2 : k = 2
        · subst q2
          go_upto_region 16 with fail
          go_cut [7] from 46 to 54 (fun s7 wx => s7 = .int .i64 (now + cutN nn) ∧ wx = wr)
          case first =>
            obtain ⟨cn, hcn⟩ : ∃ cn, cn = cutN nn := ⟨_, rfl⟩
            have HCN := Lib.hid hcn
            rcases (show (nn < 0 ∧ cn = 0) ∨ (0 ≤ nn ∧ nn ≤ 1000 ∧ cn = nn) ∨ (0 ≤ nn ∧ 1000 < nn ∧ cn = 1000) by unfold cutN at hcn; omega) with ⟨g1, g3⟩ | ⟨g1, g2, g3⟩ | ⟨g1, g2, g3⟩
            all_goals
              clear hcn
              have G3 := Lib.hid g3
              clear g3
              go_wp2_with fail
              go_meet
              case rel => exact ⟨by rw [← HCN.out, G3.out]; try go_num, rfl⟩
          case rest =>
            obtain ⟨rfl, hwc⟩ := hcut
            subst hwc
            go_wp2_with (first
              | (go_at_call 20; have _z := tB; refine (same17_of O _ H rb _ _ s _ tB.out.h tB.out.r).mono ?_; rintro e w9 ⟨rfl, b9'⟩; have t9 := Lib.hid (tB.out.later b9'); clear b9')
              | (go_at_call 11; have _z := tA; refine (rgo_any _ rb R s b (now + cutN nn) (decide ((2 : Int) < 2)) (by omega) (by omega) tA.out.r HBD.out.1 HBD.out.2).mono ?_; rintro e w8 ⟨R8, rfl, h8', g8'⟩; have tB := Lib.hid (tA.out.ref h8' g8' (rg_own _ _ _)); clear h8' g8')
              | (go_at_call 10; refine (O.go _ H S s b (now + cutN nn) (decide ((2 : Int) < 2)) (by omega) (by omega) HT.out.h).mono ?_; rintro e w7 ⟨S7, rfl, h7', g7'⟩; have tA := Lib.hid (HT.out.prog h7' g7' (O.own _ _ _)); have kk7 := KK.out _ tA.out.b; clear h7' g7')
              | fail "no arm")
            go_roundw
            case rel => exact ⟨i + 1, now + cutN nn, _, _, _, by omega, by omega, by omega, by first | rfl | go_num, by go_num, t9⟩
            case measure => simp [intOf]; omega
        have f2 : (k == 2) = false := by simpa using q2
        by_cases q3 : k = 3
        · subst q3
          go_wp2_with (first
            | (go_at_call 20; have _z := tB; refine (same17_of O _ H rb _ _ s _ tB.out.h tB.out.r).mono ?_; rintro e w9 ⟨rfl, b9'⟩; have t9 := Lib.hid (tB.out.later b9'); clear b9')
            | (go_at_call 13; have _z := tA; refine (ruse_any _ rb R s b tA.out.r HBD.out.1 HBD.out.2 (live_nums HBD.out.1 HBD.out.2)).mono ?_; rintro e w8 ⟨R8, rfl, h8', g8'⟩; have tB := Lib.hid (tA.out.ref h8' g8' (rg_own _ _ _)); clear h8' g8')
            | (go_at_call 12; refine (O.use _ H S s b HT.out.h).mono ?_; rintro e w7 ⟨S7, rfl, h7', g7'⟩; have tA := Lib.hid (HT.out.prog h7' g7' (O.own _ _ _)); have kk7 := KK.out _ tA.out.b; clear h7' g7')
            | fail "no arm")
          go_roundw
          case rel => exact ⟨i + 1, now, _, _, _, by omega, by omega, by omega, by first | rfl | go_num, by go_num, t9⟩
          case measure => simp [intOf]; omega
        have f3 : (k == 3) = false := by simpa using q3
        by_cases q4 : k = 4
        · subst q4
          go_wp2_with (first
            | (go_at_call 20; have _z := tB; refine (same17_of O _ H rb _ _ s _ tB.out.h tB.out.r).mono ?_; rintro e w9 ⟨rfl, b9'⟩; have t9 := Lib.hid (tB.out.later b9'); clear b9')
            | (go_at_call 13; have _z := tA; refine (ruse_any _ rb R s b tA.out.r HBD.out.1 HBD.out.2 (live_nums HBD.out.1 HBD.out.2)).mono ?_; rintro e w8 ⟨R8, rfl, h8', g8'⟩; have tB := Lib.hid (tA.out.ref h8' g8' (rg_own _ _ _)); clear h8' g8')
            | (go_at_call 12; refine (O.use _ H S s b HT.out.h).mono ?_; rintro e w7 ⟨S7, rfl, h7', g7'⟩; have tA := Lib.hid (HT.out.prog h7' g7' (O.own _ _ _)); have kk7 := KK.out _ tA.out.b; clear h7' g7')
            | fail "no arm")
          go_roundw
          case rel => exact ⟨i + 1, now, _, _, _, by omega, by omega, by omega, by first | rfl | go_num, by go_num, t9⟩
          case measure => simp [intOf]; omega
        have f4 : (k == 4) = false := by simpa using q4
        by_cases q5 : k = 5
        · subst q5
          go_wp2_with (first
            | (go_at_call 20; have _z := tB; refine (same17_of O _ H rb _ _ s _ tB.out.h tB.out.r).mono ?_; rintro e w9 ⟨rfl, b9'⟩; have t9 := Lib.hid (tB.out.later b9'); clear b9')
            | (go_at_call 15; have _z := tA; refine (rdone_any _ rb R s b tA.out.r HBD.out.1 HBD.out.2 (live_nums HBD.out.1 HBD.out.2)).mono ?_; rintro e w8 ⟨R8, rfl, h8', g8'⟩; have tB := Lib.hid (tA.out.ref h8' g8' (rg_own _ _ _)); clear h8' g8')
            | (go_at_call 14; refine (O.done_ _ H S s b HT.out.h).mono ?_; rintro e w7 ⟨S7, rfl, h7', g7'⟩; have tA := Lib.hid (HT.out.prog h7' g7' (O.own _ _ _)); have kk7 := KK.out _ tA.out.b; clear h7' g7')
            | fail "no arm")
          go_roundw
          case rel => exact ⟨i + 1, now, _, _, _, by omega, by omega, by omega, by first | rfl | go_num, by go_num, t9⟩
          case measure => simp [intOf]; omega
        have f5 : (k == 5) = false := by simpa using q5
        by_cases q6 : k = 6
        · subst q6
          go_wp2_with (first
            | (go_at_call 20; have _z := tB; refine (same17_of O _ H rb _ _ s _ tB.out.h tB.out.r).mono ?_; rintro e w9 ⟨rfl, b9'⟩; have t9 := Lib.hid (tB.out.later b9'); clear b9')
            | (go_at_call 15; have _z := tA; refine (rdone_any _ rb R s b tA.out.r HBD.out.1 HBD.out.2 (live_nums HBD.out.1 HBD.out.2)).mono ?_; rintro e w8 ⟨R8, rfl, h8', g8'⟩; obtain ⟨⟨k6, f6⟩, r6, g6⟩ := rstop_at h8' true; have tB := Lib.hid (tA.out.ref r6 (g8'.trans g6) (rg_own _ _ _)); clear r6 g6; clear h8' g8')
            | (go_at_call 16; refine (O.stop _ H S s b HT.out.h).mono ?_; rintro e w7 ⟨S7, rfl, h7', g7'⟩; have tA := Lib.hid (HT.out.prog h7' g7' (O.own _ _ _)); have kk7 := KK.out _ tA.out.b; clear h7' g7')
            | fail "no arm")
          go_roundw
          case rel => exact ⟨i + 1, now, _, _, _, by omega, by omega, by omega, by first | rfl | go_num, by go_num, t9⟩
          case measure => simp [intOf]; omega
        have f6 : (k == 6) = false := by simpa using q6
        by_cases q7 : k = 7
        · subst q7
          go_wp2_with (first
            | (go_at_call 20; have _z := tB; refine (same17_of O _ H rb _ _ s _ tB.out.h tB.out.r).mono ?_; rintro e w9 ⟨rfl, b9'⟩; have t9 := Lib.hid (tB.out.later b9'); clear b9')
            | (go_at_call 17; refine (O.resume _ H S s b HT.out.h).mono ?_; rintro e w7 ⟨S7, rfl, h7', g7'⟩; have tA := Lib.hid (HT.out.prog h7' g7' (O.own _ _ _)); have kk7 := KK.out _ tA.out.b; obtain ⟨⟨k6, f6⟩, r6, g6⟩ := rstop_at tA.out.r false; have tB := Lib.hid (tA.out.ref r6 g6 (rg_own _ _ _)); clear r6 g6; clear h7' g7')
            | fail "no arm")
          go_roundw
          case rel => exact ⟨i + 1, now, _, _, _, by omega, by omega, by omega, by first | rfl | go_num, by go_num, t9⟩
          case measure => simp [intOf]; omega
        have f7 : (k == 7) = false := by simpa using q7
        by_cases q8 : k = 8
        · subst q8
          go_wp2_with (first
            | (go_at_call 20; have _z := tB; refine (same17_of O _ H rb _ _ s _ tB.out.h tB.out.r).mono ?_; rintro e w9 ⟨rfl, b9'⟩; have t9 := Lib.hid (tB.out.later b9'); clear b9')
            | (go_at_call 19; have _z := tA; refine (rreset_any _ rb R s b tA.out.r).mono ?_; rintro e w8 ⟨R8, rfl, h8', g8'⟩; have tB := Lib.hid (tA.out.ref h8' g8' (rg_own _ _ _)); clear h8' g8')
            | (go_at_call 18; refine (O.reset _ H S s b HT.out.h).mono ?_; rintro e w7 ⟨S7, rfl, h7', g7'⟩; have tA := Lib.hid (HT.out.prog h7' g7' (O.own _ _ _)); have kk7 := KK.out _ tA.out.b; clear h7' g7')
            | fail "no arm")
          go_roundw
          case rel => exact ⟨i + 1, now, _, _, _, by omega, by omega, by omega, by first | rfl | go_num, by go_num, t9⟩
          case measure => simp [intOf]; omega
        have f8 : (k == 8) = false := by simpa using q8
        have tB := HT
        go_wp2_with (first
          | (go_at_call 20; have _z := tB; refine (same17_of O _ H rb _ _ s _ tB.out.h tB.out.r).mono ?_; rintro e w9 ⟨rfl, b9'⟩; have t9 := Lib.hid (tB.out.later b9'); clear b9')
          | fail "no arm")
        go_roundw
        case rel => exact ⟨i + 1, now, _, _, _, by omega, by omega, by omega, by first | rfl | go_num, by go_num, t9⟩
        case measure => simp [intOf]; omega
      · have d0 : decide ((i : Int) < (n1 : Int)) = false := decide_eq_false (by omega)
        go_wp2_with fail
        go_ret
        exact ⟨rfl, HT.out.b⟩
end Go.Proofs.Ytoofkeeoolgpdaa
