/- PoliceApart, out of the contracts. -/
import Derived.Test.YtackgfjgephhoaaPolC
import Derived.Deep.CutRange
import Derived.Deep.CutBlock
namespace Go.Proofs.Ytackgfjgephhoaa
open Go.ChangeShapes Go.WideShapes Go.ChangeAt Go.RowKit
set_option linter.unusedVariables false

/-- When the one task was accepted last. -/
def laOne (had : Bool) (lst : Int) : List Int := [if had = true then lst else -1]
theorem laOne_none (lst : Int) : laOne false lst = [-1] := rfl
theorem laOne_some (lst : Int) : laOne true lst = [lst] := rfl
def fineV (x : Tk) (high had : Bool) (lst now : Int) : Bool := (!had || decide (x.t ≤ now - lst)) && (x.hi || !high)
theorem apart_err {x : Tk} {high had : Bool} {lst now : Int} (h0 : 0 ≤ now) (h1 : now ≤ 4611686018427387904) (hl : 0 ≤ lst) : (fineV x high had lst now = true → errP [x] (laOne had lst) high 0 now = 0 ∧ takL [x] (laOne had lst) high 0 now = laOne true now) ∧ (fineV x high had lst now = false → errP [x] (laOne had lst) high 0 now ≠ 0 ∧ takL [x] (laOne had lst) high 0 now = laOne had lst) := by
  have hno : nowOk now = true := by unfold nowOk; rw [decide_eq_true h0, decide_eq_true h1]; rfl
  have hin : (0 : Nat) < [x].length := by simp
  have hdr : dropV [x] high ((0 : Nat) : Int) = (high && !x.hi) := dropV_nat (ts := [x]) (hi := high) hin
  have hla : laAt (laOne had lst) 0 = if had = true then lst else -1 := rfl
  have ht : (tkAt [x] 0).t = x.t := rfl
  have key : ∀ e, errP [x] (laOne had lst) high ((0 : Nat) : Int) now = e → errP [x] (laOne had lst) high 0 now = e := fun e h => h
  constructor
  · intro hf
    simp only [fineV, Bool.and_eq_true, Bool.or_eq_true, Bool.not_eq_true', decide_eq_true_eq] at hf
    have h2 : errP [x] (laOne had lst) high 0 now = 0 := key _ (errP_ok hin hno (by rw [hdr]; rcases hf.2 with h | h <;> simp [h]) (by
      rw [hla, ht]
      rcases hf.1 with h | h
      · rw [h]; intro h3; exact absurd h3 (by simp)
      · split
        · intro _; omega
        · intro h3; exact absurd h3 (by decide)))
    exact ⟨h2, by unfold takL; rw [if_pos h2]; rfl⟩
  · intro hf
    have h2 : errP [x] (laOne had lst) high 0 now ≠ 0 := by
      cases hd : high && !x.hi with
      | true =>
        rw [key 42 (errP_drop (inT_t hin) hno (by rw [hdr]; exact hd))]; decide
      | false =>
        have hd2 : (x.hi || !high) = true := by
          cases high <;> cases hx : x.hi <;> simp_all
        simp only [fineV, hd2, Bool.and_true, Bool.or_eq_false_iff, Bool.not_eq_false', decide_eq_false_iff_not] at hf
        rw [key 40 (errP_soon hin hno (by rw [hdr]; exact hd) (by rw [hla, if_pos hf.1]; exact hl) (by rw [hla, if_pos hf.1, ht]; omega))]; decide
    exact ⟨h2, by unfold takL; rw [if_neg h2]⟩
set_option maxRecDepth 100000 in
set_option maxHeartbeats 8000000 in
theorem PoliceApart_of (O : PoliceOk) (x0 : Bool) (x1 x2 x3 x4 x5 : Int) (a1 : Option Addr) (n1 c1 : Nat) (high : Bool) (w : World) (l1 : List Int) (hx : Tk.In ⟨x0, x1, x2, x3, x4, x5⟩) (hn1 : l1.length = n1) (hl1 : Lies w 0 w.heap.size (.slice a1 n1 c1) n1 1 (l1.flatMap intCells)) (hi1 : ∀ x ∈ l1, I64 x) :
    Calls Try.prog 4 #[.agg #[.bool x0, .int .i64 x1, .int .i64 x2, .int .i64 x3, .int .i64 x4, .int .i64 x5], .slice a1 n1 c1, .bool high] w fun e w' => e = .returned (.bool true) ∧ Below w.heap.size w w' := by
  obtain ⟨V, hV⟩ : ∃ V, V = (w.alloc (.cells #[.bool x0, .int .i64 x1, .int .i64 x2, .int .i64 x3, .int .i64 x4, .int .i64 x5] 44)).alloc (.cells #[.bool x0, .int .i64 x1, .int .i64 x2, .int .i64 x3, .int .i64 x4, .int .i64 x5] 45) := ⟨_, rfl⟩
  obtain ⟨E, hE⟩ : ∃ E, E = w.heap.size := ⟨_, rfl⟩
  obtain ⟨G, hG⟩ : ∃ G, G = w.heap.size + 1 := ⟨_, rfl⟩
  have hbV : Below w.heap.size w V := by rw [hV]; exact b_alloc (below1 _ _) (Nat.le_refl _) _
  have hEV : V.heap[E]? = some (.cells #[.bool x0, .int .i64 x1, .int .i64 x2, .int .i64 x3, .int .i64 x4, .int .i64 x5] 44 (0, 0)) := by rw [hV, hE]; exact (Below.heap_alloc _ _ _ (by simp)).trans (heap_alloc_new _ _)
  have hGV : V.heap[G]? = some (.cells #[.bool x0, .int .i64 x1, .int .i64 x2, .int .i64 x3, .int .i64 x4, .int .i64 x5] 45 (0, 0)) := by rw [hV, hG]; have := heap_alloc_new (w.alloc (.cells #[.bool x0, .int .i64 x1, .int .i64 x2, .int .i64 x3, .int .i64 x4, .int .i64 x5] 44)) (.cells #[.bool x0, .int .i64 x1, .int .i64 x2, .int .i64 x3, .int .i64 x4, .int .i64 x5] 45 (0, 0)); simpa using this
  have HBV := Lib.hid hbV
  have KE : Hid (∀ Y, Below V.heap.size V Y → Y.cell? ⟨E, 0, none⟩ = some (.bool x0) ∧ Y.cell? ⟨E, 1, none⟩ = some (.int .i64 x1)) := Lib.hid (fun Y hY => ⟨cell_in ((hY.block _ (lt_of_block hEV)).trans hEV) rfl, cell_in ((hY.block _ (lt_of_block hEV)).trans hEV) rfl⟩)
  have KG : Hid (∀ Y, Below V.heap.size V Y → Y.cell? ⟨G, 0, none⟩ = some (.bool x0) ∧ Y.cell? ⟨G, 1, none⟩ = some (.int .i64 x1) ∧ Y.cell? ⟨G, 2, none⟩ = some (.int .i64 x2) ∧ Y.cell? ⟨G, 3, none⟩ = some (.int .i64 x3) ∧ Y.cell? ⟨G, 4, none⟩ = some (.int .i64 x4) ∧ Y.cell? ⟨G, 5, none⟩ = some (.int .i64 x5)) := Lib.hid (fun Y hY => by
    have := (hY.block _ (lt_of_block hGV)).trans hGV
    exact ⟨cell_in this rfl, cell_in this rfl, cell_in this rfl, cell_in this rfl, cell_in this rfl, cell_in this rfl⟩)
  have HV := Lib.hid hV
  have HE := Lib.hid hE
  have HG := Lib.hid hG
  have KA : Hid (∀ Y, Below w.heap.size w Y → ∀ i, i < n1 → ∃ b off x, a1 = some ⟨b, off, none⟩ ∧ Y.cell? ⟨b, off + i, none⟩ = some (.int .i64 x)) := Lib.hid (fun Y hY i hi => by
    obtain ⟨a', c', e, _, _, hc⟩ := hl1.keep (SameIn.of_below hY (Nat.le_refl _))
    cases e
    rcases hc with h0 | ⟨b, off, rfl, _, _, hc⟩
    · omega
    · have f := flat_at intCells 1 (fun _ => rfl) l1 i 0 _ (List.getElem?_eq_getElem (by omega)) (by omega)
      rw [show i * 1 + 0 = i by omega] at f
      exact ⟨b, off, _, rfl, hc i _ f⟩)
  have HIN := Lib.hid hx
  clear hV hE hG hbV hEV hGV hl1 hi1 hx hn1
  cases hok : okTk ⟨x0, x1, x2, x3, x4, x5⟩ with
  | false =>
    have HOK := Lib.hid hok
    clear hok
    go_enter Try.func4, Try.ntmps4
    go_upto_region 2 with fail
    rw [← HV.out, ← HG.out, ← HE.out]
    obtain ⟨q0, q1, q2, q3, q4, q5⟩ := KG.out V (Below.refl _ _)
    go_wp2_with (first
      | (go_at_call 6; have _z := hb3; refine (knows16_of O _).mono ?_; rintro e w4 ⟨rfl, b4⟩; have hb4 := Lib.hid (hb3.out.trans (b4.mono hb3.out.size)); clear b4)
      | (go_at_call 18; refine (taskRight_any _ _ _ _ _ _ _).mono ?_; rintro e w3 ⟨rfl, b3⟩; rw [HOK.out]; have hb3 := Lib.hid b3; clear b3)
      | fail "no arm")
    go_ret
    exact ⟨rfl, HBV.out.trans (hb4.out.mono HBV.out.size)⟩
  | true =>
    have HOK := Lib.hid hok
    clear hok
    by_cases hbig : 200 < n1
    · have t0 : decide ((200 : Int) < (n1 : Int)) = true := decide_eq_true (by omega)
      go_enter Try.func4, Try.ntmps4
      go_upto_region 2 with fail
      rw [← HV.out, ← HG.out, ← HE.out]
      obtain ⟨q0, q1, q2, q3, q4, q5⟩ := KG.out V (Below.refl _ _)
      go_wp2_with (first
        | (go_at_call 6; have _z := hb3; refine (knows16_of O _).mono ?_; rintro e w4 ⟨rfl, b4⟩; have hb4 := Lib.hid (hb3.out.trans (b4.mono hb3.out.size)); clear b4)
        | (go_at_call 18; refine (taskRight_any _ _ _ _ _ _ _).mono ?_; rintro e w3 ⟨rfl, b3⟩; rw [HOK.out]; have hb3 := Lib.hid b3; clear b3)
        | fail "no arm")
      go_ret
      exact ⟨rfl, HBV.out.trans (hb4.out.mono HBV.out.size)⟩
    · have s0 : n1 ≤ 200 := by omega
      have t0 : decide ((200 : Int) < (n1 : Int)) = false := decide_eq_false (by omega)
      have HN : Hid (∀ W : World, Calls Try.prog 19 #[.slice (some ⟨W.heap.size, 0, none⟩) 1 1] (W.alloc (.cells #[.bool x0, .int .i64 x1, .int .i64 x2, .int .i64 x3, .int .i64 x4, .int .i64 x5] 45)) fun e w' => (∃ H S, e = .returned (.pointer (some ⟨H, 0, none⟩)) ∧ O.Pl H [⟨x0, x1, x2, x3, x4, x5⟩] (List.replicate 1 (-1)) false w' S ∧ ∀ k, S k → W.heap.size ≤ k) ∧ Below W.heap.size W w') := Lib.hid (fun W => by
        refine (O.new (W.alloc (.cells #[.bool x0, .int .i64 x1, .int .i64 x2, .int .i64 x3, .int .i64 x4, .int .i64 x5] 45)) (some ⟨W.heap.size, 0, none⟩) 1 1 [⟨x0, x1, x2, x3, x4, x5⟩] rfl ((one_lies (heap_alloc_new _ _) rfl).wider (Nat.zero_le _) (by simp)) (by intro x hx; rw [List.mem_singleton.1 hx]; exact HIN.out)).mono ?_
        rintro e w' ⟨h1, _, h3⟩
        obtain ⟨H, S, e1, p1, p2⟩ := h1 (by unfold okN; rw [List.all_cons, HOK.out]; rfl)
        exact ⟨⟨H, S, e1, p1, fun k hk => by have := p2 k hk; simp at this; omega⟩, (below1 _ _).trans (h3.mono (by simp))⟩)
      clear hbig
      go_enter Try.func4, Try.ntmps4
      go_upto_region 2 with fail
      rw [← HV.out, ← HG.out, ← HE.out]
      obtain ⟨q0, q1, q2, q3, q4, q5⟩ := KG.out V (Below.refl _ _)
      go_wp2_with (first
        | (go_at_call 14; have _z := h5; refine (O.drop _ H S5 [⟨x0, x1, x2, x3, x4, x5⟩] [-1] false high h5.out).mono ?_; rintro e w6 ⟨S6, rfl, h6', g6'⟩; have h6 := Lib.hid h6'; have g6 := Lib.hid (g6'.step g5.out.1 g5.out.2); clear h6' g6')
        | (go_at_call 19; have _z := hb4; refine (HN.out w4).mono ?_; rintro e w5 ⟨⟨H, S5, rfl, p1, p2⟩, b5⟩; have h5 := Lib.hid p1; have g5 := Lib.hid (And.intro (hb4.out.trans (b5.mono hb4.out.size)) (fun k hk => Nat.le_trans hb4.out.size (p2 k hk))); clear p1 p2 b5)
        | (go_at_call 6; have _z := hb3; refine (knows16_of O _).mono ?_; rintro e w4 ⟨rfl, b4⟩; have hb4 := Lib.hid (hb3.out.trans (b4.mono hb3.out.size)); obtain ⟨r0, r1, r2, r3, r4, r5⟩ := KG.out w4 hb4.out; clear b4)
        | (go_at_call 18; refine (taskRight_any _ _ _ _ _ _ _).mono ?_; rintro e w3 ⟨rfl, b3⟩; rw [HOK.out]; have hb3 := Lib.hid b3; clear b3)
        | fail "no arm")
      have h6v : Hid (O.Pl H [⟨x0, x1, x2, x3, x4, x5⟩] (laOne false 0) high w6 S6) := h6
      go_loopw [9, 10, 11] (fun s9 s10 s11 wr => ∃ (i : Nat) (had : Bool) (lst : Int) (S : Nat → Prop), i ≤ n1 ∧ 0 ≤ lst ∧ lst ≤ 4611686018427387904 ∧ s9 = .bool had ∧ s10 = .int .i64 lst ∧ s11 = .int .i64 i ∧ Hid (O.Pl H [⟨x0, x1, x2, x3, x4, x5⟩] (laOne had lst) high wr S) ∧ Hid (∀ k, S k → V.heap.size ≤ k) ∧ Hid (Below V.heap.size V wr)) (fun _ _ s _ => n1 - (intOf s).toNat)
      case atStart => exact ⟨0, false, 0, S6, Nat.zero_le _, by decide, by decide, rfl, rfl, rfl, h6v, Lib.hid g6.out.2, Lib.hid g6.out.1⟩
      case round =>
        clear h6 g6 h5 g5 hb4 hb3 h6v
        obtain ⟨i, had, lst, S, hi, hl0, hl2, rfl, rfl, rfl, HR, HS, HB⟩ := hrel
        by_cases hlt : i < n1
        · have d0 : decide ((i : Int) < (n1 : Int)) = true := decide_eq_true (by omega)
          have d1 : (0 : Int) ≤ (i : Int) := by omega
          have d2 : (i : Int) < (n1 : Int) := by omega
          obtain ⟨b, off, y, rfl, q⟩ := KA.out wr (HBV.out.trans (HB.out.mono HBV.out.size)) i hlt
          obtain ⟨now, hnow⟩ : ∃ now, now = min (max y 0) 4611686018427387904 := ⟨_, rfl⟩
          have h0 : 0 ≤ now := by omega
          have h1 : now ≤ 4611686018427387904 := by omega
          have HNW := Lib.hid hnow
          clear hnow
          obtain ⟨wz, hwz⟩ : ∃ wz, wz = wr := ⟨_, rfl⟩
          subst hwz
          go_upto_region 11 with fail
          go_cut [12] from 41 to 46 (fun s wx => s = .int .i64 now ∧ wx = wz)
          case first =>
            have hnow := HNW.out
            rcases (show (y < 0 ∧ now = 0) ∨ (0 ≤ y ∧ y ≤ 4611686018427387904 ∧ now = y) ∨ (0 ≤ y ∧ 4611686018427387904 < y ∧ now = 4611686018427387904) by omega) with ⟨g1, g3⟩ | ⟨g1, g2, g3⟩ | ⟨g1, g2, g3⟩
            all_goals
              clear hnow
              have G3 := Lib.hid g3
              clear g3
              go_wp2_with fail
              go_meet
              case rel => exact ⟨by rw [G3.out], rfl⟩
          case rest =>
            obtain ⟨rfl, hwc⟩ := hcut
            subst hwc
            clear q
            cases had with
            | false =>
              cases x0 <;> cases high
              · have HF := Lib.hid ((apart_err (x := ⟨false, x1, x2, x3, x4, x5⟩) (high := false) (had := false) h0 h1 hl0).1 (by unfold fineV; simp))
                go_wp2_with (first
                  | (go_at_call 9; have _z := h5; refine (num16_any _ _).mono ?_; rintro e w20 ⟨rfl, hw20⟩; rw [hw20]; clear hw20)
                  | (go_at_call 10; refine (O.take _ H S [⟨false, x1, x2, x3, x4, x5⟩] (laOne false lst) false 0 now HR.out).mono ?_; rintro e w5 ⟨S5, rfl, h5', g5'⟩; rw [HF.out.2] at h5'; rw [HF.out.1]; have h5 := Lib.hid h5'; have g5 := Lib.hid (g5'.step HB.out HS.out); obtain ⟨k0, k1⟩ := KE.out _ g5.out.1; clear h5' g5')
                  | fail "no arm")
                go_roundw
                case rel => exact ⟨i + 1, true, now, S5, by omega, h0, h1, rfl, rfl, by go_num, h5, Lib.hid g5.out.2, Lib.hid g5.out.1⟩
                case measure => simp [intOf]; omega
              · obtain ⟨ev, hev⟩ : ∃ ev, ev = errP [⟨false, x1, x2, x3, x4, x5⟩] (laOne false lst) true 0 now := ⟨_, rfl⟩
                have HF := Lib.hid ((apart_err (x := ⟨false, x1, x2, x3, x4, x5⟩) (high := true) (had := false) h0 h1 hl0).2 (by unfold fineV; simp))
                have hev0 : (ev == 0) = false := by rw [hev]; simpa using HF.out.1
                have HEV := Lib.hid hev
                clear hev
                go_wp2_with (first
                  | (go_at_call 9; have _z := h5; refine (num16_any _ _).mono ?_; rintro e w20 ⟨rfl, hw20⟩; rw [hw20]; clear hw20)
                  | (go_at_call 10; refine (O.take _ H S [⟨false, x1, x2, x3, x4, x5⟩] (laOne false lst) true 0 now HR.out).mono ?_; rintro e w5 ⟨S5, rfl, h5', g5'⟩; rw [HF.out.2] at h5'; rw [← HEV.out]; have h5 := Lib.hid h5'; have g5 := Lib.hid (g5'.step HB.out HS.out); obtain ⟨k0, k1⟩ := KE.out _ g5.out.1; clear h5' g5')
                  | fail "no arm")
                go_roundw
                case rel => exact ⟨i + 1, false, lst, S5, by omega, hl0, hl2, rfl, rfl, by go_num, h5, Lib.hid g5.out.2, Lib.hid g5.out.1⟩
                case measure => simp [intOf]; omega
              · have HF := Lib.hid ((apart_err (x := ⟨true, x1, x2, x3, x4, x5⟩) (high := false) (had := false) h0 h1 hl0).1 (by unfold fineV; simp))
                go_wp2_with (first
                  | (go_at_call 9; have _z := h5; refine (num16_any _ _).mono ?_; rintro e w20 ⟨rfl, hw20⟩; rw [hw20]; clear hw20)
                  | (go_at_call 10; refine (O.take _ H S [⟨true, x1, x2, x3, x4, x5⟩] (laOne false lst) false 0 now HR.out).mono ?_; rintro e w5 ⟨S5, rfl, h5', g5'⟩; rw [HF.out.2] at h5'; rw [HF.out.1]; have h5 := Lib.hid h5'; have g5 := Lib.hid (g5'.step HB.out HS.out); obtain ⟨k0, k1⟩ := KE.out _ g5.out.1; clear h5' g5')
                  | fail "no arm")
                go_roundw
                case rel => exact ⟨i + 1, true, now, S5, by omega, h0, h1, rfl, rfl, by go_num, h5, Lib.hid g5.out.2, Lib.hid g5.out.1⟩
                case measure => simp [intOf]; omega
              · have HF := Lib.hid ((apart_err (x := ⟨true, x1, x2, x3, x4, x5⟩) (high := true) (had := false) h0 h1 hl0).1 (by unfold fineV; simp))
                go_wp2_with (first
                  | (go_at_call 9; have _z := h5; refine (num16_any _ _).mono ?_; rintro e w20 ⟨rfl, hw20⟩; rw [hw20]; clear hw20)
                  | (go_at_call 10; refine (O.take _ H S [⟨true, x1, x2, x3, x4, x5⟩] (laOne false lst) true 0 now HR.out).mono ?_; rintro e w5 ⟨S5, rfl, h5', g5'⟩; rw [HF.out.2] at h5'; rw [HF.out.1]; have h5 := Lib.hid h5'; have g5 := Lib.hid (g5'.step HB.out HS.out); obtain ⟨k0, k1⟩ := KE.out _ g5.out.1; clear h5' g5')
                  | fail "no arm")
                go_roundw
                case rel => exact ⟨i + 1, true, now, S5, by omega, h0, h1, rfl, rfl, by go_num, h5, Lib.hid g5.out.2, Lib.hid g5.out.1⟩
                case measure => simp [intOf]; omega
            | true =>
              obtain ⟨df, hdf⟩ : ∃ df, df = now - lst := ⟨_, rfl⟩
              have e1 : IntKind.i64.wrap (now - lst) = df := by rw [hdf]; exact IntWalk.i64_in _ (by omega)
              have e2 : wrap64 (now - lst) = df := by rw [hdf]; exact IntWalk.wrap64_in _ (by omega)
              have e3 : now - lst = df := hdf.symm
              have HDF := Lib.hid hdf
              clear hdf
              by_cases hsoon : x1 ≤ df
              · have u1 : decide (x1 ≤ df) = true := decide_eq_true hsoon
                cases x0 <;> cases high
                · have HF := Lib.hid ((apart_err (x := ⟨false, x1, x2, x3, x4, x5⟩) (high := false) (had := true) h0 h1 hl0).1 (by unfold fineV; simp [HDF.out ▸ hsoon]))
                  go_wp2_with (first
                    | (go_at_call 9; have _z := h5; refine (num16_any _ _).mono ?_; rintro e w20 ⟨rfl, hw20⟩; rw [hw20]; clear hw20)
                    | (go_at_call 10; refine (O.take _ H S [⟨false, x1, x2, x3, x4, x5⟩] (laOne true lst) false 0 now HR.out).mono ?_; rintro e w5 ⟨S5, rfl, h5', g5'⟩; rw [HF.out.2] at h5'; rw [HF.out.1]; have h5 := Lib.hid h5'; have g5 := Lib.hid (g5'.step HB.out HS.out); obtain ⟨k0, k1⟩ := KE.out _ g5.out.1; clear h5' g5')
                    | fail "no arm")
                  go_roundw
                  case rel => exact ⟨i + 1, true, now, S5, by omega, h0, h1, rfl, rfl, by go_num, h5, Lib.hid g5.out.2, Lib.hid g5.out.1⟩
                  case measure => simp [intOf]; omega
                · obtain ⟨ev, hev⟩ : ∃ ev, ev = errP [⟨false, x1, x2, x3, x4, x5⟩] (laOne true lst) true 0 now := ⟨_, rfl⟩
                  have HF := Lib.hid ((apart_err (x := ⟨false, x1, x2, x3, x4, x5⟩) (high := true) (had := true) h0 h1 hl0).2 (by unfold fineV; simp [HDF.out ▸ hsoon]))
                  have hev0 : (ev == 0) = false := by rw [hev]; simpa using HF.out.1
                  have HEV := Lib.hid hev
                  clear hev
                  go_wp2_with (first
                    | (go_at_call 9; have _z := h5; refine (num16_any _ _).mono ?_; rintro e w20 ⟨rfl, hw20⟩; rw [hw20]; clear hw20)
                    | (go_at_call 10; refine (O.take _ H S [⟨false, x1, x2, x3, x4, x5⟩] (laOne true lst) true 0 now HR.out).mono ?_; rintro e w5 ⟨S5, rfl, h5', g5'⟩; rw [HF.out.2] at h5'; rw [← HEV.out]; have h5 := Lib.hid h5'; have g5 := Lib.hid (g5'.step HB.out HS.out); obtain ⟨k0, k1⟩ := KE.out _ g5.out.1; clear h5' g5')
                    | fail "no arm")
                  go_roundw
                  case rel => exact ⟨i + 1, true, lst, S5, by omega, hl0, hl2, rfl, rfl, by go_num, h5, Lib.hid g5.out.2, Lib.hid g5.out.1⟩
                  case measure => simp [intOf]; omega
                · have HF := Lib.hid ((apart_err (x := ⟨true, x1, x2, x3, x4, x5⟩) (high := false) (had := true) h0 h1 hl0).1 (by unfold fineV; simp [HDF.out ▸ hsoon]))
                  go_wp2_with (first
                    | (go_at_call 9; have _z := h5; refine (num16_any _ _).mono ?_; rintro e w20 ⟨rfl, hw20⟩; rw [hw20]; clear hw20)
                    | (go_at_call 10; refine (O.take _ H S [⟨true, x1, x2, x3, x4, x5⟩] (laOne true lst) false 0 now HR.out).mono ?_; rintro e w5 ⟨S5, rfl, h5', g5'⟩; rw [HF.out.2] at h5'; rw [HF.out.1]; have h5 := Lib.hid h5'; have g5 := Lib.hid (g5'.step HB.out HS.out); obtain ⟨k0, k1⟩ := KE.out _ g5.out.1; clear h5' g5')
                    | fail "no arm")
                  go_roundw
                  case rel => exact ⟨i + 1, true, now, S5, by omega, h0, h1, rfl, rfl, by go_num, h5, Lib.hid g5.out.2, Lib.hid g5.out.1⟩
                  case measure => simp [intOf]; omega
                · have HF := Lib.hid ((apart_err (x := ⟨true, x1, x2, x3, x4, x5⟩) (high := true) (had := true) h0 h1 hl0).1 (by unfold fineV; simp [HDF.out ▸ hsoon]))
                  go_wp2_with (first
                    | (go_at_call 9; have _z := h5; refine (num16_any _ _).mono ?_; rintro e w20 ⟨rfl, hw20⟩; rw [hw20]; clear hw20)
                    | (go_at_call 10; refine (O.take _ H S [⟨true, x1, x2, x3, x4, x5⟩] (laOne true lst) true 0 now HR.out).mono ?_; rintro e w5 ⟨S5, rfl, h5', g5'⟩; rw [HF.out.2] at h5'; rw [HF.out.1]; have h5 := Lib.hid h5'; have g5 := Lib.hid (g5'.step HB.out HS.out); obtain ⟨k0, k1⟩ := KE.out _ g5.out.1; clear h5' g5')
                    | fail "no arm")
                  go_roundw
                  case rel => exact ⟨i + 1, true, now, S5, by omega, h0, h1, rfl, rfl, by go_num, h5, Lib.hid g5.out.2, Lib.hid g5.out.1⟩
                  case measure => simp [intOf]; omega
              · have u1 : decide (x1 ≤ df) = false := decide_eq_false hsoon
                cases x0 <;> cases high
                · obtain ⟨ev, hev⟩ : ∃ ev, ev = errP [⟨false, x1, x2, x3, x4, x5⟩] (laOne true lst) false 0 now := ⟨_, rfl⟩
                  have HF := Lib.hid ((apart_err (x := ⟨false, x1, x2, x3, x4, x5⟩) (high := false) (had := true) h0 h1 hl0).2 (by unfold fineV; simp [HDF.out ▸ hsoon]))
                  have hev0 : (ev == 0) = false := by rw [hev]; simpa using HF.out.1
                  have HEV := Lib.hid hev
                  clear hev
                  go_wp2_with (first
                    | (go_at_call 9; have _z := h5; refine (num16_any _ _).mono ?_; rintro e w20 ⟨rfl, hw20⟩; rw [hw20]; clear hw20)
                    | (go_at_call 10; refine (O.take _ H S [⟨false, x1, x2, x3, x4, x5⟩] (laOne true lst) false 0 now HR.out).mono ?_; rintro e w5 ⟨S5, rfl, h5', g5'⟩; rw [HF.out.2] at h5'; rw [← HEV.out]; have h5 := Lib.hid h5'; have g5 := Lib.hid (g5'.step HB.out HS.out); obtain ⟨k0, k1⟩ := KE.out _ g5.out.1; clear h5' g5')
                    | fail "no arm")
                  go_roundw
                  case rel => exact ⟨i + 1, true, lst, S5, by omega, hl0, hl2, rfl, rfl, by go_num, h5, Lib.hid g5.out.2, Lib.hid g5.out.1⟩
                  case measure => simp [intOf]; omega
                · obtain ⟨ev, hev⟩ : ∃ ev, ev = errP [⟨false, x1, x2, x3, x4, x5⟩] (laOne true lst) true 0 now := ⟨_, rfl⟩
                  have HF := Lib.hid ((apart_err (x := ⟨false, x1, x2, x3, x4, x5⟩) (high := true) (had := true) h0 h1 hl0).2 (by unfold fineV; simp [HDF.out ▸ hsoon]))
                  have hev0 : (ev == 0) = false := by rw [hev]; simpa using HF.out.1
                  have HEV := Lib.hid hev
                  clear hev
                  go_wp2_with (first
                    | (go_at_call 9; have _z := h5; refine (num16_any _ _).mono ?_; rintro e w20 ⟨rfl, hw20⟩; rw [hw20]; clear hw20)
                    | (go_at_call 10; refine (O.take _ H S [⟨false, x1, x2, x3, x4, x5⟩] (laOne true lst) true 0 now HR.out).mono ?_; rintro e w5 ⟨S5, rfl, h5', g5'⟩; rw [HF.out.2] at h5'; rw [← HEV.out]; have h5 := Lib.hid h5'; have g5 := Lib.hid (g5'.step HB.out HS.out); obtain ⟨k0, k1⟩ := KE.out _ g5.out.1; clear h5' g5')
                    | fail "no arm")
                  go_roundw
                  case rel => exact ⟨i + 1, true, lst, S5, by omega, hl0, hl2, rfl, rfl, by go_num, h5, Lib.hid g5.out.2, Lib.hid g5.out.1⟩
                  case measure => simp [intOf]; omega
                · obtain ⟨ev, hev⟩ : ∃ ev, ev = errP [⟨true, x1, x2, x3, x4, x5⟩] (laOne true lst) false 0 now := ⟨_, rfl⟩
                  have HF := Lib.hid ((apart_err (x := ⟨true, x1, x2, x3, x4, x5⟩) (high := false) (had := true) h0 h1 hl0).2 (by unfold fineV; simp [HDF.out ▸ hsoon]))
                  have hev0 : (ev == 0) = false := by rw [hev]; simpa using HF.out.1
                  have HEV := Lib.hid hev
                  clear hev
                  go_wp2_with (first
                    | (go_at_call 9; have _z := h5; refine (num16_any _ _).mono ?_; rintro e w20 ⟨rfl, hw20⟩; rw [hw20]; clear hw20)
                    | (go_at_call 10; refine (O.take _ H S [⟨true, x1, x2, x3, x4, x5⟩] (laOne true lst) false 0 now HR.out).mono ?_; rintro e w5 ⟨S5, rfl, h5', g5'⟩; rw [HF.out.2] at h5'; rw [← HEV.out]; have h5 := Lib.hid h5'; have g5 := Lib.hid (g5'.step HB.out HS.out); obtain ⟨k0, k1⟩ := KE.out _ g5.out.1; clear h5' g5')
                    | fail "no arm")
                  go_roundw
                  case rel => exact ⟨i + 1, true, lst, S5, by omega, hl0, hl2, rfl, rfl, by go_num, h5, Lib.hid g5.out.2, Lib.hid g5.out.1⟩
                  case measure => simp [intOf]; omega
                · obtain ⟨ev, hev⟩ : ∃ ev, ev = errP [⟨true, x1, x2, x3, x4, x5⟩] (laOne true lst) true 0 now := ⟨_, rfl⟩
                  have HF := Lib.hid ((apart_err (x := ⟨true, x1, x2, x3, x4, x5⟩) (high := true) (had := true) h0 h1 hl0).2 (by unfold fineV; simp [HDF.out ▸ hsoon]))
                  have hev0 : (ev == 0) = false := by rw [hev]; simpa using HF.out.1
                  have HEV := Lib.hid hev
                  clear hev
                  go_wp2_with (first
                    | (go_at_call 9; have _z := h5; refine (num16_any _ _).mono ?_; rintro e w20 ⟨rfl, hw20⟩; rw [hw20]; clear hw20)
                    | (go_at_call 10; refine (O.take _ H S [⟨true, x1, x2, x3, x4, x5⟩] (laOne true lst) true 0 now HR.out).mono ?_; rintro e w5 ⟨S5, rfl, h5', g5'⟩; rw [HF.out.2] at h5'; rw [← HEV.out]; have h5 := Lib.hid h5'; have g5 := Lib.hid (g5'.step HB.out HS.out); obtain ⟨k0, k1⟩ := KE.out _ g5.out.1; clear h5' g5')
                    | fail "no arm")
                  go_roundw
                  case rel => exact ⟨i + 1, true, lst, S5, by omega, hl0, hl2, rfl, rfl, by go_num, h5, Lib.hid g5.out.2, Lib.hid g5.out.1⟩
                  case measure => simp [intOf]; omega
        · have d0 : decide ((i : Int) < (n1 : Int)) = false := decide_eq_false (by omega)
          go_wp2_with fail
          go_ret
          exact ⟨rfl, HBV.out.trans (HB.out.mono HBV.out.size)⟩
end Go.Proofs.Ytackgfjgephhoaa
