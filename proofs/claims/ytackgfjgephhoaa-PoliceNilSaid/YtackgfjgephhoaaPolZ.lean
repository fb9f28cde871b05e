/- The program's police: New; policeOk, policeNo. -/
import Derived.Test.YtackgfjgephhoaaPolY
import Derived.Test.YtackgfjgephhoaaBuild
import Derived.Lib.SliceRun
import Derived.Deep.CutRange
import Derived.Deep.CutBlock
namespace Go.Proofs.Ytackgfjgephhoaa
open Go.ChangeShapes Go.WideShapes Go.ChangeAt Go.RowKit
set_option linter.unusedVariables false

set_option maxRecDepth 100000 in
set_option maxHeartbeats 8000000 in
theorem new_any (w : World) (a : Option Addr) (n c : Nat) (ts : List Tk) (hn : ts.length = n) (hl : Lies w 0 w.heap.size (.slice a n c) n 6 (ts.flatMap Tk.cells)) :
    Calls Try.prog 19 #[.slice a n c] w fun e w' => (okN ts = true → ∃ H S, e = .returned (.pointer (some ⟨H, 0, none⟩)) ∧ PolAt H ts (List.replicate n (-1)) false w' S ∧ ∀ k, S k → w.heap.size ≤ k) ∧ (okN ts = false → e = .returned (.pointer none)) ∧ Below w.heap.size w w' := by
  have hR := rights_tasks a n c w ts hn hl
  have HP := Lib.hid (built_part16 a n c)
  cases ho : okN ts with
  | false =>
    rw [ho] at hR
    have HR := Lib.hid hR
    clear hR ho hl hn
    go_enter Try.func19, Try.ntmps19
    go_wp2_with (first
      | (go_at_call 24; refine HR.out.mono ?_; rintro e w2 ⟨rfl, hb2'⟩; have hb2 := Lib.hid hb2'; clear hb2')
      | (refine wpList_build3 (by rfl) 60 _ (by rfl) [(0, .slice a n c)] (by rfl) _ HP.out ?_)
      | fail "no arm")
    go_ret
    exact ⟨fun h => (by cases h), fun _ => rfl, hb2.out⟩
  | true =>
    rw [ho] at hR
    have HR := Lib.hid hR
    have hn6 : n ≤ 6 := by
      unfold okN at ho
      rw [Bool.and_eq_true, decide_eq_true_eq] at ho
      omega
    have HO : Hid (∀ x ∈ ts, okTk x = true) := Lib.hid (by
      unfold okN at ho
      rw [Bool.and_eq_true, List.all_eq_true] at ho
      exact ho.2)
    have HC := Lib.hid (built_pol (n : Int))
    have KA := Lib.hid (tks_read hn hl)
    have HNN := Lib.hid hn
    clear hR ho hl hn
    go_enter Try.func19, Try.ntmps19
    go_upto_region 3 with (first
      | (go_at_call 24; refine HR.out.mono ?_; rintro e w2 ⟨rfl, hb2'⟩; have hb2 := Lib.hid hb2'; clear hb2')
      | (refine wpList_build3 (by rfl) 60 _ (by rfl) [(0, .slice a n c)] (by rfl) _ HP.out ?_)
      | fail "no arm")
    go_cut [3] from 10 to 13 (fun s3 wx => ∃ H, s3 = .pointer (some ⟨H, 0, none⟩) ∧ Hid (w.heap.size ≤ H) ∧ Hid (PCells wx H (polV n (ts.take 0) [] false)) ∧ Hid (Below w.heap.size w wx))
    case first =>
      go_wp2_with (first
        | (refine wpList_build3 (by rfl) 55 _ (by rfl) [(1, .int .i64 (n : Int))] (by rfl) _ HC.out ?_)
        | fail "no arm")
      go_meet
      case rel => exact ⟨w2.heap.size, rfl, Lib.hid hb2.out.size, Lib.hid (polC_cells (heap_alloc_new _ _)), Lib.hid (hb2.out.alloc hb2.out.size _)⟩
    case rest =>
    obtain ⟨H, rfl, HH, HS0, HB0⟩ := hcut
    clear HC HP HR
    go_wp2_with fail
    go_loopw [16] (fun s wr => ∃ (k : Nat), k ≤ n ∧ s = .int .i64 k ∧ Hid (PCells wr H (polV n (ts.take k) [] false)) ∧ Hid (Below w.heap.size w wr)) (fun s _ => n - (intOf s).toNat)
    case atStart => exact ⟨0, Nat.zero_le _, rfl, HS0, HB0⟩
    case round =>
      clear HS0 HB0
      obtain ⟨k, hk, rfl, HC1, HB⟩ := hrel
      by_cases hlt : k < n
      · have d0 : decide ((k : Int) < (n : Int)) = true := decide_eq_true (by omega)
        have d1 : (0 : Int) ≤ (k : Int) := by omega
        have d2 : (k : Int) < (n : Int) := by omega
        have d3 : (k : Int) < 6 := by omega
        have hkL : k < ts.length := by have := HNN.out; omega
        obtain ⟨b, off, ea, ⟨k0, k1, k2, k3, k4, k5⟩, hb⟩ := KA.out wr HB.out k hlt
        subst ea
        have HM := Lib.hid (polV_more (n := n) (show k < 6 by omega) hkL)
        obtain ⟨x, hx⟩ : ∃ x, x = tkAt ts k := ⟨_, rfl⟩
        rw [← hx] at k0 k1 k2 k3 k4 k5 HM
        clear hb hx hkL
        obtain ⟨x0, x1, x2, x3, x4, x5⟩ := x
        dsimp only at k0 k1 k2 k3 k4 k5 HM
        obtain ⟨V, hV⟩ : ∃ V, V = wr.alloc (.cells #[.bool x0, .int .i64 x1, .int .i64 x2, .int .i64 x3, .int .i64 x4, .int .i64 x5] 45) := ⟨_, rfl⟩
        obtain ⟨E, hE⟩ : ∃ E, E = wr.heap.size := ⟨_, rfl⟩
        have hbl : V.heap[E]? = some (.cells #[.bool x0, .int .i64 x1, .int .i64 x2, .int .i64 x3, .int .i64 x4, .int .i64 x5] 45 (0, 0)) := by rw [hV, hE]; exact heap_alloc_new _ _
        have hVB : Below wr.heap.size wr V := by rw [hV]; exact below1 _ _
        have hC0 : PCells V H (polV n (ts.take k) [] false) := HC1.out.same (hVB.block H HC1.out.lt)
        have hC1 := hC0.set (i := k * 8) (by omega) (.bool x0)
        have hC2 := hC1.set (i := k * 8 + 1) (by omega) (.int .i64 x1)
        have hC3 := hC2.set (i := k * 8 + 2) (by omega) (.int .i64 x2)
        have hC4 := hC3.set (i := k * 8 + 3) (by omega) (.int .i64 x3)
        have hC5 := hC4.set (i := k * 8 + 4) (by omega) (.int .i64 x4)
        have hC6 := hC5.set (i := k * 8 + 5) (by omega) (.int .i64 x5)
        have HFIN := Lib.hid (show PCells _ H (polV n (ts.take (k + 1)) [] false) ∧ Below w.heap.size w _ from And.intro (hC6.congr HM.out).drew (by
          have hz := HH.out
          exact (((((((HB.out.trans (hVB.mono HB.out.size)).setCell (p := ⟨H, k * 8, none⟩) hz (.bool x0)).setCell (p := ⟨H, k * 8 + 1, none⟩) hz (.int .i64 x1)).setCell (p := ⟨H, k * 8 + 2, none⟩) hz (.int .i64 x2)).setCell (p := ⟨H, k * 8 + 3, none⟩) hz (.int .i64 x3)).setCell (p := ⟨H, k * 8 + 4, none⟩) hz (.int .i64 x4)).setCell (p := ⟨H, k * 8 + 5, none⟩) hz (.int .i64 x5)).drew))
        have e0 : V.cell? ⟨E, 0, none⟩ = some (.bool x0) := cell_in hbl rfl
        have e1 : V.cell? ⟨E, 1, none⟩ = some (.int .i64 x1) := cell_in hbl rfl
        have e2 : V.cell? ⟨E, 2, none⟩ = some (.int .i64 x2) := cell_in hbl rfl
        have e3 : V.cell? ⟨E, 3, none⟩ = some (.int .i64 x3) := cell_in hbl rfl
        have e4 : V.cell? ⟨E, 4, none⟩ = some (.int .i64 x4) := cell_in hbl rfl
        have e5 : V.cell? ⟨E, 5, none⟩ = some (.int .i64 x5) := cell_in hbl rfl
        obtain ⟨p0, f0⟩ := hC0.at_ (i := k * 8) (by omega)
        obtain ⟨p1, f1⟩ := hC0.at_ (i := k * 8 + 1) (by omega)
        obtain ⟨p2, f2⟩ := hC0.at_ (i := k * 8 + 2) (by omega)
        obtain ⟨p3, f3⟩ := hC0.at_ (i := k * 8 + 3) (by omega)
        obtain ⟨p4, f4⟩ := hC0.at_ (i := k * 8 + 4) (by omega)
        obtain ⟨p5, f5⟩ := hC0.at_ (i := k * 8 + 5) (by omega)
        have HV := Lib.hid hV
        have HE := Lib.hid hE
        clear hbl hVB hC0 hC1 hC2 hC3 hC4 hC5 hC6 hV hE
        go_upto_region 7 with fail
        rw [← HV.out, ← HE.out]
        clear k0 k1 k2 k3 k4 k5
        go_region
        go_wp2_with fail
        go_roundw
        case rel => exact ⟨k + 1, by omega, by go_num, Lib.hid HFIN.out.1, Lib.hid HFIN.out.2⟩
        case measure => simp [intOf]; omega
      · have d0 : decide ((k : Int) < (n : Int)) = false := decide_eq_false (by omega)
        have hkn : k = n := by omega
        subst hkn
        go_wp2_with fail
        go_ret
        refine ⟨fun _ => ⟨H, _, rfl, ⟨⟨false, ?_, .inr rfl⟩, by have := HNN.out; omega, HO.out, ?_, rfl⟩, fun j hj => by rw [hj]; exact HH.out⟩, fun h => (by cases h), HB.out⟩
        · have := HC1.out.congr polV_made
          rw [HNN.out]
          rwa [List.take_of_length_le (by have := HNN.out; omega)] at this
        · have := LaOk.start ts
          rwa [HNN.out] at this
theorem pol_own (H : Nat) (ts : List Tk) (la : List Int) (hi : Bool) : OwnP (PolAt H ts la hi) where
  keep := fun h hs hz => { h with c := by obtain ⟨g, hc, hg⟩ := h.c; exact ⟨g, hc.same (hs H (by rw [h.s])), hg⟩ }
  lt := fun h k hk => by
    obtain ⟨g, hc, hg⟩ := h.c
    rw [h.s] at hk
    rw [show k = _ from hk]
    exact hc.lt
def policeOk : PoliceOk where
  Pl := fun H ts la hi w S => PolAt H ts la hi w S
  own := pol_own
  bd := fun h => ⟨h.n6, h.ok, h.la⟩
  new := fun w a n c ts hn hl _ => new_any w a n c ts hn hl
  take := takeok_any
  may := mayok_any
  last := lastok_any
  drop := dropok_any
  dropped := droppedok_any
theorem bel_of {w w' : World} {e : Ending} {v : Value} (h : e = .returned v ∧ w' = w) : e = .returned v ∧ Below w.heap.size w w' := ⟨h.1, by rw [h.2]; exact Below.refl _ _⟩
theorem policeNo : PoliceNo where
  take := fun w t now => take_no w none t now 1 (.inl rfl) (Lib.hid ((may_no w none t now (Lib.hid (has_nil w t))).mono (fun _ _ => bel_of)))
  may := fun w t now => (may_no w none t now (Lib.hid (has_nil w t))).mono (fun _ _ => bel_of)
  last := fun w t => last_no w none t (Lib.hid (has_nil w t))
  drop := fun w b => (drop_no w none b (Lib.hid (has_nil w 0))).mono (fun _ _ => bel_of)
  dropped := fun w t => (dropped_no w none t (Lib.hid (has_nil w t))).mono (fun _ _ => bel_of)
end Go.Proofs.Ytackgfjgephhoaa
