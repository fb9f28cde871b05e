/- The partitions read. -/
import Derived.Test.YtiombjkjoehjpaaImageO
namespace Go.Proofs.Ytiombjkjoehjpaa
open Go.ChangeShapes Go.WideShapes Go.ChangeAt Go.RowKit
set_option linter.unusedVariables false

theorem PtOwns.base {w : World} {b b' E1 E2 EI : Nat} {v : Pv} {p : Pt} (h : PtOwns w b E1 E2 EI v p) (hb : b' ≤ b) : PtOwns w b' E1 E2 EI v p := ⟨owns_base h.o1 hb, owns_base h.o2 hb, owns_base h.o3 hb, h.a0, h.a1, h.a2⟩
theorem PtOwns.but {S : List Nat} {w w' : World} (k : ButL S w w') {b E1 E2 EI : Nat} {v : Pv} {p : Pt} (h : PtOwns w b E1 E2 EI v p) (hX : ∀ k ∈ S, k < b) : PtOwns w' b E1 E2 EI v p := ⟨k.owns h.o1 hX, k.owns h.o2 hX, k.owns h.o3 hX, h.a0, h.a1, h.a2⟩
theorem AllOwn.but {S : List Nat} {w w' : World} {b E1 E2 EI : Nat} {vs : List Pv} {ps : List Pt} (h : AllOwn w b E1 E2 EI vs ps) (k : ButL S w w') (hX : ∀ k ∈ S, k < b) : AllOwn w' b E1 E2 EI vs ps := by
  induction h with
  | nil => exact .nil
  | cons h _ ih => exact .cons (h.but k hX) ih
theorem AllOwn.base {w : World} {b b' E1 E2 EI : Nat} {vs : List Pv} {ps : List Pt} (h : AllOwn w b E1 E2 EI vs ps) (hb : b' ≤ b) : AllOwn w b' E1 E2 EI vs ps := by
  induction h with
  | nil => exact .nil
  | cons h _ ih => exact .cons (h.base hb) ih
set_option maxRecDepth 100000 in
set_option maxHeartbeats 2000000 in
theorem gParts_any (X Y : Nat) (w : World) (s : Option (List Int)) (h : RdS w X Y s) :
    Calls Try.prog 53 #[.pointer (some ⟨Y, 0, none⟩), .func (.func 54) #[] #[]] w fun r w' => ∃ (l : List Pt) (vs : List Pv) (a : Option Addr) (c : Nat) (s' : Option (List Int)), r = .returned (.slice a l.length c) ∧ l.length ≤ 255 ∧ w'.ownsRow w.heap.size 76 6 (.slice a l.length c) l.length (vs.flatMap Pv.cells) ∧ AllOwn w' w.heap.size 120 123 3 vs l ∧ (∀ p ∈ l, Fewp p) ∧ RdS w' X Y s' ∧ Got s (rdMany rdPt) l s' ∧ ButL [X, Y] w w' := by
  obtain ⟨i0, hi0, hz0, hz1, hz2⟩ := info_parts Try.infoPt_conf
  have HI := Lib.hid hi0
  have c0 := h.c0
  have hlt := h.lt
  have HR := Lib.hid h
  clear h hi0
  go_enter Try.func53, Try.ntmps53
  go_wp2_with (first
    | (go_at_call 72
       refine (gGet_any X Y w s 1 HR.out (by omega) (by omega)).mono ?_
       rintro e w1 ⟨n0, s1, rfl, b0, b1, hr1, hg1, hb1⟩
       obtain ⟨m, rfl⟩ := Int.eq_ofNat_of_zero_le b0
       have HR1 := Lib.hid hr1
       have HG1 := Lib.hid hg1
       have HB1 := Lib.hid hb1
       clear hr1 hg1 hb1))
  have hm : m ≤ 255 := by omega
  clear c0 b0 b1
  go_loopw [5, 11] (fun v i wr => ∃ (k : Nat) (xs : List Pt) (vs : List Pv) (a : Option Addr) (c : Nat) (s' : Option (List Int)), k ≤ m ∧ i = .int .i64 k ∧ v = .slice a k c ∧ Hid (xs.length = k) ∧ Hid (wr.ownsRow w.heap.size 76 6 (.slice a k c) k (vs.flatMap Pv.cells)) ∧ Hid (AllOwn wr w.heap.size 120 123 3 vs xs) ∧ Hid (∀ p ∈ xs, Fewp p) ∧ Hid (RdS wr X Y s') ∧ Hid (Got s1 (rdList rdPt k) xs s') ∧ Hid (ButL [X, Y] w wr)) (fun _ i _ => m - (intOf i).toNat)
  case atStart => exact ⟨0, [], [], none, 0, s1, by omega, rfl, rfl, Lib.hid rfl, Lib.hid ⟨rfl, .inl ⟨rfl, rfl⟩⟩, Lib.hid .nil, Lib.hid (by simp), HR1, Lib.hid (Got.nil _ _), HB1⟩
  case round =>
    obtain ⟨k, xs, vs, a, c, s2, hk, rfl, rfl, HXL, HOW, HAL, HFW, HR2, HG2, HB2⟩ := hrel
    by_cases hlt2 : k < m
    · have tk : decide ((k : Int) < (m : Int)) = true := by simpa using hlt2
      have hsz := HB2.out.size
      go_wp2_with (first
        | (go_at_call 54
           refine (gPart_any X Y _ s2 HR2.out).mono ?_
           rintro e w2 ⟨v, x, s3, rfl, hpo, hfw, hr3, hg3, hb3⟩
           have HPO := Lib.hid (PtOwns.base hpo hsz)
           obtain ⟨ta, sa, da, tc, sc, dc, e1, e2, e3⟩ := PtLies.slices hpo.lies
           obtain ⟨vt, vv, vd, v0, v1, v2⟩ := v
           simp only at e1 e2 e3
           subst e1 e2 e3
           have HFX := Lib.hid hfw
           have HAL2 := Lib.hid (HAL.out.but hb3 (by simp; omega))
           clear hpo hfw
           have HOW2 := Lib.hid (hb3.owns HOW.out (by simp; omega))
           have HB3 := Lib.hid (HB2.out.trans hb3)
           have HR3 := Lib.hid hr3
           have HG3 := Lib.hid hg3
           have hsz3 := HB3.out.size
           clear hr3 hg3 hb3)
        | (refine wpList_append_lie (by rfl) (.tmp 13) (.tmp 17) 34 (by rfl) w.heap.size 76 i0 _ 6 80 Try.underlying34 HI.out hz0 hz1 hz2 rfl (by omega) (.slice a k c) k _ (by rfl) (owns_later HOW2.out (below1 _ _)) (.slice (some ⟨w2.heap.size, 0, none⟩) 1 1) w2.heap.size (w2.heap.size + 1) 1 (Pv.cells ⟨.slice ta x.ts.length tc, .slice sa x.ss.length sc, .slice da x.ds.length dc, v0, v1, v2⟩) (by rfl) (one_lies (heap_new_at rfl) rfl) (pv_one _ _ _ _ _ _ _ _ _ _ _ _) (k + 1) (by omega) (by simp [maxLen]; omega) (by omega) (by simp; omega) ?_
           intro ao cap' w3 hown hgrow
           rw [← flat_snoc] at hown
           have HOW3 := Lib.hid hown
           have HBG : Hid (Below w.heap.size w2 w3) := Lib.hid (((below1 w2 _).mono hsz3).grown hgrow (by simp; omega) (fun g hg => ((owns_block HOW2.out) g hg).1))
           have HKB : Hid (KeepsBut 76 76 w2 w3) := Lib.hid ((KeepsBut.of_below (below1 w2 _)).trans (KeepsBut.of_grown hgrow (owns_later HOW2.out (below1 _ _))))
           have HAL3 := Lib.hid ((HAL2.out.snoc HPO.out).keep HKB.out (by decide) (by decide) (by decide))
           clear hown hgrow))
      go_roundw
      case rel => exact ⟨k + 1, xs ++ [x], vs ++ [⟨.slice ta x.ts.length tc, .slice sa x.ss.length sc, .slice da x.ds.length dc, v0, v1, v2⟩], ao, cap', s3, by omega, by go_num, rfl, Lib.hid (by rw [List.length_append, HXL.out]; rfl), HOW3, HAL3, Lib.hid (fun p hp => by rcases List.mem_append.1 hp with hp | hp; exact HFW.out p hp; rw [List.mem_singleton] at hp; subst hp; exact HFX.out), Lib.hid (HR3.out.keepB HBG.out (by omega)), Lib.hid (HG2.out.snoc HG3.out), Lib.hid (HB3.out.then HBG.out)⟩
      case measure => simp [intOf]; omega
    · have tk : decide ((k : Int) < (m : Int)) = false := by simp; omega
      have hkm : k = m := by omega
      subst hkm
      go_wp2_with fail
      go_ret
      have hxl := HXL.out
      subst hxl
      exact ⟨xs, vs, a, c, s2, rfl, hm, HOW.out, HAL.out, HFW.out, HR2.out, HG1.out.many HG2.out, HB2.out⟩
end Go.Proofs.Ytiombjkjoehjpaa
