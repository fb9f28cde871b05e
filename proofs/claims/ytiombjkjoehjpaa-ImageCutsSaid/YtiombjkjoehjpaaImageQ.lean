/- A whole system read. -/
import Derived.Test.YtiombjkjoehjpaaImageP
import Derived.Test.YtiombjkjoehjpaaSysA
namespace Go.Proofs.Ytiombjkjoehjpaa
open Go.ChangeShapes Go.WideShapes Go.ChangeAt Go.RowKit
set_option linter.unusedVariables false

/-- Few, as many as a byte can tell. -/
def Fewc (c : Cf) : Prop := c.ws.length ≤ 255 ∧ c.ps.length ≤ 255 ∧ c.cs.length ≤ 255 ∧ ∀ p ∈ c.ps, Fewp p
theorem Fewc.few {c : Cf} (h : Fewc c) : Few c := by
  obtain ⟨h1, h2, h3, h4⟩ := h
  exact ⟨by omega, by omega, by omega, fun p hp => by obtain ⟨⟨g1, g2, g3⟩, _⟩ := h4 p hp; exact ⟨by omega, by omega, by omega⟩⟩
def rdImg : Rd Cf := rdMap (fun x : Unit × Cf => x.2) (rdTwo rdMagic rdBody)
theorem decV_img (l : List Int) : decV l = (match rdImg l with
  | some (c, []) => some c
  | _ => none) := by
  unfold decV rdImg rdMap rdTwo rdMagic
  cases h : rdN 4 l with
  | none => rfl
  | some z =>
    obtain ⟨n, l1⟩ := z
    simp only
    by_cases hn : n = magicV
    · simp only [hn, if_true]
      cases h2 : rdBody l1 with
      | none => rfl
      | some z2 => obtain ⟨c, r⟩ := z2; rfl
    · simp only [hn, if_false]
/-- What config answers: a word for the walk, which would open so many boxes one by one. -/
def CfgPost (X Y : Nat) (s : Option (List Int)) (w : World) (r : Ending) (w' : World) : Prop := ∃ (c : Cf) (vs : List Pv) (wa pa ca : Option Addr) (wc pc cc : Nat) (s' : Option (List Int)), r = .returned (.agg #[.int .i64 c.frame, .int .i64 c.margin, .slice wa c.ws.length wc, .slice pa c.ps.length pc, .slice ca c.cs.length cc]) ∧ (∀ u : World, SameIn w' u w.heap.size w'.heap.size → w'.heap.size ≤ u.heap.size → SysL u u.heap.size c vs wa pa ca wc pc cc) ∧ Fewc c ∧ RdS w' X Y s' ∧ Got s rdImg c s' ∧ ButL [X, Y] w w'
set_option maxRecDepth 100000 in
set_option maxHeartbeats 4000000 in
theorem gConfig_any (X Y : Nat) (w : World) (s : Option (List Int)) (h : RdS w X Y s) :
    Calls Try.prog 27 #[.pointer (some ⟨Y, 0, none⟩)] w (fun r w' => CfgPost X Y s w r w') := by
  have hlt := h.lt
  have H0 := Lib.hid h
  clear h
  go_enter Try.func27, Try.ntmps27
  go_wp2_with (first
    | (go_at_call 55
       refine (gChannels_any X Y _ s4 HR4.out).mono ?_
       rintro e w5 ⟨l3, a3, n3, s5, rfl, hl3, ho3, hr, hg, hb⟩
       have kb := hb.at HK4.out (show w.heap.size ∉ [X, Y] by simp; omega)
       have f5 := free_in kb 4
       have q5 : w5.cell? ⟨w.heap.size, 4, none⟩ = some (.slice none 0 0) := cell_in kb rfl
       have HS5 : Hid (ButL [X, Y, w.heap.size] w5 (w5.setCell ⟨w.heap.size, 4, none⟩ (.slice a3 l3.length n3))) := Lib.hid ((ButL.refl _ _).set (b := w.heap.size) (by simp) 4 _)
       have hle5 := lt_of_block kb
       have HOW5 := Lib.hid (HS5.out.owns (hb.owns HOW4.out (by simp; omega)) (by simp; omega))
       have HOP5 := Lib.hid (HS5.out.owns (hb.owns HOP4.out (by simp; omega)) (by simp; omega))
       have HAL5 := Lib.hid ((HAL4.out.but hb (by simp; omega)).but HS5.out (by simp; omega))
       have HOC5 := Lib.hid (HS5.out.owns (owns_base ho3 (base' := w.heap.size + 1) (by first | omega | (simp; omega))) (by simp; omega))
       have HB5 := Lib.hid ((HB4.out.trans (hb.more (by simp; omega))).trans HS5.out)
       have HR5 := Lib.hid (hr.set (B := w.heap.size) (by omega) 4 (.slice a3 l3.length n3))
       have HK5 := Lib.hid (set_at (j := 4) (u := .slice a3 l3.length n3) kb)
       have HG5 := Lib.hid hg
       have kb' : w5.heap[w.heap.size]? = some (.cells #[.int .i64 xf, .int .i64 xm, .slice a1 l1.length n1, .slice a2 l2.length n2, .slice none 0 0] 37 (0, 0)) := kb
       have z0 := cell_in (j := 0) kb' rfl
       have z1 := cell_in (j := 1) kb' rfl
       have z2 := cell_in (j := 2) kb' rfl
       have z3 := cell_in (j := 3) kb' rfl
       have y0 := free_in kb' 0
       have y1 := free_in kb' 1
       have y2 := free_in kb' 2
       have y3 := free_in kb' 3
       clear hr hg hb kb kb')
    | (go_at_call 53
       refine (gParts_any X Y _ s3 HR3.out).mono ?_
       rintro e w4 ⟨l2, vs, a2, n2, s4, rfl, hl2, ho2, hal, hfw, hr, hg, hb⟩
       have kb := hb.at HK3.out (show w.heap.size ∉ [X, Y] by simp; omega)
       have f4 := free_in kb 3
       have q4 : w4.cell? ⟨w.heap.size, 3, none⟩ = some (.slice none 0 0) := cell_in kb rfl
       have HS4 : Hid (ButL [X, Y, w.heap.size] w4 (w4.setCell ⟨w.heap.size, 3, none⟩ (.slice a2 l2.length n2))) := Lib.hid ((ButL.refl _ _).set (b := w.heap.size) (by simp) 3 _)
       have hle4 := lt_of_block kb
       have HOW4 := Lib.hid (HS4.out.owns (hb.owns HOW3.out (by simp; omega)) (by simp; omega))
       have HOP4 := Lib.hid (HS4.out.owns (owns_base ho2 (base' := w.heap.size + 1) (by first | omega | (simp; omega))) (by simp; omega))
       have HAL4 := Lib.hid ((hal.base (b' := w.heap.size + 1) (by first | omega | (simp; omega))).but HS4.out (by simp; omega))
       have HFW := Lib.hid hfw
       have HB4 := Lib.hid ((HB3.out.trans (hb.more (by simp; omega))).trans HS4.out)
       have HR4 := Lib.hid (hr.set (B := w.heap.size) (by omega) 3 (.slice a2 l2.length n2))
       have HK4 := Lib.hid (set_at (j := 3) (u := .slice a2 l2.length n2) kb)
       have HG4 := Lib.hid hg
       clear hr hg hb kb hal hfw ho2)
    | (go_at_call 51
       refine (gWindows_any X Y _ s2 HR2.out).mono ?_
       rintro e w3 ⟨l1, a1, n1, s3, rfl, hl1, ho1, hr, hg, hb⟩
       have kb := hb.at HK2.out (show w.heap.size ∉ [X, Y] by simp; omega)
       have f3 := free_in kb 2
       have q3 : w3.cell? ⟨w.heap.size, 2, none⟩ = some (.slice none 0 0) := cell_in kb rfl
       have HS3 : Hid (ButL [X, Y, w.heap.size] w3 (w3.setCell ⟨w.heap.size, 2, none⟩ (.slice a1 l1.length n1))) := Lib.hid ((ButL.refl _ _).set (b := w.heap.size) (by simp) 2 _)
       have hle3 := lt_of_block kb
       have HOW3 := Lib.hid (HS3.out.owns (owns_base ho1 (base' := w.heap.size + 1) (by first | omega | (simp; omega))) (by simp; omega))
       have HB3 := Lib.hid ((HB2.out.trans (hb.more (by simp; omega))).trans HS3.out)
       have HR3 := Lib.hid (hr.set (B := w.heap.size) (by omega) 2 (.slice a1 l1.length n1))
       have HK3 := Lib.hid (set_at (j := 2) (u := .slice a1 l1.length n1) kb)
       have HG3 := Lib.hid hg
       clear hr hg hb kb)
    | (go_at_call 50
       refine (gFields_any X Y w1.heap.size w.heap.size 2 2 0 _ s1 (HR1.out.keep (below1 _ _)) (by omega) (by omega) (by omega) (heap_new_at rfl) (by rfl) (at_alloc HK1.out) (by simp) (by omega) (by omega) (by omega)).mono ?_
       rintro e w2 ⟨xs2, s2, rfl, hx2, hr2, hg2, hk2, hb2⟩
       obtain ⟨xf, xm, rfl⟩ := two_of hx2
       have hk2' : w2.heap[w.heap.size]? = some (.cells #[.int .i64 xf, .int .i64 xm, .slice none 0 0, .slice none 0 0, .slice none 0 0] 37 (0, 0)) := hk2
       have HK2 := Lib.hid hk2'
       have HR2 := Lib.hid hr2
       have HG2 := Lib.hid hg2
       have HB2 := Lib.hid ((HB1.out.alloc _).trans hb2)
       have hle2 := lt_of_block hk2'
       clear hr2 hg2 hb2 hk2 hk2')
    | (go_at_call 49
       refine (gMagic_any X Y _ s (H0.out.keep (below1 _ _))).mono ?_
       rintro e w1 ⟨s1, rfl, hr, hg, hb⟩
       have kb := hb.at (heap_new_at rfl) (show w.heap.size ∉ [X, Y] by simp; omega)
       have hle1 := lt_of_block kb
       have HK1 := Lib.hid kb
       have HB1 := Lib.hid ((ButL.of_below (S := [X, Y, w.heap.size]) (below1 w _)).trans (hb.more (by simp; omega)))
       have HR1 := Lib.hid hr
       have HG1 := Lib.hid hg
       have hltY := hr.lt
       clear hr hg hb kb))
  have hk' : (w5.setCell ⟨w.heap.size, 4, none⟩ (.slice a3 l3.length n3)).heap[w.heap.size]? = some (.cells #[.int .i64 xf, .int .i64 xm, .slice a1 l1.length n1, .slice a2 l2.length n2, .slice a3 l3.length n3] 37 (0, 0)) := HK5.out
  obtain ⟨g1, hg1, g2, hg2, hs⟩ := HG2.out
  subst hs
  have hX := set5 hk' rfl (.int .i64 xf) (.int .i64 xm) (.slice a1 l1.length n1) (.slice a2 l2.length n2) (.slice a3 l3.length n3)
  refine bodyPost_ret (results_cell_row (P := Try.prog) rfl _ _ w.heap.size _ _ (0, 0) _ rfl hX Try.underlying37 rfl Try.sizeConf_conf) rfl ?_
  have hbe : ButL [X, Y, w.heap.size] (w5.setCell ⟨w.heap.size, 4, none⟩ (.slice a3 l3.length n3)) _ := ((((((ButL.refl _ _).set (b := w.heap.size) (by simp) 0 (.int .i64 xf)).set (b := w.heap.size) (by simp) 1 (.int .i64 xm)).set (b := w.heap.size) (by simp) 2 (.slice a1 l1.length n1)).set (b := w.heap.size) (by simp) 3 (.slice a2 l2.length n2)).set (b := w.heap.size) (by simp) 4 (.slice a3 l3.length n3))
  refine ⟨⟨xf, xm, l1, l2, l3⟩, vs, a1, a2, a3, n1, n2, n3, _, rfl, fun u hu hsz => ⟨(((Lies.of_owns (hbe.owns HOW5.out (by simp; omega))).wider (Nat.le_succ _) (Nat.le_refl _)).keep hu).wider (Nat.zero_le _) hsz, (((Lies.of_owns (hbe.owns HOP5.out (by simp; omega))).wider (Nat.le_succ _) (Nat.le_refl _)).keep hu).wider (Nat.zero_le _) hsz, (((HAL5.out.but hbe (by simp; omega)).lies.wider (Nat.le_succ _) (Nat.le_refl _)).keep hu).wider (Nat.zero_le _) hsz, (((Lies.of_owns (hbe.owns HOC5.out (by simp; omega))).wider (Nat.le_succ _) (Nat.le_refl _)).keep hu).wider (Nat.zero_le _) hsz⟩, ⟨hl1, hl2, hl3, HFW.out⟩,
    (((((HR5.out.set (B := w.heap.size) (by omega) 0 _).set (B := w.heap.size) (by omega) 1 _).set (B := w.heap.size) (by omega) 2 _).set (B := w.heap.size) (by omega) 3 _).set (B := w.heap.size) (by omega) 4 _), (Got.two HG1.out ((Got.two hg1 (Got.two hg2 (Got.two HG3.out (Got.two HG4.out HG5.out)))).map _)).map _, (HB5.out.trans hbe).more (by simp; omega)⟩
end Go.Proofs.Ytiombjkjoehjpaa
