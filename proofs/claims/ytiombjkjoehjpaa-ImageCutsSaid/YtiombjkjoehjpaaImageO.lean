/- A partition read. -/
import Derived.Test.YtiombjkjoehjpaaImageN
import Derived.Test.YtiombjkjoehjpaaImageE
namespace Go.Proofs.Ytiombjkjoehjpaa
open Go.ChangeShapes Go.WideShapes Go.ChangeAt Go.RowKit
set_option linter.unusedVariables false

/-- Cells of bytes from one on, set. -/
def setU (cs : Array Value) (j : Nat) : List Int → Array Value
  | [] => cs
  | x :: xs => setU (cs.setIfInBounds j (.int .u8 x)) (j + 1) xs
theorem setU_size : ∀ (xs : List Int) (cs : Array Value) (j : Nat), (setU cs j xs).size = cs.size
  | [], _, _ => rfl
  | x :: xs, cs, j => by rw [setU, setU_size xs]; simp
theorem setU_snoc (x : Int) : ∀ (xs : List Int) (cs : Array Value) (j : Nat), setU cs j (xs ++ [x]) = (setU cs j xs).setIfInBounds (j + xs.length) (.int .u8 x)
  | [], _, _ => rfl
  | y :: xs, cs, j => by
    rw [List.cons_append, setU, setU, setU_snoc x xs, List.length_cons]
    congr 1
    omega
theorem three_of {l : List Int} (h : l.length = 3) : ∃ a b c, l = [a, b, c] := by match l, h with | [a, b, c], _ => exact ⟨a, b, c, rfl⟩
/-- Few, as many as a byte can tell. -/
def Fewp (p : Pt) : Prop := (p.ts.length ≤ 255 ∧ p.ss.length ≤ 255 ∧ p.ds.length ≤ 255) ∧ Act8 p.a0 ∧ Act8 p.a1 ∧ Act8 p.a2
set_option maxRecDepth 100000 in
set_option maxHeartbeats 4000000 in
theorem gPart_any (X Y : Nat) (w : World) (s : Option (List Int)) (h : RdS w X Y s) :
    Calls Try.prog 54 #[.pointer (some ⟨Y, 0, none⟩)] w fun r w' => ∃ (v : Pv) (p : Pt) (s' : Option (List Int)), r = .returned (.agg #[v.ts, v.ss, v.ds, .int .u8 v.a0, .int .u8 v.a1, .int .u8 v.a2]) ∧ PtOwns w' w.heap.size 120 123 3 v p ∧ Fewp p ∧ RdS w' X Y s' ∧ Got s rdPt p s' ∧ ButL [X, Y] w w' := by
  have hlt := h.lt
  have H0 := Lib.hid h
  clear h
  go_enter Try.func54, Try.ntmps54
  go_wp2_with (first
    | (go_at_call 77
       refine (gDonees_any X Y _ s2 HR2.out).mono ?_
       rintro e w3 ⟨l3, a3, n3, s3, rfl, hl3, ho3, hr3, hg3, hb3⟩
       have kb3 := hb3.at HK2.out (show w.heap.size ∉ [X, Y] by simp; omega)
       have f3 := free_in kb3 2
       have q3 : w3.cell? ⟨w.heap.size, 2, none⟩ = some (.slice none 0 0) := cell_in kb3 rfl
       have HS3 : Hid (ButL [X, Y, w.heap.size] w3 (w3.setCell ⟨w.heap.size, 2, none⟩ (.slice a3 l3.length n3))) := Lib.hid ((ButL.refl _ _).set (b := w.heap.size) (by simp) 2 _)
       have HO1c := Lib.hid (HS3.out.owns (hb3.owns HO1b.out (by simp; omega)) (by simp; omega))
       have HO2c := Lib.hid (HS3.out.owns (hb3.owns HO2.out (by simp; omega)) (by simp; omega))
       have HO3 := Lib.hid (HS3.out.owns (owns_base ho3 (base' := w.heap.size + 1) (by simp; omega)) (by simp; omega))
       have HB3 := Lib.hid ((HB2.out.trans (hb3.more (by simp; omega))).trans HS3.out)
       have HR3 := Lib.hid (hr3.set (B := w.heap.size) (by omega) 2 (.slice a3 l3.length n3))
       have HK3 := Lib.hid (set_at (j := 2) (u := .slice a3 l3.length n3) kb3)
       have HG3 := Lib.hid hg3
       have hle3 := lt_of_block kb3
       clear hr3 hg3 hb3 kb3 ho3)
    | (go_at_call 75
       refine (gServers_any X Y _ s1 HR1.out).mono ?_
       rintro e w2 ⟨l2, a2, n2, s2, rfl, hl2, ho2, hr2, hg2, hb2⟩
       have kb2 := hb2.at HK1.out (show w.heap.size ∉ [X, Y] by simp; omega)
       have f2 := free_in kb2 1
       have q2 : w2.cell? ⟨w.heap.size, 1, none⟩ = some (.slice none 0 0) := cell_in kb2 rfl
       have HS2 : Hid (ButL [X, Y, w.heap.size] w2 (w2.setCell ⟨w.heap.size, 1, none⟩ (.slice a2 l2.length n2))) := Lib.hid ((ButL.refl _ _).set (b := w.heap.size) (by simp) 1 _)
       have HO1b := Lib.hid (HS2.out.owns (hb2.owns HO1.out (by simp; omega)) (by simp; omega))
       have HO2 := Lib.hid (HS2.out.owns (owns_base ho2 (base' := w.heap.size + 1) (by simp; omega)) (by simp; omega))
       have HB2 := Lib.hid ((HB1.out.trans (hb2.more (by simp; omega))).trans HS2.out)
       have HR2 := Lib.hid (hr2.set (B := w.heap.size) (by omega) 1 (.slice a2 l2.length n2))
       have HK2 := Lib.hid (set_at (j := 1) (u := .slice a2 l2.length n2) kb2)
       have HG2 := Lib.hid hg2
       have hle2 := lt_of_block kb2
       clear hr2 hg2 hb2 kb2 ho2)
    | (go_at_call 73
       refine (gTasks_any X Y _ s (H0.out.keep (below1 _ _))).mono ?_
       rintro e w1 ⟨l1, a1, n1, s1, rfl, hl1, ho1, hr1, hg1, hb1⟩
       have kb1 := hb1.at (heap_new_at rfl) (show w.heap.size ∉ [X, Y] by simp; omega)
       have f1 := free_in kb1 0
       have q1 : w1.cell? ⟨w.heap.size, 0, none⟩ = some (.slice none 0 0) := cell_in kb1 rfl
       have HS1 : Hid (ButL [X, Y, w.heap.size] w1 (w1.setCell ⟨w.heap.size, 0, none⟩ (.slice a1 l1.length n1))) := Lib.hid ((ButL.refl _ _).set (b := w.heap.size) (by simp) 0 _)
       have hle1 := lt_of_block kb1
       have HO1 := Lib.hid (HS1.out.owns (owns_base ho1 (base' := w.heap.size + 1) (by simp)) (by simp; omega))
       have HB1 := Lib.hid (((ButL.of_below (S := [X, Y, w.heap.size]) (below1 w _)).trans (hb1.more (by simp; omega))).trans HS1.out)
       have HR1 := Lib.hid (hr1.set (B := w.heap.size) (by omega) 0 (.slice a1 l1.length n1))
       have HK1 := Lib.hid (set_at (j := 0) (u := .slice a1 l1.length n1) kb1)
       have HG1 := Lib.hid hg1
       clear hr1 hg1 hb1 kb1 ho1))
  clear q1 q2 q3 f1 f2 f3
  go_loopw [13] (fun i wr => ∃ (k : Nat) (xs : List Int) (s' : Option (List Int)), k ≤ 3 ∧ i = .int .i64 k ∧ Hid (xs.length = k) ∧ Hid (∀ x ∈ xs, Act8 x) ∧ Hid (RdS wr X Y s') ∧ Hid (Gots s3 1 xs s') ∧ Hid (wr.heap[w.heap.size]? = some (.cells (setU #[.slice a1 l1.length n1, .slice a2 l2.length n2, .slice a3 l3.length n3, .int .u8 0, .int .u8 0, .int .u8 0] 3 xs) 76 (0, 0))) ∧ Hid (ButL [X, Y, w.heap.size] (w3.setCell ⟨w.heap.size, 2, none⟩ (.slice a3 l3.length n3)) wr)) (fun i _ => 3 - (intOf i).toNat)
  case atStart => exact ⟨0, [], s3, by omega, rfl, Lib.hid rfl, Lib.hid (by simp), HR3, Lib.hid rfl, HK3, Lib.hid (ButL.refl _ _)⟩
  case round =>
    obtain ⟨k, xs, s4, hk, rfl, HXL, HXA, HR, HG, HK, HB⟩ := hrel
    by_cases hlt2 : k < 3
    · have tk : decide ((k : Int) < 3) = true := by simp; omega
      have c0 := HR.out.c0
      have l0 : (0 : Int) ≤ (k : Int) := by omega
      have l1' : (k : Int) < 3 := by omega
      have hwr := lt_of_block HK.out
      go_wp2_with (first
        | (go_at_call 72
           refine (gGet_any X Y _ s4 1 HR.out (by omega) (by omega)).mono ?_
           rintro e w4 ⟨n, s5, rfl, b0, b1, hr4, hg4, hb4⟩
           have kb4 := hb4.at HK.out (show w.heap.size ∉ [X, Y] by simp; omega)
           have f4 : w4.frozen? ⟨w.heap.size, 3 + k, none⟩ = false := free_in kb4 _
           obtain ⟨u, hu⟩ : ∃ u, (setU #[.slice a1 l1.length n1, .slice a2 l2.length n2, .slice a3 l3.length n3, .int .u8 0, .int .u8 0, .int .u8 0] 3 xs)[3 + k]? = some u := ⟨_, Array.getElem?_eq_getElem (by rw [setU_size]; simp; omega)⟩
           have q4 : w4.cell? ⟨w.heap.size, 3 + k, none⟩ = some u := cell_in kb4 hu
           have u8n : IntKind.u8.wrap n = n := IntWalk.u8_in _ (by omega)
           have HN4 : Hid (Act8 n) := Lib.hid ⟨by omega, by omega⟩
           have HK4 := Lib.hid kb4
           have HR4 := Lib.hid hr4
           have HG4 := Lib.hid hg4
           have HB4 := Lib.hid hb4
           clear hr4 hg4 hb4 kb4 hu b0 b1))
      go_roundw
      case rel =>
        refine ⟨k + 1, xs ++ [n], s5, by omega, by go_num, Lib.hid (by rw [List.length_append, HXL.out]; rfl), Lib.hid ?_, Lib.hid (HR4.out.set (by omega) _ _), Lib.hid (Gots.snoc HG4.out HG.out), Lib.hid ?_, Lib.hid ((HB.out.trans (HB4.out.more (by simp; omega))).set (by simp) _ _)⟩
        · intro x hx
          rcases List.mem_append.1 hx with hx | hx
          · exact HXA.out x hx
          · rw [List.mem_singleton] at hx; subst hx; exact HN4.out
        · rw [setU_snoc, HXL.out]
          exact set_at HK4.out
      case measure => simp [intOf]; omega
    · have tk : decide ((k : Int) < 3) = false := by simp; omega
      have hk3 : k = 3 := by omega
      subst hk3
      obtain ⟨x0, x1, x2, rfl⟩ := three_of HXL.out
      have hk' : wr.heap[w.heap.size]? = some (.cells #[.slice a1 l1.length n1, .slice a2 l2.length n2, .slice a3 l3.length n3, .int .u8 x0, .int .u8 x1, .int .u8 x2] 76 (0, 0)) := HK.out
      have HKE := Lib.hid hk'
      have z0 := cell_in (j := 0) hk' rfl
      have z1 := cell_in (j := 1) hk' rfl
      have z2 := cell_in (j := 2) hk' rfl
      have z3 := cell_in (j := 3) hk' rfl
      have z4 := cell_in (j := 4) hk' rfl
      have z5 := cell_in (j := 5) hk' rfl
      have y0 := free_in hk' 0
      have y1 := free_in hk' 1
      have y2 := free_in hk' 2
      have y3 := free_in hk' 3
      have y4 := free_in hk' 4
      have y5 := free_in hk' 5
      have HA := Lib.hid (And.intro (HXA.out x0 (by simp)) (And.intro (HXA.out x1 (by simp)) (HXA.out x2 (by simp))))
      clear hk'
      go_wp2_with fail
      obtain ⟨g1, hg1, g2, hg2, g3, hg3, hs⟩ := HG.out
      subst hs
      have hX := set6 HKE.out rfl (.slice a1 l1.length n1) (.slice a2 l2.length n2) (.slice a3 l3.length n3) (.int .u8 x0) (.int .u8 x1) (.int .u8 x2)
      refine bodyPost_ret (results_cell_row (P := Try.prog) rfl _ _ w.heap.size _ _ (0, 0) _ rfl hX Try.underlying76 rfl Try.sizePart_conf) rfl ?_
      have hbe : ButL [X, Y, w.heap.size] wr _ := (((((((ButL.refl _ wr).set (b := w.heap.size) (by simp) 0 (.slice a1 l1.length n1)).set (b := w.heap.size) (by simp) 1 (.slice a2 l2.length n2)).set (b := w.heap.size) (by simp) 2 (.slice a3 l3.length n3)).set (b := w.heap.size) (by simp) 3 (.int .u8 x0)).set (b := w.heap.size) (by simp) 4 (.int .u8 x1)).set (b := w.heap.size) (by simp) 5 (.int .u8 x2))
      have hq := HB.out.trans hbe
      refine ⟨⟨.slice a1 l1.length n1, .slice a2 l2.length n2, .slice a3 l3.length n3, x0, x1, x2⟩, ⟨l1, l2, l3, x0, x1, x2⟩, _, rfl, ⟨owns_base (hq.owns HO1c.out (by simp; omega)) (by omega), owns_base (hq.owns HO2c.out (by simp; omega)) (by omega), owns_base (hq.owns HO3.out (by simp; omega)) (by omega), rfl, rfl, rfl⟩, ⟨⟨hl1, hl2, hl3⟩, HA.out⟩,
        ((((((HR.out.set (B := w.heap.size) (by omega) 0 _).set (B := w.heap.size) (by omega) 1 _).set (B := w.heap.size) (by omega) 2 _).set (B := w.heap.size) (by omega) 3 _).set (B := w.heap.size) (by omega) 4 _).set (B := w.heap.size) (by omega) 5 _), (Got.two HG1.out (Got.two HG2.out (Got.two HG3.out (Got.two hg1 (Got.two hg2 hg3))))).map _, (HB3.out.trans hq).more (by simp; omega)⟩
end Go.Proofs.Ytiombjkjoehjpaa
