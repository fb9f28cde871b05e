/- Who gets a tick: the program's calls of a system that is there. -/
import Derived.Test.YtmkohnpdpcefgaaGschQ
import Derived.Deep.CutRange
import Derived.Deep.CutBlock
namespace Go.Proofs.Ytmkohnpdpcefgaa
open Go.ChangeShapes Go.WideShapes Go.ChangeAt Go.RowKit
set_option linter.unusedVariables false

theorem set3g {w : World} {X : Nat} {T : TypeId} {cs : Array Value} (h : w.heap[X]? = some (.cells cs T (0, 0))) (hs : cs.size = 3) (v0 v1 v2 : Value) :
    (((w.setCell ⟨X, 0, none⟩ v0).setCell ⟨X, 1, none⟩ v1).setCell ⟨X, 2, none⟩ v2).heap[X]? = some (.cells #[v0, v1, v2] T (0, 0)) := by
  have h3 := set_at (j := 2) (u := v2) (set_at (j := 1) (u := v1) (set_at (j := 0) (u := v0) h))
  rw [h3]
  match cs, hs with
  | ⟨[a, b, c]⟩, _ => rfl
theorem set3_below {B X : Nat} {w W : World} (h : Below B w W) (hX : B ≤ X) (v0 v1 v2 : Value) : Below B w (((W.setCell ⟨X, 0, none⟩ v0).setCell ⟨X, 1, none⟩ v1).setCell ⟨X, 2, none⟩ v2) :=
  ((h.setCell (p := ⟨X, 0, none⟩) hX _).setCell (p := ⟨X, 1, none⟩) hX _).setCell (p := ⟨X, 2, none⟩) hX _
theorem Try.sizeCho : (Try.prog.info? 54).map (·.size) = some 3 := by kernel_rfl
/-- A choice as a value. -/
def choA (x : Int × Int × Int) : Value := .agg #[.int .i64 x.1, .int .i64 x.2.1, .int .i64 x.2.2]
theorem cho_ret {x : Int × Int × Int} {a b c : Int} (h : x = (a, b, c)) : Ending.returned (.agg #[.int .i64 a, .int .i64 b, .int .i64 c]) = .returned (choA x) := by rw [h]; rfl
set_option maxRecDepth 100000 in
set_option maxHeartbeats 4000000 in
theorem gopen_any {w : World} {B g t : Nat} {ls : List (List Int)} (h : SyAt w B g t ls) (k : Nat) (xs : List Int) (hx : ls[k]? = some xs) (hd : ∀ d ∈ xs, 0 ≤ d) (hxl : xs.length ≤ 1000)
    (ra : Option Addr) (rn rc hi : Nat) (rs : List Bool) (hn : rs.length = rn) (hl : Lies w 0 hi (.slice ra rn rc) rn 1 (rs.flatMap boolCells)) (hh : hi ≤ w.heap.size) :
    Calls Try.prog 29 #[.pointer (some ⟨g, 0, none⟩), .int .i64 k, .slice ra rn rc] w fun e w' => e = .returned (choA (openV xs rs (k : Int))) ∧ Below w.heap.size w w' := by
  have CR := Lib.hid (fun (j : Nat) (W : World) (hb : Below w.heap.size w W) => gready_any j ra rn rc W 0 hi rs hn (hl.keep (SameIn.of_below hb hh)))
  obtain ⟨ao, cap, vs, _, hbox, hrow, hdn⟩ := h
  have hkl := (List.getElem?_eq_some_iff.1 hx).1
  obtain ⟨v, hv⟩ : ∃ v, vs[k]? = some v := ⟨_, List.getElem?_eq_getElem (by rw [hdn.1]; exact hkl)⟩
  have hvl := hdn.at hv hx
  obtain ⟨da, dc, rfl, _⟩ := id hvl
  obtain ⟨a2, c2, ee, _, _, hc⟩ := id hrow
  cases ee
  rcases hc with h0 | ⟨b, off, rfl, hb1, hb2, hc⟩
  · omega
  obtain ⟨ln, hln⟩ : ∃ ln, ln = ls.length := ⟨_, rfl⟩
  obtain ⟨n, hnn⟩ : ∃ n, n = xs.length := ⟨_, rfl⟩
  have ck := hc k _ hv
  have cg : w.cell? ⟨g, 1, none⟩ = some (.slice (some ⟨b, off, none⟩) ln cap) := by rw [hln]; exact cell_in hbox rfl
  have hgl := lt_of_block hbox
  rw [← hln] at hkl
  rw [← hnn] at ck hvl hxl
  obtain ⟨V, hV⟩ : ∃ V, V = w.alloc (.cells #[.int .i64 0, .int .i64 0, .int .i64 0] 54) := ⟨_, rfl⟩
  obtain ⟨E, hE⟩ : ∃ E, E = w.heap.size := ⟨_, rfl⟩
  have hbV : Below w.heap.size w V := by rw [hV]; exact below1 _ _
  have hEV : V.heap[E]? = some (.cells #[.int .i64 0, .int .i64 0, .int .i64 0] 54 (0, 0)) := by rw [hV, hE]; exact heap_alloc_new _ _
  have KX : Hid (∀ W : World, Below V.heap.size V W → W.heap[E]? = some (.cells #[.int .i64 0, .int .i64 0, .int .i64 0] 54 (0, 0)) ∧ W.cell? ⟨g, 1, none⟩ = some (.slice (some ⟨b, off, none⟩) ln cap) ∧ W.cell? ⟨b, off + k, none⟩ = some (.slice da n dc)) := Lib.hid (fun W hW => by
    have a2 := (hW.block E (lt_of_block hEV)).trans hEV
    have hw : Below w.heap.size w W := hbV.trans (hW.mono hbV.size)
    exact ⟨a2, (hw.cell (p := ⟨g, 1, none⟩) hgl).trans cg, (hw.cell (p := ⟨b, off + k, none⟩) (by show b < _; omega)).trans ck⟩)
  have KD : Hid (∀ (j : Nat) (W : World), j < n → Below w.heap.size w W → ∃ (b off m : Nat), da = some ⟨b, off, none⟩ ∧ xs[j]? = some (m : Int) ∧ W.cell? ⟨b, off + j, none⟩ = some (.int .i64 m)) := Lib.hid (fun j W hj hW => by
    obtain ⟨a3, c3, ee, _, _, hc3⟩ := hvl.keep (SameIn.of_below hW (Nat.le_refl _))
    cases ee
    rcases hc3 with h0 | ⟨b3, off3, rfl, _, _, hc3⟩
    · omega
    have hj2 : xs[j]? = some (xs[j]'(by omega)) := List.getElem?_eq_getElem (by omega)
    have e := flat_at intCells 1 (fun _ => rfl) xs j 0 _ hj2 (by omega)
    simp only [Nat.mul_one, Nat.add_zero] at e
    have h5 := hd _ (List.mem_of_getElem? hj2)
    refine ⟨b3, off3, (xs[j]'(by omega)).toNat, rfl, by rw [hj2]; congr 1; omega, ?_⟩
    rw [show (((xs[j]'(by omega)).toNat : Nat) : Int) = xs[j]'(by omega) by omega]
    exact hc3 j _ (by rw [e]; rfl))
  have HV := Lib.hid hV
  have HE := Lib.hid hE
  have HBV := Lib.hid hbV
  have HNN := Lib.hid hnn
  have l0 : (0 : Int) ≤ (k : Int) := by omega
  have l1 : (k : Int) < (ln : Int) := by omega
  clear hV hE hEV hbV hx hd hl hn hv hvl hdn hrow hc hbox ck cg hln hnn
  go_enter Try.func29, Try.ntmps29
  go_upto_region 1 with fail
  rw [← HV.out, ← HE.out]
  cases hr : rdyV rs (k : Int) with
  | true =>
    have HR := Lib.hid hr; clear hr
    go_wp2_with (first | (go_at_call 42; refine (CR.out k _ HBV.out).mono ?_; rintro e w1 ⟨rfl, hb1⟩; rw [HR.out]; have hb1' : Below V.heap.size V w1 := hb1; have k1 := (KX.out w1 hb1').1; have y0 := free_in k1 0; have y1 := free_in k1 1; have y2 := free_in k1 2; have z0 := cell_in k1 (j := 0) rfl; have z1 := cell_in k1 (j := 1) rfl; have z2 := cell_in k1 (j := 2) rfl; have K1 := Lib.hid k1; clear k1 hb1'))
    have hX := set3g K1.out rfl (.int .i64 0) (.int .i64 k) (.int .i64 k)
    refine bodyPost_ret (results_cell_row (P := Try.prog) rfl _ _ E _ _ (0, 0) _ rfl hX Try.underlying54 rfl Try.sizeCho) rfl ?_
    exact ⟨cho_ret (openV_own HR.out), set3_below (HBV.out.trans (hb1.mono HBV.out.size)) (by rw [HE.out]; exact Nat.le_refl _) _ _ _⟩
  | false =>
    have HR := Lib.hid hr; clear hr
    go_wp2_with (first | (go_at_call 42; refine (CR.out k _ HBV.out).mono ?_; rintro e w1 ⟨rfl, hb1⟩; rw [HR.out]; obtain ⟨k1, k2, k3⟩ := KX.out w1 hb1))
    go_loopw [23] (fun s wr => ∃ j : Nat, j ≤ n ∧ s = .int .i64 j ∧ Hid (∀ (i : Nat) (q : Int), i < j → xs[i]? = some q → rdyV rs q = false) ∧ Hid (Below V.heap.size V wr)) (fun s _ => n - (intOf s).toNat)
    case atStart => exact ⟨0, Nat.zero_le _, rfl, Lib.hid (fun i q hi => by omega), Lib.hid hb1⟩
    case round =>
      clear hb1 k1 k2 k3
      obtain ⟨j, hj, rfl, HA, HB⟩ := hrel
      by_cases hlt : j < n
      · have t0 : decide ((j : Int) < (n : Int)) = true := decide_eq_true (by omega)
        have j0 : (0 : Int) ≤ (j : Int) := by omega
        have j1 : (j : Int) < (n : Int) := by omega
        obtain ⟨bd, od, m, ed, hm, cm⟩ := KD.out j wr hlt (HBV.out.trans (HB.out.mono HBV.out.size))
        subst ed
        have HM := Lib.hid hm; clear hm
        cases hr2 : rdyV rs (m : Int) with
        | true =>
          have HR2 := Lib.hid hr2; clear hr2
          go_wp2_with (first | (go_at_call 42; refine (CR.out m _ (HBV.out.trans (HB.out.mono HBV.out.size))).mono ?_; rintro e w2 ⟨rfl, hb2⟩; rw [HR2.out]; have hb2' : Below V.heap.size V w2 := HB.out.trans (hb2.mono HB.out.size); have k1 := (KX.out w2 hb2').1; have y0 := free_in k1 0; have y1 := free_in k1 1; have y2 := free_in k1 2; have z0 := cell_in k1 (j := 0) rfl; have z1 := cell_in k1 (j := 1) rfl; have z2 := cell_in k1 (j := 2) rfl; have K1 := Lib.hid k1; have HB2 := Lib.hid hb2'; clear k1 hb2'))
          have hX := set3g K1.out rfl (.int .i64 1) (.int .i64 k) (.int .i64 m)
          refine bodyPost_ret (results_cell_row (P := Try.prog) rfl _ _ E _ _ (0, 0) _ rfl hX Try.underlying54 rfl Try.sizeCho) rfl ?_
          exact ⟨cho_ret (openV_given HR.out HM.out HR2.out HA.out), set3_below (HBV.out.trans (HB2.out.mono HBV.out.size)) (by rw [HE.out]; exact Nat.le_refl _) _ _ _⟩
        | false =>
          have HR2 := Lib.hid hr2; clear hr2
          go_wp2_with (first | (go_at_call 42; refine (CR.out m _ (HBV.out.trans (HB.out.mono HBV.out.size))).mono ?_; rintro e w2 ⟨rfl, hb2⟩; rw [HR2.out]))
          go_roundw
          case rel => exact ⟨j + 1, by omega, by go_num, Lib.hid (fun i q hi hq => by
            rcases Nat.lt_or_ge i j with h | h
            · exact HA.out i q h hq
            · have : i = j := by omega
              subst this; rw [HM.out] at hq; cases hq; exact HR2.out), Lib.hid (HB.out.trans (hb2.mono HB.out.size))⟩
          case measure => simp [intOf]; omega
      · have t0 : decide ((j : Int) < (n : Int)) = false := decide_eq_false (by omega)
        have k1 := (KX.out wr HB.out).1
        have y0 := free_in k1 0
        have y1 := free_in k1 1
        have y2 := free_in k1 2
        have z0 := cell_in k1 (j := 0) rfl
        have z1 := cell_in k1 (j := 1) rfl
        have z2 := cell_in k1 (j := 2) rfl
        have K1 := Lib.hid k1
        clear k1
        go_wp2_with fail
        have hX := set3g K1.out rfl (.int .i64 2) (.int .i64 k) (.int .i64 (-1))
        refine bodyPost_ret (results_cell_row (P := Try.prog) rfl _ _ E _ _ (0, 0) _ rfl hX Try.underlying54 rfl Try.sizeCho) rfl ?_
        exact ⟨cho_ret (openV_lost HR.out (fun i q hq => HA.out i q (by have := (List.getElem?_eq_some_iff.1 hq).1; have := HNN.out; omega) hq)), set3_below (HBV.out.trans (HB.out.mono HBV.out.size)) (by rw [HE.out]; exact Nat.le_refl _) _ _ _⟩
end Go.Proofs.Ytmkohnpdpcefgaa
