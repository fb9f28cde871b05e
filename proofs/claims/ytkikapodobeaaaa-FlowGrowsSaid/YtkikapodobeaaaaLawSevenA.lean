/- Statements of the layer of who may learn of whom: the edges of any system; who leads into any partitions. -/
import Derived.Test.YtkikapodobeaaaaFlowV
import Derived.Laws.StructEq
import Derived.ChangeKeysEq
namespace Go.Proofs.Ytkikapodobeaaaa
open Go.ChangeShapes Go.WideShapes Go.ChangeAt Go.RowKit
set_option linter.unusedVariables false
attribute [local go_sem ↓] Go.wp_at_zero Go.wp_at_succ

theorem eqInRE (a0 a1 b0 b1 : Int) (w : World) : (Op.equalIn 10000 40 (.agg #[.int .i64 a0, .int .i64 a1]) (.agg #[.int .i64 b0, .int .i64 b1])).run Try.prog w = .ok (a0 == b0 && a1 == b1) w := by
  have hp : Try.prog.stoodInHeld 40 = false := by kernel_rfl
  have ht : Try.prog.underlying 40 = some (.struct (Try.prog.fieldsOf 40)) := by simp [Program.fieldsOf, Try.underlying40]
  rw [show (10000 : Nat) = 9999 + 1 from rfl, run_equalIn_agg w 9999 _ _ _ ht hp]
  have rI := fun (a b : Int) => run_equalIn_int (P := Try.prog) w 9998 3 .i64 .i64 a b Try.underlying3
  simp [Op.eqFields, part, Program.fieldsOf, Try.underlying40, rI]
  (repeat' split) <;> simp_all
theorem bel3 {a b d : World} (h : Below a.heap.size a b) (k : Below b.heap.size b d) : Below a.heap.size a d := h.trans (k.mono h.size)
/-- A system of the document's in its box. -/
theorem box_cells {w V : World} {fr mg : Int} {wa pa ca : Option Addr} {wn wc pn pc cn cc : Nat} {t : TypeId} (hblk : V.heap[w.heap.size]? = some (.cells #[.int .i64 fr, .int .i64 mg, .slice wa wn wc, .slice pa pn pc, .slice ca cn cc] t (0, 0))) : ∀ W : World, Below V.heap.size V W → (W.cell? ⟨w.heap.size, 0, none⟩ = some (.int .i64 fr) ∧ W.cell? ⟨w.heap.size, 1, none⟩ = some (.int .i64 mg) ∧ W.cell? ⟨w.heap.size, 2, none⟩ = some (.slice wa wn wc) ∧ W.cell? ⟨w.heap.size, 3, none⟩ = some (.slice pa pn pc) ∧ W.cell? ⟨w.heap.size, 4, none⟩ = some (.slice ca cn cc)) := by
  intro W g
  have q := fun (i : Nat) (u : Value) hu => (g.cell (p := ⟨w.heap.size, i, none⟩) (lt_of_block hblk)).trans (cell_in (j := i) (u := u) hblk hu)
  exact ⟨q 0 _ rfl, q 1 _ rfl, q 2 _ rfl, q 3 _ rfl, q 4 _ rfl⟩
set_option maxRecDepth 100000 in
set_option maxHeartbeats 4000000 in
theorem FlowEdges_body (wa pa ca : Option Addr) (wc pc cc : Nat) (w : World) (c : Cf) (pvs : List Pv) (h : SysL w w.heap.size c pvs wa pa ca wc pc cc) :
    Calls Try.prog 3 #[.agg #[.int .i64 c.frame, .int .i64 c.margin, .slice wa c.ws.length wc, .slice pa c.ps.length pc, .slice ca c.cs.length cc]] w fun e w' => e = .returned (.bool true) ∧ Below w.heap.size w w' := by
  obtain ⟨V, hV⟩ : ∃ V, V = w.alloc (.cells #[.int .i64 c.frame, .int .i64 c.margin, .slice wa c.ws.length wc, .slice pa c.ps.length pc, .slice ca c.cs.length cc] 26) := ⟨_, rfl⟩
  have hB1 : Below w.heap.size w V := by rw [hV]; exact below1 _ _
  have hblk : V.heap[w.heap.size]? = some (.cells #[.int .i64 c.frame, .int .i64 c.margin, .slice wa c.ws.length wc, .slice pa c.ps.length pc, .slice ca c.cs.length cc] 26 (0, 0)) := by rw [hV]; exact heap_alloc_new _ _
  have ks := box_cells hblk
  have SV : SysL V w.heap.size c pvs wa pa ca wc pc cc := h.keep (SameIn.of_below hB1 (Nat.le_refl _))
  have CL := Lib.hid (light_any c.frame c.margin wa pa ca c.ws.length wc c.ps.length pc c.cs.length cc V 0 w.heap.size c pvs rfl rfl rfl SV.l2 SV.l3 hB1.size)
  have KS := Lib.hid ks; have HB1 := Lib.hid hB1; have HS := Lib.hid SV; have HV := Lib.hid hV; have HSZ := Lib.hid hB1.size
  clear ks hB1 SV hV hblk h
  cases hlt : lightB c with
  | false =>
    have HLT := Lib.hid hlt; clear hlt
    go_enter Try.func3, Try.ntmps3
    go_wp2_with (first
      | (go_at_call 7; rw [← HV.out]; refine CL.out.mono ?_; rintro e w1 ⟨rfl, hb1⟩; rw [HLT.out])
      | (go_at_call 8; refine (knows7_any _).mono ?_; rintro e w2 ⟨rfl, hb2⟩))
    go_ret
    exact ⟨rfl, HB1.out.trans ((bel3 hb1 hb2).mono HB1.out.size)⟩
  | true =>
    have hf := light_bounds hlt
    have HF := Lib.hid hf
    have hel : (edgesI c).length ≤ 1000000 := by
      rw [edgesI_is]
      have h1 := allTo_len c c.ps.length c.ps.length
      have h2 : c.ps.length * c.ps.length ≤ 1000 * 1000 := Nat.mul_le_mul hf.2.1 hf.2.1
      omega
    have HLT := Lib.hid hlt; clear hlt hf
    go_enter Try.func3, Try.ntmps3
    go_wp2_with (first
      | (go_at_call 7; rw [← HV.out]; refine CL.out.mono ?_; rintro e w1 ⟨rfl, hb1⟩; rw [HLT.out]; obtain ⟨z0, z1, z2, z3, z4⟩ := KS.out _ hb1)
      | (go_at_call 10; refine (config_sys HF.out (HS.out.keep (SameIn.of_below hb1 HSZ.out)) (Nat.le_trans HSZ.out hb1.size)).mono ?_; rintro e w2 ⟨vs, i1, i2, i3, j1, j2, j3, rfl, hs2, hb2⟩)
      | (go_at_call 9; refine (edges_sys HF.out hs2 (Nat.le_refl _)).mono ?_; rintro e w3 ⟨ea, ecap, rfl, ho3, hb3⟩; obtain ⟨z0, z1, z2, z3, z4⟩ := KS.out _ (bel3 hb1 (bel3 hb2 hb3)))
      | (go_at_call 11; refine (refEdges_sys HF.out (HS.out.keep (SameIn.of_below (bel3 hb1 (bel3 hb2 hb3)) HSZ.out)) (Nat.le_trans HSZ.out (bel3 hb1 (bel3 hb2 hb3)).size)).mono ?_; rintro e w4 ⟨fa, fcap, rfl, ho4, hb4⟩))
    have H3 := Lib.hid (Lies.of_owns ho3); have H4 := Lib.hid (Lies.of_owns ho4); have HB4 := Lib.hid hb4
    have HBV := Lib.hid (bel3 hb1 (bel3 hb2 (bel3 hb3 hb4)))
    obtain ⟨l, hl⟩ : ∃ l, l = edgesI c := ⟨_, rfl⟩
    obtain ⟨n, hn⟩ : ∃ n, n = l.length := ⟨_, rfl⟩
    rw [← hl] at H3 H4 hel ⊢
    rw [← hn] at H3 H4 hel ⊢
    have HN := Lib.hid hn
    clear ho3 ho4 hb1 hb2 hb3 hb4 hs2 z0 z1 z2 z3 z4 hl hn
    go_loopw [5] (fun i wr => ∃ k : Nat, k ≤ n ∧ i = .int .i64 k ∧ Below w4.heap.size w4 wr) (fun i _ => n - (intOf i).toNat)
    case atStart => exact ⟨0, by omega, rfl, Below.refl _ _⟩
    case round =>
      obtain ⟨k, hk, rfl, hbl⟩ := hrel
      by_cases hlt : k < n
      · have tk : decide ((k : Int) < (n : Int)) = true := by simpa using hlt
        have l0 : (0 : Int) ≤ (k : Int) := by omega
        have l1 : (k : Int) < (n : Int) := by omega
        obtain ⟨x, hx⟩ : ∃ x, l[k]? = some x := ⟨_, List.getElem?_eq_getElem (by rw [← HN.out]; exact hlt)⟩
        obtain ⟨a2, c2', ee, _, _, hc⟩ := (H3.out.keep (SameIn.of_below HB4.out (Nat.le_refl _))).keep (SameIn.of_below hbl HB4.out.size)
        cases ee
        rcases hc with h0 | ⟨g1, o1, rfl, q1, q2, hc⟩
        · omega
        obtain ⟨a3, c3', ee, _, _, hd⟩ := H4.out.keep (SameIn.of_below hbl (Nat.le_refl _))
        cases ee
        rcases hd with h0 | ⟨g2, o2, rfl, q3, q4, hd⟩
        · omega
        have fx := fun j hj => flat_at eC 2 eC_len l k j x hx hj
        have c0 : wr.cell? ⟨g1, o1 + k * 2, none⟩ = some (.int .i64 x.1) := hc (k * 2) _ ((fx 0 (by omega)).trans rfl)
        have c1 : wr.cell? ⟨g1, o1 + k * 2 + 1, none⟩ = some (.int .i64 x.2) := by have := hc (k * 2 + 1) _ ((fx 1 (by omega)).trans rfl); rwa [← Nat.add_assoc] at this
        have d0 : wr.cell? ⟨g2, o2 + k * 2, none⟩ = some (.int .i64 x.1) := hd (k * 2) _ ((fx 0 (by omega)).trans rfl)
        have d1 : wr.cell? ⟨g2, o2 + k * 2 + 1, none⟩ = some (.int .i64 x.2) := by have := hd (k * 2 + 1) _ ((fx 1 (by omega)).trans rfl); rwa [← Nat.add_assoc] at this
        have hE := eqInRE x.1 x.2 x.1 x.2
        have hM : Try.prog.eqGuardType Try.prog.depth 40 = false := by kernel_rfl
        have t2 : (x.1 == x.1 && x.2 == x.2) = true := by simp
        rw [t2] at hE
        clear hx hc hd fx
        go_wp2_with fail
        go_region_held3 (fun W => W.cell? ⟨g1, o1 + k * 2, none⟩ = some (.int .i64 x.1) ∧ W.cell? ⟨g1, o1 + k * 2 + 1, none⟩ = some (.int .i64 x.2) ∧ W.cell? ⟨g2, o2 + k * 2, none⟩ = some (.int .i64 x.1) ∧ W.cell? ⟨g2, o2 + k * 2 + 1, none⟩ = some (.int .i64 x.2)) (go_keep) (fail)
        go_wp2
        go_roundw
        case rel => exact ⟨k + 1, by omega, by go_num, hbl.drew⟩
        case measure => simp [intOf]; omega
      · have tk : decide ((k : Int) < (n : Int)) = false := by simp; omega
        go_wp2_with (first | (go_at_call 8; refine (knows7_any _).mono ?_; rintro e w6 ⟨rfl, hb6⟩))
        go_ret
        exact ⟨rfl, HB1.out.trans ((bel3 (bel3 HBV.out hbl) hb6).mono HB1.out.size)⟩
end Go.Proofs.Ytkikapodobeaaaa
