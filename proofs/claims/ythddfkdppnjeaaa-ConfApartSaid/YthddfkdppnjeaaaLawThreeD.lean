/- The walk of a statement of the layer of systems, the stage's theorem: what is made apart does not see what is changed of what it was made of. -/
import Derived.Test.YthddfkdppnjeaaaApartA
import Derived.BigRegion
namespace Go.Proofs.Ythddfkdppnjeaaa
open Go.ChangeShapes Go.WideShapes Go.ChangeAt Go.RowKit
set_option linter.unusedVariables false
attribute [local go_sem ↓] Go.wp_at_zero Go.wp_at_succ

theorem TRow.len {α : Type} {w : World} {lo hi E sz : Nat} {f : α → List Value} {a : Option Addr} {n c m : Nat} (h : TRow w lo hi E sz f (.slice a n c) m) : m = n := by
  rcases h with ⟨h1, h0⟩ | ⟨g, cap, cur, hv, _⟩
  · cases h1; exact h0
  · cases hv; rfl
theorem XI.rows {w Z : World} {lo hi : Nat} {wa pa ca : Option Addr} {wn wc pn pc cn cc : Nat} {vs : List Pv} {wr : World} (h : XI w Z lo hi wa pa ca wn wc pn pc cn cc vs wr) {i : Nat} {ta sa da : Option Addr} {n1 n2 n3 tc sc dc : Nat} {a0 a1 a2 : Int} (hv : vs[i]? = some ⟨.slice ta n1 tc, .slice sa n2 sc, .slice da n3 dc, a0, a1, a2⟩) :
    TRow wr lo hi 34 6 Tk.cells (.slice ta n1 tc) n1 ∧ TRow wr lo hi 36 3 Sv.cells (.slice sa n2 sc) n2 ∧ TRow wr lo hi 3 1 intCells (.slice da n3 dc) n3 := by
  obtain ⟨m1, m2, m3, _, _, _, t1, t2, t3⟩ := h.parts i _ hv
  have e1 := t1.len; have e2 := t2.len; have e3 := t3.len
  subst e1; subst e2; subst e3
  exact ⟨t1, t2, t3⟩
theorem XI.part {w Z : World} {lo hi : Nat} {wa pa ca : Option Addr} {wn wc pn pc cn cc : Nat} {vs : List Pv} {wr : World} (h : XI w Z lo hi wa pa ca wn wc pn pc cn cc vs wr) {i : Nat} {v : Pv} (hv : vs[i]? = some v) : ∃ ta sa da n1 n2 n3 tc sc dc a0 a1 a2, n1 ≤ 1000 ∧ n2 ≤ 1000 ∧ n3 ≤ 1000 ∧ v = ⟨.slice ta n1 tc, .slice sa n2 sc, .slice da n3 dc, a0, a1, a2⟩ := by
  obtain ⟨m1, m2, m3, b1, b2, b3, t1, t2, t3⟩ := h.parts i _ hv
  obtain ⟨ta, tc, e1⟩ := t1.slice; obtain ⟨sa, sc, e2⟩ := t2.slice; obtain ⟨da, dc, e3⟩ := t3.slice
  obtain ⟨v0, v1, v2, v3, v4, v5⟩ := v
  simp only at e1 e2 e3
  subst e1; subst e2; subst e3
  exact ⟨ta, sa, da, m1, m2, m3, tc, sc, dc, v3, v4, v5, b1, b2, b3, rfl⟩
/-- A partition's cells in the row. -/
theorem XI.cells {w Z : World} {lo hi : Nat} {wa pa ca : Option Addr} {wn wc pn pc cn cc : Nat} {vs : List Pv} {wr : World} (h : XI w Z lo hi wa pa ca wn wc pn pc cn cc vs wr) {g : Nat} (e : pa = some ⟨g, 0, none⟩) {i : Nat} {v : Pv} (hv : vs[i]? = some v) : wr.cell? ⟨g, i * 6, none⟩ = some v.ts ∧ wr.cell? ⟨g, i * 6 + 1, none⟩ = some v.ss ∧ wr.cell? ⟨g, i * 6 + 2, none⟩ = some v.ds := by
  subst e
  have hrow : ∀ j u, (vs.flatMap Pv.cells)[j]? = some u → wr.cell? ⟨g, 0 + j, none⟩ = some u := fun j u hu => by
    rw [Nat.zero_add, h.row.cellAt j (by have := (List.getElem?_eq_some_iff.1 hu).1; rw [h.row.1] at this; exact this)]; exact hu
  obtain ⟨r0, r1, r2, _, _, _⟩ := Lies.pv hrow hv
  rw [Nat.zero_add] at r0 r1 r2
  exact ⟨r0, r1, r2⟩
theorem AllOwn.nth {w : World} {base E1 E2 EI : Nat} {vs : List Pv} {ps : List Pt} (h : AllOwn w base E1 E2 EI vs ps) {i : Nat} {v : Pv} (hv : vs[i]? = some v) : ∃ p, p ∈ ps ∧ PtOwns w base E1 E2 EI v p := by
  induction h generalizing i with
  | nil => simp at hv
  | @cons v0 p vs ps hp _ ih =>
    cases i with
    | zero => simp at hv; subst hv; exact ⟨p, by simp, hp⟩
    | succ i => obtain ⟨q, hq, ho⟩ := ih (by simpa using hv); exact ⟨q, by simp [hq], ho⟩
theorem below_go {w V W : World} (h : Below w.heap.size w V) (k : Below V.heap.size V W) : Below w.heap.size w W := h.trans (k.mono h.size)
theorem kno {E sz : Nat} {α : Type} {f : α → List Value} {off : Nat} {u : Value} {E' : Nat} (h : E' ≠ E) : E' = E → KindOk sz f off u := fun e => absurd e h

set_option maxRecDepth 100000 in
set_option maxHeartbeats 8000000 in
theorem ConfApart_body (wa pa ca : Option Addr) (wc pc cc : Nat) (w : World) (c : Cf) (pvs : List Pv) (ha : SysL w w.heap.size c pvs wa pa ca wc pc cc) :
    Calls Try.prog 6 #[.agg #[.int .i64 c.frame, .int .i64 c.margin, .slice wa c.ws.length wc, .slice pa c.ps.length pc, .slice ca c.cs.length cc]] w fun e w' => e = .returned (.bool true) ∧ Below w.heap.size w w' := by
  obtain ⟨V, hV⟩ : ∃ V, V = w.alloc (.cells #[.int .i64 c.frame, .int .i64 c.margin, .slice wa c.ws.length wc, .slice pa c.ps.length pc, .slice ca c.cs.length cc] 52) := ⟨_, rfl⟩
  have B1 : Below w.heap.size w V := by rw [hV]; exact below1 _ _
  have s1 : V.heap[w.heap.size]? = some (.cells #[.int .i64 c.frame, .int .i64 c.margin, .slice wa c.ws.length wc, .slice pa c.ps.length pc, .slice ca c.cs.length cc] 52 (0, 0)) := by rw [hV]; exact heap_alloc_new w _
  have cla : ∀ W : World, Below w.heap.size w W → Calls Try.prog 17 #[.agg #[.int .i64 c.frame, .int .i64 c.margin, .slice wa c.ws.length wc, .slice pa c.ps.length pc, .slice ca c.cs.length cc]] W fun e w' => e = .returned (.bool (lightB c)) ∧ Below W.heap.size W w' := fun W h =>
    light_any _ _ _ _ _ _ _ _ _ _ _ W 0 w.heap.size c pvs rfl rfl rfl (ha.l2.keep (SameIn.of_below h (Nat.le_refl _))) (ha.l3.keep (SameIn.of_below h (Nat.le_refl _))) h.size
  have CLA := Lib.hid cla; have HB1 := Lib.hid B1; have HA := Lib.hid ha; have HV := Lib.hid hV; have S1 := Lib.hid s1
  clear cla ha hV s1
  cases hla : lightB c with
  | false =>
    have HLA := Lib.hid hla; clear hla
    go_enter Try.func6, Try.ntmps6
    go_wp2_with fail
    rw [← HV.out]
    refine (CLA.out _ HB1.out).mono ?_
    rintro e w1 ⟨rfl, hb1⟩
    rw [HLA.out]
    go_wp2_with (first | (go_at_call 8; refine (knows3_any _).mono ?_; rintro e w2 ⟨rfl, hb2⟩))
    go_ret
    exact ⟨rfl, HB1.out.trans ((bel_go2 hb1 hb2).mono HB1.out.size)⟩
  | true =>
    have HFA := Lib.hid (light_bounds hla)
    have HLA := Lib.hid hla; clear hla
    go_enter Try.func6, Try.ntmps6
    go_wp2_with fail
    rw [← HV.out]
    refine (CLA.out _ HB1.out).mono ?_
    rintro e w1 ⟨rfl, hb1⟩
    rw [HLA.out]
    go_wp2_with fail
    refine (knows3_any _).mono ?_
    rintro e w15 ⟨rfl, hb15⟩
    have hv15 := bel_go2 hb1 hb15
    have z1 := lt_of_block S1.out
    have a0 := (hv15.cell (p := ⟨w.heap.size, 0, none⟩) z1).trans (cell_in S1.out rfl)
    have a1 := (hv15.cell (p := ⟨w.heap.size, 1, none⟩) z1).trans (cell_in S1.out rfl)
    have a2 := (hv15.cell (p := ⟨w.heap.size, 2, none⟩) z1).trans (cell_in S1.out rfl)
    have a3 := (hv15.cell (p := ⟨w.heap.size, 3, none⟩) z1).trans (cell_in S1.out rfl)
    have a4 := (hv15.cell (p := ⟨w.heap.size, 4, none⟩) z1).trans (cell_in S1.out rfl)
    have HV15 := Lib.hid hv15
    have HW15 := Lib.hid (below_go HB1.out hv15)
    clear hb1 hb15 hv15 B1
    go_wp2_with fail
    obtain ⟨f1, f2, f3, f4⟩ := HFA.out
    refine (config_any c.frame c.margin wa pa ca _ wc _ pc _ cc w15 0 w.heap.size c pvs rfl rfl rfl (HA.out.l1.keep (SameIn.of_below HW15.out (Nat.le_refl _))) (HA.out.l2.keep (SameIn.of_below HW15.out (Nat.le_refl _))) (HA.out.l3.keep (SameIn.of_below HW15.out (Nat.le_refl _))) (HA.out.l4.keep (SameIn.of_below HW15.out (Nat.le_refl _))) HW15.out.size f1 f2 f3 f4).mono ?_
    rintro e w2 ⟨wx, wxc, px, pxc, cx, cxc, vs, rfl, o1, o2, o3, o4, hb2⟩
    have HO1 := Lib.hid o1; have HO2 := Lib.hid o2; have HO3 := Lib.hid o3; have HO4 := Lib.hid o4; have HB2 := Lib.hid hb2; have HF4 := Lib.hid f4
    clear o1 o2 o3 o4 hb2 a0 a1 a2 a3 a4 f4
    have y0 : (w2.alloc (.cells #[.int .i64 c.frame, .int .i64 c.margin, .slice wx c.ws.length wxc, .slice px c.ps.length pxc, .slice cx c.cs.length cxc] 58)).cell? ⟨w2.heap.size, 0, none⟩ = _ := cell_in (heap_alloc_new w2 _) rfl
    have y1 : (w2.alloc (.cells #[.int .i64 c.frame, .int .i64 c.margin, .slice wx c.ws.length wxc, .slice px c.ps.length pxc, .slice cx c.cs.length cxc] 58)).cell? ⟨w2.heap.size, 1, none⟩ = _ := cell_in (heap_alloc_new w2 _) rfl
    have y2 : (w2.alloc (.cells #[.int .i64 c.frame, .int .i64 c.margin, .slice wx c.ws.length wxc, .slice px c.ps.length pxc, .slice cx c.cs.length cxc] 58)).cell? ⟨w2.heap.size, 2, none⟩ = _ := cell_in (heap_alloc_new w2 _) rfl
    have y3 : (w2.alloc (.cells #[.int .i64 c.frame, .int .i64 c.margin, .slice wx c.ws.length wxc, .slice px c.ps.length pxc, .slice cx c.cs.length cxc] 58)).cell? ⟨w2.heap.size, 3, none⟩ = _ := cell_in (heap_alloc_new w2 _) rfl
    have y4 : (w2.alloc (.cells #[.int .i64 c.frame, .int .i64 c.margin, .slice wx c.ws.length wxc, .slice px c.ps.length pxc, .slice cx c.cs.length cxc] 58)).cell? ⟨w2.heap.size, 4, none⟩ = _ := cell_in (heap_alloc_new w2 _) rfl
    go_wp2_with fail
    have hb1 := below1 w2 (.cells #[.int .i64 c.frame, .int .i64 c.margin, .slice wx c.ws.length wxc, .slice px c.ps.length pxc, .slice cx c.cs.length cxc] 58)
    refine (clone_any c.frame c.margin wx px cx _ wxc _ pxc _ cxc (w2.alloc (.cells #[.int .i64 c.frame, .int .i64 c.margin, .slice wx c.ws.length wxc, .slice px c.ps.length pxc, .slice cx c.cs.length cxc] 58)) (w15.heap.size + 2) w2.heap.size c vs rfl rfl rfl ((Lies.of_owns HO1.out).keep (SameIn.of_below hb1 (Nat.le_refl _))) ((Lies.of_owns HO2.out).keep (SameIn.of_below hb1 (Nat.le_refl _))) (HO3.out.lies.keep (SameIn.of_below hb1 (Nat.le_refl _))) ((Lies.of_owns HO4.out).keep (SameIn.of_below hb1 (Nat.le_refl _))) hb1.size f1 f2 f3 HF4.out).mono ?_
    rintro e w3 ⟨wy, wyc, py, pyc, cy, cyc, us, rfl, p1, p2, p3, p4, hb3⟩
    go_wp2_with fail
    obtain ⟨Z, hZ⟩ : ∃ Z, Z = w3.alloc (.cells #[.int .i64 c.frame, .int .i64 c.margin, .slice wy c.ws.length wyc, .slice py c.ps.length pyc, .slice cy c.cs.length cyc] 58) := ⟨_, rfl⟩
    rw [← hZ]
    have hbZ : Below w3.heap.size w3 Z := by rw [hZ]; exact below1 _ _
    have b2Z : Below w2.heap.size w2 Z := below_go (below_go hb1 hb3) hbZ
    have b15Z : Below w15.heap.size w15 Z := below_go HB2.out b2Z
    have bVZ : Below V.heap.size V Z := below_go HV15.out b15Z
    have bwZ : Below w.heap.size w Z := below_go HB1.out bVZ
    have hX : Z.heap[w2.heap.size]? = some (.cells #[.int .i64 c.frame, .int .i64 c.margin, .slice wx c.ws.length wxc, .slice px c.ps.length pxc, .slice cx c.cs.length cxc] 58 (0, 0)) := (hbZ.block _ (by have := hb3.size; simp at this; omega)).trans ((hb3.block _ (by simp)).trans (heap_alloc_new w2 _))
    have hY : Z.heap[w3.heap.size]? = some (.cells #[.int .i64 c.frame, .int .i64 c.margin, .slice wy c.ws.length wyc, .slice py c.ps.length pyc, .slice cy c.cs.length cyc] 58 (0, 0)) := by rw [hZ]; exact heap_alloc_new w3 _
    have hC : Z.heap[w.heap.size]? = some (.cells #[.int .i64 c.frame, .int .i64 c.margin, .slice wa c.ws.length wc, .slice pa c.ps.length pc, .slice ca c.cs.length cc] 52 (0, 0)) := (bVZ.block _ z1).trans S1.out
    have hs3 : w2.heap.size + 1 ≤ w3.heap.size := by have := hb3.size; simpa using this
    have hs15 : w.heap.size < w15.heap.size := Nat.lt_of_lt_of_le z1 HV15.out.size
    have hsy : ∃ L, L = w15.heap.size + 2 := ⟨_, rfl⟩
    obtain ⟨L, hL⟩ := hsy
    have hwL : w.heap.size < L := by omega
    have same2 : ∀ {E : Nat} (b : Nat) (cs : Array Value), w2.heap[b]? = some (.cells cs E (0, 0)) → Z.heap[b]? = some (.cells cs E (0, 0)) := fun b cs h => (b2Z.block b (lt_of_block h)).trans h
    have hX0 : XI w Z L w2.heap.size wx px cx c.ws.length wxc c.ps.length pxc c.cs.length cxc vs Z := by
      subst hL
      refine ⟨fun _ _ => rfl, rfl, bwZ, (TRow.of_owns (f := Wn.cells) (fun _ => rfl) HO1.out (Nat.le_refl _)).same same2, (TRow.of_owns (f := Ch.cells) (fun _ => rfl) HO4.out (Nat.le_refl _)).same same2, owns_later HO2.out b2Z, fun i v hv => ?_⟩
      obtain ⟨p, hp, hpo⟩ := AllOwn.nth HO3.out hv
      obtain ⟨m1, m2, m3⟩ := HF4.out p hp
      exact ⟨_, _, _, m1, m2, m3, (TRow.of_owns (f := Tk.cells) (fun _ => rfl) hpo.o1 (Nat.le_refl _)).same same2, (TRow.of_owns (f := Sv.cells) (fun _ => rfl) hpo.o2 (Nat.le_refl _)).same same2, (TRow.of_owns (f := intCells) (fun _ => rfl) hpo.o3 (Nat.le_refl _)).same same2⟩
    have hvl : vs.length = c.ps.length := HO3.out.length
    have hYS : SysL Z w3.heap.size c us wy py cy wyc pyc cyc ∧ ∀ W : World, (∀ b, b < L ∨ w2.heap.size ≤ b → W.heap[b]? = Z.heap[b]?) → SysL W w3.heap.size c us wy py cy wyc pyc cyc := by
      have sm := SameIn.of_below hbZ (lo := w2.heap.size + 1 + 2) (Nat.le_refl _)
      simp only [World.size_alloc] at p1 p2 p3 p4
      have l1 := (Lies.of_owns p1).keep sm; have l2 := (Lies.of_owns p2).keep sm; have l3 := p3.lies.keep sm; have l4 := (Lies.of_owns p4).keep sm
      refine ⟨⟨l1.wider (Nat.zero_le _) (Nat.le_refl _), l2.wider (Nat.zero_le _) (Nat.le_refl _), l3.wider (Nat.zero_le _) (Nat.le_refl _), l4.wider (Nat.zero_le _) (Nat.le_refl _)⟩, fun W hW => ?_⟩
      have sw : SameIn Z W (w2.heap.size + 1 + 2) w3.heap.size := fun b h1 _ => hW b (.inr (by omega))
      exact ⟨(l1.keep sw).wider (Nat.zero_le _) (Nat.le_refl _), (l2.keep sw).wider (Nat.zero_le _) (Nat.le_refl _), (l3.keep sw).wider (Nat.zero_le _) (Nat.le_refl _), (l4.keep sw).wider (Nat.zero_le _) (Nat.le_refl _)⟩
    have HX0 := Lib.hid hX0; have HX := Lib.hid hX; have HY := Lib.hid hY; have HC := Lib.hid hC; have HYS := Lib.hid hYS; have HVL := Lib.hid hvl; have HZ := Lib.hid hZ; have HwL := Lib.hid hwL; have HBZ := Lib.hid bwZ; have HZ3 := Lib.hid hbZ.size; have Hs3 := Lib.hid hs3
    clear hX0 hX hY hC hYS hvl hZ hwL bwZ hbZ b2Z b15Z bVZ same2 hL p1 p2 p3 p4 hb3 hb1 y0 y1 y2 y3 y4 z1 hs15 hs3 HO1 HO2 HO3 HO4 HB2 HF4 HV15 HLA CLA
    go_loopw [5] (fun i wr => ∃ k : Nat, k ≤ c.ws.length ∧ i = .int .i64 k ∧ Hid (XI w Z L w2.heap.size wx px cx c.ws.length wxc c.ps.length pxc c.cs.length cxc vs wr)) (fun i _ => c.ws.length - (intOf i).toNat)
    case atStart => exact ⟨0, Nat.zero_le _, rfl, HX0⟩
    case round =>
      clear HX0
      obtain ⟨k, hk, rfl, HP⟩ := hrel
      have B2 : wr.cell? ⟨w2.heap.size, 2, none⟩ = some (.slice wx c.ws.length wxc) := cell_in ((HP.out.out _ (.inr (Nat.le_refl _))).trans HX.out) rfl
      by_cases hlt : k < c.ws.length
      · have tk : decide ((k : Int) < (c.ws.length : Int)) = true := by simpa using hlt
        obtain ⟨g, cap, cur, x, hv, hg1, hg2, hgc, hc⟩ := HP.out.tw.cells hlt
        cases hv
        have l0 : (0 : Int) ≤ (k : Int) := by omega
        have l1 : (k : Int) < (c.ws.length : Int) := by omega
        have r0 : wr.cell? ⟨g, k * 3, none⟩ = some (.int .i64 x.at_) := hc 0 _ rfl
        have r1 : wr.cell? ⟨g, k * 3 + 1, none⟩ = some (.int .i64 x.len) := hc 1 _ rfl
        have q0 := free_in hgc (k * 3)
        have ne1 : g ≠ w2.heap.size := by omega
        have ne2 : w2.heap.size ≠ g := by omega
        have HG := Lib.hid hgc; clear hgc hc
        go_wp2_with fail
        go_region
        go_wp2_with fail
        go_roundw
        case rel => exact ⟨k + 1, by omega, by go_num, Lib.hid ((HP.out.write (by have := HwL.out; omega) HG.out hg1 hg2 (k * 3) (.int .i64 x.len) (by decide) (fun _ => kindWn k _) (kno (by decide)) (kno (by decide)) (kno (by decide)) (kno (by decide))).drew)⟩
        case measure => simp [intOf]; omega
      · have tk : decide ((k : Int) < (c.ws.length : Int)) = false := by simp; omega
        have HX1 := HP; clear HP
        go_wp2_with fail
        go_loopw [6] (fun i wr => ∃ k : Nat, k ≤ c.cs.length ∧ i = .int .i64 k ∧ Hid (XI w Z L w2.heap.size wx px cx c.ws.length wxc c.ps.length pxc c.cs.length cxc vs wr)) (fun i _ => c.cs.length - (intOf i).toNat)
        case atStart => exact ⟨0, Nat.zero_le _, rfl, HX1⟩
        case round =>
          clear HX1
          obtain ⟨k, hk, rfl, HP⟩ := hrel
          have B2 : wr.cell? ⟨w2.heap.size, 4, none⟩ = some (.slice cx c.cs.length cxc) := cell_in ((HP.out.out _ (.inr (Nat.le_refl _))).trans HX.out) rfl
          by_cases hlt : k < c.cs.length
          · have tk : decide ((k : Int) < (c.cs.length : Int)) = true := by simpa using hlt
            obtain ⟨g, cap, cur, x, hv, hg1, hg2, hgc, hc⟩ := HP.out.tc.cells hlt
            cases hv
            have l0 : (0 : Int) ≤ (k : Int) := by omega
            have l1 : (k : Int) < (c.cs.length : Int) := by omega
            have r0 : wr.cell? ⟨g, k * 4, none⟩ = some (.bool x.queue) := hc 0 _ rfl
            have q0 := free_in hgc (k * 4)
            have ne1 : g ≠ w2.heap.size := by omega
            have ne2 : w2.heap.size ≠ g := by omega
            have HG := Lib.hid hgc; clear hgc hc
            go_wp2_with fail
            go_region
            go_wp2_with fail
            go_roundw
            case rel => exact ⟨k + 1, by omega, by go_num, Lib.hid ((HP.out.write (by have := HwL.out; omega) HG.out hg1 hg2 (k * 4) (.bool (!x.queue)) (by decide) (kno (by decide)) (fun _ => kindCh k _) (kno (by decide)) (kno (by decide)) (kno (by decide))).drew)⟩
            case measure => simp [intOf]; omega
          · have tk : decide ((k : Int) < (c.cs.length : Int)) = false := by simp; omega
            have HX2 := HP; clear HP
            go_wp2_with fail
            go_loopw [7] (fun i wr => ∃ k : Nat, k ≤ c.ps.length ∧ i = .int .i64 k ∧ Hid (XI w Z L w2.heap.size wx px cx c.ws.length wxc c.ps.length pxc c.cs.length cxc vs wr)) (fun i _ => c.ps.length - (intOf i).toNat)
            case atStart => exact ⟨0, Nat.zero_le _, rfl, HX2⟩
            case round =>
              clear HX2
              obtain ⟨k, hk, rfl, HP⟩ := hrel
              have B2 : wr.cell? ⟨w2.heap.size, 3, none⟩ = some (.slice px c.ps.length pxc) := cell_in ((HP.out.out _ (.inr (Nat.le_refl _))).trans HX.out) rfl
              by_cases hlt : k < c.ps.length
              · have tk : decide ((k : Int) < (c.ps.length : Int)) = true := by simpa using hlt
                obtain ⟨g, cap, ge, hg1, hg2⟩ := HP.out.row.form (by omega)
                cases ge
                obtain ⟨v, hv⟩ : ∃ x, vs[k]? = some x := ⟨_, List.getElem?_eq_getElem (by rw [HVL.out]; exact hlt)⟩
                obtain ⟨ta, sa, da, n1, n2, n3, tc, sc, dc, u0, u1, u2, d1, d2, d3, rfl⟩ := HP.out.part hv
                have HVK := Lib.hid hv; clear hv
                have l0 : (0 : Int) ≤ (k : Int) := by omega
                have l1 : (k : Int) < (c.ps.length : Int) := by omega
                go_wp2_with fail
                go_loopw [8] (fun i wr => ∃ j : Nat, j ≤ n1 ∧ i = .int .i64 j ∧ Hid (XI w Z L w2.heap.size wx (some ⟨g, 0, none⟩) cx c.ws.length wxc c.ps.length pxc c.cs.length cxc vs wr)) (fun i _ => n1 - (intOf i).toNat)
                case atStart => exact ⟨0, Nat.zero_le _, rfl, HP⟩
                case round =>
                  clear HP
                  obtain ⟨j, hj, rfl, HQ⟩ := hrel
                  have B2 : wr.cell? ⟨w2.heap.size, 3, none⟩ = some (.slice (some ⟨g, 0, none⟩) c.ps.length pxc) := cell_in ((HQ.out.out _ (.inr (Nat.le_refl _))).trans HX.out) rfl
                  have P0 : wr.cell? ⟨g, k * 6, none⟩ = some (.slice ta n1 tc) := (HQ.out.cells rfl HVK.out).1
                  by_cases hjt : j < n1
                  · have tj : decide ((j : Int) < (n1 : Int)) = true := by simpa using hjt
                    obtain ⟨h, cap', cur', x, hv, hh1, hh2, hhc, hc⟩ := (HQ.out.rows HVK.out).1.cells hjt
                    cases hv
                    have m0 : (0 : Int) ≤ (j : Int) := by omega
                    have m1 : (j : Int) < (n1 : Int) := by omega
                    have r0 : wr.cell? ⟨h, j * 6, none⟩ = some (.bool x.hi) := hc 0 _ rfl
                    have q0 := free_in hhc (j * 6)
                    have ne1 : h ≠ w2.heap.size := by omega
                    have ne2 : w2.heap.size ≠ h := by omega
                    have ne3 : h ≠ g := fun e => by
                      subst e
                      obtain ⟨cu, hcu⟩ := row_block HQ.out.row
                      rw [hcu] at hhc
                      simp at hhc
                    have ne4 : g ≠ h := fun e => ne3 e.symm
                    have HG := Lib.hid hhc; clear hhc hc
                    go_wp2_with fail
                    go_region
                    go_wp2_with fail
                    go_roundw
                    case rel => exact ⟨j + 1, by omega, by go_num, Lib.hid ((HQ.out.write (by have := HwL.out; omega) HG.out hh1 hh2 (j * 6) (.bool (!x.hi)) (by decide) (kno (by decide)) (kno (by decide)) (fun _ => kindTk j _) (kno (by decide)) (kno (by decide))).drew)⟩
                    case measure => simp [intOf]; omega
                  · have tj : decide ((j : Int) < (n1 : Int)) = false := by simp; omega
                    have HP1 := HQ; clear HQ
                    go_wp2_with fail
                    go_loopw [9] (fun i wr => ∃ j : Nat, j ≤ n2 ∧ i = .int .i64 j ∧ Hid (XI w Z L w2.heap.size wx (some ⟨g, 0, none⟩) cx c.ws.length wxc c.ps.length pxc c.cs.length cxc vs wr)) (fun i _ => n2 - (intOf i).toNat)
                    case atStart => exact ⟨0, Nat.zero_le _, rfl, HP1⟩
                    case round =>
                      clear HP1
                      obtain ⟨j, hj, rfl, HQ⟩ := hrel
                      have B2 : wr.cell? ⟨w2.heap.size, 3, none⟩ = some (.slice (some ⟨g, 0, none⟩) c.ps.length pxc) := cell_in ((HQ.out.out _ (.inr (Nat.le_refl _))).trans HX.out) rfl
                      have P0 : wr.cell? ⟨g, k * 6 + 1, none⟩ = some (.slice sa n2 sc) := (HQ.out.cells rfl HVK.out).2.1
                      by_cases hjt : j < n2
                      · have tj : decide ((j : Int) < (n2 : Int)) = true := by simpa using hjt
                        obtain ⟨h, cap', cur', x, hv, hh1, hh2, hhc, hc⟩ := (HQ.out.rows HVK.out).2.1.cells hjt
                        cases hv
                        have m0 : (0 : Int) ≤ (j : Int) := by omega
                        have m1 : (j : Int) < (n2 : Int) := by omega
                        have r0 : wr.cell? ⟨h, j * 3, none⟩ = some (.bool x.re) := hc 0 _ rfl
                        have q0 := free_in hhc (j * 3)
                        have ne1 : h ≠ w2.heap.size := by omega
                        have ne2 : w2.heap.size ≠ h := by omega
                        have ne3 : h ≠ g := fun e => by
                          subst e
                          obtain ⟨cu, hcu⟩ := row_block HQ.out.row
                          rw [hcu] at hhc
                          simp at hhc
                        have ne4 : g ≠ h := fun e => ne3 e.symm
                        have HG := Lib.hid hhc; clear hhc hc
                        go_wp2_with fail
                        go_region
                        go_wp2_with fail
                        go_roundw
                        case rel => exact ⟨j + 1, by omega, by go_num, Lib.hid ((HQ.out.write (by have := HwL.out; omega) HG.out hh1 hh2 (j * 3) (.bool (!x.re)) (by decide) (kno (by decide)) (kno (by decide)) (kno (by decide)) (fun _ => kindSv j _) (kno (by decide))).drew)⟩
                        case measure => simp [intOf]; omega
                      · have tj : decide ((j : Int) < (n2 : Int)) = false := by simp; omega
                        have HP2 := HQ; clear HQ
                        go_wp2_with fail
                        go_loopw [10] (fun i wr => ∃ j : Nat, j ≤ n3 ∧ i = .int .i64 j ∧ Hid (XI w Z L w2.heap.size wx (some ⟨g, 0, none⟩) cx c.ws.length wxc c.ps.length pxc c.cs.length cxc vs wr)) (fun i _ => n3 - (intOf i).toNat)
                        case atStart => exact ⟨0, Nat.zero_le _, rfl, HP2⟩
                        case round =>
                          clear HP2
                          obtain ⟨j, hj, rfl, HQ⟩ := hrel
                          have B2 : wr.cell? ⟨w2.heap.size, 3, none⟩ = some (.slice (some ⟨g, 0, none⟩) c.ps.length pxc) := cell_in ((HQ.out.out _ (.inr (Nat.le_refl _))).trans HX.out) rfl
                          have P0 : wr.cell? ⟨g, k * 6 + 2, none⟩ = some (.slice da n3 dc) := (HQ.out.cells rfl HVK.out).2.2
                          by_cases hjt : j < n3
                          · have tj : decide ((j : Int) < (n3 : Int)) = true := by simpa using hjt
                            obtain ⟨h, cap', cur', x, hv, hh1, hh2, hhc, hc⟩ := (HQ.out.rows HVK.out).2.2.cells hjt
                            cases hv
                            have m0 : (0 : Int) ≤ (j : Int) := by omega
                            have m1 : (j : Int) < (n3 : Int) := by omega
                            have r0 : wr.cell? ⟨h, j * 1, none⟩ = some (.int .i64 x) := hc 0 _ rfl
                            rw [Nat.mul_one] at r0
                            have q0 := free_in hhc j
                            have ne1 : h ≠ w2.heap.size := by omega
                            have ne2 : w2.heap.size ≠ h := by omega
                            have ne3 : h ≠ g := fun e => by
                              subst e
                              obtain ⟨cu, hcu⟩ := row_block HQ.out.row
                              rw [hcu] at hhc
                              simp at hhc
                            have ne4 : g ≠ h := fun e => ne3 e.symm
                            have HG := Lib.hid hhc; clear hhc hc
                            go_wp2_with fail

                            go_wp2_with fail
                            go_roundw
                            case rel => exact ⟨j + 1, by omega, by go_num, Lib.hid ((HQ.out.write (by have := HwL.out; omega) HG.out hh1 hh2 j (.int .i64 (-5)) (by decide) (kno (by decide)) (kno (by decide)) (kno (by decide)) (kno (by decide)) (fun _ => kindIn j _)))⟩
                            case measure => simp [intOf]; omega
                          · have tj : decide ((j : Int) < (n3 : Int)) = false := by simp; omega
                            have HP3 := HQ; clear HQ
                            go_wp2_with fail
                            go_wp2_with fail
                            go_roundw
                            case rel => exact ⟨k + 1, by omega, by go_num, HP3⟩
                            case measure => simp [intOf]; omega
              · have tk : decide ((k : Int) < (c.ps.length : Int)) = false := by simp; omega
                have HX3 := HP; clear HP
                have hyy := HYS.out.2 wr HX3.out.out
                have hcc := HA.out.keep (SameIn.of_below HX3.out.below (Nat.le_refl _))
                have hsz := HX3.out.size; have hz3 := HZ3.out; have hzw := HBZ.out.size; have hwz := HwL.out
                have hyl : w3.heap.size < wr.heap.size := by rw [hsz]; exact lt_of_block HY.out
                have hcl : w.heap.size < wr.heap.size := by rw [hsz]; exact lt_of_block HC.out
                have ks : ∀ W : World, Below wr.heap.size wr W → (Below wr.heap.size wr W ∧ W.cell? ⟨w3.heap.size, 0, none⟩ = some (.int .i64 c.frame) ∧ W.cell? ⟨w3.heap.size, 1, none⟩ = some (.int .i64 c.margin) ∧ W.cell? ⟨w3.heap.size, 2, none⟩ = some (.slice wy c.ws.length wyc) ∧ W.cell? ⟨w3.heap.size, 3, none⟩ = some (.slice py c.ps.length pyc) ∧ W.cell? ⟨w3.heap.size, 4, none⟩ = some (.slice cy c.cs.length cyc) ∧ W.cell? ⟨w.heap.size, 0, none⟩ = some (.int .i64 c.frame) ∧ W.cell? ⟨w.heap.size, 1, none⟩ = some (.int .i64 c.margin) ∧ W.cell? ⟨w.heap.size, 2, none⟩ = some (.slice wa c.ws.length wc) ∧ W.cell? ⟨w.heap.size, 3, none⟩ = some (.slice pa c.ps.length pc) ∧ W.cell? ⟨w.heap.size, 4, none⟩ = some (.slice ca c.cs.length cc)) := fun W h =>
                  have y1 := fun (i : Nat) (u : Value) (hu : (#[.int .i64 c.frame, .int .i64 c.margin, .slice wy c.ws.length wyc, .slice py c.ps.length pyc, .slice cy c.cs.length cyc] : Array Value)[i]? = some u) => (h.cell (p := ⟨w3.heap.size, i, none⟩) hyl).trans (cell_in ((HX3.out.out _ (.inr (by have := Hs3.out; omega))).trans HY.out) hu)
                  have y2 := fun (i : Nat) (u : Value) (hu : (#[.int .i64 c.frame, .int .i64 c.margin, .slice wa c.ws.length wc, .slice pa c.ps.length pc, .slice ca c.cs.length cc] : Array Value)[i]? = some u) => (h.cell (p := ⟨w.heap.size, i, none⟩) hcl).trans (cell_in ((HX3.out.out _ (.inl hwz)).trans HC.out) hu)
                  ⟨h, y1 0 _ rfl, y1 1 _ rfl, y1 2 _ rfl, y1 3 _ rfl, y1 4 _ rfl, y2 0 _ rfl, y2 1 _ rfl, y2 2 _ rfl, y2 3 _ rfl, y2 4 _ rfl⟩
                have cf : ∀ W : World, Below wr.heap.size wr W → Calls Try.prog 26 #[.agg #[.int .i64 c.frame, .int .i64 c.margin, .slice wy c.ws.length wyc, .slice py c.ps.length pyc, .slice cy c.cs.length cyc]] W fun e w' => ∃ vs i1 i2 i3 j1 j2 j3, e = .returned (.agg #[.int .i64 c.frame, .int .i64 c.margin, .slice i1 c.ws.length j1, .slice i2 c.ps.length j2, .slice i3 c.cs.length j3]) ∧ SysL w' w'.heap.size c vs i1 i2 i3 j1 j2 j3 ∧ Below W.heap.size W w' := fun W h =>
                  ref_sys HFA.out (hyy.keep (SameIn.of_below h (Nat.le_of_lt hyl))) (Nat.le_trans (Nat.le_of_lt hyl) h.size)
                have cr : ∀ W : World, Below wr.heap.size wr W → ∀ (vs : List Pv) (i1 i2 i3 : Option Addr) (j1 j2 j3 : Nat), SysL W W.heap.size c vs i1 i2 i3 j1 j2 j3 → Calls Try.prog 24 #[.agg #[.int .i64 c.frame, .int .i64 c.margin, .slice i1 c.ws.length j1, .slice i2 c.ps.length j2, .slice i3 c.cs.length j3], .agg #[.int .i64 c.frame, .int .i64 c.margin, .slice wa c.ws.length wc, .slice pa c.ps.length pc, .slice ca c.cs.length cc]] W fun e w' => e = .returned (.bool true) ∧ Below W.heap.size W w' := fun W h vs i1 i2 i3 j1 j2 j3 hy => by
                  have r := refSame_sys HFA.out hy ((hcc.keep (SameIn.of_below h (Nat.le_of_lt hcl))).wider (Nat.le_trans (Nat.le_of_lt hcl) h.size)) (Nat.le_refl _)
                  rw [eqCf_refl] at r
                  exact r
                have KS := Lib.hid ks; have CF := Lib.hid cf; have CR := Lib.hid cr
                clear ks cf cr hyy hcc hsz hz3 hzw hwz hyl hcl
                go_wp2_with fail
                go_region_held3 (fun W => Below wr.heap.size wr W ∧ W.cell? ⟨w3.heap.size, 0, none⟩ = some (.int .i64 c.frame) ∧ W.cell? ⟨w3.heap.size, 1, none⟩ = some (.int .i64 c.margin) ∧ W.cell? ⟨w3.heap.size, 2, none⟩ = some (.slice wy c.ws.length wyc) ∧ W.cell? ⟨w3.heap.size, 3, none⟩ = some (.slice py c.ps.length pyc) ∧ W.cell? ⟨w3.heap.size, 4, none⟩ = some (.slice cy c.cs.length cyc) ∧ W.cell? ⟨w.heap.size, 0, none⟩ = some (.int .i64 c.frame) ∧ W.cell? ⟨w.heap.size, 1, none⟩ = some (.int .i64 c.margin) ∧ W.cell? ⟨w.heap.size, 2, none⟩ = some (.slice wa c.ws.length wc) ∧ W.cell? ⟨w.heap.size, 3, none⟩ = some (.slice pa c.ps.length pc) ∧ W.cell? ⟨w.heap.size, 4, none⟩ = some (.slice ca c.cs.length cc))
                  (first | exact KS.out _ ((Below.refl _ _).drew) | exact KS.out _ (by assumption))
                  (first
                    | (go_at_call 26; refine (CF.out _ (by go_split_ands; assumption)).mono ?_; rintro e w4 ⟨vs4, i1, i2, i3, j1, j2, j3, rfl, hy, hb4⟩; have hbn : Below wr.heap.size wr w4 := (by go_split_ands; exact bel_go2 (by assumption) hb4); have HZ4 := Lib.hid hy; clear hy)
                    | (go_at_call 24; refine (CR.out _ (by go_split_ands; assumption) _ _ _ _ _ _ _ HZ4.out).mono ?_; rintro e w5 ⟨rfl, hb5⟩; have hbn : Below wr.heap.size wr w5 := (by go_split_ands; exact bel_go2 (by assumption) hb5)))
                go_wp2_with fail
                go_ret
                exact ⟨rfl, HX3.out.below.trans (hbn.mono HX3.out.below.size)⟩
end Go.Proofs.Ythddfkdppnjeaaa
