/- Joined of FlowR, FlowS, FlowT: The document's edges: Is. -/
import Derived.Test.YtkikapodobeaaaaFlowRows
import Derived.Test.YtkikapodobeaaaaNames
import Derived.Test.YtkikapodobeaaaaSys
import Derived.Test.YtkikapodobeaaaaFlowEdge
import Derived.Test.YtkikapodobeaaaaFlowCut
namespace Go.Proofs.Ytkikapodobeaaaa
open Go.ChangeShapes Go.WideShapes Go.ChangeAt Go.RowKit
set_option linter.unusedVariables false
attribute [local go_sem ↓] Go.wp_at_zero Go.wp_at_succ

theorem laterB_no {a b p : Int} {l : List Int} (h : ∀ k : Nat, l[k]? = some b → a ∉ p :: l.take k) : laterB a b (p :: l) = false := by
  rw [Bool.eq_false_iff]
  intro hl
  have key : ∀ (m met : List Int), (∀ k : Nat, m[k]? = some b → a ∉ met ++ m.take k) → (∀ x ∈ met, x ≠ a ∨ b ∉ m) := by
    intro m met hk x hx
    by_cases e : x = a
    · right
      intro hb
      obtain ⟨k, hk2⟩ := List.mem_iff_getElem?.1 hb
      exact hk k hk2 (List.mem_append_left _ (e ▸ hx))
    · exact .inl e
  have main : ∀ (m met : List Int), (∀ k : Nat, m[k]? = some b → a ∉ met ++ m.take k) → laterB a b m = false := by
    intro m
    induction m with
    | nil => intro met _; rfl
    | cons x m ih =>
      intro met hk
      rw [laterB, Bool.or_eq_false_iff]
      constructor
      · rw [Bool.and_eq_false_iff]
        by_cases e : x = a
        · right
          rw [Bool.eq_false_iff]
          intro hc
          obtain ⟨k, hk2⟩ := List.mem_iff_getElem?.1 (List.contains_iff_mem.1 hc)
          exact hk (k + 1) (by simpa using hk2) (by simp [e])
        · left; exact beq_eq_false_iff_ne.2 e
      · refine ih (met ++ [x]) (fun k hk2 => ?_)
        have := hk (k + 1) (by simpa using hk2)
        simpa using this
  have h0 := main l [p] (fun k hk => by simpa using h k hk)
  rw [laterB, h0, Bool.or_false, Bool.and_eq_true, beq_iff_eq, List.contains_iff_mem] at hl
  obtain ⟨k, hk⟩ := List.mem_iff_getElem?.1 hl.2
  exact h k hk (by rw [hl.1]; simp)
theorem laterB_yes {a b p : Int} {l : List Int} {k : Nat} (h1 : l[k]? = some b) (h2 : a ∈ p :: l.take k) : laterB a b (p :: l) = true := by
  have main : ∀ (m : List Int) (j : Nat), m[j]? = some b → a ∈ m.take j → laterB a b m = true := by
    intro m
    induction m with
    | nil => intro j h; simp at h
    | cons x m ih =>
      intro j hj ha
      cases j with
      | zero => simp at ha
      | succ j =>
        rw [laterB, Bool.or_eq_true]
        rw [List.take_succ_cons] at ha
        rcases List.mem_cons.1 ha with e | ha
        · left
          rw [Bool.and_eq_true, beq_iff_eq, List.contains_iff_mem]
          exact ⟨e.symm, List.mem_of_getElem? (by simpa using hj)⟩
        · exact .inr (ih j (by simpa using hj) ha)
  exact main (p :: l) (k + 1) (by simpa using h1) (by rw [List.take_succ_cons]; exact h2)
theorem isE_don {c : Cf} {a b : Int} (ha : hasB c.ps.length a = true) (hb : hasB c.ps.length b = true) {p : Nat} {x : Pt} (hp : c.ps[p]? = some x) (hl : laterB a b ((p : Int) :: x.ds) = true) : isE c a b = true := by
  unfold isE
  rw [ha, hb, Bool.true_and, Bool.true_and, Bool.or_eq_true]
  exact .inr (donB_any.2 ⟨p, x, hp, by rw [Nat.zero_add]; exact hl⟩)
theorem isE_chan {c : Cf} {a b : Int} (ha : hasB c.ps.length a = true) (hb : hasB c.ps.length b = true) {k : Nat} {x : Ch} (hp : c.cs[k]? = some x) (h1 : x.from_ = a) (h2 : x.to = b) : isE c a b = true := by
  unfold isE
  rw [ha, hb, Bool.true_and, Bool.true_and, Bool.or_eq_true]
  exact .inl (List.any_eq_true.2 ⟨x, List.mem_of_getElem? hp, by simp [chB, h1, h2]⟩)
theorem isE_no {c : Cf} {a b : Int} (h1 : ∀ (k : Nat) (x : Ch), c.cs[k]? = some x → x.from_ = a → x.to = b → False) (h2 : ∀ (p : Nat) (x : Pt), c.ps[p]? = some x → laterB a b ((p : Int) :: x.ds) = false) : isE c a b = false := by
  rw [Bool.eq_false_iff]
  intro h
  unfold isE at h
  rw [Bool.and_eq_true, Bool.and_eq_true, Bool.or_eq_true] at h
  rcases h.2.2 with h | h
  · obtain ⟨x, hx, hc⟩ := List.any_eq_true.1 h
    obtain ⟨k, hk⟩ := List.mem_iff_getElem?.1 hx
    simp [chB] at hc
    exact h1 k x hk hc.1 hc.2
  · obtain ⟨k, x, hk, hl⟩ := donB_any.1 h
    rw [Nat.zero_add] at hl
    rw [h2 k x hk] at hl
    cases hl
theorem isE_none {c : Cf} {a b : Int} (h : hasB c.ps.length a = false ∨ hasB c.ps.length b = false) : isE c a b = false := by
  unfold isE
  rcases h with h | h <;> simp [h]
theorem eq_b (x y : Int) : (x == y) = decide (x = y) := rfl
set_option maxRecDepth 100000 in
set_option maxHeartbeats 4000000 in
theorem is_sys {w : World} {hi : Nat} {c : Cf} {pvs : List Pv} {wa pa ca : Option Addr} {wc pc cc : Nat} (f : Few c) (h : SysL w hi c pvs wa pa ca wc pc cc) (hh : hi ≤ w.heap.size) (a b : Int) :
    Calls Try.prog 27 #[.agg #[.int .i64 c.frame, .int .i64 c.margin, .slice wa c.ws.length wc, .slice pa c.ps.length pc, .slice ca c.cs.length cc], .int .i64 a, .int .i64 b] w fun e w' => e = .returned (.bool (isE c a b)) ∧ Below w.heap.size w w' := by
  obtain ⟨V, hV⟩ : ∃ V, V = w.alloc (.cells #[.int .i64 c.frame, .int .i64 c.margin, .slice wa c.ws.length wc, .slice pa c.ps.length pc, .slice ca c.cs.length cc] 26) := ⟨_, rfl⟩
  have B1 : Below w.heap.size w V := by rw [hV]; exact below1 _ _
  have hblk : V.heap[w.heap.size]? = some (.cells #[.int .i64 c.frame, .int .i64 c.margin, .slice wa c.ws.length wc, .slice pa c.ps.length pc, .slice ca c.cs.length cc] 26 (0, 0)) := by rw [hV]; exact heap_alloc_new _ _
  have hvs : w.heap.size + 1 ≤ V.heap.size := by rw [hV]; simp
  have ks : ∀ W : World, Below V.heap.size V W → (W.cell? ⟨w.heap.size, 0, none⟩ = some (.int .i64 c.frame) ∧ W.cell? ⟨w.heap.size, 1, none⟩ = some (.int .i64 c.margin) ∧ W.cell? ⟨w.heap.size, 2, none⟩ = some (.slice wa c.ws.length wc) ∧ W.cell? ⟨w.heap.size, 3, none⟩ = some (.slice pa c.ps.length pc) ∧ W.cell? ⟨w.heap.size, 4, none⟩ = some (.slice ca c.cs.length cc)) ∧ SysL W hi c pvs wa pa ca wc pc cc := by
    intro W g
    have q := fun (i : Nat) (u : Value) hu => (g.cell (p := ⟨w.heap.size, i, none⟩) (lt_of_block hblk)).trans (cell_in (j := i) (u := u) hblk hu)
    exact ⟨⟨q 0 _ rfl, q 1 _ rfl, q 2 _ rfl, q 3 _ rfl, q 4 _ rfl⟩, h.keep (SameIn.of_below (B1.trans (g.mono (by omega))) hh)⟩
  obtain ⟨⟨z0, z1, z2, z3, z4⟩, _⟩ := ks V (Below.refl _ _)
  have KS := Lib.hid ks; have HV := Lib.hid hV; have HB1 := Lib.hid B1; have HF := Lib.hid f
  have HLP := Lib.hid h.l3.length
  have hcn := f.2.2.1
  have hpn := f.2.1
  clear ks hV B1 hblk h
  cases ha : hasB c.ps.length a with
  | false =>
    have HE := Lib.hid (isE_none (b := b) (.inl ha))
    have HA := Lib.hid ha; clear ha
    go_enter Try.func27, Try.ntmps27
    go_wp2_with fail
    rw [← HV.out]
    go_wp2_with (first | (go_at_call 12; refine (refHas_any _ _ _ _ _ _ _ _ _ _ _ _ _).mono ?_; rintro e w1 ⟨rfl, hb1⟩; rw [HA.out]))
    go_ret
    exact ⟨by rw [HE.out]; rfl, HB1.out.trans (hb1.mono (by omega))⟩
  | true =>
    cases hb : hasB c.ps.length b with
    | false =>
      have HE := Lib.hid (isE_none (a := a) (.inr hb))
      have HA := Lib.hid ha; have HB := Lib.hid hb; clear ha hb
      go_enter Try.func27, Try.ntmps27
      go_wp2_with fail
      rw [← HV.out]
      go_wp2_with (first
        | (go_at_call 12; have _t := hb1; refine (refHas_any _ _ _ _ _ _ _ _ _ _ _ _ _).mono ?_; rintro e w2 ⟨rfl, hb2⟩; rw [HB.out])
        | (go_at_call 12; refine (refHas_any _ _ _ _ _ _ _ _ _ _ _ _ _).mono ?_; rintro e w1 ⟨rfl, hb1⟩; rw [HA.out]; obtain ⟨⟨z0, z1, z2, z3, z4⟩, _⟩ := KS.out _ hb1))
      go_ret
      exact ⟨by rw [HE.out]; rfl, HB1.out.trans ((hb1.trans (hb2.mono hb1.size)).mono (by omega))⟩
    | true =>
      have HA := Lib.hid ha; have HB := Lib.hid hb; clear ha hb
      go_enter Try.func27, Try.ntmps27
      go_wp2_with fail
      rw [← HV.out]
      go_wp2_with (first
        | (go_at_call 12; have _t := hb1; refine (refHas_any _ _ _ _ _ _ _ _ _ _ _ _ _).mono ?_; rintro e w2 ⟨rfl, hb2⟩; rw [HB.out])
        | (go_at_call 12; refine (refHas_any _ _ _ _ _ _ _ _ _ _ _ _ _).mono ?_; rintro e w1 ⟨rfl, hb1⟩; rw [HA.out]; obtain ⟨⟨z0, z1, z2, z3, z4⟩, _⟩ := KS.out _ hb1))
      have hbv : Below V.heap.size V w2 := hb1.trans (hb2.mono hb1.size)
      obtain ⟨⟨y0, y1, y2, y3, y4⟩, hS⟩ := KS.out _ hbv
      have HBV := Lib.hid hbv; have HS := Lib.hid hS
      clear hb1 hb2 hbv hS z0 z1 z2 z3 z4
      go_loopw [7] (fun i wr => wr = w2 ∧ ∃ k : Nat, k ≤ c.cs.length ∧ i = .int .i64 k ∧ Hid (∀ (k' : Nat) (x : Ch), k' < k → c.cs[k']? = some x → x.from_ = a → x.to = b → False)) (fun i _ => c.cs.length - (intOf i).toNat)
      case atStart => exact ⟨rfl, 0, by omega, rfl, Lib.hid (fun k' x h => by omega)⟩
      case round =>
        obtain ⟨rfl, k, hk, rfl, HN⟩ := hrel
        by_cases hlt : k < c.cs.length
        · have tk : decide ((k : Int) < (c.cs.length : Int)) = true := by simpa using hlt
          have l0 : (0 : Int) ≤ (k : Int) := by omega
          have l1 : (k : Int) < (c.cs.length : Int) := by omega
          obtain ⟨x, hx⟩ : ∃ x, c.cs[k]? = some x := ⟨_, List.getElem?_eq_getElem hlt⟩
          obtain ⟨a2, c2, ee, _, _, hc⟩ := HS.out.l4
          cases ee
          rcases hc with h0 | ⟨g, off, rfl, hb1, hb2, hc⟩
          · omega
          obtain ⟨s0, s1, s2, s3⟩ := Lies.ch hc hx
          have HX := Lib.hid hx
          clear hx hc
          by_cases e1 : x.from_ = a
          · have d1 : decide (x.from_ = a) = true := by simpa using e1
            have b1 : (x.from_ == a) = true := by simpa using e1
            by_cases e2 : x.to = b
            · have d2 : decide (x.to = b) = true := by simpa using e2
              have b2 : (x.to == b) = true := by simpa using e2
              have HE := Lib.hid (isE_chan HA.out HB.out HX.out e1 e2)
              clear e1 e2
              go_wp2
              go_ret
              exact ⟨by rw [HE.out]; rfl, HB1.out.trans (HBV.out.mono (by omega))⟩
            · have d2 : decide (x.to = b) = false := by simpa using e2
              have b2 : (x.to == b) = false := by simpa using e2
              have HE := Lib.hid e2
              clear e1 e2
              go_wp2
              go_roundw
              case rel =>
                refine ⟨trivial, k + 1, by omega, by go_num, Lib.hid (fun k' y h1 h2 h3 h4 => ?_)⟩
                by_cases ek : k' = k
                · subst ek; rw [HX.out] at h2; cases h2; exact HE.out h4
                · exact HN.out k' y (by omega) h2 h3 h4
              case measure => simp [intOf]; omega
          · have d1 : decide (x.from_ = a) = false := by simpa using e1
            have b1 : (x.from_ == a) = false := by simpa using e1
            have HE := Lib.hid e1
            clear e1
            go_wp2
            go_roundw
            case rel =>
              refine ⟨trivial, k + 1, by omega, by go_num, Lib.hid (fun k' y h1 h2 h3 h4 => ?_)⟩
              by_cases ek : k' = k
              · subst ek; rw [HX.out] at h2; cases h2; exact HE.out h3
              · exact HN.out k' y (by omega) h2 h3 h4
            case measure => simp [intOf]; omega
        · have tk : decide ((k : Int) < (c.cs.length : Int)) = false := by simp; omega
          have HNC : Hid (∀ (k' : Nat) (x : Ch), c.cs[k']? = some x → x.from_ = a → x.to = b → False) := Lib.hid (fun k' x hx => HN.out k' x (by have := (List.getElem?_eq_some_iff.1 hx).1; omega) hx)
          obtain ⟨wo, hwo⟩ : ∃ wo, wo = wr := ⟨_, rfl⟩
          subst hwo
          clear HN
          go_wp2
          go_loopw [8] (fun i wr => wo = wr ∧ ∃ p : Nat, p ≤ c.ps.length ∧ i = .int .i64 p ∧ Hid (∀ (p' : Nat) (x : Pt), p' < p → c.ps[p']? = some x → laterB a b ((p' : Int) :: x.ds) = false)) (fun i _ => c.ps.length - (intOf i).toNat)
          case atStart => exact ⟨rfl, 0, by omega, rfl, Lib.hid (fun k' x h => by omega)⟩
          case round =>
            obtain ⟨rfl, p, hp, rfl, HN⟩ := hrel
            by_cases hlp : p < c.ps.length
            · have tp : decide ((p : Int) < (c.ps.length : Int)) = true := by simpa using hlp
              have l0 : (0 : Int) ≤ (p : Int) := by omega
              have l1 : (p : Int) < (c.ps.length : Int) := by omega
              obtain ⟨x, hx⟩ : ∃ x, c.ps[p]? = some x := ⟨_, List.getElem?_eq_getElem hlp⟩
              obtain ⟨pv, hpv⟩ : ∃ x, pvs[p]? = some x := ⟨_, List.getElem?_eq_getElem (by rw [HLP.out]; exact hlp)⟩
              have hpl := HS.out.l3.at hpv hx
              obtain ⟨ta, sa, da, tc, sc, dc, e1, e2, e3⟩ := hpl.slices
              have hds := hpl.2.2.1
              rw [e3] at hds
              obtain ⟨a2, c2, ee, _, _, hc⟩ := HS.out.l2
              cases ee
              rcases hc with h0 | ⟨g, off, rfl, hb1, hb2, hc⟩
              · omega
              obtain ⟨s0, s1, s2, s3, s4, s5⟩ := Lies.pv hc hpv
              rw [e1] at s0; rw [e2] at s1; rw [e3] at s2
              have HX := Lib.hid hx; have HDS := Lib.hid hds
              have hdl : x.ds.length ≤ 1000 := (HF.out.2.2.2 x (List.mem_of_getElem? hx)).2.2
              clear hx hc hpl hds e1 e2 e3 hpv
              obtain ⟨ds, hdse⟩ : ∃ ds, ds = x.ds := ⟨_, rfl⟩
              rw [← hdse] at s2 HDS hdl
              have HDE := Lib.hid hdse
              clear hdse
              go_wp2
              go_loopw [10] (fun i wr => wo = wr ∧ ∃ k : Nat, k ≤ ds.length ∧ i = .int .i64 k ∧ Hid (∀ (k' : Nat), k' < k → ds[k']? = some b → a ∉ (p : Int) :: ds.take k')) (fun i _ => ds.length - (intOf i).toNat)
              case atStart => exact ⟨rfl, 0, by omega, rfl, Lib.hid (fun k' h => by omega)⟩
              case round =>
                obtain ⟨rfl, k, hk, rfl, HK⟩ := hrel
                by_cases hlk : k < ds.length
                · have tk2 : decide ((k : Int) < (ds.length : Int)) = true := by simpa using hlk
                  have m0 : (0 : Int) ≤ (k : Int) := by omega
                  have m1 : (k : Int) < (ds.length : Int) := by omega
                  obtain ⟨y, hy⟩ : ∃ y, ds[k]? = some y := ⟨_, List.getElem?_eq_getElem hlk⟩
                  obtain ⟨a3, c3, ee, _, _, hc⟩ := HDS.out
                  cases ee
                  rcases hc with h0 | ⟨g2, off2, rfl, hq1, hq2, hc⟩
                  · omega
                  have q0 := Lies.int hc hy
                  have HC := Lib.hid hc
                  have HY := Lib.hid hy
                  clear hy hc
                  by_cases e1 : (p : Int) = a ∧ y = b
                  · have d1 : decide ((p : Int) = a) = true := by simpa using e1.1
                    have b1 : ((p : Int) == a) = true := by simpa using e1.1
                    have d2 : decide (y = b) = true := by simpa using e1.2
                    have b2 : (y == b) = true := by simpa using e1.2
                    have HE := Lib.hid (isE_don HA.out HB.out HX.out (by rw [← HDE.out]; exact laterB_yes (k := k) (by rw [HY.out, e1.2]) (by rw [e1.1]; simp)))
                    clear e1
                    go_wp2
                    go_ret
                    exact ⟨by rw [HE.out]; rfl, HB1.out.trans (HBV.out.mono (by omega))⟩
                  · have HE1 := Lib.hid e1
                    clear e1
                    have hfin : ∀ (i : Nat), i = k → (∀ i' : Nat, i' < i → ds[i']? = some a → y ≠ b) → ∀ (k' : Nat), k' < k + 1 → ds[k']? = some b → a ∉ (p : Int) :: ds.take k' := by
                      intro i hi hn k' hk' hb' hm
                      by_cases ek : k' = k
                      · subst ek
                        rw [HY.out] at hb'
                        have hyb : y = b := by simpa using hb'
                        rcases List.mem_cons.1 hm with e | hm
                        · exact HE1.out ⟨e.symm, hyb⟩
                        · obtain ⟨i', h1⟩ := List.mem_iff_getElem?.1 hm
                          rw [List.getElem?_take] at h1
                          split at h1
                          · exact hn i' (by omega) h1 hyb
                          · cases h1
                      · exact HK.out k' (by omega) hb' hm
                    have HFIN := Lib.hid hfin
                    clear hfin
                    have hd : (decide ((p : Int) = a) = true ∧ ((p : Int) == a) = true ∧ decide (y = b) = false ∧ (y == b) = false) ∨ (decide ((p : Int) = a) = false ∧ ((p : Int) == a) = false) := by
                      by_cases e3 : (p : Int) = a
                      · have e4 : ¬ y = b := fun e => HE1.out ⟨e3, e⟩
                        exact .inl ⟨by simpa using e3, by simpa using e3, by simpa using e4, by simpa using e4⟩
                      · exact .inr ⟨by simpa using e3, by simpa using e3⟩
                    rcases hd with ⟨d1, b1, d2, b2⟩ | ⟨d1, b1⟩
                    all_goals
                      (go_wp2
                       go_loopw [11] (fun i wr => wo = wr ∧ ∃ m : Nat, m ≤ k ∧ i = .int .i64 m ∧ Hid (∀ i' : Nat, i' < m → ds[i']? = some a → y ≠ b)) (fun i _ => k - (intOf i).toNat)
                       case atStart => exact ⟨rfl, 0, by omega, rfl, Lib.hid (fun i' h => by omega)⟩
                       case round =>
                         obtain ⟨rfl, m, hm, rfl, HM⟩ := hrel
                         by_cases hlm : m < k
                         · have tk3 : decide ((m : Int) < (k : Int)) = true := by simpa using hlm
                           have n0 : (0 : Int) ≤ (m : Int) := by omega
                           have n1 : (m : Int) < (ds.length : Int) := by omega
                           obtain ⟨z, hz⟩ : ∃ z, ds[m]? = some z := ⟨_, List.getElem?_eq_getElem (by omega)⟩
                           have q1 := Lies.int HC.out hz
                           have HZ := Lib.hid hz
                           clear hz
                           by_cases e5 : z = a
                           · have d3 : decide (z = a) = true := by simpa using e5
                             have b3 : (z == a) = true := by simpa using e5
                             by_cases e6 : y = b
                             · have d4 : decide (y = b) = true := by simpa using e6
                               have b4 : (y == b) = true := by simpa using e6
                               have HE := Lib.hid (isE_don HA.out HB.out HX.out (by rw [← HDE.out]; exact laterB_yes (k := k) (by rw [HY.out, e6]) (List.mem_cons_of_mem _ (List.mem_of_getElem? (i := m) (by rw [List.getElem?_take_of_lt hlm, HZ.out, e5])))))
                               clear e5 e6
                               first
                                 | (exfalso; simp_all; done)
                                 | (go_wp2
                                    go_ret
                                    exact ⟨by rw [HE.out]; rfl, HB1.out.trans (HBV.out.mono (by omega))⟩)
                             · have d4 : decide (y = b) = false := by simpa using e6
                               have b4 : (y == b) = false := by simpa using e6
                               have HE6 := Lib.hid e6
                               clear e5 e6
                               go_wp2
                               go_roundw
                               case rel =>
                                 exact ⟨trivial, m + 1, by omega, by go_num, Lib.hid (fun i' h1 h2 => HE6.out)⟩
                               case measure => simp [intOf]; omega
                           · have d3 : decide (z = a) = false := by simpa using e5
                             have b3 : (z == a) = false := by simpa using e5
                             have HE5 := Lib.hid e5
                             clear e5
                             go_wp2
                             go_roundw
                             case rel =>
                               refine ⟨trivial, m + 1, by omega, by go_num, Lib.hid (fun i' h1 h2 => ?_)⟩
                               by_cases ei : i' = m
                               · subst ei; rw [HZ.out] at h2; exact absurd (Option.some.inj h2) HE5.out
                               · exact HM.out i' (by omega) h2
                             case measure => simp [intOf]; omega
                         · have tk3 : decide ((m : Int) < (k : Int)) = false := by simp; omega
                           have HN2 := Lib.hid (HFIN.out m (by omega) HM.out)
                           go_wp2
                           go_roundw
                           case rel => exact ⟨trivial, k + 1, by omega, by go_num, HN2⟩
                           case measure => simp [intOf]; omega)
                · have tk2 : decide ((k : Int) < (ds.length : Int)) = false := by simp; omega
                  have HNO : Hid (laterB a b ((p : Int) :: x.ds) = false) := Lib.hid (by
                    rw [← HDE.out]
                    exact laterB_no (fun k' hk' => HK.out k' (by have := (List.getElem?_eq_some_iff.1 hk').1; omega) hk'))
                  go_wp2
                  go_roundw
                  case rel =>
                    refine ⟨trivial, p + 1, by omega, by go_num, Lib.hid (fun p' x' h1 h2 => ?_)⟩
                    by_cases ep : p' = p
                    · subst ep; rw [HX.out] at h2; cases h2; exact HNO.out
                    · exact HN.out p' x' (by omega) h2
                  case measure => simp [intOf]; omega
            · have tp : decide ((p : Int) < (c.ps.length : Int)) = false := by simp; omega
              have HE := Lib.hid (isE_no HNC.out (fun p' x hx => HN.out p' x (by have := (List.getElem?_eq_some_iff.1 hx).1; omega) hx))
              go_wp2
              go_ret
              exact ⟨by rw [HE.out]; rfl, HB1.out.trans (HBV.out.mono (by omega))⟩
end Go.Proofs.Ytkikapodobeaaaa
namespace Go.Proofs.Ytkikapodobeaaaa
open Go.ChangeShapes Go.WideShapes Go.ChangeAt Go.RowKit
set_option linter.unusedVariables false
attribute [local go_sem ↓] Go.wp_at_zero Go.wp_at_succ

def rowTo (c : Cf) (a : Nat) : Nat → List (Int × Int)
  | 0 => []
  | b + 1 => rowTo c a b ++ (if isE c (a : Int) (b : Int) then [((a : Int), (b : Int))] else [])
def allTo (c : Cf) (n : Nat) : Nat → List (Int × Int)
  | 0 => []
  | a + 1 => allTo c n a ++ rowTo c a n
theorem rowTo_len (c : Cf) (a : Nat) : ∀ b, (rowTo c a b).length ≤ b
  | 0 => by simp [rowTo]
  | b + 1 => by
    have := rowTo_len c a b
    rw [rowTo, List.length_append]
    split <;> simp <;> omega
theorem allTo_len (c : Cf) (n : Nat) : ∀ a, (allTo c n a).length ≤ a * n
  | 0 => by simp [allTo]
  | a + 1 => by
    have := allTo_len c n a
    have := rowTo_len c a n
    rw [allTo, List.length_append, Nat.add_mul]
    omega
theorem rowTo_is (c : Cf) (a : Nat) : ∀ b, ((((List.range b).filter fun (y : Nat) => isE c (a : Int) (y : Int)).map fun (y : Nat) => (a, y)).map fun (e : Nat × Nat) => ((e.1 : Int), (e.2 : Int))) = rowTo c a b
  | 0 => rfl
  | b + 1 => by
    rw [List.range_succ, List.filter_append, List.map_append, List.map_append, rowTo_is c a b, rowTo]
    congr 1
    by_cases he : isE c (a : Int) (b : Int) = true <;> simp [he]
theorem allTo_is (c : Cf) (n : Nat) : ∀ a, (((List.range a).flatMap fun (x : Nat) => ((List.range n).filter fun (y : Nat) => isE c (x : Int) (y : Int)).map fun (y : Nat) => (x, y)).map fun (e : Nat × Nat) => ((e.1 : Int), (e.2 : Int))) = allTo c n a
  | 0 => rfl
  | a + 1 => by
    rw [List.range_succ, List.flatMap_append, List.map_append, allTo_is c n a, allTo]
    congr 1
    rw [List.flatMap_cons, List.flatMap_nil, List.append_nil]
    exact rowTo_is c a n
theorem edgesI_is (c : Cf) : edgesI c = allTo c c.ps.length c.ps.length := allTo_is c _ _
theorem Try.infoRE : (Try.prog.info? 40).map (fun i => (i.zero, i.size, i.bytes)) = some (some (.agg #[.int .i64 0, .int .i64 0]), 2, 16) := by kernel_rfl
set_option maxRecDepth 100000 in
set_option maxHeartbeats 4000000 in
theorem refEdges_sys {w : World} {hi : Nat} {c : Cf} {pvs : List Pv} {wa pa ca : Option Addr} {wc pc cc : Nat} (f : Few c) (h : SysL w hi c pvs wa pa ca wc pc cc) (hh : hi ≤ w.heap.size) :
    Calls Try.prog 11 #[.agg #[.int .i64 c.frame, .int .i64 c.margin, .slice wa c.ws.length wc, .slice pa c.ps.length pc, .slice ca c.cs.length cc]] w fun e w' => ∃ (a : Option Addr) (cap : Nat), e = .returned (.slice a (edgesI c).length cap) ∧ w'.ownsRow w.heap.size 40 2 (.slice a (edgesI c).length cap) (edgesI c).length ((edgesI c).flatMap eC) ∧ Below w.heap.size w w' := by
  obtain ⟨i0, hi0, hz0, hz1, hz2⟩ := info_parts Try.infoRE
  have HI := Lib.hid hi0
  clear hi0
  obtain ⟨V, hV⟩ : ∃ V, V = w.alloc (.cells #[.int .i64 c.frame, .int .i64 c.margin, .slice wa c.ws.length wc, .slice pa c.ps.length pc, .slice ca c.cs.length cc] 26) := ⟨_, rfl⟩
  have B1 : Below w.heap.size w V := by rw [hV]; exact below1 _ _
  have hblk : V.heap[w.heap.size]? = some (.cells #[.int .i64 c.frame, .int .i64 c.margin, .slice wa c.ws.length wc, .slice pa c.ps.length pc, .slice ca c.cs.length cc] 26 (0, 0)) := by rw [hV]; exact heap_alloc_new _ _
  have hvs : w.heap.size + 1 ≤ V.heap.size := by rw [hV]; simp
  have ks : ∀ W : World, Below V.heap.size V W → (W.cell? ⟨w.heap.size, 0, none⟩ = some (.int .i64 c.frame) ∧ W.cell? ⟨w.heap.size, 1, none⟩ = some (.int .i64 c.margin) ∧ W.cell? ⟨w.heap.size, 2, none⟩ = some (.slice wa c.ws.length wc) ∧ W.cell? ⟨w.heap.size, 3, none⟩ = some (.slice pa c.ps.length pc) ∧ W.cell? ⟨w.heap.size, 4, none⟩ = some (.slice ca c.cs.length cc)) ∧ SysL W hi c pvs wa pa ca wc pc cc := by
    intro W g
    have q := fun (i : Nat) (u : Value) hu => (g.cell (p := ⟨w.heap.size, i, none⟩) (lt_of_block hblk)).trans (cell_in (j := i) (u := u) hblk hu)
    exact ⟨⟨q 0 _ rfl, q 1 _ rfl, q 2 _ rfl, q 3 _ rfl, q 4 _ rfl⟩, h.keep (SameIn.of_below (B1.trans (g.mono (by omega))) hh)⟩
  have KS := Lib.hid ks; have HV := Lib.hid hV; have HB1 := Lib.hid B1; have HF := Lib.hid f
  have hpn := f.2.1
  obtain ⟨n, hn⟩ : ∃ n, n = c.ps.length := ⟨_, rfl⟩
  have HIS : Hid (edgesI c = allTo c n n) := Lib.hid (by rw [hn]; exact edgesI_is c)
  have HFI : Hid (∀ W : World, Below V.heap.size V W → ∀ a b : Int, Calls Try.prog 27 #[.agg #[.int .i64 c.frame, .int .i64 c.margin, .slice wa c.ws.length wc, .slice pa n pc, .slice ca c.cs.length cc], .int .i64 a, .int .i64 b] W fun e w' => e = .returned (.bool (isE c a b)) ∧ Below W.heap.size W w') := Lib.hid (fun W hW a b => by rw [hn]; exact is_sys HF.out (KS.out W hW).2 (by have := hW.size; omega) a b)
  have hbig : n * n ≤ 1000 * 1000 := Nat.mul_le_mul (by omega) (by omega)
  rw [← hn] at KS hpn HV ⊢
  clear ks hV B1 hblk h f
  clear hn
  go_enter Try.func11, Try.ntmps11
  go_wp2_with fail
  rw [← HV.out]
  go_wp2_with fail
  go_loopw [3, 4] (fun s3 i wr => ∃ (k nc : Nat) (na : Option Addr), k ≤ n ∧ s3 = .slice na (allTo c n k).length nc ∧ i = .int .i64 k ∧ Hid (wr.ownsRow V.heap.size 40 2 (.slice na (allTo c n k).length nc) (allTo c n k).length ((allTo c n k).flatMap eC)) ∧ Below V.heap.size V wr) (fun _ i _ => n - (intOf i).toNat)
  case atStart => exact ⟨0, 0, none, by omega, rfl, rfl, Lib.hid (World.ownsRow_nil _ _ _ _), Below.refl _ _⟩
  case round =>
    obtain ⟨k, nc, na, hk, rfl, rfl, HO, hb⟩ := hrel
    obtain ⟨⟨y0, y1, y2, y3, y4⟩, _⟩ := KS.out _ hb
    have hall := allTo_len c n k
    have hkn : k * n ≤ n * n := Nat.mul_le_mul_right _ hk
    by_cases hlt : k < n
    · have tk : decide ((k : Int) < (n : Int)) = true := by simpa using hlt
      go_wp2
      clear y0 y1 y2 y3 y4
      go_loopw [3, 5] (fun s3 i wr => ∃ (b nc : Nat) (na : Option Addr), b ≤ n ∧ s3 = .slice na (allTo c n k ++ rowTo c k b).length nc ∧ i = .int .i64 b ∧ Hid (wr.ownsRow V.heap.size 40 2 (.slice na (allTo c n k ++ rowTo c k b).length nc) (allTo c n k ++ rowTo c k b).length ((allTo c n k ++ rowTo c k b).flatMap eC)) ∧ Below V.heap.size V wr) (fun _ i _ => n - (intOf i).toNat)
      case atStart => exact ⟨0, nc, na, by omega, by simp [rowTo], rfl, Lib.hid (by simpa [rowTo] using HO.out), hb⟩
      case round =>
        clear HO hb
        obtain ⟨b, nc, na, hbn, rfl, rfl, HO, hb⟩ := hrel
        obtain ⟨⟨y0, y1, y2, y3, y4⟩, _⟩ := KS.out _ hb
        have hrow := rowTo_len c k b
        obtain ⟨pre, hpre⟩ : ∃ pre, pre = allTo c n k ++ rowTo c k b := ⟨_, rfl⟩
        have hpl : pre.length ≤ 2000000 := by rw [hpre, List.length_append]; omega
        rw [← hpre] at HO ⊢
        by_cases hlb : b < n
        · have tk2 : decide ((b : Int) < (n : Int)) = true := by simpa using hlb
          cases he : isE c (k : Int) (b : Int) with
          | true =>
            have HN : Hid (allTo c n k ++ rowTo c k (b + 1) = pre ++ [((k : Int), (b : Int))]) := Lib.hid (by rw [rowTo, he, if_pos rfl, ← List.append_assoc, hpre])
            have HE := Lib.hid he
            clear hpre he
            go_wp2_with (first
              | (refine wpList_append_lie2 (by rfl) (.tmp 24) (.tmp 28) 37 (by rfl) V.heap.size 40 i0 _ 2 16 Try.underlying37 HI.out hz0 hz1 hz2 rfl (by omega) (.slice na pre.length nc) pre.length (pre.flatMap eC) (by rfl) hO5 (.slice (some ⟨w5.heap.size, 0, none⟩) 1 1) w5.heap.size (w5.heap.size + 1) 1 [.int .i64 (k : Int), .int .i64 (b : Int)] (by rfl) (one_lies (cs := #[.int .i64 (k : Int), .int .i64 (b : Int)]) (t := 40) (heap_alloc_new _ _) rfl) (eC_one ((k : Int), (b : Int))) (pre.length + 1) rfl (by simp only [maxLen]; omega) (by omega) (by have := hb.size; have := hb5.size; simp; omega) ?_; intro ao cap' w6 hown6 hgrow6 hob6)
              | (go_at_call 27; refine (HFI.out _ hb _ _).mono ?_; rintro e w5 ⟨rfl, hb5⟩; rw [HE.out]; have hO5 := owns_later HO.out (hb5.alloc hb5.size (.cells #[.int .i64 (k : Int), .int .i64 (b : Int)] 40)))
              | go_in)
            go_roundw
            case rel =>
              refine ⟨b + 1, cap', ao, by omega, by rw [HN.out]; simp, by go_num, Lib.hid ?_, ?_⟩
              · rw [HN.out, List.length_append, List.flatMap_append]
                exact hown6
              · exact (((hb.trans (hb5.mono hb.size)).alloc (by have := hb.size; have := hb5.size; omega) _).grown hgrow6 (by have := hb.size; have := hb5.size; simp; omega) (fun q hq => (owns_own hO5 q hq).1))
            case measure => simp [intOf]; omega
          | false =>
            have HN : Hid (allTo c n k ++ rowTo c k (b + 1) = pre) := Lib.hid (by rw [rowTo, he, hpre]; simp)
            have HE := Lib.hid he
            clear hpre he
            go_wp2_with (first
              | (go_at_call 27; refine (HFI.out _ hb _ _).mono ?_; rintro e w5 ⟨rfl, hb5⟩; rw [HE.out]))
            go_roundw
            case rel =>
              refine ⟨b + 1, nc, na, by omega, by rw [HN.out], by go_num, Lib.hid ?_, hb.trans (hb5.mono hb.size)⟩
              rw [HN.out]; exact owns_later HO.out hb5
            case measure => simp [intOf]; omega
        · have tk2 : decide ((b : Int) < (n : Int)) = false := by simp; omega
          have eb : b = n := by omega
          have HN : Hid (allTo c n (k + 1) = pre) := Lib.hid (by rw [allTo, hpre, eb])
          clear hpre eb
          go_wp2
          go_roundw
          case rel =>
            refine ⟨k + 1, nc, na, by omega, by rw [HN.out], by go_num, Lib.hid ?_, hb⟩
            rw [HN.out]; exact HO.out
          case measure => simp [intOf]; omega
    · have tk : decide ((k : Int) < (n : Int)) = false := by simp; omega
      have HE : Hid (edgesI c = allTo c n k) := Lib.hid (by rw [HIS.out]; congr 1; omega)
      go_wp2
      go_ret
      refine ⟨na, nc, by rw [HE.out]; rfl, ?_, HB1.out.trans (hb.mono (by omega))⟩
      rw [HE.out]
      exact owns_base HO.out (by omega)
end Go.Proofs.Ytkikapodobeaaaa
namespace Go.Proofs.Ytkikapodobeaaaa
open Go.ChangeShapes Go.WideShapes Go.ChangeAt Go.RowKit
set_option linter.unusedVariables false
attribute [local go_sem ↓] Go.wp_at_zero Go.wp_at_succ

theorem Inv.next {c : Cf} {l : List Int} {r : Nat} {s : List Bool} (h : Inv c l r s) : Mid' c l s s 0 0 := Mid'.begin h.only
set_option maxRecDepth 100000 in
set_option maxHeartbeats 8000000 in
theorem refCut_sys {w : World} {hi : Nat} {c : Cf} {pvs : List Pv} {wa pa ca : Option Addr} {wc pc cc : Nat} (f : Few c) (h : SysL w hi c pvs wa pa ca wc pc cc) (hh : hi ≤ w.heap.size)
    (la : Option Addr) (ln lc llo lhi : Nat) (l : List Int) (hln : l.length = ln) (hl : Lies w llo lhi (.slice la ln lc) ln 1 (l.flatMap intCells)) (hlh : lhi ≤ w.heap.size) (hl2 : ln ≤ 1000) :
    Calls Try.prog 13 #[.agg #[.int .i64 c.frame, .int .i64 c.margin, .slice wa c.ws.length wc, .slice pa c.ps.length pc, .slice ca c.cs.length cc], .slice la ln lc] w fun e w' => ∃ (G : Nat) (s : List Bool), e = .returned (.slice (some ⟨G, 0, none⟩) c.ps.length c.ps.length) ∧ w.heap.size ≤ G ∧ BoolAt w' G s ∧ CutOf c l s ∧ Below w.heap.size w w' := by
  obtain ⟨i1, hi1, hy0, hy1, hy2⟩ := info_parts Try.infoBool
  have HJ := Lib.hid hi1
  clear hi1
  obtain ⟨V, hV⟩ : ∃ V, V = w.alloc (.cells #[.int .i64 c.frame, .int .i64 c.margin, .slice wa c.ws.length wc, .slice pa c.ps.length pc, .slice ca c.cs.length cc] 26) := ⟨_, rfl⟩
  have B1 : Below w.heap.size w V := by rw [hV]; exact below1 _ _
  have hblk : V.heap[w.heap.size]? = some (.cells #[.int .i64 c.frame, .int .i64 c.margin, .slice wa c.ws.length wc, .slice pa c.ps.length pc, .slice ca c.cs.length cc] 26 (0, 0)) := by rw [hV]; exact heap_alloc_new _ _
  have hvs : w.heap.size + 1 ≤ V.heap.size := by rw [hV]; simp
  have ks : ∀ W : World, Below V.heap.size V W → (W.cell? ⟨w.heap.size, 0, none⟩ = some (.int .i64 c.frame) ∧ W.cell? ⟨w.heap.size, 1, none⟩ = some (.int .i64 c.margin) ∧ W.cell? ⟨w.heap.size, 2, none⟩ = some (.slice wa c.ws.length wc) ∧ W.cell? ⟨w.heap.size, 3, none⟩ = some (.slice pa c.ps.length pc) ∧ W.cell? ⟨w.heap.size, 4, none⟩ = some (.slice ca c.cs.length cc)) ∧ SysL W hi c pvs wa pa ca wc pc cc ∧ Lies W llo lhi (.slice la ln lc) ln 1 (l.flatMap intCells) := by
    intro W g
    have q := fun (i : Nat) (u : Value) hu => (g.cell (p := ⟨w.heap.size, i, none⟩) (lt_of_block hblk)).trans (cell_in (j := i) (u := u) hblk hu)
    exact ⟨⟨q 0 _ rfl, q 1 _ rfl, q 2 _ rfl, q 3 _ rfl, q 4 _ rfl⟩, h.keep (SameIn.of_below (B1.trans (g.mono (by omega))) hh), hl.keep (SameIn.of_below (B1.trans (g.mono (by omega))) hlh)⟩
  have KS := Lib.hid ks; have HV := Lib.hid hV; have HB1 := Lib.hid B1; have HF := Lib.hid f; have HLN := Lib.hid hln
  have hpn := f.2.1
  obtain ⟨n, hn⟩ : ∃ n, n = c.ps.length := ⟨_, rfl⟩
  have HNE := Lib.hid hn
  have HFI : Hid (∀ W : World, Below V.heap.size V W → ∀ a b : Int, Calls Try.prog 27 #[.agg #[.int .i64 c.frame, .int .i64 c.margin, .slice wa c.ws.length wc, .slice pa n pc, .slice ca c.cs.length cc], .int .i64 a, .int .i64 b] W fun e w' => e = .returned (.bool (isE c a b)) ∧ Below W.heap.size W w') := Lib.hid (fun W hW a b => by rw [hn]; exact is_sys HF.out (KS.out W hW).2.1 (by have := hW.size; omega) a b)
  obtain ⟨z0, z1, z2, z3, z4⟩ := (ks V (Below.refl _ _)).1
  rw [← hn] at KS hpn HV z3 ⊢
  clear ks hV B1 hblk h f hl hln
  clear hn
  go_enter Try.func13, Try.ntmps13
  go_wp2_with (first
    | (rw [← HV.out]; refine wpList_make_full _ (by rfl) (.tmp 12) (.tmp 12) 44 (by rfl) V.heap.size 4 i1 _ 1 Try.underlying44 HJ.out hy0 hy1 _ _ n n n (by rfl) (by rfl) rfl rfl (by rw [hy2]; omega) (by simp [maxLen]; omega) (Nat.le_refl _) ?_; intro w2 hown2 hgrow2)
    | go_in)
  have hbv : Below V.heap.size V w2 := ⟨hgrow2.os, hgrow2.tape, hgrow2.output, hgrow2.size, fun b hb => hgrow2.block b hb (by simp)⟩
  have HBA := Lib.hid (BoolAt.made (W := V) (w' := w2) hown2)
  have HBV := Lib.hid hbv
  obtain ⟨G, hG⟩ : ∃ G, G = V.heap.size := ⟨_, rfl⟩
  have HGV := Lib.hid (Nat.le_of_eq hG.symm)
  rw [← hG] at HBA
  rw [← hG]
  have hvG : w.heap.size < G := by omega
  clear hown2 hgrow2 z0 z1 z2 z3 z4 hbv hG
  go_loopw [6] (fun i wr => ∃ (k : Nat) (s : List Bool), k ≤ ln ∧ i = .int .i64 k ∧ Hid (BoolAt wr G s ∧ s.length = n ∧ ∀ j : Nat, s[j]? = some true ↔ (j : Int) ∈ l.take k ∧ j < n) ∧ Below V.heap.size V wr) (fun i _ => ln - (intOf i).toNat)
  case atStart =>
    refine ⟨0, _, by omega, rfl, Lib.hid ⟨HBA.out, by simp, fun j => ⟨fun h => ?_, fun h => by simp at h⟩⟩, HBV.out⟩
    have := (List.getElem?_eq_some_iff.1 h).2
    simp at this
  case round =>
    obtain ⟨k, s, hk, rfl, HS, hb⟩ := hrel
    clear HBA HBV
    obtain ⟨⟨y0, y1, y2, y3, y4⟩, hSy, hLl⟩ := KS.out _ hb
    have hsn := HS.out.2.1
    have hgl := lt_of_block HS.out.1
    by_cases hlt : k < ln
    · have tk : decide ((k : Int) < (ln : Int)) = true := by simpa using hlt
      obtain ⟨x, hx⟩ : ∃ x, l[k]? = some x := ⟨_, List.getElem?_eq_getElem (by rw [HLN.out]; exact hlt)⟩
      obtain ⟨a2, c2, ee, _, _, hc⟩ := hLl
      cases ee
      rcases hc with h0 | ⟨g, off, rfl, hq1, hq2, hc⟩
      · omega
      have c0 := Lies.int hc hx
      have hbs := hb.size
      have hgb := hq2
      have hgg : g < wr.heap.size := by omega
      have hgG : g ≠ G := by have := HGV.out; omega
      have hGg : G ≠ g := fun e => hgG e.symm
      have KC : Hid (∀ W : World, Below wr.heap.size wr W → W.cell? ⟨g, off + k, none⟩ = some (.int .i64 x) ∧ W.cell? ⟨w.heap.size, 0, none⟩ = some (.int .i64 c.frame) ∧ W.cell? ⟨w.heap.size, 1, none⟩ = some (.int .i64 c.margin) ∧ W.cell? ⟨w.heap.size, 2, none⟩ = some (.slice wa c.ws.length wc) ∧ W.cell? ⟨w.heap.size, 3, none⟩ = some (.slice (pa) n pc) ∧ W.cell? ⟨w.heap.size, 4, none⟩ = some (.slice ca c.cs.length cc)) := Lib.hid (fun W hW => ⟨(hW.cell (p := ⟨g, off + k, none⟩) hgg).trans c0, (KS.out W (hb.trans (hW.mono hb.size))).1⟩)
      have HTK := Lib.hid (take_snoc hx)
      have l0 : (0 : Int) ≤ (k : Int) := by omega
      have l1 : (k : Int) < (ln : Int) := by omega
      clear hx hc hSy
      cases hh2 : hasB n x with
      | false =>
        have HX := Lib.hid hh2; clear hh2
        go_wp2_with fail
        go_region_held3 (fun W => W.cell? ⟨g, off + k, none⟩ = some (.int .i64 x) ∧ W.cell? ⟨w.heap.size, 0, none⟩ = some (.int .i64 c.frame) ∧ W.cell? ⟨w.heap.size, 1, none⟩ = some (.int .i64 c.margin) ∧ W.cell? ⟨w.heap.size, 2, none⟩ = some (.slice wa c.ws.length wc) ∧ W.cell? ⟨w.heap.size, 3, none⟩ = some (.slice (pa) n pc) ∧ W.cell? ⟨w.heap.size, 4, none⟩ = some (.slice ca c.cs.length cc))
          (first | exact KC.out _ ((Below.refl _ _).drew) | exact KC.out _ (Below.refl _ _) | exact KC.out _ (by assumption))
          (first | (go_at_call 12; refine (refHas_any _ _ _ _ _ _ _ _ _ _ _ _ _).mono ?_; rintro e w4 ⟨rfl, hb4⟩; rw [HX.out]; have hbn : Below wr.heap.size wr w4 := ((Below.refl wr.heap.size wr).drew).trans hb4))
        go_wp2
        go_roundw
        case rel =>
          refine ⟨k + 1, s, by omega, by go_num, Lib.hid ⟨HS.out.1.later hbn, HS.out.2.1, fun j => ?_⟩, hb.trans (hbn.mono hb.size)⟩
          rw [HS.out.2.2 j, HTK.out]
          constructor
          · rintro ⟨h1, h2⟩; exact ⟨List.mem_append_left _ h1, h2⟩
          · rintro ⟨h1, h2⟩
            rcases List.mem_append.1 h1 with h1 | h1
            · exact ⟨h1, h2⟩
            · simp at h1
              have := hasB_false HX.out
              omega
        case measure => simp [intOf]; omega
      | true =>
        have hr := hasB_true hh2
        obtain ⟨j, rfl⟩ : ∃ j : Nat, x = (j : Int) := ⟨x.toNat, by omega⟩
        have hjn : j < n := by omega
        have j0 : (0 : Int) ≤ (j : Int) := by omega
        have j1 : (j : Int) < (n : Int) := by omega
        have HX := Lib.hid hh2; clear hh2
        obtain ⟨bj, hbj⟩ : ∃ bj, s[j]? = some bj := ⟨_, List.getElem?_eq_getElem (by omega)⟩
        have HBJ := Lib.hid hbj
        clear hbj
        go_wp2_with fail
        go_region_held3 (fun W => W.cell? ⟨g, off + k, none⟩ = some (.int .i64 (j : Int)) ∧ W.cell? ⟨w.heap.size, 0, none⟩ = some (.int .i64 c.frame) ∧ W.cell? ⟨w.heap.size, 1, none⟩ = some (.int .i64 c.margin) ∧ W.cell? ⟨w.heap.size, 2, none⟩ = some (.slice wa c.ws.length wc) ∧ W.cell? ⟨w.heap.size, 3, none⟩ = some (.slice (pa) n pc) ∧ W.cell? ⟨w.heap.size, 4, none⟩ = some (.slice ca c.cs.length cc))
          (first | exact KC.out _ ((Below.refl _ _).drew) | exact KC.out _ (Below.refl _ _) | exact KC.out _ (by assumption))
          (first | (go_at_call 12; refine (refHas_any _ _ _ _ _ _ _ _ _ _ _ _ _).mono ?_; rintro e w4 ⟨rfl, hb4⟩; rw [HX.out]; have hbn : Below wr.heap.size wr w4 := ((Below.refl wr.heap.size wr).drew).trans hb4))
        have q0 := ((HS.out.1.later hbn).cell HBJ.out).1
        have q1 := ((HS.out.1.later hbn).cell HBJ.out).2
        go_wp2
        go_roundw
        case rel =>
          have hjs : j < s.length := by omega
          refine ⟨k + 1, s.set j true, by omega, by go_num, Lib.hid ⟨(HS.out.1.later hbn).set j true, by rw [List.length_set]; exact HS.out.2.1, fun i => ?_⟩, (hb.trans (hbn.mono hb.size)).setCell (p := ⟨G, j, none⟩) HGV.out _⟩
          rw [set_true hjs, HS.out.2.2 i, HTK.out, List.mem_append, List.mem_singleton]
          constructor
          · rintro (rfl | ⟨h1, h2⟩)
            · exact ⟨.inr rfl, hjn⟩
            · exact ⟨.inl h1, h2⟩
          · rintro ⟨h1 | h1, h2⟩
            · exact .inr ⟨h1, h2⟩
            · exact .inl (by omega)
        case measure => simp [intOf]; omega
    · have tk : decide ((k : Int) < (ln : Int)) = false := by simp; omega
      have HI0 : Hid (Inv c l 0 s) := Lib.hid (Inv.start (by rw [← HNE.out]; exact hsn) (fun i => by rw [HS.out.2.2 i, List.take_of_length_le (by rw [HLN.out]; omega), HNE.out]))
      have HSB : Hid (BoolAt wr G s) := Lib.hid HS.out.1
      clear HS hSy hLl y0 y1 y2 y3 y4
      go_wp2
      go_loopw [7] (fun i wr => ∃ (r : Nat) (s : List Bool), r ≤ n ∧ i = .int .i64 r ∧ s.length = n ∧ Hid (BoolAt wr G s) ∧ Hid (Inv c l r s) ∧ Below V.heap.size V wr) (fun i _ => n - (intOf i).toNat)
      case atStart => exact ⟨0, s, by omega, rfl, hsn, HSB, HI0, hb⟩
      case round =>
        clear HSB HI0 hsn hb hgl
        obtain ⟨r, s, hr, rfl, hsn, HSB, HIV, hb⟩ := hrel
        by_cases hlr : r < n
        · have tr : decide ((r : Int) < (n : Int)) = true := by simpa using hlr
          go_wp2
          go_loopw [8] (fun i wr => ∃ (a : Nat) (t : List Bool), a ≤ n ∧ i = .int .i64 a ∧ t.length = n ∧ Hid (BoolAt wr G t) ∧ Hid (Mid' c l s t a 0) ∧ Below V.heap.size V wr) (fun i _ => n - (intOf i).toNat)
          case atStart => exact ⟨0, s, by omega, rfl, hsn, HSB, Lib.hid HIV.out.next, hb⟩
          case round =>
            clear HSB hb
            obtain ⟨a, t, ha, rfl, htn, HSB, HM, hb⟩ := hrel
            by_cases hla : a < n
            · have ta : decide ((a : Int) < (n : Int)) = true := by simpa using hla
              go_wp2
              go_loopw [9] (fun i wr => ∃ (b : Nat) (t : List Bool), b ≤ n ∧ i = .int .i64 b ∧ t.length = n ∧ Hid (BoolAt wr G t) ∧ Hid (Mid' c l s t a b) ∧ Below V.heap.size V wr) (fun i _ => n - (intOf i).toNat)
              case atStart => exact ⟨0, t, by omega, rfl, htn, HSB, HM, hb⟩
              case round =>
                clear HSB hb HM htn
                obtain ⟨b, t, hbn, rfl, htn, HSB, HM, hb⟩ := hrel
                by_cases hlb : b < n
                · have tb : decide ((b : Int) < (n : Int)) = true := by simpa using hlb
                  have b0 : (0 : Int) ≤ (b : Int) := by omega
                  have b1 : (b : Int) < (n : Int) := by omega
                  have a0 : (0 : Int) ≤ (a : Int) := by omega
                  have a1 : (a : Int) < (n : Int) := by omega
                  obtain ⟨⟨y0, y1, y2, y3, y4⟩, _⟩ := KS.out _ hb
                  obtain ⟨tb', htb⟩ : ∃ tb', t[b]? = some tb' := ⟨_, List.getElem?_eq_getElem (by omega)⟩
                  have q0 := (HSB.out.cell htb).1
                  cases tb' with
                  | false =>
                    have HNO : Hid (Mid' c l s t a (b + 1)) := Lib.hid (HM.out.no (fun hc => by rw [htb] at hc; cases hc.1))
                    clear htb
                    go_wp2
                    go_roundw
                    case rel => exact ⟨b + 1, t, by omega, by go_num, htn, HSB, HNO, hb⟩
                    case measure => simp [intOf]; omega
                  | true =>
                    cases he : isE c (a : Int) (b : Int) with
                    | false =>
                      have HNO : Hid (Mid' c l s t a (b + 1)) := Lib.hid (HM.out.no (fun hc => by rw [he] at hc; cases hc.2))
                      have HE := Lib.hid he
                      clear htb he
                      go_wp2_with (first
                        | (go_at_call 27; refine (HFI.out _ hb _ _).mono ?_; rintro e w5 ⟨rfl, hb5⟩; rw [HE.out]))
                      go_roundw
                      case rel => exact ⟨b + 1, t, by omega, by go_num, htn, Lib.hid (HSB.out.later hb5), HNO, hb.trans (hb5.mono hb.size)⟩
                      case measure => simp [intOf]; omega
                    | true =>
                      have HYE : Hid (Mid' c l s (t.set a true) a (b + 1)) := Lib.hid (HM.out.yes (by rw [htn, HNE.out]) htb he)
                      have HE := Lib.hid he
                      obtain ⟨ua, hua⟩ : ∃ ua, t[a]? = some ua := ⟨_, List.getElem?_eq_getElem (by omega)⟩
                      have KQ : Hid (∀ W : World, Below wr.heap.size wr W → W.cell? ⟨G, a, none⟩ = some (.bool ua) ∧ W.frozen? ⟨G, a, none⟩ = false) := Lib.hid (fun W hW => (HSB.out.later hW).cell hua)
                      clear htb he hua
                      go_wp2_with (first
                        | (go_at_call 27; refine (HFI.out _ hb _ _).mono ?_; rintro e w5 ⟨rfl, hb5⟩; rw [HE.out]; obtain ⟨p0, p1⟩ := KQ.out _ hb5))
                      go_roundw
                      case rel => exact ⟨b + 1, t.set a true, by omega, by go_num, by simpa using htn, Lib.hid ((HSB.out.later hb5).set a true), HYE, (hb.trans (hb5.mono hb.size)).setCell (p := ⟨G, a, none⟩) HGV.out _⟩
                      case measure => simp [intOf]; omega
                · have tb : decide ((b : Int) < (n : Int)) = false := by simp; omega
                  have HRW : Hid (Mid' c l s t (a + 1) 0) := Lib.hid (by
                    have eb : b = c.ps.length := by rw [← HNE.out]; omega
                    have := HM.out
                    rw [eb] at this
                    exact this.row)
                  go_wp2
                  go_roundw
                  case rel => exact ⟨a + 1, t, by omega, by go_num, htn, HSB, HRW, hb⟩
                  case measure => simp [intOf]; omega
            · have ta : decide ((a : Int) < (n : Int)) = false := by simp; omega
              have HDN : Hid (Inv c l (r + 1) t) := Lib.hid (by
                have ea : a = c.ps.length := by rw [← HNE.out]; omega
                have := HM.out
                rw [ea] at this
                exact this.done HIV.out)
              go_wp2
              go_roundw
              case rel => exact ⟨r + 1, t, by omega, by go_num, htn, HSB, HDN, hb⟩
              case measure => simp [intOf]; omega
        · have tr : decide ((r : Int) < (n : Int)) = false := by simp; omega
          have HO : Hid (CutOf c l s) := Lib.hid (HIV.out.out (by rw [← HNE.out]; omega))
          go_wp2
          go_ret
          exact ⟨G, s, rfl, by omega, HSB.out, HO.out, HB1.out.trans (hb.mono (by omega))⟩
set_option maxRecDepth 100000 in
set_option maxHeartbeats 4000000 in
theorem refInto_sys {w : World} {hi : Nat} {c : Cf} {pvs : List Pv} {wa pa ca : Option Addr} {wc pc cc : Nat} (f : Few c) (h : SysL w hi c pvs wa pa ca wc pc cc) (hh : hi ≤ w.heap.size)
    (la : Option Addr) (ln lc llo lhi : Nat) (l : List Int) (hln : l.length = ln) (hl : Lies w llo lhi (.slice la ln lc) ln 1 (l.flatMap intCells)) (hlh : lhi ≤ w.heap.size) (hl2 : ln ≤ 1000) :
    Calls Try.prog 16 #[.agg #[.int .i64 c.frame, .int .i64 c.margin, .slice wa c.ws.length wc, .slice pa c.ps.length pc, .slice ca c.cs.length cc], .slice la ln lc] w fun e w' => ∃ (a : Option Addr) (cap : Nat) (s : List Bool), e = .returned (.slice a (intsOf s).length cap) ∧ w'.ownsRow w.heap.size 3 1 (.slice a (intsOf s).length cap) (intsOf s).length ((intsOf s).flatMap intCells) ∧ CutOf c l s ∧ Below w.heap.size w w' := by
  obtain ⟨i0, hi0, hz0, hz1, hz2⟩ := info_parts Try.infoInt
  have HI := Lib.hid hi0
  clear hi0
  obtain ⟨V, hV⟩ : ∃ V, V = w.alloc (.cells #[.int .i64 c.frame, .int .i64 c.margin, .slice wa c.ws.length wc, .slice pa c.ps.length pc, .slice ca c.cs.length cc] 26) := ⟨_, rfl⟩
  have B1 : Below w.heap.size w V := by rw [hV]; exact below1 _ _
  have hblk : V.heap[w.heap.size]? = some (.cells #[.int .i64 c.frame, .int .i64 c.margin, .slice wa c.ws.length wc, .slice pa c.ps.length pc, .slice ca c.cs.length cc] 26 (0, 0)) := by rw [hV]; exact heap_alloc_new _ _
  have hvs : w.heap.size + 1 ≤ V.heap.size := by rw [hV]; simp
  have z0 : V.cell? ⟨w.heap.size, 0, none⟩ = some (.int .i64 c.frame) := cell_in hblk rfl
  have z1 : V.cell? ⟨w.heap.size, 1, none⟩ = some (.int .i64 c.margin) := cell_in hblk rfl
  have z2 : V.cell? ⟨w.heap.size, 2, none⟩ = some (.slice wa c.ws.length wc) := cell_in hblk rfl
  have z3 : V.cell? ⟨w.heap.size, 3, none⟩ = some (.slice pa c.ps.length pc) := cell_in hblk rfl
  have z4 : V.cell? ⟨w.heap.size, 4, none⟩ = some (.slice ca c.cs.length cc) := cell_in hblk rfl
  have HC := Lib.hid (refCut_sys f (h.keep (SameIn.of_below B1 hh)) (by omega) la ln lc llo lhi l hln (hl.keep (SameIn.of_below B1 hlh)) (by omega) hl2)
  have HV := Lib.hid hV; have HB1 := Lib.hid B1
  have hpn := f.2.1
  clear hV B1 hblk h hl f hln
  go_enter Try.func16, Try.ntmps16
  go_wp2_with fail
  rw [← HV.out]
  go_wp2_with (first
    | (go_at_call 13; refine HC.out.mono ?_; rintro e w1 ⟨G, s, rfl, hG, hS, hcut, hb1⟩))
  have HS := Lib.hid hS; have HCT := Lib.hid hcut
  have hb1s := hb1.size
  have hgs := lt_of_block hS
  have hsl := Lib.hid hcut.1
  clear hS hcut z0 z1 z2 z3 z4
  go_loopw [6, 7] (fun s5 i wr => ∃ (k nc : Nat) (na : Option Addr), k ≤ c.ps.length ∧ s5 = .slice na (intsTo s k).length nc ∧ i = .int .i64 k ∧ Hid (wr.ownsRow w1.heap.size 3 1 (.slice na (intsTo s k).length nc) (intsTo s k).length ((intsTo s k).flatMap intCells)) ∧ Below w1.heap.size w1 wr) (fun _ i _ => c.ps.length - (intOf i).toNat)
  case atStart => exact ⟨0, 0, none, by omega, rfl, rfl, Lib.hid (World.ownsRow_nil _ _ _ _), Below.refl _ _⟩
  case round =>
    obtain ⟨k, nc, na, hk, rfl, rfl, HO, hb⟩ := hrel
    have hbs := hb.size
    by_cases hlt : k < c.ps.length
    · have tk : decide ((k : Int) < (c.ps.length : Int)) = true := by simpa using hlt
      have l0 : (0 : Int) ≤ (k : Int) := by omega
      have l1 : (k : Int) < (c.ps.length : Int) := by omega
      obtain ⟨bk, hbk⟩ : ∃ bk, s[k]? = some bk := ⟨_, List.getElem?_eq_getElem (by rw [hsl.out]; exact hlt)⟩
      obtain ⟨c0, _⟩ := (HS.out.later hb).cell hbk
      have hil := intsTo_len s k
      cases bk with
      | true =>
        have HN : Hid (intsTo s (k + 1) = intsTo s k ++ [(k : Int)]) := Lib.hid (by rw [intsTo, List.getD_eq_getElem?_getD, hbk]; rfl)
        have hap : ∀ W : World, W.heap = (wr.alloc (.cells #[.int .i64 (k : Int)] 3)).heap → W.ownsRow w1.heap.size 3 1 (.slice na (intsTo s k).length nc) (intsTo s k).length ((intsTo s k).flatMap intCells) ∧ Lies W wr.heap.size (wr.heap.size + 1) (.slice (some ⟨wr.heap.size, 0, none⟩) 1 1) 1 1 [.int .i64 (k : Int)] ∧ w1.heap.size ≤ W.heap.size := by
          intro W hW
          have hz : W.heap.size = wr.heap.size + 1 := by rw [hW]; simp
          refine ⟨owns_hold HO.out ⟨by omega, fun g hg => ?_⟩, one_lies (cs := #[.int .i64 (k : Int)]) (t := 3) (by rw [hW]; exact heap_alloc_new _ _) rfl, by omega⟩
          have := (owns_own HO.out g hg).2
          rw [hW, heap_at, if_neg (by omega)]
        have HAP := Lib.hid hap
        clear hbk hap
        go_wp2_with (first
          | (refine wpList_append_lie2 (by rfl) (.tmp 21) (.tmp 23) 42 (by rfl) w1.heap.size 3 i0 _ 1 8 Try.underlying42 HI.out hz0 hz1 hz2 rfl (by omega) (.slice na (intsTo s k).length nc) (intsTo s k).length ((intsTo s k).flatMap intCells) (by rfl) (HAP.out _ (by rfl)).1 (.slice (some ⟨wr.heap.size, 0, none⟩) 1 1) wr.heap.size (wr.heap.size + 1) 1 [.int .i64 (k : Int)] (by rfl) (HAP.out _ (by rfl)).2.1 (in_one _) ((intsTo s k).length + 1) rfl (by simp only [maxLen]; omega) (by omega) (HAP.out _ (by rfl)).2.2 ?_; intro ao cap' w6 hown6 hgrow6 hob6)
          | go_in)
        go_roundw
        case rel =>
          refine ⟨k + 1, cap', ao, by omega, by rw [HN.out]; simp, by go_num, Lib.hid ?_, (hb.alloc hbs _).grown hgrow6 (by simp; omega) (fun q hq => (owns_own HO.out q hq).1)⟩
          rw [HN.out, List.length_append, List.flatMap_append]
          exact hown6
        case measure => simp [intOf]; omega
      | false =>
        have HN : Hid (intsTo s (k + 1) = intsTo s k) := Lib.hid (by rw [intsTo, List.getD_eq_getElem?_getD, hbk]; simp)
        clear hbk
        go_wp2
        go_roundw
        case rel =>
          refine ⟨k + 1, nc, na, by omega, by rw [HN.out], by go_num, Lib.hid ?_, hb⟩
          rw [HN.out]; exact HO.out
        case measure => simp [intOf]; omega
    · have tk : decide ((k : Int) < (c.ps.length : Int)) = false := by simp; omega
      have ek : k = c.ps.length := by omega
      have HE : Hid (intsTo s k = intsOf s) := Lib.hid (by unfold intsOf; rw [hsl.out, ek])
      clear ek
      go_wp2
      go_ret
      have hvw : Below w.heap.size w w1 := HB1.out.trans (hb1.mono (by omega))
      refine ⟨na, nc, s, by rw [← HE.out]; rfl, ?_, HCT.out, hvw.trans (hb.mono (by omega))⟩
      rw [← HE.out]
      exact owns_base HO.out (by omega)
end Go.Proofs.Ytkikapodobeaaaa
