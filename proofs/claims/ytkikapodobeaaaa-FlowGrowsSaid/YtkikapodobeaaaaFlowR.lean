/- The document's edges: Is. -/
import Derived.Test.YtkikapodobeaaaaFlowD
import Derived.Test.YtkikapodobeaaaaNames
import Derived.Test.YtkikapodobeaaaaSys
namespace Go.Proofs.Ytkikapodobeaaaa
open Go.ChangeShapes Go.WideShapes Go.ChangeAt Go.RowKit
set_option linter.unusedVariables false
attribute [local go_sem ↓] Go.wp_at_zero Go.wp_at_succ

theorem laterB_no {a b p : Int} {l : List Int} (h : ∀ k : Nat, l[k]? = some b → a ∉ p :: l.take k) : laterB a b (p :: l) = false := by
  rw [Bool.eq_false_iff]
  intro hl
  have key : ∀ (m met : List Int), (∀ k : Nat, m[k]? = some b → a ∉ met ++ m.take k) → (∀ x ∈ met, x ≠ a ∨ b ∉ m) := by
    intro m met hk x hx
    by_cases e : x = a
    · right
      intro hb
      obtain ⟨k, hk2⟩ := List.mem_iff_getElem?.1 hb
      exact hk k hk2 (List.mem_append_left _ (e ▸ hx))
    · exact .inl e
  have main : ∀ (m met : List Int), (∀ k : Nat, m[k]? = some b → a ∉ met ++ m.take k) → laterB a b m = false := by
    intro m
    induction m with
    | nil => intro met _; rfl
    | cons x m ih =>
      intro met hk
      rw [laterB, Bool.or_eq_false_iff]
      constructor
      · rw [Bool.and_eq_false_iff]
        by_cases e : x = a
        · right
          rw [Bool.eq_false_iff]
          intro hc
          obtain ⟨k, hk2⟩ := List.mem_iff_getElem?.1 (List.contains_iff_mem.1 hc)
          exact hk (k + 1) (by simpa using hk2) (by simp [e])
        · left; exact beq_eq_false_iff_ne.2 e
      · refine ih (met ++ [x]) (fun k hk2 => ?_)
        have := hk (k + 1) (by simpa using hk2)
        simpa using this
  have h0 := main l [p] (fun k hk => by simpa using h k hk)
  rw [laterB, h0, Bool.or_false, Bool.and_eq_true, beq_iff_eq, List.contains_iff_mem] at hl
  obtain ⟨k, hk⟩ := List.mem_iff_getElem?.1 hl.2
  exact h k hk (by rw [hl.1]; simp)
theorem laterB_yes {a b p : Int} {l : List Int} {k : Nat} (h1 : l[k]? = some b) (h2 : a ∈ p :: l.take k) : laterB a b (p :: l) = true := by
  have main : ∀ (m : List Int) (j : Nat), m[j]? = some b → a ∈ m.take j → laterB a b m = true := by
    intro m
    induction m with
    | nil => intro j h; simp at h
    | cons x m ih =>
      intro j hj ha
      cases j with
      | zero => simp at ha
      | succ j =>
        rw [laterB, Bool.or_eq_true]
        rw [List.take_succ_cons] at ha
        rcases List.mem_cons.1 ha with e | ha
        · left
          rw [Bool.and_eq_true, beq_iff_eq, List.contains_iff_mem]
          exact ⟨e.symm, List.mem_of_getElem? (by simpa using hj)⟩
        · exact .inr (ih j (by simpa using hj) ha)
  exact main (p :: l) (k + 1) (by simpa using h1) (by rw [List.take_succ_cons]; exact h2)
theorem isE_don {c : Cf} {a b : Int} (ha : hasB c.ps.length a = true) (hb : hasB c.ps.length b = true) {p : Nat} {x : Pt} (hp : c.ps[p]? = some x) (hl : laterB a b ((p : Int) :: x.ds) = true) : isE c a b = true := by
  unfold isE
  rw [ha, hb, Bool.true_and, Bool.true_and, Bool.or_eq_true]
  exact .inr (donB_any.2 ⟨p, x, hp, by rw [Nat.zero_add]; exact hl⟩)
theorem isE_chan {c : Cf} {a b : Int} (ha : hasB c.ps.length a = true) (hb : hasB c.ps.length b = true) {k : Nat} {x : Ch} (hp : c.cs[k]? = some x) (h1 : x.from_ = a) (h2 : x.to = b) : isE c a b = true := by
  unfold isE
  rw [ha, hb, Bool.true_and, Bool.true_and, Bool.or_eq_true]
  exact .inl (List.any_eq_true.2 ⟨x, List.mem_of_getElem? hp, by simp [chB, h1, h2]⟩)
theorem isE_no {c : Cf} {a b : Int} (h1 : ∀ (k : Nat) (x : Ch), c.cs[k]? = some x → x.from_ = a → x.to = b → False) (h2 : ∀ (p : Nat) (x : Pt), c.ps[p]? = some x → laterB a b ((p : Int) :: x.ds) = false) : isE c a b = false := by
  rw [Bool.eq_false_iff]
  intro h
  unfold isE at h
  rw [Bool.and_eq_true, Bool.and_eq_true, Bool.or_eq_true] at h
  rcases h.2.2 with h | h
  · obtain ⟨x, hx, hc⟩ := List.any_eq_true.1 h
    obtain ⟨k, hk⟩ := List.mem_iff_getElem?.1 hx
    simp [chB] at hc
    exact h1 k x hk hc.1 hc.2
  · obtain ⟨k, x, hk, hl⟩ := donB_any.1 h
    rw [Nat.zero_add] at hl
    rw [h2 k x hk] at hl
    cases hl
theorem isE_none {c : Cf} {a b : Int} (h : hasB c.ps.length a = false ∨ hasB c.ps.length b = false) : isE c a b = false := by
  unfold isE
  rcases h with h | h <;> simp [h]
theorem eq_b (x y : Int) : (x == y) = decide (x = y) := rfl
set_option maxRecDepth 100000 in
set_option maxHeartbeats 4000000 in
theorem is_sys {w : World} {hi : Nat} {c : Cf} {pvs : List Pv} {wa pa ca : Option Addr} {wc pc cc : Nat} (f : Few c) (h : SysL w hi c pvs wa pa ca wc pc cc) (hh : hi ≤ w.heap.size) (a b : Int) :
    Calls Try.prog 27 #[.agg #[.int .i64 c.frame, .int .i64 c.margin, .slice wa c.ws.length wc, .slice pa c.ps.length pc, .slice ca c.cs.length cc], .int .i64 a, .int .i64 b] w fun e w' => e = .returned (.bool (isE c a b)) ∧ Below w.heap.size w w' := by
  obtain ⟨V, hV⟩ : ∃ V, V = w.alloc (.cells #[.int .i64 c.frame, .int .i64 c.margin, .slice wa c.ws.length wc, .slice pa c.ps.length pc, .slice ca c.cs.length cc] 26) := ⟨_, rfl⟩
  have B1 : Below w.heap.size w V := by rw [hV]; exact below1 _ _
  have hblk : V.heap[w.heap.size]? = some (.cells #[.int .i64 c.frame, .int .i64 c.margin, .slice wa c.ws.length wc, .slice pa c.ps.length pc, .slice ca c.cs.length cc] 26 (0, 0)) := by rw [hV]; exact heap_alloc_new _ _
  have hvs : w.heap.size + 1 ≤ V.heap.size := by rw [hV]; simp
  have ks : ∀ W : World, Below V.heap.size V W → (W.cell? ⟨w.heap.size, 0, none⟩ = some (.int .i64 c.frame) ∧ W.cell? ⟨w.heap.size, 1, none⟩ = some (.int .i64 c.margin) ∧ W.cell? ⟨w.heap.size, 2, none⟩ = some (.slice wa c.ws.length wc) ∧ W.cell? ⟨w.heap.size, 3, none⟩ = some (.slice pa c.ps.length pc) ∧ W.cell? ⟨w.heap.size, 4, none⟩ = some (.slice ca c.cs.length cc)) ∧ SysL W hi c pvs wa pa ca wc pc cc := by
    intro W g
    have q := fun (i : Nat) (u : Value) hu => (g.cell (p := ⟨w.heap.size, i, none⟩) (lt_of_block hblk)).trans (cell_in (j := i) (u := u) hblk hu)
    exact ⟨⟨q 0 _ rfl, q 1 _ rfl, q 2 _ rfl, q 3 _ rfl, q 4 _ rfl⟩, h.keep (SameIn.of_below (B1.trans (g.mono (by omega))) hh)⟩
  obtain ⟨⟨z0, z1, z2, z3, z4⟩, _⟩ := ks V (Below.refl _ _)
  have KS := Lib.hid ks; have HV := Lib.hid hV; have HB1 := Lib.hid B1; have HF := Lib.hid f
  have HLP := Lib.hid h.l3.length
  have hcn := f.2.2.1
  have hpn := f.2.1
  clear ks hV B1 hblk h
  cases ha : hasB c.ps.length a with
  | false =>
    have HE := Lib.hid (isE_none (b := b) (.inl ha))
    have HA := Lib.hid ha; clear ha
    go_enter Try.func27, Try.ntmps27
    go_wp2_with fail
    rw [← HV.out]
    go_wp2_with (first | (go_at_call 12; refine (refHas_any _ _ _ _ _ _ _ _ _ _ _ _ _).mono ?_; rintro e w1 ⟨rfl, hb1⟩; rw [HA.out]))
    go_ret
    exact ⟨by rw [HE.out]; rfl, HB1.out.trans (hb1.mono (by omega))⟩
  | true =>
    cases hb : hasB c.ps.length b with
    | false =>
      have HE := Lib.hid (isE_none (a := a) (.inr hb))
      have HA := Lib.hid ha; have HB := Lib.hid hb; clear ha hb
      go_enter Try.func27, Try.ntmps27
      go_wp2_with fail
      rw [← HV.out]
      go_wp2_with (first
        | (go_at_call 12; have _t := hb1; refine (refHas_any _ _ _ _ _ _ _ _ _ _ _ _ _).mono ?_; rintro e w2 ⟨rfl, hb2⟩; rw [HB.out])
        | (go_at_call 12; refine (refHas_any _ _ _ _ _ _ _ _ _ _ _ _ _).mono ?_; rintro e w1 ⟨rfl, hb1⟩; rw [HA.out]; obtain ⟨⟨z0, z1, z2, z3, z4⟩, _⟩ := KS.out _ hb1))
      go_ret
      exact ⟨by rw [HE.out]; rfl, HB1.out.trans ((hb1.trans (hb2.mono hb1.size)).mono (by omega))⟩
    | true =>
      have HA := Lib.hid ha; have HB := Lib.hid hb; clear ha hb
      go_enter Try.func27, Try.ntmps27
      go_wp2_with fail
      rw [← HV.out]
      go_wp2_with (first
        | (go_at_call 12; have _t := hb1; refine (refHas_any _ _ _ _ _ _ _ _ _ _ _ _ _).mono ?_; rintro e w2 ⟨rfl, hb2⟩; rw [HB.out])
        | (go_at_call 12; refine (refHas_any _ _ _ _ _ _ _ _ _ _ _ _ _).mono ?_; rintro e w1 ⟨rfl, hb1⟩; rw [HA.out]; obtain ⟨⟨z0, z1, z2, z3, z4⟩, _⟩ := KS.out _ hb1))
      have hbv : Below V.heap.size V w2 := hb1.trans (hb2.mono hb1.size)
      obtain ⟨⟨y0, y1, y2, y3, y4⟩, hS⟩ := KS.out _ hbv
      have HBV := Lib.hid hbv; have HS := Lib.hid hS
      clear hb1 hb2 hbv hS z0 z1 z2 z3 z4
      go_loopw [7] (fun i wr => wr = w2 ∧ ∃ k : Nat, k ≤ c.cs.length ∧ i = .int .i64 k ∧ Hid (∀ (k' : Nat) (x : Ch), k' < k → c.cs[k']? = some x → x.from_ = a → x.to = b → False)) (fun i _ => c.cs.length - (intOf i).toNat)
      case atStart => exact ⟨rfl, 0, by omega, rfl, Lib.hid (fun k' x h => by omega)⟩
      case round =>
        obtain ⟨rfl, k, hk, rfl, HN⟩ := hrel
        by_cases hlt : k < c.cs.length
        · have tk : decide ((k : Int) < (c.cs.length : Int)) = true := by simpa using hlt
          have l0 : (0 : Int) ≤ (k : Int) := by omega
          have l1 : (k : Int) < (c.cs.length : Int) := by omega
          obtain ⟨x, hx⟩ : ∃ x, c.cs[k]? = some x := ⟨_, List.getElem?_eq_getElem hlt⟩
          obtain ⟨a2, c2, ee, _, _, hc⟩ := HS.out.l4
          cases ee
          rcases hc with h0 | ⟨g, off, rfl, hb1, hb2, hc⟩
          · omega
          obtain ⟨s0, s1, s2, s3⟩ := Lies.ch hc hx
          have HX := Lib.hid hx
          clear hx hc
          by_cases e1 : x.from_ = a
          · have d1 : decide (x.from_ = a) = true := by simpa using e1
            have b1 : (x.from_ == a) = true := by simpa using e1
            by_cases e2 : x.to = b
            · have d2 : decide (x.to = b) = true := by simpa using e2
              have b2 : (x.to == b) = true := by simpa using e2
              have HE := Lib.hid (isE_chan HA.out HB.out HX.out e1 e2)
              clear e1 e2
              go_wp2
              go_ret
              exact ⟨by rw [HE.out]; rfl, HB1.out.trans (HBV.out.mono (by omega))⟩
            · have d2 : decide (x.to = b) = false := by simpa using e2
              have b2 : (x.to == b) = false := by simpa using e2
              have HE := Lib.hid e2
              clear e1 e2
              go_wp2
              go_roundw
              case rel =>
                refine ⟨trivial, k + 1, by omega, by go_num, Lib.hid (fun k' y h1 h2 h3 h4 => ?_)⟩
                by_cases ek : k' = k
                · subst ek; rw [HX.out] at h2; cases h2; exact HE.out h4
                · exact HN.out k' y (by omega) h2 h3 h4
              case measure => simp [intOf]; omega
          · have d1 : decide (x.from_ = a) = false := by simpa using e1
            have b1 : (x.from_ == a) = false := by simpa using e1
            have HE := Lib.hid e1
            clear e1
            go_wp2
            go_roundw
            case rel =>
              refine ⟨trivial, k + 1, by omega, by go_num, Lib.hid (fun k' y h1 h2 h3 h4 => ?_)⟩
              by_cases ek : k' = k
              · subst ek; rw [HX.out] at h2; cases h2; exact HE.out h3
              · exact HN.out k' y (by omega) h2 h3 h4
            case measure => simp [intOf]; omega
        · have tk : decide ((k : Int) < (c.cs.length : Int)) = false := by simp; omega
          have HNC : Hid (∀ (k' : Nat) (x : Ch), c.cs[k']? = some x → x.from_ = a → x.to = b → False) := Lib.hid (fun k' x hx => HN.out k' x (by have := (List.getElem?_eq_some_iff.1 hx).1; omega) hx)
          obtain ⟨wo, hwo⟩ : ∃ wo, wo = wr := ⟨_, rfl⟩
          subst hwo
          clear HN
          go_wp2
          go_loopw [8] (fun i wr => wo = wr ∧ ∃ p : Nat, p ≤ c.ps.length ∧ i = .int .i64 p ∧ Hid (∀ (p' : Nat) (x : Pt), p' < p → c.ps[p']? = some x → laterB a b ((p' : Int) :: x.ds) = false)) (fun i _ => c.ps.length - (intOf i).toNat)
          case atStart => exact ⟨rfl, 0, by omega, rfl, Lib.hid (fun k' x h => by omega)⟩
          case round =>
            obtain ⟨rfl, p, hp, rfl, HN⟩ := hrel
            by_cases hlp : p < c.ps.length
            · have tp : decide ((p : Int) < (c.ps.length : Int)) = true := by simpa using hlp
              have l0 : (0 : Int) ≤ (p : Int) := by omega
              have l1 : (p : Int) < (c.ps.length : Int) := by omega
              obtain ⟨x, hx⟩ : ∃ x, c.ps[p]? = some x := ⟨_, List.getElem?_eq_getElem hlp⟩
              obtain ⟨pv, hpv⟩ : ∃ x, pvs[p]? = some x := ⟨_, List.getElem?_eq_getElem (by rw [HLP.out]; exact hlp)⟩
              have hpl := HS.out.l3.at hpv hx
              obtain ⟨ta, sa, da, tc, sc, dc, e1, e2, e3⟩ := hpl.slices
              have hds := hpl.2.2.1
              rw [e3] at hds
              obtain ⟨a2, c2, ee, _, _, hc⟩ := HS.out.l2
              cases ee
              rcases hc with h0 | ⟨g, off, rfl, hb1, hb2, hc⟩
              · omega
              obtain ⟨s0, s1, s2, s3, s4, s5⟩ := Lies.pv hc hpv
              rw [e1] at s0; rw [e2] at s1; rw [e3] at s2
              have HX := Lib.hid hx; have HDS := Lib.hid hds
              have hdl : x.ds.length ≤ 1000 := (HF.out.2.2.2 x (List.mem_of_getElem? hx)).2.2
              clear hx hc hpl hds e1 e2 e3 hpv
              obtain ⟨ds, hdse⟩ : ∃ ds, ds = x.ds := ⟨_, rfl⟩
              rw [← hdse] at s2 HDS hdl
              have HDE := Lib.hid hdse
              clear hdse
              go_wp2
              go_loopw [10] (fun i wr => wo = wr ∧ ∃ k : Nat, k ≤ ds.length ∧ i = .int .i64 k ∧ Hid (∀ (k' : Nat), k' < k → ds[k']? = some b → a ∉ (p : Int) :: ds.take k')) (fun i _ => ds.length - (intOf i).toNat)
              case atStart => exact ⟨rfl, 0, by omega, rfl, Lib.hid (fun k' h => by omega)⟩
              case round =>
                obtain ⟨rfl, k, hk, rfl, HK⟩ := hrel
                by_cases hlk : k < ds.length
                · have tk2 : decide ((k : Int) < (ds.length : Int)) = true := by simpa using hlk
                  have m0 : (0 : Int) ≤ (k : Int) := by omega
                  have m1 : (k : Int) < (ds.length : Int) := by omega
                  obtain ⟨y, hy⟩ : ∃ y, ds[k]? = some y := ⟨_, List.getElem?_eq_getElem hlk⟩
                  obtain ⟨a3, c3, ee, _, _, hc⟩ := HDS.out
                  cases ee
                  rcases hc with h0 | ⟨g2, off2, rfl, hq1, hq2, hc⟩
                  · omega
                  have q0 := Lies.int hc hy
                  have HC := Lib.hid hc
                  have HY := Lib.hid hy
                  clear hy hc
                  by_cases e1 : (p : Int) = a ∧ y = b
                  · have d1 : decide ((p : Int) = a) = true := by simpa using e1.1
                    have b1 : ((p : Int) == a) = true := by simpa using e1.1
                    have d2 : decide (y = b) = true := by simpa using e1.2
                    have b2 : (y == b) = true := by simpa using e1.2
                    have HE := Lib.hid (isE_don HA.out HB.out HX.out (by rw [← HDE.out]; exact laterB_yes (k := k) (by rw [HY.out, e1.2]) (by rw [e1.1]; simp)))
                    clear e1
                    go_wp2
                    go_ret
                    exact ⟨by rw [HE.out]; rfl, HB1.out.trans (HBV.out.mono (by omega))⟩
                  · have HE1 := Lib.hid e1
                    clear e1
                    have hfin : ∀ (i : Nat), i = k → (∀ i' : Nat, i' < i → ds[i']? = some a → y ≠ b) → ∀ (k' : Nat), k' < k + 1 → ds[k']? = some b → a ∉ (p : Int) :: ds.take k' := by
                      intro i hi hn k' hk' hb' hm
                      by_cases ek : k' = k
                      · subst ek
                        rw [HY.out] at hb'
                        have hyb : y = b := by simpa using hb'
                        rcases List.mem_cons.1 hm with e | hm
                        · exact HE1.out ⟨e.symm, hyb⟩
                        · obtain ⟨i', h1⟩ := List.mem_iff_getElem?.1 hm
                          rw [List.getElem?_take] at h1
                          split at h1
                          · exact hn i' (by omega) h1 hyb
                          · cases h1
                      · exact HK.out k' (by omega) hb' hm
                    have HFIN := Lib.hid hfin
                    clear hfin
                    have hd : (decide ((p : Int) = a) = true ∧ ((p : Int) == a) = true ∧ decide (y = b) = false ∧ (y == b) = false) ∨ (decide ((p : Int) = a) = false ∧ ((p : Int) == a) = false) := by
                      by_cases e3 : (p : Int) = a
                      · have e4 : ¬ y = b := fun e => HE1.out ⟨e3, e⟩
                        exact .inl ⟨by simpa using e3, by simpa using e3, by simpa using e4, by simpa using e4⟩
                      · exact .inr ⟨by simpa using e3, by simpa using e3⟩
                    rcases hd with ⟨d1, b1, d2, b2⟩ | ⟨d1, b1⟩
                    all_goals
                      (go_wp2
                       go_loopw [11] (fun i wr => wo = wr ∧ ∃ m : Nat, m ≤ k ∧ i = .int .i64 m ∧ Hid (∀ i' : Nat, i' < m → ds[i']? = some a → y ≠ b)) (fun i _ => k - (intOf i).toNat)
                       case atStart => exact ⟨rfl, 0, by omega, rfl, Lib.hid (fun i' h => by omega)⟩
                       case round =>
                         obtain ⟨rfl, m, hm, rfl, HM⟩ := hrel
                         by_cases hlm : m < k
                         · have tk3 : decide ((m : Int) < (k : Int)) = true := by simpa using hlm
                           have n0 : (0 : Int) ≤ (m : Int) := by omega
                           have n1 : (m : Int) < (ds.length : Int) := by omega
                           obtain ⟨z, hz⟩ : ∃ z, ds[m]? = some z := ⟨_, List.getElem?_eq_getElem (by omega)⟩
                           have q1 := Lies.int HC.out hz
                           have HZ := Lib.hid hz
                           clear hz
                           by_cases e5 : z = a
                           · have d3 : decide (z = a) = true := by simpa using e5
                             have b3 : (z == a) = true := by simpa using e5
                             by_cases e6 : y = b
                             · have d4 : decide (y = b) = true := by simpa using e6
                               have b4 : (y == b) = true := by simpa using e6
                               have HE := Lib.hid (isE_don HA.out HB.out HX.out (by rw [← HDE.out]; exact laterB_yes (k := k) (by rw [HY.out, e6]) (List.mem_cons_of_mem _ (List.mem_of_getElem? (i := m) (by rw [List.getElem?_take_of_lt hlm, HZ.out, e5])))))
                               clear e5 e6
                               first
                                 | (exfalso; simp_all; done)
                                 | (go_wp2
                                    go_ret
                                    exact ⟨by rw [HE.out]; rfl, HB1.out.trans (HBV.out.mono (by omega))⟩)
                             · have d4 : decide (y = b) = false := by simpa using e6
                               have b4 : (y == b) = false := by simpa using e6
                               have HE6 := Lib.hid e6
                               clear e5 e6
                               go_wp2
                               go_roundw
                               case rel =>
                                 exact ⟨trivial, m + 1, by omega, by go_num, Lib.hid (fun i' h1 h2 => HE6.out)⟩
                               case measure => simp [intOf]; omega
                           · have d3 : decide (z = a) = false := by simpa using e5
                             have b3 : (z == a) = false := by simpa using e5
                             have HE5 := Lib.hid e5
                             clear e5
                             go_wp2
                             go_roundw
                             case rel =>
                               refine ⟨trivial, m + 1, by omega, by go_num, Lib.hid (fun i' h1 h2 => ?_)⟩
                               by_cases ei : i' = m
                               · subst ei; rw [HZ.out] at h2; exact absurd (Option.some.inj h2) HE5.out
                               · exact HM.out i' (by omega) h2
                             case measure => simp [intOf]; omega
                         · have tk3 : decide ((m : Int) < (k : Int)) = false := by simp; omega
                           have HN2 := Lib.hid (HFIN.out m (by omega) HM.out)
                           go_wp2
                           go_roundw
                           case rel => exact ⟨trivial, k + 1, by omega, by go_num, HN2⟩
                           case measure => simp [intOf]; omega)
                · have tk2 : decide ((k : Int) < (ds.length : Int)) = false := by simp; omega
                  have HNO : Hid (laterB a b ((p : Int) :: x.ds) = false) := Lib.hid (by
                    rw [← HDE.out]
                    exact laterB_no (fun k' hk' => HK.out k' (by have := (List.getElem?_eq_some_iff.1 hk').1; omega) hk'))
                  go_wp2
                  go_roundw
                  case rel =>
                    refine ⟨trivial, p + 1, by omega, by go_num, Lib.hid (fun p' x' h1 h2 => ?_)⟩
                    by_cases ep : p' = p
                    · subst ep; rw [HX.out] at h2; cases h2; exact HNO.out
                    · exact HN.out p' x' (by omega) h2
                  case measure => simp [intOf]; omega
            · have tp : decide ((p : Int) < (c.ps.length : Int)) = false := by simp; omega
              have HE := Lib.hid (isE_no HNC.out (fun p' x hx => HN.out p' x (by have := (List.getElem?_eq_some_iff.1 hx).1; omega) hx))
              go_wp2
              go_ret
              exact ⟨by rw [HE.out]; rfl, HB1.out.trans (HBV.out.mono (by omega))⟩
end Go.Proofs.Ytkikapodobeaaaa
