/- Which numbers are partitions', and which are other ones, each once: plain facts, and the document's walk. -/
import Derived.Test.YtiojmekoemlmkaaConfJ
import Derived.Deep.RegionLaw
import Derived.Deep.CutRange
namespace Go.Proofs.Ytiojmekoemlmkaa
open Go.ChangeShapes Go.WideShapes Go.ChangeAt Go.RowKit
set_option linter.unusedVariables false
attribute [local go_sem ↓] Go.wp_at_zero Go.wp_at_succ

def hasB (pn : Nat) (p : Int) : Bool := decide (0 ≤ p ∧ p < (pn : Int))
def namesB (pn : Nat) (p : Int) (l : List Int) : Bool := decide ((p :: l).Nodup ∧ ∀ q ∈ p :: l, 0 ≤ q ∧ q < (pn : Int))
def OkTo (pn : Nat) (p : Int) (l : List Int) (k : Nat) : Prop := (p :: l.take k).Nodup ∧ ∀ q ∈ p :: l.take k, 0 ≤ q ∧ q < (pn : Int)
theorem hasB_true {pn : Nat} {p : Int} (h : hasB pn p = true) : 0 ≤ p ∧ p < (pn : Int) := of_decide_eq_true h
theorem hasB_false {pn : Nat} {p : Int} (h : hasB pn p = false) : ¬ (0 ≤ p ∧ p < (pn : Int)) := of_decide_eq_false h
theorem okTo_zero {pn : Nat} {p : Int} {l : List Int} (h : hasB pn p = true) : OkTo pn p l 0 := by
  have := hasB_true h
  exact ⟨by simp, fun q hq => by simp at hq; subst hq; exact this⟩
theorem okTo_next {pn : Nat} {p : Int} {l : List Int} {k : Nat} {q : Int} (h : OkTo pn p l k) (hx : l[k]? = some q) (hq : hasB pn q = true) (hn : q ∉ p :: l.take k) : OkTo pn p l (k + 1) := by
  have ht : p :: l.take (k + 1) = (p :: l.take k) ++ [q] := by rw [List.take_add_one, hx]; rfl
  unfold OkTo
  rw [ht]
  refine ⟨List.nodup_append.2 ⟨h.1, by simp, fun a ha b hb => by simp at hb; subst hb; intro e; subst e; exact hn ha⟩, fun y hy => ?_⟩
  rcases List.mem_append.1 hy with hy | hy
  · exact h.2 y hy
  · simp at hy; subst hy; exact hasB_true hq
theorem namesB_end {pn : Nat} {p : Int} {l : List Int} {k : Nat} (h : OkTo pn p l k) (hk : l.length ≤ k) : namesB pn p l = true := by
  unfold OkTo at h
  rw [List.take_of_length_le hk] at h
  exact decide_eq_true h
theorem namesB_out {pn : Nat} {p : Int} {l : List Int} {k : Nat} {q : Int} (hx : l[k]? = some q) (hq : hasB pn q = false) : namesB pn p l = false :=
  decide_eq_false fun h => hasB_false hq (h.2 q (List.mem_cons_of_mem _ (List.mem_of_getElem? hx)))
theorem namesB_twice {pn : Nat} {p : Int} {l : List Int} {k : Nat} {q : Int} (hx : l[k]? = some q) (hq : q ∈ p :: l.take k) : namesB pn p l = false :=
  decide_eq_false fun h => by
    have hl : p :: l = (p :: l.take k) ++ (q :: l.drop (k + 1)) := by
      have hk := (List.getElem?_eq_some_iff.1 hx).1
      have he := (List.getElem?_eq_some_iff.1 hx).2
      rw [List.cons_append, ← he, ← List.drop_eq_getElem_cons hk, List.take_append_drop]
    have h1 := h.1
    rw [hl] at h1
    exact (List.nodup_append.1 h1).2.2 q hq q (by simp) rfl
theorem namesB_none {pn : Nat} {p : Int} {l : List Int} (h : hasB pn p = false) : namesB pn p l = false :=
  decide_eq_false fun g => hasB_false h (g.2 p (by simp))
theorem pig : ∀ (n : Nat) (l : List Int), l.Nodup → (∀ x ∈ l, 0 ≤ x ∧ x < (n : Int)) → l.length ≤ n
  | 0, l, _, h => by
    cases l with
    | nil => simp
    | cons x _ => have := h x (by simp); omega
  | n + 1, l, hn, h => by
    have h1 := pig n (l.erase (n : Int)) (hn.erase _) fun x hx => by
      have h2 := h x (List.mem_of_mem_erase hx)
      have h3 : x ≠ (n : Int) := fun e => by subst e; exact hn.not_mem_erase hx
      omega
    rw [List.length_erase] at h1
    split at h1 <;> omega
theorem namesB_long {pn : Nat} {p : Int} {l : List Int} (h : pn ≤ l.length) : namesB pn p l = false :=
  decide_eq_false fun g => by have := pig pn (p :: l) g.1 g.2; simp at this; omega

theorem has_any (fr mg p : Int) (wa pa ca : Option Addr) (wn wc pn pc cn cc : Nat) (w : World) :
    Calls Try.prog 47 #[.agg #[.int .i64 fr, .int .i64 mg, .slice wa wn wc, .slice pa pn pc, .slice ca cn cc], .int .i64 p] w fun e w' => e = .returned (.bool (hasB pn p)) ∧ Below w.heap.size w w' := by
  rcases (show p < 0 ∨ (0 ≤ p ∧ (pn : Int) ≤ p) ∨ (0 ≤ p ∧ p < (pn : Int)) from by omega) with h | ⟨h, h⟩ | ⟨h, h⟩
  all_goals
    (go_enter Try.func47, Try.ntmps47
     go_wp2
     go_ret
     exact ⟨ret_b (by rw [Bool.eq_iff_iff]; simp [hasB]; try omega), below1 _ _⟩)
theorem refHas_any (fr mg p : Int) (wa pa ca : Option Addr) (wn wc pn pc cn cc : Nat) (w : World) :
    Calls Try.prog 53 #[.agg #[.int .i64 fr, .int .i64 mg, .slice wa wn wc, .slice pa pn pc, .slice ca cn cc], .int .i64 p] w fun e w' => e = .returned (.bool (hasB pn p)) ∧ Below w.heap.size w w' := by
  rcases (show p < 0 ∨ (0 ≤ p ∧ (pn : Int) ≤ p) ∨ (0 ≤ p ∧ p < (pn : Int)) from by omega) with h | ⟨h, h⟩ | ⟨h, h⟩
  all_goals
    (go_enter Try.func53, Try.ntmps53
     go_wp2
     go_ret
     exact ⟨ret_b (by rw [Bool.eq_iff_iff]; simp [hasB]; try omega), below1 _ _⟩)

set_option maxRecDepth 100000 in
set_option maxHeartbeats 4000000 in
theorem refNames_any (fr mg p : Int) (wa pa ca la : Option Addr) (wn wc pn pc cn cc ln lc : Nat) (w : World) (lo hi : Nat) (l : List Int) (hln : l.length = ln) (hl : Lies w lo hi (.slice la ln lc) ln 1 (l.flatMap intCells)) (hhi : hi ≤ w.heap.size) (hl2 : ln ≤ 1000) :
    Calls Try.prog 30 #[.agg #[.int .i64 fr, .int .i64 mg, .slice wa wn wc, .slice pa pn pc, .slice ca cn cc], .int .i64 p, .slice la ln lc] w fun e w' => e = .returned (.bool (namesB pn p l)) ∧ Below w.heap.size w w' := by
  obtain ⟨V, hV⟩ : ∃ V, V = w.alloc (.cells #[.int .i64 fr, .int .i64 mg, .slice wa wn wc, .slice pa pn pc, .slice ca cn cc] 26) := ⟨_, rfl⟩
  have B1 : Below w.heap.size w V := by rw [hV]; exact below1 _ _
  have hblk : V.heap[w.heap.size]? = some (.cells #[.int .i64 fr, .int .i64 mg, .slice wa wn wc, .slice pa pn pc, .slice ca cn cc] 26 (0, 0)) := by rw [hV]; exact heap_alloc_new _ _
  have hlt0 := lt_of_block hblk
  have HLL := Lib.hid (hl.keep (SameIn.of_below B1 hhi)); have HLN := Lib.hid hln
  have HBK := Lib.hid hblk; have HB1 := Lib.hid B1
  have hhv : hi ≤ V.heap.size := by omega
  have HV := Lib.hid hV
  clear hl hln hblk B1 hV
  cases hp : hasB pn p with
  | false =>
    have HR := Lib.hid (namesB_none (l := l) hp)
    have HPP := Lib.hid hp; clear hp
    go_enter Try.func30, Try.ntmps30
    go_wp2_with (first | (go_at_call 53; refine (refHas_any _ _ _ _ _ _ _ _ _ _ _ _ _).mono ?_; rintro e w1 ⟨rfl, hb1⟩; rw [HPP.out]))
    go_ret
    exact ⟨by rw [HR.out]; rfl, (below1 _ _).trans (hb1.mono (by simp))⟩
  | true =>
    have HZ := Lib.hid (okTo_zero (l := l) hp)
    have HPP := Lib.hid hp; clear hp
    go_enter Try.func30, Try.ntmps30
    go_wp2_with (first | (go_at_call 53; refine (refHas_any _ _ _ _ _ _ _ _ _ _ _ _ _).mono ?_; rintro e w1 ⟨rfl, hb1⟩; rw [HPP.out]; rw [← HV.out] at hb1))
    go_loopw [7] (fun i wr => ∃ k : Nat, k ≤ ln ∧ i = .int .i64 k ∧ Hid (OkTo pn p l k) ∧ Below V.heap.size V wr) (fun i _ => ln - (intOf i).toNat)
    case atStart => exact ⟨0, by omega, rfl, HZ, hb1⟩
    case round =>
      clear hb1
      obtain ⟨k, hk, rfl, HA, hb⟩ := hrel
      by_cases hlt : k < ln
      · have tk : decide ((k : Int) < (ln : Int)) = true := by simpa using hlt
        obtain ⟨q, hq⟩ : ∃ x, l[k]? = some x := ⟨_, List.getElem?_eq_getElem (by rw [HLN.out]; exact hlt)⟩
        have hlies := HLL.out.keep (SameIn.of_below hb hhv)
        obtain ⟨a2, c2, ee, _, _, hc⟩ := hlies
        cases ee
        rcases hc with h0 | ⟨b, off, rfl, hb1, hb2, hc⟩
        · omega
        have sk : ∀ (i : Nat) (y : Int), l[i]? = some y → wr.cell? ⟨b, off + i, none⟩ = some (.int .i64 y) := fun i y hy => by
          have := flat_at intCells 1 (fun _ => rfl) l i 0 y hy (by omega)
          rw [Nat.mul_one, Nat.add_zero] at this
          exact hc i _ (this.trans rfl)
        have s0 := sk k q hq
        have HQ := Lib.hid hq
        have hbw : b < V.heap.size := by omega
        have l0 : (0 : Int) ≤ (k : Int) := by omega
        have l1 : (k : Int) < (ln : Int) := by omega
        have HSK := Lib.hid sk
        have HBB := Lib.hid hb
        have ks : ∀ W : World, Below wr.heap.size wr W → Below wr.heap.size wr W ∧ W.cell? ⟨w.heap.size, 0, none⟩ = some (.int .i64 fr) ∧ W.cell? ⟨w.heap.size, 1, none⟩ = some (.int .i64 mg) ∧ W.cell? ⟨w.heap.size, 2, none⟩ = some (.slice wa wn wc) ∧ W.cell? ⟨w.heap.size, 3, none⟩ = some (.slice pa pn pc) ∧ W.cell? ⟨w.heap.size, 4, none⟩ = some (.slice ca cn cc) ∧ W.cell? ⟨b, off + k, none⟩ = some (.int .i64 q) := by
          intro W h
          have hsz := hb.size
          have cc := fun (j : Nat) (u : Value) (hu : (#[.int .i64 fr, .int .i64 mg, .slice wa wn wc, .slice pa pn pc, .slice ca cn cc] : Array Value)[j]? = some u) => (h.cell (p := ⟨w.heap.size, j, none⟩) (by simp; omega)).trans ((hb.cell (p := ⟨w.heap.size, j, none⟩) hlt0).trans (cell_in HBK.out hu))
          exact ⟨h, cc 0 _ rfl, cc 1 _ rfl, cc 2 _ rfl, cc 3 _ rfl, cc 4 _ rfl, (h.cell (p := ⟨b, off + k, none⟩) (by simp; omega)).trans s0⟩
        have KS := Lib.hid ks
        obtain ⟨_, k0, k1, k2, k3, k4, _⟩ := ks wr (Below.refl _ _)
        clear hc hq sk ks hb
        cases hok : hasB pn q with
        | false =>
          have HR := Lib.hid (namesB_out (p := p) HQ.out hok)
          have HOK := Lib.hid hok; clear hok
          go_wp2_with fail
          first | go_region_law
            ((go_simp
              go_at_call 53
              refine (refHas_any _ _ _ _ _ _ _ _ _ _ _ _ _).mono ?_
              rintro e w2 ⟨rfl, hb2⟩
              rw [HOK.out]
              have hbn : Below wr.heap.size wr w2 := Below.trans ((Below.refl _ _).drew) hb2)) | fail
          all_goals go_wp2_with fail
          all_goals go_ret
          all_goals exact ⟨by rw [HR.out]; rfl, HB1.out.trans ((HBB.out.trans (hbn.mono HBB.out.size)).mono HB1.out.size)⟩
        | true =>
          have HOK := Lib.hid hok
          by_cases hqp : q = p
          · have HR := Lib.hid (namesB_twice (pn := pn) (p := p) HQ.out (by rw [hqp]; simp))
            have t1 : (q == p) = true := by simpa using hqp
            clear hok hqp
            go_wp2_with fail
            go_region_law
                ((go_simp
                  go_at_call 53
                  refine (refHas_any _ _ _ _ _ _ _ _ _ _ _ _ _).mono ?_
                  rintro e w2 ⟨rfl, hb2⟩
                  rw [HOK.out]
                  have hbn : Below wr.heap.size wr w2 := Below.trans ((Below.refl _ _).drew) hb2
                  have k5 := (KS.out _ hbn).2.2.2.2.2.2))
            all_goals go_wp2_with fail
            all_goals go_ret
            all_goals exact ⟨by rw [HR.out]; rfl, HB1.out.trans ((HBB.out.trans (hbn.mono HBB.out.size)).mono HB1.out.size)⟩
          · have t1 : (q == p) = false := by simpa using hqp
            have HQP := Lib.hid hqp
            clear hok hqp
            go_wp2_with fail
            go_cut [33] from 19 to 33 (fun r W => r = .bool false ∧ Below wr.heap.size wr W)
            case first =>
              go_region_law
                ((go_simp
                  go_at_call 53
                  refine (refHas_any _ _ _ _ _ _ _ _ _ _ _ _ _).mono ?_
                  rintro e w2 ⟨rfl, hb2⟩
                  rw [HOK.out]
                  have hbn : Below wr.heap.size wr w2 := Below.trans ((Below.refl _ _).drew) hb2
                  have k5 := (KS.out _ hbn).2.2.2.2.2.2))
              all_goals go_wp2_with fail
              all_goals go_meet
              all_goals (case rel => exact ⟨rfl, hbn⟩)
            case rest =>
              obtain ⟨rfl, hcut⟩ := hcut
              have HCUT := Lib.hid hcut
              clear hcut k0 k1 k2 k3 k4 s0 tk
              go_wp2_with fail
              go_loopw [8] (fun i wi => ∃ j : Nat, j ≤ k ∧ i = .int .i64 j ∧ Hid (∀ i, i < j → l[i]? ≠ some q) ∧ Below wr.heap.size wr wi) (fun i _ => k - (intOf i).toNat)
              case atStart => exact ⟨0, by omega, rfl, Lib.hid (fun i hi => by omega), HCUT.out⟩
              case round =>
                rename_i wi
                obtain ⟨j, hj, rfl, HN, hbi⟩ := hrel
                by_cases hjk : j < k
                · have tk : decide ((j : Int) < (k : Int)) = true := by simpa using hjk
                  obtain ⟨y, hy⟩ : ∃ x, l[j]? = some x := ⟨_, List.getElem?_eq_getElem (by rw [HLN.out]; omega)⟩
                  have c1 := (hbi.cell (p := ⟨b, off + j, none⟩) (by have := HBB.out.size; simp; omega)).trans (HSK.out j y hy)
                  have c2 := (hbi.cell (p := ⟨b, off + k, none⟩) (by have := HBB.out.size; simp; omega)).trans (HSK.out k q HQ.out)
                  have HY := Lib.hid hy
                  have m0 : (0 : Int) ≤ (j : Int) := by omega
                  have m1 : (j : Int) < (ln : Int) := by omega
                  have HBI := Lib.hid hbi
                  clear hy hbi
                  by_cases hyq : y = q
                  · have t2 : (y == q) = true := by simpa using hyq
                    have HR := Lib.hid (namesB_twice (pn := pn) (p := p) HQ.out (List.mem_cons_of_mem _ (List.mem_take_iff_getElem.2 ⟨j, by have := (List.getElem?_eq_some_iff.1 HY.out).1; omega, by rw [← hyq]; exact (List.getElem?_eq_some_iff.1 HY.out).2⟩)))
                    clear hyq
                    go_wp2_with fail
                    go_region_held3 (fun W => W.cell? ⟨b, off + j, none⟩ = some (.int .i64 y) ∧ W.cell? ⟨b, off + k, none⟩ = some (.int .i64 q)) (go_keep) (fail)
                    go_wp2_with fail
                    go_ret
                    exact ⟨by rw [HR.out]; rfl, HB1.out.trans ((HBB.out.trans ((HBI.out.drew).mono HBB.out.size)).mono HB1.out.size)⟩
                  · have t2 : (y == q) = false := by simpa using hyq
                    have HYQ := Lib.hid hyq
                    clear hyq
                    go_wp2_with fail
                    go_region_held3 (fun W => W.cell? ⟨b, off + j, none⟩ = some (.int .i64 y) ∧ W.cell? ⟨b, off + k, none⟩ = some (.int .i64 q)) (go_keep) (fail)
                    go_wp2_with fail
                    go_roundw
                    case rel =>
                      refine ⟨j + 1, by omega, by go_num, Lib.hid (fun i hi => ?_), HBI.out.drew⟩
                      by_cases hij : i < j
                      · exact HN.out i hij
                      · have : i = j := by omega
                        subst this
                        rw [HY.out]
                        intro e
                        exact HYQ.out (by injection e)
                    case measure => simp [intOf]; omega
                · have hjk2 : k = j := by omega
                  subst hjk2
                  have HNX := Lib.hid (okTo_next HA.out HQ.out HOK.out (by
                    intro hm
                    rcases List.mem_cons.1 hm with h | h
                    · exact HQP.out h
                    · obtain ⟨i, hi, he⟩ := List.mem_take_iff_getElem.1 h
                      exact HN.out i (by omega) (by rw [List.getElem?_eq_getElem (by omega), he])))
                  have hbv := HBB.out.trans (hbi.mono HBB.out.size)
                  clear hjk
                  go_wp2_with fail
                  go_roundw
                  case rel => exact ⟨k + 1, by omega, by go_num, HNX, hbv⟩
                  case measure => simp [intOf]; omega
      · have tk : decide ((k : Int) < (ln : Int)) = false := by simp; omega
        have HR := Lib.hid (namesB_end HA.out (by rw [HLN.out]; omega))
        go_wp2_with fail
        go_ret
        exact ⟨by rw [HR.out]; rfl, HB1.out.trans (hb.mono HB1.out.size)⟩
end Go.Proofs.Ytiojmekoemlmkaa
