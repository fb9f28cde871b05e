/- Joined of ConfN, ConfO: Which numbers are partitions', and which are other ones, each once: plain facts, and the document's walk. -/
import Derived.Test.YtmkohnpdpcefgaaBase
import Derived.Deep.RegionLaw
import Derived.Deep.CutRange
import Derived.OwnWalk
namespace Go.Proofs.Ytmkohnpdpcefgaa
open Go.ChangeShapes Go.WideShapes Go.ChangeAt Go.RowKit
set_option linter.unusedVariables false
attribute [local go_sem ↓] Go.wp_at_zero Go.wp_at_succ

theorem has_any (fr mg p : Int) (wa pa ca : Option Addr) (wn wc pn pc cn cc : Nat) (w : World) :
    Calls Try.prog 59 #[.agg #[.int .i64 fr, .int .i64 mg, .slice wa wn wc, .slice pa pn pc, .slice ca cn cc], .int .i64 p] w fun e w' => e = .returned (.bool (hasB pn p)) ∧ Below w.heap.size w w' := by
  rcases (show p < 0 ∨ (0 ≤ p ∧ (pn : Int) ≤ p) ∨ (0 ≤ p ∧ p < (pn : Int)) from by omega) with h | ⟨h, h⟩ | ⟨h, h⟩
  all_goals
    (go_enter Try.func59, Try.ntmps59
     go_wp2
     go_ret
     exact ⟨ret_b (by rw [Bool.eq_iff_iff]; simp [hasB]; try omega), below1 _ _⟩)
theorem refHas_any (fr mg p : Int) (wa pa ca : Option Addr) (wn wc pn pc cn cc : Nat) (w : World) :
    Calls Try.prog 51 #[.agg #[.int .i64 fr, .int .i64 mg, .slice wa wn wc, .slice pa pn pc, .slice ca cn cc], .int .i64 p] w fun e w' => e = .returned (.bool (hasB pn p)) ∧ Below w.heap.size w w' := by
  rcases (show p < 0 ∨ (0 ≤ p ∧ (pn : Int) ≤ p) ∨ (0 ≤ p ∧ p < (pn : Int)) from by omega) with h | ⟨h, h⟩ | ⟨h, h⟩
  all_goals
    (go_enter Try.func51, Try.ntmps51
     go_wp2
     go_ret
     exact ⟨ret_b (by rw [Bool.eq_iff_iff]; simp [hasB]; try omega), below1 _ _⟩)

set_option maxRecDepth 100000 in
set_option maxHeartbeats 4000000 in
theorem refNames_any (fr mg p : Int) (wa pa ca la : Option Addr) (wn wc pn pc cn cc ln lc : Nat) (w : World) (lo hi : Nat) (l : List Int) (hln : l.length = ln) (hl : Lies w lo hi (.slice la ln lc) ln 1 (l.flatMap intCells)) (hhi : hi ≤ w.heap.size) (hl2 : ln ≤ 1000) :
    Calls Try.prog 35 #[.agg #[.int .i64 fr, .int .i64 mg, .slice wa wn wc, .slice pa pn pc, .slice ca cn cc], .int .i64 p, .slice la ln lc] w fun e w' => e = .returned (.bool (namesB pn p l)) ∧ Below w.heap.size w w' := by
  obtain ⟨V, hV⟩ : ∃ V, V = w.alloc (.cells #[.int .i64 fr, .int .i64 mg, .slice wa wn wc, .slice pa pn pc, .slice ca cn cc] 26) := ⟨_, rfl⟩
  have B1 : Below w.heap.size w V := by rw [hV]; exact below1 _ _
  have hblk : V.heap[w.heap.size]? = some (.cells #[.int .i64 fr, .int .i64 mg, .slice wa wn wc, .slice pa pn pc, .slice ca cn cc] 26 (0, 0)) := by rw [hV]; exact heap_alloc_new _ _
  have hlt0 := lt_of_block hblk
  have HLL := Lib.hid (hl.keep (SameIn.of_below B1 hhi)); have HLN := Lib.hid hln
  have HBK := Lib.hid hblk; have HB1 := Lib.hid B1
  have hhv : hi ≤ V.heap.size := by omega
  have HV := Lib.hid hV
  clear hl hln hblk B1 hV
  cases hp : hasB pn p with
  | false =>
    have HR := Lib.hid (namesB_none (l := l) hp)
    have HPP := Lib.hid hp; clear hp
    go_enter Try.func35, Try.ntmps35
    go_wp2_with (first | (go_at_call 51; refine (refHas_any _ _ _ _ _ _ _ _ _ _ _ _ _).mono ?_; rintro e w1 ⟨rfl, hb1⟩; rw [HPP.out]))
    go_ret
    exact ⟨by rw [HR.out]; rfl, (below1 _ _).trans (hb1.mono (by simp))⟩
  | true =>
    have HZ := Lib.hid (okTo_zero (l := l) hp)
    have HPP := Lib.hid hp; clear hp
    go_enter Try.func35, Try.ntmps35
    go_wp2_with (first | (go_at_call 51; refine (refHas_any _ _ _ _ _ _ _ _ _ _ _ _ _).mono ?_; rintro e w1 ⟨rfl, hb1⟩; rw [HPP.out]; rw [← HV.out] at hb1))
    go_loopw [7] (fun i wr => ∃ k : Nat, k ≤ ln ∧ i = .int .i64 k ∧ Hid (OkTo pn p l k) ∧ Below V.heap.size V wr) (fun i _ => ln - (intOf i).toNat)
    case atStart => exact ⟨0, by omega, rfl, HZ, hb1⟩
    case round =>
      clear hb1
      obtain ⟨k, hk, rfl, HA, hb⟩ := hrel
      by_cases hlt : k < ln
      · have tk : decide ((k : Int) < (ln : Int)) = true := by simpa using hlt
        obtain ⟨q, hq⟩ : ∃ x, l[k]? = some x := ⟨_, List.getElem?_eq_getElem (by rw [HLN.out]; exact hlt)⟩
        have hlies := HLL.out.keep (SameIn.of_below hb hhv)
        obtain ⟨a2, c2, ee, _, _, hc⟩ := hlies
        cases ee
        rcases hc with h0 | ⟨b, off, rfl, hb1, hb2, hc⟩
        · omega
        have sk : ∀ (i : Nat) (y : Int), l[i]? = some y → wr.cell? ⟨b, off + i, none⟩ = some (.int .i64 y) := fun i y hy => by
          have := flat_at intCells 1 (fun _ => rfl) l i 0 y hy (by omega)
          rw [Nat.mul_one, Nat.add_zero] at this
          exact hc i _ (this.trans rfl)
        have s0 := sk k q hq
        have HQ := Lib.hid hq
        have hbw : b < V.heap.size := by omega
        have l0 : (0 : Int) ≤ (k : Int) := by omega
        have l1 : (k : Int) < (ln : Int) := by omega
        have HSK := Lib.hid sk
        have HBB := Lib.hid hb
        have ks : ∀ W : World, Below wr.heap.size wr W → Below wr.heap.size wr W ∧ W.cell? ⟨w.heap.size, 0, none⟩ = some (.int .i64 fr) ∧ W.cell? ⟨w.heap.size, 1, none⟩ = some (.int .i64 mg) ∧ W.cell? ⟨w.heap.size, 2, none⟩ = some (.slice wa wn wc) ∧ W.cell? ⟨w.heap.size, 3, none⟩ = some (.slice pa pn pc) ∧ W.cell? ⟨w.heap.size, 4, none⟩ = some (.slice ca cn cc) ∧ W.cell? ⟨b, off + k, none⟩ = some (.int .i64 q) := by
          intro W h
          have hsz := hb.size
          have cc := fun (j : Nat) (u : Value) (hu : (#[.int .i64 fr, .int .i64 mg, .slice wa wn wc, .slice pa pn pc, .slice ca cn cc] : Array Value)[j]? = some u) => (h.cell (p := ⟨w.heap.size, j, none⟩) (by simp; omega)).trans ((hb.cell (p := ⟨w.heap.size, j, none⟩) hlt0).trans (cell_in HBK.out hu))
          exact ⟨h, cc 0 _ rfl, cc 1 _ rfl, cc 2 _ rfl, cc 3 _ rfl, cc 4 _ rfl, (h.cell (p := ⟨b, off + k, none⟩) (by simp; omega)).trans s0⟩
        have KS := Lib.hid ks
        obtain ⟨_, k0, k1, k2, k3, k4, _⟩ := ks wr (Below.refl _ _)
        clear hc hq sk ks hb
        cases hok : hasB pn q with
        | false =>
          have HR := Lib.hid (namesB_out (p := p) HQ.out hok)
          have HOK := Lib.hid hok; clear hok
          go_wp2_with fail
          first | go_region_law
            ((go_simp
              go_at_call 51
              refine (refHas_any _ _ _ _ _ _ _ _ _ _ _ _ _).mono ?_
              rintro e w2 ⟨rfl, hb2⟩
              rw [HOK.out]
              have hbn : Below wr.heap.size wr w2 := Below.trans ((Below.refl _ _).drew) hb2)) | fail
          all_goals go_wp2_with fail
          all_goals go_ret
          all_goals exact ⟨by rw [HR.out]; rfl, HB1.out.trans ((HBB.out.trans (hbn.mono HBB.out.size)).mono HB1.out.size)⟩
        | true =>
          have HOK := Lib.hid hok
          by_cases hqp : q = p
          · have HR := Lib.hid (namesB_twice (pn := pn) (p := p) HQ.out (by rw [hqp]; simp))
            have t1 : (q == p) = true := by simpa using hqp
            clear hok hqp
            go_wp2_with fail
            go_region_law
                ((go_simp
                  go_at_call 51
                  refine (refHas_any _ _ _ _ _ _ _ _ _ _ _ _ _).mono ?_
                  rintro e w2 ⟨rfl, hb2⟩
                  rw [HOK.out]
                  have hbn : Below wr.heap.size wr w2 := Below.trans ((Below.refl _ _).drew) hb2
                  have k5 := (KS.out _ hbn).2.2.2.2.2.2))
            all_goals go_wp2_with fail
            all_goals go_ret
            all_goals exact ⟨by rw [HR.out]; rfl, HB1.out.trans ((HBB.out.trans (hbn.mono HBB.out.size)).mono HB1.out.size)⟩
          · have t1 : (q == p) = false := by simpa using hqp
            have HQP := Lib.hid hqp
            clear hok hqp
            go_wp2_with fail
            go_cut [33] from 19 to 33 (fun r W => r = .bool false ∧ Below wr.heap.size wr W)
            case first =>
              go_region_law
                ((go_simp
                  go_at_call 51
                  refine (refHas_any _ _ _ _ _ _ _ _ _ _ _ _ _).mono ?_
                  rintro e w2 ⟨rfl, hb2⟩
                  rw [HOK.out]
                  have hbn : Below wr.heap.size wr w2 := Below.trans ((Below.refl _ _).drew) hb2
                  have k5 := (KS.out _ hbn).2.2.2.2.2.2))
              all_goals go_wp2_with fail
              all_goals go_meet
              all_goals (case rel => exact ⟨rfl, hbn⟩)
            case rest =>
              obtain ⟨rfl, hcut⟩ := hcut
              have HCUT := Lib.hid hcut
              clear hcut k0 k1 k2 k3 k4 s0 tk
              go_wp2_with fail
              go_loopw [8] (fun i wi => ∃ j : Nat, j ≤ k ∧ i = .int .i64 j ∧ Hid (∀ i, i < j → l[i]? ≠ some q) ∧ Below wr.heap.size wr wi) (fun i _ => k - (intOf i).toNat)
              case atStart => exact ⟨0, by omega, rfl, Lib.hid (fun i hi => by omega), HCUT.out⟩
              case round =>
                rename_i wi
                obtain ⟨j, hj, rfl, HN, hbi⟩ := hrel
                by_cases hjk : j < k
                · have tk : decide ((j : Int) < (k : Int)) = true := by simpa using hjk
                  obtain ⟨y, hy⟩ : ∃ x, l[j]? = some x := ⟨_, List.getElem?_eq_getElem (by rw [HLN.out]; omega)⟩
                  have c1 := (hbi.cell (p := ⟨b, off + j, none⟩) (by have := HBB.out.size; simp; omega)).trans (HSK.out j y hy)
                  have c2 := (hbi.cell (p := ⟨b, off + k, none⟩) (by have := HBB.out.size; simp; omega)).trans (HSK.out k q HQ.out)
                  have HY := Lib.hid hy
                  have m0 : (0 : Int) ≤ (j : Int) := by omega
                  have m1 : (j : Int) < (ln : Int) := by omega
                  have HBI := Lib.hid hbi
                  clear hy hbi
                  by_cases hyq : y = q
                  · have t2 : (y == q) = true := by simpa using hyq
                    have HR := Lib.hid (namesB_twice (pn := pn) (p := p) HQ.out (List.mem_cons_of_mem _ (List.mem_take_iff_getElem.2 ⟨j, by have := (List.getElem?_eq_some_iff.1 HY.out).1; omega, by rw [← hyq]; exact (List.getElem?_eq_some_iff.1 HY.out).2⟩)))
                    clear hyq
                    go_wp2_with fail
                    go_region_held3 (fun W => W.cell? ⟨b, off + j, none⟩ = some (.int .i64 y) ∧ W.cell? ⟨b, off + k, none⟩ = some (.int .i64 q)) (go_keep) (fail)
                    go_wp2_with fail
                    go_ret
                    exact ⟨by rw [HR.out]; rfl, HB1.out.trans ((HBB.out.trans ((HBI.out.drew).mono HBB.out.size)).mono HB1.out.size)⟩
                  · have t2 : (y == q) = false := by simpa using hyq
                    have HYQ := Lib.hid hyq
                    clear hyq
                    go_wp2_with fail
                    go_region_held3 (fun W => W.cell? ⟨b, off + j, none⟩ = some (.int .i64 y) ∧ W.cell? ⟨b, off + k, none⟩ = some (.int .i64 q)) (go_keep) (fail)
                    go_wp2_with fail
                    go_roundw
                    case rel =>
                      refine ⟨j + 1, by omega, by go_num, Lib.hid (fun i hi => ?_), HBI.out.drew⟩
                      by_cases hij : i < j
                      · exact HN.out i hij
                      · have : i = j := by omega
                        subst this
                        rw [HY.out]
                        intro e
                        exact HYQ.out (by injection e)
                    case measure => simp [intOf]; omega
                · have hjk2 : k = j := by omega
                  subst hjk2
                  have HNX := Lib.hid (okTo_next HA.out HQ.out HOK.out (by
                    intro hm
                    rcases List.mem_cons.1 hm with h | h
                    · exact HQP.out h
                    · obtain ⟨i, hi, he⟩ := List.mem_take_iff_getElem.1 h
                      exact HN.out i (by omega) (by rw [List.getElem?_eq_getElem (by omega), he])))
                  have hbv := HBB.out.trans (hbi.mono HBB.out.size)
                  clear hjk
                  go_wp2_with fail
                  go_roundw
                  case rel => exact ⟨k + 1, by omega, by go_num, HNX, hbv⟩
                  case measure => simp [intOf]; omega
      · have tk : decide ((k : Int) < (ln : Int)) = false := by simp; omega
        have HR := Lib.hid (namesB_end HA.out (by rw [HLN.out]; omega))
        go_wp2_with fail
        go_ret
        exact ⟨by rw [HR.out]; rfl, HB1.out.trans (hb.mono HB1.out.size)⟩
end Go.Proofs.Ytmkohnpdpcefgaa
namespace Go.Proofs.Ytmkohnpdpcefgaa
open Go.ChangeShapes Go.WideShapes Go.ChangeAt Go.RowKit
set_option linter.unusedVariables false
attribute [local go_sem ↓] Go.wp_at_zero Go.wp_at_succ

/-- Marks: of each number below pn, whether it is among those of s. -/
def marks (pn : Nat) (s : List Int) : List Value := (List.range pn).map fun (i : Nat) => Value.bool (decide ((i : Int) ∈ s))
theorem marks_len (pn : Nat) (s : List Int) : (marks pn s).length = pn := by simp [marks]
theorem marks_at {pn : Nat} {s : List Int} {i : Nat} (h : i < pn) : (marks pn s)[i]? = some (.bool (decide ((i : Int) ∈ s))) := by simp [marks, h]
theorem marks_set {pn : Nat} {s t : List Int} {i : Nat} (ht : ∀ x, x ∈ t ↔ x ∈ s ∨ x = (i : Int)) : (marks pn s).set i (.bool true) = marks pn t := by
  apply List.ext_getElem?
  intro j
  by_cases hj : j < pn
  · rw [marks_at hj]
    by_cases e : i = j
    · subst e
      rw [List.getElem?_set_self (by rw [marks_len]; exact hj)]
      have : ((i : Int) ∈ t) := (ht _).2 (.inr rfl)
      simp [this]
    · rw [List.getElem?_set_ne e, marks_at hj]
      have : ((j : Int) ∈ t ↔ (j : Int) ∈ s) := by
        rw [ht]
        constructor
        · rintro (h | h)
          · exact h
          · omega
        · exact .inl
      simp [this]
  · rw [List.getElem?_eq_none (by rw [List.length_set, marks_len]; omega), List.getElem?_eq_none (by rw [marks_len]; omega)]
theorem marks_nil (pn : Nat) : List.replicate pn (Value.bool false) = marks pn [] := by
  apply List.ext_getElem?
  intro j
  by_cases hj : j < pn
  · rw [marks_at hj, List.getElem?_replicate, if_pos hj]; simp
  · rw [List.getElem?_eq_none (by simp; omega), List.getElem?_eq_none (by rw [marks_len]; omega)]
theorem Try.infoBool : (Try.prog.info? 4).map (fun i => (i.zero, i.size, i.bytes)) = some (some (.bool false), 1, 1) := by kernel_rfl

set_option maxRecDepth 100000 in
set_option maxHeartbeats 4000000 in
theorem names_any (fr mg p : Int) (wa pa ca la : Option Addr) (wn wc pn pc cn cc ln lc : Nat) (w : World) (lo hi : Nat) (l : List Int) (hln : l.length = ln) (hl : Lies w lo hi (.slice la ln lc) ln 1 (l.flatMap intCells)) (hhi : hi ≤ w.heap.size) (hl2 : ln ≤ 1000) (hp2 : pn ≤ 1000) :
    Calls Try.prog 62 #[.agg #[.int .i64 fr, .int .i64 mg, .slice wa wn wc, .slice pa pn pc, .slice ca cn cc], .int .i64 p, .slice la ln lc] w fun e w' => e = .returned (.bool (namesB pn p l)) ∧ Below w.heap.size w w' := by
  obtain ⟨i0, hi0, hz0, hz1, hz2⟩ := info_parts Try.infoBool
  have HI := Lib.hid hi0
  obtain ⟨V, hV⟩ : ∃ V, V = w.alloc (.cells #[.int .i64 fr, .int .i64 mg, .slice wa wn wc, .slice pa pn pc, .slice ca cn cc] 36) := ⟨_, rfl⟩
  have B1 : Below w.heap.size w V := by rw [hV]; exact below1 _ _
  have hblk : V.heap[w.heap.size]? = some (.cells #[.int .i64 fr, .int .i64 mg, .slice wa wn wc, .slice pa pn pc, .slice ca cn cc] 36 (0, 0)) := by rw [hV]; exact heap_alloc_new _ _
  have hlt0 := lt_of_block hblk
  have HLL := Lib.hid (hl.keep (SameIn.of_below B1 hhi)); have HLN := Lib.hid hln
  have HBK := Lib.hid hblk; have HB1 := Lib.hid B1
  have hhv : hi ≤ V.heap.size := by omega
  have HV := Lib.hid hV
  clear hl hln hblk B1 hV hi0
  cases hp : hasB pn p with
  | false =>
    have HR := Lib.hid (namesB_none (l := l) hp)
    have HPP := Lib.hid hp; clear hp
    go_enter Try.func62, Try.ntmps62
    go_wp2_with (first | (go_at_call 59; refine (has_any _ _ _ _ _ _ _ _ _ _ _ _ _).mono ?_; rintro e w1 ⟨rfl, hb1⟩; rw [HPP.out]))
    go_ret
    exact ⟨by rw [HR.out]; rfl, (below1 _ _).trans (hb1.mono (by simp))⟩
  | true =>
    have HZ := Lib.hid (okTo_zero (l := l) hp)
    obtain ⟨hp0, hp1⟩ := hasB_true hp
    have HPP := Lib.hid hp; clear hp
    by_cases hlong : pn ≤ ln
    · have t1 : decide ((pn : Int) ≤ (ln : Int)) = true := by simp; omega
      have HR := Lib.hid (namesB_long (pn := pn) (p := p) (l := l) (by rw [HLN.out]; exact hlong))
      go_enter Try.func62, Try.ntmps62
      go_wp2_with (first | (go_at_call 59; refine (has_any _ _ _ _ _ _ _ _ _ _ _ _ _).mono ?_; rintro e w1 ⟨rfl, hb1⟩; rw [HPP.out]; rw [← HV.out] at hb1; have k3 : w1.cell? ⟨w.heap.size, 3, none⟩ = some (.slice pa pn pc) := (hb1.cell hlt0).trans (cell_in HBK.out rfl)))
      go_ret
      exact ⟨by rw [HR.out]; rfl, HB1.out.trans (hb1.mono HB1.out.size)⟩
    · have t1 : decide ((pn : Int) ≤ (ln : Int)) = false := by simp; omega
      obtain ⟨m, rfl⟩ := Int.eq_ofNat_of_zero_le hp0
      have hm : m < pn := by omega
      go_enter Try.func62, Try.ntmps62
      have i0m : (0 : Int) ≤ (m : Int) := by omega
      have i1m : (m : Int) < (pn : Int) := by omega
      go_wp2_with (first | (go_at_call 59; refine (has_any _ _ _ _ _ _ _ _ _ _ _ _ _).mono ?_; rintro e w1 ⟨rfl, hb1⟩; rw [HPP.out]; rw [← HV.out] at hb1; have k3 : w1.cell? ⟨w.heap.size, 3, none⟩ = some (.slice pa pn pc) := (hb1.cell hlt0).trans (cell_in HBK.out rfl)) | (refine wpList_make_full _ (by rfl) (.tmp 24) (.tmp 24) 27 (by rfl) 0 4 i0 _ 1 Try.underlying27 HI.out hz0 hz1 _ _ pn pn pn (by rfl) (by rfl) rfl rfl (by rw [hz2]; omega) (by simp [maxLen]; omega) (Nat.zero_le _) ?_; intro w2 hown hgrow; have hmk : (madeCells (Value.bool false).cells (pn * 1)).toList = marks pn [] := (by rw [Nat.mul_one, ← marks_nil]; exact toList_madeCells_one _ _); rw [hmk] at hown; have HOW := Lib.hid hown; have HGR := Lib.hid hgrow; have c0 : w2.cell? ⟨w1.heap.size, m, none⟩ = some (.bool false) := ((hown.cellAt m (by omega)).trans ((marks_at hm).trans (by simp))); have f0 : w2.frozen? ⟨w1.heap.size, m, none⟩ = false := hown.frozenAt m; clear hown hgrow hmk))
      have hM := hb1.size
      have HB3 : Hid (Below V.heap.size V (w2.setCell ⟨w1.heap.size, m, none⟩ (.bool true))) := Lib.hid (((hb1.grown HGR.out hb1.size (fun k hk => by cases hk))).setCell (by simpa using hM) _)
      have HO3 : Hid ((w2.setCell ⟨w1.heap.size, m, none⟩ (.bool true)).ownsRow 0 4 1 (.slice (some ⟨w1.heap.size, 0, none⟩) pn pn) pn (marks pn ((m : Int) :: l.take 0))) := Lib.hid (by
        have h := (HOW.out.stored m (.bool true)).1
        rwa [marks_set (t := (m : Int) :: l.take 0) (fun x => by simp)] at h)
      clear c0 f0 k3
      go_loopw [31] (fun i wr => ∃ k : Nat, k ≤ ln ∧ i = .int .i64 k ∧ Hid (OkTo pn (m : Int) l k) ∧ Hid (wr.ownsRow 0 4 1 (.slice (some ⟨w1.heap.size, 0, none⟩) pn pn) pn (marks pn ((m : Int) :: l.take k))) ∧ Below V.heap.size V wr) (fun i _ => ln - (intOf i).toNat)
      case atStart => exact ⟨0, by omega, rfl, HZ, HO3, HB3.out⟩
      case round =>
        obtain ⟨k, hk, rfl, HA, HO, hb⟩ := hrel
        clear HB3 HO3
        by_cases hlt : k < ln
        · have tk : decide ((k : Int) < (ln : Int)) = true := by simpa using hlt
          obtain ⟨q, hq⟩ : ∃ x, l[k]? = some x := ⟨_, List.getElem?_eq_getElem (by rw [HLN.out]; exact hlt)⟩
          have hlies := HLL.out.keep (SameIn.of_below hb hhv)
          obtain ⟨a2, c2, ee, _, _, hc⟩ := hlies
          cases ee
          rcases hc with h0 | ⟨b, off, rfl, hb2, hb3, hc⟩
          · omega
          have s0 : wr.cell? ⟨b, off + k, none⟩ = some (.int .i64 q) := by
            have := flat_at intCells 1 (fun _ => rfl) l k 0 q hq (by omega)
            rw [Nat.mul_one, Nat.add_zero] at this
            exact hc k _ (this.trans rfl)
          have cs := fun (j : Nat) (u : Value) (hu : (#[.int .i64 fr, .int .i64 mg, .slice wa wn wc, .slice pa pn pc, .slice ca cn cc] : Array Value)[j]? = some u) => (hb.cell (p := ⟨w.heap.size, j, none⟩) hlt0).trans (cell_in HBK.out hu)
          have z0 := cs 0 _ rfl
          have z1 := cs 1 _ rfl
          have z2 := cs 2 _ rfl
          have z3 := cs 3 _ rfl
          have z4 := cs 4 _ rfl
          have HQ := Lib.hid hq
          have l0 : (0 : Int) ≤ (k : Int) := by omega
          have l1 : (k : Int) < (ln : Int) := by omega
          have HBB := Lib.hid hb
          clear hc hq cs hb
          cases hok : hasB pn q with
          | false =>
            have HR := Lib.hid (namesB_out (p := (m : Int)) HQ.out hok)
            have HOK := Lib.hid hok; clear hok
            go_wp2_with (first | (go_at_call 59; refine (has_any _ _ _ _ _ _ _ _ _ _ _ _ _).mono ?_; rintro e w3 ⟨rfl, hb4⟩; rw [HOK.out]))
            go_ret
            exact ⟨by rw [HR.out]; rfl, HB1.out.trans ((HBB.out.trans (hb4.mono HBB.out.size)).mono HB1.out.size)⟩
          | true =>
            have HOK := Lib.hid hok
            obtain ⟨hq0, hq1⟩ := hasB_true hok
            obtain ⟨j, rfl⟩ := Int.eq_ofNat_of_zero_le hq0
            have hj : j < pn := by omega
            have hjl : (j : Int) < (pn : Int) := by omega
            clear hok
            cases hmem : decide ((j : Int) ∈ (m : Int) :: l.take k) with
            | true =>
              have HR := Lib.hid (namesB_twice (pn := pn) HQ.out (of_decide_eq_true hmem))
              have HMM := Lib.hid hmem; clear hmem
              go_wp2_with (first | (go_at_call 59; refine (has_any _ _ _ _ _ _ _ _ _ _ _ _ _).mono ?_; rintro e w3 ⟨rfl, hb4⟩; rw [HOK.out]; have y0 : w3.cell? ⟨w1.heap.size, j, none⟩ = some (.bool true) := (((owns_later HO.out hb4).cellAt j (by omega)).trans ((marks_at hj).trans (by rw [HMM.out])))))
              go_ret
              exact ⟨by rw [HR.out]; rfl, HB1.out.trans ((HBB.out.trans (hb4.mono HBB.out.size)).mono HB1.out.size)⟩
            | false =>
              have HNX := Lib.hid (okTo_next HA.out HQ.out HOK.out (of_decide_eq_false hmem))
              have HMM := Lib.hid hmem; clear hmem
              go_wp2_with (first | (go_at_call 59; refine (has_any _ _ _ _ _ _ _ _ _ _ _ _ _).mono ?_; rintro e w3 ⟨rfl, hb4⟩; rw [HOK.out]; have hO5 := owns_later HO.out hb4; have y0 : w3.cell? ⟨w1.heap.size, j, none⟩ = some (.bool false) := ((hO5.cellAt j (by omega)).trans ((marks_at hj).trans (by rw [HMM.out]))); have y1 : w3.frozen? ⟨w1.heap.size, j, none⟩ = false := hO5.frozenAt j; have HO5 := Lib.hid hO5; clear hO5))
              go_roundw
              case rel =>
                refine ⟨k + 1, by omega, by go_num, HNX, Lib.hid ?_, (HBB.out.trans (hb4.mono HBB.out.size)).setCell (by simpa using hM) _⟩
                have h := (HO5.out.stored j (.bool true)).1
                rwa [marks_set (t := (m : Int) :: l.take (k + 1)) (fun x => by rw [List.take_add_one, HQ.out]; simp [or_assoc])] at h
              case measure => simp [intOf]; omega
        · have tk : decide ((k : Int) < (ln : Int)) = false := by simp; omega
          have HR := Lib.hid (namesB_end HA.out (by rw [HLN.out]; omega))
          go_wp2_with fail
          go_ret
          exact ⟨by rw [HR.out]; rfl, HB1.out.trans (hb.mono HB1.out.size)⟩
end Go.Proofs.Ytmkohnpdpcefgaa
