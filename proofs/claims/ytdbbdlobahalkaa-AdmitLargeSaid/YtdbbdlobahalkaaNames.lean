/- Joined of ConfN, ConfO: Which numbers are partitions', and which are other ones, each once: plain facts, and the document's walk. -/
import Derived.Test.YtdbbdlobahalkaaBase
import Derived.Deep.RegionLaw
import Derived.Deep.CutRange
import Derived.OwnWalk
namespace Go.Proofs.Ytdbbdlobahalkaa
open Go.ChangeShapes Go.WideShapes Go.ChangeAt Go.RowKit
set_option linter.unusedVariables false
attribute [local go_sem ↓] Go.wp_at_zero Go.wp_at_succ

theorem has_any (fr mg p : Int) (wa pa ca : Option Addr) (wn wc pn pc cn cc : Nat) (w : World) :
    Calls Try.prog 11 #[.agg #[.int .i64 fr, .int .i64 mg, .slice wa wn wc, .slice pa pn pc, .slice ca cn cc], .int .i64 p] w fun e w' => e = .returned (.bool (hasB pn p)) ∧ Below w.heap.size w w' := by
  rcases (show p < 0 ∨ (0 ≤ p ∧ (pn : Int) ≤ p) ∨ (0 ≤ p ∧ p < (pn : Int)) from by omega) with h | ⟨h, h⟩ | ⟨h, h⟩
  all_goals
    (go_enter Try.func11, Try.ntmps11
     go_wp2
     go_ret
     exact ⟨ret_b (by rw [Bool.eq_iff_iff]; simp [hasB]; try omega), below1 _ _⟩)

end Go.Proofs.Ytdbbdlobahalkaa
namespace Go.Proofs.Ytdbbdlobahalkaa
open Go.ChangeShapes Go.WideShapes Go.ChangeAt Go.RowKit
set_option linter.unusedVariables false
attribute [local go_sem ↓] Go.wp_at_zero Go.wp_at_succ

/-- Marks: of each number below pn, whether it is among those of s. -/
def marks (pn : Nat) (s : List Int) : List Value := (List.range pn).map fun (i : Nat) => Value.bool (decide ((i : Int) ∈ s))
theorem marks_len (pn : Nat) (s : List Int) : (marks pn s).length = pn := by simp [marks]
theorem marks_at {pn : Nat} {s : List Int} {i : Nat} (h : i < pn) : (marks pn s)[i]? = some (.bool (decide ((i : Int) ∈ s))) := by simp [marks, h]
theorem marks_set {pn : Nat} {s t : List Int} {i : Nat} (ht : ∀ x, x ∈ t ↔ x ∈ s ∨ x = (i : Int)) : (marks pn s).set i (.bool true) = marks pn t := by
  apply List.ext_getElem?
  intro j
  by_cases hj : j < pn
  · rw [marks_at hj]
    by_cases e : i = j
    · subst e
      rw [List.getElem?_set_self (by rw [marks_len]; exact hj)]
      have : ((i : Int) ∈ t) := (ht _).2 (.inr rfl)
      simp [this]
    · rw [List.getElem?_set_ne e, marks_at hj]
      have : ((j : Int) ∈ t ↔ (j : Int) ∈ s) := by
        rw [ht]
        constructor
        · rintro (h | h)
          · exact h
          · omega
        · exact .inl
      simp [this]
  · rw [List.getElem?_eq_none (by rw [List.length_set, marks_len]; omega), List.getElem?_eq_none (by rw [marks_len]; omega)]
theorem marks_nil (pn : Nat) : List.replicate pn (Value.bool false) = marks pn [] := by
  apply List.ext_getElem?
  intro j
  by_cases hj : j < pn
  · rw [marks_at hj, List.getElem?_replicate, if_pos hj]; simp
  · rw [List.getElem?_eq_none (by simp; omega), List.getElem?_eq_none (by rw [marks_len]; omega)]
theorem Try.infoBool : (Try.prog.info? 4).map (fun i => (i.zero, i.size, i.bytes)) = some (some (.bool false), 1, 1) := by kernel_rfl

set_option maxRecDepth 100000 in
set_option maxHeartbeats 4000000 in
theorem names_any (fr mg p : Int) (wa pa ca la : Option Addr) (wn wc pn pc cn cc ln lc : Nat) (w : World) (lo hi : Nat) (l : List Int) (hln : l.length = ln) (hl : Lies w lo hi (.slice la ln lc) ln 1 (l.flatMap intCells)) (hhi : hi ≤ w.heap.size) (hl2 : ln ≤ 1000) (hp2 : pn ≤ 1000) :
    Calls Try.prog 45 #[.agg #[.int .i64 fr, .int .i64 mg, .slice wa wn wc, .slice pa pn pc, .slice ca cn cc], .int .i64 p, .slice la ln lc] w fun e w' => e = .returned (.bool (namesB pn p l)) ∧ Below w.heap.size w w' := by
  obtain ⟨i0, hi0, hz0, hz1, hz2⟩ := info_parts Try.infoBool
  have HI := Lib.hid hi0
  obtain ⟨V, hV⟩ : ∃ V, V = w.alloc (.cells #[.int .i64 fr, .int .i64 mg, .slice wa wn wc, .slice pa pn pc, .slice ca cn cc] 33) := ⟨_, rfl⟩
  have B1 : Below w.heap.size w V := by rw [hV]; exact below1 _ _
  have hblk : V.heap[w.heap.size]? = some (.cells #[.int .i64 fr, .int .i64 mg, .slice wa wn wc, .slice pa pn pc, .slice ca cn cc] 33 (0, 0)) := by rw [hV]; exact heap_alloc_new _ _
  have hlt0 := lt_of_block hblk
  have HLL := Lib.hid (hl.keep (SameIn.of_below B1 hhi)); have HLN := Lib.hid hln
  have HBK := Lib.hid hblk; have HB1 := Lib.hid B1
  have hhv : hi ≤ V.heap.size := by omega
  have HV := Lib.hid hV
  clear hl hln hblk B1 hV hi0
  cases hp : hasB pn p with
  | false =>
    have HR := Lib.hid (namesB_none (l := l) hp)
    have HPP := Lib.hid hp; clear hp
    go_enter Try.func45, Try.ntmps45
    go_wp2_with (first | (go_at_call 11; refine (has_any _ _ _ _ _ _ _ _ _ _ _ _ _).mono ?_; rintro e w1 ⟨rfl, hb1⟩; rw [HPP.out]))
    go_ret
    exact ⟨by rw [HR.out]; rfl, (below1 _ _).trans (hb1.mono (by simp))⟩
  | true =>
    have HZ := Lib.hid (okTo_zero (l := l) hp)
    obtain ⟨hp0, hp1⟩ := hasB_true hp
    have HPP := Lib.hid hp; clear hp
    by_cases hlong : pn ≤ ln
    · have t1 : decide ((pn : Int) ≤ (ln : Int)) = true := by simp; omega
      have HR := Lib.hid (namesB_long (pn := pn) (p := p) (l := l) (by rw [HLN.out]; exact hlong))
      go_enter Try.func45, Try.ntmps45
      go_wp2_with (first | (go_at_call 11; refine (has_any _ _ _ _ _ _ _ _ _ _ _ _ _).mono ?_; rintro e w1 ⟨rfl, hb1⟩; rw [HPP.out]; rw [← HV.out] at hb1; have k3 : w1.cell? ⟨w.heap.size, 3, none⟩ = some (.slice pa pn pc) := (hb1.cell hlt0).trans (cell_in HBK.out rfl)))
      go_ret
      exact ⟨by rw [HR.out]; rfl, HB1.out.trans (hb1.mono HB1.out.size)⟩
    · have t1 : decide ((pn : Int) ≤ (ln : Int)) = false := by simp; omega
      obtain ⟨m, rfl⟩ := Int.eq_ofNat_of_zero_le hp0
      have hm : m < pn := by omega
      go_enter Try.func45, Try.ntmps45
      have i0m : (0 : Int) ≤ (m : Int) := by omega
      have i1m : (m : Int) < (pn : Int) := by omega
      go_wp2_with (first | (go_at_call 11; refine (has_any _ _ _ _ _ _ _ _ _ _ _ _ _).mono ?_; rintro e w1 ⟨rfl, hb1⟩; rw [HPP.out]; rw [← HV.out] at hb1; have k3 : w1.cell? ⟨w.heap.size, 3, none⟩ = some (.slice pa pn pc) := (hb1.cell hlt0).trans (cell_in HBK.out rfl)) | (refine wpList_make_full _ (by rfl) (.tmp 24) (.tmp 24) 127 (by rfl) 0 4 i0 _ 1 Try.underlying127 HI.out hz0 hz1 _ _ pn pn pn (by rfl) (by rfl) rfl rfl (by rw [hz2]; omega) (by simp [maxLen]; omega) (Nat.zero_le _) ?_; intro w2 hown hgrow; have hmk : (madeCells (Value.bool false).cells (pn * 1)).toList = marks pn [] := (by rw [Nat.mul_one, ← marks_nil]; exact toList_madeCells_one _ _); rw [hmk] at hown; have HOW := Lib.hid hown; have HGR := Lib.hid hgrow; have c0 : w2.cell? ⟨w1.heap.size, m, none⟩ = some (.bool false) := ((hown.cellAt m (by omega)).trans ((marks_at hm).trans (by simp))); have f0 : w2.frozen? ⟨w1.heap.size, m, none⟩ = false := hown.frozenAt m; clear hown hgrow hmk))
      have hM := hb1.size
      have HB3 : Hid (Below V.heap.size V (w2.setCell ⟨w1.heap.size, m, none⟩ (.bool true))) := Lib.hid (((hb1.grown HGR.out hb1.size (fun k hk => by cases hk))).setCell (by simpa using hM) _)
      have HO3 : Hid ((w2.setCell ⟨w1.heap.size, m, none⟩ (.bool true)).ownsRow 0 4 1 (.slice (some ⟨w1.heap.size, 0, none⟩) pn pn) pn (marks pn ((m : Int) :: l.take 0))) := Lib.hid (by
        have h := (HOW.out.stored m (.bool true)).1
        rwa [marks_set (t := (m : Int) :: l.take 0) (fun x => by simp)] at h)
      clear c0 f0 k3
      go_loopw [31] (fun i wr => ∃ k : Nat, k ≤ ln ∧ i = .int .i64 k ∧ Hid (OkTo pn (m : Int) l k) ∧ Hid (wr.ownsRow 0 4 1 (.slice (some ⟨w1.heap.size, 0, none⟩) pn pn) pn (marks pn ((m : Int) :: l.take k))) ∧ Below V.heap.size V wr) (fun i _ => ln - (intOf i).toNat)
      case atStart => exact ⟨0, by omega, rfl, HZ, HO3, HB3.out⟩
      case round =>
        obtain ⟨k, hk, rfl, HA, HO, hb⟩ := hrel
        clear HB3 HO3
        by_cases hlt : k < ln
        · have tk : decide ((k : Int) < (ln : Int)) = true := by simpa using hlt
          obtain ⟨q, hq⟩ : ∃ x, l[k]? = some x := ⟨_, List.getElem?_eq_getElem (by rw [HLN.out]; exact hlt)⟩
          have hlies := HLL.out.keep (SameIn.of_below hb hhv)
          obtain ⟨a2, c2, ee, _, _, hc⟩ := hlies
          cases ee
          rcases hc with h0 | ⟨b, off, rfl, hb2, hb3, hc⟩
          · omega
          have s0 : wr.cell? ⟨b, off + k, none⟩ = some (.int .i64 q) := by
            have := flat_at intCells 1 (fun _ => rfl) l k 0 q hq (by omega)
            rw [Nat.mul_one, Nat.add_zero] at this
            exact hc k _ (this.trans rfl)
          have cs := fun (j : Nat) (u : Value) (hu : (#[.int .i64 fr, .int .i64 mg, .slice wa wn wc, .slice pa pn pc, .slice ca cn cc] : Array Value)[j]? = some u) => (hb.cell (p := ⟨w.heap.size, j, none⟩) hlt0).trans (cell_in HBK.out hu)
          have z0 := cs 0 _ rfl
          have z1 := cs 1 _ rfl
          have z2 := cs 2 _ rfl
          have z3 := cs 3 _ rfl
          have z4 := cs 4 _ rfl
          have HQ := Lib.hid hq
          have l0 : (0 : Int) ≤ (k : Int) := by omega
          have l1 : (k : Int) < (ln : Int) := by omega
          have HBB := Lib.hid hb
          clear hc hq cs hb
          cases hok : hasB pn q with
          | false =>
            have HR := Lib.hid (namesB_out (p := (m : Int)) HQ.out hok)
            have HOK := Lib.hid hok; clear hok
            go_wp2_with (first | (go_at_call 11; refine (has_any _ _ _ _ _ _ _ _ _ _ _ _ _).mono ?_; rintro e w3 ⟨rfl, hb4⟩; rw [HOK.out]))
            go_ret
            exact ⟨by rw [HR.out]; rfl, HB1.out.trans ((HBB.out.trans (hb4.mono HBB.out.size)).mono HB1.out.size)⟩
          | true =>
            have HOK := Lib.hid hok
            obtain ⟨hq0, hq1⟩ := hasB_true hok
            obtain ⟨j, rfl⟩ := Int.eq_ofNat_of_zero_le hq0
            have hj : j < pn := by omega
            have hjl : (j : Int) < (pn : Int) := by omega
            clear hok
            cases hmem : decide ((j : Int) ∈ (m : Int) :: l.take k) with
            | true =>
              have HR := Lib.hid (namesB_twice (pn := pn) HQ.out (of_decide_eq_true hmem))
              have HMM := Lib.hid hmem; clear hmem
              go_wp2_with (first | (go_at_call 11; refine (has_any _ _ _ _ _ _ _ _ _ _ _ _ _).mono ?_; rintro e w3 ⟨rfl, hb4⟩; rw [HOK.out]; have y0 : w3.cell? ⟨w1.heap.size, j, none⟩ = some (.bool true) := (((owns_later HO.out hb4).cellAt j (by omega)).trans ((marks_at hj).trans (by rw [HMM.out])))))
              go_ret
              exact ⟨by rw [HR.out]; rfl, HB1.out.trans ((HBB.out.trans (hb4.mono HBB.out.size)).mono HB1.out.size)⟩
            | false =>
              have HNX := Lib.hid (okTo_next HA.out HQ.out HOK.out (of_decide_eq_false hmem))
              have HMM := Lib.hid hmem; clear hmem
              go_wp2_with (first | (go_at_call 11; refine (has_any _ _ _ _ _ _ _ _ _ _ _ _ _).mono ?_; rintro e w3 ⟨rfl, hb4⟩; rw [HOK.out]; have hO5 := owns_later HO.out hb4; have y0 : w3.cell? ⟨w1.heap.size, j, none⟩ = some (.bool false) := ((hO5.cellAt j (by omega)).trans ((marks_at hj).trans (by rw [HMM.out]))); have y1 : w3.frozen? ⟨w1.heap.size, j, none⟩ = false := hO5.frozenAt j; have HO5 := Lib.hid hO5; clear hO5))
              go_roundw
              case rel =>
                refine ⟨k + 1, by omega, by go_num, HNX, Lib.hid ?_, (HBB.out.trans (hb4.mono HBB.out.size)).setCell (by simpa using hM) _⟩
                have h := (HO5.out.stored j (.bool true)).1
                rwa [marks_set (t := (m : Int) :: l.take (k + 1)) (fun x => by rw [List.take_add_one, HQ.out]; simp [or_assoc])] at h
              case measure => simp [intOf]; omega
        · have tk : decide ((k : Int) < (ln : Int)) = false := by simp; omega
          have HR := Lib.hid (namesB_end HA.out (by rw [HLN.out]; omega))
          go_wp2_with fail
          go_ret
          exact ⟨by rw [HR.out]; rfl, HB1.out.trans (hb.mono HB1.out.size)⟩
end Go.Proofs.Ytdbbdlobahalkaa
