/- The edges that the program tells: Edges. -/
import Derived.Test.YtkikapodobeaaaaFlowK
namespace Go.Proofs.Ytkikapodobeaaaa
open Go.ChangeShapes Go.WideShapes Go.ChangeAt Go.RowKit Go.Maps Go.Sort
set_option linter.unusedVariables false
attribute [local go_sem ↓] Go.wp_at_zero Go.wp_at_succ

theorem laterB_filter (f : Int → Bool) (a b : Int) : ∀ l : List Int, laterB a b (l.filter f) = (laterB a b l && (f a && f b))
  | [] => by simp [laterB]
  | x :: l => by
    rw [List.filter_cons]
    have ih := laterB_filter f a b l
    rw [Bool.eq_iff_iff]
    simp only [Bool.and_eq_true]
    split
    · rename_i hx
      simp only [laterB, Bool.or_eq_true, Bool.and_eq_true, List.contains_iff_mem, List.mem_filter, beq_iff_eq, ih]
      constructor
      · rintro (⟨h1, h2, h3⟩ | h)
        · exact ⟨.inl ⟨h1, h2⟩, by rw [← h1]; exact hx, h3⟩
        · exact ⟨.inr h.1, h.2⟩
      · rintro ⟨⟨h1, h2⟩ | h, h3, h4⟩
        · exact .inl ⟨h1, h2, h4⟩
        · exact .inr ⟨h, h3, h4⟩
    · rename_i hx
      rw [ih]
      simp only [laterB, Bool.or_eq_true, Bool.and_eq_true, List.contains_iff_mem, beq_iff_eq]
      constructor
      · rintro ⟨h, h3⟩; exact ⟨.inr h, h3⟩
      · rintro ⟨⟨h1, h2⟩ | h, h3, h4⟩
        · exact absurd (by rw [h1]; exact h3) hx
        · exact ⟨h, h3, h4⟩
theorem rowP_is {n i : Nat} (hi : i < n) (p : Pt) : rowP n i p = ((i : Int) :: p.ds).filter (hasB n) := by
  unfold rowP
  rw [List.filter_cons, if_pos]
  unfold hasB
  simp; omega
theorem rowC_later {n : Nat} {h : Ch} {a b : Int} : laterB a b (rowC n h) = true ↔ chB a b h = true ∧ hasB n a = true ∧ hasB n b = true := by
  unfold rowC chB
  rw [laterB_filter, Bool.and_eq_true, Bool.and_eq_true]
  refine and_congr_left' ?_
  simp [laterB]
  intro _
  exact eq_comm
theorem rowsP_at {n : Nat} : ∀ {l : List Pt} {i k : Nat}, (rowsP n l i)[k]? = (l[k]?).map (rowP n (i + k))
  | [], i, k => by simp [rowsP]
  | p :: l, i, 0 => by simp [rowsP]
  | p :: l, i, k + 1 => by
    rw [rowsP, List.getElem?_cons_succ, List.getElem?_cons_succ, rowsP_at, show i + 1 + k = i + (k + 1) by omega]
/-- The edges are those of the rows. -/
theorem isE_rows {c : Cf} {a b : Int} : isE c a b = true ↔ ∃ r ∈ rowsV c, laterB a b r = true := by
  unfold isE rowsV
  rw [Bool.and_eq_true, Bool.and_eq_true, Bool.or_eq_true, List.any_eq_true, donB_any]
  constructor
  · rintro ⟨ha, hb, ⟨h, hm, hh⟩ | ⟨k, p, hp, hl⟩⟩
    · exact ⟨_, List.mem_append_left _ (List.mem_map_of_mem hm), rowC_later.2 ⟨hh, ha, hb⟩⟩
    · have hk := (List.getElem?_eq_some_iff.1 hp).1
      refine ⟨rowP c.ps.length k p, List.mem_append_right _ (List.mem_of_getElem? (i := k) ?_), ?_⟩
      · rw [rowsP_at, hp, Nat.zero_add]; rfl
      · rw [rowP_is hk, laterB_filter, ha, hb]
        rw [Nat.zero_add] at hl
        simpa using hl
  · rintro ⟨r, hr, hl⟩
    rcases List.mem_append.1 hr with hr | hr
    · obtain ⟨h, hm, rfl⟩ := List.mem_map.1 hr
      obtain ⟨h1, h2, h3⟩ := rowC_later.1 hl
      exact ⟨h2, h3, .inl ⟨h, hm, h1⟩⟩
    · obtain ⟨k, hk, e⟩ := List.mem_iff_getElem.1 hr
      have e2 := List.getElem?_eq_getElem hk
      rw [e, rowsP_at, Nat.zero_add] at e2
      cases hp : c.ps[k]? with
      | none => rw [hp] at e2; simp at e2
      | some p =>
        rw [hp] at e2
        simp at e2
        have hk2 := (List.getElem?_eq_some_iff.1 hp).1
        rw [← e2, rowP_is hk2, laterB_filter, Bool.and_eq_true, Bool.and_eq_true] at hl
        exact ⟨hl.2.1, hl.2.2, .inr ⟨k, p, hp, by rw [Nat.zero_add]; exact hl.1⟩⟩
theorem rowsV_has {c : Cf} {r : List Int} (hr : r ∈ rowsV c) : ∀ x ∈ r, hasB c.ps.length x = true := by
  rcases List.mem_append.1 hr with hr | hr
  · obtain ⟨h, hm, rfl⟩ := List.mem_map.1 hr
    intro x hx
    exact (List.mem_filter.1 hx).2
  · obtain ⟨k, hk, e⟩ := List.mem_iff_getElem.1 hr
    have e2 := List.getElem?_eq_getElem hk
    rw [e, rowsP_at, Nat.zero_add] at e2
    cases hp : c.ps[k]? with
    | none => rw [hp] at e2; simp at e2
    | some p =>
      rw [hp] at e2
      simp at e2
      rw [← e2, rowP_is (List.getElem?_eq_some_iff.1 hp).1]
      intro x hx
      exact (List.mem_filter.1 hx).2
theorem rowsV_short {c : Cf} (f : Few c) {r : List Int} (hr : r ∈ rowsV c) : r.length ≤ 1001 := by
  rcases List.mem_append.1 hr with hr | hr
  · obtain ⟨h, hm, rfl⟩ := List.mem_map.1 hr
    have := List.length_filter_le (hasB c.ps.length) [h.from_, h.to]
    unfold rowC
    simp at this ⊢
    omega
  · obtain ⟨k, hk, e⟩ := List.mem_iff_getElem.1 hr
    have e2 := List.getElem?_eq_getElem hk
    rw [e, rowsP_at, Nat.zero_add] at e2
    cases hp : c.ps[k]? with
    | none => rw [hp] at e2; simp at e2
    | some p =>
      rw [hp] at e2
      simp at e2
      have h1 := (f.2.2.2 p (List.mem_of_getElem? hp)).2.2
      have h2 := List.length_filter_le (hasB c.ps.length) p.ds
      rw [← e2]
      unfold rowP
      simp
      omega
theorem has_i64 {n : Nat} (hn : n ≤ 1000) {x : Int} (h : hasB n x = true) : I64 x := by
  have := hasB_true h
  unfold I64
  constructor <;> omega
theorem eIn_of {c : Cf} (f : Few c) {e : Int × Int} (h : isE c e.1 e.2 = true) : EIn e := by
  have := isE_has h
  have := f.2.1
  exact ⟨⟨by omega, by omega⟩, ⟨by omega, by omega⟩⟩
theorem Lies.map_but {w w' : World} {b n0 : Nat} {P : Int × Int → Prop} (hS : SetP w b n0 P) (hb : But b w w') {lo hi n sz : Nat} {v : Value} {cs : List Value} (h : Lies w lo hi v n sz cs) : Lies w' lo hi v n sz cs := by
  obtain ⟨a, cap, e, h1, h2, h3⟩ := h
  refine ⟨a, cap, e, h1, h2, ?_⟩
  rcases h3 with h0 | ⟨g, off, e2, h4, h5, h6⟩
  · exact .inl h0
  · refine .inr ⟨g, off, e2, h4, h5, fun k u hu => ?_⟩
    have hc := h6 k u hu
    exact (World.cell?_of_block (w := w) (a := ⟨g, off + k, none⟩) (hb.block g (cell_lt hc) (hS.not_cells hc))).trans hc
set_option maxRecDepth 100000 in
set_option maxHeartbeats 4000000 in
theorem edges_sys {w : World} {hi : Nat} {c : Cf} {pvs : List Pv} {wa pa ca : Option Addr} {wc pc cc : Nat} (f : Few c) (h : SysL w hi c pvs wa pa ca wc pc cc) (hh : hi ≤ w.heap.size) :
    Calls Try.prog 9 #[.agg #[.int .i64 c.frame, .int .i64 c.margin, .slice wa c.ws.length wc, .slice pa c.ps.length pc, .slice ca c.cs.length cc]] w fun e w' => ∃ (a : Option Addr) (cap : Nat), e = .returned (.slice a (edgesI c).length cap) ∧ w'.ownsRow w.heap.size 41 2 (.slice a (edgesI c).length cap) (edgesI c).length ((edgesI c).flatMap eC) ∧ Below w.heap.size w w' := by
  obtain ⟨V, hV⟩ : ∃ V, V = (w.alloc (.cells #[.int .i64 c.frame, .int .i64 c.margin, .slice wa c.ws.length wc, .slice pa c.ps.length pc, .slice ca c.cs.length cc] 35)).alloc (.map #[] 0) := ⟨_, rfl⟩
  have B1 : Below w.heap.size w V := by rw [hV]; exact (below1 _ _).alloc (by simp) _
  have hvs : w.heap.size + 2 = V.heap.size := by rw [hV]; simp
  have hblk : CBox V w.heap.size c.frame c.margin wa pa ca c.ws.length wc c.ps.length pc c.cs.length cc := by
    rw [hV]
    unfold CBox
    rw [heap_at, if_neg (by simp)]
    exact heap_alloc_new _ _
  have hset : SetP V (w.heap.size + 1) 0 (fun _ => False) := by
    rw [hV]
    have := SetP.made (w.alloc (.cells #[.int .i64 c.frame, .int .i64 c.margin, .slice wa c.ws.length wc, .slice pa c.ps.length pc, .slice ca c.cs.length cc] 35))
    simpa using this
  have hc := rows_sys f (h.keep (SameIn.of_below B1 hh)) (by omega)
  obtain ⟨rs, hrs⟩ : ∃ rs, rs = rowsV c := ⟨_, rfl⟩
  have HR1 : Hid (∀ e : Int × Int, isE c e.1 e.2 = true ↔ ∃ r ∈ rs, laterB e.1 e.2 r = true) := Lib.hid (fun e => by rw [hrs]; exact isE_rows)
  have HR2 : Hid (∀ r ∈ rs, r.length ≤ 1001 ∧ ∀ x ∈ r, I64 x) := Lib.hid (fun r hr => by rw [hrs] at hr; exact ⟨rowsV_short f hr, fun x hx => has_i64 f.2.1 (rowsV_has hr x hx)⟩)
  have hrl : rs.length ≤ 2000 := by rw [hrs, rowsV_len]; have := f.1; have := f.2.1; have := f.2.2.1; omega
  rw [← hrs] at hc
  obtain ⟨m, hm⟩ : ∃ m, m = rs.length := ⟨_, rfl⟩
  rw [← hm] at hc hrl
  have c0 : V.cell? ⟨w.heap.size, 0, none⟩ = some (.int .i64 c.frame) := cell_in hblk rfl
  have c1 : V.cell? ⟨w.heap.size, 1, none⟩ = some (.int .i64 c.margin) := cell_in hblk rfl
  have c2 : V.cell? ⟨w.heap.size, 2, none⟩ = some (.slice wa c.ws.length wc) := cell_in hblk rfl
  have c3 : V.cell? ⟨w.heap.size, 3, none⟩ = some (.slice pa c.ps.length pc) := cell_in hblk rfl
  have c4 : V.cell? ⟨w.heap.size, 4, none⟩ = some (.slice ca c.cs.length cc) := cell_in hblk rfl
  have HV := Lib.hid hV; have HB1 := Lib.hid B1; have HS := Lib.hid hset; have HC := Lib.hid hc; have HM := Lib.hid hm; have HF := Lib.hid f; have HVS := Lib.hid hvs
  clear hV B1 hblk hset hc hrs hm h f hvs
  have hmm := @run_makeMap Try.prog
  go_enter Try.func9, Try.ntmps9
  go_wp2_with fail
  rw [← HV.out]
  go_wp2_with (first | (go_at_call 23; refine HC.out.mono ?_; rintro e w1 ⟨ra, rcap, vs, rfl, hra⟩))
  have HRA := Lib.hid hra
  have hb1 := hra.below
  have hb1s := hb1.size
  have HS1 := Lib.hid (HS.out.later hb1)
  clear hra c0 c1 c2 c3 c4
  go_loopw [10] (fun i wr => ∃ k : Nat, k ≤ m ∧ i = .int .i64 k ∧ Hid (SetP wr (w.heap.size + 1) (k * 4000000) (fun e => ∃ r ∈ rs.take k, laterB e.1 e.2 r = true)) ∧ But (w.heap.size + 1) w1 wr) (fun i _ => m - (intOf i).toNat)
  case atStart => exact ⟨0, by omega, rfl, Lib.hid (HS1.out.congr (fun e => by simp)), But.refl _ _⟩
  case round =>
    obtain ⟨k, hk, rfl, HS2, hb⟩ := hrel
    by_cases hlt : k < m
    · have tk : decide ((k : Int) < (m : Int)) = true := by simpa using hlt
      obtain ⟨x, hx⟩ : ∃ x, rs[k]? = some x := ⟨_, List.getElem?_eq_getElem (by rw [← HM.out]; exact hlt)⟩
      obtain ⟨v, hv⟩ : ∃ v, vs[k]? = some v := ⟨_, List.getElem?_eq_getElem (by rw [HRA.out.rows.1, ← HM.out]; exact hlt)⟩
      have hown := HRA.out.own
      rw [← HM.out] at hown
      obtain ⟨a2, c2, ee, _, _, hc⟩ := Lies.of_owns hown
      cases ee
      rcases hc with h0 | ⟨g, off, rfl, hq1, hq2, hc⟩
      · omega
      obtain ⟨lo, hi2, r1, r2, r3⟩ := HRA.out.rows.2 k v x hv hx
      have hvsz := HVS.out
      obtain ⟨xa, xc, rfl, _, _, _⟩ := id r3
      have hc0 : wr.cell? ⟨g, off + k, none⟩ = some (.slice xa x.length xc) := (World.cell?_of_block (w := w1) (a := ⟨g, off + k, none⟩) (hb.block g hq2 (by omega))).trans (hc k _ hv)
      have hx2 := HR2.out x (List.mem_of_getElem? hx)
      have HAA := Lib.hid (addAll_any (w.heap.size + 1) (k * 4000000) xa x.length xc wr lo hi2 x _ rfl (r3.map_but HS1.out hb) (Nat.le_trans r1 hb.size) (by omega) hx2.2 HS2.out (by omega))
      have l0 : (0 : Int) ≤ (k : Int) := by omega
      have l1 : (k : Int) < (m : Int) := by omega
      have HX := Lib.hid hx
      clear hx hv hc r3 hx2 hown hvsz
      go_wp2_with (first | (go_at_call 24; refine HAA.out.mono ?_; rintro e w4 ⟨rfl, hs4, hb4⟩))
      go_roundw
      case rel =>
        refine ⟨k + 1, by omega, by go_num, Lib.hid ((hs4.mono (by omega)).congr (fun e => ?_)), hb.trans hb4⟩
        rw [take_snoc HX.out]
        constructor
        · rintro (⟨r, h1, h2⟩ | h)
          · exact ⟨r, List.mem_append_left _ h1, h2⟩
          · exact ⟨x, by simp, h⟩
        · rintro ⟨r, h1, h2⟩
          rcases List.mem_append.1 h1 with h1 | h1
          · exact .inl ⟨r, h1, h2⟩
          · simp at h1; subst h1; exact .inr h2
      case measure => simp [intOf]; omega
    · have tk : decide ((k : Int) < (m : Int)) = false := by simp; omega
      have ek : k = m := by omega
      have HE : Hid (SetP wr (w.heap.size + 1) (k * 4000000) (fun e => isE c e.1 e.2 = true)) := Lib.hid (HS2.out.congr (fun e => by
        rw [HR1.out e, List.take_of_length_le (by rw [← HM.out]; omega)]))
      have HRI := Lib.hid (rising_any (w.heap.size + 1) (k * 4000000) _ wr HE.out (by omega))
      go_wp2_with (first | (go_at_call 25; refine HRI.out.mono ?_; rintro e w5 ⟨ea, ecap, ss, rfl, q1, q2, q3, hown5, hb5⟩))
      go_ret
      have hsorted : sortV ss = edgesI c := edges_sorted q1 (fun e => by
        constructor
        · intro he; exact (q3 e (q2 e he)).1 he
        · intro he; exact (q3 e (eIn_of HF.out he)).2 he)
      have hln : ss.length = (edgesI c).length := by rw [← hsorted, sortV_len]
      have hvsz := HVS.out
      have hwr : Below w.heap.size w wr := (HB1.out.trans (hb1.mono (by omega))).trans (hb.below (by omega) (by omega))
      rw [hsorted, hln] at hown5
      refine ⟨ea, ecap, by rw [hln]; rfl, owns_base hown5 hwr.size, hwr.trans (hb5.mono hwr.size)⟩
end Go.Proofs.Ytkikapodobeaaaa
