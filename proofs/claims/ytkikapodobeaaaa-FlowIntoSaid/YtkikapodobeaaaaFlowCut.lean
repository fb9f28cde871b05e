/- Joined of FlowN, FlowO, FlowP, FlowQ: From whom edges lead to each: ahead. -/
import Derived.Test.YtkikapodobeaaaaFlowEdge
import Derived.Maps.RangeWalk
namespace Go.Proofs.Ytkikapodobeaaaa
open Go.ChangeShapes Go.WideShapes Go.ChangeAt Go.RowKit Go.Maps Go.Sort
set_option linter.unusedVariables false
attribute [local go_sem ↓] Go.wp_at_zero Go.wp_at_succ

/-- A row of rows, each with a block of its own. -/
structure Heads (w : World) (base G n : Nat) (vs : List Value) (f : Nat → List Int) : Prop where
  blk : w.heap[G]? = some (.cells vs.toArray 42 (0, 0))
  len : vs.length = n
  own : ∀ i v, vs[i]? = some v → w.ownsRow base 3 1 v (f i).length ((f i).flatMap intCells)
  dis : ∀ (i j : Nat) (vi vj : Value), i ≠ j → vs[i]? = some vi → vs[j]? = some vj → ∀ g, vi.ownBlock = some g → vj.ownBlock ≠ some g
theorem Heads.later {w w' : World} {base G n : Nat} {vs : List Value} {f : Nat → List Int} (h : Heads w base G n vs f) (hb : Below w.heap.size w w') : Heads w' base G n vs f :=
  ⟨(hb.block G (lt_of_block h.blk)).trans h.blk, h.len, fun i v hv => owns_later (h.own i v hv) hb, h.dis⟩
theorem Heads.keptBy {w w' : World} {row : Option Nat} {base G n : Nat} {vs : List Value} {f : Nat → List Int} (h : Heads w base G n vs f) (hb : w.grownBy w' row) (hr : ∀ r, row = some r → ∀ cs t, w.heap[r]? ≠ some (.cells cs t (0, 0))) : Heads w' base G n vs f := by
  have ne : ∀ k cs t, w.heap[k]? = some (.cells cs t (0, 0)) → some k ≠ row := fun k cs t hk e => hr k e.symm cs t hk
  exact ⟨(hb.block G (lt_of_block h.blk) (ne _ _ _ h.blk)).trans h.blk, h.len, fun i v hv => owns_hold (h.own i v hv) ⟨hb.size, fun g hg => by
    obtain ⟨_, cs, hc⟩ := owns_block (h.own i v hv) g hg
    exact hb.block g (lt_of_block hc) (ne _ _ _ hc)⟩, h.dis⟩
theorem Heads.step {W W1 : World} {base G n : Nat} {vs : List Value} {f : Nat → List Int} (h : Heads W base G n vs f) {b : Nat} {v v' : Value} (hv : vs[b]? = some v) {xs : List Int} (hown : W1.ownsRow base 3 1 v' xs.length (xs.flatMap intCells)) (hg : W.grownBy W1 v.ownBlock) (ho : v'.ownBlock = v.ownBlock ∨ v'.ownBlock = some W.heap.size) :
    Heads (W1.setCell ⟨G, b, none⟩ v') base G n (vs.set b v') (fun i => if i = b then xs else f i) := by
  have hbl := (List.getElem?_eq_some_iff.1 hv).1
  have hG : W1.heap[G]? = some (.cells vs.toArray 42 (0, 0)) := grown_keep hg (h.own b v hv) h.blk (by decide)
  refine ⟨?_, by rw [List.length_set]; exact h.len, fun i u hu => ?_, fun i j vi vj hij hi hj g hgi => ?_⟩
  · have := set_at (u := v') (j := b) hG
    simpa using this
  · rw [List.getElem?_set] at hu
    by_cases hib : b = i
    · subst hib
      rw [if_pos rfl, if_pos hbl] at hu
      cases hu
      rw [if_pos rfl]
      exact setCell_owns hown hG (by decide) _
    · rw [if_neg hib] at hu
      rw [if_neg (fun e => hib e.symm)]
      refine setCell_owns (owns_hold (h.own i u hu) ⟨hg.size, fun g hgu => ?_⟩) hG (by decide) _
      obtain ⟨_, cs, hc⟩ := owns_block (h.own i u hu) g hgu
      exact hg.block g (lt_of_block hc) (fun e => h.dis i b u v (fun e2 => hib e2.symm) hu hv g hgu e.symm)
  · rw [List.getElem?_set] at hi hj
    have old : ∀ (k : Nat) (u : Value), vs[k]? = some u → ∀ q, u.ownBlock = some q → q < W.heap.size := fun k u hu q hq => (owns_own (h.own k u hu) q hq).2
    by_cases hbi : b = i
    · subst hbi
      rw [if_pos rfl, if_pos hbl] at hi
      cases hi
      rw [if_neg hij] at hj
      rcases ho with e | e
      · exact h.dis b j v vj hij hv hj g (by rw [← e]; exact hgi)
      · rw [e] at hgi; cases hgi
        intro e2
        have := old j vj hj _ e2
        omega
    · rw [if_neg hbi] at hi
      by_cases hbj : b = j
      · subst hbj
        rw [if_pos rfl, if_pos hbl] at hj
        cases hj
        rcases ho with e | e
        · rw [e]; exact h.dis i b vi v hij hi hv g hgi
        · rw [e]
          intro e2
          cases e2
          have := old i vi hi _ hgi
          omega
      · rw [if_neg hbj] at hj
        exact h.dis i j vi vj hij hi hj g hgi
/-- From whom edges lead to one. -/
def froms (ss : List (Int × Int)) (b : Nat) : List Int := (ss.filter fun e => decide (e.2 = (b : Int))).map Prod.fst
theorem froms_mem {ss : List (Int × Int)} {b : Nat} {a : Int} : a ∈ froms ss b ↔ (a, (b : Int)) ∈ ss := by
  unfold froms
  rw [List.mem_map]
  constructor
  · rintro ⟨⟨x, y⟩, h, rfl⟩
    obtain ⟨h1, h2⟩ := List.mem_filter.1 h
    simp at h2
    subst h2
    exact h1
  · intro h
    exact ⟨_, List.mem_filter.2 ⟨h, by simp⟩, rfl⟩
theorem froms_snoc {ss : List (Int × Int)} {x : Int} {j : Nat} : froms (ss ++ [(x, (j : Int))]) = fun i => if i = j then froms ss j ++ [x] else froms ss i := by
  funext i
  unfold froms
  rw [List.filter_append, List.map_append]
  by_cases h : i = j
  · subst h; simp
  · rw [if_neg h]
    have : ¬ ((j : Int) = (i : Int)) := by omega
    simp [this]
theorem froms_nodup {ss : List (Int × Int)} (h : ss.Nodup) (b : Nat) : (froms ss b).Nodup := by
  unfold froms
  rw [List.Nodup, List.pairwise_map]
  refine ((h.filter _).imp_of_mem ?_)
  intro x y hx hy hne e
  have h1 := (List.mem_filter.1 hx).2
  have h2 := (List.mem_filter.1 hy).2
  simp at h1 h2
  exact hne (Prod.ext e (h1.trans h2.symm))
/-- An edge from one to the next of a row. -/
def stepE (c : Cf) (a b : Int) : Prop := ∃ r ∈ rowsV c, nextP r (a, b)
theorem stepE.is {c : Cf} {a b : Int} (h : stepE c a b) : isE c a b = true := by
  obtain ⟨r, h1, h2⟩ := h
  exact isE_rows.2 ⟨r, h1, h2.later⟩
theorem ranges_not_cells {H : Type} {P : Program} {k : TypeId} {R : Value → Option (DataW H × List MemPlace)} {w : World} {b r n : Nat} {D : DataW H} {left : Lit → Bool} {cnt : Nat} (h : w.ranges P k R b r n D left cnt) : ∀ q, (some r : Option Nat) = some q → ∀ cs t, w.heap[q]? ≠ some (.cells cs t (0, 0)) := by
  rintro q e cs t hc
  cases e
  obtain ⟨es, clock, since, seen, c0, _, _, _, _, hr, _⟩ := h
  rw [hr] at hc
  cases hc
theorem owns_not_map {H : Type} {P : Program} {k : TypeId} {R : Value → Option (DataW H × List MemPlace)} {w : World} {b n : Nat} {D : DataW H} (h : w.ownsMap P k R b n D) {base e sz m : Nat} {v : Value} {xs : List Value} (ho : w.ownsRow base e sz v m xs) : some b ≠ v.ownBlock := by
  intro e
  obtain ⟨_, cs, hc⟩ := owns_block ho b e.symm
  obtain ⟨es, clock, hb, _⟩ := h
  rw [hb] at hc
  cases hc
theorem owns_not_iter {H : Type} {P : Program} {k : TypeId} {R : Value → Option (DataW H × List MemPlace)} {w : World} {b r n : Nat} {D : DataW H} {left : Lit → Bool} {cnt : Nat} (h : w.ranges P k R b r n D left cnt) {base e sz m : Nat} {v : Value} {xs : List Value} (ho : w.ownsRow base e sz v m xs) : some r ≠ v.ownBlock := by
  intro e
  obtain ⟨_, cs, hc⟩ := owns_block ho r e.symm
  exact ranges_not_cells h r rfl cs _ hc
theorem Heads.made {W w' : World} {base n : Nat} (hb : base ≤ W.heap.size) (hown : w'.ownsRow W.heap.size 42 1 (.slice (some ⟨W.heap.size, 0, none⟩) n n) n (madeCells (Value.slice none 0 0).cells (n * 1)).toList) : Heads w' base W.heap.size n (List.replicate n (.slice none 0 0)) (froms []) := by
  have hm : (madeCells (Value.slice none 0 0).cells (n * 1)).toList = List.replicate n (.slice none 0 0) := by
    apply List.ext_getElem?
    intro k
    simp only [madeCells, Value.cells]
    by_cases hk : k < n <;> simp [hk, Nat.mod_one]
  rw [hm] at hown
  rcases hown.2 with ⟨h, _⟩ | ⟨g, cap, cur, hv, h1, h2, h3, h4, h5, h6⟩
  · cases h
  · cases hv
    have e : cur = (List.replicate n (Value.slice none 0 0)).toArray := by
      rw [← h6, List.take_of_length_le (by simp [h5])]
    refine ⟨by rw [← e]; exact h2, by simp, fun i v hv => ?_, fun i j vi vj _ hi _ g hg => ?_⟩
    · have := (List.getElem?_eq_some_iff.1 hv).2
      simp at this
      subst this
      exact World.ownsRow_nil _ _ _ _
    · have := (List.getElem?_eq_some_iff.1 hi).2
      simp at this
      subst this
      cases hg
set_option maxRecDepth 100000 in
set_option maxHeartbeats 4000000 in
theorem ahead_sys {w : World} {hi : Nat} {c : Cf} {pvs : List Pv} {wa pa ca : Option Addr} {wc pc cc : Nat} (f : Few c) (h : SysL w hi c pvs wa pa ca wc pc cc) (hh : hi ≤ w.heap.size) :
    Calls Try.prog 28 #[.agg #[.int .i64 c.frame, .int .i64 c.margin, .slice wa c.ws.length wc, .slice pa c.ps.length pc, .slice ca c.cs.length cc]] w fun e w' => ∃ (G : Nat) (vs : List Value) (ss : List (Int × Int)), e = .returned (.slice (some ⟨G, 0, none⟩) c.ps.length c.ps.length) ∧ w.heap.size ≤ G ∧ Heads w' w.heap.size G c.ps.length vs (froms ss) ∧ ss.Nodup ∧ (∀ e, e ∈ ss ↔ stepE c e.1 e.2) ∧ Below w.heap.size w w' := by
  obtain ⟨V, hV⟩ : ∃ V, V = (w.alloc (.cells #[.int .i64 c.frame, .int .i64 c.margin, .slice wa c.ws.length wc, .slice pa c.ps.length pc, .slice ca c.cs.length cc] 35)).alloc (.map #[] 0) := ⟨_, rfl⟩
  have B1 : Below w.heap.size w V := by rw [hV]; exact (below1 _ _).alloc (by simp) _
  have hvs : w.heap.size + 2 = V.heap.size := by rw [hV]; simp
  have hblk : CBox V w.heap.size c.frame c.margin wa pa ca c.ws.length wc c.ps.length pc c.cs.length cc := by
    rw [hV]
    unfold CBox
    rw [heap_at, if_neg (by simp)]
    exact heap_alloc_new _ _
  have hset : SetP V (w.heap.size + 1) 0 (fun _ => False) := by
    rw [hV]
    have := SetP.made (w.alloc (.cells #[.int .i64 c.frame, .int .i64 c.margin, .slice wa c.ws.length wc, .slice pa c.ps.length pc, .slice ca c.cs.length cc] 35))
    simpa using this
  have hc := rows_sys f (h.keep (SameIn.of_below B1 hh)) (by omega)
  obtain ⟨rs, hrs⟩ : ∃ rs, rs = rowsV c := ⟨_, rfl⟩
  have HR1 : Hid (∀ a b : Int, stepE c a b ↔ ∃ r ∈ rs, nextP r (a, b)) := Lib.hid (fun a b => by rw [hrs]; rfl)
  have HR2 : Hid (∀ r ∈ rs, r.length ≤ 1001 ∧ ∀ x ∈ r, I64 x) := Lib.hid (fun r hr => by rw [hrs] at hr; exact ⟨rowsV_short f hr, fun x hx => has_i64 f.2.1 (rowsV_has hr x hx)⟩)
  have hrl : rs.length ≤ 2000 := by rw [hrs, rowsV_len]; have := f.1; have := f.2.1; have := f.2.2.1; omega
  rw [← hrs] at hc
  obtain ⟨m, hm⟩ : ∃ m, m = rs.length := ⟨_, rfl⟩
  rw [← hm] at hc hrl
  have c0 : V.cell? ⟨w.heap.size, 0, none⟩ = some (.int .i64 c.frame) := cell_in hblk rfl
  have c1 : V.cell? ⟨w.heap.size, 1, none⟩ = some (.int .i64 c.margin) := cell_in hblk rfl
  have c2 : V.cell? ⟨w.heap.size, 2, none⟩ = some (.slice wa c.ws.length wc) := cell_in hblk rfl
  have c3 : V.cell? ⟨w.heap.size, 3, none⟩ = some (.slice pa c.ps.length pc) := cell_in hblk rfl
  have c4 : V.cell? ⟨w.heap.size, 4, none⟩ = some (.slice ca c.cs.length cc) := cell_in hblk rfl
  have HV := Lib.hid hV; have HB1 := Lib.hid B1; have HS := Lib.hid hset; have HC := Lib.hid hc; have HM := Lib.hid hm; have HF := Lib.hid f; have HVS := Lib.hid hvs
  have HBK := Lib.hid hblk
  have hpn := f.2.1
  clear hV B1 hblk hset hc hrs hm h f hvs
  have hmm := @run_makeMap Try.prog
  obtain ⟨i0, hi0, hz0, hz1, hz2⟩ := info_parts Try.infoInt
  obtain ⟨i1, hi1, hy0, hy1, hy2⟩ := info_parts Try.infoRow
  have HI := Lib.hid hi0; have HJ := Lib.hid hi1
  clear hi0 hi1
  go_enter Try.func28, Try.ntmps28
  go_wp2_with fail
  rw [← HV.out]
  go_wp2_with (first | (go_at_call 23; refine HC.out.mono ?_; rintro e w1 ⟨ra, rcap, vs, rfl, hra⟩))
  have HRA := Lib.hid hra
  have hb1 := hra.below
  have hb1s := hb1.size
  have HS1 := Lib.hid (HS.out.later hb1)
  clear hra c0 c1 c2 c3 c4
  go_loopw [12] (fun i wr => ∃ k : Nat, k ≤ m ∧ i = .int .i64 k ∧ Hid (SetP wr (w.heap.size + 1) (k * 2000) (fun e => ∃ r ∈ rs.take k, nextP r e)) ∧ But (w.heap.size + 1) w1 wr) (fun i _ => m - (intOf i).toNat)
  case atStart => exact ⟨0, by omega, rfl, Lib.hid (HS1.out.congr (fun e => by simp)), But.refl _ _⟩
  case round =>
    obtain ⟨k, hk, rfl, HS2, hb⟩ := hrel
    by_cases hlt : k < m
    · have tk : decide ((k : Int) < (m : Int)) = true := by simpa using hlt
      obtain ⟨x, hx⟩ : ∃ x, rs[k]? = some x := ⟨_, List.getElem?_eq_getElem (by rw [← HM.out]; exact hlt)⟩
      obtain ⟨v, hv⟩ : ∃ v, vs[k]? = some v := ⟨_, List.getElem?_eq_getElem (by rw [HRA.out.rows.1, ← HM.out]; exact hlt)⟩
      have hown := HRA.out.own
      rw [← HM.out] at hown
      obtain ⟨a2, c2, ee, _, _, hc⟩ := Lies.of_owns hown
      cases ee
      rcases hc with h0 | ⟨g, off, rfl, hq1, hq2, hc⟩
      · omega
      obtain ⟨lo, hi2, r1, r2, r3⟩ := HRA.out.rows.2 k v x hv hx
      have hvsz := HVS.out
      obtain ⟨xa, xc, rfl, _, _, _⟩ := id r3
      have hc0 : wr.cell? ⟨g, off + k, none⟩ = some (.slice xa x.length xc) := (World.cell?_of_block (w := w1) (a := ⟨g, off + k, none⟩) (hb.block g hq2 (by omega))).trans (hc k _ hv)
      have hx2 := HR2.out x (List.mem_of_getElem? hx)
      have HAA := Lib.hid (addNext_any (w.heap.size + 1) (k * 2000) xa x.length xc wr lo hi2 x _ rfl (r3.map_but HS1.out hb) (by omega) hx2.2 HS2.out (by omega))
      have l0 : (0 : Int) ≤ (k : Int) := by omega
      have l1 : (k : Int) < (m : Int) := by omega
      have HX := Lib.hid hx
      clear hx hv hc r3 hx2 hown hvsz
      go_wp2_with (first | (go_at_call 41; refine HAA.out.mono ?_; rintro e w4 ⟨rfl, hs4, hb4⟩))
      go_roundw
      case rel =>
        refine ⟨k + 1, by omega, by go_num, Lib.hid ((hs4.mono (by omega)).congr (fun e => ?_)), hb.trans hb4⟩
        rw [take_snoc HX.out]
        constructor
        · rintro (⟨r, h1, h2⟩ | h)
          · exact ⟨r, List.mem_append_left _ h1, h2⟩
          · exact ⟨x, by simp, h⟩
        · rintro ⟨r, h1, h2⟩
          rcases List.mem_append.1 h1 with h1 | h1
          · exact .inl ⟨r, h1, h2⟩
          · simp at h1; subst h1; exact .inr h2
      case measure => simp [intOf]; omega
    · have tk : decide ((k : Int) < (m : Int)) = false := by simp; omega
      have ek : k = m := by omega
      have hvsz := HVS.out
      obtain ⟨wo, hwo⟩ : ∃ wo, wo = wr := ⟨_, rfl⟩
      subst hwo
      have hwr : Below w.heap.size w wo := (HB1.out.trans (hb1.mono (by omega))).trans (hb.below (by omega) (by omega))
      obtain ⟨S, hSE, hSP⟩ := HS2.out.congr (Q := fun e => stepE c e.1 e.2) (fun e => by rw [HR1.out e.1 e.2, List.take_of_length_le (by rw [← HM.out]; omega)])
      have HBW := Lib.hid hwr
      have hwrs : w.heap.size + 2 ≤ wo.heap.size := by have := hb.size; omega
      have c3 : wo.cell? ⟨w.heap.size, 3, none⟩ = some (.slice pa c.ps.length pc) := cell_in (hb.at (HBK.out.later hb1) (by omega)) rfl
      obtain ⟨nn, hnn⟩ : ∃ nn, nn = k * 2000 := ⟨_, rfl⟩
      rw [← hnn] at hSE
      have hnb : nn ≤ 4000000 := by omega
      obtain ⟨D0, hD, hDS⟩ := hSE
      have HSP := Lib.hid hSP; have HD := Lib.hid hD; have HDS := Lib.hid hDS; have HNN := Lib.hid hnn
      clear hSP hD hDS hnn hwr hvsz
      go_wp2_with (first
        | (refine wpList_make_full _ (by rfl) (.tmp 22) (.tmp 22) 72 (by rfl) wo.heap.size 42 i1 _ 1 Try.underlying72 HJ.out hy0 hy1 _ _ c.ps.length c.ps.length c.ps.length (by rfl) (by rfl) rfl rfl (by rw [hy2]; omega) (by simp [maxLen]; omega) (Nat.le_refl _) ?_; intro w2 hown2 hgrow2; have hown3 := HD.out.kept hgrow2 (by simp))
        | (at_range; refine wpList_range_own _ rfl _ 71 rfl 41 91 Try.lawE Try.underlying71 _ (w.heap.size + 1) nn _ rfl hown3 ?_; intro w3 hrg3 hg3 hs3)
        | go_in)
      have hwr := HBW.out
      have hbw2 : Below wo.heap.size wo w2 := ⟨hgrow2.os, hgrow2.tape, hgrow2.output, hgrow2.size, fun b hb => hgrow2.block b hb (by simp)⟩
      have hbw3 : Below wo.heap.size wo w3 := hbw2.trans (Below.mono ⟨hg3.os, hg3.tape, hg3.output, hg3.size, fun b hb => hg3.block b hb (by simp)⟩ hbw2.size)
      have hst : Heads w3 w.heap.size wo.heap.size c.ps.length (List.replicate c.ps.length (.slice none 0 0)) (froms []) := ((Heads.made (W := wo) (w' := w2) hwr.size hown2).keptBy hg3 (by simp))
      have HST := Lib.hid hst; have HB3 := Lib.hid (hwr.trans (hbw3.mono hwr.size)); have HRG := Lib.hid hrg3
      have hR : w2.heap.size < w3.heap.size := by omega
      have hG2 := lt_of_block (Heads.made (W := wo) (w' := w2) hwr.size hown2).blk
      obtain ⟨R, hRR⟩ : ∃ R, R = w2.heap.size := ⟨_, rfl⟩
      rw [← hRR] at HRG hR hG2
      clear hst hrg3 hown3 hown2 hgrow2 hbw2 hbw3 hwr hg3
      rw [← hRR]
      clear hRR hs3
      go_loopw [26] (fun _ wx => ∃ (left : Lit → Bool) (cnt : Nat) (ss : List (Int × Int)) (vs : List Value), wx.ranges Try.prog 41 unitElem (w.heap.size + 1) R nn D0 left cnt ∧ ss.length + cnt ≤ Maps.size D0 ∧ CollE S left ss ∧ Hid (Heads wx w.heap.size wo.heap.size c.ps.length vs (froms ss)) ∧ Below w.heap.size w wx)
        (fun _ wx => wx.rangeLeft (w.heap.size + 1) R)
      case atStart => exact ⟨_, _, [], _, HRG.out, by simp, ⟨List.nodup_nil, by simp, fun e he => by rw [HDS.out e he]; simp⟩, HST, HB3.out⟩
      case round =>
        clear HRG HST HB3
        obtain ⟨left, cnt, ss, vs, hrg, hcs, hC, HH, hbx⟩ := hrel
        go_wp2_with (first
          | (at_next; refine wpList_next_ranges _ rfl _ rfl 41 Try.lawE unitElem (fun e : Int × Int => Value.agg #[.int .i64 e.1, .int .i64 e.2]) id (fun key kl hk => by obtain ⟨x, hx, _⟩ := key_inv hk; exact ⟨x, hx⟩) (fun v _ _ => ⟨v, rfl⟩) (w.heap.size + 1) R nn _ _ _ rfl hrg ?_ ?_)
          | go_in)
        · intro hc0 hl0
          go_wp2
          go_ret
          have hE := hC.end hl0
          refine ⟨wo.heap.size, vs, ss, rfl, by omega, HH.out, hE.1, fun e => ?_, hbx⟩
          constructor
          · intro he
            have h1 := hE.2.1 e he
            exact (HSP.out e h1).1 ((hE.2.2 e h1).1 he)
          · intro he
            have h1 := eIn_of HF.out he.is
            exact (hE.2.2 e h1).2 ((HSP.out e h1).2 he)
        · intro x y c2 kl yd yp w4 cnt2 hkey hlk hv hat hrg2 hlt hg4 hs4 hen
          obtain ⟨x', ex, rfl, hx⟩ := key_inv hkey
          obtain ⟨x2, y2⟩ := x'
          simp only [eV, Value.agg.injEq] at ex
          simp at ex
          obtain ⟨rfl, rfl⟩ := ex
          have hSt : S (x, y) = true := by
            have := hC.2.2 (x, y) hx
            rw [hlk] at this
            simp at this
            exact this.1
          have hst := (HSP.out (x, y) hx).1 hSt
          have hhas := (isE_has hst.is).2
          obtain ⟨j, rfl⟩ : ∃ j : Nat, y = (j : Int) := ⟨y.toNat, by omega⟩
          have hjn : j < c.ps.length := by omega
          have hH4 := HH.out.keptBy hg4 (ranges_not_cells hrg)
          obtain ⟨v, hvj⟩ : ∃ v, vs[j]? = some v := ⟨_, List.getElem?_eq_getElem (by rw [hH4.len]; exact hjn)⟩
          have hown4 := hH4.own j v hvj
          obtain ⟨⟨va, vc, rfl⟩, _⟩ := owns_slice hown4
          have hC2 := hC.step hx hlk
          have hfl : (froms ss j).length ≤ 4000000 := by
            have h1 : (froms ss j).length ≤ ss.length := by unfold froms; rw [List.length_map]; exact List.length_filter_le _ _
            have h2 := hrg.owns.size_le
            omega
          have g0 : w4.cell? ⟨wo.heap.size, j, none⟩ = some (.slice va (froms ss j).length vc) := cell_in hH4.blk (by simpa using hvj)
          have f0 : w4.frozen? ⟨wo.heap.size, j, none⟩ = false := free_in hH4.blk j
          have hG4 := lt_of_block hH4.blk
          have hne4 : wo.heap.size ≠ w4.heap.size := by omega
          have hne5 : w4.heap.size ≠ wo.heap.size := by omega
          have l0 : (0 : Int) ≤ (j : Int) := by omega
          have l1 : (j : Int) < (c.ps.length : Int) := by omega
          have HH4 := Lib.hid hH4; have HVJ := Lib.hid hvj; have HO4 := Lib.hid hown4; have HC2 := Lib.hid hC2; have HRG2 := Lib.hid hrg2
          have HB4 : Hid (Below w.heap.size w w4) := Lib.hid (hbx.grown hg4 (by have := hbx.size; omega) (fun q hq => by cases hq; omega))
          have HG4 := Lib.hid hg4; have HLE := Lib.hid hrg.left_eq
          have hap : ∀ W : World, W.heap = ((w4.alloc (.cells #[.int .i64 x, .int .i64 (j : Int)] 41)).alloc (.cells #[.int .i64 x] 3)).heap → W.ownsRow w.heap.size 3 1 (.slice va (froms ss j).length vc) (froms ss j).length ((froms ss j).flatMap intCells) ∧ Lies W (w4.heap.size + 1) (w4.heap.size + 2) (.slice (some ⟨w4.heap.size + 1, 0, none⟩) 1 1) 1 1 [.int .i64 x] ∧ w.heap.size ≤ W.heap.size ∧ W.heap[w4.heap.size]? = some (.cells #[.int .i64 x, .int .i64 (j : Int)] 41 (0, 0)) ∧ W.heap[wo.heap.size]? = some (.cells vs.toArray 42 (0, 0)) := by
            intro W hW
            have hz : W.heap.size = w4.heap.size + 2 := by rw [hW]; simp
            have ho : ∀ k, k < w4.heap.size → W.heap[k]? = w4.heap[k]? := by
              intro k hk
              rw [hW, heap_at, if_neg (by simp; omega), heap_at, if_neg (by omega)]
            refine ⟨owns_hold HO4.out ⟨by omega, fun g hg => ho g (owns_own HO4.out g hg).2⟩, one_lies (cs := #[.int .i64 x]) (t := 3) ?_ rfl, ?_, ?_, (ho _ hG4).trans HH4.out.blk⟩
            · rw [hW, heap_at, if_pos (by simp)]
            · have := HB4.out.size; omega
            · rw [hW, heap_at, if_neg (by simp), heap_at, if_pos rfl]
          have hfin : ∀ (W W1 : World) (ao : Option Addr) (cap' : Nat), W.heap = ((w4.alloc (.cells #[.int .i64 x, .int .i64 (j : Int)] 41)).alloc (.cells #[.int .i64 x] 3)).heap → Below w4.heap.size w4 W → W1.ownsRow w.heap.size 3 1 (.slice ao ((froms ss j).length + 1) cap') ((froms ss j).length + 1) ((froms ss j).flatMap intCells ++ [.int .i64 x]) → W.grownBy W1 (Value.slice va (froms ss j).length vc).ownBlock → ((Value.slice ao ((froms ss j).length + 1) cap').ownBlock = (Value.slice va (froms ss j).length vc).ownBlock ∨ (Value.slice ao ((froms ss j).length + 1) cap').ownBlock = some W.heap.size) →
              (W1.setCell ⟨wo.heap.size, j, none⟩ (.slice ao ((froms ss j).length + 1) cap')).ranges Try.prog 41 unitElem (w.heap.size + 1) R nn D0 (fun z => left z && !z.sameKey (kE (x, (j : Int)))) cnt2 ∧ Heads (W1.setCell ⟨wo.heap.size, j, none⟩ (.slice ao ((froms ss j).length + 1) cap')) w.heap.size wo.heap.size c.ps.length (vs.set j (.slice ao ((froms ss j).length + 1) cap')) (froms (ss ++ [(x, (j : Int))])) ∧ Below w.heap.size w (W1.setCell ⟨wo.heap.size, j, none⟩ (.slice ao ((froms ss j).length + 1) cap')) := by
            intro W W1 ao cap' hW hBW hown hg hob
            have hHW := HH4.out.later hBW
            have hRW : W.ranges Try.prog 41 unitElem (w.heap.size + 1) R nn D0 _ cnt2 := HRG2.out.kept (row := none) ⟨hBW.os, hBW.tape, hBW.output, hBW.size, fun k hk _ => hBW.block k hk⟩ (by simp) (by simp)
            have ho := owns_later HO4.out hBW
            have hR1 := hRW.kept hg (owns_not_map hRW.owns ho) (owns_not_iter hRW ho)
            have hb1 : But wo.heap.size W1 (W1.setCell ⟨wo.heap.size, j, none⟩ (.slice ao ((froms ss j).length + 1) cap')) := (But.refl _ _).set j _
            have hne1 : wo.heap.size ≠ w.heap.size + 1 := by omega
            have hne2 : wo.heap.size ≠ R := by omega
            have hHS := hHW.step HVJ.out (v' := .slice ao ((froms ss j).length + 1) cap') (xs := froms ss j ++ [x]) (by simpa [List.flatMap_append, intCells] using hown) hg hob
            refine ⟨hR1.kept (row := some wo.heap.size) ⟨hb1.os, hb1.tape, hb1.output, hb1.size, fun k hk hne => hb1.block k hk (fun e => hne (by rw [e]))⟩ (by intro e; have := Option.some.inj e; omega) (by intro e; have := Option.some.inj e; omega), ?_, ?_⟩
            · rw [froms_snoc]; exact hHS
            · have h5 : Below w.heap.size w W := HB4.out.trans (hBW.mono HB4.out.size)
              have h6 := h5.grown hg h5.size (fun q hq => (owns_own ho q hq).1)
              exact h6.setCell (p := ⟨wo.heap.size, j, none⟩) (by show _ ≤ wo.heap.size; omega) _
          have HFIN := Lib.hid hfin
          have HAP := Lib.hid hap
          clear hkey hat hSt hst hhas hH4 hvj hown4 hC2 hC hrg2 hrg hbx hg4 hs4 hlk hx hap hfin
          go_wp2_with fail
          go_region_law (first
            | (refine step_append_lie2 (by rfl) _ _ 42 (by rfl) w.heap.size 3 i0 _ 1 8 Try.underlying42 HI.out hz0 hz1 hz2 rfl (by omega) (.slice va (froms ss j).length vc) (froms ss j).length ((froms ss j).flatMap intCells) (by rfl) (HAP.out _ (by rfl)).1 (.slice (some ⟨w4.heap.size + 1, 0, none⟩) 1 1) (w4.heap.size + 1) (w4.heap.size + 2) 1 [.int .i64 x] (by rfl) (HAP.out _ (by rfl)).2.1 (in_one x) ((froms ss j).length + 1) rfl (by simp only [maxLen]; omega) (by omega) (HAP.out _ (by rfl)).2.2.1 ?_; intro ao cap' w5 hown5 hgrow5 hob5; have q0 : w5.cell? ⟨w4.heap.size, 1, none⟩ = some (.int .i64 (j : Int)) := cell_in (grown_keep hgrow5 (HAP.out _ (by rfl)).1 (HAP.out _ (by rfl)).2.2.2.1 (by decide)) rfl; have qb := grown_keep hgrow5 (HAP.out _ (by rfl)).1 (HAP.out _ (by rfl)).2.2.2.2 (by decide); have q1 : w5.cell? ⟨wo.heap.size, j, none⟩ = some (.slice va (froms ss j).length vc) := cell_in qb (by simpa using HVJ.out); have q2 : w5.frozen? ⟨wo.heap.size, j, none⟩ = false := free_in qb j; clear qb))
          all_goals
            (go_wp2_with fail
             go_roundw
             case rel =>
               obtain ⟨t1, t2, t3⟩ := HFIN.out _ _ _ _ (by rfl) (by repeat first | exact Below.refl _ _ | refine Below.drew ?_ | refine b_alloc ?_ (Nat.le_refl _) _) hown5 hgrow5 hob5
               exact ⟨_, cnt2, ss ++ [(x, (j : Int))], _, t1, by simp; omega, HC2.out, Lib.hid t2, t3⟩
             case measure =>
               obtain ⟨t1, _, _⟩ := HFIN.out _ _ _ _ (by rfl) (by repeat first | exact Below.refl _ _ | refine Below.drew ?_ | refine b_alloc ?_ (Nat.le_refl _) _) hown5 hgrow5 hob5
               rw [t1.left_eq, HLE.out]; exact hlt)
end Go.Proofs.Ytkikapodobeaaaa
namespace Go.Proofs.Ytkikapodobeaaaa
open Go.ChangeShapes Go.WideShapes Go.ChangeAt Go.RowKit Go.Maps Go.Sort
set_option linter.unusedVariables false

/-- Those found, and those to be looked at. -/
structure Bfs (c : Cf) (l : List Int) (s : List Bool) (T : List Int) : Prop where
  len : s.length = c.ps.length
  only : ∀ i : Nat, s[i]? = some true → Leads c l (i : Int)
  todo : ∀ x ∈ T, hasB c.ps.length x = true → Leads c l x
  base : ∀ i : Nat, (i : Int) ∈ l → i < c.ps.length → s[i]? = some true ∨ (i : Int) ∈ T
  clos : ∀ a b : Nat, stepE c a b → s[b]? = some true → s[a]? = some true ∨ (a : Int) ∈ T
theorem Bfs.start (c : Cf) (l : List Int) : Bfs c l (List.replicate c.ps.length false) l := by
  have no : ∀ i : Nat, (List.replicate c.ps.length false)[i]? = some true → False := by
    intro i h
    have := (List.getElem?_eq_some_iff.1 h).2
    simp at this
  exact ⟨by simp, fun i h => (no i h).elim, fun x hx hh => .of hx hh, fun i hi _ => .inr hi, fun a b _ h => (no b h).elim⟩
theorem Bfs.perm {c : Cf} {l : List Int} {s : List Bool} {T U : List Int} (h : Bfs c l s T) (hU : ∀ x, x ∈ T ↔ x ∈ U) : Bfs c l s U :=
  ⟨h.len, h.only, fun x hx hh => h.todo x ((hU x).2 hx) hh, fun i h1 h2 => (h.base i h1 h2).imp id (hU _).1, fun a b h1 h2 => (h.clos a b h1 h2).imp id (hU _).1⟩
theorem has_nat {n : Nat} {i : Nat} (h : i < n) : hasB n (i : Int) = true := by unfold hasB; rw [decide_eq_true_eq]; omega
theorem Bfs.none {c : Cf} {l : List Int} {s : List Bool} {x : Int} {T : List Int} (h : Bfs c l s (x :: T)) (hx : hasB c.ps.length x = false) : Bfs c l s T := by
  have key : ∀ i : Nat, i < c.ps.length → (i : Int) ∈ x :: T → (i : Int) ∈ T := by
    intro i hi hm
    rcases List.mem_cons.1 hm with e | hm
    · rw [← e, has_nat hi] at hx; cases hx
    · exact hm
  refine ⟨h.len, h.only, fun y hy hh => h.todo y (List.mem_cons_of_mem _ hy) hh, fun i h1 h2 => (h.base i h1 h2).imp id (key i h2), fun a b h1 h2 => (h.clos a b h1 h2).imp id (key a ?_)⟩
  have := (isE_has h1.is).1; omega
theorem Bfs.there {c : Cf} {l : List Int} {s : List Bool} {j : Nat} {T : List Int} (h : Bfs c l s ((j : Int) :: T)) (hx : s[j]? = some true) : Bfs c l s T := by
  have key : ∀ i : Nat, (s[i]? = some true ∨ (i : Int) ∈ (j : Int) :: T) → s[i]? = some true ∨ (i : Int) ∈ T := by
    rintro i (hi | hm)
    · exact .inl hi
    · rcases List.mem_cons.1 hm with e | hm
      · have : i = j := by omega
        subst this; exact .inl hx
      · exact .inr hm
  exact ⟨h.len, h.only, fun y hy hh => h.todo y (List.mem_cons_of_mem _ hy) hh, fun i h1 h2 => key i (h.base i h1 h2), fun a b h1 h2 => key a (h.clos a b h1 h2)⟩
theorem Bfs.found {c : Cf} {l : List Int} {s : List Bool} {j : Nat} {T F : List Int} (h : Bfs c l s ((j : Int) :: T)) (hj : j < c.ps.length) (hF : ∀ a : Int, a ∈ F ↔ stepE c a (j : Int)) : Bfs c l (s.set j true) (T ++ F) := by
  have hjs : j < s.length := by rw [h.len]; exact hj
  have hl : Leads c l (j : Int) := h.todo _ (List.mem_cons_self ..) (has_nat hj)
  have key : ∀ i : Nat, (s[i]? = some true ∨ (i : Int) ∈ (j : Int) :: T) → (s.set j true)[i]? = some true ∨ (i : Int) ∈ T ++ F := by
    rintro i (hi | hm)
    · exact .inl ((set_true hjs).2 (.inr hi))
    · rcases List.mem_cons.1 hm with e | hm
      · exact .inl ((set_true hjs).2 (.inl (by omega)))
      · exact .inr (List.mem_append_left _ hm)
  refine ⟨by rw [List.length_set]; exact h.len, fun i hi => ?_, fun x hx hh => ?_, fun i h1 h2 => key i (h.base i h1 h2), fun a b h1 h2 => ?_⟩
  · rcases (set_true hjs).1 hi with rfl | hi
    · exact hl
    · exact h.only i hi
  · rcases List.mem_append.1 hx with hx | hx
    · exact h.todo x (List.mem_cons_of_mem _ hx) hh
    · exact .on ((hF x).1 hx).is hl
  · rcases (set_true hjs).1 h2 with rfl | h2
    · exact .inr (List.mem_append_right _ ((hF _).2 h1))
    · exact key a (h.clos a b h1 h2)
theorem Bfs.done {c : Cf} {l : List Int} {s : List Bool} (h : Bfs c l s []) : CutOf c l s := by
  have hs : ∀ a b : Nat, stepE c a b → s[b]? = some true → s[a]? = some true := fun a b h1 h2 => (h.clos a b h1 h2).resolve_right (by simp)
  have row : ∀ (r : List Int), r ∈ rowsV c → ∀ (d x : Nat) (u v : Nat), r[x]? = some (u : Int) → r[x + (d + 1)]? = some (v : Int) → s[v]? = some true → s[u]? = some true := by
    intro r hr d
    induction d with
    | zero => intro x u v h1 h2 h3; exact hs u v ⟨r, hr, x, h1, h2⟩ h3
    | succ d ih =>
      intro x u v h1 h2 h3
      have hlt := (List.getElem?_eq_some_iff.1 h2).1
      obtain ⟨m, hm⟩ : ∃ m, r[x + (d + 1)]? = some m := ⟨_, List.getElem?_eq_getElem (by omega)⟩
      have hh := hasB_true (rowsV_has hr m (List.mem_of_getElem? hm))
      have e : ((m.toNat : Nat) : Int) = m := by omega
      rw [← e] at hm
      exact ih x u m.toNat h1 hm (hs m.toNat v ⟨r, hr, x + (d + 1), hm, by rw [show x + (d + 1) + 1 = x + (d + 1 + 1) by omega]; exact h2⟩ h3)
  have hcl : Closed c s := by
    intro a b he hb
    obtain ⟨r, hr, hl⟩ := isE_rows.1 he
    obtain ⟨x, y, hxy, h1, h2⟩ := laterB_iff.1 hl
    obtain ⟨d, rfl⟩ : ∃ d, y = x + (d + 1) := ⟨y - x - 1, by omega⟩
    exact row r hr d x a b h1 h2 hb
  exact Inv.cut hcl h.len (fun i h1 h2 => (h.base i h1 h2).resolve_right (by simp)) h.only
theorem cntT_set : ∀ {s : List Bool} {j : Nat}, s[j]? = some false → cntT (s.set j true) = cntT s + 1
  | [], j, h => by simp at h
  | x :: s, 0, h => by simp at h; subst h; simp [cntT]
  | x :: s, j + 1, h => by
    have := cntT_set (s := s) (j := j) (by simpa using h)
    unfold cntT at this ⊢
    rw [List.set_cons_succ, List.count_cons, List.count_cons, this]
    omega
def isTr : Value → Bool
  | .bool b => b
  | _ => false
/-- How many are true in a block. -/
def cntW (w : World) (G : Nat) : Nat := match w.heap[G]? with
  | some (.cells arr _ _) => arr.toList.countP isTr
  | _ => 0
def BoolAt (w : World) (G : Nat) (s : List Bool) : Prop := w.heap[G]? = some (.cells (s.map Value.bool).toArray 4 (0, 0))
theorem BoolAt.cnt {w : World} {G : Nat} {s : List Bool} (h : BoolAt w G s) : cntW w G = cntT s := by
  unfold BoolAt at h
  unfold cntW cntT
  rw [h]
  simp only [List.countP_map]
  rw [List.count_eq_countP]
  congr 1
  funext b
  cases b <;> rfl
theorem BoolAt.later {w w' : World} {G : Nat} {s : List Bool} (h : BoolAt w G s) (hb : Below w.heap.size w w') : BoolAt w' G s := (hb.block G (lt_of_block h)).trans h
theorem BoolAt.set {w : World} {G : Nat} {s : List Bool} (h : BoolAt w G s) (j : Nat) (b : Bool) : BoolAt (w.setCell ⟨G, j, none⟩ (.bool b)) G (s.set j b) := by
  have := set_at (j := j) (u := .bool b) h
  unfold BoolAt
  rw [this]
  congr 2
  rw [List.map_set]
  simp
theorem BoolAt.cell {w : World} {G : Nat} {s : List Bool} (h : BoolAt w G s) {j : Nat} {b : Bool} (hb : s[j]? = some b) : w.cell? ⟨G, j, none⟩ = some (.bool b) ∧ w.frozen? ⟨G, j, none⟩ = false := ⟨cell_in h (by simp [hb]), free_in h j⟩
theorem BoolAt.lies {w : World} {G : Nat} {s : List Bool} (h : BoolAt w G s) {n : Nat} (hn : s.length = n) : Lies w G (G + 1) (.slice (some ⟨G, 0, none⟩) n n) n 1 (s.map Value.bool) :=
  ⟨_, _, rfl, by simp [hn], (fun e => by cases e), .inr ⟨G, 0, rfl, Nat.le_refl _, by omega, fun k u hu => by rw [Nat.zero_add]; exact cell_in h (by simpa using hu)⟩⟩
theorem Heads.but {w w' : World} {X base G n : Nat} {vs : List Value} {f : Nat → List Int} (h : Heads w base G n vs f) (hb : But X w w') {s : List Bool} (hX : BoolAt w X s) : Heads w' base G n vs f := by
  have ne : ∀ k cs t, w.heap[k]? = some (.cells cs t (0, 0)) → t ≠ 4 → k ≠ X := by
    rintro k cs t hk ht rfl
    unfold BoolAt at hX
    rw [hX] at hk
    cases hk
    exact ht rfl
  exact ⟨(hb.block G (lt_of_block h.blk) (ne _ _ _ h.blk (by decide))).trans h.blk, h.len, fun i v hv => owns_hold (h.own i v hv) ⟨hb.size, fun g hg => by
    obtain ⟨_, cs, hc⟩ := owns_block (h.own i v hv) g hg
    exact hb.block g (lt_of_block hc) (ne _ _ _ hc (by decide))⟩, h.dis⟩
theorem froms_short {c : Cf} {ss : List (Int × Int)} (h1 : ss.Nodup) (h2 : ∀ e, e ∈ ss ↔ stepE c e.1 e.2) (b : Nat) : (froms ss b).length ≤ c.ps.length :=
  pig _ _ (froms_nodup h1 b) (fun x hx => (isE_has ((h2 _).1 (froms_mem.1 hx)).is).1)
end Go.Proofs.Ytkikapodobeaaaa
namespace Go.Proofs.Ytkikapodobeaaaa
open Go.ChangeShapes Go.WideShapes Go.ChangeAt Go.RowKit Go.Maps Go.Sort
set_option linter.unusedVariables false
attribute [local go_sem ↓] Go.wp_at_zero Go.wp_at_succ

theorem BoolAt.made {W w' : World} {n : Nat} (hown : w'.ownsRow W.heap.size 4 1 (.slice (some ⟨W.heap.size, 0, none⟩) n n) n (madeCells (Value.bool false).cells (n * 1)).toList) : BoolAt w' W.heap.size (List.replicate n false) := by
  have hm : (madeCells (Value.bool false).cells (n * 1)).toList = List.replicate n (Value.bool false) := by
    apply List.ext_getElem?
    intro k
    simp only [madeCells, Value.cells]
    by_cases hk : k < n <;> simp [hk, Nat.mod_one]
  rw [hm] at hown
  rcases hown.2 with ⟨h, _⟩ | ⟨g, cap, cur, hv, h1, h2, h3, h4, h5, h6⟩
  · cases h
  · cases hv
    have e : cur = (List.replicate n (Value.bool false)).toArray := by
      rw [← h6, List.take_of_length_le (by simp [h5])]
    unfold BoolAt
    rw [List.map_replicate, ← e]
    exact h2
def lenS : Value → Nat
  | .slice _ n _ => n
  | _ => 0
theorem drop_cons {l : List Int} {k : Nat} {x : Int} (h : l[k]? = some x) : l.drop k = x :: l.drop (k + 1) := by
  obtain ⟨hk, e⟩ := List.getElem?_eq_some_iff.1 h
  rw [List.drop_eq_getElem_cons hk, e]
set_option maxRecDepth 100000 in
set_option maxHeartbeats 4000000 in
theorem cut_sys {w : World} {hi : Nat} {c : Cf} {pvs : List Pv} {wa pa ca : Option Addr} {wc pc cc : Nat} (f : Few c) (h : SysL w hi c pvs wa pa ca wc pc cc) (hh : hi ≤ w.heap.size)
    (la : Option Addr) (ln lc llo lhi : Nat) (l : List Int) (hln : l.length = ln) (hl : Lies w llo lhi (.slice la ln lc) ln 1 (l.flatMap intCells)) (hlh : lhi ≤ w.heap.size) (hl2 : ln ≤ 1000) :
    Calls Try.prog 18 #[.agg #[.int .i64 c.frame, .int .i64 c.margin, .slice wa c.ws.length wc, .slice pa c.ps.length pc, .slice ca c.cs.length cc], .slice la ln lc] w fun e w' => ∃ (G : Nat) (s : List Bool), e = .returned (.slice (some ⟨G, 0, none⟩) c.ps.length c.ps.length) ∧ w.heap.size ≤ G ∧ BoolAt w' G s ∧ CutOf c l s ∧ Below w.heap.size w w' := by
  obtain ⟨i0, hi0, hz0, hz1, hz2⟩ := info_parts Try.infoInt
  obtain ⟨i1, hi1, hy0, hy1, hy2⟩ := info_parts Try.infoBool
  have HI := Lib.hid hi0; have HJ := Lib.hid hi1
  clear hi0 hi1
  obtain ⟨V, hV⟩ : ∃ V, V = w.alloc (.cells #[.int .i64 c.frame, .int .i64 c.margin, .slice wa c.ws.length wc, .slice pa c.ps.length pc, .slice ca c.cs.length cc] 35) := ⟨_, rfl⟩
  have B1 : Below w.heap.size w V := by rw [hV]; exact below1 _ _
  have hblk : CBox V w.heap.size c.frame c.margin wa pa ca c.ws.length wc c.ps.length pc c.cs.length cc := by rw [hV]; exact heap_alloc_new _ _
  have hvs : w.heap.size + 1 ≤ V.heap.size := by rw [hV]; simp
  have ks : ∀ W : World, Below V.heap.size V W → (W.cell? ⟨w.heap.size, 0, none⟩ = some (.int .i64 c.frame) ∧ W.cell? ⟨w.heap.size, 1, none⟩ = some (.int .i64 c.margin) ∧ W.cell? ⟨w.heap.size, 2, none⟩ = some (.slice wa c.ws.length wc) ∧ W.cell? ⟨w.heap.size, 3, none⟩ = some (.slice pa c.ps.length pc) ∧ W.cell? ⟨w.heap.size, 4, none⟩ = some (.slice ca c.cs.length cc)) := by
    intro W g
    have q := fun (i : Nat) (u : Value) hu => (g.cell (p := ⟨w.heap.size, i, none⟩) (lt_of_block hblk)).trans (cell_in (j := i) (u := u) hblk hu)
    exact ⟨q 0 _ rfl, q 1 _ rfl, q 2 _ rfl, q 3 _ rfl, q 4 _ rfl⟩
  have ha := ahead_sys f (h.keep (SameIn.of_below B1 hh)) (by omega)
  have hlV := hl.keep (SameIn.of_below B1 hlh)
  obtain ⟨z0, z1, z2, z3, z4⟩ := ks V (Below.refl _ _)
  have KS := Lib.hid ks; have HV := Lib.hid hV; have HB1 := Lib.hid B1; have HF := Lib.hid f; have HLN := Lib.hid hln; have HLV := Lib.hid hlV; have HA := Lib.hid ha
  have hpn := f.2.1
  clear ks hV B1 hblk h hl hlV f ha hln
  go_enter Try.func18, Try.ntmps18
  go_wp2_with fail
  rw [← HV.out]
  go_wp2_with (first
    | (refine wpList_make_full _ (by rfl) (.tmp 15) (.tmp 15) 44 (by rfl) w1.heap.size 4 i1 _ 1 Try.underlying44 HJ.out hy0 hy1 _ _ c.ps.length c.ps.length c.ps.length (by rfl) (by rfl) rfl rfl (by rw [hy2]; omega) (by simp [maxLen]; omega) (Nat.le_refl _) ?_; intro w2 hown2 hgrow2)
    | (go_at_call 28; refine HA.out.mono ?_; rintro e w1 ⟨GA, vs, ss, rfl, hGA, hHd, hnd, hss, hb1⟩; obtain ⟨x0, x1, x2, x3, x4⟩ := KS.out _ hb1)
    | go_in)
  have hb2 : Below w1.heap.size w1 w2 := ⟨hgrow2.os, hgrow2.tape, hgrow2.output, hgrow2.size, fun b hb => hgrow2.block b hb (by simp)⟩
  have hbv : Below V.heap.size V w2 := hb1.trans (hb2.mono hb1.size)
  have HBA := Lib.hid (BoolAt.made (W := w1) (w' := w2) hown2)
  have HHD := Lib.hid (hHd.later hb2)
  have HND := Lib.hid hnd; have HSS := Lib.hid hss
  have hGV := hb1.size
  have hGAG := lt_of_block hHd.blk
  have HBV := Lib.hid hbv
  have hw12 := hb2.size
  obtain ⟨G, hG⟩ : ∃ G, G = w1.heap.size := ⟨_, rfl⟩
  rw [← hG] at HBA hGV hGAG hw12
  rw [← hG]
  have hG2 := lt_of_block HBA.out
  have HL2 := Lib.hid (HLV.out.keep (SameIn.of_below hbv (by omega)))
  clear hown2 hgrow2 hb2 hbv hHd hnd hss hb1 x0 x1 x2 x3 x4 z0 z1 z2 z3 z4 hG
  go_loopw [7] (fun s7 wr => ∃ (ta : Option Addr) (tc lo hi' : Nat) (T : List Int) (s : List Bool), s7 = .slice ta T.length tc ∧ T.length ≤ 1000000 ∧ hi' ≤ wr.heap.size ∧ (G < lo ∨ hi' ≤ G) ∧ Hid (Lies wr lo hi' (.slice ta T.length tc) T.length 1 (T.flatMap intCells)) ∧ Hid (BoolAt wr G s) ∧ Hid (Bfs c l s T) ∧ Hid (Heads wr V.heap.size GA c.ps.length vs (froms ss)) ∧ Below V.heap.size V wr)
    (fun s7 wr => 2 * (c.ps.length - cntW wr G) + (if lenS s7 = 0 then 0 else 1))
  case atStart => exact ⟨la, lc, llo, lhi, l, _, by rw [HLN.out], by rw [HLN.out]; omega, by omega, .inr (by omega), by rw [HLN.out]; exact HL2, HBA, Lib.hid (Bfs.start c l), HHD, HBV.out⟩
  case round =>
    obtain ⟨ta, tc, lo, hi', T, s, rfl, hT, hhi, hdis, HT, HS, HB, HH, hbv⟩ := hrel
    clear HBA HHD HL2
    obtain ⟨wo, hwo⟩ : ∃ wo, wo = wr := ⟨_, rfl⟩
    subst hwo
    obtain ⟨tn, htn⟩ : ∃ tn, tn = T.length := ⟨_, rfl⟩
    rw [← htn] at HT hT
    rw [← htn]
    have HTN := Lib.hid htn
    clear htn
    have HCN : Hid (cntW wo G = cntT s) := Lib.hid HS.out.cnt
    by_cases hlt : 0 < tn
    · have tk : decide ((0 : Int) < (tn : Int)) = true := by rw [decide_eq_true_eq]; omega
      go_wp2
      go_loopw [8, 23] (fun s8 s23 wx => ∃ (k nc : Nat) (na : Option Addr) (N : List Int) (s2 : List Bool), k ≤ tn ∧ s8 = .slice na N.length nc ∧ s23 = .int .i64 k ∧ Hid (BoolAt wx G s2) ∧ Hid (wx.ownsRow wo.heap.size 3 1 (.slice na N.length nc) N.length (N.flatMap intCells)) ∧ Hid (Bfs c l s2 (T.drop k ++ N)) ∧ (N.length + 1000 * cntT s ≤ 1000 * cntT s2) ∧ But G wo wx) (fun _ s23 _ => tn - (intOf s23).toNat)
      case atStart => exact ⟨0, 0, none, [], s, by omega, rfl, rfl, HS, Lib.hid (World.ownsRow_nil _ _ _ _), by simpa using HB, by simp, But.refl _ _⟩
      case round =>
        obtain ⟨k, nc, na, N, s2, hk, rfl, rfl, HS2, HN2, HB2, hcnt, hbx⟩ := hrel
        have hbV : Below V.heap.size V wr := hbv.trans (hbx.below (by omega) (by have := hbv.size; omega))
        have hcle := cntT_le s2
        have hsl := HB2.out.len
        by_cases hlk : k < tn
        · have tk2 : decide ((k : Int) < (tn : Int)) = true := by simpa using hlk
          obtain ⟨x, hx⟩ : ∃ x, T[k]? = some x := ⟨_, List.getElem?_eq_getElem (by rw [← HTN.out]; exact hlk)⟩
          have hgs := lt_of_block HS.out
          obtain ⟨a2, c2, ee, _, _, hc⟩ := HT.out.keep (hbx.same hdis hhi)
          cases ee
          rcases hc with h0 | ⟨g, off, rfl, hq1, hq2, hc⟩
          · omega
          have c0 : wr.cell? ⟨g, off + k, none⟩ = some (.int .i64 x) := Lies.int hc hx
          obtain ⟨z0, z1, z2, z3, z4⟩ := KS.out wr hbV
          have HDR : Hid (T.drop k = x :: T.drop (k + 1)) := Lib.hid (drop_cons hx)
          clear hc hx
          have l0 : (0 : Int) ≤ (k : Int) := by omega
          have l1 : (k : Int) < (tn : Int) := by omega
          cases hh : hasB c.ps.length x with
          | false =>
            have HX := Lib.hid hh; clear hh
            go_wp2_with (first
              | (go_at_call 20; refine (has_any _ _ _ _ _ _ _ _ _ _ _ _ _).mono ?_; rintro e w5 ⟨rfl, hb5⟩; rw [HX.out]))
            go_roundw
            case rel =>
              refine ⟨k + 1, nc, na, N, s2, by omega, rfl, by go_num, Lib.hid (HS2.out.later hb5), Lib.hid (owns_later HN2.out hb5), Lib.hid ?_, hcnt, hbx.trans (But.of_below hb5)⟩
              have := HB2.out
              rw [HDR.out] at this
              exact this.none HX.out
            case measure => simp [intOf]; omega
          | true =>
            have hr := hasB_true hh
            obtain ⟨j, rfl⟩ : ∃ j : Nat, x = (j : Int) := ⟨x.toNat, by omega⟩
            have hjn : j < c.ps.length := by omega
            have j0 : (0 : Int) ≤ (j : Int) := by omega
            have j1 : (j : Int) < (c.ps.length : Int) := by omega
            have HX := Lib.hid hh; clear hh
            obtain ⟨bj, hbj⟩ : ∃ bj, s2[j]? = some bj := ⟨_, List.getElem?_eq_getElem (by rw [hsl]; exact hjn)⟩
            cases bj with
            | true =>
              have HJ2 := Lib.hid hbj
              have KB : Hid (∀ W : World, Below wr.heap.size wr W → W.cell? ⟨G, j, none⟩ = some (.bool true)) := Lib.hid (fun W hW => ((HS2.out.later hW).cell HJ2.out).1)
              clear hbj
              go_wp2_with (first
                | (go_at_call 20; refine (has_any _ _ _ _ _ _ _ _ _ _ _ _ _).mono ?_; rintro e w5 ⟨rfl, hb5⟩; rw [HX.out]; have q0 := KB.out _ hb5))
              go_roundw
              case rel =>
                refine ⟨k + 1, nc, na, N, s2, by omega, rfl, by go_num, Lib.hid (HS2.out.later hb5), Lib.hid (owns_later HN2.out hb5), Lib.hid ?_, hcnt, hbx.trans (But.of_below hb5)⟩
                have := HB2.out
                rw [HDR.out] at this
                exact this.there HJ2.out
              case measure => simp [intOf]; omega
            | false =>
              have HJ2 := Lib.hid hbj
              have hHD : Heads wr V.heap.size GA c.ps.length vs (froms ss) := HH.out.but hbx HS.out
              obtain ⟨v, hvj⟩ : ∃ v, vs[j]? = some v := ⟨_, List.getElem?_eq_getElem (by rw [hHD.len]; exact hjn)⟩
              obtain ⟨⟨va, vc, rfl⟩, _⟩ := owns_slice (hHD.own j v hvj)
              have HHD := Lib.hid hHD; have HVJ := Lib.hid hvj
              have hfs : (froms ss j).length ≤ 1000 := Nat.le_trans (froms_short HND.out HSS.out j) hpn
              have hgal := lt_of_block hHD.blk
              have hgG : GA ≠ G := by omega
              have hGg : G ≠ GA := by omega
              have KB : Hid (∀ W : World, Below wr.heap.size wr W → W.cell? ⟨G, j, none⟩ = some (.bool false) ∧ W.frozen? ⟨G, j, none⟩ = false ∧ W.cell? ⟨GA, j, none⟩ = some (.slice va (froms ss j).length vc)) := Lib.hid (fun W hW =>
                ⟨((HS2.out.later hW).cell HJ2.out).1, ((HS2.out.later hW).cell HJ2.out).2, cell_in (HHD.out.later hW).blk (by simpa using HVJ.out)⟩)
              have KW : Hid (∀ W : World, Below wr.heap.size wr W → (W.setCell ⟨G, j, none⟩ (.bool true)).ownsRow wo.heap.size 3 1 (.slice na N.length nc) N.length (N.flatMap intCells) ∧ Lies (W.setCell ⟨G, j, none⟩ (.bool true)) V.heap.size (W.setCell ⟨G, j, none⟩ (.bool true)).heap.size (.slice va (froms ss j).length vc) (froms ss j).length 1 ((froms ss j).flatMap intCells) ∧ wo.heap.size ≤ (W.setCell ⟨G, j, none⟩ (.bool true)).heap.size ∧ But G wr (W.setCell ⟨G, j, none⟩ (.bool true))) := Lib.hid (fun W hW => by
                have hB := HS2.out.later hW
                unfold BoolAt at hB
                have hbt : But G wr (W.setCell ⟨G, j, none⟩ (.bool true)) := (But.of_below hW).set j _
                exact ⟨setCell_owns (owns_later HN2.out hW) hB (by decide) _, Lies.of_owns (setCell_owns ((HHD.out.later hW).own j _ HVJ.out) hB (by decide) _), by have := hbx.size; have := hbt.size; omega, hbt⟩)
              have hNl : N.length ≤ 1000000 := by omega
              clear hbj hHD hvj
              go_wp2_with (first
                | (refine wpList_append_lie2 (by rfl) (.tmp 40) (.tmp 44) 42 (by rfl) wo.heap.size 3 i0 _ 1 8 Try.underlying42 HI.out hz0 hz1 hz2 rfl (by omega) (.slice na N.length nc) N.length (N.flatMap intCells) (by rfl) hw5.1 (.slice va (froms ss j).length vc) V.heap.size _ (froms ss j).length ((froms ss j).flatMap intCells) (by rfl) hw5.2.1 (flat_one intCells in_one _) (N.length + (froms ss j).length) rfl (by simp only [maxLen]; omega) (by omega) hw5.2.2.1 ?_; intro ao cap' w6 hown6 hgrow6 hob6)
                | (go_at_call 20; refine (has_any _ _ _ _ _ _ _ _ _ _ _ _ _).mono ?_; rintro e w5 ⟨rfl, hb5⟩; rw [HX.out]; obtain ⟨q0, q1, q2⟩ := KB.out _ hb5; have hw5 := KW.out _ hb5)
                | go_in)
              go_roundw
              case rel =>
                have hS6 : BoolAt w6 G (s2.set j true) := by
                  have h1 := (HS2.out.later hb5).set j true
                  unfold BoolAt at h1 ⊢
                  exact grown_keep hgrow6 hw5.1 h1 (by decide)
                have hbp : But G wo (w5.setCell ⟨G, j, none⟩ (.bool true)) := hbx.trans hw5.2.2.2
                have hb6 : But G wo w6 := ⟨hgrow6.os.trans hbp.os, hgrow6.tape.trans hbp.tape, hgrow6.output.trans hbp.output, Nat.le_trans hbp.size hgrow6.size, fun b hb hne => (hgrow6.block b (by have := hbp.size; omega) (fun e => by
                  have := (owns_own hw5.1 b e.symm).1
                  omega)).trans (hbp.block b hb hne)⟩
                refine ⟨k + 1, cap', ao, N ++ froms ss j, s2.set j true, by omega, by simp, by go_num, Lib.hid hS6, Lib.hid (by simpa using hown6), Lib.hid ?_, ?_, hb6⟩
                · have h1 := HB2.out
                  rw [HDR.out] at h1
                  have h2 := (Bfs.perm h1 (U := (j : Int) :: (T.drop (k + 1) ++ N)) (fun x => by simp)).found hjn (F := froms ss j) (fun a => by rw [froms_mem]; exact HSS.out _)
                  exact h2.perm (fun x => by simp)
                · rw [List.length_append, cntT_set HJ2.out]; omega
              case measure => simp [intOf]; omega
        · have tk2 : decide ((k : Int) < (tn : Int)) = false := by simp; omega
          have hdr : T.drop k = [] := List.drop_eq_nil_of_le (by rw [← HTN.out]; omega)
          have HB3 : Hid (Bfs c l s2 N) := Lib.hid (by have := HB2.out; rw [hdr] at this; exact this)
          have hlo := (Lies.of_owns HN2.out)
          have HLO := Lib.hid hlo
          have hcn2 : Hid (cntW wr G = cntT s2) := Lib.hid HS2.out.cnt
          have HHW := Lib.hid (HH.out.but hbx HS.out)
          have hgs := lt_of_block HS.out
          clear hdr hlo
          go_wp2
          go_roundw
          case rel => exact ⟨na, nc, wo.heap.size, wr.heap.size, N, s2, rfl, by omega, Nat.le_refl _, .inl hgs, HLO, HS2, HB3, HHW, hbV⟩
          case measure =>
            rw [hcn2.out, HCN.out]
            have h1 := cntT_le s
            have h2 := HB.out.len
            have h3 : ¬ tn = 0 := by omega
            rcases Nat.eq_zero_or_pos N.length with h0 | h0
            · simp [lenS, h0, h3]; omega
            · have h4 : ¬ N = [] := fun e => by subst e; simp at h0
              simp [lenS, h4, h3]; omega
    · have tk : decide ((0 : Int) < (tn : Int)) = false := by rw [decide_eq_false_iff_not]; omega
      have hT0 : T = [] := List.eq_nil_of_length_eq_zero (by rw [← HTN.out]; omega)
      subst hT0
      go_wp2
      go_ret
      exact ⟨G, s, rfl, by omega, HS.out, HB.out.done, HB1.out.trans (hbv.mono (by omega))⟩
end Go.Proofs.Ytkikapodobeaaaa
namespace Go.Proofs.Ytkikapodobeaaaa
open Go.ChangeShapes Go.WideShapes Go.ChangeAt Go.RowKit Go.Maps Go.Sort
set_option linter.unusedVariables false
attribute [local go_sem ↓] Go.wp_at_zero Go.wp_at_succ

/-- The first ones of a cut, by numbers. -/
def intsTo (s : List Bool) : Nat → List Int
  | 0 => []
  | k + 1 => intsTo s k ++ (if s.getD k false then [(k : Int)] else [])
theorem intsTo_len (s : List Bool) : ∀ k, (intsTo s k).length ≤ k
  | 0 => by simp [intsTo]
  | k + 1 => by
    have := intsTo_len s k
    rw [intsTo, List.length_append]
    split <;> simp <;> omega
theorem intsTo_in (s : List Bool) : ∀ k, ∀ x ∈ intsTo s k, 0 ≤ x ∧ x < (k : Int)
  | 0 => by simp [intsTo]
  | k + 1 => by
    intro x hx
    rw [intsTo] at hx
    rcases List.mem_append.1 hx with hx | hx
    · have := intsTo_in s k x hx; omega
    · split at hx
      · simp at hx; omega
      · simp at hx
def intsOf (s : List Bool) : List Int := intsTo s s.length
set_option maxRecDepth 100000 in
set_option maxHeartbeats 4000000 in
theorem into_sys {w : World} {hi : Nat} {c : Cf} {pvs : List Pv} {wa pa ca : Option Addr} {wc pc cc : Nat} (f : Few c) (h : SysL w hi c pvs wa pa ca wc pc cc) (hh : hi ≤ w.heap.size)
    (la : Option Addr) (ln lc llo lhi : Nat) (l : List Int) (hln : l.length = ln) (hl : Lies w llo lhi (.slice la ln lc) ln 1 (l.flatMap intCells)) (hlh : lhi ≤ w.heap.size) (hl2 : ln ≤ 1000) :
    Calls Try.prog 15 #[.agg #[.int .i64 c.frame, .int .i64 c.margin, .slice wa c.ws.length wc, .slice pa c.ps.length pc, .slice ca c.cs.length cc], .slice la ln lc] w fun e w' => ∃ (a : Option Addr) (cap : Nat) (s : List Bool), e = .returned (.slice a (intsOf s).length cap) ∧ w'.ownsRow w.heap.size 3 1 (.slice a (intsOf s).length cap) (intsOf s).length ((intsOf s).flatMap intCells) ∧ CutOf c l s ∧ Below w.heap.size w w' := by
  obtain ⟨i0, hi0, hz0, hz1, hz2⟩ := info_parts Try.infoInt
  have HI := Lib.hid hi0
  clear hi0
  obtain ⟨V, hV⟩ : ∃ V, V = w.alloc (.cells #[.int .i64 c.frame, .int .i64 c.margin, .slice wa c.ws.length wc, .slice pa c.ps.length pc, .slice ca c.cs.length cc] 35) := ⟨_, rfl⟩
  have B1 : Below w.heap.size w V := by rw [hV]; exact below1 _ _
  have hblk : CBox V w.heap.size c.frame c.margin wa pa ca c.ws.length wc c.ps.length pc c.cs.length cc := by rw [hV]; exact heap_alloc_new _ _
  have hvs : w.heap.size + 1 ≤ V.heap.size := by rw [hV]; simp
  have z0 : V.cell? ⟨w.heap.size, 0, none⟩ = some (.int .i64 c.frame) := cell_in hblk rfl
  have z1 : V.cell? ⟨w.heap.size, 1, none⟩ = some (.int .i64 c.margin) := cell_in hblk rfl
  have z2 : V.cell? ⟨w.heap.size, 2, none⟩ = some (.slice wa c.ws.length wc) := cell_in hblk rfl
  have z3 : V.cell? ⟨w.heap.size, 3, none⟩ = some (.slice pa c.ps.length pc) := cell_in hblk rfl
  have z4 : V.cell? ⟨w.heap.size, 4, none⟩ = some (.slice ca c.cs.length cc) := cell_in hblk rfl
  have HC := Lib.hid (cut_sys f (h.keep (SameIn.of_below B1 hh)) (by omega) la ln lc llo lhi l hln (hl.keep (SameIn.of_below B1 hlh)) (by omega) hl2)
  have HV := Lib.hid hV; have HB1 := Lib.hid B1
  have hpn := f.2.1
  clear hV B1 hblk h hl f hln
  go_enter Try.func15, Try.ntmps15
  go_wp2_with fail
  rw [← HV.out]
  go_wp2_with (first
    | (go_at_call 18; refine HC.out.mono ?_; rintro e w1 ⟨G, s, rfl, hG, hS, hcut, hb1⟩))
  have HS := Lib.hid hS; have HCT := Lib.hid hcut
  have hb1s := hb1.size
  have hgs := lt_of_block hS
  have hsl := Lib.hid hcut.1
  clear hS hcut z0 z1 z2 z3 z4
  go_loopw [5, 12] (fun s5 i wr => ∃ (k nc : Nat) (na : Option Addr), k ≤ c.ps.length ∧ s5 = .slice na (intsTo s k).length nc ∧ i = .int .i64 k ∧ Hid (wr.ownsRow w1.heap.size 3 1 (.slice na (intsTo s k).length nc) (intsTo s k).length ((intsTo s k).flatMap intCells)) ∧ Below w1.heap.size w1 wr) (fun _ i _ => c.ps.length - (intOf i).toNat)
  case atStart => exact ⟨0, 0, none, by omega, rfl, rfl, Lib.hid (World.ownsRow_nil _ _ _ _), Below.refl _ _⟩
  case round =>
    obtain ⟨k, nc, na, hk, rfl, rfl, HO, hb⟩ := hrel
    have hbs := hb.size
    by_cases hlt : k < c.ps.length
    · have tk : decide ((k : Int) < (c.ps.length : Int)) = true := by simpa using hlt
      have l0 : (0 : Int) ≤ (k : Int) := by omega
      have l1 : (k : Int) < (c.ps.length : Int) := by omega
      obtain ⟨bk, hbk⟩ : ∃ bk, s[k]? = some bk := ⟨_, List.getElem?_eq_getElem (by rw [hsl.out]; exact hlt)⟩
      obtain ⟨c0, _⟩ := (HS.out.later hb).cell hbk
      have hil := intsTo_len s k
      cases bk with
      | true =>
        have HN : Hid (intsTo s (k + 1) = intsTo s k ++ [(k : Int)]) := Lib.hid (by rw [intsTo, List.getD_eq_getElem?_getD, hbk]; rfl)
        have hap : ∀ W : World, W.heap = (wr.alloc (.cells #[.int .i64 (k : Int)] 3)).heap → W.ownsRow w1.heap.size 3 1 (.slice na (intsTo s k).length nc) (intsTo s k).length ((intsTo s k).flatMap intCells) ∧ Lies W wr.heap.size (wr.heap.size + 1) (.slice (some ⟨wr.heap.size, 0, none⟩) 1 1) 1 1 [.int .i64 (k : Int)] ∧ w1.heap.size ≤ W.heap.size := by
          intro W hW
          have hz : W.heap.size = wr.heap.size + 1 := by rw [hW]; simp
          refine ⟨owns_hold HO.out ⟨by omega, fun g hg => ?_⟩, one_lies (cs := #[.int .i64 (k : Int)]) (t := 3) (by rw [hW]; exact heap_alloc_new _ _) rfl, by omega⟩
          have := (owns_own HO.out g hg).2
          rw [hW, heap_at, if_neg (by omega)]
        have HAP := Lib.hid hap
        clear hbk hap
        go_wp2_with (first
          | (refine wpList_append_lie2 (by rfl) (.tmp 18) (.tmp 20) 42 (by rfl) w1.heap.size 3 i0 _ 1 8 Try.underlying42 HI.out hz0 hz1 hz2 rfl (by omega) (.slice na (intsTo s k).length nc) (intsTo s k).length ((intsTo s k).flatMap intCells) (by rfl) (HAP.out _ (by rfl)).1 (.slice (some ⟨wr.heap.size, 0, none⟩) 1 1) wr.heap.size (wr.heap.size + 1) 1 [.int .i64 (k : Int)] (by rfl) (HAP.out _ (by rfl)).2.1 (in_one _) ((intsTo s k).length + 1) rfl (by simp only [maxLen]; omega) (by omega) (HAP.out _ (by rfl)).2.2 ?_; intro ao cap' w6 hown6 hgrow6 hob6)
          | go_in)
        go_roundw
        case rel =>
          refine ⟨k + 1, cap', ao, by omega, by rw [HN.out]; simp, by go_num, Lib.hid ?_, (hb.alloc hbs _).grown hgrow6 (by simp; omega) (fun q hq => (owns_own HO.out q hq).1)⟩
          rw [HN.out, List.length_append, List.flatMap_append]
          exact hown6
        case measure => simp [intOf]; omega
      | false =>
        have HN : Hid (intsTo s (k + 1) = intsTo s k) := Lib.hid (by rw [intsTo, List.getD_eq_getElem?_getD, hbk]; simp)
        clear hbk
        go_wp2
        go_roundw
        case rel =>
          refine ⟨k + 1, nc, na, by omega, by rw [HN.out], by go_num, Lib.hid ?_, hb⟩
          rw [HN.out]; exact HO.out
        case measure => simp [intOf]; omega
    · have tk : decide ((k : Int) < (c.ps.length : Int)) = false := by simp; omega
      have ek : k = c.ps.length := by omega
      have HE : Hid (intsTo s k = intsOf s) := Lib.hid (by unfold intsOf; rw [hsl.out, ek])
      clear ek
      go_wp2
      go_ret
      have hvw : Below w.heap.size w w1 := HB1.out.trans (hb1.mono (by omega))
      refine ⟨na, nc, s, by rw [← HE.out]; rfl, ?_, HCT.out, hvw.trans (hb.mono (by omega))⟩
      rw [← HE.out]
      exact owns_base HO.out (by omega)
set_option maxRecDepth 100000 in
set_option maxHeartbeats 4000000 in
theorem reaches_sys {w : World} {hi : Nat} {c : Cf} {pvs : List Pv} {wa pa ca : Option Addr} {wc pc cc : Nat} (f : Few c) (h : SysL w hi c pvs wa pa ca wc pc cc) (hh : hi ≤ w.heap.size) (x y : Int) :
    Calls Try.prog 19 #[.agg #[.int .i64 c.frame, .int .i64 c.margin, .slice wa c.ws.length wc, .slice pa c.ps.length pc, .slice ca c.cs.length cc], .int .i64 x, .int .i64 y] w fun e w' => ∃ b : Bool, e = .returned (.bool b) ∧ (b = true ↔ Leads c [y] x) ∧ Below w.heap.size w w' := by
  obtain ⟨V, hV⟩ : ∃ V, V = w.alloc (.cells #[.int .i64 c.frame, .int .i64 c.margin, .slice wa c.ws.length wc, .slice pa c.ps.length pc, .slice ca c.cs.length cc] 35) := ⟨_, rfl⟩
  have B1 : Below w.heap.size w V := by rw [hV]; exact below1 _ _
  have hblk : CBox V w.heap.size c.frame c.margin wa pa ca c.ws.length wc c.ps.length pc c.cs.length cc := by rw [hV]; exact heap_alloc_new _ _
  have hvs : w.heap.size + 1 ≤ V.heap.size := by rw [hV]; simp
  have ks : ∀ W : World, Below V.heap.size V W → (W.cell? ⟨w.heap.size, 0, none⟩ = some (.int .i64 c.frame) ∧ W.cell? ⟨w.heap.size, 1, none⟩ = some (.int .i64 c.margin) ∧ W.cell? ⟨w.heap.size, 2, none⟩ = some (.slice wa c.ws.length wc) ∧ W.cell? ⟨w.heap.size, 3, none⟩ = some (.slice pa c.ps.length pc) ∧ W.cell? ⟨w.heap.size, 4, none⟩ = some (.slice ca c.cs.length cc)) := by
    intro W g
    have q := fun (i : Nat) (u : Value) hu => (g.cell (p := ⟨w.heap.size, i, none⟩) (lt_of_block hblk)).trans (cell_in (j := i) (u := u) hblk hu)
    exact ⟨q 0 _ rfl, q 1 _ rfl, q 2 _ rfl, q 3 _ rfl, q 4 _ rfl⟩
  obtain ⟨z0, z1, z2, z3, z4⟩ := ks V (Below.refl _ _)
  have HC : Hid (∀ W : World, Below V.heap.size V W → Calls Try.prog 18 #[.agg #[.int .i64 c.frame, .int .i64 c.margin, .slice wa c.ws.length wc, .slice pa c.ps.length pc, .slice ca c.cs.length cc], .slice (some ⟨W.heap.size, 0, none⟩) 1 1] (W.alloc (.cells #[.int .i64 y] 3)) fun e w' => ∃ (G : Nat) (s : List Bool), e = .returned (.slice (some ⟨G, 0, none⟩) c.ps.length c.ps.length) ∧ BoolAt w' G s ∧ CutOf c [y] s ∧ Below (W.alloc (.cells #[.int .i64 y] 3)).heap.size (W.alloc (.cells #[.int .i64 y] 3)) w') := Lib.hid (fun W hW => by
    have hb2 := (B1.trans (hW.mono (by omega))).alloc (by have := hW.size; omega) (.cells #[.int .i64 y] 3)
    refine (cut_sys f (h.keep (SameIn.of_below hb2 hh)) (by have := hb2.size; omega) (some ⟨W.heap.size, 0, none⟩) 1 1 W.heap.size (W.heap.size + 1) [y] rfl (one_lies (cs := #[.int .i64 y]) (heap_alloc_new _ _) rfl) (by simp) (by omega)).mono ?_
    rintro e w' ⟨G, s, rfl, _, h1, h2, h3⟩
    exact ⟨G, s, rfl, h1, h2, h3⟩)
  have KS := Lib.hid ks; have HV := Lib.hid hV; have HB1 := Lib.hid B1
  clear ks hV B1 hblk h
  cases hh2 : hasB c.ps.length x with
  | false =>
    have HX := Lib.hid hh2; clear hh2
    go_enter Try.func19, Try.ntmps19
    go_wp2_with fail
    rw [← HV.out]
    go_wp2_with (first
      | (go_at_call 20; refine (has_any _ _ _ _ _ _ _ _ _ _ _ _ _).mono ?_; rintro e w5 ⟨rfl, hb5⟩; rw [HX.out]))
    go_ret
    refine ⟨false, rfl, ⟨(fun h => by cases h), fun h => ?_⟩, HB1.out.trans (hb5.mono (by omega))⟩
    have := h.has
    have h2 := hasB_false HX.out
    exact absurd this h2
  | true =>
    have hr := hasB_true hh2
    obtain ⟨j, rfl⟩ : ∃ j : Nat, x = (j : Int) := ⟨x.toNat, by omega⟩
    have hjn : j < c.ps.length := by omega
    have j0 : (0 : Int) ≤ (j : Int) := by omega
    have j1 : (j : Int) < (c.ps.length : Int) := by omega
    have HX := Lib.hid hh2; clear hh2
    go_enter Try.func19, Try.ntmps19
    go_wp2_with fail
    rw [← HV.out]
    go_wp2_with (first
      | (go_at_call 18; refine (HC.out _ hb5).mono ?_; rintro e w6 ⟨G, s, rfl, hS, hcut, hb6⟩; obtain ⟨bj, hbj⟩ : ∃ bj, s[j]? = some bj := ⟨_, List.getElem?_eq_getElem (by rw [hcut.1]; exact hjn)⟩; have q0 := (hS.cell hbj).1; have HCT := Lib.hid hcut; have HBJ := Lib.hid hbj; clear hcut hbj hS)
      | (go_at_call 20; refine (has_any _ _ _ _ _ _ _ _ _ _ _ _ _).mono ?_; rintro e w5 ⟨rfl, hb5⟩; rw [HX.out]; obtain ⟨x0, x1, x2, x3, x4⟩ := KS.out _ hb5))
    go_ret
    refine ⟨bj, rfl, ?_, ?_⟩
    · rw [← HCT.out.2 j, HBJ.out, Option.some.injEq]
    · have h5 := HB1.out.trans (hb5.mono HB1.out.size)
      have h6 := h5.alloc h5.size (.cells #[.int .i64 y] 3)
      exact h6.trans (hb6.mono h6.size)
end Go.Proofs.Ytkikapodobeaaaa
