/- From whom edges lead to each: ahead. -/
import Derived.Test.YtkikapodobeaaaaFlowL
import Derived.Maps.RangeWalk
namespace Go.Proofs.Ytkikapodobeaaaa
open Go.ChangeShapes Go.WideShapes Go.ChangeAt Go.RowKit Go.Maps Go.Sort
set_option linter.unusedVariables false
attribute [local go_sem ↓] Go.wp_at_zero Go.wp_at_succ

/-- A row of rows, each with a block of its own. -/
structure Heads (w : World) (base G n : Nat) (vs : List Value) (f : Nat → List Int) : Prop where
  blk : w.heap[G]? = some (.cells vs.toArray 42 (0, 0))
  len : vs.length = n
  own : ∀ i v, vs[i]? = some v → w.ownsRow base 3 1 v (f i).length ((f i).flatMap intCells)
  dis : ∀ (i j : Nat) (vi vj : Value), i ≠ j → vs[i]? = some vi → vs[j]? = some vj → ∀ g, vi.ownBlock = some g → vj.ownBlock ≠ some g
theorem Heads.later {w w' : World} {base G n : Nat} {vs : List Value} {f : Nat → List Int} (h : Heads w base G n vs f) (hb : Below w.heap.size w w') : Heads w' base G n vs f :=
  ⟨(hb.block G (lt_of_block h.blk)).trans h.blk, h.len, fun i v hv => owns_later (h.own i v hv) hb, h.dis⟩
theorem Heads.keptBy {w w' : World} {row : Option Nat} {base G n : Nat} {vs : List Value} {f : Nat → List Int} (h : Heads w base G n vs f) (hb : w.grownBy w' row) (hr : ∀ r, row = some r → ∀ cs t, w.heap[r]? ≠ some (.cells cs t (0, 0))) : Heads w' base G n vs f := by
  have ne : ∀ k cs t, w.heap[k]? = some (.cells cs t (0, 0)) → some k ≠ row := fun k cs t hk e => hr k e.symm cs t hk
  exact ⟨(hb.block G (lt_of_block h.blk) (ne _ _ _ h.blk)).trans h.blk, h.len, fun i v hv => owns_hold (h.own i v hv) ⟨hb.size, fun g hg => by
    obtain ⟨_, cs, hc⟩ := owns_block (h.own i v hv) g hg
    exact hb.block g (lt_of_block hc) (ne _ _ _ hc)⟩, h.dis⟩
theorem Heads.step {W W1 : World} {base G n : Nat} {vs : List Value} {f : Nat → List Int} (h : Heads W base G n vs f) {b : Nat} {v v' : Value} (hv : vs[b]? = some v) {xs : List Int} (hown : W1.ownsRow base 3 1 v' xs.length (xs.flatMap intCells)) (hg : W.grownBy W1 v.ownBlock) (ho : v'.ownBlock = v.ownBlock ∨ v'.ownBlock = some W.heap.size) :
    Heads (W1.setCell ⟨G, b, none⟩ v') base G n (vs.set b v') (fun i => if i = b then xs else f i) := by
  have hbl := (List.getElem?_eq_some_iff.1 hv).1
  have hG : W1.heap[G]? = some (.cells vs.toArray 42 (0, 0)) := grown_keep hg (h.own b v hv) h.blk (by decide)
  refine ⟨?_, by rw [List.length_set]; exact h.len, fun i u hu => ?_, fun i j vi vj hij hi hj g hgi => ?_⟩
  · have := set_at (u := v') (j := b) hG
    simpa using this
  · rw [List.getElem?_set] at hu
    by_cases hib : b = i
    · subst hib
      rw [if_pos rfl, if_pos hbl] at hu
      cases hu
      rw [if_pos rfl]
      exact setCell_owns hown hG (by decide) _
    · rw [if_neg hib] at hu
      rw [if_neg (fun e => hib e.symm)]
      refine setCell_owns (owns_hold (h.own i u hu) ⟨hg.size, fun g hgu => ?_⟩) hG (by decide) _
      obtain ⟨_, cs, hc⟩ := owns_block (h.own i u hu) g hgu
      exact hg.block g (lt_of_block hc) (fun e => h.dis i b u v (fun e2 => hib e2.symm) hu hv g hgu e.symm)
  · rw [List.getElem?_set] at hi hj
    have old : ∀ (k : Nat) (u : Value), vs[k]? = some u → ∀ q, u.ownBlock = some q → q < W.heap.size := fun k u hu q hq => (owns_own (h.own k u hu) q hq).2
    by_cases hbi : b = i
    · subst hbi
      rw [if_pos rfl, if_pos hbl] at hi
      cases hi
      rw [if_neg hij] at hj
      rcases ho with e | e
      · exact h.dis b j v vj hij hv hj g (by rw [← e]; exact hgi)
      · rw [e] at hgi; cases hgi
        intro e2
        have := old j vj hj _ e2
        omega
    · rw [if_neg hbi] at hi
      by_cases hbj : b = j
      · subst hbj
        rw [if_pos rfl, if_pos hbl] at hj
        cases hj
        rcases ho with e | e
        · rw [e]; exact h.dis i b vi v hij hi hv g hgi
        · rw [e]
          intro e2
          cases e2
          have := old i vi hi _ hgi
          omega
      · rw [if_neg hbj] at hj
        exact h.dis i j vi vj hij hi hj g hgi
/-- From whom edges lead to one. -/
def froms (ss : List (Int × Int)) (b : Nat) : List Int := (ss.filter fun e => decide (e.2 = (b : Int))).map Prod.fst
theorem froms_mem {ss : List (Int × Int)} {b : Nat} {a : Int} : a ∈ froms ss b ↔ (a, (b : Int)) ∈ ss := by
  unfold froms
  rw [List.mem_map]
  constructor
  · rintro ⟨⟨x, y⟩, h, rfl⟩
    obtain ⟨h1, h2⟩ := List.mem_filter.1 h
    simp at h2
    subst h2
    exact h1
  · intro h
    exact ⟨_, List.mem_filter.2 ⟨h, by simp⟩, rfl⟩
theorem froms_snoc {ss : List (Int × Int)} {x : Int} {j : Nat} : froms (ss ++ [(x, (j : Int))]) = fun i => if i = j then froms ss j ++ [x] else froms ss i := by
  funext i
  unfold froms
  rw [List.filter_append, List.map_append]
  by_cases h : i = j
  · subst h; simp
  · rw [if_neg h]
    have : ¬ ((j : Int) = (i : Int)) := by omega
    simp [this]
theorem froms_nodup {ss : List (Int × Int)} (h : ss.Nodup) (b : Nat) : (froms ss b).Nodup := by
  unfold froms
  rw [List.Nodup, List.pairwise_map]
  refine ((h.filter _).imp_of_mem ?_)
  intro x y hx hy hne e
  have h1 := (List.mem_filter.1 hx).2
  have h2 := (List.mem_filter.1 hy).2
  simp at h1 h2
  exact hne (Prod.ext e (h1.trans h2.symm))
/-- An edge from one to the next of a row. -/
def stepE (c : Cf) (a b : Int) : Prop := ∃ r ∈ rowsV c, nextP r (a, b)
theorem stepE.is {c : Cf} {a b : Int} (h : stepE c a b) : isE c a b = true := by
  obtain ⟨r, h1, h2⟩ := h
  exact isE_rows.2 ⟨r, h1, h2.later⟩
theorem ranges_not_cells {H : Type} {P : Program} {k : TypeId} {R : Value → Option (DataW H × List MemPlace)} {w : World} {b r n : Nat} {D : DataW H} {left : Lit → Bool} {cnt : Nat} (h : w.ranges P k R b r n D left cnt) : ∀ q, (some r : Option Nat) = some q → ∀ cs t, w.heap[q]? ≠ some (.cells cs t (0, 0)) := by
  rintro q e cs t hc
  cases e
  obtain ⟨es, clock, since, seen, c0, _, _, _, _, hr, _⟩ := h
  rw [hr] at hc
  cases hc
theorem owns_not_map {H : Type} {P : Program} {k : TypeId} {R : Value → Option (DataW H × List MemPlace)} {w : World} {b n : Nat} {D : DataW H} (h : w.ownsMap P k R b n D) {base e sz m : Nat} {v : Value} {xs : List Value} (ho : w.ownsRow base e sz v m xs) : some b ≠ v.ownBlock := by
  intro e
  obtain ⟨_, cs, hc⟩ := owns_block ho b e.symm
  obtain ⟨es, clock, hb, _⟩ := h
  rw [hb] at hc
  cases hc
theorem owns_not_iter {H : Type} {P : Program} {k : TypeId} {R : Value → Option (DataW H × List MemPlace)} {w : World} {b r n : Nat} {D : DataW H} {left : Lit → Bool} {cnt : Nat} (h : w.ranges P k R b r n D left cnt) {base e sz m : Nat} {v : Value} {xs : List Value} (ho : w.ownsRow base e sz v m xs) : some r ≠ v.ownBlock := by
  intro e
  obtain ⟨_, cs, hc⟩ := owns_block ho r e.symm
  exact ranges_not_cells h r rfl cs _ hc
theorem Heads.made {W w' : World} {base n : Nat} (hb : base ≤ W.heap.size) (hown : w'.ownsRow W.heap.size 42 1 (.slice (some ⟨W.heap.size, 0, none⟩) n n) n (madeCells (Value.slice none 0 0).cells (n * 1)).toList) : Heads w' base W.heap.size n (List.replicate n (.slice none 0 0)) (froms []) := by
  have hm : (madeCells (Value.slice none 0 0).cells (n * 1)).toList = List.replicate n (.slice none 0 0) := by
    apply List.ext_getElem?
    intro k
    simp only [madeCells, Value.cells]
    by_cases hk : k < n <;> simp [hk, Nat.mod_one]
  rw [hm] at hown
  rcases hown.2 with ⟨h, _⟩ | ⟨g, cap, cur, hv, h1, h2, h3, h4, h5, h6⟩
  · cases h
  · cases hv
    have e : cur = (List.replicate n (Value.slice none 0 0)).toArray := by
      rw [← h6, List.take_of_length_le (by simp [h5])]
    refine ⟨by rw [← e]; exact h2, by simp, fun i v hv => ?_, fun i j vi vj _ hi _ g hg => ?_⟩
    · have := (List.getElem?_eq_some_iff.1 hv).2
      simp at this
      subst this
      exact World.ownsRow_nil _ _ _ _
    · have := (List.getElem?_eq_some_iff.1 hi).2
      simp at this
      subst this
      cases hg
set_option maxRecDepth 100000 in
set_option maxHeartbeats 4000000 in
theorem ahead_sys {w : World} {hi : Nat} {c : Cf} {pvs : List Pv} {wa pa ca : Option Addr} {wc pc cc : Nat} (f : Few c) (h : SysL w hi c pvs wa pa ca wc pc cc) (hh : hi ≤ w.heap.size) :
    Calls Try.prog 28 #[.agg #[.int .i64 c.frame, .int .i64 c.margin, .slice wa c.ws.length wc, .slice pa c.ps.length pc, .slice ca c.cs.length cc]] w fun e w' => ∃ (G : Nat) (vs : List Value) (ss : List (Int × Int)), e = .returned (.slice (some ⟨G, 0, none⟩) c.ps.length c.ps.length) ∧ w.heap.size ≤ G ∧ Heads w' w.heap.size G c.ps.length vs (froms ss) ∧ ss.Nodup ∧ (∀ e, e ∈ ss ↔ stepE c e.1 e.2) ∧ Below w.heap.size w w' := by
  obtain ⟨V, hV⟩ : ∃ V, V = (w.alloc (.cells #[.int .i64 c.frame, .int .i64 c.margin, .slice wa c.ws.length wc, .slice pa c.ps.length pc, .slice ca c.cs.length cc] 35)).alloc (.map #[] 0) := ⟨_, rfl⟩
  have B1 : Below w.heap.size w V := by rw [hV]; exact (below1 _ _).alloc (by simp) _
  have hvs : w.heap.size + 2 = V.heap.size := by rw [hV]; simp
  have hblk : CBox V w.heap.size c.frame c.margin wa pa ca c.ws.length wc c.ps.length pc c.cs.length cc := by
    rw [hV]
    unfold CBox
    rw [heap_at, if_neg (by simp)]
    exact heap_alloc_new _ _
  have hset : SetP V (w.heap.size + 1) 0 (fun _ => False) := by
    rw [hV]
    have := SetP.made (w.alloc (.cells #[.int .i64 c.frame, .int .i64 c.margin, .slice wa c.ws.length wc, .slice pa c.ps.length pc, .slice ca c.cs.length cc] 35))
    simpa using this
  have hc := rows_sys f (h.keep (SameIn.of_below B1 hh)) (by omega)
  obtain ⟨rs, hrs⟩ : ∃ rs, rs = rowsV c := ⟨_, rfl⟩
  have HR1 : Hid (∀ a b : Int, stepE c a b ↔ ∃ r ∈ rs, nextP r (a, b)) := Lib.hid (fun a b => by rw [hrs]; rfl)
  have HR2 : Hid (∀ r ∈ rs, r.length ≤ 1001 ∧ ∀ x ∈ r, I64 x) := Lib.hid (fun r hr => by rw [hrs] at hr; exact ⟨rowsV_short f hr, fun x hx => has_i64 f.2.1 (rowsV_has hr x hx)⟩)
  have hrl : rs.length ≤ 2000 := by rw [hrs, rowsV_len]; have := f.1; have := f.2.1; have := f.2.2.1; omega
  rw [← hrs] at hc
  obtain ⟨m, hm⟩ : ∃ m, m = rs.length := ⟨_, rfl⟩
  rw [← hm] at hc hrl
  have c0 : V.cell? ⟨w.heap.size, 0, none⟩ = some (.int .i64 c.frame) := cell_in hblk rfl
  have c1 : V.cell? ⟨w.heap.size, 1, none⟩ = some (.int .i64 c.margin) := cell_in hblk rfl
  have c2 : V.cell? ⟨w.heap.size, 2, none⟩ = some (.slice wa c.ws.length wc) := cell_in hblk rfl
  have c3 : V.cell? ⟨w.heap.size, 3, none⟩ = some (.slice pa c.ps.length pc) := cell_in hblk rfl
  have c4 : V.cell? ⟨w.heap.size, 4, none⟩ = some (.slice ca c.cs.length cc) := cell_in hblk rfl
  have HV := Lib.hid hV; have HB1 := Lib.hid B1; have HS := Lib.hid hset; have HC := Lib.hid hc; have HM := Lib.hid hm; have HF := Lib.hid f; have HVS := Lib.hid hvs
  have HBK := Lib.hid hblk
  have hpn := f.2.1
  clear hV B1 hblk hset hc hrs hm h f hvs
  have hmm := @run_makeMap Try.prog
  obtain ⟨i0, hi0, hz0, hz1, hz2⟩ := info_parts Try.infoInt
  obtain ⟨i1, hi1, hy0, hy1, hy2⟩ := info_parts Try.infoRow
  have HI := Lib.hid hi0; have HJ := Lib.hid hi1
  clear hi0 hi1
  go_enter Try.func28, Try.ntmps28
  go_wp2_with fail
  rw [← HV.out]
  go_wp2_with (first | (go_at_call 23; refine HC.out.mono ?_; rintro e w1 ⟨ra, rcap, vs, rfl, hra⟩))
  have HRA := Lib.hid hra
  have hb1 := hra.below
  have hb1s := hb1.size
  have HS1 := Lib.hid (HS.out.later hb1)
  clear hra c0 c1 c2 c3 c4
  go_loopw [12] (fun i wr => ∃ k : Nat, k ≤ m ∧ i = .int .i64 k ∧ Hid (SetP wr (w.heap.size + 1) (k * 2000) (fun e => ∃ r ∈ rs.take k, nextP r e)) ∧ But (w.heap.size + 1) w1 wr) (fun i _ => m - (intOf i).toNat)
  case atStart => exact ⟨0, by omega, rfl, Lib.hid (HS1.out.congr (fun e => by simp)), But.refl _ _⟩
  case round =>
    obtain ⟨k, hk, rfl, HS2, hb⟩ := hrel
    by_cases hlt : k < m
    · have tk : decide ((k : Int) < (m : Int)) = true := by simpa using hlt
      obtain ⟨x, hx⟩ : ∃ x, rs[k]? = some x := ⟨_, List.getElem?_eq_getElem (by rw [← HM.out]; exact hlt)⟩
      obtain ⟨v, hv⟩ : ∃ v, vs[k]? = some v := ⟨_, List.getElem?_eq_getElem (by rw [HRA.out.rows.1, ← HM.out]; exact hlt)⟩
      have hown := HRA.out.own
      rw [← HM.out] at hown
      obtain ⟨a2, c2, ee, _, _, hc⟩ := Lies.of_owns hown
      cases ee
      rcases hc with h0 | ⟨g, off, rfl, hq1, hq2, hc⟩
      · omega
      obtain ⟨lo, hi2, r1, r2, r3⟩ := HRA.out.rows.2 k v x hv hx
      have hvsz := HVS.out
      obtain ⟨xa, xc, rfl, _, _, _⟩ := id r3
      have hc0 : wr.cell? ⟨g, off + k, none⟩ = some (.slice xa x.length xc) := (World.cell?_of_block (w := w1) (a := ⟨g, off + k, none⟩) (hb.block g hq2 (by omega))).trans (hc k _ hv)
      have hx2 := HR2.out x (List.mem_of_getElem? hx)
      have HAA := Lib.hid (addNext_any (w.heap.size + 1) (k * 2000) xa x.length xc wr lo hi2 x _ rfl (r3.map_but HS1.out hb) (by omega) hx2.2 HS2.out (by omega))
      have l0 : (0 : Int) ≤ (k : Int) := by omega
      have l1 : (k : Int) < (m : Int) := by omega
      have HX := Lib.hid hx
      clear hx hv hc r3 hx2 hown hvsz
      go_wp2_with (first | (go_at_call 41; refine HAA.out.mono ?_; rintro e w4 ⟨rfl, hs4, hb4⟩))
      go_roundw
      case rel =>
        refine ⟨k + 1, by omega, by go_num, Lib.hid ((hs4.mono (by omega)).congr (fun e => ?_)), hb.trans hb4⟩
        rw [take_snoc HX.out]
        constructor
        · rintro (⟨r, h1, h2⟩ | h)
          · exact ⟨r, List.mem_append_left _ h1, h2⟩
          · exact ⟨x, by simp, h⟩
        · rintro ⟨r, h1, h2⟩
          rcases List.mem_append.1 h1 with h1 | h1
          · exact .inl ⟨r, h1, h2⟩
          · simp at h1; subst h1; exact .inr h2
      case measure => simp [intOf]; omega
    · have tk : decide ((k : Int) < (m : Int)) = false := by simp; omega
      have ek : k = m := by omega
      have hvsz := HVS.out
      obtain ⟨wo, hwo⟩ : ∃ wo, wo = wr := ⟨_, rfl⟩
      subst hwo
      have hwr : Below w.heap.size w wo := (HB1.out.trans (hb1.mono (by omega))).trans (hb.below (by omega) (by omega))
      obtain ⟨S, hSE, hSP⟩ := HS2.out.congr (Q := fun e => stepE c e.1 e.2) (fun e => by rw [HR1.out e.1 e.2, List.take_of_length_le (by rw [← HM.out]; omega)])
      have HBW := Lib.hid hwr
      have hwrs : w.heap.size + 2 ≤ wo.heap.size := by have := hb.size; omega
      have c3 : wo.cell? ⟨w.heap.size, 3, none⟩ = some (.slice pa c.ps.length pc) := cell_in (hb.at (HBK.out.later hb1) (by omega)) rfl
      obtain ⟨nn, hnn⟩ : ∃ nn, nn = k * 2000 := ⟨_, rfl⟩
      rw [← hnn] at hSE
      have hnb : nn ≤ 4000000 := by omega
      obtain ⟨D0, hD, hDS⟩ := hSE
      have HSP := Lib.hid hSP; have HD := Lib.hid hD; have HDS := Lib.hid hDS; have HNN := Lib.hid hnn
      clear hSP hD hDS hnn hwr hvsz
      go_wp2_with (first
        | (refine wpList_make_full _ (by rfl) (.tmp 22) (.tmp 22) 72 (by rfl) wo.heap.size 42 i1 _ 1 Try.underlying72 HJ.out hy0 hy1 _ _ c.ps.length c.ps.length c.ps.length (by rfl) (by rfl) rfl rfl (by rw [hy2]; omega) (by simp [maxLen]; omega) (Nat.le_refl _) ?_; intro w2 hown2 hgrow2; have hown3 := HD.out.kept hgrow2 (by simp))
        | (at_range; refine wpList_range_own _ rfl _ 71 rfl 41 91 Try.lawE Try.underlying71 _ (w.heap.size + 1) nn _ rfl hown3 ?_; intro w3 hrg3 hg3 hs3)
        | go_in)
      have hwr := HBW.out
      have hbw2 : Below wo.heap.size wo w2 := ⟨hgrow2.os, hgrow2.tape, hgrow2.output, hgrow2.size, fun b hb => hgrow2.block b hb (by simp)⟩
      have hbw3 : Below wo.heap.size wo w3 := hbw2.trans (Below.mono ⟨hg3.os, hg3.tape, hg3.output, hg3.size, fun b hb => hg3.block b hb (by simp)⟩ hbw2.size)
      have hst : Heads w3 w.heap.size wo.heap.size c.ps.length (List.replicate c.ps.length (.slice none 0 0)) (froms []) := ((Heads.made (W := wo) (w' := w2) hwr.size hown2).keptBy hg3 (by simp))
      have HST := Lib.hid hst; have HB3 := Lib.hid (hwr.trans (hbw3.mono hwr.size)); have HRG := Lib.hid hrg3
      have hR : w2.heap.size < w3.heap.size := by omega
      have hG2 := lt_of_block (Heads.made (W := wo) (w' := w2) hwr.size hown2).blk
      obtain ⟨R, hRR⟩ : ∃ R, R = w2.heap.size := ⟨_, rfl⟩
      rw [← hRR] at HRG hR hG2
      clear hst hrg3 hown3 hown2 hgrow2 hbw2 hbw3 hwr hg3
      rw [← hRR]
      clear hRR hs3
      go_loopw [26] (fun _ wx => ∃ (left : Lit → Bool) (cnt : Nat) (ss : List (Int × Int)) (vs : List Value), wx.ranges Try.prog 41 unitElem (w.heap.size + 1) R nn D0 left cnt ∧ ss.length + cnt ≤ Maps.size D0 ∧ CollE S left ss ∧ Hid (Heads wx w.heap.size wo.heap.size c.ps.length vs (froms ss)) ∧ Below w.heap.size w wx)
        (fun _ wx => wx.rangeLeft (w.heap.size + 1) R)
      case atStart => exact ⟨_, _, [], _, HRG.out, by simp, ⟨List.nodup_nil, by simp, fun e he => by rw [HDS.out e he]; simp⟩, HST, HB3.out⟩
      case round =>
        clear HRG HST HB3
        obtain ⟨left, cnt, ss, vs, hrg, hcs, hC, HH, hbx⟩ := hrel
        go_wp2_with (first
          | (at_next; refine wpList_next_ranges _ rfl _ rfl 41 Try.lawE unitElem (fun e : Int × Int => Value.agg #[.int .i64 e.1, .int .i64 e.2]) id (fun key kl hk => by obtain ⟨x, hx, _⟩ := key_inv hk; exact ⟨x, hx⟩) (fun v _ _ => ⟨v, rfl⟩) (w.heap.size + 1) R nn _ _ _ rfl hrg ?_ ?_)
          | go_in)
        · intro hc0 hl0
          go_wp2
          go_ret
          have hE := hC.end hl0
          refine ⟨wo.heap.size, vs, ss, rfl, by omega, HH.out, hE.1, fun e => ?_, hbx⟩
          constructor
          · intro he
            have h1 := hE.2.1 e he
            exact (HSP.out e h1).1 ((hE.2.2 e h1).1 he)
          · intro he
            have h1 := eIn_of HF.out he.is
            exact (hE.2.2 e h1).2 ((HSP.out e h1).2 he)
        · intro x y c2 kl yd yp w4 cnt2 hkey hlk hv hat hrg2 hlt hg4 hs4 hen
          obtain ⟨x', ex, rfl, hx⟩ := key_inv hkey
          obtain ⟨x2, y2⟩ := x'
          simp only [eV, Value.agg.injEq] at ex
          simp at ex
          obtain ⟨rfl, rfl⟩ := ex
          have hSt : S (x, y) = true := by
            have := hC.2.2 (x, y) hx
            rw [hlk] at this
            simp at this
            exact this.1
          have hst := (HSP.out (x, y) hx).1 hSt
          have hhas := (isE_has hst.is).2
          obtain ⟨j, rfl⟩ : ∃ j : Nat, y = (j : Int) := ⟨y.toNat, by omega⟩
          have hjn : j < c.ps.length := by omega
          have hH4 := HH.out.keptBy hg4 (ranges_not_cells hrg)
          obtain ⟨v, hvj⟩ : ∃ v, vs[j]? = some v := ⟨_, List.getElem?_eq_getElem (by rw [hH4.len]; exact hjn)⟩
          have hown4 := hH4.own j v hvj
          obtain ⟨⟨va, vc, rfl⟩, _⟩ := owns_slice hown4
          have hC2 := hC.step hx hlk
          have hfl : (froms ss j).length ≤ 4000000 := by
            have h1 : (froms ss j).length ≤ ss.length := by unfold froms; rw [List.length_map]; exact List.length_filter_le _ _
            have h2 := hrg.owns.size_le
            omega
          have g0 : w4.cell? ⟨wo.heap.size, j, none⟩ = some (.slice va (froms ss j).length vc) := cell_in hH4.blk (by simpa using hvj)
          have f0 : w4.frozen? ⟨wo.heap.size, j, none⟩ = false := free_in hH4.blk j
          have hG4 := lt_of_block hH4.blk
          have hne4 : wo.heap.size ≠ w4.heap.size := by omega
          have hne5 : w4.heap.size ≠ wo.heap.size := by omega
          have l0 : (0 : Int) ≤ (j : Int) := by omega
          have l1 : (j : Int) < (c.ps.length : Int) := by omega
          have HH4 := Lib.hid hH4; have HVJ := Lib.hid hvj; have HO4 := Lib.hid hown4; have HC2 := Lib.hid hC2; have HRG2 := Lib.hid hrg2
          have HB4 : Hid (Below w.heap.size w w4) := Lib.hid (hbx.grown hg4 (by have := hbx.size; omega) (fun q hq => by cases hq; omega))
          have HG4 := Lib.hid hg4; have HLE := Lib.hid hrg.left_eq
          have hap : ∀ W : World, W.heap = ((w4.alloc (.cells #[.int .i64 x, .int .i64 (j : Int)] 41)).alloc (.cells #[.int .i64 x] 3)).heap → W.ownsRow w.heap.size 3 1 (.slice va (froms ss j).length vc) (froms ss j).length ((froms ss j).flatMap intCells) ∧ Lies W (w4.heap.size + 1) (w4.heap.size + 2) (.slice (some ⟨w4.heap.size + 1, 0, none⟩) 1 1) 1 1 [.int .i64 x] ∧ w.heap.size ≤ W.heap.size ∧ W.heap[w4.heap.size]? = some (.cells #[.int .i64 x, .int .i64 (j : Int)] 41 (0, 0)) ∧ W.heap[wo.heap.size]? = some (.cells vs.toArray 42 (0, 0)) := by
            intro W hW
            have hz : W.heap.size = w4.heap.size + 2 := by rw [hW]; simp
            have ho : ∀ k, k < w4.heap.size → W.heap[k]? = w4.heap[k]? := by
              intro k hk
              rw [hW, heap_at, if_neg (by simp; omega), heap_at, if_neg (by omega)]
            refine ⟨owns_hold HO4.out ⟨by omega, fun g hg => ho g (owns_own HO4.out g hg).2⟩, one_lies (cs := #[.int .i64 x]) (t := 3) ?_ rfl, ?_, ?_, (ho _ hG4).trans HH4.out.blk⟩
            · rw [hW, heap_at, if_pos (by simp)]
            · have := HB4.out.size; omega
            · rw [hW, heap_at, if_neg (by simp), heap_at, if_pos rfl]
          have hfin : ∀ (W W1 : World) (ao : Option Addr) (cap' : Nat), W.heap = ((w4.alloc (.cells #[.int .i64 x, .int .i64 (j : Int)] 41)).alloc (.cells #[.int .i64 x] 3)).heap → Below w4.heap.size w4 W → W1.ownsRow w.heap.size 3 1 (.slice ao ((froms ss j).length + 1) cap') ((froms ss j).length + 1) ((froms ss j).flatMap intCells ++ [.int .i64 x]) → W.grownBy W1 (Value.slice va (froms ss j).length vc).ownBlock → ((Value.slice ao ((froms ss j).length + 1) cap').ownBlock = (Value.slice va (froms ss j).length vc).ownBlock ∨ (Value.slice ao ((froms ss j).length + 1) cap').ownBlock = some W.heap.size) →
              (W1.setCell ⟨wo.heap.size, j, none⟩ (.slice ao ((froms ss j).length + 1) cap')).ranges Try.prog 41 unitElem (w.heap.size + 1) R nn D0 (fun z => left z && !z.sameKey (kE (x, (j : Int)))) cnt2 ∧ Heads (W1.setCell ⟨wo.heap.size, j, none⟩ (.slice ao ((froms ss j).length + 1) cap')) w.heap.size wo.heap.size c.ps.length (vs.set j (.slice ao ((froms ss j).length + 1) cap')) (froms (ss ++ [(x, (j : Int))])) ∧ Below w.heap.size w (W1.setCell ⟨wo.heap.size, j, none⟩ (.slice ao ((froms ss j).length + 1) cap')) := by
            intro W W1 ao cap' hW hBW hown hg hob
            have hHW := HH4.out.later hBW
            have hRW : W.ranges Try.prog 41 unitElem (w.heap.size + 1) R nn D0 _ cnt2 := HRG2.out.kept (row := none) ⟨hBW.os, hBW.tape, hBW.output, hBW.size, fun k hk _ => hBW.block k hk⟩ (by simp) (by simp)
            have ho := owns_later HO4.out hBW
            have hR1 := hRW.kept hg (owns_not_map hRW.owns ho) (owns_not_iter hRW ho)
            have hb1 : But wo.heap.size W1 (W1.setCell ⟨wo.heap.size, j, none⟩ (.slice ao ((froms ss j).length + 1) cap')) := (But.refl _ _).set j _
            have hne1 : wo.heap.size ≠ w.heap.size + 1 := by omega
            have hne2 : wo.heap.size ≠ R := by omega
            have hHS := hHW.step HVJ.out (v' := .slice ao ((froms ss j).length + 1) cap') (xs := froms ss j ++ [x]) (by simpa [List.flatMap_append, intCells] using hown) hg hob
            refine ⟨hR1.kept (row := some wo.heap.size) ⟨hb1.os, hb1.tape, hb1.output, hb1.size, fun k hk hne => hb1.block k hk (fun e => hne (by rw [e]))⟩ (by intro e; have := Option.some.inj e; omega) (by intro e; have := Option.some.inj e; omega), ?_, ?_⟩
            · rw [froms_snoc]; exact hHS
            · have h5 : Below w.heap.size w W := HB4.out.trans (hBW.mono HB4.out.size)
              have h6 := h5.grown hg h5.size (fun q hq => (owns_own ho q hq).1)
              exact h6.setCell (p := ⟨wo.heap.size, j, none⟩) (by show _ ≤ wo.heap.size; omega) _
          have HFIN := Lib.hid hfin
          have HAP := Lib.hid hap
          clear hkey hat hSt hst hhas hH4 hvj hown4 hC2 hC hrg2 hrg hbx hg4 hs4 hlk hx hap hfin
          go_wp2_with fail
          go_region_law (first
            | (refine step_append_lie2 (by rfl) _ _ 42 (by rfl) w.heap.size 3 i0 _ 1 8 Try.underlying42 HI.out hz0 hz1 hz2 rfl (by omega) (.slice va (froms ss j).length vc) (froms ss j).length ((froms ss j).flatMap intCells) (by rfl) (HAP.out _ (by rfl)).1 (.slice (some ⟨w4.heap.size + 1, 0, none⟩) 1 1) (w4.heap.size + 1) (w4.heap.size + 2) 1 [.int .i64 x] (by rfl) (HAP.out _ (by rfl)).2.1 (in_one x) ((froms ss j).length + 1) rfl (by simp only [maxLen]; omega) (by omega) (HAP.out _ (by rfl)).2.2.1 ?_; intro ao cap' w5 hown5 hgrow5 hob5; have q0 : w5.cell? ⟨w4.heap.size, 1, none⟩ = some (.int .i64 (j : Int)) := cell_in (grown_keep hgrow5 (HAP.out _ (by rfl)).1 (HAP.out _ (by rfl)).2.2.2.1 (by decide)) rfl; have qb := grown_keep hgrow5 (HAP.out _ (by rfl)).1 (HAP.out _ (by rfl)).2.2.2.2 (by decide); have q1 : w5.cell? ⟨wo.heap.size, j, none⟩ = some (.slice va (froms ss j).length vc) := cell_in qb (by simpa using HVJ.out); have q2 : w5.frozen? ⟨wo.heap.size, j, none⟩ = false := free_in qb j; clear qb))
          all_goals
            (go_wp2_with fail
             go_roundw
             case rel =>
               obtain ⟨t1, t2, t3⟩ := HFIN.out _ _ _ _ (by rfl) (by repeat first | exact Below.refl _ _ | refine Below.drew ?_ | refine b_alloc ?_ (Nat.le_refl _) _) hown5 hgrow5 hob5
               exact ⟨_, cnt2, ss ++ [(x, (j : Int))], _, t1, by simp; omega, HC2.out, Lib.hid t2, t3⟩
             case measure =>
               obtain ⟨t1, _, _⟩ := HFIN.out _ _ _ _ (by rfl) (by repeat first | exact Below.refl _ _ | refine Below.drew ?_ | refine b_alloc ?_ (Nat.le_refl _) _) hown5 hgrow5 hob5
               rw [t1.left_eq, HLE.out]; exact hlt)
end Go.Proofs.Ytkikapodobeaaaa
