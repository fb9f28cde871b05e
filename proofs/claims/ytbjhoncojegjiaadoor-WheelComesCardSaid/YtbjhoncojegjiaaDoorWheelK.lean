/- The program's wheel: a timer into a slot, the last one out of it, any one out of it. -/
import Derived.Test.YtbjhoncojegjiaaDoorWheelJ
import Derived.Test.YtbjhoncojegjiaaDoorWheelC
import Derived.Sort.OwnSortedInts
namespace Go.Proofs.YtbjhoncojegjiaaDoor
open Go.ChangeShapes Go.WideShapes Go.ChangeAt Go.RowKit
set_option linter.unusedVariables false

/-- A wheel in memory. -/
structure WMem (w : World) (H : Nat) (now len : Int) (y : Nat → Int) (sl : Nat → Value) (L : Nat → List Nat) : Prop where
  c : WCells w H true now len y sl
  r : WRows w H sl L
section
variable {w w' : World} {H : Nat} {now len : Int} {y : Nat → Int} {sl : Nat → Value} {L : Nat → List Nat}
theorem WMem.same (h : WMem w H now len y sl L) (hs : ∀ b, WOwn H sl b → w'.heap[b]? = w.heap[b]?) : WMem w' H now len y sl L :=
  ⟨h.c.same (hs H (.inl rfl)), h.r.same fun k g hk hg => hs g (.inr ⟨k, hk, hg⟩)⟩
theorem WMem.lt (h : WMem w H now len y sl L) (b : Nat) (hb : WOwn H sl b) : b < w.heap.size := by
  rcases hb with rfl | ⟨k, hk, hg⟩
  · exact h.c.lt
  · exact owns_lt (h.r.row k hk) hg
theorem WMem.later (h : WMem w H now len y sl L) (hb : Below w.heap.size w w') : WMem w' H now len y sl L := h.same fun b hw => hb.block b (h.lt b hw)
theorem WMem.drewN (h : WMem w H now len y sl L) (q : Nat) : WMem (w.drewN q) H now len y sl L := h.same fun _ _ => rfl
theorem grow_set (h : WMem w H now len y sl L) (j : Nat) (v : Value) : GrowS (WOwn H sl) (WOwn H sl) w (w.setCell ⟨H, j, none⟩ v) :=
  ⟨rfl, rfl, rfl, by simp, fun k _ hk => Below.heap_setCell _ _ _ _ (fun e => hk (.inl e)), fun k hk => .inl hk⟩
theorem WMem.set_now (h : WMem w H now len y sl L) (v : Int) : WMem (w.setCell ⟨H, 1, none⟩ (.int .i64 v)) H v len y sl L := ⟨h.c.set_now v, h.r.setH _ _⟩
theorem WMem.set_len (h : WMem w H now len y sl L) (v : Int) : WMem (w.setCell ⟨H, 2, none⟩ (.int .i64 v)) H now v y sl L := ⟨h.c.set_len v, h.r.setH _ _⟩
theorem WMem.set_tick (h : WMem w H now len y sl L) {i : Nat} (hi : i < 256) (v : Int) : WMem (w.setCell ⟨H, 3 + i, none⟩ (.int .i64 v)) H now len (updR y i v) sl L := ⟨h.c.set_tick hi v, h.r.setH _ _⟩
end
theorem nI_len (l : List Nat) : (nI l).length = l.length := by simp [nI]
theorem natCells_len (l : List Nat) : (natCells l).length = l.length := by simp [natCells, nI]
/-- The first of a row are a row. -/
theorem owns_prefix {w : World} {base e g n m cap : Nat} {xs ys : List Value} (h : w.ownsRow base e 1 (.slice (some ⟨g, 0, none⟩) n cap) n xs) (hm : m ≤ n) (hy : ys = xs.take m) : w.ownsRow base e 1 (.slice (some ⟨g, 0, none⟩) m cap) m ys := by
  obtain ⟨h0, h⟩ := h
  refine ⟨by rw [hy, List.length_take]; omega, ?_⟩
  rcases h with ⟨h, _⟩ | ⟨g', c', cur, hv, hb, hg, h1, h2, h3, h4⟩
  · cases h
  · cases hv
    refine .inr ⟨g, cap, cur, rfl, hb, hg, by omega, h2, h3, ?_⟩
    rw [hy, ← h4, List.take_take, Nat.min_eq_left (by omega), Nat.mul_one]
/-- A row's slice. -/
theorem owns_slice2 {w : World} {base e sz n : Nat} {v : Value} {xs : List Value} (h : w.ownsRow base e sz v n xs) : ∃ ao cap, v = .slice ao n cap ∧ n ≤ cap ∧ cap ≤ maxLen ∧ (0 < n → ∃ g, ao = some ⟨g, 0, none⟩) := by
  rcases h.2 with ⟨rfl, h0⟩ | ⟨g, cap, cur, rfl, _, _, h1, h2, _⟩
  · exact ⟨none, 0, by rw [h0], by omega, by simp [maxLen], fun h => by omega⟩
  · exact ⟨_, cap, rfl, h1, h2, fun _ => ⟨g, rfl⟩⟩
theorem owns_cell {w : World} {base e n g cap : Nat} {xs : List Value} (h : w.ownsRow base e 1 (.slice (some ⟨g, 0, none⟩) n cap) n xs) {i : Nat} {u : Value} (hu : xs[i]? = some u) : w.cell? ⟨g, i, none⟩ = some u := by
  rcases h.2 with ⟨h2, _⟩ | ⟨g', c', cur, hv, hb, hg, h1, h2, h3, h4⟩
  · cases h2
  · cases hv
    refine cell_in hg ?_
    rw [← h4] at hu
    have hi : i < n * 1 := by
      have := (List.getElem?_eq_some_iff.1 hu).1
      simp at this; omega
    rw [List.getElem?_take_of_lt hi, Array.getElem?_toList] at hu
    exact hu
section
variable {w : World} {H : Nat} {now len : Int} {y : Nat → Int} {sl : Nat → Value} {L : Nat → List Nat}
set_option maxRecDepth 100000 in
set_option maxHeartbeats 2000000 in
/-- A timer into a slot. -/
theorem put_any (h : WMem w H now len y sl L) (k : Nat) (hk : k < 256) (id : Nat) (hl : (L k).length ≤ 1000) :
    Calls Tryd.prog 25 #[.pointer (some ⟨H, 259 + k, none⟩), .int .i64 id] w fun e w' => ∃ v, e = .returned (.tuple #[]) ∧ WMem w' H now len y (updR sl k v) (updR L k (L k ++ [id])) ∧ GrowS (WOwn H sl) (WOwn H (updR sl k v)) w w' := by
  obtain ⟨c0, c1⟩ := h.c.slot hk
  obtain ⟨ao, cp, hv, _, _, _⟩ := owns_slice2 (h.r.row k hk)
  obtain ⟨n, hn⟩ : ∃ n, n = (L k).length := ⟨_, rfl⟩
  rw [← hn] at hv hl
  rw [hv] at c0
  have HO : Hid (w.ownsRow 0 3 1 (.slice ao n cp) n (natCells (L k))) := Lib.hid (by rw [← hv, hn]; exact h.r.row k hk)
  have HV := Lib.hid hv
  have HH := Lib.hid h
  have HNN := Lib.hid hn
  obtain ⟨i0, hi, hz0, hz1, hz2⟩ := info_parts Tryd.infoInt
  have HI := Lib.hid hi
  obtain ⟨K, hK⟩ : ∃ K, K = 259 + k := ⟨_, rfl⟩
  have HK := Lib.hid hK
  rw [← hK] at c0 c1 ⊢
  clear h hv hn hi hK
  go_enter Tryd.func25, Tryd.ntmps25
  go_wp2_with (first
    | (refine wpList_append_lie2 (by rfl) (.tmp 7) (.tmp 9) 47 (by rfl) 0 3 i0 _ 1 8 Tryd.underlying47 HI.out hz0 hz1 hz2 rfl (by omega) (.slice ao n cp) n (natCells (L k)) (by rfl) (owns_later HO.out (below1 _ _)) (.slice (some ⟨w.heap.size, 0, none⟩) 1 1) w.heap.size (w.heap.size + 1) 1 [.int .i64 (id : Int)] (by rfl) (one_lies (heap_alloc_new _ _) rfl) (in_one _) (n + 1) rfl (by simp only [maxLen]; omega) (by omega) (Nat.zero_le _) ?_
       intro ao' cp' w6 hown6 hgrow6 hblk6
       have hHlt := HH.out.c.lt
       have hne := HH.out.r.ne k hk
       have hX6 : w6.heap[H]? = w.heap[H]? := (hgrow6.block H (by simp; omega) (by rw [← HV.out]; exact fun e => hne e.symm)).trans (Below.heap_alloc _ _ _ hHlt)
       have hs6 := hgrow6.size
       have hc6 := HH.out.c.same hX6
       obtain ⟨y0, y1⟩ := hc6.slot hk
       rw [← HK.out] at y0 y1
       have hsm : ∀ b, b < w.heap.size → (sl k).ownBlock ≠ some b → w6.heap[b]? = w.heap[b]? := fun b hb hb2 => (hgrow6.block b (by simp; omega) (by rw [← HV.out]; exact fun e => hb2 e.symm)).trans (Below.heap_alloc _ _ _ hb)
       have HC6 := Lib.hid hc6
       have HO6 := Lib.hid hown6
       have HG6 := Lib.hid hgrow6
       have HB6 := Lib.hid hblk6
       have HS6 := Lib.hid hs6
       have HM6 := Lib.hid hsm
       clear hown6 hgrow6 hblk6 hX6 hc6 hs6 hsm hne hHlt)
    | go_in)
  go_end0
  have e0 : natCells (L k) ++ [Value.int .i64 (id : Int)] = natCells (L k ++ [id]) := by simp [natCells, nI]
  have hob : ∀ g, (Value.slice ao' (n + 1) cp').ownBlock = some g → (sl k).ownBlock = some g ∨ w.heap.size ≤ g := fun g hg => by
    rcases HB6.out with h1 | h1
    · left; rw [HV.out, ← h1]; exact hg
    · right
      rw [h1] at hg
      cases hg
      simp
  have hsz : w.heap.size ≤ w6.heap.size := by have := HS6.out; simp at this; omega
  have hHlt := HH.out.c.lt
  rw [HK.out]
  refine ⟨.slice ao' (n + 1) cp', rfl, ⟨HC6.out.set_slot hk _, HH.out.r.upd hk ?_ hob hHlt (fun b hb h1 h2 => (Below.heap_setCell _ _ _ _ h2).trans (HM6.out b hb h1))⟩, ⟨HG6.out.os, HG6.out.tape, HG6.out.output, by simpa using hsz, fun b hb hS => ?_, fun b hb => ?_⟩⟩
  · have := HO6.out
    rw [e0] at this
    rw [List.length_append, ← HNN.out]
    refine owns_same this fun g hg => Below.heap_setCell _ _ _ _ (fun e => ?_)
    rcases hob g hg with h1 | h1
    · exact HH.out.r.ne k hk (by rw [h1, show g = H from e])
    · rw [show g = H from e] at h1; omega
  · exact (Below.heap_setCell _ _ _ _ (fun e => hS (.inl e))).trans (HM6.out b hb (fun e => hS (.inr ⟨k, hk, e⟩)))
  · rcases hb with rfl | ⟨j, hj, hg⟩
    · exact .inl (.inl rfl)
    · by_cases e : j = k
      · subst e
        rw [updR_at] at hg
        rcases hob b hg with h1 | h1
        · exact .inl (.inr ⟨j, hj, h1⟩)
        · exact .inr h1
      · rw [updR_ne _ _ e] at hg
        exact .inl (.inr ⟨j, hj, hg⟩)
set_option maxRecDepth 100000 in
set_option maxHeartbeats 2000000 in
/-- The last timer out of a slot. -/
theorem take_any (h : WMem w H now len y sl L) (k : Nat) (hk : k < 256) (l : List Nat) (x : Nat) (hL : L k = l ++ [x]) (hl : l.length ≤ 1000) :
    Calls Tryd.prog 37 #[.pointer (some ⟨H, 259 + k, none⟩)] w fun e w' => ∃ v, e = .returned (.int .i64 x) ∧ WMem w' H now len y (updR sl k v) (updR L k l) ∧ GrowS (WOwn H sl) (WOwn H (updR sl k v)) w w' := by
  obtain ⟨c0, c1⟩ := h.c.slot hk
  obtain ⟨ao, cp, hv, hcp, hcm, hao⟩ := owns_slice2 (h.r.row k hk)
  obtain ⟨n, hn⟩ : ∃ n, n = l.length := ⟨_, rfl⟩
  have hLn : (L k).length = n + 1 := by rw [hL, hn]; simp
  rw [hLn] at hv hcp hao
  rw [← hn] at hl
  obtain ⟨g, rfl⟩ := hao (by omega)
  have ho : w.ownsRow 0 3 1 (.slice (some ⟨g, 0, none⟩) (n + 1) cp) (n + 1) (natCells (L k)) := by rw [← hv, ← hLn]; exact h.r.row k hk
  have c2 : w.cell? ⟨g, n, none⟩ = some (.int .i64 x) := owns_cell ho (by rw [hL, hn]; simp [natCells, nI])
  have HO := Lib.hid ho
  rw [hv] at c0
  have HV := Lib.hid hv
  have HH := Lib.hid h
  have HNN := Lib.hid hn
  have HL := Lib.hid hL
  obtain ⟨K, hK⟩ : ∃ K, K = 259 + k := ⟨_, rfl⟩
  have HK := Lib.hid hK
  rw [← hK] at c0 c1 ⊢
  have n0 : n + 1 ≤ cp := hcp
  have n1 : n ≤ cp := by omega
  have n2 : (0 : Int) ≤ (n : Int) := by omega
  have n3 : (n : Int) < (n : Int) + 1 := by omega
  clear h hv hn hK hL hLn ho hcm
  go_enter Tryd.func37, Tryd.ntmps37
  go_wp2_with fail
  go_ret
  have hHlt := HH.out.c.lt
  rw [HK.out]
  have hob : ∀ g', (Value.slice (some ⟨g, 0, none⟩) n cp).ownBlock = some g' → (sl k).ownBlock = some g' ∨ w.heap.size ≤ g' := fun g' hg => .inl (by rw [HV.out]; exact hg)
  refine ⟨.slice (some ⟨g, 0, none⟩) n cp, rfl, ⟨HH.out.c.set_slot hk _, HH.out.r.upd hk ?_ hob hHlt (fun b hb h1 h2 => Below.heap_setCell _ _ _ _ h2)⟩, ⟨rfl, rfl, rfl, by simp, fun b hb hS => Below.heap_setCell _ _ _ _ (fun e => hS (.inl e)), fun b hb => ?_⟩⟩
  · rw [← HNN.out]
    refine owns_same (owns_prefix HO.out (m := n) (by omega) ?_) fun g' hg => Below.heap_setCell _ _ _ _ (fun e => ?_)
    · rw [HL.out, HNN.out]; simp [natCells, nI]
    · exact HH.out.r.ne k hk (by rw [HV.out]; rw [show g' = H from e] at hg; exact hg)
  · rcases hb with rfl | ⟨j, hj, hg⟩
    · exact .inl (.inl rfl)
    · by_cases e : j = k
      · subst e
        rw [updR_at] at hg
        exact .inl (.inr ⟨j, hj, by rw [HV.out]; exact hg⟩)
      · rw [updR_ne _ _ e] at hg
        exact .inl (.inr ⟨j, hj, hg⟩)
set_option maxRecDepth 100000 in
set_option maxHeartbeats 2000000 in
/-- Any timer out of a slot. -/
theorem remove_any (h : WMem w H now len y sl L) (k : Nat) (hk : k < 256) (l1 l2 : List Nat) (x : Nat) (hL : L k = l1 ++ x :: l2) (hx : x ∉ l1) (hl : (L k).length ≤ 1000) :
    Calls Tryd.prog 26 #[.pointer (some ⟨H, 259 + k, none⟩), .int .i64 x] w fun e w' => ∃ v, e = .returned (.tuple #[]) ∧ WMem w' H now len y (updR sl k v) (updR L k (l1 ++ l2)) ∧ GrowS (WOwn H sl) (WOwn H (updR sl k v)) w w' := by
  obtain ⟨c0, c1⟩ := h.c.slot hk
  obtain ⟨ao, cp, hv, hcp, hcm, hao⟩ := owns_slice2 (h.r.row k hk)
  obtain ⟨n, hn⟩ : ∃ n, n = (L k).length := ⟨_, rfl⟩
  obtain ⟨p, hp⟩ : ∃ p, p = l1.length := ⟨_, rfl⟩
  have hnp : p < n := by rw [hn, hp, hL]; simp
  rw [← hn] at hv hcp hao hl
  obtain ⟨g, rfl⟩ := hao (by omega)
  have ho : w.ownsRow 0 3 1 (.slice (some ⟨g, 0, none⟩) n cp) n (natCells (L k)) := by rw [← hv, hn]; exact h.r.row k hk
  obtain ⟨zs, hzs⟩ : ∃ zs, zs = nI (L k) := ⟨_, rfl⟩
  have hzl : zs.length = n := by rw [hzs, nI_len, hn]
  have hz : ∀ j, j < zs.length → w.cell? ⟨g, 0 + j, none⟩ = some (.int .i64 (zs.getD j 0)) := fun j hj => by
    rw [Nat.zero_add]
    refine owns_cell ho ?_
    show ((nI (L k)).map _)[j]? = _
    rw [← hzs, List.getElem?_map, List.getD_eq_getElem?_getD, List.getElem?_eq_getElem hj]; rfl
  have hidx : Lib.idxOf zs (x : Int) = ((p : Nat) : Int) := by
    have := Lib.idxFrom_hit (x : Int) zs p 0 (by omega) (by rw [hzs, hL, hp]; simp [nI, List.getD_eq_getElem?_getD]) (fun j hj => by
      rw [hzs, hL, List.getD_eq_getElem?_getD]
      rw [hp] at hj
      simp only [nI, List.map_append, List.getElem?_append_left (show j < (l1.map (fun i : Nat => (i : Int))).length by simpa using hj), List.getElem?_map, List.getElem?_eq_getElem hj, Option.map_some, Option.getD_some]
      intro e
      exact hx (by have : l1[j] = x := by omega
                   rw [← this]; exact List.getElem_mem hj))
    rw [Nat.zero_add] at this
    exact this
  have HX : Hid (Calls Tryd.prog 33 #[.slice (some ⟨g, 0, none⟩) n cp, .int .i64 x] w fun e w' => e = .returned (.int .i64 p) ∧ w' = w) := Lib.hid (by
    have := Tryd.index_any g 0 n cp zs x w (by omega) (by simp only [maxLen] at hcm; omega) hz
    rw [List.take_of_length_le (by omega), hidx] at this
    exact this)
  have hblk : ∃ cur, w.heap[g]? = some (.cells cur 3 (0, 0)) ∧ n ≤ cp ∧ cp ≤ maxLen ∧ cur.size = cp * 1 ∧ cur.toList.take zs.length = zs.map (Value.int .i64) := by
    rcases ho.2 with ⟨h2, _⟩ | ⟨g', c', cur, e, _, hg, a1, a2, a3, a4⟩
    · cases h2
    · cases e
      refine ⟨cur, hg, a1, a2, a3, ?_⟩
      rw [hzl, ← Nat.mul_one n, a4, hzs]; rfl
  obtain ⟨cur, hg, a1, a2, a3, a4⟩ := hblk
  have hpre : zs.take p ++ zs.drop (p + 1) = nI (l1 ++ l2) := by
    have e : zs = nI l1 ++ [(x : Int)] ++ nI l2 := by rw [hzs, hL]; simp [nI]
    rw [e, List.append_assoc, List.take_left' (by rw [nI_len, hp]), ← List.append_assoc, List.drop_left' (by simp [nI_len, hp])]
    simp [nI]
  have hll : (nI (l1 ++ l2)).length = n - 1 := by rw [nI_len, hn, hL]; simp
  have HD : Hid (Calls Tryd.prog 34 #[.slice (some ⟨g, 0, none⟩) n cp, .int .i64 p, .int .i64 ((p : Int) + 1)] w fun e w' => e = .returned (.slice (some ⟨g, 0, none⟩) (n - 1) cp) ∧ w'.ownsRow 0 3 1 (.slice (some ⟨g, 0, none⟩) (n - 1) cp) (n - 1) (natCells (l1 ++ l2)) ∧ w.grownBy w' (some g)) := Lib.hid (by
    have := Tryd.delete_any g 0 cp p (p + 1) zs w (holds_of_blockI hg a4) (by omega) (by simp only [maxLen] at hcm; omega) (by omega) (by omega)
    rw [hzl, show p + 1 - p = 1 by omega] at this
    refine this.mono ?_
    rintro e w' ⟨rfl, q, rfl⟩
    rw [hpre]
    have h4 := grownBy_sortedI (w := w) (g := g) (n := q) (os := #[]) (nI (l1 ++ l2) ++ List.replicate 1 (0 : Int)).toArray
    rw [Sort.grow_empty] at h4
    refine ⟨rfl, ?_, h4⟩
    have hts : (nI (l1 ++ l2) ++ List.replicate 1 (0 : Int)).length = zs.length := by rw [List.length_append, hll]; simp; omega
    have h3 := ownsRow_sortedI (n := q) (os := #[]) (base := 0) (cap := cp) (ss := zs) hts (Nat.zero_le _) hg (by omega) a2 a3
    rw [Sort.grow_empty, hzl] at h3
    refine owns_prefix h3 (by omega) ?_
    rw [List.map_append, List.take_left' (by rw [List.length_map, hll])]
    rfl)
  rw [hv] at c0
  have HV := Lib.hid hv
  have HH := Lib.hid h
  have HLL : Hid ((l1 ++ l2).length = n - 1) := Lib.hid (by rw [← hll, nI_len])
  obtain ⟨K, hK⟩ : ∃ K, K = 259 + k := ⟨_, rfl⟩
  have HK := Lib.hid hK
  rw [← hK] at c0 c1 ⊢
  clear h hv hn hK hL ho hcm hp hzs hzl hz hidx hx hg a1 a2 a3 a4 hpre hll hao
  go_enter Tryd.func26, Tryd.ntmps26
  go_wp2_with (first
    | (go_at_call 34; refine HD.out.mono ?_; rintro e w6 ⟨rfl, hown6, hgrow6⟩
       have hHlt := HH.out.c.lt
       have hne := HH.out.r.ne k hk
       have hX6 : w6.heap[H]? = w.heap[H]? := hgrow6.block H hHlt (fun e => hne (by rw [HV.out]; exact e.symm))
       have hs6 := hgrow6.size
       have hc6 := HH.out.c.same hX6
       obtain ⟨y0, y1⟩ := hc6.slot hk
       rw [← HK.out] at y0 y1
       have hsm : ∀ b, b < w.heap.size → (sl k).ownBlock ≠ some b → w6.heap[b]? = w.heap[b]? := fun b hb hb2 => hgrow6.block b hb (fun e => hb2 (by rw [HV.out]; exact e.symm))
       have HC6 := Lib.hid hc6
       have HO6 := Lib.hid hown6
       have HG6 := Lib.hid hgrow6
       have HS6 := Lib.hid hs6
       have HM6 := Lib.hid hsm
       clear hown6 hgrow6 hX6 hc6 hs6 hsm hne hHlt)
    | (go_at_call 33; refine HX.out.mono ?_; rintro e w5 ⟨rfl, hw5⟩; rw [hw5]; clear hw5)
    | fail "no arm")
  go_end0
  have hHlt := HH.out.c.lt
  have hsz := HS6.out
  have hob : ∀ g', (Value.slice (some ⟨g, 0, none⟩) (n - 1) cp).ownBlock = some g' → (sl k).ownBlock = some g' ∨ w.heap.size ≤ g' := fun g' hg => .inl (by rw [HV.out]; exact hg)
  rw [HK.out]
  refine ⟨.slice (some ⟨g, 0, none⟩) (n - 1) cp, rfl, ⟨HC6.out.set_slot hk _, HH.out.r.upd hk ?_ hob hHlt (fun b hb h1 h2 => (Below.heap_setCell _ _ _ _ h2).trans (HM6.out b hb h1))⟩, ⟨HG6.out.os, HG6.out.tape, HG6.out.output, by simpa using hsz, fun b hb hS => ?_, fun b hb => ?_⟩⟩
  · rw [HLL.out]
    refine owns_same HO6.out fun g' hg => Below.heap_setCell _ _ _ _ (fun e => ?_)
    exact HH.out.r.ne k hk (by rw [HV.out]; rw [show g' = H from e] at hg; exact hg)
  · exact (Below.heap_setCell _ _ _ _ (fun e => hS (.inl e))).trans (HM6.out b hb (fun e => hS (.inr ⟨k, hk, e⟩)))
  · rcases hb with rfl | ⟨j, hj, hg⟩
    · exact .inl (.inl rfl)
    · by_cases e : j = k
      · subst e
        rw [updR_at] at hg
        exact .inl (.inr ⟨j, hj, by rw [HV.out]; exact hg⟩)
      · rw [updR_ne _ _ e] at hg
        exact .inl (.inr ⟨j, hj, hg⟩)
end
end Go.Proofs.YtbjhoncojegjiaaDoor
