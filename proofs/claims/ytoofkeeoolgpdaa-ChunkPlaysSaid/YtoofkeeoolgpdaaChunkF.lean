/- The program's budget: IndexFunc, DeleteFunc of what is back; takeBack. -/
import Derived.Test.YtoofkeeoolgpdaaChunkE
namespace Go.Proofs.Ytoofkeeoolgpdaa
open Go.ChangeShapes Go.WideShapes Go.ChangeAt Go.RowKit
set_option linter.unusedVariables false

theorem cell_later {w w' : World} {a : Addr} {v : Value} (h : w.cell? a = some v) (hb : Below w.heap.size w w') : w'.cell? a = some v := (World.cell?_of_block (hb.block _ (World.block_lt_of_cell? w a h))).trans h
/-- What the closure reads. -/
structure BkBox (w : World) (H E1 E2 : Nat) (t now : Int) : Prop where
  b3 : w.cell? ⟨H, 3, none⟩ = some (.int .i64 t)
  bn : w.cell? ⟨E1, 0, none⟩ = some (.int .i64 now)
  bb : w.cell? ⟨E2, 0, none⟩ = some (.pointer (some ⟨H, 0, none⟩))
  ht : 1 ≤ t ∧ t ≤ 1000
  hn : 0 ≤ now ∧ now ≤ 1099511627776
theorem BkBox.later {w w' : World} {H E1 E2 : Nat} {t now : Int} (h : BkBox w H E1 E2 t now) (hb : Below w.heap.size w w') : BkBox w' H E1 E2 t now := ⟨cell_later h.b3 hb, cell_later h.bn hb, cell_later h.bb hb, h.ht, h.hn⟩
theorem BkBox.hold {w w' : World} {H E1 E2 g : Nat} {t now : Int} (h : BkBox w H E1 E2 t now) (hb : But g w w') (h1 : H ≠ g) (h2 : E1 ≠ g) (h3 : E2 ≠ g) : BkBox w' H E1 E2 t now :=
  ⟨(World.cell?_of_block (hb.block _ (World.block_lt_of_cell? w _ h.b3) h1)).trans h.b3, (World.cell?_of_block (hb.block _ (World.block_lt_of_cell? w _ h.bn) h2)).trans h.bn, (World.cell?_of_block (hb.block _ (World.block_lt_of_cell? w _ h.bb) h3)).trans h.bb, h.ht, h.hn⟩
/-- The cells of one of a row. -/
theorem orow_at {w : World} {g off n c : Nat} {l : List Wn} (h : ORow w 45 3 (.slice (some ⟨g, off, none⟩) n c) n (l.flatMap Wn.cells)) {k : Nat} {x : Wn} (hx : l[k]? = some x) (hk : k < n) : w.cell? ⟨g, off + k * 3, none⟩ = some (.int .i64 x.at_) ∧ w.cell? ⟨g, off + k * 3 + 1, none⟩ = some (.int .i64 x.len) ∧ w.cell? ⟨g, off + k * 3 + 2, none⟩ = some (.int .i64 x.part) ∧ (∀ j, w.frozen? ⟨g, j, none⟩ = false) := by
  obtain ⟨g', off', e, hc, hf, _⟩ := h.at_ (by omega)
  cases e
  refine ⟨?_, ?_, ?_, hf⟩
  · have := hc (k * 3 + 0) _ (flat_at Wn.cells 3 (fun _ => rfl) l k 0 x hx (by omega)); simpa [Nat.add_assoc] using this
  · have := hc (k * 3 + 1) _ (flat_at Wn.cells 3 (fun _ => rfl) l k 1 x hx (by omega)); simpa [Nat.add_assoc] using this
  · have := hc (k * 3 + 2) _ (flat_at Wn.cells 3 (fun _ => rfl) l k 2 x hx (by omega)); simpa [Nat.add_assoc] using this
theorem flat_setW : ∀ (dk : List Wn) (i : Nat) (x : Wn), i < dk.length → (((dk.flatMap Wn.cells).set (i * 3) (.int .i64 x.at_)).set (i * 3 + 1) (.int .i64 x.len)).set (i * 3 + 2) (.int .i64 x.part) = (dk.set i x).flatMap Wn.cells
  | [], i, x, h => by simp at h
  | y :: l, 0, x, _ => by simp [Wn.cells]
  | y :: l, i + 1, x, h => by
    have ih := flat_setW l i x (by simpa using h)
    rw [List.set_cons_succ, List.flatMap_cons, List.flatMap_cons, ← ih, show (i + 1) * 3 = i * 3 + 1 + 1 + 1 by omega, show i * 3 + 1 + 1 + 1 + 1 = i * 3 + 1 + 1 + 1 + 1 from rfl, show i * 3 + 1 + 1 + 1 + 2 = i * 3 + 2 + 1 + 1 + 1 by omega]
    simp only [Wn.cells, List.cons_append, List.nil_append, List.set_cons_succ]
theorem ORow.set3 {w : World} {g off n c : Nat} {dk : List Wn} (h : ORow w 45 3 (.slice (some ⟨g, off, none⟩) n c) n (dk.flatMap Wn.cells)) (hn : dk.length = n) {i : Nat} (hi : i < n) (x : Wn) :
    ORow (((w.setCell ⟨g, off + i * 3, none⟩ (.int .i64 x.at_)).setCell ⟨g, off + i * 3 + 1, none⟩ (.int .i64 x.len)).setCell ⟨g, off + i * 3 + 2, none⟩ (.int .i64 x.part)) 45 3 (.slice (some ⟨g, off, none⟩) n c) n ((dk.set i x).flatMap Wn.cells) := by
  have h3 := ((h.set (j := i * 3) (by omega) (.int .i64 x.at_)).set (j := i * 3 + 1) (by omega) (.int .i64 x.len)).set (j := i * 3 + 2) (by omega) (.int .i64 x.part)
  rw [flat_setW dk i x (by omega)] at h3
  simpa [Nat.add_assoc] using h3
theorem setCells_blk : ∀ (vs : List Value) (w : World) (b o : Nat) (arr : Array Value) (t : TypeId), w.heap[b]? = some (.cells arr t (0, 0)) → ∃ arr', (w.setCells b o vs).heap[b]? = some (.cells arr' t (0, 0)) ∧ arr'.size = arr.size ∧ (∀ k, k < o → arr'[k]? = arr[k]?) ∧ But b w (w.setCells b o vs)
  | [], w, b, o, arr, t, h => ⟨arr, h, rfl, fun _ _ => rfl, But.refl _ _⟩
  | v :: r, w, b, o, arr, t, h => by
    obtain ⟨a2, h2, h5, h3, h4⟩ := setCells_blk r (w.setCell ⟨b, o, none⟩ v) b (o + 1) _ t (set_at h)
    refine ⟨a2, h2, by simpa using h5, fun k hk => ?_, ((But.refl b w).set o v).trans h4⟩
    rw [h3 k (by omega), Array.getElem?_setIfInBounds, if_neg (by omega)]
/-- The head of a row, when what is behind was written. -/
theorem ORow.head {w : World} {e : TypeId} {sz g off n c i : Nat} {xs vs : List Value} (h : ORow w e sz (.slice (some ⟨g, off, none⟩) n c) n xs) (hi : i ≤ n) : ORow (w.setCells g (off + i * sz) vs) e sz (.slice (some ⟨g, off, none⟩) i c) i (xs.take (i * sz)) ∧ But g w (w.setCells g (off + i * sz) vs) := by
  obtain ⟨h1, ⟨hv, h2⟩ | ⟨g', off', cap, cur, hv, hg, h3, h4, h5, h6⟩⟩ := h
  · cases hv
  · cases hv
    obtain ⟨arr', k1, k2, k3, k4⟩ := setCells_blk vs w g (off + i * sz) cur e hg
    have hm : i * sz ≤ n * sz := Nat.mul_le_mul_right _ hi
    refine ⟨⟨by rw [List.length_take, h1]; omega, .inr ⟨g, off, c, arr', rfl, k1, by omega, h4, by omega, ?_⟩⟩, k4⟩
    rw [← h6, List.take_take, Nat.min_eq_left hm]
    apply List.ext_getElem?
    intro k
    rw [List.getElem?_take, List.getElem?_take]
    by_cases hk : k < i * sz
    · rw [if_pos hk, if_pos hk, List.getElem?_drop, List.getElem?_drop, Array.getElem?_toList, Array.getElem?_toList, k3 _ (by omega)]
    · rw [if_neg hk, if_neg hk]
set_option maxRecDepth 100000 in
set_option maxHeartbeats 4000000 in
theorem index17_any (w : World) (H E1 E2 : Nat) (t now : Int) (hB : BkBox w H E1 E2 t now) (la : Option Addr) (ln lc : Nat) (l : List Wn) (hl : ORow w 45 3 (.slice la ln lc) ln (l.flatMap Wn.cells)) (hln : l.length = ln) (hl2 : ln ≤ 1000) (hin : ∀ x ∈ l, 0 ≤ x.at_ ∧ x.at_ ≤ 1099511627776) :
    Calls Try.prog 43 #[.slice la ln lc, .func (.func 41) #[] #[.pointer (some ⟨E1, 0, none⟩), .pointer (some ⟨E2, 0, none⟩)]] w fun e w' => ((e = .returned (.int .i64 (-1)) ∧ ∀ x ∈ l, bkB t now x = false) ∨ ∃ (k : Nat) (x : Wn), e = .returned (.int .i64 k) ∧ k < ln ∧ l[k]? = some x ∧ bkB t now x = true ∧ ∀ y ∈ l.take k, bkB t now y = false) ∧ Below w.heap.size w w' := by
  have HB := Lib.hid hB; have HL := Lib.hid hl; have HN := Lib.hid hln
  have HIN := Lib.hid hin
  clear hB hl hln hin
  go_enter Try.func43, Try.ntmps43
  go_wp2_with fail
  go_loopw [8] (fun i wr => ∃ k : Nat, k ≤ ln ∧ i = .int .i64 k ∧ Hid (∀ y ∈ l.take k, bkB t now y = false) ∧ Below w.heap.size w wr) (fun i _ => ln - (intOf i).toNat)
  case atStart => exact ⟨0, by omega, rfl, Lib.hid (by simp), Below.refl _ _⟩
  case round =>
    obtain ⟨k, hk, rfl, HA, hb⟩ := hrel
    by_cases hlt : k < ln
    · have tk : decide ((k : Int) < (ln : Int)) = true := by simpa using hlt
      obtain ⟨x, hx⟩ : ∃ x, l[k]? = some x := ⟨_, List.getElem?_eq_getElem (by rw [HN.out]; exact hlt)⟩
      obtain ⟨g, off, rfl, _⟩ := HL.out.at_ (by omega)
      obtain ⟨c0, c1, c2, _⟩ := orow_at (HL.out.later hb) hx hlt
      have hxi := HIN.out x (List.mem_of_getElem? hx)
      have HX := Lib.hid hx
      have hC := HB.out.later hb
      have HC := Lib.hid (back_any wr H E1 E2 t now x hC.b3 hC.bn hC.bb hC.ht hC.hn hxi)
      have l0 : (0 : Int) ≤ (k : Int) := by omega
      have l1 : (k : Int) < (ln : Int) := by omega
      clear hx hC hxi
      cases hh : bkB t now x with
      | false =>
        have HH := Lib.hid hh; clear hh
        go_wp2_with (first | (go_at_call 41; refine HC.out.mono ?_; rintro e w' ⟨rfl, hb2⟩; rw [HH.out]))
        go_roundw
        case rel =>
          refine ⟨k + 1, by omega, by go_num, Lib.hid (fun y hy => ?_), hb.trans (hb2.mono hb.size)⟩
          rw [List.take_add_one, HX.out] at hy
          rcases List.mem_append.1 hy with hy | hy
          · exact HA.out y hy
          · simp at hy; subst hy; exact HH.out
        case measure => simp [intOf]; omega
      | true =>
        have HH := Lib.hid hh; clear hh
        go_wp2_with (first | (go_at_call 41; refine HC.out.mono ?_; rintro e w' ⟨rfl, hb2⟩; rw [HH.out]))
        go_ret
        exact ⟨.inr ⟨k, x, rfl, hlt, HX.out, HH.out, HA.out⟩, hb.trans (hb2.mono hb.size)⟩
    · have tk : decide ((k : Int) < (ln : Int)) = false := by simp; omega
      go_wp2
      go_ret
      exact ⟨.inl ⟨rfl, fun x hx => HA.out x (by rw [List.take_of_length_le (by rw [HN.out]; omega)]; exact hx)⟩, hb⟩

/-- How far the deleting has come: j looked at, i kept. -/
def KeptW (keep : Wn → Bool) (l : List Wn) (j i : Nat) (dk : List Wn) : Prop := dk.length = l.length ∧ i < j ∧ j ≤ l.length ∧ i = ((l.take j).filter keep).length ∧ dk.take i = (l.take j).filter keep ∧ dk.drop j = l.drop j
theorem KeptW.start {keep : Wn → Bool} {l : List Wn} {k : Nat} {x : Wn} (hx : l[k]? = some x) (hn : keep x = false) (h : ∀ y ∈ l.take k, keep y = true) : KeptW keep l (k + 1) k l := by
  have hk := (List.getElem?_eq_some_iff.1 hx).1
  have e : (l.take (k + 1)).filter keep = l.take k := by
    rw [List.take_add_one, hx, List.filter_append, List.filter_eq_self.2 h]
    simp [hn]
  refine ⟨rfl, by omega, by omega, ?_, ?_, rfl⟩
  · rw [e, List.length_take]; omega
  · rw [e]
theorem KeptW.at {keep : Wn → Bool} {l : List Wn} {j i : Nat} {dk : List Wn} (h : KeptW keep l j i dk) {x : Wn} (hx : l[j]? = some x) : dk[j]? = some x := by
  obtain ⟨_, _, _, _, _, h6⟩ := h
  have : (dk.drop j)[0]? = (l.drop j)[0]? := by rw [h6]
  simpa [hx] using this
theorem KeptW.yes {keep : Wn → Bool} {l : List Wn} {j i : Nat} {dk : List Wn} (h : KeptW keep l j i dk) {x : Wn} (hx : l[j]? = some x) (hk : keep x = true) : KeptW keep l (j + 1) (i + 1) (dk.set i x) := by
  obtain ⟨h1, h2, h3, h4, h5, h6⟩ := h
  have hj := (List.getElem?_eq_some_iff.1 hx).1
  have e : (l.take (j + 1)).filter keep = (l.take j).filter keep ++ [x] := by
    rw [List.take_add_one, hx, List.filter_append]
    simp [hk]
  refine ⟨by simp [h1], by omega, by omega, by rw [e]; simp [← h4], ?_, ?_⟩
  · rw [e, ← h5]
    apply List.ext_getElem?
    intro k
    rw [List.getElem?_take, List.getElem?_append, List.getElem?_set]
    have hl : (dk.take i).length = i := by rw [List.length_take]; omega
    rw [hl]
    by_cases hki : k < i
    · rw [if_pos (by omega), if_pos hki, if_neg (by omega), List.getElem?_take, if_pos hki]
    · rw [if_neg hki]
      by_cases hke : k = i
      · subst hke; simp; omega
      · rw [if_neg (by omega), List.getElem?_eq_none (by simp; omega)]
  · rw [List.drop_set, if_pos (by omega), ← List.drop_drop, ← List.drop_drop, h6]
theorem KeptW.no {keep : Wn → Bool} {l : List Wn} {j i : Nat} {dk : List Wn} (h : KeptW keep l j i dk) {x : Wn} (hx : l[j]? = some x) (hk : keep x = false) : KeptW keep l (j + 1) i dk := by
  obtain ⟨h1, h2, h3, h4, h5, h6⟩ := h
  have hj := (List.getElem?_eq_some_iff.1 hx).1
  have e : (l.take (j + 1)).filter keep = (l.take j).filter keep := by
    rw [List.take_add_one, hx, List.filter_append]
    simp [hk]
  refine ⟨h1, by omega, by omega, by rw [e, ← h4], by rw [e, h5], ?_⟩
  rw [← List.drop_drop, ← List.drop_drop, h6]
theorem Try.zeroChk (w : World) : (zeroValue 45).run Try.prog w = .ok (.agg #[.int .i64 0, .int .i64 0, .int .i64 0]) w := by kernel_rfl
theorem take_flat3 (dk : List Wn) (i : Nat) : (dk.flatMap Wn.cells).take (i * 3) = (dk.take i).flatMap Wn.cells := by
  induction dk generalizing i with
  | nil => simp
  | cons y l ih =>
    cases i with
    | zero => simp
    | succ i =>
      rw [List.take_succ_cons, List.flatMap_cons, List.flatMap_cons, ← ih i, show (i + 1) * 3 = i * 3 + 1 + 1 + 1 by omega]
      simp only [Wn.cells, List.cons_append, List.nil_append, List.take_succ_cons]
/-- But one row's block, all stays. -/
theorem grown_but {a w w' : World} {g B : Nat} (h : Below B a w) (hB : a.heap.size = B) (k : But g w w') : a.grownBy w' (some g) :=
  ⟨k.os.trans h.os, k.tape.trans h.tape, k.output.trans h.output, Nat.le_trans h.size k.size, fun i hi hn => (k.block i (Nat.lt_of_lt_of_le hi h.size) (fun e => hn (by rw [e]))).trans (h.block i (by omega))⟩
/-- What stays of those that ended. -/
def stayW (t now : Int) (l : List Wn) : List Wn := l.filter (fun x => !bkB t now x)
set_option maxRecDepth 100000 in
set_option maxHeartbeats 4000000 in
theorem delete17_any (w : World) (H E1 E2 : Nat) (t now : Int) (hB : BkBox w H E1 E2 t now) (la : Option Addr) (ln lc : Nat) (l : List Wn) (hl : ORow w 45 3 (.slice la ln lc) ln (l.flatMap Wn.cells)) (hln : l.length = ln) (hl2 : ln ≤ 1000) (hin : ∀ x ∈ l, 0 ≤ x.at_ ∧ x.at_ ≤ 1099511627776) (hne : ∀ g, ob la = some g → H ≠ g ∧ E1 ≠ g ∧ E2 ≠ g) :
    Calls Try.prog 42 #[.slice la ln lc, .func (.func 41) #[] #[.pointer (some ⟨E1, 0, none⟩), .pointer (some ⟨E2, 0, none⟩)]] w fun e w' => e = .returned (.slice la (stayW t now l).length lc) ∧ ORow w' 45 3 (.slice la (stayW t now l).length lc) (stayW t now l).length ((stayW t now l).flatMap Wn.cells) ∧ w.grownBy w' (ob la) := by
  have hI := Lib.hid (index17_any w H E1 E2 t now hB la ln lc l hl hln hl2 hin)
  have HB := Lib.hid hB; have HL := Lib.hid hl; have HN := Lib.hid hln; have HIN := Lib.hid hin; have HNE := Lib.hid hne
  clear hB hl hln hin hne
  have hk1 : ∀ k : Nat, ((k : Int) == -1) = false := fun k => beq_eq_false_iff_ne.2 (by omega)
  go_enter Try.func42, Try.ntmps42
  go_wp2_with (first | (go_at_call 43; refine hI.out.mono ?_; rintro e w1 ⟨⟨rfl, ha⟩ | ⟨k, x, rfl, hkl, hx, hn, ha⟩, hb1⟩))
  · go_ret
    have hf : stayW t now l = l := List.filter_eq_self.2 (fun x hx => by rw [ha x hx]; rfl)
    rw [hf, HN.out]
    exact ⟨rfl, HL.out.later hb1, ⟨hb1.os, hb1.tape, hb1.output, hb1.size, fun i hi _ => hb1.block i hi⟩⟩
  · have HK := Lib.hid (KeptW.start (keep := fun x => !bkB t now x) hx (by rw [hn]; rfl) (fun y hy => by rw [ha y hy]; rfl))
    obtain ⟨g, off, rfl, _⟩ := HL.out.at_ (by omega)
    obtain ⟨n1, n2, n3⟩ := HNE.out g rfl
    have HG := Lib.hid (HL.out.later hb1)
    have HB1 := Lib.hid (HB.out.later hb1)
    have hw1 := hb1.size
    have HBB := Lib.hid hb1
    clear hx hn ha hI hb1
    go_loopw [5, 6, 7] (fun s5 s6 _ wr => ∃ (i j : Nat) (dk : List Wn), s5 = .int .i64 i ∧ s6 = .int .i64 j ∧ j ≤ ln ∧ i < ln ∧ Hid (KeptW (fun x => !bkB t now x) l j i dk) ∧ Hid (ORow wr 45 3 (.slice (some ⟨g, off, none⟩) ln lc) ln (dk.flatMap Wn.cells)) ∧ Hid (BkBox wr H E1 E2 t now) ∧ But g w1 wr) (fun _ s6 _ _ => ln - (intOf s6).toNat)
    case atStart => exact ⟨k, k + 1, l, rfl, by go_num, by omega, by omega, HK, HG, HB1, But.refl _ _⟩
    case round =>
      obtain ⟨i, j, dk, rfl, rfl, hj, hi, HK2, HI2, HC2, hb⟩ := hrel
      have hij := HK2.out.2.1
      by_cases hlt : j < ln
      · have tk : decide ((j : Int) < (ln : Int)) = true := by simpa using hlt
        obtain ⟨x, hx⟩ : ∃ x, l[j]? = some x := ⟨_, List.getElem?_eq_getElem (by rw [HN.out]; exact hlt)⟩
        obtain ⟨c0, c1, c2, _⟩ := orow_at HI2.out (HK2.out.at hx) hlt
        have l0 : (0 : Int) ≤ (j : Int) := by omega
        have l1 : (j : Int) < (ln : Int) := by omega
        have l2 : (0 : Int) ≤ (i : Int) := by omega
        have l3 : (i : Int) < (ln : Int) := by omega
        have hxi := HIN.out x (List.mem_of_getElem? hx)
        have HX := Lib.hid hx
        obtain ⟨V, hV⟩ : ∃ V, V = wr.alloc (.cells #[.int .i64 x.at_, .int .i64 x.len, .int .i64 x.part] 45) := ⟨_, rfl⟩
        have hbV : Below wr.heap.size wr V := by rw [hV]; exact below1 _ _
        have hC := HC2.out.later hbV
        have HC := Lib.hid (back_any V H E1 E2 t now x hC.b3 hC.bn hC.bb hC.ht hC.hn hxi)
        have HV := Lib.hid hV
        have HBV := Lib.hid hbV
        clear hx hC hxi hV hbV
        obtain ⟨F, hF⟩ : ∃ F, F = wr.heap.size := ⟨_, rfl⟩
        have hFV : V.heap[F]? = some (.cells #[.int .i64 x.at_, .int .i64 x.len, .int .i64 x.part] 45 (0, 0)) := by rw [HV.out, hF]; exact heap_alloc_new _ _
        have v0 : V.cell? ⟨F, 0, none⟩ = some (.int .i64 x.at_) := cell_in hFV rfl
        have v1 : V.cell? ⟨F, 1, none⟩ = some (.int .i64 x.len) := cell_in hFV rfl
        have v2 : V.cell? ⟨F, 2, none⟩ = some (.int .i64 x.part) := cell_in hFV rfl
        have HF := Lib.hid hF
        clear hF hFV
        go_upto_region 8 with fail
        rw [← HV.out, ← HF.out]
        cases hh : bkB t now x with
        | false =>
          have HH := Lib.hid hh; clear hh
          have ks : ∀ W : World, Below V.heap.size V W → (W.cell? ⟨F, 0, none⟩ = some (.int .i64 x.at_) ∧ W.cell? ⟨F, 1, none⟩ = some (.int .i64 x.len) ∧ W.cell? ⟨F, 2, none⟩ = some (.int .i64 x.part)) ∧ ∃ y : Wn, W.cell? ⟨g, off + i * 3, none⟩ = some (.int .i64 y.at_) ∧ W.cell? ⟨g, off + i * 3 + 1, none⟩ = some (.int .i64 y.len) ∧ W.cell? ⟨g, off + i * 3 + 2, none⟩ = some (.int .i64 y.part) ∧ (∀ j, W.frozen? ⟨g, j, none⟩ = false) := by
            intro W h
            obtain ⟨u, hu⟩ : ∃ u, dk[i]? = some u := ⟨_, List.getElem?_eq_getElem (by rw [HK2.out.1, HN.out]; omega)⟩
            exact ⟨⟨cell_later v0 h, cell_later v1 h, cell_later v2 h⟩, u, orow_at ((HI2.out.later HBV.out).later h) hu hi⟩
          have KS := Lib.hid ks; clear ks
          go_wp2_with (first | (go_at_call 41; refine HC.out.mono ?_; rintro e w2 ⟨rfl, hb2'⟩; have hb2 := Lib.hid hb2'; rw [HH.out]; obtain ⟨⟨u0, u1, u2⟩, y, y0, y1, y2, yf⟩ := KS.out _ hb2'; have f0 := yf (off + i * 3); have f1 := yf (off + i * 3 + 1); have f2 := yf (off + i * 3 + 2); clear yf hb2'))
          go_roundw
          case rel =>
            have hB2 := (HBV.out.trans (hb2.out.mono HBV.out.size))
            have hB3 : But g w2 _ := (((But.refl g w2).set (off + i * 3) (.int .i64 x.at_)).set (off + i * 3 + 1) (.int .i64 x.len)).set (off + i * 3 + 2) (.int .i64 x.part)
            refine ⟨i + 1, j + 1, dk.set i x, by go_num, by go_num, by omega, ?_, Lib.hid (HK2.out.yes HX.out (by simp only [HH.out]; rfl)), Lib.hid ((HI2.out.later hB2).set3 (by rw [HK2.out.1, HN.out]) hi x), Lib.hid ((HC2.out.later hB2).hold hB3 n1 n2 n3), ?_⟩
            · omega
            · exact hb.trans ((But.of_below hB2).trans hB3)
          case measure => simp [intOf]; omega
        | true =>
          have HH := Lib.hid hh; clear hh
          go_wp2_with (first | (go_at_call 41; refine HC.out.mono ?_; rintro e w2 ⟨rfl, hb2'⟩; have hb2 := Lib.hid hb2'; rw [HH.out]; clear hb2'))
          go_roundw
          case rel =>
            have hB2 := (HBV.out.trans (hb2.out.mono HBV.out.size))
            exact ⟨i, j + 1, dk, rfl, by go_num, by omega, hi, Lib.hid (HK2.out.no HX.out (by simp only [HH.out]; rfl)), Lib.hid (HI2.out.later hB2), Lib.hid (HC2.out.later hB2), hb.trans (But.of_below hB2)⟩
          case measure => simp [intOf]; omega
      · have tk : decide ((j : Int) < (ln : Int)) = false := by simp; omega
        have hlc := HI2.out.form.2.1
        have hcl : ∀ ty, (Builtin.clear_ #[42] ty #[.slice (some ⟨g, off + i * 3, none⟩) (ln - i) (lc - i)]).run Try.prog wr = .ok (.tuple #[]) (wr.setCells g (off + i * 3) (Builtin.zeroCells (Value.agg #[.int .i64 0, .int .i64 0, .int .i64 0]).cells (ln - i)).toList) :=
          fun ty => run_clear_off wr _ _ ty _ Try.underlying42 Try.zeroChk (by simp [Value.cells, Value.oneCell']) g (off + i * 3) _ _ (by omega) (fun q hq => by
            obtain ⟨g', off', e, hc, hf, _⟩ := HI2.out.at_ (by omega)
            cases e
            have hq3 : q < (ln - i) * 3 := hq
            have hlen : (dk.flatMap Wn.cells).length = ln * 3 := HI2.out.1
            rw [show off + i * 3 + q = off + (i * 3 + q) by omega, hc (i * 3 + q) _ (List.getElem?_eq_getElem (by rw [hlen, Nat.sub_mul] at *; omega))]; rfl) (fun q hq => by
            obtain ⟨g', off', e, hc, hf, _⟩ := HI2.out.at_ (by omega)
            cases e
            exact hf _)
        have l2 : (0 : Int) ≤ (i : Int) := by omega
        have l3 : (i : Int) ≤ (ln : Int) := by omega
        have l4 : (i : Int) ≤ (lc : Int) := by omega
        have l5 : lc ≠ i := by omega
        have HWR := Lib.hid hb
        clear hb
        go_wp2
        go_ret
        obtain ⟨q1, q2, q3, q4, q5, q6⟩ := HK2.out
        have ej : j = l.length := by rw [HN.out]; omega
        rw [ej, List.take_length] at q4 q5
        obtain ⟨hr, hbut⟩ := HI2.out.head (i := i) (vs := (Builtin.zeroCells #[.int .i64 0, .int .i64 0, .int .i64 0] (ln - i)).toList) (by omega)
        rw [take_flat3, q5] at hr
        have e1 : i = (stayW t now l).length := q4
        rw [show List.filter (fun x => !bkB t now x) l = stayW t now l from rfl, e1] at hr
        rw [e1] at hbut ⊢
        exact ⟨rfl, hr, grown_but HBB.out rfl (HWR.out.trans hbut)⟩
/-! ### takeBack -/
def sumP (l : List Wn) : Int := (l.map (·.part)).sum
/-- What comes back of them. -/
def comeW (t now : Int) (l : List Wn) : Int := sumP (l.filter (bkB t now))
theorem comeW_snoc (t now : Int) (l : List Wn) (x : Wn) : comeW t now (l ++ [x]) = comeW t now l + (if bkB t now x = true then x.part else 0) := by
  unfold comeW
  rw [List.filter_append]
  cases h : bkB t now x <;> simp [h, sumP]
theorem comeW_bd (t now : Int) : ∀ l : List Wn, (∀ x ∈ l, 0 ≤ x.part) → 0 ≤ comeW t now l ∧ comeW t now l ≤ sumP l
  | [], _ => by simp [comeW, sumP]
  | x :: l, h => by
    have ih := comeW_bd t now l (fun y hy => h y (List.mem_cons_of_mem _ hy))
    have hx := h x (List.mem_cons_self ..)
    unfold comeW at ih ⊢
    cases hb : bkB t now x with
    | true => rw [List.filter_cons_of_pos hb]; simp only [sumP, List.map_cons, List.sum_cons] at ih ⊢; omega
    | false => rw [List.filter_cons_of_neg (by rw [hb]; simp)]; simp only [sumP, List.map_cons, List.sum_cons] at ih ⊢; omega
theorem sumP_take {l : List Wn} (h : ∀ x ∈ l, 0 ≤ x.part) (k : Nat) : sumP (l.take k) ≤ sumP l := by
  have e : sumP (l.take k ++ l.drop k) = sumP (l.take k) + sumP (l.drop k) := by unfold sumP; rw [List.map_append, List.sum_append]
  rw [List.take_append_drop] at e
  have h2 : ∀ m : List Wn, (∀ x ∈ m, 0 ≤ x.part) → 0 ≤ sumP m := fun m => by
    induction m with
    | nil => intro _; simp [sumP]
    | cons y m ih =>
      intro hm
      have := ih (fun z hz => hm z (List.mem_cons_of_mem _ hz))
      have := hm y (List.mem_cons_self ..)
      simp only [sumP, List.map_cons, List.sum_cons] at *; omega
  have := h2 (l.drop k) (fun x hx => h x (List.mem_of_mem_drop hx))
  omega
theorem CkB.took {w w3 : World} {H : Nat} {s : Sv} {f : Int} {st : Bool} {la ea : Option Addr} {lc ec : Nat} {lv en en' : List Wn} (h : CkB w H s f st la lc lv ea ec en) (ho : ORow w3 45 3 (.slice ea en'.length ec) en'.length (en'.flatMap Wn.cells)) (hg : w.grownBy w3 (ob ea)) :
    CkB (w3.setCell ⟨H, 6, none⟩ (.slice ea en'.length ec)) H s f st la lc lv ea ec en' ∧ GrowS (Bl H la ea) (Bl H la ea) w (w3.setCell ⟨H, 6, none⟩ (.slice ea en'.length ec)) := by
  have s1 := hg.size
  have hz : (w3.setCell ⟨H, 6, none⟩ (.slice ea en'.length ec)).heap.size = w3.heap.size := by simp
  have hB : But H w3 (w3.setCell ⟨H, 6, none⟩ (.slice ea en'.length ec)) := (But.refl H w3).set 6 _
  have hbx := (hg.block H (lt_of_block h.box) (fun e => (h.le H e.symm).2 rfl)).trans h.box
  refine ⟨⟨set_at hbx, h.l.hold (fun g hg' => ?_), ho.hold (fun g hg' => ?_), h.d⟩, ⟨hB.os.trans hg.os, hB.tape.trans hg.tape, hB.output.trans hg.output, by omega, fun k hk hn => ?_, fun k hk => .inl hk⟩⟩
  · rw [own_ob] at hg'
    have := h.ll g hg'
    exact (hB.block g (by omega) this.2).trans (hg.block g this.1 (fun e => h.d g hg' e.symm))
  · rw [own_ob] at hg'
    have := h.le g hg'
    exact hB.block g (by omega) this.2
  · exact (hB.block k (by omega) (fun e => hn (.inl e))).trans (hg.block k hk (fun e => hn (.inr (.inr e.symm))))
set_option maxRecDepth 100000 in
set_option maxHeartbeats 4000000 in
theorem takeBack_ck (w : World) (H : Nat) (s : Sv) (f : Int) (st : Bool) (la ea : Option Addr) (lc ec : Nat) (lv en : List Wn) (h : CkB w H s f st la lc lv ea ec en) (hl : en.length ≤ 1000) (hs : 1 ≤ s.t ∧ s.t ≤ 1000) (now : Int) (hn : 0 ≤ now ∧ now ≤ 1099511627776) (hin : ∀ x ∈ en, 0 ≤ x.at_ ∧ x.at_ ≤ 1099511627776) (hp : ∀ x ∈ en, 0 ≤ x.part) (hf : 0 ≤ f ∧ f ≤ 1000) (hsum : sumP en ≤ 1000) :
    Calls Try.prog 30 #[.pointer (some ⟨H, 0, none⟩), .int .i64 now] w fun e w' => e = .returned (.tuple #[]) ∧ CkB w' H s (f + comeW s.t now en) st la lc lv ea ec (stayW s.t now en) ∧ GrowS (Bl H la ea) (Bl H la ea) w w' := by
  obtain ⟨n, hnn⟩ : ∃ n, n = en.length := ⟨_, rfl⟩
  obtain ⟨V, hV⟩ : ∃ V, V = (w.alloc (.cells #[.pointer (some ⟨H, 0, none⟩)] 26)).alloc (.cells #[.int .i64 now] 3) := ⟨_, rfl⟩
  obtain ⟨E2, hE2⟩ : ∃ E2, E2 = w.heap.size := ⟨_, rfl⟩
  obtain ⟨E1, hE1⟩ : ∃ E1, E1 = w.heap.size + 1 := ⟨_, rfl⟩
  have hbV : Below w.heap.size w V := by rw [hV]; exact b_alloc (below1 _ _) (Nat.le_refl _) _
  have hkV := h.later hbV
  have c2 : V.cell? ⟨E2, 0, none⟩ = some (.pointer (some ⟨H, 0, none⟩)) := by rw [hV, hE2]; exact Lib.cell?_alloc_some _ (cell_in (heap_alloc_new w _) rfl)
  have c1 : V.cell? ⟨E1, 0, none⟩ = some (.int .i64 now) := by
    have := heap_alloc_new (w.alloc (.cells #[.pointer (some ⟨H, 0, none⟩)] 26)) (.cells #[.int .i64 now] 3)
    rw [hV, hE1]
    exact cell_in (b := w.heap.size + 1) (by simpa using this) rfl
  go_enter Try.func30, Try.ntmps30
  go_upto_region 1 with fail
  rw [← hV, ← hE1, ← hE2]
  have b6 := hkV.c6
  rw [← hnn] at b6 hl
  have hE1H : E1 ≠ H := fun e => by have := lt_of_block h.box; omega
  have hE2H : E2 ≠ H := fun e => by have := lt_of_block h.box; omega
  have hEe : ∀ g, ob ea = some g → H ≠ g ∧ E1 ≠ g ∧ E2 ≠ g := fun g hg => by have := h.le g hg; omega
  have HBK : Hid (BkBox V H E1 E2 s.t now) := Lib.hid ⟨hkV.c3, c1, c2, hs, hn⟩
  have HKV := Lib.hid hkV
  have HH := Lib.hid h
  have HV := Lib.hid hV
  have HBV := Lib.hid hbV
  have HNN := Lib.hid hnn
  have HIN := Lib.hid hin
  have HP := Lib.hid hp
  have HSUM := Lib.hid hsum
  have HEE := Lib.hid hEe
  have HE1 := Lib.hid hE1
  have HE2 := Lib.hid hE2
  have hEv1 : E1 < V.heap.size := World.block_lt_of_cell? _ _ c1
  have hEv2 : E2 < V.heap.size := World.block_lt_of_cell? _ _ c2
  have hz0 : comeW s.t now [] = 0 := rfl
  clear hkV h hV hbV hnn hin hp hsum hEe hE1 hE2 c1
  go_wp2_with fail
  go_loopw [13] (fun i wr => ∃ k : Nat, k ≤ n ∧ i = .int .i64 k ∧ Hid (CkB wr H s (f + comeW s.t now (en.take k)) st la lc lv ea ec en) ∧ Hid (But H V wr)) (fun i _ => n - (intOf i).toNat)
  case atStart => exact ⟨0, by omega, rfl, Lib.hid (by rw [List.take_zero, hz0, Int.add_zero]; exact HKV.out), Lib.hid (But.refl _ _)⟩
  case round =>
    obtain ⟨k, hk, rfl, HK, HB⟩ := hrel
    have HBW : Hid (BkBox wr H E1 E2 s.t now) := Lib.hid ⟨HK.out.c3, (World.cell?_of_block (HB.out.block _ hEv1 hE1H)).trans HBK.out.bn, (World.cell?_of_block (HB.out.block _ hEv2 hE2H)).trans HBK.out.bb, hs, hn⟩
    by_cases hlt : k < n
    · have tk : decide ((k : Int) < (n : Int)) = true := by simpa using hlt
      obtain ⟨x, hx⟩ : ∃ x, en[k]? = some x := ⟨_, List.getElem?_eq_getElem (by rw [← HNN.out]; exact hlt)⟩
      have hoe := HK.out.e
      rw [← HNN.out] at hoe
      obtain ⟨g, off, hea, _⟩ := hoe.at_ (by omega)
      have hx0 := hoe
      rw [hea] at hx0
      obtain ⟨y0, y1, y2, _⟩ := orow_at hx0 hx hlt
      have l0 : (0 : Int) ≤ (k : Int) := by omega
      have l1 : (k : Int) < (n : Int) := by omega
      have hxi := HIN.out x (List.mem_of_getElem? hx)
      have hxp := HP.out x (List.mem_of_getElem? hx)
      have HX := Lib.hid hx
      have hc0 := (comeW_bd s.t now (en.take k) (fun y hy => HP.out y (List.mem_of_mem_take hy)))
      have hc1 := sumP_take HP.out k
      have hc2 := sumP_take HP.out (k + 1)
      have hts : en.take (k + 1) = en.take k ++ [x] := by rw [List.take_add_one, hx]; rfl
      have hc3 : sumP (en.take (k + 1)) = sumP (en.take k) + x.part := by rw [hts]; simp [sumP]
      have HTS := Lib.hid hts
      have hsm := HSUM.out
      obtain ⟨fc, hfc⟩ : ∃ fc, fc = f + comeW s.t now (en.take k) := ⟨_, rfl⟩
      have hfb : 0 ≤ fc ∧ fc + x.part ≤ 2000 := by omega
      rw [← hfc] at HK
      have HFC := Lib.hid hfc
      have HEA := Lib.hid hea
      obtain ⟨U, hU⟩ : ∃ U, U = wr.alloc (.cells #[.int .i64 x.at_, .int .i64 x.len, .int .i64 x.part] 45) := ⟨_, rfl⟩
      obtain ⟨F, hF⟩ : ∃ F, F = wr.heap.size := ⟨_, rfl⟩
      have hbU : Below wr.heap.size wr U := by rw [hU]; exact below1 _ _
      have hFU : U.heap[F]? = some (.cells #[.int .i64 x.at_, .int .i64 x.len, .int .i64 x.part] 45 (0, 0)) := by rw [hU, hF]; exact heap_alloc_new _ _
      have v0 : U.cell? ⟨F, 0, none⟩ = some (.int .i64 x.at_) := cell_in hFU rfl
      have v1 : U.cell? ⟨F, 1, none⟩ = some (.int .i64 x.len) := cell_in hFU rfl
      have v2 : U.cell? ⟨F, 2, none⟩ = some (.int .i64 x.part) := cell_in hFU rfl
      have hFH : F ≠ H := fun e => by have := lt_of_block HK.out.box; omega
      have hHF : H ≠ F := fun e => hFH e.symm
      have hC := HBW.out.later hbU
      have HC := Lib.hid (back_any U H E1 E2 s.t now x hC.b3 hC.bn hC.bb hC.ht hC.hn hxi)
      have HKU := Lib.hid (HK.out.later hbU)
      have HBU := Lib.hid hbU
      have HU := Lib.hid hU
      have HF := Lib.hid hF
      have HCB := Lib.hid hC
      have hw : IntKind.i64.wrap (fc + x.part) = fc + x.part := IntWalk.i64_in _ (by omega)
      clear hU hF hbU hFU hx hx0 hoe hfc hts hc0 hc1 hc2 hc3 hC hsm
      rw [hea] at b6
      rw [hea]
      go_upto_region 5 with fail
      rw [← HU.out, ← HF.out]
      cases hh : bkB s.t now x with
      | true =>
        have HHB := Lib.hid hh
        have HTC : Hid (f + comeW s.t now (en.take (k + 1)) = fc + x.part) := Lib.hid (by rw [HTS.out, comeW_snoc, hh, HFC.out]; simp; omega)
        clear hh
        go_wp2_with (first | (go_at_call 41; refine HC.out.mono ?_; rintro e w2 ⟨rfl, hb2'⟩; have hb2 := Lib.hid hb2'; rw [HHB.out]; have m2 := cell_later v2 hb2'; have m1 := (HCB.out.later hb2').bb; have m4 := (HKU.out.later hb2').c4; have n4 := (HKU.out.later hb2').fz 4; clear hb2'))
        go_region
        go_wp2_with fail
        go_roundw
        case rel =>
          have hB2 := HBU.out.trans (hb2.out.mono HBU.out.size)
          have hX : But H w2 (w2.setCell ⟨H, 4, none⟩ (.int .i64 (fc + x.part))).drew := ((But.refl H w2).set 4 _).drew
          have hk2 := HKU.out.later hb2.out
          refine ⟨k + 1, by omega, by go_num, Lib.hid ?_, Lib.hid (HB.out.trans ((But.of_below hB2).trans hX))⟩
          rw [HTC.out, ← HEA.out]
          exact hk2.boxed (set_at hk2.box) (fun q hq hqn => hX.block q hq hqn)
        case measure => simp [intOf]; omega
      | false =>
        have HHB := Lib.hid hh
        have HTC : Hid (f + comeW s.t now (en.take (k + 1)) = fc) := Lib.hid (by rw [HTS.out, comeW_snoc, hh, HFC.out]; simp)
        clear hh
        go_wp2_with (first | (go_at_call 41; refine HC.out.mono ?_; rintro e w2 ⟨rfl, hb2'⟩; have hb2 := Lib.hid hb2'; rw [HHB.out]; clear hb2'))
        go_roundw
        case rel =>
          have hB2 := HBU.out.trans (hb2.out.mono HBU.out.size)
          exact ⟨k + 1, by omega, by go_num, Lib.hid (by rw [HTC.out, ← HEA.out]; exact HKU.out.later hb2.out), Lib.hid (HB.out.trans (But.of_below hB2))⟩
        case measure => simp [intOf]; omega
    · have tk : decide ((k : Int) < (n : Int)) = false := by simp; omega
      have hkn : k = n := by omega
      subst hkn
      rw [List.take_of_length_le (by rw [← HNN.out]; exact Nat.le_refl _)] at HK
      have HD : Hid (∀ W, Below wr.heap.size wr W → Calls Try.prog 42 #[.slice ea k ec, .func (.func 41) #[] #[.pointer (some ⟨E1, 0, none⟩), .pointer (some ⟨E2, 0, none⟩)]] W fun e w' => e = .returned (.slice ea (stayW s.t now en).length ec) ∧ (ORow w' 45 3 (.slice ea (stayW s.t now en).length ec) (stayW s.t now en).length ((stayW s.t now en).flatMap Wn.cells) ∧ wr.grownBy w' (ob ea)) ∧ w'.cell? ⟨E2, 0, none⟩ = some (.pointer (some ⟨H, 0, none⟩)) ∧ w'.cell? ⟨H, 6, none⟩ = some (.slice ea k ec) ∧ w'.frozen? ⟨H, 6, none⟩ = false) := Lib.hid (fun W hW => by
        have hoe := (HK.out.later hW).e
        rw [← HNN.out] at hoe
        refine (delete17_any W H E1 E2 s.t now (HBW.out.later hW) ea k ec en hoe HNN.out.symm hl HIN.out HEE.out).mono ?_
        rintro e w' ⟨rfl, h1, h2⟩
        have hg : wr.grownBy w' (ob ea) := ⟨h2.os.trans hW.os, h2.tape.trans hW.tape, h2.output.trans hW.output, Nat.le_trans hW.size h2.size, fun i hi hn => (h2.block i (Nat.lt_of_lt_of_le hi hW.size) hn).trans (hW.block i hi)⟩
        have hbx := (hg.block H (lt_of_block HK.out.box) (fun e => (HEE.out H e.symm).1 rfl)).trans HK.out.box
        refine ⟨rfl, ⟨h1, hg⟩, (World.cell?_of_block (hg.block E2 (World.block_lt_of_cell? _ _ HBW.out.bb) (fun e => (HEE.out E2 e.symm).2.2 rfl))).trans HBW.out.bb, ?_, free_in hbx _⟩
        rw [HNN.out]
        exact cell_in hbx rfl)
      have m1 := HBW.out.bb
      have m6 := HK.out.c6
      rw [← HNN.out] at m6
      go_upto_region 8 with fail
      have HD0 := Lib.hid (HD.out _ (Below.refl _ _))
      have HD1 := Lib.hid (HD.out _ (Below.refl _ _).drew)
      go_region_with (first
        | (go_at_call 42; refine HD1.out.mono ?_; rintro e w3 ⟨rfl, h3', n1, n6, nf⟩; have h3 := Lib.hid h3'; clear h3')
        | (go_at_call 42; refine HD0.out.mono ?_; rintro e w3 ⟨rfl, h3', n1, n6, nf⟩; have h3 := Lib.hid h3'; clear h3')
        | fail "no arm")
      all_goals
        go_wp2_with fail
        go_end0
        obtain ⟨t1, t2⟩ := HK.out.took h3.out.1 h3.out.2
        exact ⟨rfl, t1, ((GrowS.of_below HBV.out).trans (grow_but HB.out (.inl rfl))).trans t2⟩
end Go.Proofs.Ytoofkeeoolgpdaa
