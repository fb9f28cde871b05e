/- Joined of FlowD, FlowE, FlowF, FlowG, FlowH, FlowI: The numbers of a list that are partitions' (slices.Clone, IndexFunc, DeleteFunc at ints). -/
import Derived.Test.YtkikapodobeaaaaFlowSets
import Derived.Test.YtkikapodobeaaaaNames
import Derived.Lib.SliceRun
namespace Go.Proofs.Ytkikapodobeaaaa
open Go.ChangeShapes Go.WideShapes Go.ChangeAt Go.RowKit
set_option linter.unusedVariables false
attribute [local go_sem ↓] Go.wp_at_zero Go.wp_at_succ

/-- A system's box. -/
def CBox (w : World) (B : Nat) (fr mg : Int) (wa pa ca : Option Addr) (wn wc pn pc cn cc : Nat) : Prop := w.heap[B]? = some (.cells #[.int .i64 fr, .int .i64 mg, .slice wa wn wc, .slice pa pn pc, .slice ca cn cc] 35 (0, 0))
theorem CBox.later {w w' : World} {B : Nat} {fr mg : Int} {wa pa ca : Option Addr} {wn wc pn pc cn cc : Nat} (h : CBox w B fr mg wa pa ca wn wc pn pc cn cc) (hb : Below w.heap.size w w') : CBox w' B fr mg wa pa ca wn wc pn pc cn cc :=
  (hb.block B (lt_of_block h)).trans h
/-- Ints in a block of their own. -/
def IAt (w : World) (g : Nat) (xs : List Int) : Prop := ∃ arr, w.heap[g]? = some (.cells arr 3 (0, 0)) ∧ arr.toList.take xs.length = xs.map (Value.int .i64)
theorem IAt.lt {w : World} {g : Nat} {xs : List Int} (h : IAt w g xs) : g < w.heap.size := let ⟨_, h1, _⟩ := h; lt_of_block h1
theorem IAt.later {w w' : World} {g : Nat} {xs : List Int} (h : IAt w g xs) (hb : Below w.heap.size w w') : IAt w' g xs :=
  let ⟨arr, h1, h2⟩ := h; ⟨arr, (hb.block g (lt_of_block h1)).trans h1, h2⟩
theorem arr_at {arr : Array Value} {xs : List Int} (h : arr.toList.take xs.length = xs.map (Value.int .i64)) {k : Nat} {x : Int} (hx : xs[k]? = some x) : arr[k]? = some (.int .i64 x) := by
  have hk := (List.getElem?_eq_some_iff.1 hx).1
  have h1 : (arr.toList.take xs.length)[k]? = (xs.map (Value.int .i64))[k]? := by rw [h]
  rw [List.getElem?_take_of_lt hk, List.getElem?_map, hx] at h1
  simpa using h1
theorem IAt.cell {w : World} {g : Nat} {xs : List Int} (h : IAt w g xs) {k : Nat} {x : Int} (hx : xs[k]? = some x) : w.cell? ⟨g, k, none⟩ = some (.int .i64 x) ∧ w.frozen? ⟨g, k, none⟩ = false :=
  let ⟨arr, h1, h2⟩ := h; ⟨cell_in h1 (arr_at h2 hx), free_in h1 k⟩
theorem IAt.set {w : World} {g : Nat} {xs : List Int} (h : IAt w g xs) (k : Nat) (y : Int) : IAt (w.setCell ⟨g, k, none⟩ (.int .i64 y)) g (xs.set k y) := by
  obtain ⟨arr, h1, h2⟩ := h
  refine ⟨_, set_at h1, ?_⟩
  rw [List.length_set]
  apply List.ext_getElem?
  intro j
  by_cases hj : j < xs.length
  · have hz := arr_at h2 (List.getElem?_eq_getElem hj)
    have hjs : j < arr.size := (Array.getElem?_eq_some_iff.1 hz).1
    rw [List.getElem?_take_of_lt hj, Array.getElem?_toList, List.getElem?_map, List.getElem?_set, Array.getElem?_setIfInBounds]
    by_cases hk : k = j
    · subst hk; simp [hj, hjs]
    · simp only [if_neg hk, hz, List.getElem?_eq_getElem hj]; rfl
  · rw [List.getElem?_take_eq_none (by omega), List.getElem?_eq_none (by simp; omega)]
theorem flat_int : ∀ xs : List Int, xs.flatMap intCells = xs.map (Value.int .i64)
  | [] => rfl
  | x :: l => by rw [List.flatMap_cons, flat_int l]; rfl
theorem IAt.of_owns {w : World} {base g n cap : Nat} {xs : List Int} (h : w.ownsRow base 3 1 (.slice (some ⟨g, 0, none⟩) n cap) n (xs.flatMap intCells)) (hn : xs.length = n) : IAt w g xs := by
  rcases h.2 with ⟨h, _⟩ | ⟨g', cap', cur, hv, _, hg, _, _, _, ht⟩
  · cases h
  · cases hv
    refine ⟨cur, hg, ?_⟩
    rw [hn, ← Nat.mul_one n, ht, flat_int]
theorem IAt.lies {w : World} {g lo hi cap : Nat} {xs : List Int} (h : IAt w g xs) (h1 : lo ≤ g) (h2 : g < hi) {ys : List Int} {n : Nat} (hn : ys.length = n) (hp : xs.take n = ys) : Lies w lo hi (.slice (some ⟨g, 0, none⟩) n cap) n 1 (ys.flatMap intCells) := by
  refine ⟨_, _, rfl, by rw [flat_len intCells 1 (fun _ => rfl), hn], (fun h => by cases h), .inr ⟨g, 0, rfl, h1, h2, fun k u hu => ?_⟩⟩
  rw [Nat.zero_add]
  have hk : k < ys.length := by
    have := (List.getElem?_eq_some_iff.1 hu).1
    rw [flat_len intCells 1 (fun _ => rfl)] at this
    omega
  have e := flat_at intCells 1 (fun _ => rfl) ys k 0 ys[k] (List.getElem?_eq_getElem hk) (by omega)
  simp only [Nat.mul_one, Nat.add_zero] at e
  rw [e] at hu
  simp [intCells] at hu
  subst hu
  refine (h.cell ?_).1
  have h3 : (xs.take n)[k]? = ys[k]? := by rw [hp]
  rw [List.getElem?_take_of_lt (by omega)] at h3
  rw [h3]
  exact List.getElem?_eq_getElem hk
theorem Lies.int {w : World} {b off : Nat} {xs : List Int} {i : Nat} {x : Int} (h : ∀ k u, (xs.flatMap intCells)[k]? = some u → w.cell? ⟨b, off + k, none⟩ = some u) (hx : xs[i]? = some x) : w.cell? ⟨b, off + i, none⟩ = some (.int .i64 x) := by
  have e := flat_at intCells 1 (fun _ => rfl) xs i 0 x hx (by omega)
  simp only [Nat.mul_one, Nat.add_zero] at e
  exact h i _ (by rw [e]; rfl)
theorem setCells_at : ∀ (vs : List Value) (w : World) (b o : Nat) (arr : Array Value) (t : TypeId), w.heap[b]? = some (.cells arr t (0, 0)) → ∃ arr', (w.setCells b o vs).heap[b]? = some (.cells arr' t (0, 0)) ∧ (∀ k, k < o → arr'[k]? = arr[k]?) ∧ But b w (w.setCells b o vs)
  | [], w, b, o, arr, t, h => ⟨arr, h, fun _ _ => rfl, But.refl _ _⟩
  | v :: r, w, b, o, arr, t, h => by
    obtain ⟨a2, h2, h3, h4⟩ := setCells_at r (w.setCell ⟨b, o, none⟩ v) b (o + 1) _ t (set_at h)
    refine ⟨a2, h2, fun k hk => ?_, ((But.refl b w).set o v).trans h4⟩
    rw [h3 k (by omega), Array.getElem?_setIfInBounds, if_neg (by omega)]

/-! ### known -/
theorem Try.zeroI (w : World) : (zeroValue 3).run Try.prog w = .ok (.int .i64 0) w := by kernel_rfl
set_option maxHeartbeats 1000000 in
theorem kn_any (fr mg x : Int) (wa pa ca : Option Addr) (wn wc pn pc cn cc B : Nat) (w : World) (hB : CBox w B fr mg wa pa ca wn wc pn pc cn cc) :
    Calls Try.prog 47 #[.int .i64 x, .pointer (some ⟨B, 0, none⟩)] w fun e w' => e = .returned (.bool (!hasB pn x)) ∧ Below w.heap.size w w' := by
  have c0 : w.cell? ⟨B, 0, none⟩ = some (.int .i64 fr) := cell_in hB rfl
  have c1 : w.cell? ⟨B, 1, none⟩ = some (.int .i64 mg) := cell_in hB rfl
  have c2 : w.cell? ⟨B, 2, none⟩ = some (.slice wa wn wc) := cell_in hB rfl
  have c3 : w.cell? ⟨B, 3, none⟩ = some (.slice pa pn pc) := cell_in hB rfl
  have c4 : w.cell? ⟨B, 4, none⟩ = some (.slice ca cn cc) := cell_in hB rfl
  clear hB
  cases hh : hasB pn x with
  | false =>
    have HH := Lib.hid hh; clear hh
    go_enter Try.func47, Try.ntmps47
    go_wp2_with (first | (go_at_call 20; refine (has_any _ _ _ _ _ _ _ _ _ _ _ _ _).mono ?_; rintro e w' ⟨rfl, hb⟩; rw [HH.out]))
    go_ret
    exact ⟨rfl, hb⟩
  | true =>
    have HH := Lib.hid hh; clear hh
    go_enter Try.func47, Try.ntmps47
    go_wp2_with (first | (go_at_call 20; refine (has_any _ _ _ _ _ _ _ _ _ _ _ _ _).mono ?_; rintro e w' ⟨rfl, hb⟩; rw [HH.out]))
    go_ret
    exact ⟨rfl, hb⟩
set_option maxRecDepth 100000 in
set_option maxHeartbeats 4000000 in
theorem index_any (fr mg : Int) (wa pa ca : Option Addr) (wn wc pn pc cn cc B : Nat) (w : World) (hB : CBox w B fr mg wa pa ca wn wc pn pc cn cc) (la : Option Addr) (ln lc : Nat) (l : List Int) (hl : ln = 0 ∨ ∃ g, la = some ⟨g, 0, none⟩ ∧ IAt w g l) (hln : l.length = ln) (hl2 : ln ≤ 1000) :
    Calls Try.prog 52 #[.slice la ln lc, .func (.func 47) #[] #[.pointer (some ⟨B, 0, none⟩)]] w fun e w' => ((e = .returned (.int .i64 (-1)) ∧ ∀ x ∈ l, hasB pn x = true) ∨ ∃ (k : Nat) (x : Int), e = .returned (.int .i64 k) ∧ k < ln ∧ l[k]? = some x ∧ hasB pn x = false ∧ ∀ y ∈ l.take k, hasB pn y = true) ∧ Below w.heap.size w w' := by
  have HB := Lib.hid hB; have HL := Lib.hid hl; have HN := Lib.hid hln
  clear hB hl hln
  go_enter Try.func52, Try.ntmps52
  go_wp2_with fail
  go_loopw [8] (fun i wr => ∃ k : Nat, k ≤ ln ∧ i = .int .i64 k ∧ Hid (∀ y ∈ l.take k, hasB pn y = true) ∧ Below w.heap.size w wr) (fun i _ => ln - (intOf i).toNat)
  case atStart => exact ⟨0, by omega, rfl, Lib.hid (by simp), Below.refl _ _⟩
  case round =>
    obtain ⟨k, hk, rfl, HA, hb⟩ := hrel
    by_cases hlt : k < ln
    · have tk : decide ((k : Int) < (ln : Int)) = true := by simpa using hlt
      obtain ⟨x, hx⟩ : ∃ x, l[k]? = some x := ⟨_, List.getElem?_eq_getElem (by rw [HN.out]; exact hlt)⟩
      obtain ⟨g, rfl, hg⟩ := HL.out.resolve_left (by omega)
      obtain ⟨c0, _⟩ := (hg.later hb).cell hx
      have HX := Lib.hid hx
      have HC := Lib.hid (HB.out.later hb)
      clear hx
      cases hh : hasB pn x with
      | true =>
        have HH := Lib.hid hh; clear hh
        go_wp2_with (first | (go_at_call 47; refine (kn_any _ _ _ _ _ _ _ _ _ _ _ _ _ _ HC.out).mono ?_; rintro e w' ⟨rfl, hb2⟩; rw [HH.out]))
        go_roundw
        case rel =>
          refine ⟨k + 1, by omega, by go_num, Lib.hid (fun y hy => ?_), hb.trans (hb2.mono hb.size)⟩
          rw [List.take_add_one, HX.out] at hy
          rcases List.mem_append.1 hy with hy | hy
          · exact HA.out y hy
          · simp at hy; subst hy; exact HH.out
        case measure => simp [intOf]; omega
      | false =>
        have HH := Lib.hid hh; clear hh
        go_wp2_with (first | (go_at_call 47; refine (kn_any _ _ _ _ _ _ _ _ _ _ _ _ _ _ HC.out).mono ?_; rintro e w' ⟨rfl, hb2⟩; rw [HH.out]))
        go_ret
        exact ⟨.inr ⟨k, x, rfl, hlt, HX.out, HH.out, HA.out⟩, hb.trans (hb2.mono hb.size)⟩
    · have tk : decide ((k : Int) < (ln : Int)) = false := by simp; omega
      go_wp2
      go_ret
      exact ⟨.inl ⟨rfl, fun x hx => HA.out x (by rw [List.take_of_length_le (by rw [HN.out]; omega)]; exact hx)⟩, hb⟩

/-- How far the deleting has come: j looked at, i kept. -/
def Kept (keep : Int → Bool) (l : List Int) (j i : Nat) (dk : List Int) : Prop := dk.length = l.length ∧ i < j ∧ j ≤ l.length ∧ i = ((l.take j).filter keep).length ∧ dk.take i = (l.take j).filter keep ∧ dk.drop j = l.drop j
theorem Kept.start {keep : Int → Bool} {l : List Int} {k : Nat} {x : Int} (hx : l[k]? = some x) (hn : keep x = false) (h : ∀ y ∈ l.take k, keep y = true) : Kept keep l (k + 1) k l := by
  have hk := (List.getElem?_eq_some_iff.1 hx).1
  have e : (l.take (k + 1)).filter keep = l.take k := by
    rw [List.take_add_one, hx, List.filter_append, List.filter_eq_self.2 h]
    simp [hn]
  refine ⟨rfl, by omega, by omega, ?_, ?_, rfl⟩
  · rw [e, List.length_take]; omega
  · rw [e]
theorem Kept.at {keep : Int → Bool} {l : List Int} {j i : Nat} {dk : List Int} (h : Kept keep l j i dk) {x : Int} (hx : l[j]? = some x) : dk[j]? = some x := by
  obtain ⟨_, _, _, _, _, h6⟩ := h
  have : (dk.drop j)[0]? = (l.drop j)[0]? := by rw [h6]
  simpa [hx] using this
theorem Kept.yes {keep : Int → Bool} {l : List Int} {j i : Nat} {dk : List Int} (h : Kept keep l j i dk) {x : Int} (hx : l[j]? = some x) (hk : keep x = true) : Kept keep l (j + 1) (i + 1) (dk.set i x) := by
  obtain ⟨h1, h2, h3, h4, h5, h6⟩ := h
  have hj := (List.getElem?_eq_some_iff.1 hx).1
  have e : (l.take (j + 1)).filter keep = (l.take j).filter keep ++ [x] := by
    rw [List.take_add_one, hx, List.filter_append]
    simp [hk]
  refine ⟨by simp [h1], by omega, by omega, by rw [e]; simp [← h4], ?_, ?_⟩
  · rw [e, ← h5]
    apply List.ext_getElem?
    intro k
    rw [List.getElem?_take, List.getElem?_append, List.getElem?_set]
    have hl : (dk.take i).length = i := by rw [List.length_take]; omega
    rw [hl]
    by_cases hki : k < i
    · rw [if_pos (by omega), if_pos hki, if_neg (by omega), List.getElem?_take, if_pos hki]
    · rw [if_neg hki]
      by_cases hke : k = i
      · subst hke; simp; omega
      · rw [if_neg (by omega), List.getElem?_eq_none (by simp; omega)]
  · rw [List.drop_set, if_pos (by omega), ← List.drop_drop, ← List.drop_drop, h6]
theorem Kept.no {keep : Int → Bool} {l : List Int} {j i : Nat} {dk : List Int} (h : Kept keep l j i dk) {x : Int} (hx : l[j]? = some x) (hk : keep x = false) : Kept keep l (j + 1) i dk := by
  obtain ⟨h1, h2, h3, h4, h5, h6⟩ := h
  have hj := (List.getElem?_eq_some_iff.1 hx).1
  have e : (l.take (j + 1)).filter keep = (l.take j).filter keep := by
    rw [List.take_add_one, hx, List.filter_append]
    simp [hk]
  refine ⟨h1, by omega, by omega, by rw [e, ← h4], by rw [e, h5], ?_⟩
  rw [← List.drop_drop, ← List.drop_drop, h6]
set_option maxRecDepth 100000 in
set_option maxHeartbeats 4000000 in
theorem delete_any (fr mg : Int) (wa pa ca : Option Addr) (wn wc pn pc cn cc B : Nat) (w : World) (hB : CBox w B fr mg wa pa ca wn wc pn pc cn cc) (lo : Nat) (la : Option Addr) (ln lc : Nat) (l : List Int) (hl : ln = 0 ∨ ∃ g, la = some ⟨g, 0, none⟩ ∧ lo ≤ g ∧ IAt w g l) (h0 : la = none → ln = 0 ∧ lc = 0) (hln : l.length = ln) (hl2 : ln ≤ 1000) (hlc : ln ≤ lc) (hlo : lo ≤ w.heap.size) :
    Calls Try.prog 45 #[.slice la ln lc, .func (.func 47) #[] #[.pointer (some ⟨B, 0, none⟩)]] w fun e w' => ∃ a cap, e = .returned (.slice a (l.filter (hasB pn)).length cap) ∧ Lies w' lo w'.heap.size (.slice a (l.filter (hasB pn)).length cap) (l.filter (hasB pn)).length 1 ((l.filter (hasB pn)).flatMap intCells) ∧ Below lo w w' := by
  have hI := index_any fr mg wa pa ca wn wc pn pc cn cc B w hB la ln lc l (hl.imp id (fun ⟨g, h1, _, h2⟩ => ⟨g, h1, h2⟩)) hln hl2
  have HB := Lib.hid hB; have HL := Lib.hid hl; have HN := Lib.hid hln; have HZ := Lib.hid h0
  clear hB hl hln h0
  have hk1 : ∀ k : Nat, ((k : Int) == -1) = false := fun k => beq_eq_false_iff_ne.2 (by omega)
  go_enter Try.func45, Try.ntmps45
  go_wp2_with (first | (go_at_call 52; refine hI.mono ?_; rintro e w1 ⟨⟨rfl, ha⟩ | ⟨k, x, rfl, hkl, hx, hn, ha⟩, hb1⟩))
  · go_ret
    have hf : l.filter (hasB pn) = l := List.filter_eq_self.2 ha
    rw [hf, HN.out]
    refine ⟨la, lc, rfl, ?_, hb1.mono hlo⟩
    rcases HL.out with hz | ⟨g, rfl, hg1, hg⟩
    · have hl0 : l = [] := List.eq_nil_of_length_eq_zero (by rw [HN.out, hz])
      subst hl0; subst hz
      exact ⟨la, lc, rfl, by simp, HZ.out, .inl rfl⟩
    · exact (hg.later hb1).lies hg1 (by have := (hg.later hb1).lt; exact this) HN.out (by rw [List.take_of_length_le]; rw [HN.out]; omega)
  · have HK := Lib.hid (Kept.start hx hn ha)
    obtain ⟨g, rfl, hg1, hg⟩ := HL.out.resolve_left (by omega)
    have HG := Lib.hid (hg.later hb1)
    have HB1 := Lib.hid (HB.out.later hb1)
    have hw1 := hb1.size
    have HBB := Lib.hid hb1
    have hglt := hg.lt
    clear hx hn ha hI hg hb1
    have hne : B ≠ g := by
      intro e
      obtain ⟨arr, h1, _⟩ := HG.out
      have h2 := HB1.out
      unfold CBox at h2
      rw [e, h1] at h2
      simp at h2
    go_loopw [5, 6, 7] (fun s5 s6 _ wr => ∃ (i j : Nat) (dk : List Int), s5 = .int .i64 i ∧ s6 = .int .i64 j ∧ j ≤ ln ∧ i < ln ∧ Hid (Kept (hasB pn) l j i dk) ∧ Hid (IAt wr g dk) ∧ Hid (CBox wr B fr mg wa pa ca wn wc pn pc cn cc) ∧ Below lo w1 wr) (fun _ s6 _ _ => ln - (intOf s6).toNat)
    case atStart => exact ⟨k, k + 1, l, rfl, by go_num, by omega, by omega, HK, HG, HB1, Below.refl _ _⟩
    case round =>
      obtain ⟨i, j, dk, rfl, rfl, hj, hi, HK2, HI2, HC2, hb⟩ := hrel
      have hij := HK2.out.2.1
      by_cases hlt : j < ln
      · have tk : decide ((j : Int) < (ln : Int)) = true := by simpa using hlt
        obtain ⟨x, hx⟩ : ∃ x, l[j]? = some x := ⟨_, List.getElem?_eq_getElem (by rw [HN.out]; exact hlt)⟩
        obtain ⟨c0, _⟩ := HI2.out.cell (HK2.out.at hx)
        have l0 : (0 : Int) ≤ (j : Int) := by omega
        have l1 : (j : Int) < (ln : Int) := by omega
        have l2 : (0 : Int) ≤ (i : Int) := by omega
        have l3 : (i : Int) < (ln : Int) := by omega
        have HX := Lib.hid hx
        clear hx
        cases hh : hasB pn x with
        | true =>
          have HH := Lib.hid hh; clear hh
          have ks : ∀ W : World, Below wr.heap.size wr W → ∃ u, W.cell? ⟨g, i, none⟩ = some u ∧ W.frozen? ⟨g, i, none⟩ = false := by
            intro W h
            obtain ⟨u, hu⟩ : ∃ u, dk[i]? = some u := ⟨_, List.getElem?_eq_getElem (by rw [HK2.out.1, HN.out]; omega)⟩
            exact ⟨_, (HI2.out.later h).cell hu⟩
          have KS := Lib.hid ks; clear ks
          go_wp2_with (first | (go_at_call 47; refine (kn_any _ _ _ _ _ _ _ _ _ _ _ _ _ _ HC2.out).mono ?_; rintro e w' ⟨rfl, hb2⟩; rw [HH.out]; obtain ⟨u, hu1, hu2⟩ := KS.out _ hb2))
          go_roundw
          case rel =>
            refine ⟨i + 1, j + 1, dk.set i x, by go_num, by go_num, by omega, ?_, Lib.hid (HK2.out.yes HX.out HH.out), Lib.hid ((HI2.out.later hb2).set i x), Lib.hid ?_, ?_⟩
            · omega
            · exact ((But.refl g _).set i _).at (HC2.out.later hb2) hne
            · exact (hb.trans (hb2.mono (by have := hb.size; omega))).setCell (p := ⟨g, i, none⟩) hg1 _
          case measure => simp [intOf]; omega
        | false =>
          have HH := Lib.hid hh; clear hh
          go_wp2_with (first | (go_at_call 47; refine (kn_any _ _ _ _ _ _ _ _ _ _ _ _ _ _ HC2.out).mono ?_; rintro e w' ⟨rfl, hb2⟩; rw [HH.out]))
          go_roundw
          case rel => exact ⟨i, j + 1, dk, rfl, by go_num, by omega, hi, Lib.hid (HK2.out.no HX.out HH.out), Lib.hid (HI2.out.later hb2), Lib.hid (HC2.out.later hb2), hb.trans (hb2.mono (by have := hb.size; omega))⟩
          case measure => simp [intOf]; omega
      · have tk : decide ((j : Int) < (ln : Int)) = false := by simp; omega
        have hcl : ∀ ty, (Builtin.clear_ #[42] ty #[.slice (some ⟨g, i, none⟩) (ln - i) (lc - i)]).run Try.prog wr = .ok (.tuple #[]) (wr.setCells g i (List.replicate (ln - i) (.int .i64 0))) :=
          fun ty => Lib.run_clear_slice wr _ _ ty _ Try.underlying42 Try.zeroI rfl rfl g i _ _ (by omega) (fun t ht => by
            obtain ⟨u, hu⟩ : ∃ u, dk[i + t]? = some u := ⟨_, List.getElem?_eq_getElem (by rw [HK2.out.1, HN.out]; omega)⟩
            rw [(HI2.out.cell hu).1]; rfl) (fun t ht => by
            obtain ⟨u, hu⟩ : ∃ u, dk[i + t]? = some u := ⟨_, List.getElem?_eq_getElem (by rw [HK2.out.1, HN.out]; omega)⟩
            exact (HI2.out.cell hu).2)
        have l2 : (0 : Int) ≤ (i : Int) := by omega
        have l3 : (i : Int) ≤ (ln : Int) := by omega
        go_wp2
        go_ret
        obtain ⟨q1, q2, q3, q4, q5, q6⟩ := HK2.out
        have ej : j = l.length := by rw [HN.out]; omega
        rw [ej, List.take_length] at q4 q5
        obtain ⟨arr, h1, h2⟩ := HI2.out
        obtain ⟨arr', h3, h4, h5⟩ := setCells_at (List.replicate (ln - i) (.int .i64 0)) wr g i arr _ h1
        have HA : IAt (wr.setCells g i (List.replicate (ln - i) (.int .i64 0))) g (l.filter (hasB pn)) := by
          refine ⟨arr', h3, ?_⟩
          apply List.ext_getElem?
          intro k
          by_cases hk : k < (l.filter (hasB pn)).length
          · rw [List.getElem?_take_of_lt hk, Array.getElem?_toList, h4 k (by omega), List.getElem?_map]
            have h6 : (dk.take i)[k]? = (l.filter (hasB pn))[k]? := by rw [q5]
            rw [List.getElem?_take_of_lt (by omega)] at h6
            rw [List.getElem?_eq_getElem hk] at h6 ⊢
            exact arr_at h2 h6
          · rw [List.getElem?_take_eq_none (by omega), List.getElem?_eq_none (by simp; omega)]
        refine ⟨some ⟨g, 0, none⟩, lc, by rw [q4]; rfl, HA.lies hg1 HA.lt rfl (List.take_length), ?_⟩
        exact ((HBB.out.mono hlo).trans hb).trans (h5.below hg1 (by have := hb.size; omega))
end Go.Proofs.Ytkikapodobeaaaa
namespace Go.Proofs.Ytkikapodobeaaaa
open Go.ChangeShapes Go.WideShapes Go.ChangeAt Go.RowKit
set_option linter.unusedVariables false
attribute [local go_sem ↓] Go.wp_at_zero Go.wp_at_succ

theorem owns_built {w : World} {e sz : Nat} : (w.alloc (.cells #[] e)).ownsRow w.heap.size e sz (.slice (some ⟨w.heap.size, 0, none⟩) 0 0) 0 [] :=
  ⟨by simp, .inr ⟨w.heap.size, 0, #[], rfl, Nat.le_refl _, heap_alloc_new _ _, Nat.le_refl _, by simp [maxLen], by simp, by simp⟩⟩
theorem owns_one {w : World} {e base : Nat} {x : Value} (hb : base ≤ w.heap.size) : (w.alloc (.cells #[x] e)).ownsRow base e 1 (.slice (some ⟨w.heap.size, 0, none⟩) 1 1) 1 [x] :=
  ⟨by simp, .inr ⟨w.heap.size, 1, #[x], rfl, hb, heap_alloc_new _ _, Nat.le_refl _, by simp [maxLen], by simp, by simp⟩⟩
set_option maxRecDepth 100000 in
set_option maxHeartbeats 2000000 in
theorem cloneI_any (la : Option Addr) (ln lc : Nat) (w : World) (lo hi : Nat) (l : List Int) (hln : l.length = ln) (hl : Lies w lo hi (.slice la ln lc) ln 1 (l.flatMap intCells)) (hhi : hi ≤ w.heap.size) (hl2 : ln ≤ 1000) :
    Calls Try.prog 46 #[.slice la ln lc] w fun e w' => ∃ a cap, e = .returned (.slice a ln cap) ∧ (ln = 0 ∨ ∃ g, a = some ⟨g, 0, none⟩ ∧ w.heap.size ≤ g ∧ IAt w' g l) ∧ (a = none → ln = 0 ∧ cap = 0) ∧ ln ≤ cap ∧ Below w.heap.size w w' := by
  obtain ⟨i0, hi0, hz0, hz1, hz2⟩ := info_parts Try.infoInt
  have HI := Lib.hid hi0; have HN := Lib.hid hln
  have q22 : ∀ (w : World) (a : Option Addr) (n c n' c' : Nat), (binOp .eql 42 (.slice a n c) (.slice none n' c')).run Try.prog w = .ok (.bool a.isNone) w := fun w a n c n' c' => Lib.run_eql_slice_nil w _ _ a n c n' c' Try.underlying42
  cases la with
  | none =>
    have hz : ln = 0 ∧ lc = 0 := by obtain ⟨a, c, e, _, h, _⟩ := hl; cases e; exact h rfl
    obtain ⟨rfl, rfl⟩ := hz
    clear hl hi0 hln
    go_enter Try.func46, Try.ntmps46
    go_wp2
    go_ret
    exact ⟨none, 0, rfl, by simp, by simp, Nat.le_refl _, Below.refl _ _⟩
  | some ad =>
    have HL := Lib.hid (hl.keep (SameIn.of_below (below1 w (.cells #[] 3)) hhi))
    clear hl hi0 hln
    go_enter Try.func46, Try.ntmps46
    go_wp2_with (first | (refine wpList_append_lie (by rfl) (.tmp 5) (.tmp 6) 42 (by rfl) w.heap.size 3 i0 _ 1 8 Try.underlying42 HI.out hz0 hz1 hz2 rfl (by omega) (.slice (some ⟨w.heap.size, 0, none⟩) 0 0) 0 [] (by rfl) owns_built (.slice (some ad) ln lc) lo hi ln (l.flatMap intCells) (by rfl) HL.out (flat_one intCells in_one _) ln (by omega) (by simp [maxLen]; omega) (by omega) (by simp) ?_; intro ao cap' w1 hown hgrow))
    go_ret
    refine ⟨ao, cap', rfl, ?_, ?_, ?_, ?_⟩
    · rcases hown.2 with ⟨_, h0⟩ | ⟨g, cap, cur, hv, hg, _⟩
      · exact .inl h0
      · right
        have e : ao = some ⟨g, 0, none⟩ := by cases hv; rfl
        subst e
        exact ⟨g, rfl, hg, IAt.of_owns (by simpa using hown) HN.out⟩
    · rintro rfl
      rcases hown.2 with ⟨hv, h0⟩ | ⟨g, cap, cur, hv, hg, _⟩
      · cases hv; exact ⟨h0, rfl⟩
      · cases hv
    · rcases hown.2 with ⟨hv, h0⟩ | ⟨g, cap, cur, hv, hg, _, h, _⟩
      · omega
      · cases hv; exact h
    · exact ((below1 w (.cells #[] 3))).grown hgrow (by simp) (fun k hk => by simp [Value.ownBlock] at hk; omega)
set_option maxRecDepth 100000 in
set_option maxHeartbeats 2000000 in
theorem known_any (fr mg : Int) (wa pa ca la : Option Addr) (wn wc pn pc cn cc ln lc : Nat) (w : World) (lo hi : Nat) (l : List Int) (hln : l.length = ln) (hl : Lies w lo hi (.slice la ln lc) ln 1 (l.flatMap intCells)) (hhi : hi ≤ w.heap.size) (hl2 : ln ≤ 1000) :
    Calls Try.prog 33 #[.agg #[.int .i64 fr, .int .i64 mg, .slice wa wn wc, .slice pa pn pc, .slice ca cn cc], .slice la ln lc] w fun e w' => ∃ a cap, e = .returned (.slice a (l.filter (hasB pn)).length cap) ∧ Lies w' w.heap.size w'.heap.size (.slice a (l.filter (hasB pn)).length cap) (l.filter (hasB pn)).length 1 ((l.filter (hasB pn)).flatMap intCells) ∧ Below w.heap.size w w' := by
  obtain ⟨V, hV⟩ : ∃ V, V = w.alloc (.cells #[.int .i64 fr, .int .i64 mg, .slice wa wn wc, .slice pa pn pc, .slice ca cn cc] 35) := ⟨_, rfl⟩
  have B1 : Below w.heap.size w V := by rw [hV]; exact below1 _ _
  have hblk : CBox V w.heap.size fr mg wa pa ca wn wc pn pc cn cc := by rw [hV]; exact heap_alloc_new _ _
  have hv1 : V.heap.size = w.heap.size + 1 := by rw [hV]; simp
  have hc := cloneI_any la ln lc V lo hi l hln (hl.keep (SameIn.of_below B1 hhi)) (by omega) hl2
  have HV := Lib.hid hV; have HB := Lib.hid hblk; have HB1 := Lib.hid B1; have HN := Lib.hid hln
  clear hV hblk B1 hl hln
  go_enter Try.func33, Try.ntmps33
  go_wp2_with fail
  rw [← HV.out]
  go_wp2_with (first
    | (go_at_call 45; have _t := hd; refine hd.mono ?_; rintro e w2 ⟨a2, c2, rfl, hl2, hb2⟩)
    | (go_at_call 46; refine hc.mono ?_; rintro e w1 ⟨a1, c1, rfl, hq1, hq2, hq3, hb1⟩; have hd := delete_any fr mg wa pa ca wn wc pn pc cn cc w.heap.size w1 (HB.out.later hb1) w.heap.size a1 ln c1 l (hq1.imp id (fun ⟨g, h1, h2, h3⟩ => ⟨g, h1, by omega, h3⟩)) hq2 HN.out (by assumption) hq3 (by have := hb1.size; omega)))
  go_ret
  exact ⟨a2, c2, rfl, hl2, HB1.out.trans ((hb1.mono (by omega)).trans hb2)⟩
end Go.Proofs.Ytkikapodobeaaaa
namespace Go.Proofs.Ytkikapodobeaaaa
open Go.ChangeShapes Go.WideShapes Go.ChangeAt Go.RowKit Go.Maps
set_option linter.unusedVariables false
attribute [local go_sem ↓] Go.wp_at_zero Go.wp_at_succ

/-! ### plain -/
def lastR : List Int → Int → Nat
  | [], _ => 0
  | p :: r, x => if x = p then r.length else lastR r x
/-- Where a number stands last. -/
def lastV (l : List Int) (x : Int) : Nat := lastR l.reverse x
theorem lastV_snoc (l : List Int) (p x : Int) : lastV (l ++ [p]) x = if x = p then l.length else lastV l x := by
  unfold lastV
  rw [List.reverse_append]
  simp [lastR]
theorem lastV_at (a : List Int) (p : Int) : ∀ b : List Int, (lastV (a ++ p :: b) p = a.length ↔ p ∉ b) := by
  intro b
  obtain ⟨r, rfl⟩ : ∃ r, b = r.reverse := ⟨b.reverse, by simp⟩
  induction r with
  | nil => simp [lastV_snoc]
  | cons q r ih =>
    rw [List.reverse_cons, ← List.cons_append, ← List.append_assoc, lastV_snoc]
    by_cases h : p = q
    · subst h
      simp
    · rw [if_neg h, ih]
      simp [h]
def keepB (l : List Int) (k : Nat) (p : Int) : Bool := !decide (p ∈ l.take k) || decide (lastV l p = k)
def falTo (l : List Int) : Nat → List Int
  | 0 => []
  | k + 1 => falTo l k ++ (match l[k]? with | some p => if keepB l k p then [p] else [] | none => [])
/-- A row without those that stand between two of the same number. -/
def falV (l : List Int) : List Int := falTo l l.length
theorem falTo_len (l : List Int) : ∀ k, (falTo l k).length ≤ k
  | 0 => by simp [falTo]
  | k + 1 => by
    have := falTo_len l k
    unfold falTo
    rw [List.length_append]
    split
    · split <;> simp <;> omega
    · simp; omega
def falA (met : List Int) : List Int → List Int
  | [] => []
  | p :: l => (if p ∉ met ∨ p ∉ l then [p] else []) ++ falA (met ++ [p]) l
theorem falTo_is : ∀ (l a row : List Int), row = a ++ l → falTo row row.length = falTo row a.length ++ falA a l
  | [], a, row, h => by subst h; simp [falA]
  | p :: l, a, row, h => by
    rw [falTo_is l (a ++ [p]) row (by rw [h]; simp)]
    have hp : row[a.length]? = some p := by rw [h]; simp
    have hk : keepB row a.length p = decide (p ∉ a ∨ p ∉ l) := by
      unfold keepB
      have h1 : row.take a.length = a := by rw [h]; simp
      have h2 := lastV_at a p l
      rw [h1, h, Bool.eq_iff_iff]
      simp [h2]
    rw [List.length_append, List.length_singleton, falTo, hp]
    simp only [hk]
    rw [falA, List.append_assoc]
    congr 1
    by_cases h3 : p ∉ a ∨ p ∉ l
    · simp [h3]
    · simp [h3]
theorem falV_is (l : List Int) : falV l = falA [] l := by
  unfold falV
  rw [falTo_is l [] l rfl]
  simp [falTo]
theorem falA_mem (b : Int) : ∀ (l met : List Int), b ∈ falA met l ↔ b ∈ l
  | [], _ => by simp [falA]
  | p :: l, met => by
    rw [falA, List.mem_append, falA_mem b l]
    by_cases h : b ∈ l
    · simp [h]
    · by_cases hb : b = p
      · subst hb; simp [h]
      · simp [h, hb]
theorem falA_sub : ∀ (l met : List Int), (falA met l).Sublist l
  | [], _ => by simp [falA]
  | p :: l, met => by
    rw [falA]
    split
    · exact (falA_sub l _).cons_cons p
    · exact (falA_sub l _).cons p
theorem laterB_sub {a b : Int} : ∀ {l r : List Int}, l.Sublist r → laterB a b l = true → laterB a b r = true
  | _, _, .slnil, h => h
  | _, _, .cons x hs, h => by
    rw [laterB, Bool.or_eq_true]
    exact .inr (laterB_sub hs h)
  | _, _, .cons_cons x hs, h => by
    rw [laterB, Bool.or_eq_true, Bool.and_eq_true] at h ⊢
    rcases h with ⟨h1, h2⟩ | h
    · refine .inl ⟨h1, ?_⟩
      rw [List.contains_iff_mem] at h2 ⊢
      exact hs.subset h2
    · exact .inr (laterB_sub hs h)
theorem laterB_mem {a b : Int} : ∀ {l : List Int}, laterB a b l = true → b ∈ l
  | [], h => by simp [laterB] at h
  | x :: l, h => by
    rw [laterB, Bool.or_eq_true, Bool.and_eq_true, List.contains_iff_mem] at h
    rcases h with ⟨_, h⟩ | h
    · simp [h]
    · simp [laterB_mem h]
theorem laterB_fal {a b : Int} : ∀ (l met : List Int), a ∉ met → laterB a b l = true → laterB a b (falA met l) = true
  | [], _, _, h => h
  | x :: l, met, hm, h => by
    have hb : b ∈ l := by
      rw [laterB, Bool.or_eq_true, Bool.and_eq_true, List.contains_iff_mem] at h
      rcases h with ⟨_, h⟩ | h
      · exact h
      · exact laterB_mem h
    rw [falA]
    by_cases hx : x = a
    · subst hx
      rw [if_pos (.inl hm), List.singleton_append, laterB, Bool.or_eq_true, Bool.and_eq_true, List.contains_iff_mem]
      exact .inl ⟨by simp, (falA_mem b l _).2 hb⟩
    · rw [laterB, Bool.or_eq_true, Bool.and_eq_true] at h
      rcases h with ⟨h, _⟩ | h
      · exact absurd (by simpa using h) hx
      · have ih := laterB_fal l (met ++ [x]) (by simp [hm]; exact fun e => hx e.symm) h
        split
        · rw [List.singleton_append, laterB, ih]; simp
        · exact ih
theorem laterB_falV (a b : Int) (l : List Int) : laterB a b (falV l) = laterB a b l := by
  rw [falV_is, Bool.eq_iff_iff]
  exact ⟨laterB_sub (falA_sub l []), laterB_fal l [] (by simp)⟩
theorem laterB_iff {a b : Int} : ∀ {l : List Int}, laterB a b l = true ↔ ∃ x y : Nat, x < y ∧ l[x]? = some a ∧ l[y]? = some b
  | [] => by simp [laterB]
  | p :: l => by
    rw [laterB, Bool.or_eq_true, Bool.and_eq_true, laterB_iff, List.contains_iff_mem, beq_iff_eq]
    constructor
    · rintro (⟨rfl, h⟩ | ⟨x, y, h, h1, h2⟩)
      · obtain ⟨y, hy⟩ := List.mem_iff_getElem?.1 h
        exact ⟨0, y + 1, by omega, rfl, by simpa using hy⟩
      · exact ⟨x + 1, y + 1, by omega, by simpa using h1, by simpa using h2⟩
    · rintro ⟨x, y, h, h1, h2⟩
      obtain ⟨y, rfl⟩ : ∃ z, y = z + 1 := ⟨y - 1, by omega⟩
      cases x with
      | zero => exact .inl ⟨by simpa using h1, List.mem_iff_getElem?.2 ⟨y, by simpa using h2⟩⟩
      | succ x => exact .inr ⟨x, y, by omega, by simpa using h1, by simpa using h2⟩
/-- One next to the other. -/
def nextP (l : List Int) (e : Int × Int) : Prop := ∃ x : Nat, l[x]? = some e.1 ∧ l[x + 1]? = some e.2
theorem nextP.later {l : List Int} {e : Int × Int} (h : nextP l e) : laterB e.1 e.2 l = true := by
  obtain ⟨x, h1, h2⟩ := h
  exact laterB_iff.2 ⟨x, x + 1, by omega, h1, h2⟩

/-! ### sets and maps of ints -/
def SetI (w : World) (b n : Nat) (P : Int → Prop) : Prop := ∃ D : DataW Unit, w.ownsMap Try.prog 3 unitElem b n D ∧ ∀ x, I64 x → (Maps.has D (.int .i64 x) = true ↔ P x)
def MapI (w : World) (b n : Nat) (f : Int → Int) : Prop := ∃ D : DataW Unit, w.ownsMap Try.prog 3 (plainElem Try.prog 3) b n D ∧ ∀ x, I64 x → D.atKey (.int .i64 x) (.lit (.int .i64 0)) = .lit (.int .i64 (f x))
def SetP (w : World) (b n : Nat) (P : Int × Int → Prop) : Prop := ∃ S, SetE w b n S ∧ ∀ e, EIn e → (S e = true ↔ P e)
theorem Try.lawI : Keyed Try.prog 3 := int_keyed Try.underlying3
theorem SetP.later {w w' : World} {b n : Nat} {P : Int × Int → Prop} (h : SetP w b n P) (hb : Below w.heap.size w w') : SetP w' b n P := let ⟨S, h1, h2⟩ := h; ⟨S, h1.later hb, h2⟩
theorem SetP.mono {w : World} {b n m : Nat} {P : Int × Int → Prop} (h : SetP w b n P) (hn : n ≤ m) : SetP w b m P := let ⟨S, h1, h2⟩ := h; ⟨S, h1.mono hn, h2⟩
theorem SetP.lt {w : World} {b n : Nat} {P : Int × Int → Prop} (h : SetP w b n P) : b < w.heap.size := let ⟨S, h1, h2⟩ := h; h1.lt
theorem SetP.congr {w : World} {b n : Nat} {P Q : Int × Int → Prop} (h : SetP w b n P) (hq : ∀ e, P e ↔ Q e) : SetP w b n Q := let ⟨S, h1, h2⟩ := h; ⟨S, h1, fun e he => (h2 e he).trans (hq e)⟩
theorem SetP.made (w : World) : SetP (w.alloc (.map #[] 0)) w.heap.size 0 (fun _ => False) := ⟨_, SetE.made w, fun e _ => by simp⟩
theorem addP_any (b n : Nat) (x y : Int) (w : World) (P : Int × Int → Prop) (h : SetP w b n P) (hn : n < maxLen) (hx : I64 x) (hy : I64 y) :
    Calls Try.prog 35 #[.map (some b), .int .i64 x, .int .i64 y] w fun e w' => e = .returned (.tuple #[]) ∧ SetP w' b (n + 1) (fun z => P z ∨ z = (x, y)) ∧ But b w w' := by
  obtain ⟨S, h1, h2⟩ := h
  refine (add_any b n x y w S h1 hn hx hy).mono ?_
  rintro e w' ⟨rfl, h3, h4⟩
  refine ⟨rfl, ⟨_, h3, fun z hz => ?_⟩, h4⟩
  have := h2 z hz
  simp [this]
  exact Or.comm
end Go.Proofs.Ytkikapodobeaaaa
namespace Go.Proofs.Ytkikapodobeaaaa
open Go.ChangeShapes Go.WideShapes Go.ChangeAt Go.RowKit Go.Maps
set_option linter.unusedVariables false
attribute [local go_sem ↓] Go.wp_at_zero Go.wp_at_succ

theorem MapI.later {w w' : World} {b n : Nat} {f : Int → Int} (h : MapI w b n f) (hb : Below w.heap.size w w') : MapI w' b n f :=
  let ⟨D, h1, h2⟩ := h
  ⟨D, h1.kept (row := none) ⟨hb.os, hb.tape, hb.output, hb.size, fun k hk _ => hb.block k hk⟩ (by simp), h2⟩
theorem MapI.but {w w' : World} {b n X : Nat} {f : Int → Int} (h : MapI w b n f) (hb : But X w w') (hX : b ≠ X) : MapI w' b n f :=
  let ⟨D, h1, h2⟩ := h
  ⟨D, h1.kept (row := some X) ⟨hb.os, hb.tape, hb.output, hb.size, fun k hk hne => hb.block k hk (fun e => hne (by rw [e]))⟩ (by intro e; exact hX (by cases e; rfl)), h2⟩
theorem MapI.made (w : World) : MapI (w.alloc (.map #[] 0)) w.heap.size 0 (fun _ => 0) := ⟨.map [], World.ownsMap_made w _ _ _, fun _ _ => rfl⟩
theorem MapI.lt {w : World} {b n : Nat} {f : Int → Int} (h : MapI w b n f) : b < w.heap.size := let ⟨D, h1, h2⟩ := h; h1.lt
theorem SetI.made (w : World) : SetI (w.alloc (.map #[] 0)) w.heap.size 0 (fun _ => False) := ⟨.map [], World.ownsMap_made w _ _ _, fun _ _ => by simp [Maps.has]⟩
theorem SetI.later {w w' : World} {b n : Nat} {f : Int → Prop} (h : SetI w b n f) (hb : Below w.heap.size w w') : SetI w' b n f :=
  let ⟨D, h1, h2⟩ := h
  ⟨D, h1.kept (row := none) ⟨hb.os, hb.tape, hb.output, hb.size, fun k hk _ => hb.block k hk⟩ (by simp), h2⟩
theorem SetI.lt {w : World} {b n : Nat} {f : Int → Prop} (h : SetI w b n f) : b < w.heap.size := let ⟨D, h1, h2⟩ := h; h1.lt

theorem map_not_row {w : World} {P : Program} {k : TypeId} {R : Value → Option (DataW Unit × List MemPlace)} {b n : Nat} {D : DataW Unit} (h : w.ownsMap P k R b n D) {base e sz m : Nat} {v : Value} {xs : List Value} (ho : w.ownsRow base e sz v m xs) : some b ≠ v.ownBlock := by
  intro e
  obtain ⟨_, cs, hc⟩ := owns_block ho b e.symm
  obtain ⟨es, clock, hb, _⟩ := h
  rw [hb] at hc
  cases hc
theorem row_not_map {w : World} {P : Program} {k : TypeId} {R : Value → Option (DataW Unit × List MemPlace)} {b n : Nat} {D : DataW Unit} (h : w.ownsMap P k R b n D) {base e sz m : Nat} {v : Value} {xs : List Value} (ho : w.ownsRow base e sz v m xs) : v.ownBlock = none ∨ v.ownBlock ≠ some b := .inr (fun e => map_not_row h ho e.symm)
theorem falTo_yes {l : List Int} {k : Nat} {x : Int} (hx : l[k]? = some x) (h : keepB l k x = true) : falTo l (k + 1) = falTo l k ++ [x] := by simp [falTo, hx, h]
theorem falTo_no {l : List Int} {k : Nat} {x : Int} (hx : l[k]? = some x) (h : keepB l k x = false) : falTo l (k + 1) = falTo l k := by simp [falTo, hx, h]
theorem take_iff {l : List Int} {k : Nat} {x : Int} (hx : l[k]? = some x) (z : Int) : z ∈ l.take (k + 1) ↔ z ∈ l.take k ∨ z = x := by rw [List.take_add_one, hx]; simp

set_option maxRecDepth 100000 in
set_option maxHeartbeats 4000000 in
theorem fal_any (la : Option Addr) (ln lc : Nat) (w : World) (lo hi : Nat) (l : List Int) (hln : l.length = ln) (hl : Lies w lo hi (.slice la ln lc) ln 1 (l.flatMap intCells)) (hhi : hi ≤ w.heap.size) (hl2 : ln ≤ 2000) (hin : ∀ x ∈ l, I64 x) :
    Calls Try.prog 34 #[.slice la ln lc] w fun e w' => ∃ a cap, e = .returned (.slice a (falV l).length cap) ∧ w'.ownsRow w.heap.size 3 1 (.slice a (falV l).length cap) (falV l).length ((falV l).flatMap intCells) ∧ Below w.heap.size w w' := by
  obtain ⟨i0, hi0, hz0, hz1, hz2⟩ := info_parts Try.infoInt
  have HI := Lib.hid hi0; have HN := Lib.hid hln; have HL := Lib.hid hl; have HIN := Lib.hid hin
  have hmm := @run_makeMap Try.prog
  clear hi0 hln hl hin
  go_enter Try.func34, Try.ntmps34
  go_wp2
  go_loopw [15] (fun i wr => ∃ k : Nat, k ≤ ln ∧ i = .int .i64 k ∧ MapI wr w.heap.size k (fun x => (lastV (l.take k) x : Int)) ∧ Below w.heap.size w wr) (fun i _ => ln - (intOf i).toNat)
  case atStart => exact ⟨0, by omega, rfl, MapI.made w, (Below.refl _ _).alloc (Nat.le_refl _) _⟩
  case round =>
    obtain ⟨k, hk, rfl, hm, hb⟩ := hrel
    by_cases hlt : k < ln
    · have tk : decide ((k : Int) < (ln : Int)) = true := by simpa using hlt
      obtain ⟨x, hx⟩ : ∃ x, l[k]? = some x := ⟨_, List.getElem?_eq_getElem (by rw [HN.out]; exact hlt)⟩
      have hxi := HIN.out x (List.mem_of_getElem? hx)
      obtain ⟨a2, c2, ee, _, _, hc⟩ := HL.out
      cases ee
      rcases hc with h0 | ⟨b, off, rfl, hb1, hb2, hc⟩
      · omega
      have c0 : wr.cell? ⟨b, off + k, none⟩ = some (.int .i64 x) := (hb.cell (p := ⟨b, off + k, none⟩) (by show b < _; omega)).trans (Lies.int hc hx)
      obtain ⟨D, hD1, hD2⟩ := hm
      have HX := Lib.hid hx
      have HD2 := Lib.hid hD2
      have HXI := Lib.hid hxi
      clear hc hx hD2 hxi
      go_wp2_with (first | (at_mapUpdate; refine wpList_mapUpdate_own _ rfl _ _ _ 104 rfl 3 3 Try.lawI Try.underlying104 (plainElem Try.prog 3) w.heap.size k D rfl hD1 (by simp only [maxLen]; omega) _ _ (.int .i64 x) rfl rfl (keyOf_int_mk Try.underlying3 (wf_i64 HXI.out)) (.lit (.int .i64 k)) [] (plainElem_int Try.underlying3 (wf_i64 ⟨by omega, by omega⟩)) ?_; intro w1 hown1 hgrow1) | go_in)
      go_roundw
      case rel =>
        refine ⟨k + 1, by omega, by go_num, ⟨_, hown1, fun z hz => ?_⟩, hb.trans ((But.of_grown hgrow1).below (Nat.le_refl _) (by have := hb.size; omega))⟩
        have ht : l.take (k + 1) = l.take k ++ [x] := by rw [List.take_add_one, HX.out]; rfl
        show _ = DataW.lit (Lit.int .i64 ((lastV (l.take (k + 1)) z : Nat) : Int))
        rw [ht, lastV_snoc]
        by_cases hzx : z = x
        · subst hzx
          rw [atKey_put_same hD1.isMap (show WideAt.IsKeyLit (.int .i64 z) from trivial), if_pos rfl, List.length_take, Nat.min_eq_left (by rw [HN.out]; omega)]
        · rw [atKey_put_other (by intro hc; cases hc; exact hzx rfl), HD2.out z hz, if_neg hzx]
      case measure => simp [intOf]; omega
    · have tk : decide ((k : Int) < (ln : Int)) = false := by simp; omega
      have ek : k = ln := by omega
      subst ek
      have HM : Hid (MapI wr w.heap.size k (fun x => (lastV l x : Int))) := Lib.hid (by rw [List.take_of_length_le (by rw [HN.out]; omega)] at hm; exact hm)
      clear hm
      obtain ⟨wo, hwo⟩ : ∃ wo, wo = wr := ⟨_, rfl⟩
      subst hwo
      go_wp2
      go_loopw [7, 27] (fun v i wr2 => ∃ (j : Nat) (a : Option Addr) (cap : Nat), j ≤ k ∧ i = .int .i64 j ∧ v = .slice a (falTo l j).length cap ∧ Hid (wr2.ownsRow w.heap.size 3 1 (.slice a (falTo l j).length cap) (falTo l j).length ((falTo l j).flatMap intCells)) ∧ SetI wr2 wo.heap.size j (fun x => x ∈ l.take j) ∧ MapI wr2 w.heap.size k (fun x => (lastV l x : Int)) ∧ Below w.heap.size w wr2) (fun _ i _ => k - (intOf i).toNat)
      case atStart => exact ⟨0, none, 0, by omega, rfl, rfl, Lib.hid (World.ownsRow_nil _ _ _ _), by simpa using SetI.made wo, HM.out.later (below1 _ _), hb.alloc hb.size _⟩
      case round =>
        obtain ⟨j, a, cap, hj, rfl, rfl, HR, hS, hM, hb2⟩ := hrel
        have hwr := hb.size
        have hfl := falTo_len l j
        by_cases hjl : j < k
        · have tk2 : decide ((j : Int) < (k : Int)) = true := by simpa using hjl
          obtain ⟨x, hx⟩ : ∃ x, l[j]? = some x := ⟨_, List.getElem?_eq_getElem (by rw [HN.out]; exact hjl)⟩
          have hxi := HIN.out x (List.mem_of_getElem? hx)
          obtain ⟨a2, c2, ee, _, _, hc⟩ := HL.out
          cases ee
          rcases hc with h0 | ⟨b, off, rfl, hb1, hb3, hc⟩
          · omega
          have c0 : wr.cell? ⟨b, off + j, none⟩ = some (.int .i64 x) := (hb2.cell (p := ⟨b, off + j, none⟩) (by show b < _; omega)).trans (Lies.int hc hx)
          obtain ⟨D, hD1, hD2⟩ := hM
          obtain ⟨E, hE1, hE2⟩ := hS
          have HX := Lib.hid hx
          have HD1 := Lib.hid hD1
          have HD2 := Lib.hid hD2
          have HE2 := Lib.hid hE2
          have HXI := Lib.hid hxi
          clear hc hx hD1 hD2 hE2 hxi
          have hgt : w.heap.size < wo.heap.size := HM.out.lt
          have HU : Hid (∀ (W W' : World), W.ownsMap Try.prog 3 unitElem wo.heap.size j E → W.ownsMap Try.prog 3 (plainElem Try.prog 3) w.heap.size k D → Below w.heap.size w W → ∀ v m xs, W.ownsRow w.heap.size 3 1 v m xs → W'.ownsMap Try.prog 3 unitElem wo.heap.size (j + 1) (E.put (.int .i64 x) (.agg [])) → W.grownBy W' (some wo.heap.size) →
              W'.ownsRow w.heap.size 3 1 v m xs ∧ SetI W' wo.heap.size (j + 1) (fun z => z ∈ l.take (j + 1)) ∧ MapI W' w.heap.size k (fun x => (lastV l x : Int)) ∧ Below w.heap.size w W') := Lib.hid (by
            intro W W' hE hD hB v m xs ho hE' hg
            refine ⟨ho.kept hg (row_not_map hE ho), ⟨_, hE', fun z hz => ?_⟩, ⟨D, hD.kept hg (by intro e; have := Option.some.inj e; omega), HD2.out⟩, hB.trans ((But.of_grown hg).below (by omega) (by have := hB.size; omega))⟩
            show _ ↔ z ∈ l.take (j + 1)
            rw [take_iff HX.out]
            by_cases hzx : z = x
            · subst hzx
              rw [has_put_same hE.isMap (show WideAt.IsKeyLit (.int .i64 z) from trivial)]
              simp
            · rw [has_put_other (by intro hc; cases hc; exact hzx rfl), HE2.out z hz]
              simp [hzx])
          have HE2w : Hid (((wr.alloc (.cells #[] 91)).alloc (.cells #[.int .i64 x] 3)).ownsMap Try.prog 3 unitElem wo.heap.size j E) := Lib.hid ((hE1.alloc _).alloc _)
          have HD2w : Hid (((wr.alloc (.cells #[] 91)).alloc (.cells #[.int .i64 x] 3)).ownsMap Try.prog 3 (plainElem Try.prog 3) w.heap.size k D) := Lib.hid ((HD1.out.alloc _).alloc _)
          have HR2w : Hid (((wr.alloc (.cells #[] 91)).alloc (.cells #[.int .i64 x] 3)).ownsRow w.heap.size 3 1 (.slice a (falTo l j).length cap) (falTo l j).length ((falTo l j).flatMap intCells)) := Lib.hid ((HR.out.alloc _).alloc _)
          cases hmt : decide (x ∈ l.take j) with
          | false =>
            have hhas : Maps.has E (.int .i64 x) = false := by
              cases hh : Maps.has E (.int .i64 x) with
              | false => rfl
              | true => rw [HE2.out x HXI.out] at hh; simp [hh] at hmt
            have HK : Hid (falTo l (j + 1) = falTo l j ++ [x]) := Lib.hid (falTo_yes HX.out (by simp [keepB, hmt]))
            go_wp2_with (first
              | (at_lookup; refine wpList_lookup_own_unit _ rfl _ _ 105 rfl 3 91 Try.lawI Try.underlying105 (Try.zeroU _) wo.heap.size j E rfl hE1 _ (.int .i64 x) rfl (keyOf_int_mk Try.underlying3 (wf_i64 HXI.out)) ?_; rw [hhas])
              | (refine wpList_append_lie (by rfl) (.tmp 47) (.tmp 49) 42 (by rfl) w.heap.size 3 i0 _ 1 8 Try.underlying42 HI.out hz0 hz1 hz2 rfl (by omega) (.slice a (falTo l j).length cap) (falTo l j).length ((falTo l j).flatMap intCells) (by rfl) HR2w.out (.slice (some ⟨wr.heap.size + 1, 0, none⟩) 1 1) (wr.heap.size + 1) (wr.heap.size + 2) 1 [.int .i64 x] (by rfl) (one_lies (cs := #[.int .i64 x]) (t := 3) (by rw [heap_at, if_pos (by simp)]) rfl) (in_one x) ((falTo l j).length + 1) rfl (by simp [maxLen]; omega) (by omega) (by have := hb2.size; simp; omega) ?_; intro ao cap' w1 hown hgrow; have hE4 := HE2w.out.kept hgrow (map_not_row HE2w.out HR2w.out); have hD4 := HD2w.out.kept hgrow (map_not_row HD2w.out HR2w.out))
              | (at_mapUpdate; (refine wpList_mapUpdate_own _ rfl _ _ _ 105 rfl 3 91 Try.lawI Try.underlying105 unitElem wo.heap.size j E rfl hE4 (by simp only [maxLen]; omega) _ _ (.int .i64 x) rfl rfl (keyOf_int_mk Try.underlying3 (wf_i64 HXI.out)) (.agg []) [] unitElem_mk ?_; intro w3 hown3 hgrow3))
              | go_in)
            go_roundw
            case rel =>
              have hB4 : Below w.heap.size w w1 := (b_alloc (b_alloc hb2 (Nat.le_refl _) _) (Nat.le_refl _) _).grown hgrow (by have := hb2.size; simp; omega) (fun q hq => (owns_block HR.out q hq).1)
              obtain ⟨r1, r2, r3, r4⟩ := HU.out w1 w3 hE4 hD4 hB4 _ _ _ hown hown3 hgrow3
              refine ⟨j + 1, ao, cap', by omega, by go_num, by rw [HK.out]; simp, Lib.hid ?_, r2, r3, r4⟩
              rw [HK.out, List.flatMap_append, List.length_append]
              simpa [intCells] using r1
            case measure => simp [intOf]; omega
          | true =>
            have hhas : Maps.has E (.int .i64 x) = true := (HE2.out x HXI.out).2 (by simpa using hmt)
            obtain ⟨c, hrun, hat, _⟩ := (HD1.out.alloc (.cells #[] 91)).lookup_int Try.lawI Try.underlying104 Try.underlying3 (Try.zeroI _) (keyOf_int_mk Try.underlying3 (wf_i64 HXI.out))
            have hc : c = (lastV l x : Int) := by
              have := HD2.out x HXI.out
              rw [hat] at this
              injection this with this
              injection this
            subst hc
            clear hat
            by_cases hlast : lastV l x = j
            · have e1 : ((lastV l x : Int) == (j : Int)) = true := by rw [beq_iff_eq]; omega
              have e2 : decide ((lastV l x : Int) = (j : Int)) = true := by rw [decide_eq_true_eq]; omega
              have HK : Hid (falTo l (j + 1) = falTo l j ++ [x]) := Lib.hid (falTo_yes HX.out (by simp [keepB, hlast]))
              clear hlast
              go_wp2_with (first
                | (at_lookup; refine wpList_lookup_own_unit _ rfl _ _ 105 rfl 3 91 Try.lawI Try.underlying105 (Try.zeroU _) wo.heap.size j E rfl hE1 _ (.int .i64 x) rfl (keyOf_int_mk Try.underlying3 (wf_i64 HXI.out)) ?_; rw [hhas])
                | (refine wpList_append_lie (by rfl) (.tmp 47) (.tmp 49) 42 (by rfl) w.heap.size 3 i0 _ 1 8 Try.underlying42 HI.out hz0 hz1 hz2 rfl (by omega) (.slice a (falTo l j).length cap) (falTo l j).length ((falTo l j).flatMap intCells) (by rfl) HR2w.out (.slice (some ⟨wr.heap.size + 1, 0, none⟩) 1 1) (wr.heap.size + 1) (wr.heap.size + 2) 1 [.int .i64 x] (by rfl) (one_lies (cs := #[.int .i64 x]) (t := 3) (by rw [heap_at, if_pos (by simp)]) rfl) (in_one x) ((falTo l j).length + 1) rfl (by simp [maxLen]; omega) (by omega) (by have := hb2.size; simp; omega) ?_; intro ao cap' w1 hown hgrow; have hE4 := HE2w.out.kept hgrow (map_not_row HE2w.out HR2w.out); have hD4 := HD2w.out.kept hgrow (map_not_row HD2w.out HR2w.out))
                | (at_mapUpdate; (refine wpList_mapUpdate_own _ rfl _ _ _ 105 rfl 3 91 Try.lawI Try.underlying105 unitElem wo.heap.size j E rfl hE4 (by simp only [maxLen]; omega) _ _ (.int .i64 x) rfl rfl (keyOf_int_mk Try.underlying3 (wf_i64 HXI.out)) (.agg []) [] unitElem_mk ?_; intro w3 hown3 hgrow3))
                | go_in)
              go_roundw
              case rel =>
                have hB4 : Below w.heap.size w w1 := (b_alloc (b_alloc hb2 (Nat.le_refl _) _) (Nat.le_refl _) _).grown hgrow (by have := hb2.size; simp; omega) (fun q hq => (owns_block HR.out q hq).1)
                obtain ⟨r1, r2, r3, r4⟩ := HU.out w1 w3 hE4 hD4 hB4 _ _ _ hown hown3 hgrow3
                refine ⟨j + 1, ao, cap', by omega, by go_num, by rw [HK.out]; simp, Lib.hid ?_, r2, r3, r4⟩
                rw [HK.out, List.flatMap_append, List.length_append]
                simpa [intCells] using r1
              case measure => simp [intOf]; omega

            · have e1 : ((lastV l x : Int) == (j : Int)) = false := by rw [beq_eq_false_iff_ne]; omega
              have e2 : decide ((lastV l x : Int) = (j : Int)) = false := by rw [decide_eq_false_iff_not]; omega
              have HK : Hid (falTo l (j + 1) = falTo l j) := Lib.hid (falTo_no HX.out (by simp [keepB, hlast]; simpa using hmt))
              clear hlast
              have hE3 := hE1.alloc (.cells #[] 91)
              have HE3 := Lib.hid hE3
              go_wp2_with (first
                | (at_lookup; refine wpList_lookup_own_unit _ rfl _ _ 105 rfl 3 91 Try.lawI Try.underlying105 (Try.zeroU _) wo.heap.size j E rfl hE1 _ (.int .i64 x) rfl (keyOf_int_mk Try.underlying3 (wf_i64 HXI.out)) ?_; rw [hhas])
                | (at_mapUpdate; refine wpList_mapUpdate_own _ rfl _ _ _ 105 rfl 3 91 Try.lawI Try.underlying105 unitElem wo.heap.size j E rfl hE3 (by simp only [maxLen]; omega) _ _ (.int .i64 x) rfl rfl (keyOf_int_mk Try.underlying3 (wf_i64 HXI.out)) (.agg []) [] unitElem_mk ?_; intro w3 hown3 hgrow3)
                | go_in)
              go_roundw
              case rel =>
                obtain ⟨r1, r2, r3, r4⟩ := HU.out _ w3 HE3.out (HD1.out.alloc _) (b_alloc hb2 (Nat.le_refl _) _) _ _ _ (HR.out.alloc _) hown3 hgrow3
                exact ⟨j + 1, a, cap, by omega, by go_num, by rw [HK.out], Lib.hid (by rw [HK.out]; exact r1), r2, r3, r4⟩
              case measure => simp [intOf]; omega
        · have tk2 : decide ((j : Int) < (k : Int)) = false := by simp; omega
          have ej : j = k := by omega
          go_wp2
          go_ret
          refine ⟨a, cap, ?_, ?_, hb2⟩
          · unfold falV; rw [HN.out, ← ej]; rfl
          · unfold falV; rw [HN.out, ← ej]; exact HR.out
end Go.Proofs.Ytkikapodobeaaaa
namespace Go.Proofs.Ytkikapodobeaaaa
open Go.ChangeShapes Go.WideShapes Go.ChangeAt Go.RowKit Go.Maps
set_option linter.unusedVariables false
attribute [local go_sem ↓] Go.wp_at_zero Go.wp_at_succ

theorem falV_len (l : List Int) : (falV l).length ≤ l.length := falTo_len l _
theorem falV_in {l : List Int} (h : ∀ x ∈ l, I64 x) : ∀ x ∈ falV l, I64 x := fun x hx => h x ((falA_mem x l []).1 (by rw [← falV_is]; exact hx))
set_option maxRecDepth 100000 in
set_option maxHeartbeats 4000000 in
theorem addAll_any (b n0 : Nat) (la : Option Addr) (ln lc : Nat) (w : World) (lo hi : Nat) (l : List Int) (P : Int × Int → Prop) (hln : l.length = ln) (hl : Lies w lo hi (.slice la ln lc) ln 1 (l.flatMap intCells)) (hhi : hi ≤ w.heap.size) (hl2 : ln ≤ 2000) (hin : ∀ x ∈ l, I64 x) (hS : SetP w b n0 P) (hn0 : n0 ≤ 10000000000) :
    Calls Try.prog 24 #[.map (some b), .slice la ln lc] w fun e w' => e = .returned (.tuple #[]) ∧ SetP w' b (n0 + 4000000) (fun e => P e ∨ laterB e.1 e.2 l = true) ∧ But b w w' := by
  have hf := fal_any la ln lc w lo hi l hln hl hhi hl2 hin
  have hm := falV_len l
  have HIN := Lib.hid (falV_in hin)
  have HLA : Hid (∀ e : Int × Int, laterB e.1 e.2 l = true ↔ ∃ x y : Nat, x < y ∧ (falV l)[x]? = some e.1 ∧ (falV l)[y]? = some e.2) := Lib.hid (fun e => by rw [← laterB_falV, laterB_iff])
  have hblt := hS.lt
  obtain ⟨r, hr⟩ : ∃ r, r = falV l := ⟨_, rfl⟩
  obtain ⟨m, hm2⟩ : ∃ m, m = r.length := ⟨_, rfl⟩
  rw [← hr] at hf hm HIN HLA
  rw [← hm2] at hf hm
  rw [hln] at hm
  have HRL := Lib.hid hm2
  have HS := Lib.hid hS
  clear hr hl hin hln hm2 hS
  go_enter Try.func24, Try.ntmps24
  go_wp2_with (first | (go_at_call 34; refine hf.mono ?_; rintro e w1 ⟨a, cap, rfl, hown, hb1⟩))
  have HO := Lib.hid hown
  have HB1 := Lib.hid hb1
  have hsz := hb1.size
  have HS1 := Lib.hid (HS.out.later hb1)
  clear hf hown hb1
  go_loopw [12] (fun i wr => ∃ k : Nat, k ≤ m ∧ i = .int .i64 k ∧ Hid (SetP wr b (n0 + k * m) (fun e => P e ∨ ∃ x y : Nat, x < k ∧ x < y ∧ r[x]? = some e.1 ∧ r[y]? = some e.2)) ∧ But b w1 wr) (fun i _ => m - (intOf i).toNat)
  case atStart => exact ⟨0, by omega, rfl, Lib.hid ((HS1.out.mono (by omega)).congr (fun e => by simp)), But.refl _ _⟩
  case round =>
    obtain ⟨k, hk, rfl, HS2, hb⟩ := hrel
    by_cases hlt : k < m
    · have tk : decide ((k : Int) < (m : Int)) = true := by simpa using hlt
      obtain ⟨x, hx⟩ : ∃ x, r[k]? = some x := ⟨_, List.getElem?_eq_getElem (by rw [← HRL.out]; exact hlt)⟩
      have hxi := HIN.out x (List.mem_of_getElem? hx)
      obtain ⟨a2, c2, ee, _, _, hc⟩ := Lies.of_owns HO.out
      cases ee
      rcases hc with h0 | ⟨g, off, rfl, hb1, hb2, hc⟩
      · omega
      have hcap : m ≤ cap := by
        rcases HO.out.2 with ⟨hv, h0⟩ | ⟨g', cap', cur, hv, _, _, h, _⟩
        · omega
        · cases hv; exact h
      have c0 : wr.cell? ⟨g, off + k, none⟩ = some (.int .i64 x) := (World.cell?_of_block (w := w1) (hb.block g hb2 (by omega))).trans (Lies.int hc hx)
      have HC := Lib.hid hc; have HX := Lib.hid hx; have HXI := Lib.hid hxi
      clear hc hx hxi
      obtain ⟨wo, hwo⟩ : ∃ wo, wo = wr := ⟨_, rfl⟩
      subst hwo
      have HW : Hid (∀ W : World, SetP W b (n0 + k * m + (m - (k + 1))) (fun e => (P e ∨ ∃ x y : Nat, x < k ∧ x < y ∧ r[x]? = some e.1 ∧ r[y]? = some e.2) ∨ (e.1 = x ∧ ∃ y : Nat, k < y ∧ y < m ∧ r[y]? = some e.2)) → SetP W b (n0 + (k + 1) * m) (fun e => P e ∨ ∃ x y : Nat, x < k + 1 ∧ x < y ∧ r[x]? = some e.1 ∧ r[y]? = some e.2)) := Lib.hid (by
        intro W h
        refine (h.mono ?_).congr (fun e => ?_)
        · rw [Nat.add_mul]; omega
        · constructor
          · rintro ((h | ⟨x', y, h1, h2, h3, h4⟩) | ⟨h1, y, h2, h3, h4⟩)
            · exact .inl h
            · exact .inr ⟨x', y, by omega, h2, h3, h4⟩
            · exact .inr ⟨k, y, by omega, h2, by rw [HX.out, h1], h4⟩
          · rintro (h | ⟨x', y, h1, h2, h3, h4⟩)
            · exact .inl (.inl h)
            · by_cases hxk : x' = k
              · subst hxk
                rw [HX.out] at h3
                have := (List.getElem?_eq_some_iff.1 h4).1
                rw [← HRL.out] at this
                exact .inr ⟨(Option.some.inj h3).symm, y, h2, this, h4⟩
              · exact .inl (.inr ⟨x', y, by omega, h2, h3, h4⟩))
      have hkk : k * m ≤ 2000 * 2000 := Nat.mul_le_mul (by omega) (by omega)
      by_cases hend : cap ≤ k + 1
      · have HE : Hid (SetP wo b (n0 + (k + 1) * m) (fun e => P e ∨ ∃ x y : Nat, x < k + 1 ∧ x < y ∧ r[x]? = some e.1 ∧ r[y]? = some e.2)) := Lib.hid (HW.out wo ((HS2.out.mono (by omega)).congr (fun e => by
          constructor
          · exact .inl
          · rintro (h | ⟨_, y, h2, h3, _⟩)
            · exact h
            · omega)))
        have hc2 : cap - (k + 1) = 0 := by omega
        have hc3 : decide (cap - (k + 1) = 0) = true := by simpa using hc2
        have tk2 : decide ((0 : Int) < ((m - (k + 1) : Nat) : Int)) = false := by rw [decide_eq_false_iff_not]; omega
        have HM : Hid (m - (k + 1) = 0) := Lib.hid (by omega)
        go_wp2
        go_loopw [22] (fun i wr => wr = wo ∧ i = .int .i64 0) (fun i _ => 0)
        case atStart => exact ⟨rfl, rfl⟩
        case round =>
          obtain ⟨rfl, rfl⟩ := hrel
          go_wp2
          go_roundw
          case rel => exact ⟨k + 1, by omega, by go_num, HE, hb⟩
          case measure => simp [intOf]; omega
      · have hc1 : ¬ cap = k + 1 := by omega
        have hc2 : ¬ cap - (k + 1) = 0 := by omega
        have hc3 : decide (cap - (k + 1) = 0) = false := by simpa using hc2
        go_wp2
        go_loopw [22] (fun i wr => ∃ j : Nat, j ≤ m - (k + 1) ∧ i = .int .i64 j ∧ Hid (SetP wr b (n0 + k * m + j) (fun e => (P e ∨ ∃ x y : Nat, x < k ∧ x < y ∧ r[x]? = some e.1 ∧ r[y]? = some e.2) ∨ (e.1 = x ∧ ∃ y : Nat, k < y ∧ y < k + 1 + j ∧ r[y]? = some e.2))) ∧ But b w1 wr) (fun i _ => m - (k + 1) - (intOf i).toNat)
        case atStart => exact ⟨0, by omega, rfl, Lib.hid ((HS2.out.mono (by omega)).congr (fun e => by
          constructor
          · exact .inl
          · rintro (h | ⟨_, y, h2, h3, _⟩)
            · exact h
            · omega)), hb⟩
        case round =>
          obtain ⟨j, hj, rfl, HS3, hb3⟩ := hrel
          by_cases hjl : j < m - (k + 1)
          · have tk2 : decide ((j : Int) < ((m - (k + 1) : Nat) : Int)) = true := by rw [decide_eq_true_eq]; omega
            obtain ⟨y, hy⟩ : ∃ y, r[k + 1 + j]? = some y := ⟨_, List.getElem?_eq_getElem (by rw [← HRL.out]; omega)⟩
            have HYI := Lib.hid (HIN.out y (List.mem_of_getElem? hy))
            have c1 : wr.cell? ⟨g, off + (k + 1) + j, none⟩ = some (.int .i64 y) := by
              have := (World.cell?_of_block (w := w1) (a := ⟨g, off + (k + 1 + j), none⟩) (hb3.block g hb2 (by omega))).trans (Lies.int HC.out hy)
              rwa [show off + (k + 1 + j) = off + (k + 1) + j by omega] at this
            have HY := Lib.hid hy
            clear hy
            go_wp2_with (first | (go_at_call 35; refine (addP_any _ _ _ _ _ _ HS3.out (by simp only [maxLen]; omega) HXI.out HYI.out).mono ?_; rintro e w4 ⟨rfl, hs4, hb4⟩))
            go_roundw
            case rel =>
              refine ⟨j + 1, by omega, by go_num, Lib.hid (hs4.congr (fun e => ?_)), hb3.trans hb4⟩
              constructor
              · rintro ((h | ⟨h1, y', h2, h3, h4⟩) | rfl)
                · exact .inl h
                · exact .inr ⟨h1, y', h2, by omega, h4⟩
                · exact .inr ⟨rfl, k + 1 + j, by omega, by omega, HY.out⟩
              · rintro (h | ⟨h1, y', h2, h3, h4⟩)
                · exact .inl (.inl h)
                · by_cases hyj : y' = k + 1 + j
                  · subst hyj
                    rw [HY.out] at h4
                    exact .inr (Prod.ext h1 (Option.some.inj h4).symm)
                  · exact .inl (.inr ⟨h1, y', h2, by omega, h4⟩)
            case measure => simp [intOf]; omega
          · have tk2 : decide ((j : Int) < ((m - (k + 1) : Nat) : Int)) = false := by rw [decide_eq_false_iff_not]; omega
            have ej : j = m - (k + 1) := by omega
            have HE := Lib.hid (HW.out wr (by
              refine (HS3.out.mono (by omega)).congr (fun e => ?_)
              constructor
              · rintro (h | ⟨h1, y, h2, h3, h4⟩)
                · exact .inl h
                · exact .inr ⟨h1, y, h2, by omega, h4⟩
              · rintro (h | ⟨h1, y, h2, h3, h4⟩)
                · exact .inl h
                · exact .inr ⟨h1, y, h2, by omega, h4⟩))
            go_wp2
            go_roundw
            case rel => exact ⟨k + 1, by omega, by go_num, HE, hb3⟩
            case measure => simp [intOf]; omega
    · have tk : decide ((k : Int) < (m : Int)) = false := by simp; omega
      go_wp2
      go_end0
      refine ⟨rfl, ?_, (But.of_below HB1.out).trans hb⟩
      have ek : k = m := by omega
      refine (HS2.out.mono ?_).congr (fun e => ?_)
      · have : k * m ≤ 2000 * 2000 := Nat.mul_le_mul (by omega) (by omega)
        omega
      · rw [HLA.out e]
        constructor
        · rintro (h | ⟨x, y, h1, h2, h3, h4⟩)
          · exact .inl h
          · exact .inr ⟨x, y, h2, h3, h4⟩
        · rintro (h | ⟨x, y, h2, h3, h4⟩)
          · exact .inl h
          · exact .inr ⟨x, y, by have := (List.getElem?_eq_some_iff.1 h3).1; rw [← HRL.out] at this; omega, h2, h3, h4⟩
end Go.Proofs.Ytkikapodobeaaaa
namespace Go.Proofs.Ytkikapodobeaaaa
open Go.ChangeShapes Go.WideShapes Go.ChangeAt Go.RowKit Go.Maps
set_option linter.unusedVariables false
attribute [local go_sem ↓] Go.wp_at_zero Go.wp_at_succ

theorem SetP.not_cells {w : World} {b n : Nat} {P : Int × Int → Prop} (h : SetP w b n P) {g o : Nat} {v : Value} (hc : w.cell? ⟨g, o, none⟩ = some v) : g ≠ b := by
  rintro rfl
  obtain ⟨S, ⟨D, ⟨es, clock, hb, _⟩, _⟩, _⟩ := h
  simp [World.cell?, hb] at hc
theorem cell_lt {w : World} {g o : Nat} {v : Value} (hc : w.cell? ⟨g, o, none⟩ = some v) : g < w.heap.size := by
  cases h : w.heap[g]? with
  | none => simp [World.cell?, h] at hc
  | some x => exact lt_of_block h
theorem nextP_lt {l : List Int} {n : Nat} (hn : l.length = n) (e : Int × Int) : nextP l e ↔ ∃ x : Nat, x + 1 < n ∧ l[x]? = some e.1 ∧ l[x + 1]? = some e.2 := by
  constructor
  · rintro ⟨x, h1, h2⟩; exact ⟨x, by rw [← hn]; exact (List.getElem?_eq_some_iff.1 h2).1, h1, h2⟩
  · rintro ⟨x, _, h1, h2⟩; exact ⟨x, h1, h2⟩
set_option maxRecDepth 100000 in
set_option maxHeartbeats 4000000 in
theorem addNext_any (b n0 : Nat) (la : Option Addr) (ln lc : Nat) (w : World) (lo hi : Nat) (l : List Int) (P : Int × Int → Prop) (hln : l.length = ln) (hl : Lies w lo hi (.slice la ln lc) ln 1 (l.flatMap intCells)) (hl2 : ln ≤ 2000) (hin : ∀ x ∈ l, I64 x) (hS : SetP w b n0 P) (hn0 : n0 ≤ 10000000000) :
    Calls Try.prog 41 #[.map (some b), .slice la ln lc] w fun e w' => e = .returned (.tuple #[]) ∧ SetP w' b (n0 + 2000) (fun e => P e ∨ nextP l e) ∧ But b w w' := by
  have HN := Lib.hid hln; have HS := Lib.hid hS; have HIN := Lib.hid hin; have HL := Lib.hid hl
  clear hln hS hin hl
  go_enter Try.func41, Try.ntmps41
  go_wp2
  go_loopw [4] (fun i wr => ∃ k : Nat, (k ≤ ln ∨ k = 0) ∧ i = .int .i64 ((k : Int) + 1) ∧ Hid (SetP wr b (n0 + k) (fun e => P e ∨ ∃ x : Nat, x < k ∧ x + 1 < ln ∧ l[x]? = some e.1 ∧ l[x + 1]? = some e.2)) ∧ But b w wr) (fun i _ => ln - (intOf i).toNat)
  case atStart => exact ⟨0, .inr rfl, rfl, Lib.hid ((HS.out.mono (by omega)).congr (fun e => by simp)), But.refl _ _⟩
  case round =>
    obtain ⟨k, hk, rfl, HS2, hb⟩ := hrel
    by_cases hlt : k + 1 < ln
    · have tk : decide ((k : Int) + 1 < (ln : Int)) = true := by rw [decide_eq_true_eq]; omega
      obtain ⟨x, hx⟩ : ∃ x, l[k]? = some x := ⟨_, List.getElem?_eq_getElem (by rw [HN.out]; omega)⟩
      obtain ⟨y, hy⟩ : ∃ y, l[k + 1]? = some y := ⟨_, List.getElem?_eq_getElem (by rw [HN.out]; omega)⟩
      have HXI := Lib.hid (HIN.out x (List.mem_of_getElem? hx)); have HYI := Lib.hid (HIN.out y (List.mem_of_getElem? hy))
      obtain ⟨a2, c2, ee, _, _, hc⟩ := HL.out
      cases ee
      rcases hc with h0 | ⟨g, off, rfl, hb1, hb2, hc⟩
      · omega
      have c0w := Lies.int hc hx
      have c1w := Lies.int hc hy
      have hgb := HS.out.not_cells c0w
      have ks : ∀ X : World, But b wr X → (X.cell? ⟨g, off + k, none⟩ = some (.int .i64 x) ∧ X.cell? ⟨g, off + (k + 1), none⟩ = some (.int .i64 y)) := by
        intro X h
        have hg : g < w.heap.size := cell_lt c0w
        exact ⟨(World.cell?_of_block (w := w) (a := ⟨g, off + k, none⟩) ((hb.trans h).block g hg hgb)).trans c0w, (World.cell?_of_block (w := w) (a := ⟨g, off + (k + 1), none⟩) ((hb.trans h).block g hg hgb)).trans c1w⟩
      have KS := Lib.hid ks
      obtain ⟨c0, c1⟩ := ks wr (But.refl _ _)
      have HX := Lib.hid hx; have HY := Lib.hid hy
      have HSD := Lib.hid (HS2.out.later (Below.refl wr.heap.size wr).drew)
      have l0 : (0 : Int) ≤ (k : Int) := by omega
      have l1 : (k : Int) < (ln : Int) := by omega
      have l2 : (0 : Int) ≤ (k : Int) + 1 := by omega
      have l3 : (k : Int) + 1 < (ln : Int) := by omega
      have e1 : ((k : Int) + 1) - 1 = (k : Int) := by omega
      have s1 : IntKind.i64.wrap ((k : Int) + 1 - 1) = (k : Int) := by rw [e1]; exact IntWalk.i64_in _ (by omega)
      have s2 : IntKind.i64.wrap (k : Int) = (k : Int) := IntWalk.i64_in _ (by omega)
      clear hx hy hc ks c0w c1w
      go_wp2_with fail
      go_region_held3 (fun X => X.cell? ⟨g, off + k, none⟩ = some (.int .i64 x) ∧ X.cell? ⟨g, off + (k + 1), none⟩ = some (.int .i64 y))
        (first | exact KS.out _ ((But.refl _ _).drew) | exact KS.out _ (But.refl _ _) | exact KS.out _ (by assumption))
        (first | (go_at_call 35; refine (addP_any _ _ _ _ _ _ HSD.out (by simp only [maxLen]; omega) HXI.out HYI.out).mono ?_; rintro e w4 ⟨rfl, hs4, hb4⟩; have hbn : But b wr w4 := ((But.refl _ _).drew).trans hb4))
      go_wp2
      go_roundw
      case rel =>
        refine ⟨k + 1, by omega, by go_num, Lib.hid ((hs4.mono (by omega)).congr (fun e => ?_)), hb.trans hbn⟩
        constructor
        · rintro ((h | ⟨x', h1, h2, h3, h4⟩) | rfl)
          · exact .inl h
          · exact .inr ⟨x', by omega, h2, h3, h4⟩
          · exact .inr ⟨k, by omega, hlt, HX.out, HY.out⟩
        · rintro (h | ⟨x', h1, h2, h3, h4⟩)
          · exact .inl (.inl h)
          · by_cases hxk : x' = k
            · subst hxk
              rw [HX.out] at h3; rw [HY.out] at h4
              exact .inr (Prod.ext (Option.some.inj h3).symm (Option.some.inj h4).symm)
            · exact .inl (.inr ⟨x', by omega, h2, h3, h4⟩)
      case measure => simp [intOf]; omega
    · have tk : decide ((k : Int) + 1 < (ln : Int)) = false := by rw [decide_eq_false_iff_not]; omega
      go_wp2
      go_end0
      refine ⟨rfl, (HS2.out.mono (by omega)).congr (fun e => ?_), hb⟩
      rw [nextP_lt HN.out]
      constructor
      · rintro (h | ⟨x, h1, h2, h3⟩)
        · exact .inl h
        · exact .inr ⟨x, h2, h3⟩
      · rintro (h | ⟨x, h2, h3⟩)
        · exact .inl h
        · exact .inr ⟨x, by omega, h2, h3⟩
end Go.Proofs.Ytkikapodobeaaaa
