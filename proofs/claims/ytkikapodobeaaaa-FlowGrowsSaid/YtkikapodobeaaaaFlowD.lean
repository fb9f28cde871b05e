/- The numbers of a list that are partitions' (slices.Clone, IndexFunc, DeleteFunc at ints). -/
import Derived.Test.YtkikapodobeaaaaFlowA
import Derived.Test.YtkikapodobeaaaaNames
import Derived.Lib.SliceRun
namespace Go.Proofs.Ytkikapodobeaaaa
open Go.ChangeShapes Go.WideShapes Go.ChangeAt Go.RowKit
set_option linter.unusedVariables false
attribute [local go_sem ↓] Go.wp_at_zero Go.wp_at_succ

/-- A system's box. -/
def CBox (w : World) (B : Nat) (fr mg : Int) (wa pa ca : Option Addr) (wn wc pn pc cn cc : Nat) : Prop := w.heap[B]? = some (.cells #[.int .i64 fr, .int .i64 mg, .slice wa wn wc, .slice pa pn pc, .slice ca cn cc] 35 (0, 0))
theorem CBox.later {w w' : World} {B : Nat} {fr mg : Int} {wa pa ca : Option Addr} {wn wc pn pc cn cc : Nat} (h : CBox w B fr mg wa pa ca wn wc pn pc cn cc) (hb : Below w.heap.size w w') : CBox w' B fr mg wa pa ca wn wc pn pc cn cc :=
  (hb.block B (lt_of_block h)).trans h
/-- Ints in a block of their own. -/
def IAt (w : World) (g : Nat) (xs : List Int) : Prop := ∃ arr, w.heap[g]? = some (.cells arr 3 (0, 0)) ∧ arr.toList.take xs.length = xs.map (Value.int .i64)
theorem IAt.lt {w : World} {g : Nat} {xs : List Int} (h : IAt w g xs) : g < w.heap.size := let ⟨_, h1, _⟩ := h; lt_of_block h1
theorem IAt.later {w w' : World} {g : Nat} {xs : List Int} (h : IAt w g xs) (hb : Below w.heap.size w w') : IAt w' g xs :=
  let ⟨arr, h1, h2⟩ := h; ⟨arr, (hb.block g (lt_of_block h1)).trans h1, h2⟩
theorem arr_at {arr : Array Value} {xs : List Int} (h : arr.toList.take xs.length = xs.map (Value.int .i64)) {k : Nat} {x : Int} (hx : xs[k]? = some x) : arr[k]? = some (.int .i64 x) := by
  have hk := (List.getElem?_eq_some_iff.1 hx).1
  have h1 : (arr.toList.take xs.length)[k]? = (xs.map (Value.int .i64))[k]? := by rw [h]
  rw [List.getElem?_take_of_lt hk, List.getElem?_map, hx] at h1
  simpa using h1
theorem IAt.cell {w : World} {g : Nat} {xs : List Int} (h : IAt w g xs) {k : Nat} {x : Int} (hx : xs[k]? = some x) : w.cell? ⟨g, k, none⟩ = some (.int .i64 x) ∧ w.frozen? ⟨g, k, none⟩ = false :=
  let ⟨arr, h1, h2⟩ := h; ⟨cell_in h1 (arr_at h2 hx), free_in h1 k⟩
theorem IAt.set {w : World} {g : Nat} {xs : List Int} (h : IAt w g xs) (k : Nat) (y : Int) : IAt (w.setCell ⟨g, k, none⟩ (.int .i64 y)) g (xs.set k y) := by
  obtain ⟨arr, h1, h2⟩ := h
  refine ⟨_, set_at h1, ?_⟩
  rw [List.length_set]
  apply List.ext_getElem?
  intro j
  by_cases hj : j < xs.length
  · have hz := arr_at h2 (List.getElem?_eq_getElem hj)
    have hjs : j < arr.size := (Array.getElem?_eq_some_iff.1 hz).1
    rw [List.getElem?_take_of_lt hj, Array.getElem?_toList, List.getElem?_map, List.getElem?_set, Array.getElem?_setIfInBounds]
    by_cases hk : k = j
    · subst hk; simp [hj, hjs]
    · simp only [if_neg hk, hz, List.getElem?_eq_getElem hj]; rfl
  · rw [List.getElem?_take_eq_none (by omega), List.getElem?_eq_none (by simp; omega)]
theorem flat_int : ∀ xs : List Int, xs.flatMap intCells = xs.map (Value.int .i64)
  | [] => rfl
  | x :: l => by rw [List.flatMap_cons, flat_int l]; rfl
theorem IAt.of_owns {w : World} {base g n cap : Nat} {xs : List Int} (h : w.ownsRow base 3 1 (.slice (some ⟨g, 0, none⟩) n cap) n (xs.flatMap intCells)) (hn : xs.length = n) : IAt w g xs := by
  rcases h.2 with ⟨h, _⟩ | ⟨g', cap', cur, hv, _, hg, _, _, _, ht⟩
  · cases h
  · cases hv
    refine ⟨cur, hg, ?_⟩
    rw [hn, ← Nat.mul_one n, ht, flat_int]
theorem IAt.lies {w : World} {g lo hi cap : Nat} {xs : List Int} (h : IAt w g xs) (h1 : lo ≤ g) (h2 : g < hi) {ys : List Int} {n : Nat} (hn : ys.length = n) (hp : xs.take n = ys) : Lies w lo hi (.slice (some ⟨g, 0, none⟩) n cap) n 1 (ys.flatMap intCells) := by
  refine ⟨_, _, rfl, by rw [flat_len intCells 1 (fun _ => rfl), hn], (fun h => by cases h), .inr ⟨g, 0, rfl, h1, h2, fun k u hu => ?_⟩⟩
  rw [Nat.zero_add]
  have hk : k < ys.length := by
    have := (List.getElem?_eq_some_iff.1 hu).1
    rw [flat_len intCells 1 (fun _ => rfl)] at this
    omega
  have e := flat_at intCells 1 (fun _ => rfl) ys k 0 ys[k] (List.getElem?_eq_getElem hk) (by omega)
  simp only [Nat.mul_one, Nat.add_zero] at e
  rw [e] at hu
  simp [intCells] at hu
  subst hu
  refine (h.cell ?_).1
  have h3 : (xs.take n)[k]? = ys[k]? := by rw [hp]
  rw [List.getElem?_take_of_lt (by omega)] at h3
  rw [h3]
  exact List.getElem?_eq_getElem hk
theorem Lies.int {w : World} {b off : Nat} {xs : List Int} {i : Nat} {x : Int} (h : ∀ k u, (xs.flatMap intCells)[k]? = some u → w.cell? ⟨b, off + k, none⟩ = some u) (hx : xs[i]? = some x) : w.cell? ⟨b, off + i, none⟩ = some (.int .i64 x) := by
  have e := flat_at intCells 1 (fun _ => rfl) xs i 0 x hx (by omega)
  simp only [Nat.mul_one, Nat.add_zero] at e
  exact h i _ (by rw [e]; rfl)
theorem setCells_at : ∀ (vs : List Value) (w : World) (b o : Nat) (arr : Array Value) (t : TypeId), w.heap[b]? = some (.cells arr t (0, 0)) → ∃ arr', (w.setCells b o vs).heap[b]? = some (.cells arr' t (0, 0)) ∧ (∀ k, k < o → arr'[k]? = arr[k]?) ∧ But b w (w.setCells b o vs)
  | [], w, b, o, arr, t, h => ⟨arr, h, fun _ _ => rfl, But.refl _ _⟩
  | v :: r, w, b, o, arr, t, h => by
    obtain ⟨a2, h2, h3, h4⟩ := setCells_at r (w.setCell ⟨b, o, none⟩ v) b (o + 1) _ t (set_at h)
    refine ⟨a2, h2, fun k hk => ?_, ((But.refl b w).set o v).trans h4⟩
    rw [h3 k (by omega), Array.getElem?_setIfInBounds, if_neg (by omega)]

/-! ### known -/
theorem Try.zeroI (w : World) : (zeroValue 3).run Try.prog w = .ok (.int .i64 0) w := by kernel_rfl
set_option maxHeartbeats 1000000 in
theorem kn_any (fr mg x : Int) (wa pa ca : Option Addr) (wn wc pn pc cn cc B : Nat) (w : World) (hB : CBox w B fr mg wa pa ca wn wc pn pc cn cc) :
    Calls Try.prog 47 #[.int .i64 x, .pointer (some ⟨B, 0, none⟩)] w fun e w' => e = .returned (.bool (!hasB pn x)) ∧ Below w.heap.size w w' := by
  have c0 : w.cell? ⟨B, 0, none⟩ = some (.int .i64 fr) := cell_in hB rfl
  have c1 : w.cell? ⟨B, 1, none⟩ = some (.int .i64 mg) := cell_in hB rfl
  have c2 : w.cell? ⟨B, 2, none⟩ = some (.slice wa wn wc) := cell_in hB rfl
  have c3 : w.cell? ⟨B, 3, none⟩ = some (.slice pa pn pc) := cell_in hB rfl
  have c4 : w.cell? ⟨B, 4, none⟩ = some (.slice ca cn cc) := cell_in hB rfl
  clear hB
  cases hh : hasB pn x with
  | false =>
    have HH := Lib.hid hh; clear hh
    go_enter Try.func47, Try.ntmps47
    go_wp2_with (first | (go_at_call 20; refine (has_any _ _ _ _ _ _ _ _ _ _ _ _ _).mono ?_; rintro e w' ⟨rfl, hb⟩; rw [HH.out]))
    go_ret
    exact ⟨rfl, hb⟩
  | true =>
    have HH := Lib.hid hh; clear hh
    go_enter Try.func47, Try.ntmps47
    go_wp2_with (first | (go_at_call 20; refine (has_any _ _ _ _ _ _ _ _ _ _ _ _ _).mono ?_; rintro e w' ⟨rfl, hb⟩; rw [HH.out]))
    go_ret
    exact ⟨rfl, hb⟩
set_option maxRecDepth 100000 in
set_option maxHeartbeats 4000000 in
theorem index_any (fr mg : Int) (wa pa ca : Option Addr) (wn wc pn pc cn cc B : Nat) (w : World) (hB : CBox w B fr mg wa pa ca wn wc pn pc cn cc) (la : Option Addr) (ln lc : Nat) (l : List Int) (hl : ln = 0 ∨ ∃ g, la = some ⟨g, 0, none⟩ ∧ IAt w g l) (hln : l.length = ln) (hl2 : ln ≤ 1000) :
    Calls Try.prog 52 #[.slice la ln lc, .func (.func 47) #[] #[.pointer (some ⟨B, 0, none⟩)]] w fun e w' => ((e = .returned (.int .i64 (-1)) ∧ ∀ x ∈ l, hasB pn x = true) ∨ ∃ (k : Nat) (x : Int), e = .returned (.int .i64 k) ∧ k < ln ∧ l[k]? = some x ∧ hasB pn x = false ∧ ∀ y ∈ l.take k, hasB pn y = true) ∧ Below w.heap.size w w' := by
  have HB := Lib.hid hB; have HL := Lib.hid hl; have HN := Lib.hid hln
  clear hB hl hln
  go_enter Try.func52, Try.ntmps52
  go_wp2_with fail
  go_loopw [8] (fun i wr => ∃ k : Nat, k ≤ ln ∧ i = .int .i64 k ∧ Hid (∀ y ∈ l.take k, hasB pn y = true) ∧ Below w.heap.size w wr) (fun i _ => ln - (intOf i).toNat)
  case atStart => exact ⟨0, by omega, rfl, Lib.hid (by simp), Below.refl _ _⟩
  case round =>
    obtain ⟨k, hk, rfl, HA, hb⟩ := hrel
    by_cases hlt : k < ln
    · have tk : decide ((k : Int) < (ln : Int)) = true := by simpa using hlt
      obtain ⟨x, hx⟩ : ∃ x, l[k]? = some x := ⟨_, List.getElem?_eq_getElem (by rw [HN.out]; exact hlt)⟩
      obtain ⟨g, rfl, hg⟩ := HL.out.resolve_left (by omega)
      obtain ⟨c0, _⟩ := (hg.later hb).cell hx
      have HX := Lib.hid hx
      have HC := Lib.hid (HB.out.later hb)
      clear hx
      cases hh : hasB pn x with
      | true =>
        have HH := Lib.hid hh; clear hh
        go_wp2_with (first | (go_at_call 47; refine (kn_any _ _ _ _ _ _ _ _ _ _ _ _ _ _ HC.out).mono ?_; rintro e w' ⟨rfl, hb2⟩; rw [HH.out]))
        go_roundw
        case rel =>
          refine ⟨k + 1, by omega, by go_num, Lib.hid (fun y hy => ?_), hb.trans (hb2.mono hb.size)⟩
          rw [List.take_add_one, HX.out] at hy
          rcases List.mem_append.1 hy with hy | hy
          · exact HA.out y hy
          · simp at hy; subst hy; exact HH.out
        case measure => simp [intOf]; omega
      | false =>
        have HH := Lib.hid hh; clear hh
        go_wp2_with (first | (go_at_call 47; refine (kn_any _ _ _ _ _ _ _ _ _ _ _ _ _ _ HC.out).mono ?_; rintro e w' ⟨rfl, hb2⟩; rw [HH.out]))
        go_ret
        exact ⟨.inr ⟨k, x, rfl, hlt, HX.out, HH.out, HA.out⟩, hb.trans (hb2.mono hb.size)⟩
    · have tk : decide ((k : Int) < (ln : Int)) = false := by simp; omega
      go_wp2
      go_ret
      exact ⟨.inl ⟨rfl, fun x hx => HA.out x (by rw [List.take_of_length_le (by rw [HN.out]; omega)]; exact hx)⟩, hb⟩

/-- How far the deleting has come: j looked at, i kept. -/
def Kept (keep : Int → Bool) (l : List Int) (j i : Nat) (dk : List Int) : Prop := dk.length = l.length ∧ i < j ∧ j ≤ l.length ∧ i = ((l.take j).filter keep).length ∧ dk.take i = (l.take j).filter keep ∧ dk.drop j = l.drop j
theorem Kept.start {keep : Int → Bool} {l : List Int} {k : Nat} {x : Int} (hx : l[k]? = some x) (hn : keep x = false) (h : ∀ y ∈ l.take k, keep y = true) : Kept keep l (k + 1) k l := by
  have hk := (List.getElem?_eq_some_iff.1 hx).1
  have e : (l.take (k + 1)).filter keep = l.take k := by
    rw [List.take_add_one, hx, List.filter_append, List.filter_eq_self.2 h]
    simp [hn]
  refine ⟨rfl, by omega, by omega, ?_, ?_, rfl⟩
  · rw [e, List.length_take]; omega
  · rw [e]
theorem Kept.at {keep : Int → Bool} {l : List Int} {j i : Nat} {dk : List Int} (h : Kept keep l j i dk) {x : Int} (hx : l[j]? = some x) : dk[j]? = some x := by
  obtain ⟨_, _, _, _, _, h6⟩ := h
  have : (dk.drop j)[0]? = (l.drop j)[0]? := by rw [h6]
  simpa [hx] using this
theorem Kept.yes {keep : Int → Bool} {l : List Int} {j i : Nat} {dk : List Int} (h : Kept keep l j i dk) {x : Int} (hx : l[j]? = some x) (hk : keep x = true) : Kept keep l (j + 1) (i + 1) (dk.set i x) := by
  obtain ⟨h1, h2, h3, h4, h5, h6⟩ := h
  have hj := (List.getElem?_eq_some_iff.1 hx).1
  have e : (l.take (j + 1)).filter keep = (l.take j).filter keep ++ [x] := by
    rw [List.take_add_one, hx, List.filter_append]
    simp [hk]
  refine ⟨by simp [h1], by omega, by omega, by rw [e]; simp [← h4], ?_, ?_⟩
  · rw [e, ← h5]
    apply List.ext_getElem?
    intro k
    rw [List.getElem?_take, List.getElem?_append, List.getElem?_set]
    have hl : (dk.take i).length = i := by rw [List.length_take]; omega
    rw [hl]
    by_cases hki : k < i
    · rw [if_pos (by omega), if_pos hki, if_neg (by omega), List.getElem?_take, if_pos hki]
    · rw [if_neg hki]
      by_cases hke : k = i
      · subst hke; simp; omega
      · rw [if_neg (by omega), List.getElem?_eq_none (by simp; omega)]
  · rw [List.drop_set, if_pos (by omega), ← List.drop_drop, ← List.drop_drop, h6]
theorem Kept.no {keep : Int → Bool} {l : List Int} {j i : Nat} {dk : List Int} (h : Kept keep l j i dk) {x : Int} (hx : l[j]? = some x) (hk : keep x = false) : Kept keep l (j + 1) i dk := by
  obtain ⟨h1, h2, h3, h4, h5, h6⟩ := h
  have hj := (List.getElem?_eq_some_iff.1 hx).1
  have e : (l.take (j + 1)).filter keep = (l.take j).filter keep := by
    rw [List.take_add_one, hx, List.filter_append]
    simp [hk]
  refine ⟨h1, by omega, by omega, by rw [e, ← h4], by rw [e, h5], ?_⟩
  rw [← List.drop_drop, ← List.drop_drop, h6]
set_option maxRecDepth 100000 in
set_option maxHeartbeats 4000000 in
theorem delete_any (fr mg : Int) (wa pa ca : Option Addr) (wn wc pn pc cn cc B : Nat) (w : World) (hB : CBox w B fr mg wa pa ca wn wc pn pc cn cc) (lo : Nat) (la : Option Addr) (ln lc : Nat) (l : List Int) (hl : ln = 0 ∨ ∃ g, la = some ⟨g, 0, none⟩ ∧ lo ≤ g ∧ IAt w g l) (h0 : la = none → ln = 0 ∧ lc = 0) (hln : l.length = ln) (hl2 : ln ≤ 1000) (hlc : ln ≤ lc) (hlo : lo ≤ w.heap.size) :
    Calls Try.prog 45 #[.slice la ln lc, .func (.func 47) #[] #[.pointer (some ⟨B, 0, none⟩)]] w fun e w' => ∃ a cap, e = .returned (.slice a (l.filter (hasB pn)).length cap) ∧ Lies w' lo w'.heap.size (.slice a (l.filter (hasB pn)).length cap) (l.filter (hasB pn)).length 1 ((l.filter (hasB pn)).flatMap intCells) ∧ Below lo w w' := by
  have hI := index_any fr mg wa pa ca wn wc pn pc cn cc B w hB la ln lc l (hl.imp id (fun ⟨g, h1, _, h2⟩ => ⟨g, h1, h2⟩)) hln hl2
  have HB := Lib.hid hB; have HL := Lib.hid hl; have HN := Lib.hid hln; have HZ := Lib.hid h0
  clear hB hl hln h0
  have hk1 : ∀ k : Nat, ((k : Int) == -1) = false := fun k => beq_eq_false_iff_ne.2 (by omega)
  go_enter Try.func45, Try.ntmps45
  go_wp2_with (first | (go_at_call 52; refine hI.mono ?_; rintro e w1 ⟨⟨rfl, ha⟩ | ⟨k, x, rfl, hkl, hx, hn, ha⟩, hb1⟩))
  · go_ret
    have hf : l.filter (hasB pn) = l := List.filter_eq_self.2 ha
    rw [hf, HN.out]
    refine ⟨la, lc, rfl, ?_, hb1.mono hlo⟩
    rcases HL.out with hz | ⟨g, rfl, hg1, hg⟩
    · have hl0 : l = [] := List.eq_nil_of_length_eq_zero (by rw [HN.out, hz])
      subst hl0; subst hz
      exact ⟨la, lc, rfl, by simp, HZ.out, .inl rfl⟩
    · exact (hg.later hb1).lies hg1 (by have := (hg.later hb1).lt; exact this) HN.out (by rw [List.take_of_length_le]; rw [HN.out]; omega)
  · have HK := Lib.hid (Kept.start hx hn ha)
    obtain ⟨g, rfl, hg1, hg⟩ := HL.out.resolve_left (by omega)
    have HG := Lib.hid (hg.later hb1)
    have HB1 := Lib.hid (HB.out.later hb1)
    have hw1 := hb1.size
    have HBB := Lib.hid hb1
    have hglt := hg.lt
    clear hx hn ha hI hg hb1
    have hne : B ≠ g := by
      intro e
      obtain ⟨arr, h1, _⟩ := HG.out
      have h2 := HB1.out
      unfold CBox at h2
      rw [e, h1] at h2
      simp at h2
    go_loopw [5, 6, 7] (fun s5 s6 _ wr => ∃ (i j : Nat) (dk : List Int), s5 = .int .i64 i ∧ s6 = .int .i64 j ∧ j ≤ ln ∧ i < ln ∧ Hid (Kept (hasB pn) l j i dk) ∧ Hid (IAt wr g dk) ∧ Hid (CBox wr B fr mg wa pa ca wn wc pn pc cn cc) ∧ Below lo w1 wr) (fun _ s6 _ _ => ln - (intOf s6).toNat)
    case atStart => exact ⟨k, k + 1, l, rfl, by go_num, by omega, by omega, HK, HG, HB1, Below.refl _ _⟩
    case round =>
      obtain ⟨i, j, dk, rfl, rfl, hj, hi, HK2, HI2, HC2, hb⟩ := hrel
      have hij := HK2.out.2.1
      by_cases hlt : j < ln
      · have tk : decide ((j : Int) < (ln : Int)) = true := by simpa using hlt
        obtain ⟨x, hx⟩ : ∃ x, l[j]? = some x := ⟨_, List.getElem?_eq_getElem (by rw [HN.out]; exact hlt)⟩
        obtain ⟨c0, _⟩ := HI2.out.cell (HK2.out.at hx)
        have l0 : (0 : Int) ≤ (j : Int) := by omega
        have l1 : (j : Int) < (ln : Int) := by omega
        have l2 : (0 : Int) ≤ (i : Int) := by omega
        have l3 : (i : Int) < (ln : Int) := by omega
        have HX := Lib.hid hx
        clear hx
        cases hh : hasB pn x with
        | true =>
          have HH := Lib.hid hh; clear hh
          have ks : ∀ W : World, Below wr.heap.size wr W → ∃ u, W.cell? ⟨g, i, none⟩ = some u ∧ W.frozen? ⟨g, i, none⟩ = false := by
            intro W h
            obtain ⟨u, hu⟩ : ∃ u, dk[i]? = some u := ⟨_, List.getElem?_eq_getElem (by rw [HK2.out.1, HN.out]; omega)⟩
            exact ⟨_, (HI2.out.later h).cell hu⟩
          have KS := Lib.hid ks; clear ks
          go_wp2_with (first | (go_at_call 47; refine (kn_any _ _ _ _ _ _ _ _ _ _ _ _ _ _ HC2.out).mono ?_; rintro e w' ⟨rfl, hb2⟩; rw [HH.out]; obtain ⟨u, hu1, hu2⟩ := KS.out _ hb2))
          go_roundw
          case rel =>
            refine ⟨i + 1, j + 1, dk.set i x, by go_num, by go_num, by omega, ?_, Lib.hid (HK2.out.yes HX.out HH.out), Lib.hid ((HI2.out.later hb2).set i x), Lib.hid ?_, ?_⟩
            · omega
            · exact ((But.refl g _).set i _).at (HC2.out.later hb2) hne
            · exact (hb.trans (hb2.mono (by have := hb.size; omega))).setCell (p := ⟨g, i, none⟩) hg1 _
          case measure => simp [intOf]; omega
        | false =>
          have HH := Lib.hid hh; clear hh
          go_wp2_with (first | (go_at_call 47; refine (kn_any _ _ _ _ _ _ _ _ _ _ _ _ _ _ HC2.out).mono ?_; rintro e w' ⟨rfl, hb2⟩; rw [HH.out]))
          go_roundw
          case rel => exact ⟨i, j + 1, dk, rfl, by go_num, by omega, hi, Lib.hid (HK2.out.no HX.out HH.out), Lib.hid (HI2.out.later hb2), Lib.hid (HC2.out.later hb2), hb.trans (hb2.mono (by have := hb.size; omega))⟩
          case measure => simp [intOf]; omega
      · have tk : decide ((j : Int) < (ln : Int)) = false := by simp; omega
        have hcl : ∀ ty, (Builtin.clear_ #[42] ty #[.slice (some ⟨g, i, none⟩) (ln - i) (lc - i)]).run Try.prog wr = .ok (.tuple #[]) (wr.setCells g i (List.replicate (ln - i) (.int .i64 0))) :=
          fun ty => Lib.run_clear_slice wr _ _ ty _ Try.underlying42 Try.zeroI rfl rfl g i _ _ (by omega) (fun t ht => by
            obtain ⟨u, hu⟩ : ∃ u, dk[i + t]? = some u := ⟨_, List.getElem?_eq_getElem (by rw [HK2.out.1, HN.out]; omega)⟩
            rw [(HI2.out.cell hu).1]; rfl) (fun t ht => by
            obtain ⟨u, hu⟩ : ∃ u, dk[i + t]? = some u := ⟨_, List.getElem?_eq_getElem (by rw [HK2.out.1, HN.out]; omega)⟩
            exact (HI2.out.cell hu).2)
        have l2 : (0 : Int) ≤ (i : Int) := by omega
        have l3 : (i : Int) ≤ (ln : Int) := by omega
        go_wp2
        go_ret
        obtain ⟨q1, q2, q3, q4, q5, q6⟩ := HK2.out
        have ej : j = l.length := by rw [HN.out]; omega
        rw [ej, List.take_length] at q4 q5
        obtain ⟨arr, h1, h2⟩ := HI2.out
        obtain ⟨arr', h3, h4, h5⟩ := setCells_at (List.replicate (ln - i) (.int .i64 0)) wr g i arr _ h1
        have HA : IAt (wr.setCells g i (List.replicate (ln - i) (.int .i64 0))) g (l.filter (hasB pn)) := by
          refine ⟨arr', h3, ?_⟩
          apply List.ext_getElem?
          intro k
          by_cases hk : k < (l.filter (hasB pn)).length
          · rw [List.getElem?_take_of_lt hk, Array.getElem?_toList, h4 k (by omega), List.getElem?_map]
            have h6 : (dk.take i)[k]? = (l.filter (hasB pn))[k]? := by rw [q5]
            rw [List.getElem?_take_of_lt (by omega)] at h6
            rw [List.getElem?_eq_getElem hk] at h6 ⊢
            exact arr_at h2 h6
          · rw [List.getElem?_take_eq_none (by omega), List.getElem?_eq_none (by simp; omega)]
        refine ⟨some ⟨g, 0, none⟩, lc, by rw [q4]; rfl, HA.lies hg1 HA.lt rfl (List.take_length), ?_⟩
        exact ((HBB.out.mono hlo).trans hb).trans (h5.below hg1 (by have := hb.size; omega))
end Go.Proofs.Ytkikapodobeaaaa
