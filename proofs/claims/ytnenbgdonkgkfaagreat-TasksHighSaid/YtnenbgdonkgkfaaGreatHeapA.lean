/- All: the numbers, in order. -/
import Derived.Test.YtnenbgdonkgkfaaGreatHeapL
namespace Go.Proofs.YtnenbgdonkgkfaaGreat
open Go.ChangeShapes Go.WideShapes Go.ChangeAt Go.RowKit
set_option linter.unusedVariables false

open Go.Shelf Go.Lib Go.Sort in
theorem sortH_is {room n : Nat} {f : Nat → En} {x : Nat → Int} {R : List En} {D : Nat → Option Int} (h : Good room n f x D) (k : Rep R D) : sortH (rowH n f) = R := by
  have hp := row_perm h k
  have hlt : ∀ a b, (!(ltOf cmpH) b a) = true ↔ ¬ ltH b a := fun a b => by rw [lt_cmpH]; simp
  have hs : R.Pairwise (fun a b => (!(ltOf cmpH) b a) = true) := k.1.imp fun {a b} hl => (hlt a b).2 hl.asymm
  unfold sortH
  refine List.Perm.eq_of_pairwise (le := fun x y => (!(ltOf cmpH) y x) = true) ?_ ?_ hs ((List.mergeSort_perm _ _).trans hp)
  · intro a b _ _ h1 h2
    exact eq_of_not ((hlt b a).1 h2) ((hlt a b).1 h1)
  · exact List.pairwise_mergeSort (le := fun x y => !(ltOf cmpH) y x)
      (fun a b c h1 h2 => (hlt a c).2 (ltH.le_trans ((hlt a b).1 h1) ((hlt b c).1 h2)))
      (fun a b => by
        rw [Bool.or_eq_true, hlt, hlt]
        by_cases hc : ltH b a
        · exact .inr hc.asymm
        · exact .inl hc) _
set_option maxRecDepth 100000 in
set_option maxHeartbeats 2000000 in
theorem valuesMade_any (ad : Option Addr) (ln cp : Nat) (w : World) : Calls Tryz.prog 70 #[.slice ad ln cp] w fun e w' => e = .returned (.func (.func 78) #[] #[.pointer (some ⟨w.heap.size, 0, none⟩)]) ∧ w' = w.alloc (.cells #[.slice ad ln cp] 99) := by
  go_enter Tryz.func70, Tryz.ntmps70
  go_wp2
  go_ret
  exact ⟨rfl, rfl⟩
theorem owns_en {w : World} {base n : Nat} {v : Value} {R : List En} (h : w.ownsRow base 97 2 v n (R.flatMap enC)) (hn : n = R.length) : ∃ ao cap, v = .slice ao n cap ∧ (n = 0 ∨ ∃ g, ao = some ⟨g, 0, none⟩ ∧ base ≤ g ∧ g < w.heap.size ∧ ∀ Y : World, Y.heap[g]? = w.heap[g]? → ∀ i (hi : i < R.length), Y.cell? ⟨g, i * 2, none⟩ = some (.int .i64 ((R[i]).1 : Nat)) ∧ Y.cell? ⟨g, i * 2 + 1, none⟩ = some (.int .i64 (R[i]).2)) := by
  rcases h.2 with ⟨h1, h2⟩ | ⟨g, cap, cur, hv, hb, hg, h1, h2, h3, h4⟩
  · subst h2
    exact ⟨none, 0, h1, .inl rfl⟩
  · refine ⟨_, cap, hv, .inr ⟨g, rfl, hb, lt_of_block hg, fun Y hY i hi => ?_⟩⟩
    have hx : R[i]? = some R[i] := List.getElem?_eq_getElem hi
    have a0 := flat_at enC 2 enC_len R i 0 _ hx (by omega)
    have a1 := flat_at enC 2 enC_len R i 1 _ hx (by omega)
    rw [← h4, List.getElem?_take_of_lt (by omega)] at a0 a1
    exact ⟨cell_in (hY.trans hg) (by simpa [enC] using a0), cell_in (hY.trans hg) (by simpa [enC] using a1)⟩
/-- A row of ints, made. -/
def numObj (n : Nat) : Obj := .cells (madeCells (Value.int .i64 0).cells n) 3
theorem wher_made {w : World} {G n : Nat} (h : w.heap[G]? = some (numObj n)) : WherAt w G n (fun _ => 0) :=
  ⟨_, h, by simp [madeCells], fun i hi => by simp [madeCells, Value.cells, hi, Nat.mod_one]⟩
set_option maxRecDepth 100000 in
set_option maxHeartbeats 4000000 in
theorem hall_any (w : World) (lo hi H W X room n : Nat) (f : Nat → En) (x : Nat → Int) (D : Nat → Option Int) (R : List En) (h : HpAt w lo hi H W X room n f x) (hG : Good room n f x D) (hR : Rep R D) :
    Calls Tryz.prog 52 #[.pointer (some ⟨H, 0, none⟩)] w fun e w' => ∃ G y, e = .returned (.slice (some ⟨G, 0, none⟩) n n) ∧ w.heap.size ≤ G ∧ WherAt w' G n y ∧ (∀ i (hi : i < R.length), y i = ((R[i]).1 : Nat)) ∧ Below w.heap.size w w' := by
  have hl := row_len hG hR
  have hnr := hG.le
  have hsm := h.small
  obtain ⟨b0, b1, b2, b3⟩ := h.cells
  obtain ⟨V, hV⟩ : ∃ V, V = w.alloc (.cells #[.slice (some ⟨W, 0, none⟩) n room] 99) := ⟨_, rfl⟩
  have HBV : Hid (Below w.heap.size w V) := Lib.hid (by rw [hV]; exact below1 _ _)
  have HS := sorted_any w.heap.size W n room f hnr hsm V (by rw [hV]; exact heap_alloc_new _ _) ((h.later (by rw [hV]; exact below1 _ _)).who)
  rw [sortH_is hG hR] at HS
  have HS := Lib.hid HS
  have HV := Lib.hid hV
  have HL := Lib.hid hl
  obtain ⟨i0, hi0, hz0, hz1, hz2⟩ := info_parts Tryz.infoInt
  have hmk : ∀ W : World, (Instr.makeSlice 63 (.int .i64 (n : Int)) (.int .i64 (n : Int))).run Tryz.prog W = .ok (.slice (some ⟨W.heap.size, 0, none⟩) n n) (W.alloc (numObj n)) := fun W => by
    have := run_make (P := Tryz.prog) W 63 3 i0 _ Tryz.underlying63 hi0 hz0 .i64 .i64 (n : Int) (n : Int) (by omega) (by omega) (by rw [hz2]; omega) (by omega)
    rw [this, hz1]
    simp [numObj]
  clear h hG hR hV hl hi0 hz0 hz1 hz2
  go_enter Tryz.func52, Tryz.ntmps52
  go_wp2_with (first
    | (go_at_call 69; refine HS.out.mono ?_; rintro e w3 ⟨v3, rfl, ho3', hb3'⟩; obtain ⟨ao, cap, rfl, hr3'⟩ := owns_en ho3' HL.out; have hr3 := Lib.hid hr3'; have hb3 := Lib.hid hb3'; clear ho3' hb3' hr3')
    | (go_at_call 70; refine (valuesMade_any _ _ _ _).mono ?_; rintro e w2 ⟨rfl, hw2⟩; rw [← HV.out] at hw2; rw [hw2]; clear hw2)
    | fail "no arm")
  have hb4 := Lib.hid (below1 w3 (numObj n))
  have hG4 := Lib.hid (heap_alloc_new w3 (numObj n))
  obtain ⟨w4, hw4⟩ : ∃ w4, w4 = w3.alloc (numObj n) := ⟨_, rfl⟩
  rw [← hw4] at hb4 hG4 ⊢
  clear hw4 hmk
  obtain ⟨G, hG⟩ : ∃ G, G = w3.heap.size := ⟨_, rfl⟩
  rw [← hG] at hb4 hG4 ⊢
  have HG := Lib.hid hG
  clear hG
  go_loopw [21] (fun s wr => ∃ (k : Nat) (y : Nat → Int), k ≤ n ∧ s = .int .i64 k ∧ Hid (WherAt wr G n y) ∧ Hid (∀ i (hi : i < R.length), i < k → y i = ((R[i]).1 : Nat)) ∧ Hid (Below G w3 wr)) (fun s _ => n - (intOf s).toNat)
  case atStart => exact ⟨0, fun _ => 0, Nat.zero_le _, rfl, Lib.hid (wher_made hG4.out), Lib.hid (fun i _ h => by omega), hb4⟩
  case round =>
    obtain ⟨k, y, hk, rfl, HY, HK, HB⟩ := hrel
    by_cases hlt : k < n
    · have l0 : decide ((k : Int) < (n : Int)) = true := decide_eq_true (by omega)
      have l1 : (0 : Int) ≤ (k : Int) := by omega
      have l2 : (k : Int) < (n : Int) := by omega
      rcases hr3.out with h0 | ⟨g, rfl, hg1, hg2, hg3⟩
      · omega
      have hkR : k < R.length := by rw [← HL.out]; exact hlt
      obtain ⟨c0, c1⟩ := hg3 wr (HB.out.block g (by rw [HG.out]; exact hg2)) k hkR
      obtain ⟨e0, he0⟩ : ∃ e0, e0 = R[k] := ⟨_, rfl⟩
      rw [← he0] at c0 c1
      have HE := Lib.hid he0
      obtain ⟨d0, d1⟩ := HY.out.at_ hlt
      have u0 : G < wr.heap.size := HY.out.lt
      have u1 : g < wr.heap.size := by have := HB.out.size; omega
      obtain ⟨i0, t0⟩ := e0
      dsimp only at c0 c1
      have HBX := Lib.hid (below1 wr (.cells #[.int .i64 (i0 : Nat), .int .i64 t0] 97))
      clear he0 hg3
      go_wp2
      go_roundw
      case rel =>
        refine ⟨k + 1, upd y k (i0 : Nat), by omega, by go_num, Lib.hid ((HY.out.set hlt _).same (Below.heap_alloc _ _ _ (by simpa using u0))), Lib.hid (fun i hi hik => ?_), Lib.hid (b_alloc (HB.out.setCell (Nat.le_refl _) _) (by rw [HG.out]; exact Nat.le_refl _) _)⟩
        by_cases e : i = k
        · subst e
          rw [upd_at, ← HE.out]
        · rw [upd_ne _ _ e]; exact HK.out i hi (by omega)
      case measure => simp [intOf]; omega
    · have l0 : decide ((k : Int) < (n : Int)) = false := decide_eq_false (by omega)
      have HN : Hid (n ≤ k) := Lib.hid (by omega)
      go_wp2
      go_ret
      have h1 : Below w.heap.size w w3 := HBV.out.trans (hb3.out.mono HBV.out.size)
      exact ⟨G, y, rfl, by rw [HG.out]; exact h1.size, HY.out, fun i hi => HK.out i hi (by rw [← HL.out] at hi; have := HN.out; omega), h1.trans (HB.out.mono (by rw [HG.out]; exact h1.size))⟩
end Go.Proofs.YtnenbgdonkgkfaaGreat
