/- The document's reader of numbers in memory: Get, truth. -/
import Derived.Test.YtiombjkjoehjpaaImageJ
namespace Go.Proofs.Ytiombjkjoehjpaa
open Go.ChangeShapes Go.WideShapes Go.ChangeAt Go.RowKit
set_option linter.unusedVariables false

/-- The document's reader in memory: block X; the bytes lie below it; none: it has gone wrong. -/
def RrS (lo : Nat) (w : World) (X : Nat) (s : Option (List Int)) : Prop := ∃ (a : Option Addr) (n c : Nat) (e : Int) (l : List Int), w.heap[X]? = some (.cells #[.slice a n c, .int .i64 e] 96 (0, 0)) ∧ l.length = n ∧ n ≤ c ∧ n ≤ 4611686018427387904 ∧ Bytes l ∧ Lies w lo X (.slice a n c) n 1 (bts l) ∧ (match s with
  | none => e ≠ 0
  | some l' => e = 0 ∧ l = l')
theorem RrS.lt {lo : Nat} {w : World} {X : Nat} {s : Option (List Int)} (h : RrS lo w X s) : X < w.heap.size := by obtain ⟨a, n, c, e, l, h1, _⟩ := h; exact lt_of_block h1
theorem RrS.keepB {lo : Nat} {w w' : World} {X B : Nat} {s : Option (List Int)} (h : RrS lo w X s) (k : Below B w w') (hB : X < B) : RrS lo w' X s := by
  obtain ⟨a, n, c, e, l, h1, h2, h3, h4, h5, h6, h7⟩ := h
  exact ⟨a, n, c, e, l, (k.block X hB).trans h1, h2, h3, h4, h5, h6.keep (SameIn.of_below k (by omega)), h7⟩
theorem RrS.keep {lo : Nat} {w w' : World} {X : Nat} {s : Option (List Int)} (h : RrS lo w X s) (k : Below w.heap.size w w') : RrS lo w' X s := h.keepB k h.lt
theorem RrS.set {lo : Nat} {w : World} {X B : Nat} {s : Option (List Int)} (h : RrS lo w X s) (hB : X < B) (j : Nat) (u : Value) : RrS lo (w.setCell ⟨B, j, none⟩ u) X s :=
  h.keepB ((Below.refl (X + 1) _).setCell (p := ⟨B, j, none⟩) hB u) (by omega)
/-- A store elsewhere, below the bytes. -/
theorem RrS.setB {lo : Nat} {w : World} {X B : Nat} {s : Option (List Int)} (h : RrS lo w X s) (hB : B < lo) (hX : X ≠ B) (j : Nat) (u : Value) : RrS lo (w.setCell ⟨B, j, none⟩ u) X s := by
  obtain ⟨a, n, c, e, l, h1, h2, h3, h4, h5, h6, h7⟩ := h
  exact ⟨a, n, c, e, l, (Below.heap_setCell _ _ _ _ (by show X ≠ B; omega)).trans h1, h2, h3, h4, h5, h6.keep fun k h1 h2 => Below.heap_setCell _ _ _ _ (by show k ≠ B; omega), h7⟩
theorem RrS.err {lo : Nat} {w : World} {X : Nat} {s : Option (List Int)} (h : RrS lo w X s) : ∃ e : Int, w.cell? ⟨X, 1, none⟩ = some (.int .i64 e) ∧ w.frozen? ⟨X, 1, none⟩ = false ∧ (s = none → e ≠ 0) ∧ (∀ l, s = some l → e = 0) := by
  obtain ⟨a, n, c, e, l, h1, h2, h3, h4, h5, h6, h7⟩ := h
  refine ⟨e, cell_in h1 rfl, free_in h1 1, ?_, ?_⟩
  · rintro rfl; exact h7
  · rintro l rfl; exact h7.1
theorem RrS.wrong {lo : Nat} {w : World} {X : Nat} {s : Option (List Int)} (h : RrS lo w X s) {x : Int} (hx : x ≠ 0) : RrS lo (w.setCell ⟨X, 1, none⟩ (.int .i64 x)) X none := by
  obtain ⟨a, n, c, e, l, h1, h2, h3, h4, h5, h6, h7⟩ := h
  have hb : Below X w (w.setCell ⟨X, 1, none⟩ (.int .i64 x)) := (Below.refl _ _).setCell (p := ⟨X, 1, none⟩) (Nat.le_refl _) _
  exact ⟨a, n, c, x, l, set_at (j := 1) h1, h2, h3, h4, h5, h6.keep (SameIn.of_below hb (Nat.le_refl _)), hx⟩
theorem rdList_none {α : Type} (p : Rd α) (l : List Int) (k : Nat) (h : rdList p k l = none) : ∀ n, k ≤ n → rdList p n l = none
  | 0, hn => by obtain rfl : k = 0 := by omega
                exact h
  | n + 1, hn => by
    by_cases e : k = n + 1
    · subst e; exact h
    · have := rdList_none p l k h n (by omega)
      have e2 : rdList p (n + 1) l = (match rdList p n l with
        | none => none
        | some (xs, l1) => match p l1 with
          | none => none
          | some (x, l2) => some (xs ++ [x], l2)) := rfl
      rw [e2, this]
/-- What failed stays so, however many there were to be. -/
theorem Got.stop {α : Type} {s : Option (List Int)} {p : Rd α} {k n : Nat} {xs : List α} (h : Got s (rdList p k) xs none) (hk : k ≤ n) : Got s (rdList p n) xs none := by
  unfold Got at *
  cases s with
  | none => rfl
  | some l =>
    simp only at h ⊢
    cases hp : rdList p k l with
    | none => rw [rdList_none p l k hp n hk]; first | trivial | simp
    | some z => rw [hp] at h; obtain ⟨z1, z2⟩ := z; simp at h

set_option maxRecDepth 100000 in
set_option maxHeartbeats 2000000 in
theorem rrGet_any {lo : Nat} (X : Nat) (w : World) (s : Option (List Int)) (z : Nat) (h : RrS lo w X s) (s1 : 1 ≤ z) (s7 : z ≤ 6) :
    Calls Try.prog 30 #[.pointer (some ⟨X, 0, none⟩), .int .i64 (z : Int)] w fun r w' => ∃ n s', r = .returned (.int .i64 n) ∧ 0 ≤ n ∧ n < 256 ^ z ∧ RrS lo w' X s' ∧ Got s (rdN z) n s' ∧ But X w w' := by
  have hp0 : (0 : Int) < 256 ^ z := Int.pow_pos (by omega)
  have z1 : decide ((z : Int) < 1) = false := by simp; omega
  have z2 : decide ((z : Int) > 7) = false := by simp; omega
  have HP0 := Lib.hid hp0
  clear hp0
  have HR := Lib.hid h
  obtain ⟨a, n, c, e, l, hX, hn, hnc, hn4, hby, hl, hs⟩ := h
  have c0 : w.cell? ⟨X, 0, none⟩ = some (.slice a n c) := cell_in hX rfl
  have c1 : w.cell? ⟨X, 1, none⟩ = some (.int .i64 e) := cell_in hX rfl
  have f1 : w.frozen? ⟨X, 1, none⟩ = false := free_in hX 1
  have f0 : w.frozen? ⟨X, 0, none⟩ = false := free_in hX 0
  cases s with
  | none =>
    have t : (e != 0) = true := by simpa using hs
    clear hX hn hnc hn4 hby hl hs
    go_enter Try.func30, Try.ntmps30
    go_wp2_with fail
    go_ret
    exact ⟨0, none, rfl, by omega, HP0.out, HR.out, rfl, But.refl _ _⟩
  | some l' =>
    obtain ⟨rfl, rfl⟩ := hs
    by_cases hlz : n < z
    · have t : decide ((n : Int) < (z : Int)) = true := by simpa using hlz
      have HN := Lib.hid hn
      clear hX hn hnc hn4 hby hl
      go_enter Try.func30, Try.ntmps30
      go_wp2_with fail
      go_ret
      refine ⟨0, none, rfl, by omega, HP0.out, HR.out.wrong (by decide), ?_, (But.refl _ _).set 1 _⟩
      unfold Got rdN
      simp [HN.out, hlz]
    · have t : decide ((n : Int) < (z : Int)) = false := by simp; omega
      obtain ⟨a2, c3, e2, hlen, _, hc⟩ := hl
      cases e2
      rcases hc with h0 | ⟨b, off, rfl, hb1, hb2, hc⟩
      · omega
      have HC := Lib.hid hc
      have HB := Lib.hid hX
      have HBY := Lib.hid hby
      have HN := Lib.hid hn
      have HLE := Lib.hid hlen
      have i1 : (0 : Int) ≤ (z : Int) := by omega
      have i2 : (z : Int) ≤ (n : Int) := by omega
      have i3 : (z : Int) ≤ (c : Int) := by omega
      clear hc hX hby hn hlen
      go_enter Try.func30, Try.ntmps30
      go_wp2_with fail
      go_loopw [5, 6] (fun acc i wr => ∃ k : Nat, k ≤ z ∧ i = .int .i64 k ∧ acc = .int .i64 (getL (l.take k)) ∧ wr = w) (fun _ i _ => z - (intOf i).toNat)
      case atStart => exact ⟨0, by omega, rfl, rfl, rfl⟩
      case round =>
        obtain ⟨k, hk, rfl, rfl, rfl⟩ := hrel
        by_cases hlt : k < z
        · have tk : decide ((k : Int) < (z : Int)) = true := by simpa using hlt
          obtain ⟨x, hx⟩ : ∃ x, l[k]? = some x := ⟨_, List.getElem?_eq_getElem (by rw [HN.out]; omega)⟩
          have s0 : wr.cell? ⟨b, off + k, none⟩ = some (.int .u8 x) := HC.out k _ (bts_at hx)
          have l0 : (0 : Int) ≤ (k : Int) := by omega
          have l1 : (k : Int) < (n : Int) := by omega
          have hxb := HBY.out x (List.mem_of_getElem? hx)
          have hgb := getL_bd (l.take k) (HBY.out.take k)
          have HG := Lib.hid (getL_take hx)
          rw [List.length_take, Nat.min_eq_left (by rw [HN.out]; omega)] at hgb
          have hg7 : getL (l.take k) < 281474976710656 := Int.lt_of_lt_of_le hgb.2 (by
            rcases (by omega : k = 0 ∨ k = 1 ∨ k = 2 ∨ k = 3 ∨ k = 4 ∨ k = 5 ∨ k = 6) with rfl | rfl | rfl | rfl | rfl | rfl | rfl <;> decide)
          obtain ⟨hg0, _⟩ := hgb
          obtain ⟨x0, x1⟩ := hxb
          have w1 : IntKind.i64.wrap (256 * getL (l.take k)) = 256 * getL (l.take k) := IntWalk.i64_in _ (by omega)
          have w2 : IntKind.i64.wrap (256 * getL (l.take k) + x) = 256 * getL (l.take k) + x := IntWalk.i64_in _ (by omega)
          have w3 : IntKind.i64.wrap x = x := IntWalk.i64_in _ (by omega)
          clear hx
          go_wp2_with fail
          go_roundw
          case rel => exact ⟨k + 1, by omega, by go_num, by rw [HG.out], by first | rfl | trivial⟩
          case measure => simp [intOf]; omega
        · have tk : decide ((k : Int) < (z : Int)) = false := by simp; omega
          have hks : k = z := by omega
          subst hks
          have hbd := getL_bd (l.take k) (HBY.out.take k)
          rw [List.length_take, Nat.min_eq_left (by rw [HN.out]; omega)] at hbd
          have HBD := Lib.hid hbd
          clear hbd
          go_wp2_with fail
          all_goals
            go_ret
            refine ⟨getL (l.take k), rfl, HBD.out.1, HBD.out.2, some (l.drop k), ⟨_, n - k, _, 0, l.drop k, set_at (j := 0) HB.out, by rw [List.length_drop, HN.out], by omega, by omega, HBY.out.drop k, ⟨_, _, rfl, by rw [bts_drop, List.length_drop, HLE.out]; omega, (fun h => by cases h), ?_⟩, rfl, rfl⟩, ?_, (But.refl _ _).set 0 _⟩
            · first
                | exact .inl (by omega)
                | (refine .inr ⟨b, off + k, rfl, by omega, by omega, fun j u hu => ?_⟩
                   rw [bts_drop, List.getElem?_drop] at hu
                   have h9 := HC.out (k + j) u hu
                   rw [← Nat.add_assoc] at h9
                   exact ((Below.refl _ _).setCell (p := ⟨X, 0, none⟩) (B := X) (Nat.le_refl _) _).cell (p := ⟨b, off + k + j, none⟩) hb2 |>.trans h9)
            · unfold Got rdN
              have : ¬ l.length < k := by rw [HN.out]; omega
              simp [this]
def TruthPost (lo X : Nat) (s : Option (List Int)) (w : World) (r : Ending) (w' : World) : Prop := ∃ b s', r = .returned (.bool b) ∧ RrS lo w' X s' ∧ Got s rdFlag b s' ∧ But X w w'
set_option maxRecDepth 100000 in
theorem rrTruth_any {lo : Nat} (X : Nat) (w : World) (s : Option (List Int)) (h : RrS lo w X s) :
    Calls Try.prog 32 #[.pointer (some ⟨X, 0, none⟩)] w fun r w' => TruthPost lo X s w r w' := by
  have HR := Lib.hid h
  clear h
  go_enter Try.func32, Try.ntmps32
  go_wp2_with (first
    | (go_at_call 30
       refine (rrGet_any X w s 1 HR.out (by omega) (by omega)).mono ?_
       rintro e w1 ⟨n, s1, rfl, b0, b1, hr1, hg1, hb1⟩
       obtain ⟨ev, kc, kf, kn, ks⟩ := hr1.err
       have HR1 := Lib.hid hr1
       have HG1 := Lib.hid hg1
       have HB1 := Lib.hid hb1
       have HKN := Lib.hid kn
       have HKS := Lib.hid ks
       clear hr1 hg1 hb1 kn ks))
  all_goals
    go_ret
    first
      | exact ⟨_, none, rfl, HR1.out.wrong (by decide), HG1.out.flag_no (by omega) (by omega) _, HB1.out.set 1 _⟩
      | exact ⟨_, s1, rfl, HR1.out, HG1.out.flag (by omega), HB1.out⟩
      | (cases s1 with
         | none => exact ⟨_, none, rfl, HR1.out, HG1.out.flag_no (by omega) (by omega) _, HB1.out⟩
         | some l1 => have := HKS.out l1 rfl; simp_all)
end Go.Proofs.Ytiombjkjoehjpaa
