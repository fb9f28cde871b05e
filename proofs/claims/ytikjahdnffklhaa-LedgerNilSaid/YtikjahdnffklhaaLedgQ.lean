/- The program's sums: a sum in memory, Sum, the sum of a row. -/
import Derived.Test.YtikjahdnffklhaaLawFifteenC
import Derived.Test.YtikjahdnffklhaaLedgP
import Derived.Deep.CutRange
import Derived.Deep.CutBlock
namespace Go.Proofs.Ytikjahdnffklhaa
open Go.ChangeShapes Go.WideShapes Go.ChangeAt Go.RowKit
set_option linter.unusedVariables false

/-- A sum in memory: its value, and whether it is whole. -/
def SumAt (w : World) (B : Nat) (r : Int × Bool) : Prop := w.heap[B]? = some (.cells #[.int .i64 r.1, .bool (!r.2)] 56 (0, 0))
theorem SumAt.lt {w : World} {B : Nat} {r : Int × Bool} (h : SumAt w B r) : B < w.heap.size := lt_of_block h
set_option maxRecDepth 100000 in
set_option maxHeartbeats 4000000 in
theorem become_any (w : World) (B : Nat) (v u : Int) (b ok : Bool) (h : SumAt w B (v, b)) : Calls Try.prog 26 #[.pointer (some ⟨B, 0, none⟩), .int .i64 u, .bool ok] w fun e w' => e = .returned (.tuple #[]) ∧ SumAt w' B (u, b && ok) ∧ But B w w' := by
  unfold SumAt at h ⊢
  cases b with
  | true =>
    cases ok with
    | true =>
      have b0 : w.cell? ⟨B, 0, none⟩ = some (.int .i64 v) := cell_in h rfl
      have b1 : w.cell? ⟨B, 1, none⟩ = some (.bool false) := cell_in h rfl
      have f0 : w.frozen? ⟨B, 0, none⟩ = false := free_in h _
      have f1 : w.frozen? ⟨B, 1, none⟩ = false := free_in h _
      have HF := Lib.hid (show ((w.setCell ⟨B, 0, none⟩ (.int .i64 u)).setCell ⟨B, 1, none⟩ (.bool false)).heap[B]? = some (.cells #[.int .i64 u, .bool false] 56 (0, 0)) ∧ But B w ((w.setCell ⟨B, 0, none⟩ (.int .i64 u)).setCell ⟨B, 1, none⟩ (.bool false)) from ⟨by rw [set_at (set_at h)]; rfl, ((But.refl B w).set 0 _).set 1 _⟩)
      clear h
      go_enter Try.func26, Try.ntmps26
      go_wp2_with fail
      go_end0
      exact ⟨rfl, HF.out⟩
    | false =>
      have b0 : w.cell? ⟨B, 0, none⟩ = some (.int .i64 v) := cell_in h rfl
      have b1 : w.cell? ⟨B, 1, none⟩ = some (.bool false) := cell_in h rfl
      have f0 : w.frozen? ⟨B, 0, none⟩ = false := free_in h _
      have f1 : w.frozen? ⟨B, 1, none⟩ = false := free_in h _
      have HF := Lib.hid (show ((w.setCell ⟨B, 0, none⟩ (.int .i64 u)).setCell ⟨B, 1, none⟩ (.bool true)).heap[B]? = some (.cells #[.int .i64 u, .bool true] 56 (0, 0)) ∧ But B w ((w.setCell ⟨B, 0, none⟩ (.int .i64 u)).setCell ⟨B, 1, none⟩ (.bool true)) from ⟨by rw [set_at (set_at h)]; rfl, ((But.refl B w).set 0 _).set 1 _⟩)
      clear h
      go_enter Try.func26, Try.ntmps26
      go_wp2_with fail
      go_end0
      exact ⟨rfl, HF.out⟩
  | false =>
    have b0 : w.cell? ⟨B, 0, none⟩ = some (.int .i64 v) := cell_in h rfl
    have b1 : w.cell? ⟨B, 1, none⟩ = some (.bool true) := cell_in h rfl
    have f0 : w.frozen? ⟨B, 0, none⟩ = false := free_in h _
    have f1 : w.frozen? ⟨B, 1, none⟩ = false := free_in h _
    have HF := Lib.hid (show ((w.setCell ⟨B, 0, none⟩ (.int .i64 u)).setCell ⟨B, 1, none⟩ (.bool true)).heap[B]? = some (.cells #[.int .i64 u, .bool (!(false && ok))] 56 (0, 0)) ∧ But B w ((w.setCell ⟨B, 0, none⟩ (.int .i64 u)).setCell ⟨B, 1, none⟩ (.bool true)) from ⟨by rw [set_at (set_at h)]; rfl, ((But.refl B w).set 0 _).set 1 _⟩)
    clear h
    go_enter Try.func26, Try.ntmps26
    go_wp2_with fail
    go_end0
    exact ⟨rfl, HF.out⟩
theorem lies_ints {w : World} {B hi : Nat} {a0 : Option Addr} {n0 c0 : Nat} {l0 : List Int} (hn0 : l0.length = n0) (hl0 : Lies w B hi (.slice a0 n0 c0) n0 1 (l0.flatMap intCells)) : ∀ i (hi : i < n0), ∃ b off, a0 = some ⟨b, off, none⟩ ∧ w.cell? ⟨b, off + i, none⟩ = some (.int .i64 (l0[i]'(by omega))) ∧ B ≤ b := by
  intro i hi
  obtain ⟨a', c', e, _, _, hc⟩ := hl0
  cases e
  rcases hc with h0 | ⟨b, off, rfl, hb, _, hc⟩
  · omega
  · have f := flat_at intCells 1 (fun _ => rfl) l0 i 0 _ (List.getElem?_eq_getElem (by omega)) (by omega)
    rw [show i * 1 + 0 = i by omega] at f
    exact ⟨b, off, rfl, hc i _ f, hb⟩
set_option maxRecDepth 100000 in
set_option maxHeartbeats 4000000 in
theorem sumAdd_any (w : World) (B : Nat) (a0 : Option Addr) (n0 c0 lo hi : Nat) (l0 : List Int) (hn0 : l0.length = n0) (h100 : n0 ≤ 1000) (h : SumAt w B (0, true)) (hl0 : Lies w lo hi (.slice a0 n0 c0) n0 1 (l0.flatMap intCells)) (hB : B < lo ∨ hi ≤ B) (hhi : hi ≤ w.heap.size) : Calls Try.prog 24 #[.pointer (some ⟨B, 0, none⟩), .slice a0 n0 c0] w fun e w' => e = .returned (.tuple #[]) ∧ SumAt w' B (sumRun l0) ∧ But B w w' := by
  have HN0 := Lib.hid hn0
  have H := Lib.hid h
  have HL := Lib.hid (show ∀ Y, But B w Y → ∀ i, i < n0 → ∃ b off x, a0 = some ⟨b, off, none⟩ ∧ Y.cell? ⟨b, off + i, none⟩ = some (.int .i64 x) ∧ l0[i]? = some x from fun Y hY i hi2 => by
    obtain ⟨b, off, h1, h2, _⟩ := lies_ints hn0 (hl0.keep (hY.same hB hhi)) i hi2
    exact ⟨b, off, _, h1, h2, List.getElem?_eq_getElem (by omega)⟩)
  clear h hl0 hn0 hB hhi
  go_enter Try.func24, Try.ntmps24
  go_wp2_with fail
  go_loopw [10] (fun s wr => ∃ (k : Nat), k ≤ n0 ∧ s = .int .i64 k ∧ Hid (SumAt wr B (sumRun (l0.take k))) ∧ Hid (But B w wr)) (fun s _ => n0 - (intOf s).toNat)
  case atStart => exact ⟨0, Nat.zero_le _, rfl, Lib.hid H.out, Lib.hid (But.refl _ _)⟩
  case round =>
    obtain ⟨k, hk, rfl, HS, HB⟩ := hrel
    by_cases hlt : k < n0
    · have d0 : decide ((k : Int) < (n0 : Int)) = true := decide_eq_true (by omega)
      have d1 : (0 : Int) ≤ (k : Int) := by omega
      have d2 : (k : Int) < (n0 : Int) := by omega
      obtain ⟨bl, off, x, rfl, q0, hx0⟩ := HL.out wr HB.out k hlt
      have hx : x = l0[k]'(by have := HN0.out; omega) := by
        rw [List.getElem?_eq_getElem (by have := HN0.out; omega)] at hx0
        exact (Option.some.inj hx0).symm
      clear hx0
      obtain ⟨r, hr⟩ : ∃ r, r = sumRun (l0.take k) := ⟨_, rfl⟩
      have HS' := Lib.hid (show SumAt wr B (r.1, r.2) by rw [hr]; exact HS.out)
      have b0 : wr.cell? ⟨B, 0, none⟩ = some (.int .i64 r.1) := cell_in HS'.out rfl
      have HNX := Lib.hid (show sumRun (l0.take (k + 1)) = (addTold r.1 x, r.2 && addFits r.1 x) by rw [sumRun_take (by have := HN0.out; omega), ← hx, ← hr]; rfl)
      obtain ⟨r1, r2⟩ := r
      clear hx hr HS
      go_wp2_with (first
        | (go_at_call 26; refine (become_any _ B _ _ r2 _ HS'.out).mono ?_; rintro e w5 ⟨rfl, h5', b5'⟩; have h5 := Lib.hid h5'; have b5 := Lib.hid (HB.out.trans b5'); clear h5' b5')
        | (go_at_call 27; refine (numAdd_any _ _ _).mono ?_; rintro e w' ⟨rfl, hw'⟩; rw [← hw']; clear hw')
        | fail "no arm")
      go_roundw
      case rel => exact ⟨k + 1, by omega, by go_num, Lib.hid (by rw [HNX.out]; exact h5.out), b5⟩
      case measure => simp [intOf]; omega
    · have d0 : decide ((k : Int) < (n0 : Int)) = false := decide_eq_false (by omega)
      have HE := Lib.hid (show SumAt wr B (sumRun l0) by have := HS.out; rw [List.take_of_length_le (by have := HN0.out; omega)] at this; exact this)
      go_wp2_with fail
      go_end0
      exact ⟨rfl, HE.out, HB.out⟩
set_option maxRecDepth 100000 in
set_option maxHeartbeats 4000000 in
theorem sumValue_any (w : World) (B : Nat) (r : Int × Bool) (h : SumAt w B r) : Calls Try.prog 25 #[.pointer (some ⟨B, 0, none⟩)] w fun e w' => e = .returned (.tuple #[.int .i64 (if r.2 = true then r.1 else 0), .bool r.2]) ∧ w' = w := by
  obtain ⟨v, b⟩ := r
  unfold SumAt at h
  have b0 : w.cell? ⟨B, 0, none⟩ = some (.int .i64 v) := cell_in h rfl
  cases b with
  | true =>
    have b1 : w.cell? ⟨B, 1, none⟩ = some (.bool false) := cell_in h rfl
    rw [if_pos rfl]
    clear h
    go_enter Try.func25, Try.ntmps25
    go_wp2_with fail
    go_ret2
    exact ⟨rfl, rfl⟩
  | false =>
    have b1 : w.cell? ⟨B, 1, none⟩ = some (.bool true) := cell_in h rfl
    rw [if_neg (by simp)]
    clear h
    go_enter Try.func25, Try.ntmps25
    go_wp2_with fail
    go_ret2
    exact ⟨rfl, rfl⟩
set_option maxRecDepth 100000 in
set_option maxHeartbeats 4000000 in
theorem ledgSum_any (w : World) (a0 : Option Addr) (n0 c0 : Nat) (l0 : List Int) (hn0 : l0.length = n0) (h100 : n0 ≤ 1000) (hl0 : Lies w 0 w.heap.size (.slice a0 n0 c0) n0 1 (l0.flatMap intCells)) : Calls Try.prog 19 #[.slice a0 n0 c0] w fun e w' => e = .returned (.tuple #[.int .i64 (sumT l0), .bool (sumB l0)]) ∧ Below w.heap.size w w' := by
  obtain ⟨V, hV⟩ : ∃ V, V = w.alloc (.cells #[.int .i64 0, .bool false] 56) := ⟨_, rfl⟩
  obtain ⟨E, hE⟩ : ∃ E, E = w.heap.size := ⟨_, rfl⟩
  have hbV : Below w.heap.size w V := by rw [hV]; exact below1 _ _
  have hEV : SumAt V E (0, true) := by rw [hV, hE]; exact heap_alloc_new _ _
  have HA := Lib.hid (sumAdd_any V E a0 n0 c0 0 w.heap.size l0 hn0 h100 hEV (hl0.keep (SameIn.of_below hbV (Nat.le_refl _))) (.inr (by omega)) hbV.size)
  have HB := Lib.hid hbV
  have HV := Lib.hid hV
  have HE := Lib.hid hE
  have HT := Lib.hid (show (if (sumRun l0).2 = true then (sumRun l0).1 else 0) = sumT l0 ∧ (sumRun l0).2 = sumB l0 from ⟨rfl, rfl⟩)
  clear hbV hEV hV hE hl0 hn0
  go_enter Try.func19, Try.ntmps19
  go_upto_region 2 with fail
  rw [← HV.out, ← HE.out]
  go_wp2_with (first
    | (go_at_call 25; have _z := h3; refine (sumValue_any _ E _ h3.out).mono ?_; rintro e w4 ⟨rfl, hw4⟩; rw [hw4, HT.out.1, HT.out.2]; clear hw4)
    | (go_at_call 24; refine HA.out.mono ?_; rintro e w3 ⟨rfl, h3', b3'⟩; have h3 := Lib.hid h3'; have b3 := Lib.hid (HB.out.trans (b3'.below (by rw [HE.out]; exact Nat.le_refl _) HB.out.size)); clear h3' b3')
    | fail "no arm")
  go_ret2
  exact ⟨rfl, b3.out⟩
theorem sumOk : SumOk := ⟨fun w a n c l hn h100 hl _ => ledgSum_any w a n c l hn (by omega) hl⟩
end Go.Proofs.Ytikjahdnffklhaa
