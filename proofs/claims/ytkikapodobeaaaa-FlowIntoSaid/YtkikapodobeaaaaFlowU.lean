/- Lists held against each other; what must come of who leads into one. -/
import Derived.Test.YtkikapodobeaaaaFlowRef
namespace Go.Proofs.Ytkikapodobeaaaa
open Go.ChangeShapes Go.WideShapes Go.ChangeAt Go.RowKit
set_option linter.unusedVariables false
attribute [local go_sem ↓] Go.wp_at_zero Go.wp_at_succ

theorem flat_row {α : Type} (f : α → Value) : ∀ xs : List α, xs.flatMap (fun x => [f x]) = xs.map f
  | [] => rfl
  | x :: l => by rw [List.flatMap_cons, flat_row f l]; rfl
@[reducible] def ValInt (x : Int) : Value := .int .i64 x
@[reducible] def ValBool (x : Bool) : Value := .bool x
set_option maxRecDepth 100000 in
set_option maxHeartbeats 4000000 in
theorem ints7_same (la lb : Option Addr) (n c1 c2 : Nat) (w : World) (lo1 hi1 lo2 hi2 : Nat) (xs : List Int) (hn : xs.length = n) (h1 : Lies w lo1 hi1 (.slice la n c1) n 1 (xs.map fun x => ValInt x)) (h2 : Lies w lo2 hi2 (.slice lb n c2) n 1 (xs.map fun x => ValInt x)) (e1 : hi1 ≤ w.heap.size) (e2 : hi2 ≤ w.heap.size) (hb : n ≤ 1000000) :
    Calls Try.prog 14 #[.slice la n c1, .slice lb n c2] w fun e w' => e = .returned (.bool true) ∧ Below w.heap.size w w' := by
  have HN := Lib.hid hn; have HL1 := Lib.hid h1; have HL2 := Lib.hid h2
  clear hn h1 h2
  go_enter Try.func14, Try.ntmps14
  go_wp2
  go_loopw [5] (fun i wr => ∃ k : Nat, k ≤ n ∧ i = .int .i64 k ∧ Below w.heap.size w wr) (fun i _ => n - (intOf i).toNat)
  case atStart => exact ⟨0, by omega, rfl, Below.refl _ _⟩
  case round =>
    obtain ⟨k, hk, rfl, hbl⟩ := hrel
    by_cases hlt : k < n
    · have tk : decide ((k : Int) < (n : Int)) = true := by simpa using hlt
      have l0 : (0 : Int) ≤ (k : Int) := by omega
      have l1 : (k : Int) < (n : Int) := by omega
      obtain ⟨x, hx⟩ : ∃ x, xs[k]? = some x := ⟨_, List.getElem?_eq_getElem (by rw [HN.out]; exact hlt)⟩
      obtain ⟨a2, c2', ee, _, _, hc⟩ := HL1.out.keep (SameIn.of_below hbl e1)
      cases ee
      rcases hc with h0 | ⟨g1, o1, rfl, q1, q2, hc⟩
      · omega
      obtain ⟨a3, c3', ee, _, _, hd⟩ := HL2.out.keep (SameIn.of_below hbl e2)
      cases ee
      rcases hd with h0 | ⟨g2, o2, rfl, q3, q4, hd⟩
      · omega
      have c0 : wr.cell? ⟨g1, o1 + k, none⟩ = some (ValInt x) := hc k _ (by simp [hx])
      have c1 : wr.cell? ⟨g2, o2 + k, none⟩ = some (ValInt x) := hd k _ (by simp [hx])
      unfold ValInt at c0 c1
      have t0 : (x != x) = false := by simp
      have t1 : (x == x) = true := by simp
      clear hx hc hd
      go_wp2_with fail
      go_region_held3 (fun W => W.cell? ⟨g1, o1 + k, none⟩ = some (ValInt x) ∧ W.cell? ⟨g2, o2 + k, none⟩ = some (ValInt x)) (go_keep) (fail)
      go_wp2
      go_roundw
      case rel => exact ⟨k + 1, by omega, by go_num, hbl.drew⟩
      case measure => simp [intOf]; omega
    · have tk : decide ((k : Int) < (n : Int)) = false := by simp; omega
      go_wp2
      go_ret
      exact ⟨rfl, hbl⟩
set_option maxRecDepth 100000 in
set_option maxHeartbeats 4000000 in
theorem bools7_same (la lb : Option Addr) (n c1 c2 : Nat) (w : World) (lo1 hi1 lo2 hi2 : Nat) (xs : List Bool) (hn : xs.length = n) (h1 : Lies w lo1 hi1 (.slice la n c1) n 1 (xs.map fun x => ValBool x)) (h2 : Lies w lo2 hi2 (.slice lb n c2) n 1 (xs.map fun x => ValBool x)) (e1 : hi1 ≤ w.heap.size) (e2 : hi2 ≤ w.heap.size) (hb : n ≤ 1000000) :
    Calls Try.prog 17 #[.slice la n c1, .slice lb n c2] w fun e w' => e = .returned (.bool true) ∧ Below w.heap.size w w' := by
  have HN := Lib.hid hn; have HL1 := Lib.hid h1; have HL2 := Lib.hid h2
  clear hn h1 h2
  go_enter Try.func17, Try.ntmps17
  go_wp2
  go_loopw [5] (fun i wr => ∃ k : Nat, k ≤ n ∧ i = .int .i64 k ∧ Below w.heap.size w wr) (fun i _ => n - (intOf i).toNat)
  case atStart => exact ⟨0, by omega, rfl, Below.refl _ _⟩
  case round =>
    obtain ⟨k, hk, rfl, hbl⟩ := hrel
    by_cases hlt : k < n
    · have tk : decide ((k : Int) < (n : Int)) = true := by simpa using hlt
      have l0 : (0 : Int) ≤ (k : Int) := by omega
      have l1 : (k : Int) < (n : Int) := by omega
      obtain ⟨x, hx⟩ : ∃ x, xs[k]? = some x := ⟨_, List.getElem?_eq_getElem (by rw [HN.out]; exact hlt)⟩
      obtain ⟨a2, c2', ee, _, _, hc⟩ := HL1.out.keep (SameIn.of_below hbl e1)
      cases ee
      rcases hc with h0 | ⟨g1, o1, rfl, q1, q2, hc⟩
      · omega
      obtain ⟨a3, c3', ee, _, _, hd⟩ := HL2.out.keep (SameIn.of_below hbl e2)
      cases ee
      rcases hd with h0 | ⟨g2, o2, rfl, q3, q4, hd⟩
      · omega
      have c0 : wr.cell? ⟨g1, o1 + k, none⟩ = some (ValBool x) := hc k _ (by simp [hx])
      have c1 : wr.cell? ⟨g2, o2 + k, none⟩ = some (ValBool x) := hd k _ (by simp [hx])
      unfold ValBool at c0 c1
      have t0 : (x != x) = false := by simp
      have t1 : (x == x) = true := by simp
      clear hx hc hd
      go_wp2_with fail
      go_region_held3 (fun W => W.cell? ⟨g1, o1 + k, none⟩ = some (ValBool x) ∧ W.cell? ⟨g2, o2 + k, none⟩ = some (ValBool x)) (go_keep) (fail)
      go_wp2
      go_roundw
      case rel => exact ⟨k + 1, by omega, by go_num, hbl.drew⟩
      case measure => simp [intOf]; omega
    · have tk : decide ((k : Int) < (n : Int)) = false := by simp; omega
      go_wp2
      go_ret
      exact ⟨rfl, hbl⟩
end Go.Proofs.Ytkikapodobeaaaa
