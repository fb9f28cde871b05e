/- A writer of numbers in memory: what was put, the last one first; failed, fail, isSize, isOf, Err. -/
import Derived.Test.YtiombjkjoehjpaaImageM
import Derived.Test.YtiombjkjoehjpaaMemA
namespace Go.Proofs.Ytiombjkjoehjpaa
open Go.ChangeShapes Go.WideShapes Go.ChangeAt Go.RowKit
set_option linter.unusedVariables false

/-- All stays but block X. -/
structure But (X : Nat) (w w' : World) : Prop where
  os : w'.os = w.os
  tape : w'.tape = w.tape
  output : w'.output = w.output
  size : w.heap.size ≤ w'.heap.size
  block : ∀ k, k < w.heap.size → k ≠ X → w'.heap[k]? = w.heap[k]?
theorem But.refl (X : Nat) (w : World) : But X w w := ⟨rfl, rfl, rfl, Nat.le_refl _, fun _ _ _ => rfl⟩
theorem But.trans {X : Nat} {a b c : World} (h : But X a b) (k : But X b c) : But X a c :=
  ⟨k.os.trans h.os, k.tape.trans h.tape, k.output.trans h.output, Nat.le_trans h.size k.size, fun i hi hx => (k.block i (Nat.lt_of_lt_of_le hi h.size) hx).trans (h.block i hi hx)⟩
theorem But.below {X : Nat} {w w' : World} (h : But X w w') {B : Nat} (hX : B ≤ X) (hB : B ≤ w.heap.size) : Below B w w' :=
  ⟨h.os, h.tape, h.output, h.size, fun k hk => h.block k (by omega) (by omega)⟩
theorem But.of_below {X : Nat} {w w' : World} (h : Below w.heap.size w w') : But X w w' := ⟨h.os, h.tape, h.output, h.size, fun k hk _ => h.block k hk⟩
theorem But.alloc {X : Nat} {a w : World} (h : But X a w) (o : Obj) : But X a (w.alloc o) := h.trans (But.of_below (below1 _ _))
theorem But.drew {X : Nat} {a w : World} (h : But X a w) : But X a w.drew := h.trans (But.of_below (Below.refl _ _).drew)
theorem But.set {X : Nat} {a w : World} (h : But X a w) (j : Nat) (u : Value) : But X a (w.setCell ⟨X, j, none⟩ u) :=
  h.trans ⟨rfl, rfl, rfl, by simp [World.setCell], fun k _ hx => Below.heap_setCell _ _ _ _ hx⟩
theorem But.same {X : Nat} {w w' : World} (h : But X w w') {lo hi : Nat} (hX : X < lo ∨ hi ≤ X) (hh : hi ≤ w.heap.size) : SameIn w w' lo hi := fun b h1 h2 => h.block b (by omega) (by omega)
theorem But.at {X : Nat} {w w' : World} (h : But X w w') {b : Nat} {o : Obj} (hb : w.heap[b]? = some o) (hx : b ≠ X) : w'.heap[b]? = some o :=
  (h.block b (by by_cases g : b < w.heap.size; exact g; rw [Array.getElem?_eq_none (by omega)] at hb; cases hb) hx).trans hb

/-- Numbers in a chain, the last one that was put first. -/
def chain (w : World) (X : Nat) : List Fl → Option Addr → Prop
  | [], p => p = none
  | f :: fs, p => ∃ b ah, p = some ⟨b, 0, none⟩ ∧ X < b ∧ w.heap[b]? = some (.cells #[.pointer ah, .int .i64 (f.1 : Int), .int .i64 f.2] 117 (0, 0)) ∧ chain w X fs ah
theorem chain.keep {X : Nat} {w w' : World} (h : But X w w') : ∀ {fs : List Fl} {p : Option Addr}, chain w X fs p → chain w' X fs p
  | [], _, c => c
  | f :: fs, p, ⟨b, ah, e, hb, hc, c⟩ => ⟨b, ah, e, hb, h.at hc (by omega), chain.keep h c⟩
def szL : List Fl → Nat
  | [] => 0
  | f :: fs => f.1 + szL fs
theorem szL_append : ∀ (a b : List Fl), szL (a ++ b) = szL a + szL b
  | [], b => by simp [szL]
  | f :: a, b => by simp [szL, szL_append a b, Nat.add_assoc]
theorem szL_enc : ∀ (a : List Fl), (encB a).length = szL a
  | [] => rfl
  | f :: a => by rw [encB_cons, List.length_append, putN_len, szL_enc a]; rfl
def sizedL (fs : List Fl) : Prop := ∀ f ∈ fs, 1 ≤ f.1 ∧ f.1 ≤ 7 ∧ 0 ≤ f.2 ∧ f.2 < 256 ^ f.1
/-- What was put so far; none, if one was none of its size. -/
def putS (s : Option (List Fl)) (l : List Fl) : Option (List Fl) := match s with
  | none => none
  | some a => if fitL l then some (a ++ l) else none
theorem putS_append (s : Option (List Fl)) (a b : List Fl) : putS s (a ++ b) = putS (putS s a) b := by
  cases s with
  | none => rfl
  | some x =>
    unfold putS
    rw [fitL_append]
    cases h1 : fitL a <;> cases h2 : fitL b <;> simp
theorem putS_nil (s : Option (List Fl)) : putS s [] = s := by cases s <;> simp [putS, fitL]
theorem putS_none (l : List Fl) : putS none l = none := rfl
theorem putS_yes {a l : List Fl} (h : fitL l = true) : putS (some a) l = some (a ++ l) := by simp [putS, h]
theorem putS_no {a l : List Fl} (h : fitL l = false) : putS (some a) l = none := by simp [putS, h]
def wrCells (e : Int) (p : Option Addr) (n : Int) : Array Value := #[.int .i64 e, .pointer p, .int .i64 n]
/-- A writer in memory: block X. -/
def WrS (w : World) (X : Nat) (s : Option (List Fl)) : Prop := ∃ (e n : Int) (p : Option Addr), w.heap[X]? = some (.cells #[.int .i64 e, .pointer p, .int .i64 n] 63 (0, 0)) ∧ (match s with
  | none => e = 2
  | some fs => e = 0 ∧ n = (szL fs : Nat) ∧ sizedL fs ∧ chain w X fs.reverse p)
theorem WrS.keep {X : Nat} {w w' : World} {s : Option (List Fl)} (h : WrS w X s) (k : Below w.heap.size w w') : WrS w' X s := by
  obtain ⟨e, n, p, h1, h2⟩ := h
  refine ⟨e, n, p, (k.block X (lt_of_block h1)).trans h1, ?_⟩
  cases s with
  | none => exact h2
  | some fs => exact ⟨h2.1, h2.2.1, h2.2.2.1, h2.2.2.2.keep (But.of_below k)⟩
theorem WrS.lt {X : Nat} {w : World} {s : Option (List Fl)} (h : WrS w X s) : X < w.heap.size := by obtain ⟨e, n, p, h1, h2⟩ := h; exact lt_of_block h1

theorem failed_any (X : Nat) (w : World) (e : Int) (hc : w.cell? ⟨X, 0, none⟩ = some (.int .i64 e)) :
    Calls Try.prog 57 #[.pointer (some ⟨X, 0, none⟩)] w fun r w' => r = .returned (.bool (e != 0)) ∧ w = w' := by
  go_enter Try.func57, Try.ntmps57
  go_wp2_with fail
  go_ret
  exact ⟨rfl, rfl⟩
theorem fail_any (X : Nat) (w : World) (x : Int) (hc : w.cell? ⟨X, 0, none⟩ = some (.int .i64 0)) (hf : w.frozen? ⟨X, 0, none⟩ = false) :
    Calls Try.prog 62 #[.pointer (some ⟨X, 0, none⟩), .int .i64 x] w fun r w' => r = .returned (.tuple #[]) ∧ w' = w.setCell ⟨X, 0, none⟩ (.int .i64 x) := by
  go_enter Try.func62, Try.ntmps62
  go_wp2_with (first | (go_at_call 57; refine (failed_any X _ 0 hc).mono ?_; rintro e w' ⟨rfl, rfl⟩))
  (first | go_end0 | refine bodyPost_ret (results_none rfl _ _ _) rfl ?_)
  exact ⟨rfl, rfl⟩
theorem isSize_any (s : Int) (w : World) (h1 : 1 ≤ s) (h2 : s ≤ 7) : Calls Try.prog 61 #[.int .i64 s] w fun r w' => r = .returned (.bool true) ∧ w = w' := by
  have t1 : decide (s ≥ 1) = true := decide_eq_true h1
  have t2 : decide (s ≤ 7) = true := decide_eq_true h2
  go_enter Try.func61, Try.ntmps61
  go_wp2_with fail
  go_ret
  exact ⟨rfl, rfl⟩
theorem isOf_any (s : Nat) (n : Int) (w : World) (h1 : 1 ≤ s) (h2 : s ≤ 7) : Calls Try.prog 63 #[.int .i64 (s : Int), .int .i64 n] w fun r w' => r = .returned (.bool (fitsB s n)) ∧ w = w' := by
  rcases (by omega : n < 0 ∨ 0 ≤ n) with hn | hn
  · have t0 : decide (n ≥ 0) = false := by simp; omega
    go_enter Try.func63, Try.ntmps63
    go_wp2_with fail
    go_ret
    exact ⟨by simp [fitsB]; omega, rfl⟩
  · have t0 : decide (n ≥ 0) = true := by simp; omega
    rcases (by omega : s = 1 ∨ s = 2 ∨ s = 3 ∨ s = 4 ∨ s = 5 ∨ s = 6 ∨ s = 7) with rfl | rfl | rfl | rfl | rfl | rfl | rfl
    all_goals
      go_enter Try.func63, Try.ntmps63
      go_wp2_with fail
      go_ret
      exact ⟨by simp [fitsB, hn], rfl⟩
theorem wErr_any (X : Nat) (w : World) (e : Int) (hc : w.cell? ⟨X, 0, none⟩ = some (.int .i64 e)) :
    Calls Try.prog 20 #[.pointer (some ⟨X, 0, none⟩)] w fun r w' => r = .returned (.int .i64 e) ∧ w = w' := by
  go_enter Try.func20, Try.ntmps20
  go_wp2_with fail
  go_ret
  exact ⟨rfl, rfl⟩
end Go.Proofs.Ytiombjkjoehjpaa
