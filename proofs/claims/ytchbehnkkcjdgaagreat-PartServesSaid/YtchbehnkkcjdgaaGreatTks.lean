/- Rows of tasks: read, grown; what conf tells of tasks alone. -/
import Derived.Test.YtchbehnkkcjdgaaGreatPlains
import Derived.Test.YtchbehnkkcjdgaaGreatRights
namespace Go.Proofs.YtchbehnkkcjdgaaGreat
open Go.ChangeShapes Go.WideShapes Go.ChangeAt Go.RowKit
set_option linter.unusedVariables false
theorem tks_read {w : World} {a : Option Addr} {n c : Nat} {l : List Tk} (hn : l.length = n) (hl : Lies w 0 w.heap.size (.slice a n c) n 6 (l.flatMap Tk.cells)) : ∀ Y, Below w.heap.size w Y → ∀ i (hi : i < n), ∃ b off, a = some ⟨b, off, none⟩ ∧ (Y.cell? ⟨b, off + i * 6, none⟩ = some (.bool (tkAt l i).hi) ∧ Y.cell? ⟨b, off + i * 6 + 1, none⟩ = some (.int .i64 (tkAt l i).t) ∧ Y.cell? ⟨b, off + i * 6 + 2, none⟩ = some (.int .i64 (tkAt l i).d) ∧ Y.cell? ⟨b, off + i * 6 + 3, none⟩ = some (.int .i64 (tkAt l i).v) ∧ Y.cell? ⟨b, off + i * 6 + 4, none⟩ = some (.int .i64 (tkAt l i).lo) ∧ Y.cell? ⟨b, off + i * 6 + 5, none⟩ = some (.int .i64 (tkAt l i).top)) ∧ b < w.heap.size := by
 intro Y hY i hi
 obtain ⟨a', c', e, _, _, hc⟩ := hl.keep (SameIn.of_below hY (Nat.le_refl _))
 cases e
 rcases hc with h0 | ⟨b, off, rfl, _, hb, hc⟩
 ·omega
 ·have hx : l[i]? = some (tkAt l i) := by rw [tkAt_eq (by omega)]; exact List.getElem?_eq_getElem (by omega)
  exact ⟨b, off, rfl, ⟨hc _ _ (flat_at Tk.cells 6 (fun _ => rfl) l i 0 _ hx (by omega)), hc _ _ (flat_at Tk.cells 6 (fun _ => rfl) l i 1 _ hx (by omega)), hc _ _ (flat_at Tk.cells 6 (fun _ => rfl) l i 2 _ hx (by omega)), hc _ _ (flat_at Tk.cells 6 (fun _ => rfl) l i 3 _ hx (by omega)), hc _ _ (flat_at Tk.cells 6 (fun _ => rfl) l i 4 _ hx (by omega)), hc _ _ (flat_at Tk.cells 6 (fun _ => rfl) l i 5 _ hx (by omega))⟩, hb⟩
theorem tkAt_take {ts : List Tk} {k : Nat} (h : k < ts.length) (j : Nat) : tkAt (ts.take (k + 1)) j = if j = k then tkAt ts k else tkAt (ts.take k) j := by
 unfold tkAt
 rw [List.getD_eq_getElem?_getD, List.getD_eq_getElem?_getD, List.getD_eq_getElem?_getD, List.getElem?_take, List.getElem?_take]
 by_cases e : j = k
 ·subst e; rw [if_pos (by omega), if_pos rfl]
 ·rw [if_neg e]
  by_cases c : j < k
  ·rw [if_pos (by omega), if_pos c]
  ·rw [if_neg (by omega), if_neg c]
theorem lies_nil (w : World) (hi sz : Nat) : Lies w 0 hi (.slice none 0 0) 0 sz [] := ⟨none, 0, rfl, by simp, fun _ => ⟨rfl, rfl⟩, .inl rfl⟩
set_option maxRecDepth 100000 in
set_option maxHeartbeats 4000000 in
theorem rights_many (ta : Option Addr) (tn tc : Nat) (w : World) (l1 : 6 < tn) :
 Calls Tryz.prog 37 #[.agg #[.slice ta tn tc, .slice none 0 0, .slice none 0 0, .int .u8 0, .int .u8 0, .int .u8 0]] w fun e w' => e = .returned (.int .i64 22) ∧ Below w.heap.size w w' := by
 have HB1 : Hid (Below w.heap.size w (w.alloc (.cells #[.slice ta tn tc, .slice none 0 0, .slice none 0 0, .int .u8 0, .int .u8 0, .int .u8 0] 37))) := Lib.hid (below1 _ _)
 have t1 : decide (6 < (tn : Int)) = true := by simp; omega
 go_enter Tryz.func37, Tryz.ntmps37
 go_wp2_with fail
 go_ret
 exact ⟨rfl, HB1.out⟩
/-- What is told of tasks alone. -/
theorem rights_tasks (ta : Option Addr) (tn tc : Nat) (w : World) (ts : List Tk) (hn : ts.length = tn) (hl : Lies w 0 w.heap.size (.slice ta tn tc) tn 6 (ts.flatMap Tk.cells)) :
 Calls Tryz.prog 37 #[.agg #[.slice ta tn tc, .slice none 0 0, .slice none 0 0, .int .u8 0, .int .u8 0, .int .u8 0]] w fun e w' => e = .returned (.int .i64 (if okN ts = true then 0 else 22)) ∧ Below w.heap.size w w' := by
 by_cases h6 : 6 < tn
 ·rw [if_neg (by unfold okN; rw [decide_eq_false (by omega)]; simp)]
  exact rights_many ta tn tc w h6
 ·have := rights_any ta none none tn tc 0 0 0 0 0 0 0 w 0 w.heap.size ts [] hn rfl hl (lies_nil _ _ _) (Nat.le_refl _) (by omega) (by omega)
  rw [show wrongOf ts [] 0 0 0 = if okN ts = true then 0 else 22 by
   unfold wrongOf okN
   rw [if_neg (by omega), decide_eq_true (by omega)]
   cases ts.all okTk <;> rfl] at this
  exact this
end Go.Proofs.YtchbehnkkcjdgaaGreat
