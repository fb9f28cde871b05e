/- The program's police: what New asks and lays. -/
import Derived.Test.YtackgfjgephhoaaPolQ
import Derived.Test.YtackgfjgephhoaaBuild
import Derived.Lib.SliceRun
namespace Go.Proofs.Ytackgfjgephhoaa
open Go.ChangeShapes Go.WideShapes Go.ChangeAt Go.RowKit
set_option linter.unusedVariables false

theorem lies_nil (w : World) (hi sz : Nat) : Lies w 0 hi (.slice none 0 0) 0 sz [] := ⟨none, 0, rfl, by simp, fun _ => ⟨rfl, rfl⟩, .inl rfl⟩
set_option maxRecDepth 100000 in
set_option maxHeartbeats 4000000 in
theorem rights_many (ta : Option Addr) (tn tc : Nat) (w : World) (l1 : 6 < tn) :
    Calls Try.prog 24 #[.agg #[.slice ta tn tc, .slice none 0 0, .slice none 0 0, .int .u8 0, .int .u8 0, .int .u8 0]] w fun e w' => e = .returned (.int .i64 22) ∧ Below w.heap.size w w' := by
  have HB1 : Hid (Below w.heap.size w (w.alloc (.cells #[.slice ta tn tc, .slice none 0 0, .slice none 0 0, .int .u8 0, .int .u8 0, .int .u8 0] 60))) := Lib.hid (below1 _ _)
  have t1 : decide (6 < (tn : Int)) = true := by simp; omega
  go_enter Try.func24, Try.ntmps24
  go_wp2_with fail
  go_ret
  exact ⟨rfl, HB1.out⟩
/-- What is told of tasks alone. -/
theorem rights_tasks (ta : Option Addr) (tn tc : Nat) (w : World) (ts : List Tk) (hn : ts.length = tn) (hl : Lies w 0 w.heap.size (.slice ta tn tc) tn 6 (ts.flatMap Tk.cells)) :
    Calls Try.prog 24 #[.agg #[.slice ta tn tc, .slice none 0 0, .slice none 0 0, .int .u8 0, .int .u8 0, .int .u8 0]] w fun e w' => e = .returned (.int .i64 (if okN ts = true then 0 else 22)) ∧ Below w.heap.size w w' := by
  by_cases h6 : 6 < tn
  · rw [if_neg (by unfold okN; rw [decide_eq_false (by omega)]; simp)]
    exact rights_many ta tn tc w h6
  · have := rights_any ta none none tn tc 0 0 0 0 0 0 0 w 0 w.heap.size ts [] hn rfl hl (lies_nil _ _ _) (Nat.le_refl _) (by omega) (by omega)
    rw [show wrongOf ts [] 0 0 0 = if okN ts = true then 0 else 22 by
      unfold wrongOf okN
      rw [if_neg (by omega), decide_eq_true (by omega)]
      cases ts.all okTk <;> rfl] at this
    exact this
/-- The cells of a police that New has just made of n tasks. -/
def polC (n : Int) : Array Value := #[.bool false, .int .i64 0, .int .i64 0, .int .i64 0, .int .i64 0, .int .i64 0, .bool false, .int .i64 0, .bool false, .int .i64 0, .int .i64 0, .int .i64 0, .int .i64 0, .int .i64 0, .bool false, .int .i64 0, .bool false, .int .i64 0, .int .i64 0, .int .i64 0, .int .i64 0, .int .i64 0, .bool false, .int .i64 0, .bool false, .int .i64 0, .int .i64 0, .int .i64 0, .int .i64 0, .int .i64 0, .bool false, .int .i64 0, .bool false, .int .i64 0, .int .i64 0, .int .i64 0, .int .i64 0, .int .i64 0, .bool false, .int .i64 0, .bool false, .int .i64 0, .int .i64 0, .int .i64 0, .int .i64 0, .int .i64 0, .bool false, .int .i64 0, .int .i64 n, .bool false]
set_option maxRecDepth 100000 in
theorem built_pol (n : Int) : Try.prog.built 55 [(1, .int .i64 n)] = some (polC n) := by kernel_rfl
set_option maxRecDepth 100000 in
theorem built_part16 (a : Option Addr) (n c : Nat) : Try.prog.built 60 [(0, .slice a n c)] = some #[.slice a n c, .slice none 0 0, .slice none 0 0, .int .u8 0, .int .u8 0, .int .u8 0] := by kernel_rfl
theorem polC_cells {w : World} {H n : Nat} (h : w.heap[H]? = some (.cells (polC n) 55 (0, 0))) : PCells w H (polV n [] [] false) := by
  have h1 : PCells w H (fun i => ((polC n)[i]?).getD (.bool false)) := ⟨_, h, rfl, fun i hi => by
    have : i < (polC n).size := hi
    show _ = some (((polC n)[i]?).getD _)
    rw [Array.getElem?_eq_getElem this]; rfl⟩
  refine h1.congr (polV_ext rfl rfl (fun k r hk hr => ?_))
  rw [polV_k _ _ _ _ _ _ hk hr]
  rw [show tkAt [] k = ⟨false, 0, 0, 0, 0, 0⟩ by unfold tkAt; simp, show laAt [] k = -1 by unfold laAt; simp, show lasI [] k = 0 by unfold lasI laAt; simp]
  clear h h1
  match k, hk, r, hr with
  | 0, _, 0, _ => rfl
  | 0, _, 1, _ => rfl
  | 0, _, 2, _ => rfl
  | 0, _, 3, _ => rfl
  | 0, _, 4, _ => rfl
  | 0, _, 5, _ => rfl
  | 0, _, 6, _ => rfl
  | 0, _, 7, _ => rfl
  | 1, _, 0, _ => rfl
  | 1, _, 1, _ => rfl
  | 1, _, 2, _ => rfl
  | 1, _, 3, _ => rfl
  | 1, _, 4, _ => rfl
  | 1, _, 5, _ => rfl
  | 1, _, 6, _ => rfl
  | 1, _, 7, _ => rfl
  | 2, _, 0, _ => rfl
  | 2, _, 1, _ => rfl
  | 2, _, 2, _ => rfl
  | 2, _, 3, _ => rfl
  | 2, _, 4, _ => rfl
  | 2, _, 5, _ => rfl
  | 2, _, 6, _ => rfl
  | 2, _, 7, _ => rfl
  | 3, _, 0, _ => rfl
  | 3, _, 1, _ => rfl
  | 3, _, 2, _ => rfl
  | 3, _, 3, _ => rfl
  | 3, _, 4, _ => rfl
  | 3, _, 5, _ => rfl
  | 3, _, 6, _ => rfl
  | 3, _, 7, _ => rfl
  | 4, _, 0, _ => rfl
  | 4, _, 1, _ => rfl
  | 4, _, 2, _ => rfl
  | 4, _, 3, _ => rfl
  | 4, _, 4, _ => rfl
  | 4, _, 5, _ => rfl
  | 4, _, 6, _ => rfl
  | 4, _, 7, _ => rfl
  | 5, _, 0, _ => rfl
  | 5, _, 1, _ => rfl
  | 5, _, 2, _ => rfl
  | 5, _, 3, _ => rfl
  | 5, _, 4, _ => rfl
  | 5, _, 5, _ => rfl
  | 5, _, 6, _ => rfl
  | 5, _, 7, _ => rfl
theorem laAt_rep (n i : Nat) : laAt (List.replicate n (-1)) i = -1 := by
  unfold laAt
  rw [List.getD_eq_getElem?_getD, List.getElem?_replicate]
  split <;> rfl
theorem polV_made {n : Nat} {ts : List Tk} : ∀ i, i < 50 → polV n ts [] false i = polV n ts (List.replicate n (-1)) false i := by
  refine polV_ext rfl rfl (fun j r hj hr => ?_)
  rw [polV_k _ _ _ _ _ _ hj hr, polV_k _ _ _ _ _ _ hj hr]
  unfold lasI
  rw [laAt_rep]
  rfl
theorem tkAt_take {ts : List Tk} {k : Nat} (h : k < ts.length) (j : Nat) : tkAt (ts.take (k + 1)) j = if j = k then tkAt ts k else tkAt (ts.take k) j := by
  unfold tkAt
  rw [List.getD_eq_getElem?_getD, List.getD_eq_getElem?_getD, List.getD_eq_getElem?_getD, List.getElem?_take, List.getElem?_take]
  by_cases e : j = k
  · subst e; rw [if_pos (by omega), if_pos rfl]
  · rw [if_neg e]
    by_cases c : j < k
    · rw [if_pos (by omega), if_pos c]
    · rw [if_neg (by omega), if_neg c]
/-- One task more. -/
theorem polV_more {n : Nat} {ts : List Tk} {k : Nat} (hk : k < 6) (h : k < ts.length) : ∀ i, i < 50 → updP (updP (updP (updP (updP (updP (polV n (ts.take k) [] false) (k * 8) (.bool (tkAt ts k).hi)) (k * 8 + 1) (.int .i64 (tkAt ts k).t)) (k * 8 + 2) (.int .i64 (tkAt ts k).d)) (k * 8 + 3) (.int .i64 (tkAt ts k).v)) (k * 8 + 4) (.int .i64 (tkAt ts k).lo)) (k * 8 + 5) (.int .i64 (tkAt ts k).top) i = polV n (ts.take (k + 1)) [] false i := by
  refine polV_ext ?_ ?_ (fun j r hj hr => ?_)
  · rw [updP_ne _ _ (by omega), updP_ne _ _ (by omega), updP_ne _ _ (by omega), updP_ne _ _ (by omega), updP_ne _ _ (by omega), updP_ne _ _ (by omega)]; rfl
  · rw [updP_ne _ _ (by omega), updP_ne _ _ (by omega), updP_ne _ _ (by omega), updP_ne _ _ (by omega), updP_ne _ _ (by omega), updP_ne _ _ (by omega)]; rfl
  rw [polV_k _ _ _ _ _ _ hj hr, tkAt_take h]
  by_cases e : j = k
  · subst e
    rw [if_pos rfl]
    match r, hr with
    | 0, _ => rw [updP_ne _ _ (by omega), updP_ne _ _ (by omega), updP_ne _ _ (by omega), updP_ne _ _ (by omega), updP_ne _ _ (by omega)]; exact updP_at _ _ _
    | 1, _ => rw [updP_ne _ _ (by omega), updP_ne _ _ (by omega), updP_ne _ _ (by omega), updP_ne _ _ (by omega), updP_at]; rfl
    | 2, _ => rw [updP_ne _ _ (by omega), updP_ne _ _ (by omega), updP_ne _ _ (by omega), updP_at]; rfl
    | 3, _ => rw [updP_ne _ _ (by omega), updP_ne _ _ (by omega), updP_at]; rfl
    | 4, _ => rw [updP_ne _ _ (by omega), updP_at]; rfl
    | 5, _ => rw [updP_at]; rfl
    | 6, _ => rw [updP_ne _ _ (by omega), updP_ne _ _ (by omega), updP_ne _ _ (by omega), updP_ne _ _ (by omega), updP_ne _ _ (by omega), updP_ne _ _ (by omega), polV_6 _ _ _ _ hj]; rfl
    | 7, _ => rw [updP_ne _ _ (by omega), updP_ne _ _ (by omega), updP_ne _ _ (by omega), updP_ne _ _ (by omega), updP_ne _ _ (by omega), updP_ne _ _ (by omega), polV_7 _ _ _ _ hj]; rfl
  · rw [if_neg e, updP_ne _ _ (by omega), updP_ne _ _ (by omega), updP_ne _ _ (by omega), updP_ne _ _ (by omega), updP_ne _ _ (by omega), updP_ne _ _ (by omega), polV_k _ _ _ _ _ _ hj hr]
end Go.Proofs.Ytackgfjgephhoaa
