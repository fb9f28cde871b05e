/- What is asked of the program's tables of jobs; acts; own, light, knows. -/
import Derived.Test.YtchbehnkkcjdgaaGreatPlains
import Derived.Test.YtchbehnkkcjdgaaGreatTks
import Derived.Test.YtchbehnkkcjdgaaGreatTwo
import Derived.Test.YtchbehnkkcjdgaaGreatOff
import Derived.Test.YtchbehnkkcjdgaaGreatRead
import Derived.Lib.SliceRun
import Derived.BigRegion
import Derived.BigQuiet
import Derived.Deep.RegionLaw
namespace Go.Proofs.YtchbehnkkcjdgaaGreat
open Go.ChangeShapes Go.WideShapes Go.ChangeAt Go.RowKit
set_option linter.unusedVariables false
/-- An act: its kind and number, its job; ov is the row of the job's ops. -/
structure Ac where
 kind : Int
 k : Int
 task : Int
 arr : Int
 work : Int
 done : Int
 ov : Value
 ops : List Wn
def Ac.cells (a : Ac) : List Value := [.int .i64 a.kind, .int .i64 a.k, .int .i64 a.task, .int .i64 a.arr, .int .i64 a.work, .int .i64 a.done, a.ov]
def Ac.Ok (W : World) (a : Ac) : Prop := Lies W 0 W.heap.size a.ov a.ops.length 3 (a.ops.flatMap Wn.cells)
/-- The cells of a row of ops, later. -/
theorem ops_read {w : World} {lo hi : Nat} {a : Option Addr} {n c : Nat} {l : List Wn} (hn : l.length = n) (hl : Lies w lo hi (.slice a n c) n 3 (l.flatMap Wn.cells)) : ∀ i (hi' : i < n), ∃ b off x0 x1 x2, a = some ⟨b, off, none⟩ ∧ lo ≤ b ∧ b < hi ∧ l[i]? = some ⟨x0, x1, x2⟩ ∧ ∀ Y : World, Y.heap[b]? = w.heap[b]? → Y.cell? ⟨b, off + i * 3, none⟩ = some (.int .i64 x0) ∧ Y.cell? ⟨b, off + i * 3 + 1, none⟩ = some (.int .i64 x1) ∧ Y.cell? ⟨b, off + i * 3 + 2, none⟩ = some (.int .i64 x2) := by
 intro i hi'
 have hil : i < l.length := by omega
 obtain ⟨a', c', e, _, _, hc⟩ := hl
 cases e
 rcases hc with h0 | ⟨b, off, rfl, hb1, hb, hc⟩
 ·omega
 ·obtain ⟨x, hx⟩ : ∃ x, x = l[i] := ⟨_, rfl⟩
  have hx' : l[i]? = some x := by rw [hx]; exact List.getElem?_eq_getElem hil
  obtain ⟨x0, x1, x2⟩ := x
  have hk : ∀ (Y : World), Y.heap[b]? = w.heap[b]? → ∀ j, Y.cell? ⟨b, j, none⟩ = w.cell? ⟨b, j, none⟩ := fun Y hY j => by unfold World.cell?; rw [hY]
  exact ⟨b, off, x0, x1, x2, rfl, hb1, hb, hx', fun Y hY => ⟨by rw [hk Y hY]; exact hc _ _ (flat_at Wn.cells 3 (fun _ => rfl) l i 0 _ hx' (by omega)), by rw [hk Y hY]; exact hc _ _ (flat_at Wn.cells 3 (fun _ => rfl) l i 1 _ hx' (by omega)), by rw [hk Y hY]; exact hc _ _ (flat_at Wn.cells 3 (fun _ => rfl) l i 2 _ hx' (by omega))⟩⟩
/-- The contracts of a table of jobs: of the tasks ts; hi: is the mode high; js: the jobs. Its own blocks are S. -/
structure TasksOk where
 Tb : Nat → List Tk → Bool → Js → World → (Nat → Prop) → Prop
 own : ∀ (H : Nat) (ts : List Tk) (hi : Bool) (js : Js), OwnP (Tb H ts hi js)
 bd : ∀ {w : World} {H : Nat} {S : Nat → Prop} {ts : List Tk} {hi : Bool} {js : Js}, Tb H ts hi js w S → ts.length ≤ 6 ∧ (∀ x ∈ ts, okTk x = true) ∧ JsOk ts js
 new : ∀ (w : World) (a : Option Addr) (n c : Nat) (ts : List Tk), ts.length = n → Lies w 0 w.heap.size (.slice a n c) n 6 (ts.flatMap Tk.cells) → (∀ x ∈ ts, x.In) → Calls Tryz.prog 90 #[.slice a n c] w fun e w' => (okN ts = true → ∃ H S, e = .returned (.pointer (some ⟨H, 0, none⟩)) ∧ Tb H ts false (fun _ => none) w' S ∧ ∀ k, S k → w.heap.size ≤ k) ∧ (okN ts = false → e = .returned (.pointer none)) ∧ Below w.heap.size w w'
 put : ∀ (w : World) (H : Nat) (S : Nat → Prop) (ts : List Tk) (hi : Bool) (js : Js) (t arr work done : Int) (a : Option Addr) (n c : Nat) (ops : List Wn), Tb H ts hi js w S → ops.length = n → Lies w 0 w.heap.size (.slice a n c) n 3 (ops.flatMap Wn.cells) → Calls Tryz.prog 115 #[.pointer (some ⟨H, 0, none⟩), .agg #[.int .i64 t, .int .i64 arr, .int .i64 work, .int .i64 done, .slice a n c]] w fun e w' => ∃ S', e = .returned (.int .i64 (errT ts hi js t arr work done n)) ∧ Tb H ts hi (putT ts hi js t arr work done ops) w' S' ∧ GrowS S S' w w'
 first : ∀ (w : World) (H : Nat) (S : Nat → Prop) (ts : List Tk) (hi : Bool) (js : Js), Tb H ts hi js w S → Calls Tryz.prog 72 #[.pointer (some ⟨H, 0, none⟩)] w fun e w' => e = .returned (.tuple #[.int .i64 (fkV ts hi js), .int .i64 (fdV ts hi js), .bool (foV ts hi js)]) ∧ Below w.heap.size w w'
 run : ∀ (w : World) (H : Nat) (S : Nat → Prop) (ts : List Tk) (hi : Bool) (js : Js) (t : Int), Tb H ts hi js w S → Calls Tryz.prog 107 #[.pointer (some ⟨H, 0, none⟩), .int .i64 t] w fun e w' => ∃ S', e = .returned (.tuple #[.agg #[.int .i64 (opT ts js t).at_, .int .i64 (opT ts js t).len, .int .i64 (opT ts js t).part], .int .i64 (outT ts hi js t)]) ∧ Tb H ts hi (runT ts hi js t) w' S' ∧ GrowS S S' w w'
 rise : ∀ (w : World) (H : Nat) (S : Nat → Prop) (ts : List Tk) (hi : Bool) (js : Js), Tb H ts hi js w S → Calls Tryz.prog 187 #[.pointer (some ⟨H, 0, none⟩)] w fun e w' => ∃ S' ao cap, e = .returned (.slice ao (riseL ts js).length cap) ∧ Lies w' w.heap.size w'.heap.size (.slice ao (riseL ts js).length cap) (riseL ts js).length 1 ((riseL ts js).flatMap intCells) ∧ Tb H ts true (riseT ts js) w' S' ∧ GrowS S S' w w'
 fall : ∀ (w : World) (H : Nat) (S : Nat → Prop) (ts : List Tk) (hi : Bool) (js : Js), Tb H ts hi js w S → Calls Tryz.prog 145 #[.pointer (some ⟨H, 0, none⟩)] w fun e w' => ∃ S', e = .returned (.bool (falV ts hi js)) ∧ Tb H ts (falH ts hi js) js w' S' ∧ GrowS S S' w w'
 high : ∀ (w : World) (H : Nat) (S : Nat → Prop) (ts : List Tk) (hi : Bool) (js : Js), Tb H ts hi js w S → Calls Tryz.prog 76 #[.pointer (some ⟨H, 0, none⟩)] w fun e w' => e = .returned (.bool hi) ∧ Below w.heap.size w w'
 missed : ∀ (w : World) (H : Nat) (S : Nat → Prop) (ts : List Tk) (hi : Bool) (js : Js) (now : Int), Tb H ts hi js w S → Calls Tryz.prog 47 #[.pointer (some ⟨H, 0, none⟩), .int .i64 now] w fun e w' => ∃ S' ao cap, e = .returned (.slice ao (misL ts js now).length cap) ∧ Lies w' w.heap.size w'.heap.size (.slice ao (misL ts js now).length cap) (misL ts js now).length 1 ((misL ts js now).flatMap intCells) ∧ Tb H ts hi (misT ts js now) w' S' ∧ GrowS S S' w w'
 get : ∀ (w : World) (H : Nat) (S : Nat → Prop) (ts : List Tk) (hi : Bool) (js : Js) (t : Int), Tb H ts hi js w S → Calls Tryz.prog 128 #[.pointer (some ⟨H, 0, none⟩), .int .i64 t] w fun e w' => ∃ ao cap, e = .returned (.tuple #[.agg #[.int .i64 (getT ts js t), .int .i64 (getJ ts js t).arr, .int .i64 (getJ ts js t).work, .int .i64 (getJ ts js t).done, .slice ao (getJ ts js t).ops.length cap], .bool (thereT ts js t)]) ∧ Lies w' w.heap.size w'.heap.size (.slice ao (getJ ts js t).ops.length cap) (getJ ts js t).ops.length 3 ((getJ ts js t).ops.flatMap Wn.cells) ∧ Below w.heap.size w w'
 len : ∀ (w : World) (H : Nat) (S : Nat → Prop) (ts : List Tk) (hi : Bool) (js : Js), Tb H ts hi js w S → Calls Tryz.prog 181 #[.pointer (some ⟨H, 0, none⟩)] w fun e w' => e = .returned (.int .i64 (cntT js ts.length : Nat)) ∧ Below w.heap.size w w'
 clear : ∀ (w : World) (H : Nat) (S : Nat → Prop) (ts : List Tk) (hi : Bool) (js : Js), Tb H ts hi js w S → Calls Tryz.prog 119 #[.pointer (some ⟨H, 0, none⟩)] w fun e w' => ∃ S', e = .returned (.tuple #[]) ∧ Tb H ts false (fun _ => none) w' S' ∧ GrowS S S' w w'
end Go.Proofs.YtchbehnkkcjdgaaGreat
