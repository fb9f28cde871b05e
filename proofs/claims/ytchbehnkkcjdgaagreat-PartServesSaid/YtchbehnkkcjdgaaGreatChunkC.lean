/- What is asked of the program's budget; do, knows. -/
import Derived.Test.YtchbehnkkcjdgaaGreatTwo
import Derived.Test.YtchbehnkkcjdgaaGreatBks
import Derived.Test.YtchbehnkkcjdgaaGreatRead
import Derived.Deep.CutRange
import Derived.Deep.CutBlock
namespace Go.Proofs.YtchbehnkkcjdgaaGreat
open Go.ChangeShapes Go.WideShapes Go.ChangeAt Go.RowKit
set_option linter.unusedVariables false
/-- The contracts of a budget of the server s: b is what it has. Its own blocks are S. -/
structure ChunkOk where
 Bg : Nat → Sv → Bd → World → (Nat → Prop) → Prop
 own : ∀ (H : Nat) (s : Sv) (b : Bd), OwnP (Bg H s b)
 bd : ∀ {w : World} {H : Nat} {S : Nat → Prop} {s : Sv} {b : Bd}, Bg H s b w S → okSv s = true ∧ BdOk s.c s.t 4611687117939015680 b
 new_yes : ∀ (re : Bool) (c t : Int) (w : World), okSv ⟨re, c, t⟩ = true → Calls Tryz.prog 142 #[.agg #[.bool re, .int .i64 c, .int .i64 t]] w fun e w' => ∃ H S, e = .returned (.pointer (some ⟨H, 0, none⟩)) ∧ Bg H ⟨re, c, t⟩ (resetB c) w' S ∧ (∀ k, S k → w.heap.size ≤ k) ∧ Below w.heap.size w w'
 new_no : ∀ (re : Bool) (c t : Int) (w : World), okSv ⟨re, c, t⟩ = false → Calls Tryz.prog 142 #[.agg #[.bool re, .int .i64 c, .int .i64 t]] w fun e w' => e = .returned (.pointer none) ∧ Below w.heap.size w w'
 go : ∀ (w : World) (H : Nat) (S : Nat → Prop) (s : Sv) (b : Bd) (now : Int) (busy : Bool), 0 ≤ now → now ≤ 4611687117939015680 → Bg H s b w S → Calls Tryz.prog 270 #[.pointer (some ⟨H, 0, none⟩), .int .i64 now, .bool busy] w fun e w' => ∃ S', e = .returned (.tuple #[]) ∧ Bg H s (goB b now busy) w' S' ∧ GrowS S S' w w'
 use : ∀ (w : World) (H : Nat) (S : Nat → Prop) (s : Sv) (b : Bd), Bg H s b w S → Calls Tryz.prog 274 #[.pointer (some ⟨H, 0, none⟩)] w fun e w' => ∃ S', e = .returned (.bool (useOk b)) ∧ Bg H s (useB s.t b) w' S' ∧ GrowS S S' w w'
 done_ : ∀ (w : World) (H : Nat) (S : Nat → Prop) (s : Sv) (b : Bd), Bg H s b w S → Calls Tryz.prog 268 #[.pointer (some ⟨H, 0, none⟩)] w fun e w' => ∃ S', e = .returned (.tuple #[]) ∧ Bg H s (doneB s.t b) w' S' ∧ GrowS S S' w w'
 stop : ∀ (w : World) (H : Nat) (S : Nat → Prop) (s : Sv) (b : Bd), Bg H s b w S → Calls Tryz.prog 273 #[.pointer (some ⟨H, 0, none⟩)] w fun e w' => ∃ S', e = .returned (.tuple #[]) ∧ Bg H s (stopB (doneB s.t b) true) w' S' ∧ GrowS S S' w w'
 resume : ∀ (w : World) (H : Nat) (S : Nat → Prop) (s : Sv) (b : Bd), Bg H s b w S → Calls Tryz.prog 272 #[.pointer (some ⟨H, 0, none⟩)] w fun e w' => ∃ S', e = .returned (.tuple #[]) ∧ Bg H s (stopB b false) w' S' ∧ GrowS S S' w w'
 reset : ∀ (w : World) (H : Nat) (S : Nat → Prop) (s : Sv) (b : Bd), Bg H s b w S → Calls Tryz.prog 271 #[.pointer (some ⟨H, 0, none⟩)] w fun e w' => ∃ S', e = .returned (.tuple #[]) ∧ Bg H s (resetB s.c) w' S' ∧ GrowS S S' w w'
 due : ∀ (w : World) (H : Nat) (S : Nat → Prop) (s : Sv) (b : Bd), Bg H s b w S → Calls Tryz.prog 269 #[.pointer (some ⟨H, 0, none⟩)] w fun e w' => e = .returned (.tuple #[.int .i64 (dueV s.t b), .bool (useOk b)]) ∧ Below w.heap.size w w'
end Go.Proofs.YtchbehnkkcjdgaaGreat
