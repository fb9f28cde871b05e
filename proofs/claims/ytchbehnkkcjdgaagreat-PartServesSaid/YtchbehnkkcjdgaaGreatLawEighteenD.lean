/- RefillNil, out of the contracts. -/
import Derived.Test.YtchbehnkkcjdgaaGreatRefillC
import Derived.Test.YtchbehnkkcjdgaaGreatBuild
namespace Go.Proofs.YtchbehnkkcjdgaaGreat
open Go.ChangeShapes Go.WideShapes Go.ChangeAt Go.RowKit
set_option linter.unusedVariables false
/-- The cells of a budget that nobody made (of the program's own make: to be written anew for each). -/
def zc18 : Array Value := #[.slice none 0 0, .bool false, .int .i64 0, .int .i64 0, .int .i64 0, .int .i64 0, .int .i64 0, .bool false]
/-- The contracts of a budget that nobody made. -/
structure RefillNo where
 No : World → Option Addr → Prop
 later : ∀ {w w' : World} {p : Option Addr}, No w p → Below w.heap.size w w' → No w' p
 nil : ∀ w, No w none
 zero : ∀ (w : World) (H : Nat), w.heap[H]? = some (.cells zc18 247 (0, 0)) → No w (some ⟨H, 0, none⟩)
 go : ∀ (w : World) (p : Option Addr) (now : Int) (busy : Bool), No w p → Calls Tryz.prog 254 #[.pointer p, .int .i64 now, .bool busy] w fun e w' => e = .returned (.tuple #[]) ∧ Below w.heap.size w w'
 done_ : ∀ (w : World) (p : Option Addr), No w p → Calls Tryz.prog 252 #[.pointer p] w fun e w' => e = .returned (.tuple #[]) ∧ Below w.heap.size w w'
 stop : ∀ (w : World) (p : Option Addr), No w p → Calls Tryz.prog 257 #[.pointer p] w fun e w' => e = .returned (.tuple #[]) ∧ Below w.heap.size w w'
 resume : ∀ (w : World) (p : Option Addr), No w p → Calls Tryz.prog 256 #[.pointer p] w fun e w' => e = .returned (.tuple #[]) ∧ Below w.heap.size w w'
 reset : ∀ (w : World) (p : Option Addr), No w p → Calls Tryz.prog 255 #[.pointer p] w fun e w' => e = .returned (.tuple #[]) ∧ Below w.heap.size w w'
 due : ∀ (w : World) (p : Option Addr), No w p → Calls Tryz.prog 253 #[.pointer p] w fun e w' => e = .returned (.tuple #[.int .i64 0, .bool false]) ∧ Below w.heap.size w w'
 use : ∀ (w : World) (p : Option Addr), No w p → Calls Tryz.prog 258 #[.pointer p] w fun e w' => e = .returned (.bool false) ∧ Below w.heap.size w w'
end Go.Proofs.YtchbehnkkcjdgaaGreat
