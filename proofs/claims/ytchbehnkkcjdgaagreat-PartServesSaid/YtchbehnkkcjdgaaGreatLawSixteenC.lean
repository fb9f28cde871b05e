/- PoliceNil, out of the contracts. -/
import Derived.Test.YtchbehnkkcjdgaaGreatPolC
import Derived.Deep.CutRange
import Derived.Deep.CutBlock
namespace Go.Proofs.YtchbehnkkcjdgaaGreat
open Go.ChangeShapes Go.WideShapes Go.ChangeAt Go.RowKit
set_option linter.unusedVariables false
/-- What nobody's police answers. -/
structure PoliceNo where
 take : ∀ (w : World) (t now : Int), Calls Tryz.prog 116 #[.pointer none, .int .i64 t, .int .i64 now] w fun e w' => e = .returned (.int .i64 1) ∧ Below w.heap.size w w'
 may : ∀ (w : World) (t now : Int), Calls Tryz.prog 114 #[.pointer none, .int .i64 t, .int .i64 now] w fun e w' => e = .returned (.int .i64 1) ∧ Below w.heap.size w w'
 drop : ∀ (w : World) (b : Bool), Calls Tryz.prog 120 #[.pointer none, .bool b] w fun e w' => e = .returned (.tuple #[]) ∧ Below w.heap.size w w'
 dropped : ∀ (w : World) (t : Int), Calls Tryz.prog 157 #[.pointer none, .int .i64 t] w fun e w' => e = .returned (.bool false) ∧ Below w.heap.size w w'
end Go.Proofs.YtchbehnkkcjdgaaGreat
