/- ChunkNil, of the program. -/
import Derived.Test.YtoofkeeoolgpdaaChunkZ
import Derived.Test.YtoofkeeoolgpdaaChunkN
namespace Go.Proofs.Ytoofkeeoolgpdaa
open Go.ChangeShapes Go.WideShapes Go.ChangeAt Go.RowKit
set_option linter.unusedVariables false
theorem ChunkNil_walk (now : Int) (w : World) (hi : I64 now) :
    Calls Try.prog 6 #[.int .i64 now] w fun e w' => e = .returned (.bool true) ∧ Below w.heap.size w w' := ChunkNil_of chunkNo chunkOk now w
end Go.Proofs.Ytoofkeeoolgpdaa
