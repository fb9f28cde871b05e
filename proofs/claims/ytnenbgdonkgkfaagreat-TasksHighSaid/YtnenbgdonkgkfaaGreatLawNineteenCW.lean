/- TasksHigh, of the program. -/
import Derived.Test.YtnenbgdonkgkfaaGreatTaskY
import Derived.Test.YtnenbgdonkgkfaaGreatLawNineteenC
namespace Go.Proofs.YtnenbgdonkgkfaaGreat
open Go.ChangeShapes Go.WideShapes Go.ChangeAt Go.RowKit
theorem TasksHigh_walk (a0 : Option Addr) (n0 c0 : Nat) (a1 : Option Addr) (n1 c1 : Nat) (w : World) (ts : List Tk) (l1 : List Ac) (hn0 : ts.length = n0) (hl0 : Lies w 0 w.heap.size (.slice a0 n0 c0) n0 6 (ts.flatMap Tk.cells)) (hi0 : ∀ x ∈ ts, x.In) (hs0 : n0 * 48 ≤ 140737488355328) (hn1 : l1.length = n1) (hl1 : Lies w 0 w.heap.size (.slice a1 n1 c1) n1 7 (l1.flatMap Ac.cells)) (ho1 : ∀ x ∈ l1, x.Ok w) :
    Calls Tryz.prog 4 #[.slice a0 n0 c0, .slice a1 n1 c1] w fun e w' => e = .returned (.bool true) ∧ Below w.heap.size w w' := TasksHigh_of tasksOk a0 n0 c0 a1 n1 c1 w ts l1 hn0 hl0 hi0 hs0 hn1 hl1 ho1
end Go.Proofs.YtnenbgdonkgkfaaGreat
