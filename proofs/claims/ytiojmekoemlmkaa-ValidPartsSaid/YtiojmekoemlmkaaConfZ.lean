/- The things that a system is made of. -/
import Derived.WalkKit
import Derived.WalkSmall
import Derived.ProofKit
import Derived.OpenShut
import Derived.Deep.RegionHeld3
import Derived.Deep.DrawnRows
import Derived.Below
import Derived.Lib.Hide
import Derived.Test.YtiojmekoemlmkaaRows
namespace Go.Proofs.Ytiojmekoemlmkaa
open Go.ChangeShapes Go.WideShapes Go.ChangeAt Go.RowKit
set_option linter.unusedVariables false

theorem ret_b {x y : Bool} (h : x = y) : Ending.returned (.bool x) = .returned (.bool y) := by rw [h]
theorem below1 (w : World) (o : Obj) : Below w.heap.size w (w.alloc o) := (Below.refl _ _).alloc (Nat.le_refl _) o
structure Tk where
  (hi : Bool) (t d v lo top : Int)
structure Sv where
  (re : Bool) (c t : Int)
structure Wn where
  (at_ len part : Int)
structure Ch where
  (queue : Bool) (from_ to size : Int)
def Tk.cells (k : Tk) : List Value := [.bool k.hi, .int .i64 k.t, .int .i64 k.d, .int .i64 k.v, .int .i64 k.lo, .int .i64 k.top]
def Sv.cells (k : Sv) : List Value := [.bool k.re, .int .i64 k.c, .int .i64 k.t]
def Wn.cells (k : Wn) : List Value := [.int .i64 k.at_, .int .i64 k.len, .int .i64 k.part]
def Ch.cells (k : Ch) : List Value := [.bool k.queue, .int .i64 k.from_, .int .i64 k.to, .int .i64 k.size]
def intCells (k : Int) : List Value := [.int .i64 k]
structure Pt where
  (ts : List Tk) (ss : List Sv) (ds : List Int) (a0 a1 a2 : Int)
structure Cf where
  (frame margin : Int) (ws : List Wn) (ps : List Pt) (cs : List Ch)
end Go.Proofs.Ytiojmekoemlmkaa
