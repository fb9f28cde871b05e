/- What must come of bounds; a partition's bounds by what is read of it; the walk of the statement on the bound of any partition. -/
import Derived.Test.YtdbbdlobahalkaaBoundRef
import Derived.Test.YtdbbdlobahalkaaDemandSum
import Derived.Test.YtdbbdlobahalkaaCopy
import Derived.Test.YtdbbdlobahalkaaRead
import Derived.Deep.RegionHeld3
namespace Go.Proofs.Ytdbbdlobahalkaa
open Go.ChangeShapes Go.WideShapes Go.ChangeAt Go.RowKit
set_option linter.unusedVariables false

theorem hyper_at {F : Int} {ta sa : Option Addr} {tn tc sn sc : Nat} {w : World} {hi : Nat} {p : Pt} (hF : I64 F) (h : PartAt w hi p ta sa tn tc sn sc) (ht2 : tn ≤ 1000) (hs2 : sn ≤ 1000) (da : Option Addr) (dn dc : Nat) (x0 x1 x2 : Int) :
    Calls Try.prog 31 #[.int .i64 F, .agg #[.slice ta tn tc, .slice sa sn sc, .slice da dn dc, .int .u8 x0, .int .u8 x1, .int .u8 x2]] w fun e w' => e = .returned (.tuple #[.int .i64 (hyperV F p), .bool (hyperOk F p)]) ∧ Below w.heap.size w w' :=
  hyper_any F ta sa da tn tc sn sc dn dc x0 x1 x2 w 0 hi p hF h.etn h.esn h.ts h.ss h.le ht2 hs2
theorem far_at {ta sa : Option Addr} {tn tc sn sc : Nat} {w : World} {hi : Nat} {p : Pt} (h : PartAt w hi p ta sa tn tc sn sc) (ht2 : tn ≤ 1000) (hs2 : sn ≤ 1000) (da : Option Addr) (dn dc : Nat) (x0 x1 x2 : Int) :
    Calls Try.prog 32 #[.agg #[.slice ta tn tc, .slice sa sn sc, .slice da dn dc, .int .u8 x0, .int .u8 x1, .int .u8 x2]] w fun e w' => e = .returned (.int .i64 (farV p)) ∧ Below w.heap.size w w' :=
  far_any ta sa da tn tc sn sc dn dc x0 x1 x2 w 0 hi p h.etn h.esn h.ts h.ss h.le ht2 hs2
theorem bound_at {F : Int} {ta sa : Option Addr} {tn tc sn sc : Nat} {w : World} {hi : Nat} {p : Pt} (hF : I64 F) (h : PartAt w hi p ta sa tn tc sn sc) (ht2 : tn ≤ 1000) (hs2 : sn ≤ 1000) (da : Option Addr) (dn dc : Nat) (x0 x1 x2 : Int) :
    Calls Try.prog 15 #[.int .i64 F, .agg #[.slice ta tn tc, .slice sa sn sc, .slice da dn dc, .int .u8 x0, .int .u8 x1, .int .u8 x2]] w fun e w' => e = .returned (.tuple #[.int .i64 (boundV F p), .bool (boundOk F p)]) ∧ Below w.heap.size w w' :=
  bound_any F ta sa da tn tc sn sc dn dc x0 x1 x2 w 0 hi p hF h.etn h.esn h.ts h.ss h.le ht2 hs2
theorem refHyper_at {F : Int} {ta sa : Option Addr} {tn tc sn sc : Nat} {w : World} {hi : Nat} {p : Pt} (hF : I64 F) (h : PartAt w hi p ta sa tn tc sn sc) (ht2 : tn ≤ 1000) (hs2 : sn ≤ 1000) (da : Option Addr) (dn dc : Nat) (x0 x1 x2 : Int) :
    Calls Try.prog 23 #[.int .i64 F, .agg #[.slice ta tn tc, .slice sa sn sc, .slice da dn dc, .int .u8 x0, .int .u8 x1, .int .u8 x2]] w fun e w' => e = .returned (.tuple #[.int .i64 (hyperV F p), .bool (hyperOk F p)]) ∧ Below w.heap.size w w' :=
  refHyper_any F ta sa da tn tc sn sc dn dc x0 x1 x2 w 0 hi p hF h.etn h.esn h.ts h.ss h.le ht2 hs2
theorem refFar_at {ta sa : Option Addr} {tn tc sn sc : Nat} {w : World} {hi : Nat} {p : Pt} (h : PartAt w hi p ta sa tn tc sn sc) (ht2 : tn ≤ 1000) (hs2 : sn ≤ 1000) (da : Option Addr) (dn dc : Nat) (x0 x1 x2 : Int) :
    Calls Try.prog 24 #[.agg #[.slice ta tn tc, .slice sa sn sc, .slice da dn dc, .int .u8 x0, .int .u8 x1, .int .u8 x2]] w fun e w' => e = .returned (.int .i64 (farV p)) ∧ Below w.heap.size w w' :=
  refFar_any ta sa da tn tc sn sc dn dc x0 x1 x2 w 0 hi p h.etn h.esn h.ts h.ss h.le ht2 hs2
theorem refBound_at {F : Int} {ta sa : Option Addr} {tn tc sn sc : Nat} {w : World} {hi : Nat} {p : Pt} (hF : I64 F) (h : PartAt w hi p ta sa tn tc sn sc) (ht2 : tn ≤ 1000) (hs2 : sn ≤ 1000) (da : Option Addr) (dn dc : Nat) (x0 x1 x2 : Int) :
    Calls Try.prog 13 #[.int .i64 F, .agg #[.slice ta tn tc, .slice sa sn sc, .slice da dn dc, .int .u8 x0, .int .u8 x1, .int .u8 x2]] w fun e w' => e = .returned (.tuple #[.int .i64 (boundV F p), .bool (boundOk F p)]) ∧ Below w.heap.size w w' :=
  refBound_any F ta sa da tn tc sn sc dn dc x0 x1 x2 w 0 hi p hF h.etn h.esn h.ts h.ss h.le ht2 hs2
def oneP : Pt := ⟨[⟨false, 30, 25, 25, 1, 1⟩], [], [], 0, 0, 0⟩
theorem sure10 : hyperV 20 oneP = 60 ∧ hyperOk 20 oneP = true ∧ boundV 20 oneP = 85 ∧ boundOk 20 oneP = true ∧ farV oneP = 25 := by decide +kernel
theorem none_lies (w : World) (lo hi sz : Nat) : Lies w lo hi (.slice none 0 0) 0 sz [] := ⟨none, 0, rfl, by simp, fun _ => ⟨rfl, rfl⟩, .inl rfl⟩
end Go.Proofs.Ytdbbdlobahalkaa
