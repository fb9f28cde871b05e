/- What is asked of the program's police; own, knows. -/
import Derived.Test.YtchbehnkkcjdgaaGreatPolN
import Derived.Test.YtchbehnkkcjdgaaGreatRead
namespace Go.Proofs.YtchbehnkkcjdgaaGreat
open Go.ChangeShapes Go.WideShapes Go.ChangeAt Go.RowKit
set_option linter.unusedVariables false
/-- The contracts of a police: of the tasks ts; la tells when each was accepted last (-1: never); hi: are low ones dropped. Its own blocks are S. -/
structure PoliceOk where
 Pl : Nat → List Tk → List Int → Bool → World → (Nat → Prop) → Prop
 own : ∀ (H : Nat) (ts : List Tk) (la : List Int) (hi : Bool), OwnP (Pl H ts la hi)
 bd : ∀ {w : World} {H : Nat} {S : Nat → Prop} {ts : List Tk} {la : List Int} {hi : Bool}, Pl H ts la hi w S → ts.length ≤ 6 ∧ (∀ x ∈ ts, okTk x = true) ∧ LaOk ts la
 new : ∀ (w : World) (a : Option Addr) (n c : Nat) (ts : List Tk), ts.length = n → Lies w 0 w.heap.size (.slice a n c) n 6 (ts.flatMap Tk.cells) → (∀ x ∈ ts, x.In) → Calls Tryz.prog 91 #[.slice a n c] w fun e w' => (okN ts = true → ∃ H S, e = .returned (.pointer (some ⟨H, 0, none⟩)) ∧ Pl H ts (List.replicate n (-1)) false w' S ∧ ∀ k, S k → w.heap.size ≤ k) ∧ (okN ts = false → e = .returned (.pointer none)) ∧ Below w.heap.size w w'
 take : ∀ (w : World) (H : Nat) (S : Nat → Prop) (ts : List Tk) (la : List Int) (hi : Bool) (t now : Int), Pl H ts la hi w S → Calls Tryz.prog 116 #[.pointer (some ⟨H, 0, none⟩), .int .i64 t, .int .i64 now] w fun e w' => ∃ S', e = .returned (.int .i64 (errP ts la hi t now)) ∧ Pl H ts (takL ts la hi t now) hi w' S' ∧ GrowS S S' w w'
 may : ∀ (w : World) (H : Nat) (S : Nat → Prop) (ts : List Tk) (la : List Int) (hi : Bool) (t now : Int), Pl H ts la hi w S → Calls Tryz.prog 114 #[.pointer (some ⟨H, 0, none⟩), .int .i64 t, .int .i64 now] w fun e w' => e = .returned (.int .i64 (errP ts la hi t now)) ∧ Below w.heap.size w w'
 drop : ∀ (w : World) (H : Nat) (S : Nat → Prop) (ts : List Tk) (la : List Int) (hi : Bool) (b : Bool), Pl H ts la hi w S → Calls Tryz.prog 120 #[.pointer (some ⟨H, 0, none⟩), .bool b] w fun e w' => ∃ S', e = .returned (.tuple #[]) ∧ Pl H ts la b w' S' ∧ GrowS S S' w w'
 dropped : ∀ (w : World) (H : Nat) (S : Nat → Prop) (ts : List Tk) (la : List Int) (hi : Bool) (t : Int), Pl H ts la hi w S → Calls Tryz.prog 157 #[.pointer (some ⟨H, 0, none⟩), .int .i64 t] w fun e w' => e = .returned (.bool (dropV ts hi t)) ∧ Below w.heap.size w w'
end Go.Proofs.YtchbehnkkcjdgaaGreat
