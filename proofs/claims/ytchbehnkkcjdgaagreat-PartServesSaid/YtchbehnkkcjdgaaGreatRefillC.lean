/- What is asked of the program's budget that is filled again; knows. -/
import Derived.Test.YtchbehnkkcjdgaaGreatTwo
import Derived.Test.YtchbehnkkcjdgaaGreatPlains
import Derived.Test.YtchbehnkkcjdgaaGreatBks
import Derived.Test.YtchbehnkkcjdgaaGreatRead
import Derived.Deep.CutRange
import Derived.Deep.CutBlock
namespace Go.Proofs.YtchbehnkkcjdgaaGreat
open Go.ChangeShapes Go.WideShapes Go.ChangeAt Go.RowKit
set_option linter.unusedVariables false
/-- May a budget of these be? -/
def newOk (re : Bool) (c t st : Int) : Bool := okSv ⟨re, c, t⟩ && (decide (0 ≤ st) && decide (st ≤ 4611686018427387904))
/-- The contracts of a budget of the server s, from st on: b is what it has. Its own blocks are S. -/
structure RefillOk where
 Rg : Nat → Sv → Int → Rd → World → (Nat → Prop) → Prop
 own : ∀ (H : Nat) (s : Sv) (st : Int) (b : Rd), OwnP (Rg H s st b)
 bd : ∀ {w : World} {H : Nat} {S : Nat → Prop} {s : Sv} {st : Int} {b : Rd}, Rg H s st b w S → newOk s.re s.c s.t st = true ∧ RdOk s.c 4611687117939015680 b ∧ st ≤ b.now ∧ ∀ x ∈ b.live, st ≤ x.at_
 new_yes : ∀ (re : Bool) (c t st : Int) (w : World), newOk re c t st = true → Calls Tryz.prog 141 #[.agg #[.bool re, .int .i64 c, .int .i64 t], .int .i64 st] w fun e w' => ∃ H S, e = .returned (.pointer (some ⟨H, 0, none⟩)) ∧ Rg H ⟨re, c, t⟩ st ⟨st, c, [], false⟩ w' S ∧ (∀ k, S k → w.heap.size ≤ k) ∧ Below w.heap.size w w'
 new_no : ∀ (re : Bool) (c t st : Int) (w : World), newOk re c t st = false → Calls Tryz.prog 141 #[.agg #[.bool re, .int .i64 c, .int .i64 t], .int .i64 st] w fun e w' => e = .returned (.pointer none) ∧ Below w.heap.size w w'
 go : ∀ (w : World) (H : Nat) (S : Nat → Prop) (s : Sv) (st : Int) (b : Rd) (now : Int) (busy : Bool), b.now ≤ now → now ≤ 4611687117939015680 → Rg H s st b w S → Calls Tryz.prog 254 #[.pointer (some ⟨H, 0, none⟩), .int .i64 now, .bool busy] w fun e w' => ∃ S', e = .returned (.tuple #[]) ∧ Rg H s st (rGo s.c s.t st b now busy) w' S' ∧ GrowS S S' w w'
 use : ∀ (w : World) (H : Nat) (S : Nat → Prop) (s : Sv) (st : Int) (b : Rd), Rg H s st b w S → Calls Tryz.prog 258 #[.pointer (some ⟨H, 0, none⟩)] w fun e w' => ∃ S', e = .returned (.bool (rUseOk b)) ∧ Rg H s st (rUse b) w' S' ∧ GrowS S S' w w'
 done_ : ∀ (w : World) (H : Nat) (S : Nat → Prop) (s : Sv) (st : Int) (b : Rd), Rg H s st b w S → Calls Tryz.prog 252 #[.pointer (some ⟨H, 0, none⟩)] w fun e w' => ∃ S', e = .returned (.tuple #[]) ∧ Rg H s st (rDone b) w' S' ∧ GrowS S S' w w'
 stop : ∀ (w : World) (H : Nat) (S : Nat → Prop) (s : Sv) (st : Int) (b : Rd), Rg H s st b w S → Calls Tryz.prog 257 #[.pointer (some ⟨H, 0, none⟩)] w fun e w' => ∃ S', e = .returned (.tuple #[]) ∧ Rg H s st (rStop (rDone b) true) w' S' ∧ GrowS S S' w w'
 resume : ∀ (w : World) (H : Nat) (S : Nat → Prop) (s : Sv) (st : Int) (b : Rd), Rg H s st b w S → Calls Tryz.prog 256 #[.pointer (some ⟨H, 0, none⟩)] w fun e w' => ∃ S', e = .returned (.tuple #[]) ∧ Rg H s st (rStop b false) w' S' ∧ GrowS S S' w w'
 reset : ∀ (w : World) (H : Nat) (S : Nat → Prop) (s : Sv) (st : Int) (b : Rd), Rg H s st b w S → Calls Tryz.prog 255 #[.pointer (some ⟨H, 0, none⟩)] w fun e w' => ∃ S', e = .returned (.tuple #[]) ∧ Rg H s st (rReset s.c b) w' S' ∧ GrowS S S' w w'
 due : ∀ (w : World) (H : Nat) (S : Nat → Prop) (s : Sv) (st : Int) (b : Rd), Rg H s st b w S → Calls Tryz.prog 253 #[.pointer (some ⟨H, 0, none⟩)] w fun e w' => e = .returned (.tuple #[.int .i64 (rDue s.t b), .bool (rUseOk b)]) ∧ Below w.heap.size w w'
end Go.Proofs.YtchbehnkkcjdgaaGreat
