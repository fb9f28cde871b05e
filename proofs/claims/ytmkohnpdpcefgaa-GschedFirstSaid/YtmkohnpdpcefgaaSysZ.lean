/- Systems as large as may be: the walk over a whole system that came in, of any size. -/
import Derived.Test.YtmkohnpdpcefgaaSys
namespace Go.Proofs.Ytmkohnpdpcefgaa
open Go.ChangeShapes Go.WideShapes Go.ChangeAt Go.RowKit
set_option linter.unusedVariables false

/-- What came in takes no more bytes than any thing may. -/
def Wide (c : Cf) : Prop := c.ws.length * 24 ≤ 140737488355328 ∧ c.ps.length * 80 ≤ 140737488355328 ∧ c.cs.length * 32 ≤ 140737488355328 ∧ ∀ p ∈ c.ps, p.ts.length * 48 ≤ 140737488355328 ∧ p.ss.length * 24 ≤ 140737488355328 ∧ p.ds.length * 8 ≤ 140737488355328
theorem config_wide_sys {w : World} {hi : Nat} {c : Cf} {pvs : List Pv} {wa pa ca : Option Addr} {wc pc cc : Nat} (f : Wide c) (h : SysL w hi c pvs wa pa ca wc pc cc) (hh : hi ≤ w.heap.size) :
    Calls Try.prog 9 #[.agg #[.int .i64 c.frame, .int .i64 c.margin, .slice wa c.ws.length wc, .slice pa c.ps.length pc, .slice ca c.cs.length cc]] w fun e w' => ∃ vs i1 i2 i3 j1 j2 j3, e = .returned (.agg #[.int .i64 c.frame, .int .i64 c.margin, .slice i1 c.ws.length j1, .slice i2 c.ps.length j2, .slice i3 c.cs.length j3]) ∧ SysL w' w'.heap.size c vs i1 i2 i3 j1 j2 j3 ∧ Below w.heap.size w w' := by
  obtain ⟨f1, f2, f3, f4⟩ := f
  refine (config_wide c.frame c.margin wa pa ca _ wc _ pc _ cc w 0 hi c pvs rfl rfl rfl h.l1 h.l2 h.l3 h.l4 hh f1 f2 f3 f4).mono ?_
  rintro e w' ⟨wa', wc', pa', pc', ca', cc', vs', rfl, o1, o2, o3, o4, hb⟩
  exact ⟨vs', wa', pa', ca', wc', pc', cc', rfl, ⟨(Lies.of_owns o1).wider (Nat.zero_le _) (Nat.le_refl _), (Lies.of_owns o2).wider (Nat.zero_le _) (Nat.le_refl _), o3.lies.wider (Nat.zero_le _) (Nat.le_refl _), (Lies.of_owns o4).wider (Nat.zero_le _) (Nat.le_refl _)⟩, hb⟩
end Go.Proofs.Ytmkohnpdpcefgaa
