/- A system that lies in memory: what is told of it by one word; the walks over whole systems, told so. -/
import Derived.Test.YtiojmekoemlmkaaConfI
import Derived.Test.YtiojmekoemlmkaaConfK
import Derived.Test.YtiojmekoemlmkaaConfL
import Derived.Test.YtiojmekoemlmkaaCloneB
namespace Go.Proofs.Ytiojmekoemlmkaa
open Go.ChangeShapes Go.WideShapes Go.ChangeAt Go.RowKit
set_option linter.unusedVariables false

theorem bel_go2 {V W w1 : World} (h : Below V.heap.size V W) (k : Below W.heap.size W w1) : Below V.heap.size V w1 := h.trans (k.mono h.size)
structure SysL (w : World) (hi : Nat) (c : Cf) (pvs : List Pv) (wa pa ca : Option Addr) (wc pc cc : Nat) : Prop where
  l1 : Lies w 0 hi (.slice wa c.ws.length wc) c.ws.length 3 (c.ws.flatMap Wn.cells)
  l2 : Lies w 0 hi (.slice pa c.ps.length pc) c.ps.length 6 (pvs.flatMap Pv.cells)
  l3 : AllLie w 0 hi pvs c.ps
  l4 : Lies w 0 hi (.slice ca c.cs.length cc) c.cs.length 4 (c.cs.flatMap Ch.cells)
theorem SysL.keep {w w' : World} {hi : Nat} {c : Cf} {pvs : List Pv} {wa pa ca : Option Addr} {wc pc cc : Nat} (h : SysL w hi c pvs wa pa ca wc pc cc) (hs : SameIn w w' 0 hi) : SysL w' hi c pvs wa pa ca wc pc cc := ⟨h.l1.keep hs, h.l2.keep hs, h.l3.keep hs, h.l4.keep hs⟩
theorem SysL.wider {w : World} {hi hi' : Nat} {c : Cf} {pvs : List Pv} {wa pa ca : Option Addr} {wc pc cc : Nat} (h : SysL w hi c pvs wa pa ca wc pc cc) (hh : hi ≤ hi') : SysL w hi' c pvs wa pa ca wc pc cc := ⟨h.l1.wider (Nat.le_refl _) hh, h.l2.wider (Nat.le_refl _) hh, h.l3.wider (Nat.le_refl _) hh, h.l4.wider (Nat.le_refl _) hh⟩
/-- Few enough of all. -/
def Few (c : Cf) : Prop := c.ws.length ≤ 1000 ∧ c.ps.length ≤ 1000 ∧ c.cs.length ≤ 1000 ∧ ∀ p ∈ c.ps, p.ts.length ≤ 1000 ∧ p.ss.length ≤ 1000 ∧ p.ds.length ≤ 1000
theorem light_bounds {c : Cf} (h : lightB c = true) : Few c := by
  obtain ⟨h1, h2, h3, h4⟩ := lightB_true h
  exact ⟨by omega, by omega, by omega, fun p hp => by have := h4 p hp; omega⟩
theorem config_sys {w : World} {hi : Nat} {c : Cf} {pvs : List Pv} {wa pa ca : Option Addr} {wc pc cc : Nat} (f : Few c) (h : SysL w hi c pvs wa pa ca wc pc cc) (hh : hi ≤ w.heap.size) :
    Calls Try.prog 9 #[.agg #[.int .i64 c.frame, .int .i64 c.margin, .slice wa c.ws.length wc, .slice pa c.ps.length pc, .slice ca c.cs.length cc]] w fun e w' => ∃ vs i1 i2 i3 j1 j2 j3, e = .returned (.agg #[.int .i64 c.frame, .int .i64 c.margin, .slice i1 c.ws.length j1, .slice i2 c.ps.length j2, .slice i3 c.cs.length j3]) ∧ SysL w' w'.heap.size c vs i1 i2 i3 j1 j2 j3 ∧ Below w.heap.size w w' := by
  obtain ⟨f1, f2, f3, f4⟩ := f
  refine (config_any c.frame c.margin wa pa ca _ wc _ pc _ cc w 0 hi c pvs rfl rfl rfl h.l1 h.l2 h.l3 h.l4 hh f1 f2 f3 f4).mono ?_
  rintro e w' ⟨wa', wc', pa', pc', ca', cc', vs', rfl, o1, o2, o3, o4, hb⟩
  exact ⟨vs', wa', pa', ca', wc', pc', cc', rfl, ⟨(Lies.of_owns o1).wider (Nat.zero_le _) (Nat.le_refl _), (Lies.of_owns o2).wider (Nat.zero_le _) (Nat.le_refl _), o3.lies.wider (Nat.zero_le _) (Nat.le_refl _), (Lies.of_owns o4).wider (Nat.zero_le _) (Nat.le_refl _)⟩, hb⟩
theorem clone_sys {w : World} {hi : Nat} {c : Cf} {pvs : List Pv} {wa pa ca : Option Addr} {wc pc cc : Nat} (f : Few c) (h : SysL w hi c pvs wa pa ca wc pc cc) (hh : hi ≤ w.heap.size) :
    Calls Try.prog 19 #[.agg #[.int .i64 c.frame, .int .i64 c.margin, .slice wa c.ws.length wc, .slice pa c.ps.length pc, .slice ca c.cs.length cc]] w fun e w' => ∃ vs i1 i2 i3 j1 j2 j3, e = .returned (.agg #[.int .i64 c.frame, .int .i64 c.margin, .slice i1 c.ws.length j1, .slice i2 c.ps.length j2, .slice i3 c.cs.length j3]) ∧ SysL w' w'.heap.size c vs i1 i2 i3 j1 j2 j3 ∧ Below w.heap.size w w' := by
  obtain ⟨f1, f2, f3, f4⟩ := f
  refine (clone_any c.frame c.margin wa pa ca _ wc _ pc _ cc w 0 hi c pvs rfl rfl rfl h.l1 h.l2 h.l3 h.l4 hh f1 f2 f3 f4).mono ?_
  rintro e w' ⟨wa', wc', pa', pc', ca', cc', vs', rfl, o1, o2, o3, o4, hb⟩
  exact ⟨vs', wa', pa', ca', wc', pc', cc', rfl, ⟨(Lies.of_owns o1).wider (Nat.zero_le _) (Nat.le_refl _), (Lies.of_owns o2).wider (Nat.zero_le _) (Nat.le_refl _), o3.lies.wider (Nat.zero_le _) (Nat.le_refl _), (Lies.of_owns o4).wider (Nat.zero_le _) (Nat.le_refl _)⟩, hb⟩
end Go.Proofs.Ytiojmekoemlmkaa
