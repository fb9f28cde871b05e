/- What must come of a check. -/
import Derived.Test.YtmkohnpdpcefgaaValidR
import Derived.Test.YtmkohnpdpcefgaaValidS
namespace Go.Proofs.Ytmkohnpdpcefgaa
open Go.ChangeShapes Go.WideShapes Go.ChangeAt Go.RowKit
set_option linter.unusedVariables false

theorem check_any (fr mg : Int) (wa pa ca : Option Addr) (wn wc pn pc cn cc : Nat) (w : World) (hi : Nat) (c : Cf) (pvs : List Pv) (hfr : c.frame = fr) (hmg : c.margin = mg) (hwn : c.ws.length = wn) (hpn : c.ps.length = pn) (hcn : c.cs.length = cn) (f : Few c) (h : SysL w hi c pvs wa pa ca wc pc cc) (hh : hi ≤ w.heap.size) (hin : ∀ x ∈ c.ws, x.In) (r1 r2 : Int) (hr : checkV c = (r1, r2)) :
    Calls Try.prog 31 #[.agg #[.int .i64 fr, .int .i64 mg, .slice wa wn wc, .slice pa pn pc, .slice ca cn cc]] w fun e w' => e = .returned (.tuple #[.int .i64 r1, .int .i64 r2]) ∧ Below w.heap.size w w' := by
  subst hfr; subst hmg; subst hwn; subst hpn; subst hcn
  refine (check_sys f h hh hin).mono ?_
  rintro e w' ⟨rfl, hb⟩
  rw [hr]
  exact ⟨rfl, hb⟩
def noPv : Pv := ⟨.slice none 0 0, .slice none 0 0, .slice none 0 0, 0, 0, 0⟩
theorem lies_nil (w : World) (hi sz : Nat) : Lies w 0 hi (.slice none 0 0) 0 sz [] := ⟨none, 0, rfl, by simp, fun _ => ⟨rfl, rfl⟩, .inl rfl⟩
theorem noPt_lies (w : World) (hi : Nat) : PtLies w 0 hi noPv noPt := ⟨lies_nil _ _ _, lies_nil _ _ _, lies_nil _ _ _, rfl, rfl, rfl⟩
theorem noPts_lie (w : World) (hi : Nat) : ∀ n, AllLie w 0 hi (List.replicate n noPv) (List.replicate n noPt)
  | 0 => .nil
  | n + 1 => .cons (noPt_lies w hi) (noPts_lie w hi n)
def sysA : Cf := ⟨0, 0, [], [], []⟩
def sysB : Cf := ⟨9, 0, [⟨0, 2, 0⟩, ⟨1, 2, 0⟩], [noPt], []⟩
def sysC : Cf := ⟨9, 0, [], [noPt, noPt], []⟩
theorem checkA : checkV sysA = (20, 0) := by decide
theorem checkB : checkV sysB = (21, 1) := by decide
theorem checkC : checkV sysC = (0, 0) := by decide
theorem fewA : Few sysA := ⟨by decide, by decide, by decide, by intro p hp; cases hp⟩
theorem fewB' : Few sysB := ⟨by decide, by decide, by decide, by intro p hp; simp [sysB] at hp; subst hp; decide⟩
theorem fewC : Few sysC := ⟨by decide, by decide, by decide, by intro p hp; simp [sysC] at hp; subst hp; decide⟩
theorem row_lies {w : World} {b n sz : Nat} {cs : Array Value} {t : TypeId} (h : w.heap[b]? = some (.cells cs t (0, 0))) (hs : cs.size = n * sz) : Lies w 0 w.heap.size (.slice (some ⟨b, 0, none⟩) n n) n sz cs.toList :=
  ⟨_, _, rfl, by simpa using hs, (fun e => by cases e), .inr ⟨b, 0, rfl, Nat.zero_le _, lt_of_block h, fun k u hu => cell_in h (by rw [Nat.zero_add]; simpa using hu)⟩⟩
theorem made1 : (madeCells (Value.agg #[.slice none 0 0, .slice none 0 0, .slice none 0 0, .int .u8 0, .int .u8 0, .int .u8 0]).cells (1 * 6)).toList = [noPv].flatMap Pv.cells := by kernel_rfl
theorem made2 : (madeCells (Value.agg #[.slice none 0 0, .slice none 0 0, .slice none 0 0, .int .u8 0, .int .u8 0, .int .u8 0]).cells (2 * 6)).toList = [noPv, noPv].flatMap Pv.cells := by kernel_rfl
end Go.Proofs.Ytmkohnpdpcefgaa
