/- Who gets a tick: no system; what must come. -/
import Derived.Test.YtmkohnpdpcefgaaGschS
import Derived.Test.YtmkohnpdpcefgaaValidK
import Derived.Laws.StructEq
import Derived.Laws.OwnMore
namespace Go.Proofs.Ytmkohnpdpcefgaa
open Go.ChangeShapes Go.WideShapes Go.ChangeAt Go.RowKit
set_option linter.unusedVariables false
set_option linter.unusedSimpArgs false

/-- Two choices of three ints are the same. -/
def eqCho (x y : Int × Int × Int) : Bool := x.1 == y.1 && (x.2.1 == y.2.1 && x.2.2 == y.2.2)
theorem eqCho_self (x : Int × Int × Int) : eqCho x x = true := by simp [eqCho]
theorem eqInCho (x0 x1 x2 y0 y1 y2 : Int) (w : World) : (Op.equalIn 10000 54 (.agg #[.int .i64 x0, .int .i64 x1, .int .i64 x2]) (.agg #[.int .i64 y0, .int .i64 y1, .int .i64 y2])).run Try.prog w = .ok (eqCho (x0, x1, x2) (y0, y1, y2)) w := by
  have hp : Try.prog.stoodInHeld 54 = false := by kernel_rfl
  have ht : Try.prog.underlying 54 = some (.struct (Try.prog.fieldsOf 54)) := by simp [Program.fieldsOf, Try.underlying54]
  rw [show (10000 : Nat) = 9999 + 1 from rfl, run_equalIn_agg w 9999 _ _ _ ht hp]
  have rI := fun (a b : Int) => run_equalIn_int (P := Try.prog) w 9998 3 .i64 .i64 a b Try.underlying3
  by_cases h0 : x0 = y0 <;> by_cases h1 : x1 = y1 <;> by_cases h2 : x2 = y2 <;> simp [Op.eqFields, part, Program.fieldsOf, Try.underlying54, rI, eqCho, h0, h1, h2]
theorem eqInChoR (x0 x1 x2 y0 y1 y2 : Int) (w : World) : (Op.equalIn 10000 53 (.agg #[.int .i64 x0, .int .i64 x1, .int .i64 x2]) (.agg #[.int .i64 y0, .int .i64 y1, .int .i64 y2])).run Try.prog w = .ok (eqCho (x0, x1, x2) (y0, y1, y2)) w := by
  have hp : Try.prog.stoodInHeld 53 = false := by kernel_rfl
  have ht : Try.prog.underlying 53 = some (.struct (Try.prog.fieldsOf 53)) := by simp [Program.fieldsOf, Try.underlying53]
  rw [show (10000 : Nat) = 9999 + 1 from rfl, run_equalIn_agg w 9999 _ _ _ ht hp]
  have rI := fun (a b : Int) => run_equalIn_int (P := Try.prog) w 9998 3 .i64 .i64 a b Try.underlying3
  by_cases h0 : x0 = y0 <;> by_cases h1 : x1 = y1 <;> by_cases h2 : x2 = y2 <;> simp [Op.eqFields, part, Program.fieldsOf, Try.underlying53, rI, eqCho, h0, h1, h2]
/-! ### no system -/
/-- No system: none at all, or one that nobody made. -/
def NoSc (w : World) (v : Value) : Prop := v = .pointer none ∨ ∃ s, v = .pointer (some ⟨s, 0, none⟩) ∧ w.heap[s]? = some (.cells #[.pointer none] 62 (0, 0))
theorem NoSc.later {w w' : World} {v : Value} (h : NoSc w v) (hb : Below w.heap.size w w') : NoSc w' v := by
  rcases h with h | ⟨s, rfl, h⟩
  · exact .inl h
  · exact .inr ⟨s, rfl, (hb.block s (lt_of_block h)).trans h⟩
theorem nmade_any {w : World} {v : Value} (h : NoSc w v) : Calls Try.prog 23 #[v] w fun e w' => e = .returned (.bool false) ∧ Below w.heap.size w w' := by
  rcases h with rfl | ⟨s, rfl, h⟩
  · exact gmade_none w
  · exact gmade_zero s w (cell_in h rfl)
set_option maxRecDepth 100000 in
set_option maxHeartbeats 4000000 in
theorem nat24_any {w : World} {v : Value} (h : NoSc w v) (tick : Int) (ra : Option Addr) (rn rc : Nat) :
    Calls Try.prog 14 #[v, .int .i64 tick, .slice ra rn rc] w fun e w' => e = .returned (choA (4, -1, -1)) ∧ Below w.heap.size w w' := by
  obtain ⟨V, hV⟩ : ∃ V, V = w.alloc (.cells #[.int .i64 0, .int .i64 0, .int .i64 0] 54) := ⟨_, rfl⟩
  obtain ⟨E, hE⟩ : ∃ E, E = w.heap.size := ⟨_, rfl⟩
  have hbV : Below w.heap.size w V := by rw [hV]; exact below1 _ _
  have hEV : V.heap[E]? = some (.cells #[.int .i64 0, .int .i64 0, .int .i64 0] 54 (0, 0)) := by rw [hV, hE]; exact heap_alloc_new _ _
  have CM := Lib.hid (nmade_any (h.later hbV))
  have HV := Lib.hid hV
  have HE := Lib.hid hE
  have HBV := Lib.hid hbV
  have HEV := Lib.hid hEV
  have HVL := Lib.hid (lt_of_block hEV)
  clear hV hE hEV hbV
  rcases h with rfl | ⟨s, rfl, h⟩
  all_goals
    (try clear h
     go_enter Try.func14, Try.ntmps14
     go_upto_region 1 with fail
     rw [← HV.out, ← HE.out]
     go_wp2_with (first
       | (go_at_call 23; refine CM.out.mono ?_; rintro e w1 ⟨rfl, hb1⟩; have j1 := (hb1.block E HVL.out).trans HEV.out; have y0 := free_in j1 0; have y1 := free_in j1 1; have y2 := free_in j1 2; have z0 := cell_in j1 (j := 0) rfl; have z1 := cell_in j1 (j := 1) rfl; have z2 := cell_in j1 (j := 2) rfl; have K1 := Lib.hid j1; clear j1))
     have hX := set3g K1.out rfl (.int .i64 4) (.int .i64 (-1)) (.int .i64 (-1))
     refine bodyPost_ret (results_cell_row (P := Try.prog) rfl _ _ E _ _ (0, 0) _ rfl hX Try.underlying54 rfl Try.sizeCho) rfl ?_
     exact ⟨rfl, set3_below (HBV.out.trans (hb1.mono HBV.out.size)) (by rw [HE.out]; exact Nat.le_refl _) _ _ _⟩)
set_option maxRecDepth 100000 in
theorem nnext_any {w : World} {v : Value} (h : NoSc w v) (p tick : Int) :
    Calls Try.prog 12 #[v, .int .i64 p, .int .i64 tick] w fun e w' => e = .returned (.tuple #[.int .i64 0, .bool false]) ∧ Below w.heap.size w w' := by
  have CM := Lib.hid (nmade_any h)
  rcases h with rfl | ⟨s, rfl, h⟩
  all_goals
    (try clear h
     go_enter Try.func12, Try.ntmps12
     go_wp2_with (first | (go_at_call 23; refine CM.out.mono ?_; rintro e w1 ⟨rfl, hb1⟩))
     go_ret2
     exact ⟨rfl, hb1⟩)
set_option maxRecDepth 100000 in
theorem ndonees_any {w : World} {v : Value} (h : NoSc w v) (p : Int) :
    Calls Try.prog 11 #[v, .int .i64 p] w fun e w' => e = .returned (.slice none 0 0) ∧ Below w.heap.size w w' := by
  have CM := Lib.hid (nmade_any h)
  rcases h with rfl | ⟨s, rfl, h⟩
  all_goals
    (try clear h
     go_enter Try.func11, Try.ntmps11
     go_wp2_with (first | (go_at_call 23; refine CM.out.mono ?_; rintro e w1 ⟨rfl, hb1⟩))
     go_ret
     exact ⟨rfl, hb1⟩)
/-! ### what must come -/
def cK24 : Cf := ⟨4, 0, [⟨0, 2, 0⟩], [⟨[], [], [2, 1], 0, 0, 0⟩, noPt, noPt], []⟩
theorem cK24_few : Few cK24 := ⟨by decide, by decide, by decide, by intro p hp; simp [cK24] at hp; rcases hp with rfl | rfl <;> decide⟩
theorem cK24_ok : (checkV cK24).1 = 0 := by decide
theorem cK24_a : choV 4 cK24 [false, true, true] 0 = (1, 0, 2) := by decide
theorem cK24_b : choV 4 cK24 [true] 5 = (0, 0, 0) := by decide
theorem cK24_c : choV 4 cK24 [] 3 = (4, -1, -1) := by decide
theorem cK24_d : donV cK24.ps 0 = [2, 1] := by decide
theorem made3 : (madeCells (Value.agg #[.slice none 0 0, .slice none 0 0, .slice none 0 0, .int .u8 0, .int .u8 0, .int .u8 0]).cells (3 * 6)).toList = [noPv, noPv, noPv].flatMap Pv.cells := by kernel_rfl
end Go.Proofs.Ytmkohnpdpcefgaa
