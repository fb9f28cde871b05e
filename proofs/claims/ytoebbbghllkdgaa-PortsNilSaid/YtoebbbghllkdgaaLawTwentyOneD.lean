/- PortsNil. -/
import Derived.Test.YtoebbbghllkdgaaPortK
namespace Go.Proofs.Ytoebbbghllkdgaa
open Go.ChangeShapes Go.WideShapes Go.ChangeAt Go.RowKit
set_option linter.unusedVariables false

set_option maxRecDepth 100000 in
set_option maxHeartbeats 8000000 in
theorem PortsNil_walk (k p c v t : Int) (w : World) (hi : (⟨k, p, c, v, t⟩ : A5).In) : Calls Try.prog 6 #[.agg #[.int .i64 k, .int .i64 p, .int .i64 c, .int .i64 v, .int .i64 t]] w fun e w' => e = .returned (.bool true) ∧ Below w.heap.size w w' := by
  obtain ⟨V, hV⟩ : ∃ V, V = w.alloc (.cells #[.int .i64 k, .int .i64 p, .int .i64 c, .int .i64 v, .int .i64 t] 30) := ⟨_, rfl⟩
  obtain ⟨E, hE⟩ : ∃ E, E = w.heap.size := ⟨_, rfl⟩
  have hbV : Below w.heap.size w V := by rw [hV]; exact below1 _ _
  have hEV : V.heap[E]? = some (.cells #[.int .i64 k, .int .i64 p, .int .i64 c, .int .i64 v, .int .i64 t] 30 (0, 0)) := by rw [hV, hE]; exact heap_alloc_new _ _
  have k1 : V.cell? ⟨E, 1, none⟩ = some (.int .i64 p) := cell_in hEV rfl
  have k2 : V.cell? ⟨E, 2, none⟩ = some (.int .i64 c) := cell_in hEV rfl
  have k3 : V.cell? ⟨E, 3, none⟩ = some (.int .i64 v) := cell_in hEV rfl
  have k4 : V.cell? ⟨E, 4, none⟩ = some (.int .i64 t) := cell_in hEV rfl
  have HV := Lib.hid hV
  have HE := Lib.hid hE
  have HBV := Lib.hid hbV
  have HC := Lib.hid (pclear_nil V p)
  have HR := Lib.hid (pno_read V none p c t (Lib.hid (phas_nil V c)))
  have HW := Lib.hid (pno_write V none p c v t (Lib.hid (phas_nil V c)))
  have HA := Lib.hid (pno_wait V none c (Lib.hid (phas_nil V c)))
  have HK := Lib.hid (knows21_any V)
  clear hV hE hEV hbV hi
  go_enter Try.func6, Try.ntmps6
  go_upto_region 1 with fail
  rw [← HV.out, ← HE.out]
  go_wp2_with (first
    | (go_at_call 10; refine (num21_any _ _).mono ?_; rintro e w9 ⟨rfl, hw9⟩; rw [hw9]; clear hw9)
    | (go_at_call 15; refine HC.out.mono ?_; rintro e w9 ⟨rfl, hw9⟩; rw [hw9]; clear hw9)
    | (go_at_call 13; refine HR.out.mono ?_; rintro e w9 ⟨rfl, hw9⟩; rw [hw9]; clear hw9)
    | (go_at_call 11; refine HW.out.mono ?_; rintro e w9 ⟨rfl, hw9⟩; rw [hw9]; clear hw9)
    | (go_at_call 17; refine HA.out.mono ?_; rintro e w9 ⟨rfl, hw9⟩; rw [hw9]; clear hw9)
    | (go_at_call 7; refine HK.out.mono ?_; rintro e w5 ⟨rfl, hb5'⟩; have hb5 := Lib.hid hb5'; clear hb5')
    | fail "no arm")
  go_ret
  exact ⟨rfl, HBV.out.trans (hb5.out.mono HBV.out.size)⟩
end Go.Proofs.Ytoebbbghllkdgaa
