/- The kinds' words, on both sides. -/
import Derived.Test.YtebjgfdkmociaaaDoorJrnM
import Derived.Deep.CutRange
import Derived.Deep.CutBlock
import Derived.OwnWalk
import Derived.RangeFuncOwn
namespace Go.Proofs.YtebjgfdkmociaaaDoor
open Go.ChangeShapes Go.WideShapes Go.ChangeAt Go.RowKit
set_option linter.unusedVariables false

def wordsJ : List (List UInt8) := [[97, 99, 99, 101, 112, 116], [114, 101, 102, 117, 115, 101], [97, 115, 107], [114, 97, 110], [101, 110, 100, 101, 100], [111, 118, 101, 114], [109, 105, 115, 115, 101, 100], [114, 111, 115, 101], [100, 114, 111, 112, 112, 101, 100], [102, 101, 108, 108], [115, 101, 114, 118, 101, 100], [111, 112], [102, 97, 117, 108, 116], [111, 114, 100, 101, 114], [109, 97, 114, 107]]
def wdS (j : Nat) : ByteArray := ⟨(wordsJ.getD j []).toArray⟩
def wordV (x : Int) : ByteArray := if x < 0 ∨ 15 ≤ x then ⟨#[]⟩ else wdS x.toNat
/-- The program's words are as start-up has laid them. -/
structure WdOk (w : World) : Prop where
  at_ : ∀ j, j < 15 → w.cell? ⟨0, j, none⟩ = some (.string (wdS j))
theorem WdOk.lt {w : World} (h : WdOk w) : 0 < w.heap.size := by
  obtain ⟨o, ho, _⟩ := cells_of_cell (h.at_ 0 (by decide))
  exact lt_of_block ho
theorem WdOk.same {w w' : World} (h : WdOk w) (hs : w'.heap[0]? = w.heap[0]?) : WdOk w' := ⟨fun j hj => (World.cell?_of_block (w := w) hs).trans (h.at_ j hj)⟩
theorem WdOk.later {w w' : World} (h : WdOk w) (hb : Below w.heap.size w w') : WdOk w' := h.same (hb.block _ h.lt)
set_option maxRecDepth 100000 in
set_option maxHeartbeats 8000000 in
theorem jword_any (x : Int) (w : World) (hT : WdOk w) : Calls Tryd.prog 18 #[.int .i64 x] w fun e w' => e = .returned (.string (wordV x)) ∧ Below w.heap.size w w' := by
  by_cases h0 : x < 0
  · have t0 : decide (x < 0) = true := decide_eq_true h0
    have HV : Hid (wordV x = ⟨#[]⟩) := Lib.hid (by unfold wordV; rw [if_pos (.inl h0)])
    go_enter Tryd.func18, Tryd.ntmps18
    go_wp2_with fail
    go_ret
    rw [HV.out]
    exact ⟨rfl, Below.refl _ _⟩
  have t0 : decide (x < 0) = false := decide_eq_false h0
  by_cases h1 : 15 ≤ x
  · have t1 : decide (15 ≤ x) = true := decide_eq_true h1
    have HV : Hid (wordV x = ⟨#[]⟩) := Lib.hid (by unfold wordV; rw [if_pos (.inr h1)])
    clear h0
    go_enter Tryd.func18, Tryd.ntmps18
    go_wp2_with fail
    go_ret
    rw [HV.out]
    exact ⟨rfl, Below.refl _ _⟩
  have t1 : decide (15 ≤ x) = false := decide_eq_false h1
  obtain ⟨k, rfl⟩ : ∃ k : Nat, x = (k : Int) := ⟨x.toNat, by omega⟩
  have hk : k < 15 := by omega
  have HV : Hid (wordV (k : Int) = wdS k) := Lib.hid (by unfold wordV; rw [if_neg (by omega)]; rfl)
  have c0 := hT.at_ k hk
  have l0 : (0 : Int) ≤ (k : Int) := by omega
  have l1 : (k : Int) < 15 := by omega
  clear h0 h1 hT
  go_enter Tryd.func18, Tryd.ntmps18
  go_wp2_with fail
  go_ret
  rw [HV.out]
  exact ⟨rfl, Below.refl _ _⟩
/-- The document's row of words. -/
def wordsR : Array Value := (wordsJ.map fun b => Value.string ⟨b.toArray⟩).toArray
theorem wordsR_at {k : Nat} (h : k < 15) : wordsR[k]? = some (.string (wdS k)) := by
  unfold wordsR wdS
  rw [List.getElem?_toArray, List.getElem?_map, List.getD_eq_getElem?_getD, List.getElem?_eq_getElem (by simpa [wordsJ] using h)]
  rfl
theorem wordsR_eq : wordsR = #[.string { data := #[97, 99, 99, 101, 112, 116] }, .string { data := #[114, 101, 102, 117, 115, 101] }, .string { data := #[97, 115, 107] }, .string { data := #[114, 97, 110] }, .string { data := #[101, 110, 100, 101, 100] }, .string { data := #[111, 118, 101, 114] }, .string { data := #[109, 105, 115, 115, 101, 100] }, .string { data := #[114, 111, 115, 101] }, .string { data := #[100, 114, 111, 112, 112, 101, 100] }, .string { data := #[102, 101, 108, 108] }, .string { data := #[115, 101, 114, 118, 101, 100] }, .string { data := #[111, 112] }, .string { data := #[102, 97, 117, 108, 116] }, .string { data := #[111, 114, 100, 101, 114] }, .string { data := #[109, 97, 114, 107] }] := rfl
set_option maxRecDepth 100000 in
set_option maxHeartbeats 8000000 in
theorem rword_any (x : Int) (w : World) : Calls Tryd.prog 19 #[.int .i64 x] w fun e w' => e = .returned (.string (wordV x)) ∧ Below w.heap.size w w' := by
  obtain ⟨V, hV⟩ : ∃ V, V = w.alloc (.cells wordsR 9) := ⟨_, rfl⟩
  obtain ⟨B, hB⟩ : ∃ B, B = w.heap.size := ⟨_, rfl⟩
  have HBV : Hid (Below w.heap.size w V) := Lib.hid (by rw [hV]; exact below1 _ _)
  have HVB : Hid (V.heap[B]? = some (.cells wordsR 9 (0, 0))) := Lib.hid (by rw [hV, hB]; exact heap_alloc_new _ _)
  have HV := Lib.hid hV
  have HB := Lib.hid hB
  clear hV hB
  by_cases h0 : x < 0
  · have t0 : decide (x < 0) = true := decide_eq_true h0
    have HW : Hid (wordV x = ⟨#[]⟩) := Lib.hid (by unfold wordV; rw [if_pos (.inl h0)])
    go_enter Tryd.func19, Tryd.ntmps19
    go_upto_region 2 with fail
    rw [← wordsR_eq, ← HV.out, ← HB.out]
    go_wp2_with fail
    go_ret
    rw [HW.out]
    exact ⟨rfl, HBV.out⟩
  have t0 : decide (x < 0) = false := decide_eq_false h0
  by_cases h1 : 15 ≤ x
  · have t1 : decide (15 ≤ x) = true := decide_eq_true h1
    have HW : Hid (wordV x = ⟨#[]⟩) := Lib.hid (by unfold wordV; rw [if_pos (.inr h1)])
    clear h0
    go_enter Tryd.func19, Tryd.ntmps19
    go_upto_region 2 with fail
    rw [← wordsR_eq, ← HV.out, ← HB.out]
    go_wp2_with fail
    go_ret
    rw [HW.out]
    exact ⟨rfl, HBV.out⟩
  have t1 : decide (15 ≤ x) = false := decide_eq_false h1
  obtain ⟨k, rfl⟩ : ∃ k : Nat, x = (k : Int) := ⟨x.toNat, by omega⟩
  have hk : k < 15 := by omega
  have HW : Hid (wordV (k : Int) = wdS k) := Lib.hid (by unfold wordV; rw [if_neg (by omega)]; rfl)
  have c0 : V.cell? ⟨B, k, none⟩ = some (.string (wdS k)) := cell_in HVB.out (wordsR_at hk)
  have l0 : (0 : Int) ≤ (k : Int) := by omega
  have l1 : (k : Int) < 15 := by omega
  clear h0 h1
  go_enter Tryd.func19, Tryd.ntmps19
  go_upto_region 2 with fail
  rw [← wordsR_eq, ← HV.out, ← HB.out]
  go_wp2_with fail
  go_ret
  rw [HW.out]
  exact ⟨rfl, HBV.out⟩
end Go.Proofs.YtebjgfdkmociaaaDoor
