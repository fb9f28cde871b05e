/- From a frame's value to Lies: bytes. -/
import Derived.Test.YtiombjkjoehjpaaConfR
import Derived.Test.YtiombjkjoehjpaaImageG
namespace Go.Proofs.Ytiombjkjoehjpaa
open Go.ChangeShapes Go.WideShapes Go.ChangeAt Go.RowKit
set_option linter.unusedVariables false
set_option maxRecDepth 100000

def byCells (x : Int) : List Value := [.int .u8 x]
theorem flat_bts : ∀ l : List Int, l.flatMap byCells = bts l
  | [] => rfl
  | x :: l => by rw [List.flatMap_cons, flat_bts l]; rfl
theorem Try.cU : Try.prog.cellsOf 5 = 1 := by kernel_rfl
section
variable {H : Type} {enc : TypeId × Value → H} {W : World} {spare : Nat → Bool} {held : Bool}
theorem reads_u8 : Reads enc Try.prog W spare held 5 byCells U8 := by
  intro n cs y h
  obtain ⟨x, rfl, hx⟩ := one_u8 h
  exact ⟨x, rfl, hx⟩
theorem bytes_of {a : Option Addr} {n c : Nat} {d : DataW H} {p : List MemPlace} (h : DataW.Trod enc Try.prog W 0 spare held 29 (.slice a n c) d p) :
    ∃ (l : List Int) (a' : Option Addr) (c' : Nat), Value.slice a n c = .slice a' l.length c' ∧ Lies W 0 W.heap.size (.slice a' l.length c') l.length 1 (bts l) ∧ Bytes l := by
  obtain ⟨fuel, hf⟩ := h
  obtain ⟨xs, a', c', e, l, hr⟩ := lies_of_trod Try.underlying29 Try.cU (by omega) (fun _ => rfl) reads_u8 (by first | exact hf | simpa [Value.cells] using hf)
  rw [flat_bts] at l
  exact ⟨xs, a', c', e, l, fun x hx => by obtain ⟨h1, h2⟩ := hr x hx; exact ⟨h1, by omega⟩⟩
end
end Go.Proofs.Ytiombjkjoehjpaa
