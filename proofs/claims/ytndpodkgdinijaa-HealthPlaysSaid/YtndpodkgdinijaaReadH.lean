/- A byte, and an array of three bytes, out of a frame. -/
import Derived.Test.YtndpodkgdinijaaRead
import Derived.Laws.IdiomArrays
namespace Go.Proofs.Ytndpodkgdinijaa
open Go.ChangeShapes Go.WideShapes Go.ChangeAt Go.RowKit
set_option linter.unusedVariables false
section
variable {H : Type} {enc : TypeId × Value → H} {W : World} {spare : Nat → Bool} {held : Bool}
theorem okWide_arr {P : Program} {w : World} {r : Reach} {base : Nat} {t e : TypeId} {v : Value} {n : Nat} (ht : P.underlying t = some (.array n e)) (h : Value.okWide P w r base t v) : ∃ cs, v = .agg cs ∧ cs.size = P.cellsOf t := by
  simp only [Value.okWide, ht] at h
  obtain ⟨cs, h1, h2, _⟩ := h
  exact ⟨cs, h1, h2⟩
theorem val_arr3 {r : Reach} {b0 : Nat} {v : Value} {d : DataW H} {p : List MemPlace} (hv : Value.okWide Try.prog W r b0 22 v) (h : DataW.Trod enc Try.prog W 0 spare held 22 v d p) :
    ∃ a b c, v = .agg #[.int .u8 a, .int .u8 b, .int .u8 c] ∧ U8 a ∧ U8 b ∧ U8 c := by
  obtain ⟨⟨cs⟩, rfl, hs⟩ := okWide_arr Try.underlying22 hv
  obtain ⟨n, hn⟩ := h
  have hl : cs.length = 3 := hs.trans (by kernel_rfl)
  match cs, hl with
  | [c0, c1, c2], _ =>
    obtain ⟨_, _, _, _, _, g0, g1, g2⟩ := trod_array3 Try.underlying22 Try.c8 (by simpa [Value.cells] using hn)
    obtain ⟨x0, e0, w0⟩ := one_u8 g0
    obtain ⟨x1, e1, w1⟩ := one_u8 g1
    obtain ⟨x2, e2, w2⟩ := one_u8 g2
    cases e0; cases e1; cases e2
    exact ⟨x0, x1, x2, rfl, w0, w1, w2⟩
end
end Go.Proofs.Ytndpodkgdinijaa
