/- Bytes as strings; what must come of the zero system. -/
import Derived.Test.YtiombjkjoehjpaaImageR
import Derived.Test.YtiombjkjoehjpaaImageH
import Derived.Laws.BytesArg
namespace Go.Proofs.Ytiombjkjoehjpaa
open Go.ChangeShapes Go.WideShapes Go.ChangeAt Go.RowKit
set_option linter.unusedVariables false

theorem str_of {w : World} {lo hi : Nat} {a : Option Addr} {n cp : Nat} {l : List Int} (h : Lies w lo hi (.slice a n cp) n 1 (bts l)) (hn : l.length = n) :
    (convert 29 9 (.slice a n cp)).run Try.prog w = .ok (.string (strOfNums l)) w := by
  obtain ⟨a2, c2, e2, hl, h0, hc⟩ := h
  cases e2
  cases a with
  | none =>
    obtain ⟨rfl, rfl⟩ := h0 rfl
    have : l = [] := List.eq_nil_of_length_eq_zero hn
    subst this
    exact run_convert_bytes_nil w 29 5 Try.underlying29 Try.underlying5 0 0 9 Try.underlying9
  | some ad =>
    rcases hc with rfl | ⟨b, off, e, h1, h2, hc⟩
    · have : l = [] := List.eq_nil_of_length_eq_zero hn
      subst this
      rw [run_convert_bytes_string w 29 9 5 _ _ _ Try.underlying29 Try.underlying5 Try.underlying9]
      exact run_bytesToString w ad 0 cp [] (by simp [loadCells, loadCellsFrom])
    · cases e
      refine run_convert_bytes_arg w 29 5 Try.underlying29 Try.underlying5 b off n cp l hn (fun i hi => ?_) 9 Try.underlying9
      refine hc i _ ?_
      have : i < l.length := by omega
      simp [bts, this]
theorem num5_any (x : Int) (w : World) : Calls Try.prog 12 #[.int .i64 x] w fun e w' => e = .returned (.int .i64 x) ∧ w = w' := by
  go_enter Try.func12, Try.ntmps12
  go_wp2_with fail
  go_ret
  exact ⟨rfl, rfl⟩
theorem few_zero : Few zeroC := ⟨by simp [zeroC], by simp [zeroC], by simp [zeroC], by simp [zeroC]⟩
theorem mid_zero : Mid zeroC := ⟨by simp [zeroC], by simp [zeroC], by simp [zeroC], by simp [zeroC]⟩
theorem zero_enc : encV zeroC = ([80, 65, 82, 75, 0, 0, 0, 0, 0, 0, 0], 0) := by decide +kernel
theorem zero_dec : decW [80, 65, 82, 75, 0, 0, 0, 0, 0, 0, 0] = (zeroC, 0) := by
  have h : decV (encB (cfF zeroC)) = some zeroC := decV_enc zeroC (by decide +kernel)
  have e : encB (cfF zeroC) = [80, 65, 82, 75, 0, 0, 0, 0, 0, 0, 0] := by decide +kernel
  rw [e] at h
  exact decW_yes (by simp) h
theorem zero_bytes : Bytes [80, 65, 82, 75, 0, 0, 0, 0, 0, 0, 0] := by
  intro x hx
  simp at hx
  omega
set_option maxRecDepth 100000 in
set_option maxHeartbeats 2000000 in
theorem knows5_any (w : World) : Calls Try.prog 8 #[] w fun e w' => e = .returned (.bool true) ∧ Below w.heap.size w w' := by
  have HE : Hid (encV zeroC = ([80, 65, 82, 75, 0, 0, 0, 0, 0, 0, 0], 0)) := Lib.hid zero_enc
  have CE := Lib.hid (encode_sys (w := w) (hi := 0) mid_zero (sys_zero w 0) (Nat.zero_le _))
  go_enter Try.func8, Try.ntmps8
  go_wp2_with (first
    | (go_at_call 9
       refine CE.out.mono ?_
       rintro e w1 ⟨a, n, cp, rfl, hn, hl, hb⟩
       rw [HE.out] at hn hl
       rw [HE.out]
       have HL := Lib.hid hl
       have HN := Lib.hid hn
       have HB1 := Lib.hid hb
       clear hl hn hb)
    | (go_at_call 13
       refine (decode_sys a n cp _ _ _ [80, 65, 82, 75, 0, 0, 0, 0, 0, 0, 0] HN.out zero_bytes HL.out (Nat.le_refl _)).mono ?_
       rintro e w2 ⟨vs, wa, pa, ca, wc, pc, cc, rfl, hsys, hfew, hb⟩
       rw [zero_dec] at hsys
       rw [zero_dec]
       have HS2 := Lib.hid hsys
       have HB2 := Lib.hid (HB1.out.trans (hb.mono HB1.out.size))
       have cv : ∀ o : Obj, (convert 29 9 (.slice a n cp)).run Try.prog (w2.alloc o) = .ok (.string ⟨#[80, 65, 82, 75, 0, 0, 0, 0, 0, 0, 0]⟩) (w2.alloc o) := fun (o : Obj) => str_of (HL.out.keep (SameIn.of_below (hb.alloc hb.size o) (Nat.le_refl _))) HN.out
       clear hsys hb hfew)
    | (go_at_call 12; refine (num5_any _ _).mono ?_; rintro e3 w3 ⟨rfl, rfl⟩)
    | (go_at_call 17
       refine (same_sys (hi := w2.heap.size) few_zero (HS2.out.keep (SameIn.of_below (below1 _ _) (Nat.le_refl _))) (sys_zero _ _) (by simp)).mono ?_
       rintro e4 w4 ⟨rfl, hb4⟩
       rw [eqCf_refl]))
  go_ret
  exact ⟨rfl, (HB2.out.alloc (by have := HB2.out.size; omega) _).trans (hb4.mono (by have := HB2.out.size; simp; omega))⟩
end Go.Proofs.Ytiombjkjoehjpaa
