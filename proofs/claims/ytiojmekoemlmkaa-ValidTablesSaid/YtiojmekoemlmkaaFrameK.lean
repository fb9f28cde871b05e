/- Walks of the document's table: how many ticks are open; which comes next. -/
import Derived.Test.YtiojmekoemlmkaaFrameJ
import Derived.Test.YtiojmekoemlmkaaFrameD
import Derived.Deep.CutRange
namespace Go.Proofs.Ytiojmekoemlmkaa
open Go.ChangeShapes Go.WideShapes Go.ChangeAt Go.RowKit
set_option linter.unusedVariables false

theorem cnt_yes {f : Int → Bool} {a : Int} {n : Nat} (h : f (a + n) = true) : cnt f a (n + 1) = cnt f a n + 1 := by
  show cnt f a n + _ = _
  rw [if_pos h]
theorem cnt_no {f : Int → Bool} {a : Int} {n : Nat} (h : f (a + n) = false) : cnt f a (n + 1) = cnt f a n := by
  show cnt f a n + _ = _
  rw [if_neg (by rw [h]; simp)]; rfl
section
variable {w : World} {lo hi g F : Nat} {m : Int} {la : Option Addr} {ln lc : Nat} {l : List Wn}
set_option maxRecDepth 100000 in
set_option maxHeartbeats 2000000 in
theorem rOffered_any (h : RTab w lo hi g F m la ln lc l) (hhi : hi ≤ w.heap.size) (p : Int) :
    Calls Try.prog 18 #[.pointer (some ⟨g, 0, none⟩), .int .i64 p] w fun e w' => e = .returned (.int .i64 (offeredV F m l p)) ∧ Below w.heap.size w w' := by
  have KS := Lib.hid (h.says hhi)
  have f2 := h.f2
  have CI := Lib.hid (fun (W : World) (t : Int) (t0 : -9223372036854775808 ≤ t) (t1 : t ≤ 9223372036854775807) (hb : Below w.heap.size w W) => rIs_any (h.keep hb hhi) (Nat.le_trans hhi hb.size) p t t0 t1)
  have HO : Hid (offeredV F m l p = cnt (isO F m l p) 0 F) := Lib.hid rfl
  generalize isO F m l p = f at CI HO
  have hgw : g < w.heap.size := by have := h.high; omega
  clear h
  go_enter Try.func18, Try.ntmps18
  go_wp2_with fail
  go_loopw [5, 6] (fun s i wr => ∃ (k c : Nat), k ≤ F ∧ c ≤ k ∧ i = .int .i64 k ∧ s = .int .i64 c ∧ Hid (c = cnt f 0 k) ∧ Below w.heap.size w wr) (fun _ i _ => F - (intOf i).toNat)
  case atStart => exact ⟨0, 0, by omega, by omega, rfl, rfl, Lib.hid rfl, Below.refl _ _⟩
  case round =>
    obtain ⟨k, c, hk, hc, rfl, rfl, HA, hb⟩ := hrel
    have KW := KS.out wr hb
    obtain ⟨_, d0, d1, d2⟩ := KW
    by_cases hlt : k < F
    · have tk : decide ((k : Int) < (F : Int)) = true := by simpa using hlt
      cases hf : f k with
      | true =>
        have HF := Lib.hid hf
        have HN : Hid (c + 1 = cnt f 0 (k + 1)) := Lib.hid (by rw [cnt_yes (by rw [Int.zero_add]; exact hf), ← HA.out])
        clear hf
        go_wp2_with (first | (go_at_call 39; refine (CI.out _ _ (by omega) (by omega) hb).mono ?_; rintro e w2 ⟨rfl, hb2⟩; rw [HF.out]))
        go_roundw
        case rel => exact ⟨k + 1, c + 1, by omega, by omega, by go_num, by go_num, HN, bel_then hb (Nat.le_refl _) hb2⟩
        case measure => simp [intOf]; omega
      | false =>
        have HF := Lib.hid hf
        have HN : Hid (c = cnt f 0 (k + 1)) := Lib.hid (by rw [cnt_no (by rw [Int.zero_add]; exact hf), ← HA.out])
        clear hf
        go_wp2_with (first | (go_at_call 39; refine (CI.out _ _ (by omega) (by omega) hb).mono ?_; rintro e w2 ⟨rfl, hb2⟩; rw [HF.out]))
        go_roundw
        case rel => exact ⟨k + 1, c, by omega, by omega, by go_num, by go_num, HN, bel_then hb (Nat.le_refl _) hb2⟩
        case measure => simp [intOf]; omega
    · have tk : decide ((k : Int) < (F : Int)) = false := by simp; omega
      have hkk : F = k := by omega
      have HE : Hid (offeredV F m l p = c) := Lib.hid (by rw [HO.out, HA.out, hkk])
      clear hkk
      go_wp2_with fail
      go_ret
      exact ⟨ret_i (by rw [HE.out]), hb⟩
end
end Go.Proofs.Ytiojmekoemlmkaa
