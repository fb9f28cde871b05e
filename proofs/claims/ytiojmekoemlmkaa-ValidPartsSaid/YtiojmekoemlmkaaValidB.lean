/- A look at so many things: each; its look, over what one thing is told of. -/
import Derived.Test.YtiojmekoemlmkaaValidA
namespace Go.Proofs.Ytiojmekoemlmkaa
open Go.ChangeShapes Go.WideShapes Go.ChangeAt Go.RowKit
set_option linter.unusedVariables false

/-- A look that is as it was made by each. -/
def EachAt (w : World) (lo hi : Nat) (v : Value) (n : Nat) (f : Value) : Prop :=
  ∃ b0 b1, v = .func (.func 62) #[] #[.pointer (some ⟨b0, 0, none⟩), .pointer (some ⟨b1, 0, none⟩)] ∧ (lo ≤ b0 ∧ b0 < hi) ∧ (lo ≤ b1 ∧ b1 < hi) ∧
    w.cell? ⟨b0, 0, none⟩ = some (.int .i64 n) ∧ w.cell? ⟨b1, 0, none⟩ = some f
theorem EachAt.keep {w w' : World} {lo hi : Nat} {v f : Value} {n : Nat} (h : EachAt w lo hi v n f) (hs : SameIn w w' lo hi) : EachAt w' lo hi v n f := by
  obtain ⟨b0, b1, e, ⟨l0, h0⟩, ⟨l1, h1⟩, c0, c1⟩ := h
  exact ⟨b0, b1, e, ⟨l0, h0⟩, ⟨l1, h1⟩, cell_same hs l0 h0 c0, cell_same hs l1 h1 c1⟩
theorem EachAt.wider {w : World} {lo hi lo' hi' : Nat} {v f : Value} {n : Nat} (h : EachAt w lo hi v n f) (h1 : lo' ≤ lo) (h2 : hi ≤ hi') : EachAt w lo' hi' v n f := by
  obtain ⟨b0, b1, e, g0, g1, c0, c1⟩ := h
  exact ⟨b0, b1, e, ⟨by omega, by omega⟩, ⟨by omega, by omega⟩, c0, c1⟩
theorem each_any (n : Nat) (g : Nat) (c : Array Value) (w : World) : Calls Try.prog 45 #[.int .i64 n, .func (.func g) #[] c] w fun e w' => ∃ v, e = .returned v ∧ EachAt w' w.heap.size w'.heap.size v n (.func (.func g) #[] c) ∧ Below w.heap.size w w' := by
  go_enter Try.func45, Try.ntmps45
  go_wp2
  go_ret
  refine ⟨_, rfl, ⟨w.heap.size, w.heap.size + 1, rfl, ⟨by omega, by simp; omega⟩, ⟨by omega, by simp⟩, ?_, ?_⟩, ?_⟩
  · exact cell_in (cs := #[.int .i64 n]) (t := 3) (by rw [heap_at, heap_at, if_neg (by simp), if_pos rfl]) rfl
  · exact cell_in (cs := #[.func (.func g) #[] c]) (t := 95) (by rw [heap_at, if_pos (by simp)]) rfl
  exact b_alloc (below1 _ _) (Nat.le_refl _) _
/-- Each told error, with its number. -/
def eachL : List Int → Nat → List (Int × Int)
  | [], _ => []
  | e :: l, i => (e, (i : Int)) :: eachL l (i + 1)
theorem eachL_at : ∀ {es : List Int} {i k : Nat}, (eachL es i)[k]? = es[k]?.map fun e => (e, ((i + k : Nat) : Int))
  | [], i, k => by simp [eachL]
  | e :: es, i, 0 => by simp [eachL]
  | e :: es, i, k + 1 => by
    unfold eachL
    rw [List.getElem?_cons_succ, List.getElem?_cons_succ, eachL_at, show i + 1 + k = i + (k + 1) by omega]
/-- What is told of so many things: what holds of the world ahead of each; each is told if those ahead of it were told nothing of. -/
structure Tells (I : Nat → World → Prop) (g : Nat) (c : Array Value) (b0 b1 n : Nat) (es : List Int) : Prop where
  len : es.length = n
  small : n ≤ 1000
  one : g = 46 ∨ g = 48 ∨ g = 51
  c0 : ∀ k W, I k W → W.cell? ⟨b0, 0, none⟩ = some (.int .i64 n)
  c1 : ∀ k W, I k W → W.cell? ⟨b1, 0, none⟩ = some (.func (.func g) #[] c)
  runs : ∀ (k : Nat) (r : Int), es[k]? = some r → (∀ (i : Nat) (x : Int), i < k → es[i]? = some x → x = 0) → ∀ W, I k W → Calls Try.prog g (#[.int .i64 k] ++ c) W fun e w' => e = .returned (.int .i64 r) ∧ I (k + 1) w'
set_option maxRecDepth 100000 in
set_option maxHeartbeats 2000000 in
theorem eachLook_any {I : Nat → World → Prop} {g : Nat} {c : Array Value} {b0 b1 n : Nat} {es : List Int} (h : Tells I g c b0 b1 n es) (w : World) (h0 : I 0 w) :
    Calls Try.prog 62 #[.pointer (some ⟨b0, 0, none⟩), .pointer (some ⟨b1, 0, none⟩)] w fun e w' => e = .returned (.tuple #[.int .i64 (fstV (eachL es 0)).1, .int .i64 (fstV (eachL es 0)).2]) ∧ ∃ k ≤ n, I k w' := by
  have HL := Lib.hid h
  have hsm := h.small
  have hone := h.one
  have y0 := h.c0 0 w h0
  clear h
  have HI0 := Lib.hid h0; clear h0
  rcases hone with rfl | rfl | rfl
  all_goals (
    go_enter Try.func62, Try.ntmps62
    go_wp2_with fail
    go_loopw [7] (fun i wr => ∃ k : Nat, k ≤ n ∧ i = .int .i64 k ∧ Hid (∀ (i : Nat) (x : Int), i < k → es[i]? = some x → x = 0) ∧ Hid (I k wr)) (fun i _ => n - (intOf i).toNat)
    case atStart => exact ⟨0, by omega, rfl, Lib.hid (fun i x hi => by omega), HI0⟩
    case round =>
      obtain ⟨k, hk, rfl, HA, HI⟩ := hrel
      by_cases hlt : k < n
      · have tk : decide ((k : Int) < (n : Int)) = true := by simpa using hlt
        have hc := HL.out.c1 k wr HI.out
        obtain ⟨r, hr⟩ : ∃ r, es[k]? = some r := ⟨_, List.getElem?_eq_getElem (by rw [HL.out.len]; exact hlt)⟩
        have CG := Lib.hid (HL.out.runs k r hr HA.out wr HI.out)
        have HR := Lib.hid hr; clear hr
        have l0 : (0 : Int) ≤ (k : Int) := by omega
        have l1 : (k : Int) < (n : Int) := by omega
        by_cases hz : r = 0
        · subst hz
          go_wp2_with fail
          refine CG.out.mono ?_
          rintro e w2 ⟨rfl, hi2⟩
          have HI2 := Lib.hid hi2; clear hi2
          go_wp2_with fail
          go_roundw
          case rel => exact ⟨k + 1, by omega, by go_num, Lib.hid (fun i x hi hx => by
            rcases Nat.lt_or_ge i k with g | g
            · exact HA.out i x g hx
            · have : i = k := by omega
              subst this; rw [HR.out] at hx; cases hx; rfl), HI2⟩
          case measure => simp [intOf]; omega
        · have t1 : decide (r = 0) = false := by simpa using hz
          have t2 : (r == 0) = false := by simpa using hz
          have HF : Hid (fstV (eachL es 0) = (r, (k : Int))) := Lib.hid (fstV_at (k := k) (fun i x hi hx => by
            rw [eachL_at] at hx
            obtain ⟨e, he, hx⟩ := Option.map_eq_some_iff.1 hx
            have := HA.out i e hi he
            subst this; subst hx; rfl) (by rw [eachL_at, HR.out]; simp) hz)
          go_wp2_with fail
          refine CG.out.mono ?_
          rintro e w2 ⟨rfl, hi2⟩
          have HI2 := Lib.hid hi2; clear hi2
          go_wp2_with fail
          go_ret2
          exact ⟨by rw [HF.out]; rfl, k + 1, by omega, HI2.out⟩
      · have tk : decide ((k : Int) < (n : Int)) = false := by simp; omega
        have hkn : k = n := by omega
        subst hkn
        have HF : Hid (fstV (eachL es 0) = (0, 0)) := Lib.hid (fstV_none fun i x hx => by
          rw [eachL_at] at hx
          obtain ⟨e, he, hx⟩ := Option.map_eq_some_iff.1 hx
          have := HA.out i e (by have := (List.getElem?_eq_some_iff.1 he).1; rw [HL.out.len] at this; exact this) he
          subst this; subst hx; rfl)
        go_wp2
        go_ret2
        exact ⟨by rw [HF.out]; rfl, k, Nat.le_refl _, HI.out⟩)
end Go.Proofs.Ytiojmekoemlmkaa
