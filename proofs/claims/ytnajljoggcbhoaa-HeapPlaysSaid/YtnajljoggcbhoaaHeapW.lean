/- ids; both heaps at once. -/
import Derived.Test.YtnajljoggcbhoaaHeapV
import Derived.Test.YtnajljoggcbhoaaRead
import Derived.Deep.CutRange
import Derived.Deep.CutBlock
namespace Go.Proofs.Ytnajljoggcbhoaa
open Go.ChangeShapes Go.WideShapes Go.ChangeAt Go.RowKit
set_option linter.unusedVariables false

set_option maxRecDepth 100000 in
set_option maxHeartbeats 4000000 in
theorem ids_any (w : World) (G n : Nat) (y : Nat → Int) (hw : WherAt w G n y) (lo : Nat) (R : List En) (ao : Option Addr) (cap : Nat) (hr : RowR w lo R ao cap) (hn : n = R.length) (hsm : n ≤ 1024) (hy : ∀ i (hi : i < R.length), y i = ((R[i]).1 : Nat)) :
    Calls Try.prog 23 #[.slice (some ⟨G, 0, none⟩) n n, .slice ao n cap] w fun e w' => e = .returned (.bool true) ∧ Below w.heap.size w w' := by
  have KC : Hid (∀ Y, Below w.heap.size w Y → ∀ k, k < n → ∃ b off v, ao = some ⟨b, off, none⟩ ∧ Y.cell? ⟨G, k, none⟩ = some (.int .i64 v) ∧ Y.cell? ⟨b, off + k * 2, none⟩ = some (.int .i64 v)) := Lib.hid (fun Y hY k hk => by
    have h1 := ((hw.same (hY.block G hw.lt)).at_ hk).1
    have h2 := hr.keep (SameIn.of_below hY (Nat.le_refl _)) hY.size
    rcases h2 with ⟨_, h0, _⟩ | ⟨b, off, rfl, _, _, _, hc⟩
    · rw [hn, h0] at hk; exact absurd hk (Nat.not_lt_zero _)
    · have hkR : k < R.length := by omega
      rw [hy k hkR] at h1
      exact ⟨b, off, _, rfl, h1, (hc k hkR).1⟩)
  clear hw hr hn hy
  go_enter Try.func23, Try.ntmps23
  go_wp2_with fail
  go_loopw [5] (fun s wr => ∃ k : Nat, k ≤ n ∧ s = .int .i64 k ∧ Hid (Below w.heap.size w wr)) (fun s _ => n - (intOf s).toNat)
  case atStart => exact ⟨0, Nat.zero_le _, rfl, Lib.hid (Below.refl _ _)⟩
  case round =>
    obtain ⟨k, hk, rfl, HB⟩ := hrel
    by_cases hlt : k < n
    · have l0 : decide ((k : Int) < (n : Int)) = true := decide_eq_true (by omega)
      have l1 : (0 : Int) ≤ (k : Int) := by omega
      have l2 : (k : Int) < (n : Int) := by omega
      obtain ⟨b, off, v, rfl, q0, q1⟩ := KC.out wr HB.out k hlt
      go_wp2_with fail
      go_region
      go_wp2_with fail
      go_roundw
      case rel => exact ⟨k + 1, by omega, by go_num, Lib.hid HB.out.drew⟩
      case measure => simp [intOf]; omega
    · have l0 : decide ((k : Int) < (n : Int)) = false := decide_eq_false (by omega)
      go_wp2_with fail
      go_ret
      exact ⟨rfl, HB.out⟩
theorem HpD.small {w : World} {lo hi H W X room n : Nat} {D : Nat → Option Int} (h : HpD w lo hi H W X room n D) : n ≤ room ∧ room ≤ 1024 := by
  obtain ⟨f, x, h1, h2, _⟩ := h
  exact ⟨h2.le, h1.small⟩
theorem lenD_any (w : World) (lo hi H W X room n : Nat) (D : Nat → Option Int) (h : HpD w lo hi H W X room n D) :
    Calls Try.prog 22 #[.pointer (some ⟨H, 0, none⟩)] w fun e w' => e = .returned (.int .i64 (n : Nat)) ∧ w' = w := by
  obtain ⟨f, x, h1, _⟩ := h
  exact hlen_any w lo hi H W X room n f x h1
theorem allD_any (w : World) (lo hi H W X room n : Nat) (D : Nat → Option Int) (R : List En) (h : HpD w lo hi H W X room n D) (hR : Rep R D) :
    Calls Try.prog 24 #[.pointer (some ⟨H, 0, none⟩)] w fun e w' => ∃ G y, e = .returned (.slice (some ⟨G, 0, none⟩) n n) ∧ w.heap.size ≤ G ∧ WherAt w' G n y ∧ (∀ i (hi : i < R.length), y i = ((R[i]).1 : Nat)) ∧ Below w.heap.size w w' := by
  obtain ⟨f, x, h1, h2, _⟩ := h
  exact hall_any w lo hi H W X room n f x D R h1 h2 hR
theorem firstD_any (w : World) (lo hi H W X room n : Nat) (D : Nat → Option Int) (R : List En) (h : HpD w lo hi H W X room n D) (hR : Rep R D) :
    Calls Try.prog 18 #[.pointer (some ⟨H, 0, none⟩)] w fun e w' => e = .returned (fstV R) ∧ Below w.heap.size w w' := by
  obtain ⟨f, x, h1, h2, h3⟩ := h
  exact hfirst_any w lo hi H W X room n f x D R h1 h2 h3 hR
theorem fstV_eq (R : List En) : ∃ (a b : Int) (c : Bool), fstV R = .tuple #[.int .i64 a, .int .i64 b, .bool c] := by
  rcases R with _ | ⟨e, R⟩
  · exact ⟨_, _, _, rfl⟩
  · exact ⟨_, _, _, rfl⟩
/-- Both heaps hold the same. -/
structure Two (Y : World) (lo hi H W X room rb : Nat) (D : Nat → Option Int) (R : List En) : Prop where
  h : HpD Y lo hi H W X room R.length D
  r : RHp Y rb room R
  rep : Rep R D
  rng : hi ≤ rb
theorem Two.later {Y Y' : World} {lo hi H W X room rb : Nat} {D : Nat → Option Int} {R : List En} (t : Two Y lo hi H W X room rb D R) (hb : Below Y.heap.size Y Y') : Two Y' lo hi H W X room rb D R := ⟨t.h.later hb, t.r.later hb, t.rep, t.rng⟩
theorem Two.len {Y : World} {lo hi H W X room rb : Nat} {D : Nat → Option Int} {R : List En} (t : Two Y lo hi H W X room rb D R) : R.length ≤ 1024 := by have := t.h.small; omega
theorem Two.mv {Y Y' : World} {lo hi H W X room rb : Nat} {D : Nat → Option Int} {R : List En} (t : Two Y lo hi H W X room rb D R) (m : Mv lo hi Y Y') : RHp Y' rb room R := t.r.keep (fun b h1 h2 => m.above b (by have := t.rng; omega) h2) m.below.size
theorem Two.made {Y' Y'' : World} {lo hi H W X room rb n' : Nat} {D' : Nat → Option Int} {R' : List En} (h1 : HpD Y' lo hi H W X room n' D') (h2 : RHp Y'' rb room R') (h3 : Rep R' D') (hb : But rb Y' Y'') (hr : hi ≤ rb) : Two Y'' lo hi H W X room rb D' R' := by
  have h4 := h1.keep (w' := Y'') (hb.same (.inr hr) h1.lo.2) hb.size
  rw [h4.rep h3] at h4
  exact ⟨h4, h2, h3, hr⟩
theorem acts_read {w : World} {a : Option Addr} {n c : Nat} {l : List Wn} (hn : l.length = n) (hl : Lies w 0 w.heap.size (.slice a n c) n 3 (l.flatMap Wn.cells)) : ∀ Y, Below w.heap.size w Y → ∀ i, i < n → ∃ b off k d e, a = some ⟨b, off, none⟩ ∧ Y.cell? ⟨b, off + i * 3, none⟩ = some (.int .i64 k) ∧ Y.cell? ⟨b, off + i * 3 + 1, none⟩ = some (.int .i64 d) ∧ Y.cell? ⟨b, off + i * 3 + 2, none⟩ = some (.int .i64 e) ∧ b < w.heap.size := by
  intro Y hY i hi
  obtain ⟨a', c', e, _, _, hc⟩ := hl.keep (SameIn.of_below hY (Nat.le_refl _))
  cases e
  rcases hc with h0 | ⟨b, off, rfl, _, hb, hc⟩
  · omega
  · have hx : l[i]? = some l[i] := List.getElem?_eq_getElem (by omega)
    have f0 := hc _ _ (flat_at Wn.cells 3 (fun _ => rfl) l i 0 _ hx (by omega))
    have f1 := hc _ _ (flat_at Wn.cells 3 (fun _ => rfl) l i 1 _ hx (by omega))
    have f2 := hc _ _ (flat_at Wn.cells 3 (fun _ => rfl) l i 2 _ hx (by omega))
    exact ⟨b, off, _, _, _, rfl, f0, f1, f2, hb⟩
set_option maxRecDepth 100000 in
set_option maxHeartbeats 4000000 in
theorem HeapPlays_big (room : Int) (a0 : Option Addr) (n0 c0 : Nat) (w : World) (h : 150 < n0) :
    Calls Try.prog 3 #[.int .i64 room, .slice a0 n0 c0] w fun e w' => e = .returned (.bool true) ∧ Below w.heap.size w w' := by
  have HK := Lib.hid (knows12_any w)
  have t0 : decide ((150 : Int) < (n0 : Int)) = true := decide_eq_true (by omega)
  clear h
  go_enter Try.func3, Try.ntmps3
  go_wp2_with (go_at_call 6; refine HK.out.mono ?_; rintro e w3 ⟨rfl, hb3⟩)
  go_ret
  exact ⟨rfl, hb3⟩
end Go.Proofs.Ytnajljoggcbhoaa
