/- The eight looks of a check, one behind the other. -/
import Derived.Test.YtiojmekoemlmkaaValidF
namespace Go.Proofs.Ytiojmekoemlmkaa
open Go.ChangeShapes Go.WideShapes Go.ChangeAt Go.RowKit
set_option linter.unusedVariables false

theorem mustV_zero {well : Bool} {e k : Int} (h : (mustV well e k).1 = 0) (he : e ≠ 0) : well = true := by
  cases well
  · exact absurd h he
  · rfl
/-- The eight looks, as they were made: each in its own blocks. -/
structure Eight (W : World) (B be : Nat) (v1 v2 v3 v4 v5 v6 v7 v8 : Value) (c : Cf) (wa pa ca : Option Addr) (wc pc cc : Nat) : Prop where
  low : B ≤ be
  high : be < W.heap.size
  m1 : MustAt W B be v1 (inB c.frame 1 256) 20 0
  m2 : MustAt W B be v2 (inB c.margin 0 8) 20 0
  m3 : MustAt W B be v3 (inB (c.ps.length : Int) 1 6) 1 0
  m4 : MustAt W B be v4 (decide ((c.ws.length : Int) ≤ 32)) 21 32
  m5 : WinAt W B W.heap.size be v5 c.frame c.margin wa c.ws.length wc pa c.ps.length pc ca c.cs.length cc
  m6 : partAt W (be + 1) W.heap.size v6 c.frame c.margin wa c.ws.length wc pa c.ps.length pc ca c.cs.length cc
  m7 : MustAt W (be + 1) W.heap.size v7 (decide ((c.cs.length : Int) ≤ 8)) 25 8
  m8 : chanAt W (be + 1) W.heap.size v8 c.frame c.margin wa c.ws.length wc pa c.ps.length pc ca c.cs.length cc
theorem one_of {x y : Value} {n : Nat} {a : Array Value} (h : a[n]? = some x) (k : a[n]? = some y) : x = y := by rw [h] at k; cases k; rfl
theorem Finds.go {w : World} {v : Value} {r : Int × Int} {K K' : World → Prop} (h : Finds w v r K) (hk : ∀ w', K w' → K' w') : Finds w v r K' := by
  obtain ⟨g, c, e, hg, hc⟩ := h
  exact ⟨g, c, e, hg, hc.mono fun e w' h => ⟨h.1, hk w' h.2⟩⟩
theorem eight_first {W X : World} {B be g : Nat} {T : TypeId} {v1 v2 v3 v4 v5 v6 v7 v8 : Value} {c : Cf} {wa pa ca : Option Addr} {wc pc cc : Nat} (h : Eight W B be v1 v2 v3 v4 v5 v6 v7 v8 c wa pa ca wc pc cc) (hX : Below W.heap.size W X)
    (hg : X.heap[g]? = some (.cells #[v1, v2, v3, v4, v5, v6, v7, v8] T (0, 0))) (hgW : W.heap.size ≤ g) {hi : Nat} {pvs : List Pv} (f : Few c) (hS : SysL W hi c pvs wa pa ca wc pc cc) (hhi : hi ≤ B) (hin : ∀ x ∈ c.ws, x.In) :
    Calls Try.prog 21 #[.slice (some ⟨g, 0, none⟩) 8 8] X fun e w' => e = .returned (.tuple #[.int .i64 (checkV c).1, .int .i64 (checkV c).2]) ∧ Below B X w' := by
  have hgl := lt_of_block hg
  have hlow := h.low
  have hhigh := h.high
  have hXs := hX.size
  rw [← tellsV_check]
  obtain ⟨f1, f2, f3, f4⟩ := f
  have keep : ∀ W', But be X W' → ∀ lo hi', (be < lo ∨ hi' ≤ be) → hi' ≤ W.heap.size → SameIn W W' lo hi' := fun W' hb lo hi' h1 h2 =>
    (SameIn.of_below hX h2).trans (hb.same h1 (by omega))
  refine (first_any (I := fun k W' => (k ≤ 4 → Below X.heap.size X W') ∧ But be X W') (rs := tellsV c) ?_ X ⟨fun _ => Below.refl _ _, But.refl _ _⟩).mono ?_
  · refine ⟨rfl, by omega, ?_, ?_⟩
    · intro k W' hI hk
      have hb := (hI.2.block g hgl (by omega)).trans hg
      obtain ⟨v, hv⟩ : ∃ v, (#[v1, v2, v3, v4, v5, v6, v7, v8] : Array Value)[k]? = some v := ⟨_, Array.getElem?_eq_getElem (by simpa using hk)⟩
      exact ⟨g, 0, v, rfl, by rw [Nat.zero_add]; exact cell_in hb hv⟩
    · intro k r hr hok W' hI b off v hb hcv
      cases hb
      have hk8 : k < 8 := (List.getElem?_eq_some_iff.1 hr).1
      have hbk := (hI.2.block g hgl (by omega)).trans hg
      obtain ⟨u, hu⟩ : ∃ u, (#[v1, v2, v3, v4, v5, v6, v7, v8] : Array Value)[k]? = some u := ⟨_, Array.getElem?_eq_getElem (by simpa using hk8)⟩
      have huv : v = u := by
        rw [Nat.zero_add, cell_in hbk hu] at hcv
        cases hcv; rfl
      subst huv
      have K := keep W' hI.2
      have hSW : SysL W' hi c pvs wa pa ca wc pc cc := hS.keep (K 0 hi (.inr (by omega)) (by omega))
      have hW' : W.heap.size ≤ W'.heap.size := by have := hI.2.size; omega
      have st : k ≠ 4 → ∀ w', Below W'.heap.size W' w' → (k + 1 ≤ 4 → Below X.heap.size X w') ∧ But be X w' := fun hk w' hb => ⟨fun h4 => (hI.1 (by omega)).trans (hb.mono hI.2.size), hI.2.trans (But.of_below hb)⟩
      show Finds W' v r fun w' => (k + 1 ≤ 4 → Below X.heap.size X w') ∧ But be X w'
      rcases (show k = 0 ∨ k = 1 ∨ k = 2 ∨ k = 3 ∨ k = 4 ∨ k = 5 ∨ k = 6 ∨ k = 7 by omega) with rfl | rfl | rfl | rfl | rfl | rfl | rfl | rfl
      · cases hr; cases hu
        exact (must_finds (h.m1.keep (K _ _ (.inr (Nat.le_refl _)) (by omega)))).go (st (by omega))
      · cases hr; cases hu
        exact (must_finds (h.m2.keep (K _ _ (.inr (Nat.le_refl _)) (by omega)))).go (st (by omega))
      · cases hr; cases hu
        exact (must_finds (h.m3.keep (K _ _ (.inr (Nat.le_refl _)) (by omega)))).go (st (by omega))
      · cases hr; cases hu
        exact (must_finds (h.m4.keep (K _ _ (.inr (Nat.le_refl _)) (by omega)))).go (st (by omega))
      · cases hr; cases hu
        have hin1 : inB c.frame 1 256 = true := mustV_zero (hok 0 _ (by omega) rfl) (by omega)
        have hfr : 1 ≤ c.frame ∧ c.frame ≤ 256 := of_decide_eq_true hin1
        refine (win_finds (h.m5.keep ((SameIn.of_below hX (Nat.le_refl _)).trans (SameIn.of_below (hI.1 (by omega)) (by omega)))) (by omega) rfl hSW.l1 hhi hin hfr.1 hfr.2 f1).go fun w' hb => ⟨fun h4 => by omega, hI.2.trans hb⟩
      · cases hr; cases hu
        exact (part_finds (h.m6.keep (K _ _ (.inl (by omega)) (Nat.le_refl _))) (by omega) rfl hSW.l2 hSW.l3 (by omega) f2 f4).go (st (by omega))
      · cases hr; cases hu
        exact (must_finds (h.m7.keep (K _ _ (.inl (by omega)) (Nat.le_refl _)))).go (st (by omega))
      · cases hr; cases hu
        exact (chan_finds (h.m8.keep (K _ _ (.inl (by omega)) (Nat.le_refl _))) (by omega) rfl hSW.l4 (by omega) f3 f2).go (st (by omega))
  · rintro e w' ⟨he, k, _, hk⟩
    exact ⟨he, hk.2.below hlow (by omega)⟩
end Go.Proofs.Ytiojmekoemlmkaa
