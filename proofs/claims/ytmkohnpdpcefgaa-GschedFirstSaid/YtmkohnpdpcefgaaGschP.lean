/- Who gets a tick: what New makes. -/
import Derived.Test.YtmkohnpdpcefgaaGschM
import Derived.Test.YtmkohnpdpcefgaaGrow
import Derived.Lib.SliceRun
namespace Go.Proofs.Ytmkohnpdpcefgaa
open Go.ChangeShapes Go.WideShapes Go.ChangeAt Go.RowKit
set_option linter.unusedVariables false

set_option maxRecDepth 100000 in
set_option maxHeartbeats 4000000 in
/-- A row of its own of the same ints. -/
theorem gapart_any (a : Option Addr) (n cap : Nat) (w : World) (lo hi : Nat) (xs : List Int) (hn : xs.length = n) (hl : Lies w lo hi (.slice a n cap) n 1 (xs.flatMap intCells)) (hm : n ≤ 1000) :
    Calls Try.prog 25 #[.slice a n cap] w fun e w' => ∃ ao cap', e = .returned (.slice ao n cap') ∧ w'.ownsRow w.heap.size 3 1 (.slice ao n cap') n (xs.flatMap intCells) ∧ Below w.heap.size w w' := by
  obtain ⟨i0, hi0, hz0, hz1, hz2⟩ := info_parts Try.infoInt
  have HI := Lib.hid hi0
  have HL := Lib.hid hl
  have H1 : Hid (∀ u ∈ xs.flatMap intCells, u.oneCell' = true) := Lib.hid (by
    intro u hu
    obtain ⟨x, _, hx⟩ := List.mem_flatMap.1 hu
    simp [intCells] at hx
    subst hx; rfl)
  have HN := Lib.hid hn
  clear hl hi0 hn
  go_enter Try.func25, Try.ntmps25
  go_wp2_with (first | (refine wpList_append_lie (by rfl) (.const (.slice none 0 0)) (.tmp 3) 40 (by rfl) w.heap.size 3 i0 _ 1 8 Try.underlying40 HI.out hz0 hz1 hz2 rfl (by omega) (.slice none 0 0) 0 [] (by rfl) (World.ownsRow_nil _ _ _ _) (.slice a n cap) lo hi n (xs.flatMap intCells) (by rfl) HL.out H1.out n (by omega) (by simp [maxLen]; omega) (by omega) (Nat.le_refl _) ?_; intro ao cap' w1 hown hgrow))
  go_ret
  exact ⟨ao, cap', rfl, by simpa using hown, (Below.refl _ _).grown hgrow (Nat.le_refl _) (fun k hk => by cases hk)⟩

/-! ### the system's box -/
/-- Rows of ints, each from B on, clear of one block. -/
def DnL (w : World) (B : Nat) (ob : Option Nat) (vs : List Value) (ls : List (List Int)) : Prop :=
  vs.length = ls.length ∧ ∀ (i : Nat) (v : Value) (xs : List Int), vs[i]? = some v → ls[i]? = some xs → ∃ lo hi, B ≤ lo ∧ hi ≤ w.heap.size ∧ (∀ g, ob = some g → g < lo ∨ hi ≤ g) ∧ Lies w lo hi v xs.length 1 (xs.flatMap intCells)
theorem DnL.nil (w : World) (B : Nat) (ob : Option Nat) : DnL w B ob [] [] := ⟨rfl, fun i v xs h => by simp at h⟩
theorem DnL.later {w w' : World} {B : Nat} {ob : Option Nat} {vs : List Value} {ls : List (List Int)} (h : DnL w B ob vs ls) (hb : Below w.heap.size w w') : DnL w' B ob vs ls :=
  ⟨h.1, fun i v xs h1 h2 => let ⟨lo, hi, z, a, b, c⟩ := h.2 i v xs h1 h2; ⟨lo, hi, z, Nat.le_trans a hb.size, b, c.keep (SameIn.of_below hb a)⟩⟩
theorem DnL.grown {w w' : World} {B : Nat} {ob ob' : Option Nat} {vs : List Value} {ls : List (List Int)} (h : DnL w B ob vs ls) (hg : w.grownBy w' ob) (ho : ob' = ob ∨ ob' = some w.heap.size) : DnL w' B ob' vs ls :=
  ⟨h.1, fun i v xs h1 h2 => by
    obtain ⟨lo, hi, z, a, b, c⟩ := h.2 i v xs h1 h2
    refine ⟨lo, hi, z, Nat.le_trans a hg.size, fun g hg' => ?_, c.keep (fun k k1 k2 => hg.block k (by omega) (fun e => ?_))⟩
    · rcases ho with rfl | rfl
      · exact b g hg'
      · cases hg'; exact .inr a
    · have := b k e.symm; omega⟩
theorem DnL.but {w w' : World} {H : Nat} {ob : Option Nat} {vs : List Value} {ls : List (List Int)} (h : DnL w (H + 1) ob vs ls) (hb : But H w w') : DnL w' (H + 1) ob vs ls :=
  ⟨h.1, fun i v xs h1 h2 => let ⟨lo, hi, z, a, b, c⟩ := h.2 i v xs h1 h2; ⟨lo, hi, z, Nat.le_trans a hb.size, b, c.keep (hb.same (.inl (by omega)) a)⟩⟩
theorem DnL.snoc {w : World} {B : Nat} {ob : Option Nat} {vs : List Value} {ls : List (List Int)} (h : DnL w B ob vs ls) {v : Value} {xs : List Int} {lo hi : Nat} (z : B ≤ lo) (a : hi ≤ w.heap.size) (b : ∀ g, ob = some g → g < lo ∨ hi ≤ g) (c : Lies w lo hi v xs.length 1 (xs.flatMap intCells)) : DnL w B ob (vs ++ [v]) (ls ++ [xs]) := by
  refine ⟨by simp [h.1], fun i v' xs' h1 h2 => ?_⟩
  by_cases hi' : i < vs.length
  · rw [List.getElem?_append_left hi'] at h1
    rw [List.getElem?_append_left (by rw [← h.1]; exact hi')] at h2
    exact h.2 i v' xs' h1 h2
  · have e : i = vs.length := by have := (List.getElem?_eq_some_iff.1 h1).1; simp at this; omega
    subst e
    rw [List.getElem?_concat_length] at h1
    rw [h.1, List.getElem?_concat_length] at h2
    cases h1; cases h2
    exact ⟨lo, hi, z, a, b, c⟩
theorem DnL.at {w : World} {B : Nat} {ob : Option Nat} {vs : List Value} {ls : List (List Int)} (h : DnL w B ob vs ls) {i : Nat} {v : Value} {xs : List Int} (h1 : vs[i]? = some v) (h2 : ls[i]? = some xs) : Lies w B w.heap.size v xs.length 1 (xs.flatMap intCells) :=
  let ⟨lo, hi, z, a, b, c⟩ := h.2 i v xs h1 h2; c.wider z a
/-- So many partitions' donees are taken over. -/
structure NsAt (w0 w : World) (H t : Nat) (vs : List Value) (ls : List (List Int)) (ao : Option Addr) (k cap : Nat) : Prop where
  box : w.heap[H]? = some (.cells #[.pointer (some ⟨t, 0, none⟩), .slice ao k cap] 86 (0, 0))
  row : w.ownsRow (H + 1) 40 1 (.slice ao k cap) k vs
  rows : DnL w (H + 1) (Value.slice ao k cap).ownBlock vs ls
  len : ls.length = k
  new : w0.heap.size ≤ H
  b : Below w0.heap.size w0 w
theorem NsAt.step {w0 wr w7 wa w8 : World} {H t : Nat} {vs : List Value} {ls : List (List Int)} {ao ao' : Option Addr} {k cap cap' : Nat} (h : NsAt w0 wr H t vs ls ao k cap) (hb7 : Below wr.heap.size wr w7) {v : Value} {xs : List Int} {lo : Nat} (hlo : wr.heap.size ≤ lo)
    (hv : Lies w7 lo w7.heap.size v xs.length 1 (xs.flatMap intCells)) (hba : Below w7.heap.size w7 wa)
    (hown : w8.ownsRow (H + 1) 40 1 (.slice ao' (k + 1) cap') (k + 1) (vs ++ [v])) (hg : wa.grownBy w8 (Value.slice ao k cap).ownBlock)
    (hob : (Value.slice ao' (k + 1) cap').ownBlock = (Value.slice ao k cap).ownBlock ∨ (Value.slice ao' (k + 1) cap').ownBlock = some wa.heap.size) :
    NsAt w0 (w8.setCell ⟨H, 1, none⟩ (.slice ao' (k + 1) cap')) H t (vs ++ [v]) (ls ++ [xs]) ao' (k + 1) cap' := by
  have hHl := lt_of_block h.box
  have hz7 := hb7.size
  have hza := hba.size
  have hBu : But H w8 (w8.setCell ⟨H, 1, none⟩ (.slice ao' (k + 1) cap')) := (But.refl H w8).set 1 _
  have hzg := hg.size
  have hzb := hBu.size
  have hn0 := h.b.size
  have hnew := h.new
  have hnH : (Value.slice ao k cap).ownBlock ≠ some H := fun e => by have := (owns_own h.row _ e).1; omega
  refine ⟨?_, ?_, ?_, by simp [h.len], h.new, ?_⟩
  · have h8 : w8.heap[H]? = some (.cells #[.pointer (some ⟨t, 0, none⟩), .slice ao k cap] 86 (0, 0)) := (hg.block H (by omega) (fun e => hnH e.symm)).trans ((hba.block H (by omega)).trans ((hb7.block H hHl).trans h.box))
    rw [set_at h8]; rfl
  · exact owns_hold hown ⟨hzb, fun g hgg => hBu.block g (owns_own hown g hgg).2 (fun e => by have := (owns_own hown g hgg).1; omega)⟩
  · refine DnL.but ?_ hBu
    refine (((h.rows.later hb7).later hba).grown hg hob).snoc (v := v) (lo := lo) (hi := w7.heap.size) (by omega) (by omega) (fun g e => ?_) (hv.keep (fun j j1 j2 => (hg.block j (by omega) (fun e => ?_)).trans (hba.block j j2)))
    · rcases hob with h3 | h3
      · have := (owns_own h.row g (h3.symm.trans e)).2; omega
      · rw [h3] at e; cases e; omega
    · have := (owns_own h.row j e.symm).2; omega
  · exact (((h.b.trans (hb7.mono hn0)).trans (hba.mono (by omega))).grown hg (by omega) (fun q hq => by have := (owns_own h.row q hq).1; omega)).trans (hBu.below h.new (by omega))
/-- A system's box. -/
def SyAt (w : World) (B g t : Nat) (ls : List (List Int)) : Prop :=
  ∃ ao cap vs, B ≤ g ∧ w.heap[g]? = some (.cells #[.pointer (some ⟨t, 0, none⟩), .slice ao ls.length cap] 86 (0, 0)) ∧ Lies w B w.heap.size (.slice ao ls.length cap) ls.length 1 vs ∧ DnL w B none vs ls
theorem SyAt.later {w w' : World} {B g t : Nat} {ls : List (List Int)} (h : SyAt w B g t ls) (hb : Below w.heap.size w w') : SyAt w' B g t ls :=
  let ⟨ao, cap, vs, h1, h2, h3, h4⟩ := h
  ⟨ao, cap, vs, h1, (hb.block g (lt_of_block h2)).trans h2, (h3.keep (SameIn.of_below hb (Nat.le_refl _))).wider (Nat.le_refl _) hb.size, h4.later hb⟩
theorem NsAt.done {w0 w : World} {H t : Nat} {vs : List Value} {ls : List (List Int)} {ao : Option Addr} {k cap : Nat} (h : NsAt w0 w H t vs ls ao k cap) : SyAt w w0.heap.size H t ls := by
  have h1 := h.len
  subst h1
  have hn := h.new
  exact ⟨ao, cap, vs, h.new, h.box, (Lies.of_owns h.row).wider (by omega) (Nat.le_refl _), h.rows.1, fun i v xs h1 h2 => let ⟨lo, hi, z, a, b, c⟩ := h.rows.2 i v xs h1 h2; ⟨lo, hi, by omega, a, (fun g e => by cases e), c⟩⟩
end Go.Proofs.Ytmkohnpdpcefgaa
