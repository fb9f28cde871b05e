/- The program's channels in memory; what each call tells and makes of them: has, Write, Read, Waiting. -/
import Derived.Test.YtoebbbghllkdgaaPortP
namespace Go.Proofs.Ytoebbbghllkdgaa
open Go.ChangeShapes Go.WideShapes Go.ChangeAt Go.RowKit
set_option linter.unusedVariables false

def chZ : Ch := ⟨false, 0, 0, 0⟩
def bcV (x : Nat × Ch) : List Value := [poV x.1 x.2]
def chAt (ps : List (Nat × Ch)) (i : Nat) : Nat × Ch := ps.getD i (0, chZ)
def HdAt (H : Nat) (ps : List (Nat × Ch)) : Own := fun w S => ∃ ao cap, w.heap[H]? = some (.cells #[.slice ao ps.length cap] 60 (0, 0)) ∧ RowR w H S 57 1 ao ps.length cap (ps.flatMap bcV) ∧ S H ∧ ∀ k, S k → k < w.heap.size
def PoF (ps : List (Nat × Ch)) (st : Nat → Ps) (i : Nat) : Own := PoAt (chAt ps i).1 (chAt ps i).2 (st i)
def PrAt (H : Nat) (ps : List (Nat × Ch)) (st : Nat → Ps) : Own := Star (HdAt H ps) (Fam ps.length (PoF ps st))
/-- The channels cs, the i-th as st i. -/
def PrO (H : Nat) (cs : List Ch) (st : Nat → Ps) : Own := fun w S => ∃ ps : List (Nat × Ch), ps.map (·.2) = cs ∧ PrAt H ps st w S
theorem hd_own (H : Nat) (ps : List (Nat × Ch)) : OwnP (HdAt H ps) :=
  ⟨fun ⟨ao, cap, h1, h2, h3, h4⟩ hk hz => ⟨ao, cap, (hk H h3).trans h1, h2.keep (fun k h _ => hk k h) hz (fun k h => h), h3, fun k h => Nat.lt_of_lt_of_le (h4 k h) hz⟩, fun ⟨ao, cap, h1, h2, h3, h4⟩ => h4⟩
theorem prat_own (H : Nat) (ps : List (Nat × Ch)) (st : Nat → Ps) : OwnP (PrAt H ps st) := star_own (hd_own H ps) (fam_own fun i => po_own _ _ _)
theorem pro_own (H : Nat) (cs : List Ch) (st : Nat → Ps) : OwnP (PrO H cs st) :=
  ⟨fun ⟨ps, h1, h2⟩ hk hz => ⟨ps, h1, (prat_own H ps st).keep h2 hk hz⟩, fun ⟨ps, h1, h2⟩ => (prat_own H ps st).lt h2⟩
theorem PrO.box {H : Nat} {cs : List Ch} {st : Nat → Ps} {w : World} {S : Nat → Prop} (h : PrO H cs st w S) : ∃ ao cap, w.heap[H]? = some (.cells #[.slice ao cs.length cap] 60 (0, 0)) ∧ S H := by
  obtain ⟨ps, rfl, A, B, ⟨ao, cap, h1, h2, h3, h4⟩, hB, hd, hs⟩ := h
  exact ⟨ao, cap, by simpa using h1, (hs H).2 (.inl h3)⟩
theorem PrO.at_ {H : Nat} {cs : List Ch} {st : Nat → Ps} {w : World} {S : Nat → Prop} (h : PrO H cs st w S) {k : Nat} {x : Ch} (hx : cs[k]? = some x) :
    ∃ cap G B A, w.heap[H]? = some (.cells #[.slice (some ⟨G, 0, none⟩) cs.length cap] 60 (0, 0)) ∧ w.cell? ⟨G, k, none⟩ = some (poV B x) ∧ PoAt B x (st k) w A ∧ ¬ A H ∧ ¬ A G ∧ G < w.heap.size ∧
      ∀ {w' : World} {A' : Nat → Prop} {s' : Ps}, PoAt B x s' w' A' → GrowS A A' w w' → ∃ S', PrO H cs (updF st k s') w' S' ∧ GrowS S S' w w' := by
  obtain ⟨ps, rfl, h⟩ := h
  have hk : k < ps.length := by
    rcases Nat.lt_or_ge k ps.length with h | h
    · exact h
    · rw [List.getElem?_eq_none (by simpa using h)] at hx; cases hx
  have hc : chAt ps k = ps[k] := by unfold chAt; rw [List.getD_eq_getElem?_getD, List.getElem?_eq_getElem hk]; rfl
  have hx2 : (ps[k]).2 = x := by simpa [List.getElem?_eq_getElem hk] using hx
  obtain ⟨A, B, hA, hB, hd, hAS, hBS, hc2⟩ := Star.rest (hd_own H ps) h
  obtain ⟨ao, cap, h1, h2, h3, h4⟩ := hA
  obtain ⟨F, f1, f2, f3⟩ := hB.at_ (fun i => po_own _ _ _) hk
  obtain ⟨G, rfl, hG, hGH, c0, c1⟩ := h2.at1 (emb := fun x => poV x.1 x.2) (fun _ => rfl) hk
  refine ⟨cap, G, (ps[k]).1, F, by simpa using h1, by rw [c0, hx2], ?_, fun h => hd H h3 (f2 H h), fun h => hd G hG (f2 G h), h4 G hG, fun {w' A' s'} q1 q2 => ?_⟩
  · have := f1
    unfold PoF at this
    rw [hc, hx2] at this
    exact this
  · obtain ⟨S1, g1, g2⟩ := f3 q1 q2
    obtain ⟨S2, g3, g4⟩ := hc2 g1 g2
    refine ⟨S2, ⟨ps, rfl, ?_⟩, g4⟩
    obtain ⟨X, Y, e1, e2, e3, e4⟩ := g3
    refine ⟨X, Y, e1, e2.congr (fun i hi => ?_), e3, e4⟩
    unfold updO PoF
    by_cases e : i = k
    · subst e
      rw [if_pos rfl, hc, hx2, updF_at]
    · rw [if_neg e, updF_ne _ _ e]
def inCh (n : Nat) (c : Int) : Bool := decide (0 ≤ c) && decide (c < (n : Int))
/-- The channel of a number. -/
def chan (cs : List Ch) (c : Int) : Option (Nat × Ch) := if 0 ≤ c then (cs[c.toNat]?).map (fun x => (c.toNat, x)) else none
theorem chan_some {cs : List Ch} {c : Int} {k : Nat} {x : Ch} (h : chan cs c = some (k, x)) : c = k ∧ cs[k]? = some x ∧ k < cs.length ∧ inCh cs.length c = true := by
  unfold chan at h
  split at h
  · cases hx : cs[c.toNat]? with
    | none => rw [hx] at h; cases h
    | some y =>
      rw [hx] at h
      simp at h
      obtain ⟨rfl, rfl⟩ := h
      have hlt : c.toNat < cs.length := by
        rcases Nat.lt_or_ge c.toNat cs.length with h | h
        · exact h
        · rw [List.getElem?_eq_none h] at hx; cases hx
      exact ⟨by omega, hx, hlt, by unfold inCh; rw [decide_eq_true (by omega), decide_eq_true (by omega)]; rfl⟩
  · cases h
theorem chan_none {cs : List Ch} {c : Int} (h : chan cs c = none) : inCh cs.length c = false ∧ ¬ (0 ≤ c ∧ c < (cs.length : Int)) := by
  have : ¬ (0 ≤ c ∧ c < (cs.length : Int)) := fun ⟨h0, h1⟩ => by
    unfold chan at h
    rw [if_pos h0, List.getElem?_eq_getElem (by omega)] at h
    cases h
  refine ⟨?_, this⟩
  unfold inCh
  by_cases h0 : 0 ≤ c
  · rw [decide_eq_false (p := c < _) (by omega), Bool.and_false]
  · rw [decide_eq_false h0, Bool.false_and]
def wrE (cs : List Ch) (p c : Int) : Int := match chan cs c with | some (_, x) => if x.from_ = p then 0 else 1 | none => 1
def wrS (cs : List Ch) (st : Nat → Ps) (p c v now : Int) : Nat → Ps := match chan cs c with | some (k, x) => if x.from_ = p then updF st k ((st k).put x v now) else st | none => st
def rdE (cs : List Ch) (st : Nat → Ps) (p c : Int) : Int := match chan cs c with | some (k, x) => if x.to = p then (if anyV (st k).l = true then 0 else 6) else 1 | none => 1
def rdV (cs : List Ch) (st : Nat → Ps) (p c : Int) : Int := match chan cs c with | some (k, x) => if x.to = p then popV 0 (st k).l else 0 | none => 0
def rdN (cs : List Ch) (st : Nat → Ps) (p c now : Int) : Int := match chan cs c with | some (k, x) => if x.to = p then besV x (st k) now else 0 | none => 0
def rdS (cs : List Ch) (st : Nat → Ps) (p c : Int) : Nat → Ps := match chan cs c with | some (k, x) => if x.to = p then updF st k ((st k).took x) else st | none => st
def waV (cs : List Ch) (st : Nat → Ps) (c : Int) : Int := match chan cs c with | some (k, _) => ((st k).l.length : Nat) | none => 0
def clS (cs : List Ch) (st : Nat → Ps) (p : Int) (n : Nat) : Nat → Ps := fun i => if i < n then (match cs[i]? with | some x => if x.to = p then (st i).clear else st i | none => st i) else st i
set_option maxRecDepth 100000 in
set_option maxHeartbeats 4000000 in
theorem phas_any (w : World) (H n cap : Nat) (ao : Option Addr) (c : Int) (h : w.heap[H]? = some (.cells #[.slice ao n cap] 60 (0, 0))) :
    Calls Try.prog 20 #[.pointer (some ⟨H, 0, none⟩), .int .i64 c] w fun e w' => e = .returned (.bool (inCh n c)) ∧ w' = w := by
  have c0 : w.cell? ⟨H, 0, none⟩ = some (.slice ao n cap) := cell_in h rfl
  have HR : Hid (∀ a b, a = decide (0 ≤ c) → b = decide (c < (n : Int)) → inCh n c = (a && b)) := Lib.hid (fun a b h1 h2 => by rw [h1, h2]; rfl)
  clear h
  by_cases h0 : 0 ≤ c
  · have t0 : decide (0 ≤ c) = true := decide_eq_true h0
    have HT := Lib.hid t0.symm
    by_cases h1 : c < (n : Int)
    · have t1 : decide (c < (n : Int)) = true := decide_eq_true h1
      have HU := Lib.hid t1.symm
      go_enter Try.func20, Try.ntmps20
      go_wp2_with fail
      go_ret
      rw [HR.out _ _ HT.out HU.out]
      exact ⟨rfl, rfl⟩
    · have t1 : decide (c < (n : Int)) = false := decide_eq_false h1
      have HU := Lib.hid t1.symm
      go_enter Try.func20, Try.ntmps20
      go_wp2_with fail
      go_ret
      rw [HR.out _ _ HT.out HU.out]
      exact ⟨rfl, rfl⟩
  · have t0 : decide (0 ≤ c) = false := decide_eq_false h0
    have HT := Lib.hid t0.symm
    go_enter Try.func20, Try.ntmps20
    go_wp2_with fail
    go_ret
    rw [HR.out _ _ HT.out rfl]
    exact ⟨by simp, rfl⟩
/-- Both kinds lead alike. -/
theorem po_line {B : Nat} {x : Ch} {s : Ps} {w : World} {A : Nat → Prop} (h : PoAt B x s w A) : w.cell? ⟨B, 1, none⟩ = some (.int .i64 x.from_) ∧ w.cell? ⟨B, 2, none⟩ = some (.int .i64 x.to) := by
  rcases h with ⟨_, R, SR, h1, _⟩ | ⟨_, a, v, t, h1, _⟩
  · exact ⟨cell_in h1 rfl, cell_in h1 rfl⟩
  · exact ⟨cell_in h1 rfl, cell_in h1 rfl⟩
theorem meth_from (B : Nat) (x : Ch) : ∃ T, poV B x = .iface T (.pointer (some ⟨B, 0, none⟩)) ∧ True := by
  unfold poV
  split
  · exact ⟨_, rfl, trivial⟩
  · exact ⟨_, rfl, trivial⟩
end Go.Proofs.Ytoebbbghllkdgaa
