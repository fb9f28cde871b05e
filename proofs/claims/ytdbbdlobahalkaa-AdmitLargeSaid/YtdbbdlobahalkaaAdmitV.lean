/- Phases, verdicts and slack of a system: no program in it. -/
import Derived.Test.YtdbbdlobahalkaaAdmitN
import Derived.Test.YtdbbdlobahalkaaValidL
import Derived.Test.YtdbbdlobahalkaaSupplyS
import Derived.Test.YtdbbdlobahalkaaDemandSum
import Derived.Test.YtdbbdlobahalkaaBoundN
import Derived.Laws.ResultCell
namespace Go.Proofs.Ytdbbdlobahalkaa
open Go.ChangeShapes Go.WideShapes Go.ChangeAt Go.RowKit
set_option linter.unusedVariables false

/-- What a partition of a system that may be has. -/
theorem ok_few {c : Cf} (hz : (checkV c).1 = 0) {k : Nat} {x : Pt} (hx : c.ps[k]? = some x) : x.ts.length ≤ 6 ∧ x.ss.length ≤ 3 ∧ (∀ y ∈ x.ts, okTk y = true) ∧ ∀ y ∈ x.ss, okSv y = true := by
  obtain ⟨_, _, _, h4, _⟩ := (check_iff c).1 hz
  have h := h4 k x hx
  unfold okPt at h
  rw [Bool.and_eq_true, decide_eq_true_eq] at h
  have h := h.1
  unfold wrongOf at h
  split at h
  · cases h
  · split at h
    · cases h
    · split at h
      · cases h
      · split at h
        · cases h
        · rename_i g1 g2 g3 g4
          refine ⟨by omega, by omega, fun y hy => ?_, fun y hy => ?_⟩
          · exact List.all_eq_true.1 (by simpa using g2) y hy
          · exact List.all_eq_true.1 (by simpa using g4) y hy
theorem heldN_cut {t : Int} (h0 : 0 ≤ t) (h1 : t ≤ 1099511627776) : heldN t = t.toNat := by unfold heldN; omega
theorem slack_is (f : Int → Bool) (F : Nat) (x : Pt) (high : Bool) {t : Int} (h0 : 0 ≤ t) (h1 : t ≤ 1099511627776) : (leastV f F (heldN t) : Int) - demV x t high = slackU f F x high t.toNat := by
  unfold slackU
  rw [heldN_cut h0 h1, demV_U x h0 h1, Int.toNat_of_nonneg h0]
theorem demV_bd2 {x : Pt} (t : Int) (high : Bool) (h1 : x.ts.length ≤ 20) (h2 : x.ss.length ≤ 20) : 0 ≤ demV x t high ∧ demV x t high ≤ 43980465111080000 := by
  have a := sum_bd (fun k => ofV k t high) (fun y => ofV_bd y t high) x.ts h1
  have b := sum_bd (fun s => servV s t) (fun y => servV_bd y t) x.ss h2
  unfold demV highV lowV
  cases high
  · simp only [Bool.false_eq_true, if_false]; omega
  · simp only [if_true]; omega
theorem rateV_bd {x : Pt} (n : Int) (high : Bool) (h1 : x.ts.length ≤ 20) (h2 : x.ss.length ≤ 20) : 0 ≤ rateV n x high ∧ rateV n x high ≤ 43980465111080000 := by
  obtain ⟨n0, n1⟩ := cutT_in n
  rw [← rate_is n x high]
  have hs := rate_small (cutT n) x high n0 n1
  have hl : ((x.ts.filter (cntT high)).map (ratT (cutT n) high) ++ (x.ss.filter (cntS high)).map (ratS (cutT n))).length ≤ 40 := by
    rw [List.length_append, List.length_map, List.length_map]
    have := List.length_filter_le (cntT high) x.ts
    have := List.length_filter_le (cntS high) x.ss
    omega
  have := sumI_bd _ _ rfl hs
  have h2 : ((((x.ts.filter (cntT high)).map (ratT (cutT n) high) ++ (x.ss.filter (cntS high)).map (ratS (cutT n))).length : Nat) : Int) ≤ 40 := by omega
  omega
/-- Where a phase of a system's partition breaks, as it is found. -/
def phaseC (c : Cf) (F k : Nat) (x : Pt) (high : Bool) : Option Nat := phaseV (slackU (isO F c.margin c.ws (k : Int)) F x high) (farV x).toNat (hyperV c.frame x).toNat (lostU (isO F c.margin c.ws (k : Int)) F x high (hyperV c.frame x).toNat)
def phTell : Option Nat → Int × Bool
  | some T => (T, true)
  | none => (0, false)
/-- The least of the first ones; -1 of none. -/
def bestTo (g : Nat → Nat) : Nat → Int
  | 0 => -1
  | i + 1 => (leastOf g i : Int)
theorem bestTo_cases (g : Nat → Nat) (i : Nat) : (bestTo g i < 0 ∧ bestTo g (i + 1) = (g i : Int)) ∨ (0 ≤ bestTo g i ∧ (g i : Int) < bestTo g i ∧ bestTo g (i + 1) = (g i : Int)) ∨ (0 ≤ bestTo g i ∧ bestTo g i ≤ (g i : Int) ∧ bestTo g (i + 1) = bestTo g i) := by
  cases i with
  | zero => exact .inl ⟨show (-1 : Int) < 0 by decide, rfl⟩
  | succ i =>
    have e1 : bestTo g (i + 1) = (leastOf g i : Int) := rfl
    have e2 : bestTo g (i + 1 + 1) = (leastOf g (i + 1) : Int) := rfl
    have e3 : leastOf g (i + 1) = min (leastOf g i) (g (i + 1)) := rfl
    rw [e2, e1, e3]
    omega
theorem bestTo_bd {g : Nat → Nat} {B : Nat} (h : ∀ i, g i ≤ B) : ∀ i, -1 ≤ bestTo g i ∧ bestTo g i ≤ B
  | 0 => by simp only [bestTo]; omega
  | i + 1 => by
    simp only [bestTo]
    have := leastOf_le (g := g) (k := i) (i := 0) (by omega)
    have := h 0
    omega
/-- What is known of a round of a system's partition. -/
theorem round_of {c : Cf} (hz : (checkV c).1 = 0) {F : Nat} (hF : c.frame = (F : Int)) (k : Nat) (x : Pt) (high : Bool) (hb : boundOk c.frame x = true) :
    ((farV x).toNat : Int) = farV x ∧ ((hyperV c.frame x).toNat : Int) = hyperV c.frame x ∧ 1 ≤ (farV x).toNat ∧ 1 ≤ (hyperV c.frame x).toNat ∧ (farV x).toNat + (hyperV c.frame x).toNat ≤ 65536 ∧ boundV c.frame x = (((farV x).toNat + (hyperV c.frame x).toNat : Nat) : Int) ∧
      Round (slackU (isO F c.margin c.ws (k : Int)) F x high) (farV x).toNat (hyperV c.frame x).toNat (lostU (isO F c.margin c.ws (k : Int)) F x high (hyperV c.frame x).toNat) := by
  obtain ⟨b1, b2, b3⟩ := bound_ok hb
  obtain ⟨g1, g2, ⟨g3, g4⟩, g5, g6⟩ := hyper_ok b1
  have f1 := farV_bd x
  have e1 : ((farV x).toNat : Int) = farV x := Int.toNat_of_nonneg (by omega)
  have e2 : ((hyperV c.frame x).toNat : Int) = hyperV c.frame x := Int.toNat_of_nonneg (by omega)
  refine ⟨e1, e2, by omega, by omega, by omega, by rw [b3]; omega, ?_⟩
  refine slack_round (isO_again F c.margin c.ws (k : Int)) (by omega) x high e1 ?_ (by rw [e2]; exact g5) (by rw [e2]; exact g6)
  have g4' : ((F : Nat) : Int) ∣ ((hyperV c.frame x).toNat : Int) := by rw [e2, ← hF]; exact g4
  exact Int.natCast_dvd_natCast.1 g4'
theorem phaseC_is {c : Cf} (hz : (checkV c).1 = 0) {F : Nat} (hF : c.frame = (F : Int)) (k : Nat) (x : Pt) (high : Bool) (hb : boundOk c.frame x = true) : IsBreak (slackU (isO F c.margin c.ws (k : Int)) F x high) (phaseC c F k x high) := by
  obtain ⟨_, _, _, h4, _, _, h7⟩ := round_of hz hF k x high hb
  exact phase_is h7 h4
theorem results_row_tmp {P : Program} {fn : Func} {p u : Tmp} {ty : TypeId} (h : fn.results = #[.cell p ty, .tmp u]) (tmps : Array Value) (w : World) (g : Nat) (t : TypeId) (cs : Array Value) (fr : Nat × Nat) (d : TypeDesc)
    (hp : tmps.getD p undef = .pointer (some ⟨g, 0, none⟩)) (hg : w.heap[g]? = some (.cells cs t fr))
    (hu : P.underlying ty = some d) (hd : (match d with | .struct _ | .array _ _ => true | _ => false) = true) (hi : (P.info? ty).map (·.size) = some cs.size) :
    (results fn tmps).run P w = .ok (.tuple #[.agg cs, tmps.getD u undef]) w := by
  rw [results_cell_tmp h, hp]
  simp [asAddr, run_loadVar_row w g t ty cs fr d hg hu hd hi, Result.andThen]
theorem set4 {w : World} {X : Nat} {T : TypeId} {cs : Array Value} (h : w.heap[X]? = some (.cells cs T (0, 0))) (hs : cs.size = 4) (v0 v1 v2 v3 : Value) :
    ((((w.setCell ⟨X, 0, none⟩ v0).setCell ⟨X, 1, none⟩ v1).setCell ⟨X, 2, none⟩ v2).setCell ⟨X, 3, none⟩ v3).heap[X]? = some (.cells #[v0, v1, v2, v3] T (0, 0)) := by
  have h0 := set_at (j := 0) (u := v0) h
  have h1 := set_at (j := 1) (u := v1) h0
  have h2 := set_at (j := 2) (u := v2) h1
  have h3 := set_at (j := 3) (u := v3) h2
  refine h3.trans ?_
  clear h0 h1 h2 h3 h
  have e : ((((cs.setIfInBounds 0 v0).setIfInBounds 1 v1).setIfInBounds 2 v2).setIfInBounds 3 v3) = #[v0, v1, v2, v3] := by
    obtain ⟨l⟩ := cs
    match l, hs with
    | [_, _, _, _], _ => simp
  rw [e]
theorem below4 {B : Nat} {w0 w : World} (h : Below B w0 w) {X : Nat} (hX : B ≤ X) (v0 v1 v2 v3 : Value) :
    Below B w0 ((((w.setCell ⟨X, 0, none⟩ v0).setCell ⟨X, 1, none⟩ v1).setCell ⟨X, 2, none⟩ v2).setCell ⟨X, 3, none⟩ v3) :=
  (((h.setCell (p := ⟨X, 0, none⟩) hX _).setCell (p := ⟨X, 1, none⟩) hX _).setCell (p := ⟨X, 2, none⟩) hX _).setCell (p := ⟨X, 3, none⟩) hX _
/-- What is told of a system: kind, partition, mode, tick. -/
structure Vd where
  (kind part : Int) (high : Bool) (t : Int)
def Vd.cells (v : Vd) : Array Value := #[.int .i64 v.kind, .int .i64 v.part, .bool v.high, .int .i64 v.t]
def noVd : Vd := ⟨0, 0, false, 0⟩
/-- The phases in their order: each partition's low one, then its high one. -/
def phAt (c : Cf) (F i : Nat) : Option Nat := match c.ps[i / 2]? with | some x => phaseC c F (i / 2) x (i % 2 == 1) | none => none
def judgeRun (ph : Nat → Option Nat) : Nat → Nat → Vd
  | 0, _ => noVd
  | m + 1, i => match ph i with | some T => ⟨1, (i / 2 : Nat), i % 2 == 1, T⟩ | none => judgeRun ph m (i + 1)
def judgeV (c : Cf) (F : Nat) : Vd × Int :=
  if (checkV c).1 = 0 then (if 0 ≤ (allV c).1 then ⟨2, (allV c).1, false, 0⟩ else judgeRun (phAt c F) (2 * c.ps.length) 0, 0) else (noVd, (checkV c).1)
theorem judge_next {ph : Nat → Option Nat} {m i : Nat} (h : ph i = none) : judgeRun ph (m + 1) i = judgeRun ph m (i + 1) := by simp [judgeRun, h]
theorem judge_stop {ph : Nat → Option Nat} {m i T : Nat} (h : ph i = some T) : judgeRun ph (m + 1) i = ⟨1, (i / 2 : Nat), i % 2 == 1, T⟩ := by simp [judgeRun, h]
/-- What a verdict says of the phases. -/
theorem judge_says (ph : Nat → Option Nat) : ∀ (m i : Nat), (judgeRun ph m i = noVd ∧ ∀ j, i ≤ j → j < i + m → ph j = none) ∨ ∃ j T, i ≤ j ∧ j < i + m ∧ ph j = some T ∧ (∀ k, i ≤ k → k < j → ph k = none) ∧ judgeRun ph m i = ⟨1, (j / 2 : Nat), j % 2 == 1, T⟩
  | 0, i => .inl ⟨rfl, fun j h1 h2 => by omega⟩
  | m + 1, i => by
    cases h : ph i with
    | some T => exact .inr ⟨i, T, Nat.le_refl _, by omega, h, fun k h1 h2 => by omega, judge_stop h⟩
    | none =>
      rcases judge_says ph m (i + 1) with ⟨g1, g2⟩ | ⟨j, T, g1, g2, g3, g4, g5⟩
      · refine .inl ⟨by rw [judge_next h, g1], fun j h1 h2 => ?_⟩
        rcases Nat.lt_or_ge i j with e | e
        · exact g2 j e (by omega)
        · have : j = i := by omega
          subst this; exact h
      · refine .inr ⟨j, T, by omega, by omega, g3, fun k h1 h2 => ?_, by rw [judge_next h, g5]⟩
        rcases Nat.lt_or_ge i k with e | e
        · exact g4 k e h2
        · have : k = i := by omega
          subst this; exact h
theorem all_bounded {F : Int} : ∀ {l : List Pt} {m k : Int}, 0 ≤ k → (allRun F m k l).1 < 0 → ∀ x ∈ l, boundOk F x = true
  | [], _, _, _, _, x, hx => by cases hx
  | p :: r, m, k, hk, h, x, hx => by
    cases hp : boundOk F p with
    | false => rw [allRun_stop hp] at h; simp at h; omega
    | true =>
      rw [allRun_next hp] at h
      rcases List.mem_cons.1 hx with rfl | hx
      · exact hp
      · exact all_bounded (by omega) h x hx
/-- The slack that is told of a partition's number. -/
def slackT (c : Cf) (F : Nat) (p t : Int) (high : Bool) : Int × Bool :=
  if (checkV c).1 = 0 ∧ 0 ≤ p then (match c.ps[p.toNat]? with | some x => (slackU (isO F c.margin c.ws p) F x high (cutT t).toNat, true) | none => (0, false)) else (0, false)
/-- The phase that is told of it. -/
def phaseT (c : Cf) (F : Nat) (p : Int) (high : Bool) : Int × Bool :=
  if (checkV c).1 = 0 ∧ 0 ≤ p then (match c.ps[p.toNat]? with | some x => if boundOk c.frame x then phTell (phaseC c F p.toNat x high) else (0, false) | none => (0, false)) else (0, false)
theorem slackT_no {c : Cf} {F : Nat} {p t : Int} {high : Bool} (h : (checkV c).1 ≠ 0 ∨ hasB c.ps.length p = false) : slackT c F p t high = (0, false) := by
  unfold slackT
  by_cases g : (checkV c).1 = 0 ∧ 0 ≤ p
  · rw [if_pos g]
    have hn : c.ps[p.toNat]? = none := by
      rcases h with h | h
      · exact absurd g.1 h
      · have := hasB_false h
        exact List.getElem?_eq_none (by omega)
    rw [hn]
  · rw [if_neg g]
theorem slackT_yes {c : Cf} {F : Nat} {k : Nat} {x : Pt} {t : Int} {high : Bool} (hz : (checkV c).1 = 0) (hx : c.ps[k]? = some x) : slackT c F (k : Int) t high = (slackU (isO F c.margin c.ws (k : Int)) F x high (cutT t).toNat, true) := by
  unfold slackT
  rw [if_pos ⟨hz, by omega⟩, Int.toNat_natCast, hx]
theorem phaseT_no {c : Cf} {F : Nat} {p : Int} {high : Bool} (h : (checkV c).1 ≠ 0 ∨ hasB c.ps.length p = false) : phaseT c F p high = (0, false) := by
  unfold phaseT
  by_cases g : (checkV c).1 = 0 ∧ 0 ≤ p
  · rw [if_pos g]
    have hn : c.ps[p.toNat]? = none := by
      rcases h with h | h
      · exact absurd g.1 h
      · have := hasB_false h
        exact List.getElem?_eq_none (by omega)
    rw [hn]
  · rw [if_neg g]
theorem phaseT_yes {c : Cf} {F : Nat} {k : Nat} {x : Pt} {high : Bool} (hz : (checkV c).1 = 0) (hx : c.ps[k]? = some x) (hb : boundOk c.frame x = true) : phaseT c F (k : Int) high = phTell (phaseC c F k x high) := by
  unfold phaseT
  rw [if_pos ⟨hz, by omega⟩, Int.toNat_natCast, hx]
  simp [hb]
theorem phaseT_large {c : Cf} {F : Nat} {k : Nat} {x : Pt} {high : Bool} (hz : (checkV c).1 = 0) (hx : c.ps[k]? = some x) (hb : boundOk c.frame x = false) : phaseT c F (k : Int) high = (0, false) := by
  unfold phaseT
  rw [if_pos ⟨hz, by omega⟩, Int.toNat_natCast, hx]
  simp [hb]
end Go.Proofs.Ytdbbdlobahalkaa
