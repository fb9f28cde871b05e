/- Plain facts of jobs, and who runs first. An op is a Wn (kind, a, b). -/
import Derived.Test.YtchbehnkkcjdgaaGreatHeapM
import Derived.Test.YtchbehnkkcjdgaaGreatPolM
namespace Go.Proofs.YtchbehnkkcjdgaaGreat
open Go.ChangeShapes Go.WideShapes Go.ChangeAt Go.RowKit
set_option linter.unusedVariables false

structure Jb where
  arr : Int
  work : Int
  done : Int
  ops : List Wn
/-- The jobs: of each task, if it has one. -/
abbrev Js := Nat → Option Jb
def hasJ (js : Js) (k : Nat) : Bool := (js k).isSome
def jbAt (js : Js) (k : Nat) : Jb := (js k).getD ⟨0, 0, 0, []⟩
theorem hasJ_some {js : Js} {k : Nat} {j : Jb} (h : js k = some j) : hasJ js k = true := by unfold hasJ; rw [h]; rfl
theorem hasJ_none {js : Js} {k : Nat} (h : js k = none) : hasJ js k = false := by unfold hasJ; rw [h]; rfl
theorem hasJ_t {js : Js} {k : Nat} (h : hasJ js k = true) : ∃ j, js k = some j := by unfold hasJ at h; exact Option.isSome_iff_exists.1 h
theorem hasJ_f {js : Js} {k : Nat} (h : hasJ js k = false) : js k = none := by
  unfold hasJ at h
  cases hj : js k with
  | none => rfl
  | some j => rw [hj] at h; cases h
/-- When a job is due. -/
def dueT (ts : List Tk) (hi : Bool) (k : Nat) (j : Jb) : Int := j.arr + (if hi = true then (tkAt ts k).d else (tkAt ts k).v)
def dmT (ts : List Tk) (hi : Bool) (js : Js) : Nat → Option Int := fun k => (js k).map (dueT ts hi k)
structure JsOk (ts : List Tk) (js : Js) : Prop where
  out : ∀ k, ts.length ≤ k → js k = none
  bd : ∀ k j, js k = some j → 0 ≤ j.arr ∧ j.arr ≤ 4611686018427387904 ∧ 1 ≤ j.work ∧ j.work ≤ 1048576 ∧ 0 ≤ j.done ∧ j.done < j.work ∧ j.ops.length ≤ 64
theorem JsOk.lt {ts : List Tk} {js : Js} (h : JsOk ts js) {k : Nat} {j : Jb} (e : js k = some j) : k < ts.length := by
  rcases Nat.lt_or_ge k ts.length with g | g
  · exact g
  · rw [h.out k g] at e; cases e
theorem JsOk.set {ts : List Tk} {js : Js} (h : JsOk ts js) {k : Nat} (hk : k < ts.length) {j : Jb} (hb : 0 ≤ j.arr ∧ j.arr ≤ 4611686018427387904 ∧ 1 ≤ j.work ∧ j.work ≤ 1048576 ∧ 0 ≤ j.done ∧ j.done < j.work ∧ j.ops.length ≤ 64) : JsOk ts (upd js k (some j)) :=
  ⟨fun i hi => by rw [upd_ne _ _ (by omega)]; exact h.out i hi, fun i x hx => by
    by_cases e : i = k
    · subst e; rw [upd_at] at hx; cases hx; exact hb
    · rw [upd_ne _ _ e] at hx; exact h.bd i x hx⟩
theorem JsOk.rem {ts : List Tk} {js : Js} (h : JsOk ts js) (k : Nat) : JsOk ts (upd js k none) :=
  ⟨fun i hi => by
    by_cases e : i = k
    · subst e; rw [upd_at]
    · rw [upd_ne _ _ e]; exact h.out i hi, fun i x hx => by
    by_cases e : i = k
    · subst e; rw [upd_at] at hx; cases hx
    · rw [upd_ne _ _ e] at hx; exact h.bd i x hx⟩
theorem JsOk.none (ts : List Tk) : JsOk ts (fun _ => Option.none) := ⟨fun _ _ => rfl, fun _ _ h => by cases h⟩
/-- The same, but a job may be done to its end. -/
structure JsW (ts : List Tk) (js : Js) : Prop where
  out : ∀ k, ts.length ≤ k → js k = Option.none
  bd : ∀ k j, js k = some j → 0 ≤ j.arr ∧ j.arr ≤ 4611686018427387904 ∧ 1 ≤ j.work ∧ j.work ≤ 1048576 ∧ 0 ≤ j.done ∧ j.done ≤ j.work ∧ j.ops.length ≤ 64
theorem JsOk.w {ts : List Tk} {js : Js} (h : JsOk ts js) : JsW ts js := ⟨h.out, fun k j e => by obtain ⟨a, b, c, d, f, g, i⟩ := h.bd k j e; exact ⟨a, b, c, d, f, by omega, i⟩⟩
theorem JsW.lt {ts : List Tk} {js : Js} (h : JsW ts js) {k : Nat} {j : Jb} (e : js k = some j) : k < ts.length := by
  rcases Nat.lt_or_ge k ts.length with g | g
  · exact g
  · rw [h.out k g] at e; cases e
theorem JsW.set {ts : List Tk} {js : Js} (h : JsW ts js) {k : Nat} (hk : k < ts.length) {j : Jb} (hb : 0 ≤ j.arr ∧ j.arr ≤ 4611686018427387904 ∧ 1 ≤ j.work ∧ j.work ≤ 1048576 ∧ 0 ≤ j.done ∧ j.done ≤ j.work ∧ j.ops.length ≤ 64) : JsW ts (upd js k (some j)) :=
  ⟨fun i hi => by rw [upd_ne _ _ (by omega)]; exact h.out i hi, fun i x hx => by
    by_cases e : i = k
    · subst e; rw [upd_at] at hx; cases hx; exact hb
    · rw [upd_ne _ _ e] at hx; exact h.bd i x hx⟩
theorem JsW.sub {ts : List Tk} {js js' : Js} (h : JsW ts js) (hj : ∀ k j, js' k = some j → js k = some j) : JsW ts js' :=
  ⟨fun k g => (by
    cases e : js' k with
    | none => rfl
    | some j => have := hj k j e; rw [h.out k g] at this; cases this), fun k j e => h.bd k j (hj k j e)⟩
theorem dm_upd (ts : List Tk) (hi : Bool) (js : Js) (k : Nat) (j : Jb) : dmT ts hi (upd js k (some j)) = upd (dmT ts hi js) k (some (dueT ts hi k j)) := by
  funext i
  unfold dmT
  by_cases e : i = k
  · subst e; rw [upd_at, upd_at]; rfl
  · rw [upd_ne _ _ e, upd_ne _ _ e]
theorem dm_rem (ts : List Tk) (hi : Bool) (js : Js) (k : Nat) : dmT ts hi (upd js k none) = upd (dmT ts hi js) k none := by
  funext i
  unfold dmT
  by_cases e : i = k
  · subst e; rw [upd_at, upd_at]; rfl
  · rw [upd_ne _ _ e, upd_ne _ _ e]
theorem dm_none (ts : List Tk) (hi : Bool) : dmT ts hi (fun _ => none) = fun _ => none := rfl

/-- How many there are. -/
def cntT (js : Js) : Nat → Nat
  | 0 => 0
  | k + 1 => cntT js k + (if hasJ js k = true then 1 else 0)
theorem cnt_le (js : Js) : ∀ n, cntT js n ≤ n
  | 0 => Nat.le_refl _
  | n + 1 => by have := cnt_le js n; unfold cntT; split <;> omega
theorem cnt_congr {js js' : Js} : ∀ n, (∀ k, k < n → hasJ js' k = hasJ js k) → cntT js' n = cntT js n
  | 0, _ => rfl
  | n + 1, h => by unfold cntT; rw [cnt_congr n (fun k hk => h k (by omega)), h n (by omega)]
theorem hasJ_ne (js : Js) {k i : Nat} (o : Option Jb) (h : i ≠ k) : hasJ (upd js k o) i = hasJ js i := by unfold hasJ; rw [upd_ne _ _ h]
theorem cnt_put {js : Js} {k : Nat} (j : Jb) (hn : js k = none) : ∀ n, k < n → cntT (upd js k (some j)) n = cntT js n + 1
  | 0, h => by omega
  | n + 1, h => by
    unfold cntT
    by_cases e : k = n
    · subst e
      rw [cnt_congr k (fun i hi => hasJ_ne js _ (by omega)), hasJ_none hn, hasJ_some (upd_at _ _ _)]; simp
    · rw [cnt_put j hn n (by omega), hasJ_ne js _ (by omega)]; omega
theorem cnt_rem {js : Js} {k : Nat} {j : Jb} (hn : js k = some j) : ∀ n, k < n → cntT (upd js k none) n + 1 = cntT js n
  | 0, h => by omega
  | n + 1, h => by
    unfold cntT
    by_cases e : k = n
    · subst e
      rw [cnt_congr k (fun i hi => hasJ_ne js _ (by omega)), hasJ_some hn, hasJ_none (upd_at _ _ _)]; simp
    · have := cnt_rem hn n (by omega)
      rw [hasJ_ne js _ (by omega)]; omega
theorem cnt_same {js : Js} {k : Nat} {j j' : Jb} (hn : js k = some j) (n : Nat) : cntT (upd js k (some j')) n = cntT js n :=
  cnt_congr n fun i _ => by
    by_cases e : i = k
    · subst e; rw [hasJ_some hn, hasJ_some (upd_at _ _ _)]
    · exact hasJ_ne js _ e
theorem cnt_none : ∀ n, cntT (fun _ => none) n = 0
  | 0 => rfl
  | n + 1 => by unfold cntT; rw [cnt_none n]; rfl
theorem cnt_zero {js : Js} : ∀ {n : Nat}, cntT js n = 0 → ∀ k, k < n → js k = none
  | 0, _, k, hk => by omega
  | n + 1, h, k, hk => by
    unfold cntT at h
    cases hj : hasJ js n with
    | true => rw [hj] at h; simp at h
    | false =>
      by_cases e : k = n
      · subst e; exact hasJ_f hj
      · exact cnt_zero (n := n) (by omega) k (by omega)

/-- Who is due first, of the first k tasks. -/
def bestT (ts : List Tk) (hi : Bool) (js : Js) : Nat → Option Nat
  | 0 => none
  | k + 1 => if hasJ js k = true then (match bestT ts hi js k with | none => some k | some b => if dueT ts hi k (jbAt js k) < dueT ts hi b (jbAt js b) then some k else some b) else bestT ts hi js k
theorem jbAt_some {js : Js} {k : Nat} {j : Jb} (h : js k = some j) : jbAt js k = j := by unfold jbAt; rw [h]; rfl
theorem best_none {ts : List Tk} {hi : Bool} {js : Js} : ∀ {n : Nat}, bestT ts hi js n = none ↔ ∀ k, k < n → js k = none
  | 0 => ⟨fun _ k hk => by omega, fun _ => rfl⟩
  | n + 1 => by
    unfold bestT
    cases hj : hasJ js n with
    | true =>
      refine ⟨fun h => ?_, fun h => ?_⟩
      · rw [if_pos rfl] at h
        split at h
        · cases h
        · split at h <;> cases h
      · rw [h n (by omega) |> hasJ_none] at hj; cases hj
    | false =>
      rw [if_neg (by simp), best_none (n := n)]
      refine ⟨fun h k hk => ?_, fun h k hk => h k (by omega)⟩
      by_cases e : k = n
      · subst e; exact hasJ_f hj
      · exact h k (by omega)
theorem best_some {ts : List Tk} {hi : Bool} {js : Js} : ∀ {n b : Nat}, bestT ts hi js n = some b → b < n ∧ hasJ js b = true ∧ ∀ k, k < n → hasJ js k = true → dueT ts hi b (jbAt js b) ≤ dueT ts hi k (jbAt js k) ∧ (dueT ts hi b (jbAt js b) = dueT ts hi k (jbAt js k) → b ≤ k)
  | 0, b, h => by cases h
  | n + 1, b, h => by
    unfold bestT at h
    cases hj : hasJ js n with
    | true =>
      rw [hj, if_pos rfl] at h
      cases hb : bestT ts hi js n with
      | none =>
        rw [hb] at h; cases h
        refine ⟨by omega, hj, fun k hk hkj => ?_⟩
        by_cases e : k = n
        · subst e; exact ⟨Int.le_refl _, fun _ => Nat.le_refl _⟩
        · rw [hasJ_none (best_none.1 hb k (by omega))] at hkj; cases hkj
      | some c =>
        rw [hb] at h
        obtain ⟨h1, h2, h3⟩ := best_some hb
        dsimp only at h
        split at h
        · rename_i hlt
          cases h
          refine ⟨by omega, hj, fun k hk hkj => ?_⟩
          by_cases e : k = n
          · subst e; exact ⟨Int.le_refl _, fun _ => Nat.le_refl _⟩
          · have := (h3 k (by omega) hkj).1
            exact ⟨by omega, fun _ => by omega⟩
        · rename_i hge
          cases h
          refine ⟨by omega, h2, fun k hk hkj => ?_⟩
          by_cases e : k = n
          · subst e; exact ⟨by omega, fun _ => by omega⟩
          · exact h3 k (by omega) hkj
    | false =>
      rw [hj, if_neg (by simp)] at h
      obtain ⟨h1, h2, h3⟩ := best_some h
      refine ⟨by omega, h2, fun k hk hkj => ?_⟩
      by_cases e : k = n
      · subst e; rw [hj] at hkj; cases hkj
      · exact h3 k (by omega) hkj
def foV (ts : List Tk) (hi : Bool) (js : Js) : Bool := (bestT ts hi js ts.length).isSome
def fkV (ts : List Tk) (hi : Bool) (js : Js) : Int := match bestT ts hi js ts.length with | none => 0 | some b => b
def fdV (ts : List Tk) (hi : Bool) (js : Js) : Int := match bestT ts hi js ts.length with | none => 0 | some b => dueT ts hi b (jbAt js b)
theorem fo_f {ts : List Tk} {hi : Bool} {js : Js} (h : foV ts hi js = false) : bestT ts hi js ts.length = none := by
  unfold foV at h
  cases hb : bestT ts hi js ts.length with
  | none => rfl
  | some b => rw [hb] at h; cases h
theorem fo_t {ts : List Tk} {hi : Bool} {js : Js} (h : foV ts hi js = true) : ∃ b, bestT ts hi js ts.length = some b ∧ fkV ts hi js = b ∧ b < ts.length ∧ ∃ j, js b = some j := by
  unfold foV at h
  obtain ⟨b, hb⟩ := Option.isSome_iff_exists.1 h
  obtain ⟨h1, h2, _⟩ := best_some hb
  exact ⟨b, hb, by unfold fkV; rw [hb], h1, hasJ_t h2⟩
/-- The head of what a heap holds is the first. -/
theorem first_rep {ts : List Tk} {hi : Bool} {js : Js} {R : List En} (ho : JsOk ts js) (hR : Rep R (dmT ts hi js)) : (R = [] ∧ bestT ts hi js ts.length = none) ∨ ∃ b d R', R = (b, d) :: R' ∧ bestT ts hi js ts.length = some b ∧ d = dueT ts hi b (jbAt js b) := by
  cases hb : bestT ts hi js ts.length with
  | none =>
    refine .inl ⟨?_, rfl⟩
    cases R with
    | nil => rfl
    | cons e R' =>
      have h1 := (hR.2 e.1 e.2).1 List.mem_cons_self
      unfold dmT at h1
      obtain ⟨j, hj, _⟩ := Option.map_eq_some_iff.1 h1
      rw [best_none.1 hb e.1 (ho.lt hj)] at hj; cases hj
  | some b =>
    obtain ⟨h1, h2, h3⟩ := best_some hb
    obtain ⟨j, hj⟩ := hasJ_t h2
    have hm : (b, dueT ts hi b j) ∈ R := (hR.2 _ _).2 (by unfold dmT; rw [hj]; rfl)
    refine .inr ?_
    cases R with
    | nil => cases hm
    | cons e R' =>
      obtain ⟨i, d⟩ := e
      have hi1 := (hR.2 i d).1 List.mem_cons_self
      unfold dmT at hi1
      obtain ⟨j', hj', hd⟩ := Option.map_eq_some_iff.1 hi1
      have h4 := h3 i (ho.lt hj') (hasJ_some hj')
      rw [jbAt_some hj, jbAt_some hj', hd] at h4
      rcases List.mem_cons.1 hm with h5 | h5
      · cases h5
        exact ⟨b, _, R', rfl, rfl, by rw [jbAt_some hj]⟩
      · have h6 := (List.pairwise_cons.1 hR.1).1 _ h5
        exfalso
        unfold ltH at h6
        dsimp only at h6
        omega

/-- Put's answer, and what it leaves. -/
def errT (ts : List Tk) (hi : Bool) (js : Js) (t arr work done : Int) (n : Nat) : Int :=
  if inT ts t = true ∧ 0 ≤ arr ∧ arr ≤ 4611686018427387904 ∧ 1 ≤ work ∧ work ≤ 1048576 ∧ done = 0 ∧ n ≤ 64 then (if hasJ js t.toNat = true then 4 else if hi = true ∧ (tkAt ts t.toNat).hi = false then 42 else 0) else 1
def putT (ts : List Tk) (hi : Bool) (js : Js) (t arr work done : Int) (ops : List Wn) : Js :=
  if errT ts hi js t arr work done ops.length = 0 then upd js t.toNat (some ⟨arr, work, 0, ops⟩) else js
theorem err_arg {ts : List Tk} {hi : Bool} {js : Js} {t arr work done : Int} {n : Nat} (h : ¬ (inT ts t = true ∧ 0 ≤ arr ∧ arr ≤ 4611686018427387904 ∧ 1 ≤ work ∧ work ≤ 1048576 ∧ done = 0 ∧ n ≤ 64)) : errT ts hi js t arr work done n = 1 := by unfold errT; rw [if_neg h]
theorem err_there {ts : List Tk} {hi : Bool} {js : Js} {t arr work done : Int} {n : Nat} (h : inT ts t = true ∧ 0 ≤ arr ∧ arr ≤ 4611686018427387904 ∧ 1 ≤ work ∧ work ≤ 1048576 ∧ done = 0 ∧ n ≤ 64) (h1 : hasJ js t.toNat = true) : errT ts hi js t arr work done n = 4 := by unfold errT; rw [if_pos h, if_pos h1]
theorem err_drop {ts : List Tk} {hi : Bool} {js : Js} {t arr work done : Int} {n : Nat} (h : inT ts t = true ∧ 0 ≤ arr ∧ arr ≤ 4611686018427387904 ∧ 1 ≤ work ∧ work ≤ 1048576 ∧ done = 0 ∧ n ≤ 64) (h1 : hasJ js t.toNat = false) (h2 : hi = true ∧ (tkAt ts t.toNat).hi = false) : errT ts hi js t arr work done n = 42 := by unfold errT; rw [if_pos h, if_neg (by rw [h1]; simp), if_pos h2]
theorem err_ok {ts : List Tk} {hi : Bool} {js : Js} {t arr work done : Int} {n : Nat} (h : inT ts t = true ∧ 0 ≤ arr ∧ arr ≤ 4611686018427387904 ∧ 1 ≤ work ∧ work ≤ 1048576 ∧ done = 0 ∧ n ≤ 64) (h1 : hasJ js t.toNat = false) (h2 : ¬ (hi = true ∧ (tkAt ts t.toNat).hi = false)) : errT ts hi js t arr work done n = 0 := by unfold errT; rw [if_pos h, if_neg (by rw [h1]; simp), if_neg h2]
theorem err_zero {ts : List Tk} {hi : Bool} {js : Js} {t arr work done : Int} {n : Nat} (h : errT ts hi js t arr work done n = 0) : (inT ts t = true ∧ 0 ≤ arr ∧ arr ≤ 4611686018427387904 ∧ 1 ≤ work ∧ work ≤ 1048576 ∧ done = 0 ∧ n ≤ 64) ∧ hasJ js t.toNat = false ∧ ¬ (hi = true ∧ (tkAt ts t.toNat).hi = false) := by
  unfold errT at h
  split at h
  · rename_i h1
    split at h
    · cases h
    · rename_i h2
      split at h
      · cases h
      · rename_i h3
        exact ⟨h1, by simpa using h2, h3⟩
  · cases h
theorem put_no {ts : List Tk} {hi : Bool} {js : Js} {t arr work done : Int} {ops : List Wn} (h : errT ts hi js t arr work done ops.length ≠ 0) : putT ts hi js t arr work done ops = js := by unfold putT; rw [if_neg h]
theorem put_yes {ts : List Tk} {hi : Bool} {js : Js} {t arr work done : Int} {ops : List Wn} (h : errT ts hi js t arr work done ops.length = 0) : putT ts hi js t arr work done ops = upd js t.toNat (some ⟨arr, work, 0, ops⟩) := by unfold putT; rw [if_pos h]

/-- Run's answer, and what it leaves. -/
def zWn : Wn := ⟨0, 0, 0⟩
def thereT (ts : List Tk) (js : Js) (t : Int) : Bool := inT ts t && hasJ js t.toNat
def opT (ts : List Tk) (js : Js) (t : Int) : Wn := if thereT ts js t = true then (jbAt js t.toNat).ops.getD (jbAt js t.toNat).done.toNat zWn else zWn
def budT (ts : List Tk) (hi : Bool) (k : Nat) : Int := if hi = true then (tkAt ts k).top else (tkAt ts k).lo
def outJ (ts : List Tk) (hi : Bool) (k : Nat) (j : Jb) : Int :=
  if j.done + 1 = j.work then 1 else if j.done + 1 < budT ts hi k then 0 else if hi = false ∧ (tkAt ts k).hi = true ∧ (tkAt ts k).lo < (tkAt ts k).top then 3 else 2
def outT (ts : List Tk) (hi : Bool) (js : Js) (t : Int) : Int := if thereT ts js t = true then outJ ts hi t.toNat (jbAt js t.toNat) else 4
def runT (ts : List Tk) (hi : Bool) (js : Js) (t : Int) : Js :=
  if thereT ts js t = true then (if outJ ts hi t.toNat (jbAt js t.toNat) = 0 ∨ outJ ts hi t.toNat (jbAt js t.toNat) = 3 then upd js t.toNat (some { jbAt js t.toNat with done := (jbAt js t.toNat).done + 1 }) else upd js t.toNat none) else js
theorem there_no {ts : List Tk} {hi : Bool} {js : Js} {t : Int} (h : thereT ts js t = false) : opT ts js t = zWn ∧ outT ts hi js t = 4 ∧ runT ts hi js t = js := by
  unfold opT outT runT; rw [h]; exact ⟨rfl, rfl, rfl⟩
theorem there_nat {ts : List Tk} {js : Js} {t : Int} (h : thereT ts js t = true) : ∃ (k : Nat) (j : Jb), t = k ∧ k < ts.length ∧ js k = some j := by
  unfold thereT at h
  simp only [Bool.and_eq_true] at h
  obtain ⟨k, rfl, hk⟩ := inT_nat h.1
  obtain ⟨j, hj⟩ := hasJ_t h.2
  exact ⟨k, j, rfl, hk, hj⟩
theorem there_yes {ts : List Tk} {js : Js} {k : Nat} {j : Jb} (hk : k < ts.length) (hj : js k = some j) : thereT ts js k = true := by
  unfold thereT; rw [inT_t hk, Int.toNat_natCast, hasJ_some hj]; rfl
theorem there_f {ts : List Tk} {js : Js} {k : Nat} (hj : js k = none) : thereT ts js k = false := by
  unfold thereT; rw [Int.toNat_natCast, hasJ_none hj, Bool.and_false]
theorem op_yes {ts : List Tk} {js : Js} {k : Nat} {j : Jb} (hk : k < ts.length) (hj : js k = some j) : opT ts js k = j.ops.getD j.done.toNat zWn := by
  unfold opT; rw [if_pos (there_yes hk hj), Int.toNat_natCast, jbAt_some hj]
theorem out_yes {ts : List Tk} {hi : Bool} {js : Js} {k : Nat} {j : Jb} (hk : k < ts.length) (hj : js k = some j) : outT ts hi js k = outJ ts hi k j := by
  unfold outT; rw [if_pos (there_yes hk hj), Int.toNat_natCast, jbAt_some hj]
theorem run_yes {ts : List Tk} {hi : Bool} {js : Js} {k : Nat} {j : Jb} (hk : k < ts.length) (hj : js k = some j) : runT ts hi js k = if outJ ts hi k j = 0 ∨ outJ ts hi k j = 3 then upd js k (some { j with done := j.done + 1 }) else upd js k none := by
  unfold runT; rw [if_pos (there_yes hk hj), Int.toNat_natCast, jbAt_some hj]

/-- Get's answer: its job, or the zero one. -/
def getT (ts : List Tk) (js : Js) (t : Int) : Int := if thereT ts js t = true then t else 0
def getJ (ts : List Tk) (js : Js) (t : Int) : Jb := if thereT ts js t = true then jbAt js t.toNat else ⟨0, 0, 0, []⟩
theorem get_no {ts : List Tk} {js : Js} {t : Int} (h : thereT ts js t = false) : getT ts js t = 0 ∧ getJ ts js t = ⟨0, 0, 0, []⟩ := by unfold getT getJ; rw [h]; exact ⟨rfl, rfl⟩
theorem get_yes {ts : List Tk} {js : Js} {k : Nat} {j : Jb} (hk : k < ts.length) (hj : js k = some j) : getT ts js k = k ∧ getJ ts js k = j := by
  unfold getT getJ; rw [if_pos (there_yes hk hj), if_pos (there_yes hk hj), Int.toNat_natCast, jbAt_some hj]; exact ⟨rfl, rfl⟩

/-- Some are gone: those of the first k of which p holds. -/
def goneT (p : Nat → Jb → Bool) (js : Js) (i : Nat) : Bool := match js i with | some j => p i j | none => false
def remT {α : Type} (p : Nat → Jb → Bool) (js : Js) (k : Nat) (D : Nat → Option α) : Nat → Option α := fun i => if i < k ∧ goneT p js i = true then none else D i
def lisT (p : Nat → Jb → Bool) (js : Js) : Nat → List Int
  | 0 => []
  | k + 1 => lisT p js k ++ (if goneT p js k = true then [(k : Int)] else [])
theorem rem_zero {α : Type} (p : Nat → Jb → Bool) (js : Js) (D : Nat → Option α) : remT p js 0 D = D := by
  funext i; unfold remT; rw [if_neg (by omega)]
theorem rem_yes {α : Type} {p : Nat → Jb → Bool} {js : Js} {k : Nat} (h : goneT p js k = true) (D : Nat → Option α) : remT p js (k + 1) D = upd (remT p js k D) k none := by
  funext i
  by_cases e : i = k
  · subst e; rw [upd_at]; unfold remT; rw [if_pos ⟨by omega, h⟩]
  · rw [upd_ne _ _ e]
    unfold remT
    by_cases c : i < k ∧ goneT p js i = true
    · rw [if_pos c, if_pos ⟨by omega, c.2⟩]
    · rw [if_neg c, if_neg (fun c' => c ⟨by omega, c'.2⟩)]
theorem rem_no {α : Type} {p : Nat → Jb → Bool} {js : Js} {k : Nat} (h : goneT p js k = false) (D : Nat → Option α) : remT p js (k + 1) D = remT p js k D := by
  funext i
  unfold remT
  by_cases c : i < k ∧ goneT p js i = true
  · rw [if_pos c, if_pos ⟨by omega, c.2⟩]
  · rw [if_neg c, if_neg (fun c' => c ⟨by
      rcases Nat.lt_or_ge i k with g | g
      · exact g
      · have : i = k := by omega
        subst this; rw [h] at c'; exact absurd c'.2 (by simp), c'.2⟩)]
theorem rem_here {α : Type} (p : Nat → Jb → Bool) (js : Js) (k : Nat) (D : Nat → Option α) : remT p js k D k = D k := by unfold remT; rw [if_neg (by omega)]
theorem lis_yes {p : Nat → Jb → Bool} {js : Js} {k : Nat} (h : goneT p js k = true) : lisT p js (k + 1) = lisT p js k ++ [(k : Int)] := by
  show lisT p js k ++ _ = _; rw [if_pos h]
theorem lis_no {p : Nat → Jb → Bool} {js : Js} {k : Nat} (h : goneT p js k = false) : lisT p js (k + 1) = lisT p js k := by
  show lisT p js k ++ _ = _; rw [if_neg (by rw [h]; simp), List.append_nil]
theorem lis_len (p : Nat → Jb → Bool) (js : Js) : ∀ n, (lisT p js n).length ≤ n
  | 0 => Nat.le_refl _
  | n + 1 => by have := lis_len p js n; show (lisT p js n ++ _).length ≤ _; rw [List.length_append]; split <;> simp <;> omega
theorem gone_some {p : Nat → Jb → Bool} {js : Js} {k : Nat} {j : Jb} (h : js k = some j) : goneT p js k = p k j := by unfold goneT; rw [h]
theorem gone_none {p : Nat → Jb → Bool} {js : Js} {k : Nat} (h : js k = none) : goneT p js k = false := by unfold goneT; rw [h]
theorem rem_sub {p : Nat → Jb → Bool} {js : Js} {k i : Nat} {j : Jb} (h : remT p js k js i = some j) : js i = some j ∧ (i < k → p i j = false) := by
  unfold remT at h
  split at h
  · cases h
  · rename_i hc
    refine ⟨h, fun hk => ?_⟩
    have hg : ¬ goneT p js i = true := fun hg => hc ⟨hk, hg⟩
    rw [gone_some h] at hg
    simpa using hg
theorem JsOk.remOk {ts : List Tk} {js : Js} (h : JsOk ts js) (p : Nat → Jb → Bool) (k : Nat) : JsOk ts (remT p js k js) :=
  ⟨fun i hi => (by
    cases e : remT p js k js i with
    | none => rfl
    | some j => have := (rem_sub e).1; rw [h.out i hi] at this; cases this), fun i j hj => h.bd i j (rem_sub hj).1⟩
theorem rem_dm (p : Nat → Jb → Bool) (ts : List Tk) (hi : Bool) (js : Js) (k : Nat) : remT p js k (dmT ts hi js) = dmT ts hi (remT p js k js) := by
  funext i
  by_cases c : i < k ∧ goneT p js i = true
  · simp only [remT, dmT, if_pos c]; rfl
  · simp only [remT, dmT, if_neg c]
theorem rem_all {ts : List Tk} {js : Js} (h : JsOk ts js) : remT (fun _ _ => true) js ts.length js = fun _ => none := by
  funext i
  cases e : remT (fun _ _ => true) js ts.length js i with
  | none => rfl
  | some j =>
    obtain ⟨h1, h2⟩ := rem_sub e
    exact absurd (h2 (h.lt h1)) (by simp)
/-- Those whose tasks are not high. -/
def lowP (ts : List Tk) : Nat → Jb → Bool := fun k _ => !(tkAt ts k).hi
def riseT (ts : List Tk) (js : Js) : Js := remT (lowP ts) js ts.length js
def riseL (ts : List Tk) (js : Js) : List Int := lisT (lowP ts) js ts.length
/-- Those that have to be done by now. -/
def misP (ts : List Tk) (now : Int) : Nat → Jb → Bool := fun k j => decide (j.arr + (tkAt ts k).d ≤ now)
def misT (ts : List Tk) (js : Js) (now : Int) : Js := remT (misP ts now) js ts.length js
def misL (ts : List Tk) (js : Js) (now : Int) : List Int := lisT (misP ts now) js ts.length
/-- Fall's answer. -/
def falV (ts : List Tk) (hi : Bool) (js : Js) : Bool := hi && decide (cntT js ts.length = 0)
def falH (ts : List Tk) (hi : Bool) (js : Js) : Bool := hi && !falV ts hi js
theorem fal_dm (ts : List Tk) (hi : Bool) (js : Js) (ho : JsOk ts js) (h : falV ts hi js = true) : js = fun _ => none := by
  unfold falV at h
  simp only [Bool.and_eq_true, decide_eq_true_eq] at h
  funext k
  rcases Nat.lt_or_ge k ts.length with g | g
  · exact cnt_zero h.2 k g
  · exact ho.out k g
theorem JsOk.putOk {ts : List Tk} {hi : Bool} {js : Js} (h : JsOk ts js) (t arr work done : Int) (ops : List Wn) : JsOk ts (putT ts hi js t arr work done ops) := by
  by_cases he : errT ts hi js t arr work done ops.length = 0
  · rw [put_yes he]
    obtain ⟨⟨h1, h2, h3, h4, h5, h6, h7⟩, _⟩ := err_zero he
    obtain ⟨k, rfl, hk⟩ := inT_nat h1
    rw [Int.toNat_natCast]
    exact h.set hk ⟨h2, h3, h4, h5, Int.le_refl _, by show (0 : Int) < work; omega, h7⟩
  · rw [put_no he]; exact h
theorem out_two {ts : List Tk} {hi : Bool} {k : Nat} {j : Jb} : outJ ts hi k j = 0 ∨ outJ ts hi k j = 1 ∨ outJ ts hi k j = 2 ∨ outJ ts hi k j = 3 := by
  unfold outJ
  split
  · exact .inr (.inl rfl)
  · split
    · exact .inl rfl
    · split
      · exact .inr (.inr (.inr rfl))
      · exact .inr (.inr (.inl rfl))
theorem out_stays {ts : List Tk} {hi : Bool} {k : Nat} {j : Jb} (h : outJ ts hi k j = 0 ∨ outJ ts hi k j = 3) : j.done + 1 ≠ j.work := by
  intro e
  unfold outJ at h
  rw [if_pos e] at h
  omega
theorem JsOk.runOk {ts : List Tk} {hi : Bool} {js : Js} (h : JsOk ts js) (t : Int) : JsOk ts (runT ts hi js t) := by
  cases ht : thereT ts js t with
  | false => rw [(there_no (hi := hi) ht).2.2]; exact h
  | true =>
    obtain ⟨k, j, rfl, hk, hj⟩ := there_nat ht
    rw [run_yes hk hj]
    split
    · rename_i hc
      have h1 := out_stays hc
      obtain ⟨b1, b2, b3, b4, b5, b6, b7⟩ := h.bd k j hj
      exact h.set hk ⟨b1, b2, b3, b4, by show 0 ≤ j.done + 1; omega, by show j.done + 1 < j.work; omega, b7⟩
    · exact h.rem k
end Go.Proofs.YtchbehnkkcjdgaaGreat
