/- Plain facts of a partition: in high mode high jobs alone, and one at least; in one that is down nothing. -/
import Derived.Test.YtchbehnkkcjdgaaGreatPartB
namespace Go.Proofs.YtchbehnkkcjdgaaGreat
open Go.ChangeShapes Go.WideShapes Go.ChangeAt Go.RowKit
set_option linter.unusedVariables false

def OnlyHi (ts : List Tk) (js : Js) : Prop := ∀ k j, js k = some j → (tkAt ts k).hi = true
def SomeJ (ts : List Tk) (js : Js) : Prop := cntT js ts.length ≠ 0
structure PxM (ts : List Tk) (n : Nat) (x : Px) : Prop where
  hi : x.hi = true → OnlyHi ts x.js ∧ SomeJ ts x.js
  down : x.up = false → x.hi = false ∧ (∀ k, x.js k = none) ∧ ∀ i, i < n → (x.ds i).q = []
theorem best_in {ts : List Tk} {hi : Bool} {js : Js} : ∀ {m b : Nat}, bestT ts hi js m = some b → b < m ∧ hasJ js b = true
  | 0, b, h => by cases h
  | k + 1, b, h => by
    unfold bestT at h
    split at h
    · rename_i hk
      split at h
      · cases h; exact ⟨by omega, hk⟩
      · rename_i c hc
        split at h
        · cases h; exact ⟨by omega, hk⟩
        · cases h
          have := best_in hc
          exact ⟨by omega, this.2⟩
    · have := best_in h
      exact ⟨by omega, this.2⟩
section
variable {ts : List Tk} {ss : List Sv} {st : Int} {x : Px} {n : Nat}
theorem pxm_newPx : PxM ts n (newPx ts ss st) := ⟨fun h => (by cases h), fun h => (by cases h)⟩
theorem pxm_stopX (up : Bool) : PxM ts n (stopX ss up x) := ⟨fun h => (by cases h), fun _ => ⟨rfl, fun _ => rfl, fun _ _ => rfl⟩⟩
theorem someJ_of {js : Js} {k : Nat} {j : Jb} (h : js k = some j) (hk : k < ts.length) : SomeJ ts js := fun e => by
  have := cnt_zero e k hk
  rw [h] at this; cases this
theorem arr_up {a t work done : Int} {m : Nat} (h : arrE ts x a t work done m = 0) : x.up = true ∧ errP ts x.la x.hi t a = 0 ∧ errT ts x.hi x.js t a work done m = 0 := by
  unfold arrE at h
  split at h
  · rename_i hu
    split at h
    · rename_i hp
      exact ⟨hu, hp, h⟩
    · rename_i hp
      exact absurd h hp
  · omega
theorem err_put {hi : Bool} {js : Js} {t arr work done : Int} {m : Nat} (h : errT ts hi js t arr work done m = 0) : inT ts t = true ∧ (hi = true → (tkAt ts t.toNat).hi = true) := by
  unfold errT at h
  split at h
  · rename_i hc
    refine ⟨hc.1, fun hh => ?_⟩
    split at h
    · omega
    · split at h
      · omega
      · rename_i hq
        cases ht : (tkAt ts t.toNat).hi with
        | true => rfl
        | false => exact absurd ⟨hh, ht⟩ hq
  · omega
theorem inT_lt {t : Int} (h : inT ts t = true) : t.toNat < ts.length := by
  obtain ⟨i, rfl, hi⟩ := inT_nat h
  simpa using hi
theorem pxm_arrX {a t work done : Int} {ops : List Wn} (h : PxM ts n x) : PxM ts n (arrX ts x a t work done ops) := by
  unfold arrX
  split
  · rename_i he
    obtain ⟨hu, _, ht⟩ := arr_up he
    obtain ⟨h1, h2⟩ := err_put ht
    have hp : putT ts x.hi x.js t a work done ops = upd x.js t.toNat (some ⟨a, work, 0, ops⟩) := by unfold putT; rw [if_pos ht]
    refine ⟨fun hh => ?_, fun hd => ?_⟩
    · show OnlyHi ts (putT ts x.hi x.js t a work done ops) ∧ SomeJ ts (putT ts x.hi x.js t a work done ops)
      rw [hp]
      refine ⟨fun k j hk => ?_, someJ_of (k := t.toNat) (j := ⟨a, work, 0, ops⟩) (upd_at _ _ _) (inT_lt h1)⟩
      by_cases e : k = t.toNat
      · subst e; exact h2 hh
      · rw [upd_ne _ _ e] at hk
        exact (h.hi hh).1 k j hk
    · rw [hu] at hd; cases hd
  · exact h
theorem pxm_reqX {s work : Int} (h : PxM ts n x) : PxM ts n (reqX ss x s work) := by
  unfold reqX
  split
  · rename_i he
    have hu : x.up = true := by
      unfold reqE at he
      split at he
      · assumption
      · omega
    exact ⟨h.hi, fun hd => by rw [hu] at hd; cases hd⟩
  · exact h
/-- Once it settles. -/
theorem pxm_setX (h1 : x.hi = true → OnlyHi ts x.js) (h2 : x.up = true) : PxM ts n (setX ts x) := by
  unfold setX
  split
  · exact ⟨fun h => (by cases h), fun hd => by rw [h2] at hd; cases hd⟩
  · rename_i hf
    refine ⟨fun hh => ⟨h1 hh, fun e => hf ?_⟩, fun hd => by rw [h2] at hd; cases hd⟩
    unfold falV
    rw [hh, decide_eq_true e]; rfl
theorem OnlyHi.rem {p : Nat → Jb → Bool} {js : Js} {k : Nat} (h : OnlyHi ts js) : OnlyHi ts (remT p js k js) := fun i j hj => h i j (rem_sub hj).1
theorem pxm_begX {now : Int} (h : PxM ts n x) : PxM ts n (begX ts ss st x now) := by
  unfold begX
  split
  · rename_i hu
    have := pxm_setX (ts := ts) (n := n) (x := misX ts x now) (fun hh => ((h.hi hh).1).rem) hu
    refine ⟨this.hi, fun hd => ?_⟩
    have hup : (setX ts (misX ts x now)).up = true := by unfold setX; split <;> exact hu
    rw [show (goX ss st now (setX ts (misX ts x now))).up = (setX ts (misX ts x now)).up from rfl, hup] at hd
    cases hd
  · exact h
theorem pxm_runJX {t : Int} (hJ : ∀ k j, x.js k = some j → k < ts.length) (h : PxM ts n x) (hu : x.up = true) (hj : thereT ts x.js t = true) : PxM ts n (runJX ts ss x t) := by
  obtain ⟨k, j, rfl, hk, hjs⟩ := there_nat hj
  have hsub : ∀ i y, runT ts x.hi x.js k i = some y → (∃ y', x.js i = some y') := fun i y hy => by
    unfold runT at hy
    rw [if_pos hj, Int.toNat_natCast] at hy
    by_cases e : i = k
    · exact ⟨j, by rw [e]; exact hjs⟩
    · split at hy
      · rw [upd_ne _ _ e] at hy; exact ⟨y, hy⟩
      · rw [upd_ne _ _ e] at hy; exact ⟨y, hy⟩
  have hh : x.hi = true → OnlyHi ts (runT ts x.hi x.js k) := fun hh i y hy => by
    obtain ⟨y', hy'⟩ := hsub i y hy
    exact (h.hi hh).1 i y' hy'
  have ho : outT ts x.hi x.js k = outJ ts x.hi k (jbAt x.js k) := by unfold outT; rw [if_pos hj, Int.toNat_natCast]
  have hs : outJ ts x.hi k (jbAt x.js k) = 0 ∨ outJ ts x.hi k (jbAt x.js k) = 3 → ∃ y, runT ts x.hi x.js k k = some y := fun hc => by
    unfold runT
    rw [if_pos hj, Int.toNat_natCast, if_pos hc]
    exact ⟨_, upd_at _ _ _⟩
  unfold runJX
  rw [ho]
  split
  · exact pxm_setX (x := jobX ts x k) hh hu
  · split
    · exact pxm_setX (x := jobX ts x k) hh hu
    · split
      · rename_i h3
        obtain ⟨y, hy⟩ := hs (.inr h3)
        have ht : (tkAt ts k).hi = true := by
          unfold outJ at h3
          split at h3
          · omega
          · split at h3
            · omega
            · split at h3
              · rename_i hc; exact hc.2.1
              · omega
        refine ⟨fun _ => ⟨fun i y' hy' => ?_, ?_⟩, fun hd => by rw [show (risX ts ss (jobX ts x k)).up = x.up from rfl, hu] at hd; cases hd⟩
        · obtain ⟨h4, h5⟩ := rem_sub (hy' : riseT ts (runT ts x.hi x.js k) i = some y')
          rcases Nat.lt_or_ge i ts.length with hi | hi
          · have := h5 hi
            simpa [lowP] using this
          · obtain ⟨z, hz⟩ := hsub i y' h4
            have := hJ i z hz
            omega
        · refine someJ_of (k := k) (j := y) ?_ hk
          show remT (lowP ts) (runT ts x.hi x.js k) ts.length (runT ts x.hi x.js k) k = some y
          unfold remT
          rw [if_neg (by rw [gone_some hy]; simp [lowP, ht])]
          exact hy
      · rename_i h1 h2 h3
        have h0 : outJ ts x.hi k (jbAt x.js k) = 0 := by
          unfold outJ at h1 h2 h3 ⊢
          split
          · simp_all
          · split
            · rfl
            · split <;> simp_all
        obtain ⟨y, hy⟩ := hs (.inl h0)
        exact ⟨fun hq => ⟨hh hq, someJ_of (k := k) (j := y) hy hk⟩, fun hd => by rw [show (jobX ts x k).up = x.up from rfl, hu] at hd; cases hd⟩
theorem pickT_job : ∀ (m : Nat), (pickT ts ss x m).ok = true → (pickT ts ss x m).sv = false → (pickT ts ss x m).n = fkV ts x.hi x.js ∧ foV ts x.hi x.js = true
  | 0, h, _ => ⟨rfl, h⟩
  | k + 1, h, h2 => by
    unfold pickT at h h2 ⊢
    split at h2
    · cases h2
    · rename_i hc
      rw [if_neg hc] at h ⊢
      exact pickT_job k h h2
theorem pick_there (h : (pickV ts ss x).ok = true) (h2 : (pickV ts ss x).sv = false) : x.up = true ∧ thereT ts x.js (pickV ts ss x).n = true := by
  unfold pickV at h h2 ⊢
  split at h
  · rename_i hu
    rw [if_pos hu] at h2 ⊢
    obtain ⟨h3, h4⟩ := pickT_job _ h h2
    refine ⟨hu, ?_⟩
    rw [h3]
    unfold foV at h4
    obtain ⟨b, hb⟩ := Option.isSome_iff_exists.1 h4
    have hk : fkV ts x.hi x.js = b := by unfold fkV; rw [hb]
    rw [hk]
    obtain ⟨q1, q2⟩ := best_in hb
    obtain ⟨j, hj⟩ := hasJ_t q2
    exact there_yes q1 hj
  · cases h
theorem pxm_runX (hJ : ∀ k j, x.js k = some j → k < ts.length) (h : PxM ts n x) : PxM ts n (runX ts ss x) := by
  unfold runX
  split
  · rename_i ho
    split
    · rename_i hs
      obtain ⟨_, _, _, _, hu⟩ := pickV_at hs
      exact ⟨h.hi, fun hd => by rw [show (runSX ss x (pickV ts ss x).n.toNat).up = x.up from rfl, hu] at hd; cases hd⟩
    · rename_i hs
      obtain ⟨hu, ht⟩ := pick_there ho (by simpa using hs)
      exact pxm_runJX hJ h hu ht
  · exact h
end
end Go.Proofs.YtchbehnkkcjdgaaGreat
