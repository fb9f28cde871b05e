/- Joined of ValidA, ValidB: The looks at a system: within, must, its look, how great a channel may be; the first look that finds something. -/
import Derived.Test.YtmkohnpdpcefgaaBase
namespace Go.Proofs.Ytmkohnpdpcefgaa
open Go.ChangeShapes Go.WideShapes Go.ChangeAt Go.RowKit
set_option linter.unusedVariables false

theorem within_any (n a b : Int) (w : World) : Calls Try.prog 46 #[.int .i64 n, .int .i64 a, .int .i64 b] w fun e w' => e = .returned (.bool (inB n a b)) ∧ w = w' := by
  rcases (show n < a ∨ (a ≤ n ∧ b < n) ∨ (a ≤ n ∧ n ≤ b) from by omega) with h | ⟨h, h2⟩ | ⟨h, h2⟩
  all_goals
    (go_enter Try.func46, Try.ntmps46
     go_wp2
     go_ret
     exact ⟨ret_b (by rw [Bool.eq_iff_iff]; simp [inB]; try omega), rfl⟩)
theorem mostSize_any (q : Bool) (a b c : Int) (w : World) : Calls Try.prog 64 #[.agg #[.bool q, .int .i64 a, .int .i64 b, .int .i64 c]] w fun e w' => e = .returned (.int .i64 (mostV q)) ∧ Below w.heap.size w w' := by
  cases q
  all_goals
    (go_enter Try.func64, Try.ntmps64
     go_wp2
     go_ret
     exact ⟨rfl, below1 _ _⟩)
/-- A look that is as it was made by must: its three numbers lie from lo to below hi. -/
def MustAt (w : World) (lo hi : Nat) (v : Value) (well : Bool) (err at_ : Int) : Prop :=
  ∃ b0 b1 b2, v = .func (.func 56) #[] #[.pointer (some ⟨b0, 0, none⟩), .pointer (some ⟨b1, 0, none⟩), .pointer (some ⟨b2, 0, none⟩)] ∧ (lo ≤ b0 ∧ b0 < hi) ∧ (lo ≤ b1 ∧ b1 < hi) ∧ (lo ≤ b2 ∧ b2 < hi) ∧
    w.cell? ⟨b0, 0, none⟩ = some (.bool well) ∧ w.cell? ⟨b1, 0, none⟩ = some (.int .i64 err) ∧ w.cell? ⟨b2, 0, none⟩ = some (.int .i64 at_)
theorem cell_same {w w' : World} {lo hi b j : Nat} {u : Value} (hs : SameIn w w' lo hi) (h1 : lo ≤ b) (h2 : b < hi) (h : w.cell? ⟨b, j, none⟩ = some u) : w'.cell? ⟨b, j, none⟩ = some u := (World.cell?_of_block (w := w) (hs b h1 h2)).trans h
theorem MustAt.keep {w w' : World} {lo hi : Nat} {v : Value} {well : Bool} {err at_ : Int} (h : MustAt w lo hi v well err at_) (hs : SameIn w w' lo hi) : MustAt w' lo hi v well err at_ := by
  obtain ⟨b0, b1, b2, e, ⟨l0, h0⟩, ⟨l1, h1⟩, ⟨l2, h2⟩, c0, c1, c2⟩ := h
  exact ⟨b0, b1, b2, e, ⟨l0, h0⟩, ⟨l1, h1⟩, ⟨l2, h2⟩, cell_same hs l0 h0 c0, cell_same hs l1 h1 c1, cell_same hs l2 h2 c2⟩
theorem must_any (well : Bool) (err at_ : Int) (w : World) : Calls Try.prog 45 #[.bool well, .int .i64 err, .int .i64 at_] w fun e w' => ∃ v, e = .returned v ∧ MustAt w' w.heap.size w'.heap.size v well err at_ ∧ Below w.heap.size w w' := by
  go_enter Try.func45, Try.ntmps45
  go_wp2
  go_ret
  refine ⟨_, rfl, ⟨w.heap.size, w.heap.size + 1, w.heap.size + 2, rfl, ⟨by omega, by simp; omega⟩, ⟨by omega, by simp⟩, ⟨by omega, by simp⟩, ?_, ?_, ?_⟩, ?_⟩
  · exact cell_in (cs := #[.bool well]) (t := 4) (by rw [heap_at, heap_at, heap_at, if_neg (by simp; omega), if_neg (by simp), if_pos rfl]) rfl
  · exact cell_in (cs := #[.int .i64 err]) (t := 91) (by rw [heap_at, heap_at, if_neg (by simp), if_pos (by simp)]) rfl
  · exact cell_in (cs := #[.int .i64 at_]) (t := 3) (by rw [heap_at, if_pos (by simp)]) rfl
  exact b_alloc (b_alloc (below1 _ _) (Nat.le_refl _) _) (Nat.le_refl _) _
def mustV (well : Bool) (err at_ : Int) : Int × Int := if well then (0, 0) else (err, at_)
theorem mustLook_any {w : World} {lo hi : Nat} {v : Value} {well : Bool} {err at_ : Int} (h : MustAt w lo hi v well err at_) :
    ∃ g cap, v = .func (.func g) #[] cap ∧ Calls Try.prog g cap w fun e w' => e = .returned (.tuple #[.int .i64 (mustV well err at_).1, .int .i64 (mustV well err at_).2]) ∧ ∃ n, w' = w.drewN n := by
  obtain ⟨b0, b1, b2, rfl, _, _, _, c0, c1, c2⟩ := h
  refine ⟨_, _, rfl, ?_⟩
  cases well
  case true =>
    go_enter Try.func56, Try.ntmps56
    go_wp2
    go_ret2
    exact ⟨rfl, 0, rfl⟩
  case false =>
    go_enter Try.func56, Try.ntmps56
    go_wp2
    go_region
    all_goals (go_wp2; go_ret2; exact ⟨rfl, 1, rfl⟩)
/-- What the first of some looks tells that finds anything. -/
def fstV : List (Int × Int) → Int × Int
  | [] => (0, 0)
  | r :: l => if r.1 = 0 then fstV l else r
theorem fstV_at : ∀ {rs : List (Int × Int)} {k : Nat} {r : Int × Int}, (∀ (i : Nat) (x : Int × Int), i < k → rs[i]? = some x → x.1 = 0) → rs[k]? = some r → r.1 ≠ 0 → fstV rs = r
  | [], k, r, _, h, _ => by simp at h
  | x :: rs, 0, r, _, h, hn => by
    simp at h; subst h
    unfold fstV; rw [if_neg hn]
  | x :: rs, k + 1, r, ha, h, hn => by
    unfold fstV
    rw [if_pos (ha 0 x (by omega) rfl)]
    exact fstV_at (k := k) (fun i y hi hy => ha (i + 1) y (by omega) (by simpa using hy)) (by simpa using h) hn
theorem fstV_none : ∀ {rs : List (Int × Int)}, (∀ (i : Nat) (x : Int × Int), rs[i]? = some x → x.1 = 0) → fstV rs = (0, 0)
  | [], _ => rfl
  | x :: rs, ha => by
    unfold fstV
    rw [if_pos (ha 0 x rfl)]
    exact fstV_none fun i y hy => ha (i + 1) y (by simpa using hy)
/-- Some looks, one behind the other: what holds of the world ahead of each; each looks if those ahead of it found nothing. -/
structure Looks (I : Nat → World → Prop) (a : Option Addr) (n cap : Nat) (rs : List (Int × Int)) : Prop where
  len : rs.length = n
  small : n ≤ 1000
  there : ∀ k W, I k W → k < n → ∃ b off v, a = some ⟨b, off, none⟩ ∧ W.cell? ⟨b, off + k, none⟩ = some v
  runs : ∀ k r, rs[k]? = some r → (∀ (i : Nat) (x : Int × Int), i < k → rs[i]? = some x → x.1 = 0) → ∀ W, I k W → ∀ b off v, a = some ⟨b, off, none⟩ → W.cell? ⟨b, off + k, none⟩ = some v → ∃ g c, v = .func (.func g) #[] c ∧ (g = 56 ∨ g = 65) ∧ Calls Try.prog g c W fun e w' => e = .returned (.tuple #[.int .i64 r.1, .int .i64 r.2]) ∧ I (k + 1) w'
set_option maxRecDepth 100000 in
set_option maxHeartbeats 2000000 in
theorem first_any {I : Nat → World → Prop} {a : Option Addr} {n cap : Nat} {rs : List (Int × Int)} (h : Looks I a n cap rs) (w : World) (h0 : I 0 w) :
    Calls Try.prog 44 #[.slice a n cap] w fun e w' => e = .returned (.tuple #[.int .i64 (fstV rs).1, .int .i64 (fstV rs).2]) ∧ ∃ k ≤ n, I k w' := by
  have HL := Lib.hid h
  have hsm := h.small
  clear h
  have HI0 := Lib.hid h0; clear h0
  go_enter Try.func44, Try.ntmps44
  go_wp2_with fail
  go_loopw [10] (fun i wr => ∃ k : Nat, k ≤ n ∧ i = .int .i64 k ∧ Hid (∀ (i : Nat) (x : Int × Int), i < k → rs[i]? = some x → x.1 = 0) ∧ Hid (I k wr)) (fun i _ => n - (intOf i).toNat)
  case atStart => exact ⟨0, by omega, rfl, Lib.hid (fun i x hi => by omega), HI0⟩
  case round =>
    obtain ⟨k, hk, rfl, HA, HI⟩ := hrel
    by_cases hlt : k < n
    · have tk : decide ((k : Int) < (n : Int)) = true := by simpa using hlt
      obtain ⟨b, off, v, rfl, hc⟩ := HL.out.there k wr HI.out hlt
      obtain ⟨r, hr⟩ : ∃ r, rs[k]? = some r := ⟨_, List.getElem?_eq_getElem (by rw [HL.out.len]; exact hlt)⟩
      obtain ⟨g, c, rfl, hgg, cg⟩ := HL.out.runs k r hr HA.out wr HI.out b off v rfl hc
      have CG := Lib.hid cg; clear cg
      have HR := Lib.hid hr; clear hr
      have l0 : (0 : Int) ≤ (k : Int) := by omega
      have l1 : (k : Int) < (n : Int) := by omega
      obtain ⟨r1, r2⟩ := r
      rcases hgg with rfl | rfl
      all_goals (
       by_cases hz : r1 = 0
       · subst hz
         go_wp2_with fail
         refine CG.out.mono ?_
         rintro e w2 ⟨rfl, hi2⟩
         have HI2 := Lib.hid hi2; clear hi2
         go_wp2_with fail
         go_roundw
         case rel => exact ⟨k + 1, by omega, by go_num, Lib.hid (fun i x hi hx => by
           rcases Nat.lt_or_ge i k with g | g
           · exact HA.out i x g hx
           · have : i = k := by omega
             subst this; rw [HR.out] at hx; cases hx; rfl), HI2⟩
         case measure => simp [intOf]; omega
       · have t1 : decide (r1 = 0) = false := by simpa using hz
         have t2 : (r1 == 0) = false := by simpa using hz
         have HF := Lib.hid (fstV_at HA.out HR.out hz)
         go_wp2_with fail
         refine CG.out.mono ?_
         rintro e w2 ⟨rfl, hi2⟩
         have HI2 := Lib.hid hi2; clear hi2
         go_wp2_with fail
         go_ret2
         exact ⟨by rw [HF.out]; rfl, k + 1, by omega, HI2.out⟩)
    · have tk : decide ((k : Int) < (n : Int)) = false := by simp; omega
      have hkn : k = n := by omega
      subst hkn
      have HF := Lib.hid (fstV_none (rs := rs) fun i x hx => HA.out i x (by have := (List.getElem?_eq_some_iff.1 hx).1; rw [HL.out.len] at this; exact this) hx)
      go_wp2
      go_ret2
      exact ⟨by rw [HF.out]; rfl, k, Nat.le_refl _, HI.out⟩
end Go.Proofs.Ytmkohnpdpcefgaa
namespace Go.Proofs.Ytmkohnpdpcefgaa
open Go.ChangeShapes Go.WideShapes Go.ChangeAt Go.RowKit
set_option linter.unusedVariables false

/-- A look that is as it was made by each. -/
def EachAt (w : World) (lo hi : Nat) (v : Value) (n : Nat) (f : Value) : Prop :=
  ∃ b0 b1, v = .func (.func 65) #[] #[.pointer (some ⟨b0, 0, none⟩), .pointer (some ⟨b1, 0, none⟩)] ∧ (lo ≤ b0 ∧ b0 < hi) ∧ (lo ≤ b1 ∧ b1 < hi) ∧
    w.cell? ⟨b0, 0, none⟩ = some (.int .i64 n) ∧ w.cell? ⟨b1, 0, none⟩ = some f
theorem EachAt.keep {w w' : World} {lo hi : Nat} {v f : Value} {n : Nat} (h : EachAt w lo hi v n f) (hs : SameIn w w' lo hi) : EachAt w' lo hi v n f := by
  obtain ⟨b0, b1, e, ⟨l0, h0⟩, ⟨l1, h1⟩, c0, c1⟩ := h
  exact ⟨b0, b1, e, ⟨l0, h0⟩, ⟨l1, h1⟩, cell_same hs l0 h0 c0, cell_same hs l1 h1 c1⟩
theorem EachAt.wider {w : World} {lo hi lo' hi' : Nat} {v f : Value} {n : Nat} (h : EachAt w lo hi v n f) (h1 : lo' ≤ lo) (h2 : hi ≤ hi') : EachAt w lo' hi' v n f := by
  obtain ⟨b0, b1, e, g0, g1, c0, c1⟩ := h
  exact ⟨b0, b1, e, ⟨by omega, by omega⟩, ⟨by omega, by omega⟩, c0, c1⟩
theorem each_any (n : Nat) (g : Nat) (c : Array Value) (w : World) : Calls Try.prog 57 #[.int .i64 n, .func (.func g) #[] c] w fun e w' => ∃ v, e = .returned v ∧ EachAt w' w.heap.size w'.heap.size v n (.func (.func g) #[] c) ∧ Below w.heap.size w w' := by
  go_enter Try.func57, Try.ntmps57
  go_wp2
  go_ret
  refine ⟨_, rfl, ⟨w.heap.size, w.heap.size + 1, rfl, ⟨by omega, by simp; omega⟩, ⟨by omega, by simp⟩, ?_, ?_⟩, ?_⟩
  · exact cell_in (cs := #[.int .i64 n]) (t := 3) (by rw [heap_at, heap_at, if_neg (by simp), if_pos rfl]) rfl
  · exact cell_in (cs := #[.func (.func g) #[] c]) (t := 126) (by rw [heap_at, if_pos (by simp)]) rfl
  exact b_alloc (below1 _ _) (Nat.le_refl _) _
/-- Each told error, with its number. -/
def eachL : List Int → Nat → List (Int × Int)
  | [], _ => []
  | e :: l, i => (e, (i : Int)) :: eachL l (i + 1)
theorem eachL_at : ∀ {es : List Int} {i k : Nat}, (eachL es i)[k]? = es[k]?.map fun e => (e, ((i + k : Nat) : Int))
  | [], i, k => by simp [eachL]
  | e :: es, i, 0 => by simp [eachL]
  | e :: es, i, k + 1 => by
    unfold eachL
    rw [List.getElem?_cons_succ, List.getElem?_cons_succ, eachL_at, show i + 1 + k = i + (k + 1) by omega]
/-- What is told of so many things: what holds of the world ahead of each; each is told if those ahead of it were told nothing of. -/
structure Tells (I : Nat → World → Prop) (g : Nat) (c : Array Value) (b0 b1 n : Nat) (es : List Int) : Prop where
  len : es.length = n
  small : n ≤ 1000
  one : g = 58 ∨ g = 60 ∨ g = 63
  c0 : ∀ k W, I k W → W.cell? ⟨b0, 0, none⟩ = some (.int .i64 n)
  c1 : ∀ k W, I k W → W.cell? ⟨b1, 0, none⟩ = some (.func (.func g) #[] c)
  runs : ∀ (k : Nat) (r : Int), es[k]? = some r → (∀ (i : Nat) (x : Int), i < k → es[i]? = some x → x = 0) → ∀ W, I k W → Calls Try.prog g (#[.int .i64 k] ++ c) W fun e w' => e = .returned (.int .i64 r) ∧ I (k + 1) w'
set_option maxRecDepth 100000 in
set_option maxHeartbeats 2000000 in
theorem eachLook_any {I : Nat → World → Prop} {g : Nat} {c : Array Value} {b0 b1 n : Nat} {es : List Int} (h : Tells I g c b0 b1 n es) (w : World) (h0 : I 0 w) :
    Calls Try.prog 65 #[.pointer (some ⟨b0, 0, none⟩), .pointer (some ⟨b1, 0, none⟩)] w fun e w' => e = .returned (.tuple #[.int .i64 (fstV (eachL es 0)).1, .int .i64 (fstV (eachL es 0)).2]) ∧ ∃ k ≤ n, I k w' := by
  have HL := Lib.hid h
  have hsm := h.small
  have hone := h.one
  have y0 := h.c0 0 w h0
  clear h
  have HI0 := Lib.hid h0; clear h0
  rcases hone with rfl | rfl | rfl
  all_goals (
    go_enter Try.func65, Try.ntmps65
    go_wp2_with fail
    go_loopw [7] (fun i wr => ∃ k : Nat, k ≤ n ∧ i = .int .i64 k ∧ Hid (∀ (i : Nat) (x : Int), i < k → es[i]? = some x → x = 0) ∧ Hid (I k wr)) (fun i _ => n - (intOf i).toNat)
    case atStart => exact ⟨0, by omega, rfl, Lib.hid (fun i x hi => by omega), HI0⟩
    case round =>
      obtain ⟨k, hk, rfl, HA, HI⟩ := hrel
      by_cases hlt : k < n
      · have tk : decide ((k : Int) < (n : Int)) = true := by simpa using hlt
        have hc := HL.out.c1 k wr HI.out
        obtain ⟨r, hr⟩ : ∃ r, es[k]? = some r := ⟨_, List.getElem?_eq_getElem (by rw [HL.out.len]; exact hlt)⟩
        have CG := Lib.hid (HL.out.runs k r hr HA.out wr HI.out)
        have HR := Lib.hid hr; clear hr
        have l0 : (0 : Int) ≤ (k : Int) := by omega
        have l1 : (k : Int) < (n : Int) := by omega
        by_cases hz : r = 0
        · subst hz
          go_wp2_with fail
          refine CG.out.mono ?_
          rintro e w2 ⟨rfl, hi2⟩
          have HI2 := Lib.hid hi2; clear hi2
          go_wp2_with fail
          go_roundw
          case rel => exact ⟨k + 1, by omega, by go_num, Lib.hid (fun i x hi hx => by
            rcases Nat.lt_or_ge i k with g | g
            · exact HA.out i x g hx
            · have : i = k := by omega
              subst this; rw [HR.out] at hx; cases hx; rfl), HI2⟩
          case measure => simp [intOf]; omega
        · have t1 : decide (r = 0) = false := by simpa using hz
          have t2 : (r == 0) = false := by simpa using hz
          have HF : Hid (fstV (eachL es 0) = (r, (k : Int))) := Lib.hid (fstV_at (k := k) (fun i x hi hx => by
            rw [eachL_at] at hx
            obtain ⟨e, he, hx⟩ := Option.map_eq_some_iff.1 hx
            have := HA.out i e hi he
            subst this; subst hx; rfl) (by rw [eachL_at, HR.out]; simp) hz)
          go_wp2_with fail
          refine CG.out.mono ?_
          rintro e w2 ⟨rfl, hi2⟩
          have HI2 := Lib.hid hi2; clear hi2
          go_wp2_with fail
          go_ret2
          exact ⟨by rw [HF.out]; rfl, k + 1, by omega, HI2.out⟩
      · have tk : decide ((k : Int) < (n : Int)) = false := by simp; omega
        have hkn : k = n := by omega
        subst hkn
        have HF : Hid (fstV (eachL es 0) = (0, 0)) := Lib.hid (fstV_none fun i x hx => by
          rw [eachL_at] at hx
          obtain ⟨e, he, hx⟩ := Option.map_eq_some_iff.1 hx
          have := HA.out i e (by have := (List.getElem?_eq_some_iff.1 he).1; rw [HL.out.len] at this; exact this) he
          subst this; subst hx; rfl)
        go_wp2
        go_ret2
        exact ⟨by rw [HF.out]; rfl, k, Nat.le_refl _, HI.out⟩)
end Go.Proofs.Ytmkohnpdpcefgaa
