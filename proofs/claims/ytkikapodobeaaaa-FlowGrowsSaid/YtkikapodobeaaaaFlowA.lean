/- A set of edges in memory: its keys, what it holds, how one is added. -/
import Derived.Test.YtkikapodobeaaaaBase
import Derived.Test.YtkikapodobeaaaaRead
import Derived.Test.YtkikapodobeaaaaFlowM
import Derived.Maps.OwnSet
import Derived.Maps.RangeWalk
import Derived.DeepKeys4
namespace Go.Proofs.Ytkikapodobeaaaa
open Go.ChangeShapes Go.WideShapes Go.ChangeAt Go.RowKit Go.Maps
set_option linter.unusedVariables false

theorem Try.laidOut : laidOutB Try.prog = true := by kernel_rfl
theorem Try.rowE : (41 : TypeId) < Try.prog.types.size := of_decide_eq_true (by kernel_rfl)
theorem Try.wideE : (match Try.prog.underlying 41 with | some (.array _ _) | some (.struct _) => true | _ => false) = true := by rw [Try.underlying41]
set_option maxRecDepth 100000 in
theorem Try.lawE : Keyed Try.prog 41 := Keyed.of_law (deep_law_laid Try.laidOut (m := 2) (by omega) Try.rowE (by kernel_rfl) Try.wideE)
theorem Try.keyTypeE : Try.prog.keyType 41 = true := by kernel_rfl
theorem Try.cellsE : Try.prog.cellsOf 41 = 2 := by kernel_rfl
theorem Try.zeroU (w : World) : (zeroValue 91).run Try.prog w = .ok (.agg #[]) w := by kernel_rfl

/-- An edge as a value, and as a key. -/
def eV (e : Int × Int) : Value := .agg #[.int .i64 e.1, .int .i64 e.2]
def kE (e : Int × Int) : Lit := .string (keyBytes [.int .i64 e.1, .int .i64 e.2])
def EIn (e : Int × Int) : Prop := I64 e.1 ∧ I64 e.2
theorem wf_i64 {n : Int} (h : I64 n) : (Lit.int .i64 n).wf = true := by
  obtain ⟨h1, h2⟩ := h
  simp [Lit.wf, IntKind.min, IntKind.max, IntKind.signed, IntKind.bits]
  omega
theorem some_succ (n : Nat) (h : 0 < n) : ∃ m, n = m + 1 := ⟨n - 1, by omega⟩
theorem Try.typesPos : 0 < Try.prog.types.size := of_decide_eq_true (by kernel_rfl)
set_option maxRecDepth 100000 in
theorem key_mk {e : Int × Int} (h : EIn e) : keyOf Try.prog 41 (eV e) = some (kE e) := by
  obtain ⟨m, hm⟩ := some_succ _ Try.typesPos
  have hf : (eV e).formed Try.prog 41 = true := by simp [eV, Value.formed, Try.underlying41, Try.cellsE]
  unfold keyOf
  rw [Try.underlying41]
  simp only [Try.keyTypeE, hf, Bool.and_self, if_true, hm]
  simp [Program.keyLits, Try.underlying41, Try.underlying3, Try.cellsE, Try.cI, eV, Value.cells, wf_i64 h.1, wf_i64 h.2, kE]
set_option maxRecDepth 100000 in
theorem lits_int {m : Nat} {c : List Value} {L : List Lit} (h : Try.prog.keyLits (m + 1) 3 c = some L) : ∃ x, c = [.int .i64 x] ∧ L = [.int .i64 x] ∧ I64 x := by
  unfold Program.keyLits at h
  rw [Try.underlying3] at h
  split at h
  all_goals (first | (rename_i e _; cases e; done) | skip)
  all_goals (first | (rename_i e; cases e; done) | skip)
  all_goals (first | (cases h; done) | skip)
  rename_i q q' n e
  cases e
  split at h
  · rename_i hc
    obtain ⟨rfl, hw⟩ := hc
    cases h
    exact ⟨n, rfl, rfl, i64_of hw⟩
  · cases h
set_option maxRecDepth 100000 in
theorem two_of {m : Nat} {cs : List Value} {L : List Lit} (h : Try.prog.keyLits (m + 2) 41 cs = some L) : ∃ x y, cs = [.int .i64 x, .int .i64 y] ∧ L = [.int .i64 x, .int .i64 y] ∧ I64 x ∧ I64 y := by
  unfold Program.keyLits at h
  rw [Try.underlying41] at h
  simp only [Try.cellsE] at h
  split at h
  · rename_i hc
    match cs, hc.1 with
    | [u, v], _ =>
      simp [Try.cI, List.mapM_cons, Option.bind_eq_some_iff] at h
      obtain ⟨a, ha, _, ⟨a2, ha2, rfl⟩, rfl⟩ := h
      obtain ⟨x, hx, rfl, h1⟩ := lits_int ha
      obtain ⟨y, hy, rfl, h2⟩ := lits_int ha2
      cases hx; cases hy
      exact ⟨x, y, rfl, rfl, h1, h2⟩
  · cases h
set_option maxRecDepth 100000 in
theorem key_inv {v : Value} {l : Lit} (h : keyOf Try.prog 41 v = some l) : ∃ e, v = eV e ∧ l = kE e ∧ EIn e := by
  obtain ⟨xs, L, rfl, h1, rfl⟩ := keyOf_top Try.wideE h
  obtain ⟨m, hm⟩ := some_succ _ Try.typesPos
  rw [hm] at h1
  obtain ⟨x, y, e1, rfl, hx, hy⟩ := two_of h1
  refine ⟨(x, y), ?_, rfl, hx, hy⟩
  obtain ⟨l⟩ := xs
  simp only at e1
  subst e1
  rfl
theorem kE_inj {a b : Int × Int} (ha : EIn a) (hb : EIn b) (h : kE a = kE b) : a = b := by
  have := Try.lawE.inj (key_mk ha) (by rw [key_mk hb, h])
  simp only [eV, Value.agg.injEq] at this
  simp at this
  exact Prod.ext this.1 this.2
theorem kE_key {e : Int × Int} (h : EIn e) : WideAt.IsKeyLit (kE e) := Try.lawE.key (key_mk h)
theorem kE_same {a b : Int × Int} (ha : EIn a) (hb : EIn b) : (kE a).sameKey (kE b) = decide (a = b) := by
  rw [Bool.eq_iff_iff, decide_eq_true_eq]
  constructor
  · intro h; exact kE_inj ha hb (WideAt.sameKey_eq h)
  · rintro rfl; exact WideAt.sameKey_self (kE_key ha)
/-- Block b is a set of edges, n at most: S says which. -/
def SetE (w : World) (b n : Nat) (S : Int × Int → Bool) : Prop := ∃ D : DataW Unit, w.ownsMap Try.prog 41 unitElem b n D ∧ ∀ e, EIn e → Maps.has D (kE e) = S e
theorem SetE.made (w : World) : SetE (w.alloc (.map #[] 0)) w.heap.size 0 (fun _ => false) := ⟨.map [], World.ownsMap_made w _ _ _, fun _ _ => rfl⟩
theorem SetE.mono {w : World} {b n m : Nat} {S : Int × Int → Bool} (h : SetE w b n S) (hn : n ≤ m) : SetE w b m S := let ⟨D, h1, h2⟩ := h; ⟨D, h1.mono hn, h2⟩
theorem SetE.lt {w : World} {b n : Nat} {S : Int × Int → Bool} (h : SetE w b n S) : b < w.heap.size := let ⟨D, h1, h2⟩ := h; h1.lt
theorem SetE.later {w w' : World} {b n : Nat} {S : Int × Int → Bool} (h : SetE w b n S) (hb : Below w.heap.size w w') : SetE w' b n S :=
  let ⟨D, h1, h2⟩ := h
  ⟨D, h1.kept (row := none) ⟨hb.os, hb.tape, hb.output, hb.size, fun k hk _ => hb.block k hk⟩ (by simp), h2⟩
theorem But.of_grown {w w' : World} {b : Nat} (h : w.grownBy w' (some b)) : But b w w' := ⟨h.os, h.tape, h.output, h.size, fun k hk hne => h.block k hk (fun e => hne (by cases e; rfl))⟩
theorem SetE.congr {w : World} {b n : Nat} {S T : Int × Int → Bool} (h : SetE w b n S) (hT : ∀ e, EIn e → S e = T e) : SetE w b n T := let ⟨D, h1, h2⟩ := h; ⟨D, h1, fun e he => (h2 e he).trans (hT e he)⟩

set_option maxRecDepth 100000 in
set_option maxHeartbeats 2000000 in
theorem add_any (b n : Nat) (x y : Int) (w : World) (S : Int × Int → Bool) (h : SetE w b n S) (hn : n < maxLen) (hx : I64 x) (hy : I64 y) :
    Calls Try.prog 35 #[.map (some b), .int .i64 x, .int .i64 y] w fun e w' => e = .returned (.tuple #[]) ∧ SetE w' b (n + 1) (fun z => decide (z = (x, y)) || S z) ∧ But b w w' := by
  obtain ⟨D, h1, h2⟩ := h
  go_enter Try.func35, Try.ntmps35
  go_wp2_with (first | (at_mapUpdate; refine wpList_mapUpdate_own _ rfl _ _ _ 71 rfl 41 91 Try.lawE Try.underlying71 unitElem b n D rfl h1 hn _ _ (kE (x, y)) rfl rfl (key_mk (e := (x, y)) ⟨hx, hy⟩) (.agg []) [] unitElem_mk ?_; intro w1 hown1 hgrow1) | go_in)
  go_end0
  refine ⟨rfl, ⟨_, hown1, fun e he => ?_⟩, But.of_grown hgrow1⟩
  by_cases hk : e = (x, y)
  · subst hk
    rw [has_put_same h1.isMap (kE_key he)]
    simp
  · rw [has_put_other (fun hc => hk (kE_inj he ⟨hx, hy⟩ hc)), h2 e he]
    simp [hk]
end Go.Proofs.Ytkikapodobeaaaa
