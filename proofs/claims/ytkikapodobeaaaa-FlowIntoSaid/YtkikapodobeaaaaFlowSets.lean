/- Joined of FlowA, FlowC, FlowB: A set of edges in memory: its keys, what it holds, how one is added. -/
import Derived.Test.YtkikapodobeaaaaBase
import Derived.Test.YtkikapodobeaaaaRead
import Derived.Test.YtkikapodobeaaaaFlowM
import Derived.Maps.OwnSet
import Derived.Maps.RangeWalk
import Derived.DeepKeys4
import Derived.RangeFuncNested
import Derived.RangeFuncBound
import Derived.RangeFuncCalls
import Derived.RangeFuncLeaves
import Derived.Shelf.Abstract
import Derived.Sort.MapsRangeIn
import Derived.Sort.KeysCollected
import Derived.WalkKit
import Derived.OwnWalkIn
import Derived.TacticsInMore
import Derived.LoopNIn
import Derived.LoopIn
import Derived.Maps.AppendAt
import Derived.Shelf.SlSortCmp.NoneTotal
import Derived.Shelf.SlSortCmp.WholeK
import Derived.Shelf.SlicesG.Cmp
import Derived.Ground.SlsfProg
import Derived.Ground.SlgcProg
namespace Go.Proofs.Ytkikapodobeaaaa
open Go.ChangeShapes Go.WideShapes Go.ChangeAt Go.RowKit Go.Maps
set_option linter.unusedVariables false

theorem Try.laidOut : laidOutB Try.prog = true := by kernel_rfl
theorem Try.rowE : (41 : TypeId) < Try.prog.types.size := of_decide_eq_true (by kernel_rfl)
theorem Try.wideE : (match Try.prog.underlying 41 with | some (.array _ _) | some (.struct _) => true | _ => false) = true := by rw [Try.underlying41]
set_option maxRecDepth 100000 in
theorem Try.lawE : Keyed Try.prog 41 := Keyed.of_law (deep_law_laid Try.laidOut (m := 2) (by omega) Try.rowE (by kernel_rfl) Try.wideE)
theorem Try.keyTypeE : Try.prog.keyType 41 = true := by kernel_rfl
theorem Try.cellsE : Try.prog.cellsOf 41 = 2 := by kernel_rfl
theorem Try.zeroU (w : World) : (zeroValue 91).run Try.prog w = .ok (.agg #[]) w := by kernel_rfl

/-- An edge as a value, and as a key. -/
def eV (e : Int × Int) : Value := .agg #[.int .i64 e.1, .int .i64 e.2]
def kE (e : Int × Int) : Lit := .string (keyBytes [.int .i64 e.1, .int .i64 e.2])
def EIn (e : Int × Int) : Prop := I64 e.1 ∧ I64 e.2
theorem wf_i64 {n : Int} (h : I64 n) : (Lit.int .i64 n).wf = true := by
  obtain ⟨h1, h2⟩ := h
  simp [Lit.wf, IntKind.min, IntKind.max, IntKind.signed, IntKind.bits]
  omega
theorem some_succ (n : Nat) (h : 0 < n) : ∃ m, n = m + 1 := ⟨n - 1, by omega⟩
theorem Try.typesPos : 0 < Try.prog.types.size := of_decide_eq_true (by kernel_rfl)
set_option maxRecDepth 100000 in
theorem key_mk {e : Int × Int} (h : EIn e) : keyOf Try.prog 41 (eV e) = some (kE e) := by
  obtain ⟨m, hm⟩ := some_succ _ Try.typesPos
  have hf : (eV e).formed Try.prog 41 = true := by simp [eV, Value.formed, Try.underlying41, Try.cellsE]
  unfold keyOf
  rw [Try.underlying41]
  simp only [Try.keyTypeE, hf, Bool.and_self, if_true, hm]
  simp [Program.keyLits, Try.underlying41, Try.underlying3, Try.cellsE, Try.cI, eV, Value.cells, wf_i64 h.1, wf_i64 h.2, kE]
set_option maxRecDepth 100000 in
theorem lits_int {m : Nat} {c : List Value} {L : List Lit} (h : Try.prog.keyLits (m + 1) 3 c = some L) : ∃ x, c = [.int .i64 x] ∧ L = [.int .i64 x] ∧ I64 x := by
  unfold Program.keyLits at h
  rw [Try.underlying3] at h
  split at h
  all_goals (first | (rename_i e _; cases e; done) | skip)
  all_goals (first | (rename_i e; cases e; done) | skip)
  all_goals (first | (cases h; done) | skip)
  rename_i q q' n e
  cases e
  split at h
  · rename_i hc
    obtain ⟨rfl, hw⟩ := hc
    cases h
    exact ⟨n, rfl, rfl, i64_of hw⟩
  · cases h
set_option maxRecDepth 100000 in
theorem two_of {m : Nat} {cs : List Value} {L : List Lit} (h : Try.prog.keyLits (m + 2) 41 cs = some L) : ∃ x y, cs = [.int .i64 x, .int .i64 y] ∧ L = [.int .i64 x, .int .i64 y] ∧ I64 x ∧ I64 y := by
  unfold Program.keyLits at h
  rw [Try.underlying41] at h
  simp only [Try.cellsE] at h
  split at h
  · rename_i hc
    match cs, hc.1 with
    | [u, v], _ =>
      simp [Try.cI, List.mapM_cons, Option.bind_eq_some_iff] at h
      obtain ⟨a, ha, _, ⟨a2, ha2, rfl⟩, rfl⟩ := h
      obtain ⟨x, hx, rfl, h1⟩ := lits_int ha
      obtain ⟨y, hy, rfl, h2⟩ := lits_int ha2
      cases hx; cases hy
      exact ⟨x, y, rfl, rfl, h1, h2⟩
  · cases h
set_option maxRecDepth 100000 in
theorem key_inv {v : Value} {l : Lit} (h : keyOf Try.prog 41 v = some l) : ∃ e, v = eV e ∧ l = kE e ∧ EIn e := by
  obtain ⟨xs, L, rfl, h1, rfl⟩ := keyOf_top Try.wideE h
  obtain ⟨m, hm⟩ := some_succ _ Try.typesPos
  rw [hm] at h1
  obtain ⟨x, y, e1, rfl, hx, hy⟩ := two_of h1
  refine ⟨(x, y), ?_, rfl, hx, hy⟩
  obtain ⟨l⟩ := xs
  simp only at e1
  subst e1
  rfl
theorem kE_inj {a b : Int × Int} (ha : EIn a) (hb : EIn b) (h : kE a = kE b) : a = b := by
  have := Try.lawE.inj (key_mk ha) (by rw [key_mk hb, h])
  simp only [eV, Value.agg.injEq] at this
  simp at this
  exact Prod.ext this.1 this.2
theorem kE_key {e : Int × Int} (h : EIn e) : WideAt.IsKeyLit (kE e) := Try.lawE.key (key_mk h)
theorem kE_same {a b : Int × Int} (ha : EIn a) (hb : EIn b) : (kE a).sameKey (kE b) = decide (a = b) := by
  rw [Bool.eq_iff_iff, decide_eq_true_eq]
  constructor
  · intro h; exact kE_inj ha hb (WideAt.sameKey_eq h)
  · rintro rfl; exact WideAt.sameKey_self (kE_key ha)
/-- Block b is a set of edges, n at most: S says which. -/
def SetE (w : World) (b n : Nat) (S : Int × Int → Bool) : Prop := ∃ D : DataW Unit, w.ownsMap Try.prog 41 unitElem b n D ∧ ∀ e, EIn e → Maps.has D (kE e) = S e
theorem SetE.made (w : World) : SetE (w.alloc (.map #[] 0)) w.heap.size 0 (fun _ => false) := ⟨.map [], World.ownsMap_made w _ _ _, fun _ _ => rfl⟩
theorem SetE.mono {w : World} {b n m : Nat} {S : Int × Int → Bool} (h : SetE w b n S) (hn : n ≤ m) : SetE w b m S := let ⟨D, h1, h2⟩ := h; ⟨D, h1.mono hn, h2⟩
theorem SetE.lt {w : World} {b n : Nat} {S : Int × Int → Bool} (h : SetE w b n S) : b < w.heap.size := let ⟨D, h1, h2⟩ := h; h1.lt
theorem SetE.later {w w' : World} {b n : Nat} {S : Int × Int → Bool} (h : SetE w b n S) (hb : Below w.heap.size w w') : SetE w' b n S :=
  let ⟨D, h1, h2⟩ := h
  ⟨D, h1.kept (row := none) ⟨hb.os, hb.tape, hb.output, hb.size, fun k hk _ => hb.block k hk⟩ (by simp), h2⟩
theorem But.of_grown {w w' : World} {b : Nat} (h : w.grownBy w' (some b)) : But b w w' := ⟨h.os, h.tape, h.output, h.size, fun k hk hne => h.block k hk (fun e => hne (by cases e; rfl))⟩
theorem SetE.congr {w : World} {b n : Nat} {S T : Int × Int → Bool} (h : SetE w b n S) (hT : ∀ e, EIn e → S e = T e) : SetE w b n T := let ⟨D, h1, h2⟩ := h; ⟨D, h1, fun e he => (h2 e he).trans (hT e he)⟩

set_option maxRecDepth 100000 in
set_option maxHeartbeats 2000000 in
theorem add_any (b n : Nat) (x y : Int) (w : World) (S : Int × Int → Bool) (h : SetE w b n S) (hn : n < maxLen) (hx : I64 x) (hy : I64 y) :
    Calls Try.prog 35 #[.map (some b), .int .i64 x, .int .i64 y] w fun e w' => e = .returned (.tuple #[]) ∧ SetE w' b (n + 1) (fun z => decide (z = (x, y)) || S z) ∧ But b w w' := by
  obtain ⟨D, h1, h2⟩ := h
  go_enter Try.func35, Try.ntmps35
  go_wp2_with (first | (at_mapUpdate; refine wpList_mapUpdate_own _ rfl _ _ _ 71 rfl 41 91 Try.lawE Try.underlying71 unitElem b n D rfl h1 hn _ _ (kE (x, y)) rfl rfl (key_mk (e := (x, y)) ⟨hx, hy⟩) (.agg []) [] unitElem_mk ?_; intro w1 hown1 hgrow1) | go_in)
  go_end0
  refine ⟨rfl, ⟨_, hown1, fun e he => ?_⟩, But.of_grown hgrow1⟩
  by_cases hk : e = (x, y)
  · subst hk
    rw [has_put_same h1.isMap (kE_key he)]
    simp
  · rw [has_put_other (fun hc => hk (kE_inj he ⟨hx, hy⟩ hc)), h2 e he]
    simp [hk]
end Go.Proofs.Ytkikapodobeaaaa
namespace Go.Proofs.Ytkikapodobeaaaa
open Go.RowKit Go.Maps Go.Sort Go.Shelf
set_option linter.unusedVariables false
attribute [local go_sem] Oper.semAt_some

/-- What has come of a set, and what is left. -/
def CollE (S : Int × Int → Bool) (left : Lit → Bool) (ss : List (Int × Int)) : Prop :=
  ss.Nodup ∧ (∀ e ∈ ss, EIn e ∧ S e = true) ∧ ∀ e, EIn e → left (kE e) = (S e && !decide (e ∈ ss))
theorem CollE.step {S : Int × Int → Bool} {left : Lit → Bool} {ss : List (Int × Int)} (h : CollE S left ss) {e : Int × Int} (he : EIn e) (hl : left (kE e) = true) :
    CollE S (fun z => left z && !z.sameKey (kE e)) (ss ++ [e]) := by
  obtain ⟨h1, h2, h3⟩ := h
  have hn : e ∉ ss := by
    intro hc
    rw [h3 e he] at hl
    simp [hc] at hl
  refine ⟨?_, fun x hx => ?_, fun x hx => ?_⟩
  · rw [List.nodup_append]
    exact ⟨h1, by simp, fun a ha b hb => by simp at hb; subst hb; rintro rfl; exact hn ha⟩
  · rcases List.mem_append.1 hx with hx | hx
    · exact h2 x hx
    · simp at hx; subst hx
      rw [h3 _ he, Bool.and_eq_true] at hl
      exact ⟨he, hl.1⟩
  · show (left (kE x) && !(kE x).sameKey (kE e)) = _
    rw [kE_same hx he, h3 x hx]
    by_cases hxe : x = e
    · subst hxe; simp
    · simp [hxe]
/-- All that a set holds, each once. -/
def AllE (S : Int × Int → Bool) (ss : List (Int × Int)) : Prop := ss.Nodup ∧ (∀ e ∈ ss, EIn e) ∧ ∀ e, EIn e → (e ∈ ss ↔ S e = true)
theorem CollE.end {S : Int × Int → Bool} {left : Lit → Bool} {ss : List (Int × Int)} (h : CollE S left ss) (hl : ∀ kl, left kl = false) : AllE S ss := by
  obtain ⟨h1, h2, h3⟩ := h
  refine ⟨h1, fun e he => (h2 e he).1, fun e he => ?_⟩
  have := h3 e he
  rw [hl] at this
  constructor
  · intro hm
    exact (h2 e hm).2
  · intro hs
    rw [hs] at this
    simpa using this

/-- The same, and as many as there is room for at most. -/
def AllN (S : Int × Int → Bool) (nn : Nat) (ss : List (Int × Int)) : Prop := AllE S ss ∧ ss.length ≤ nn
set_option maxRecDepth 100000 in
set_option maxHeartbeats 1000000 in
theorem keysE_in (F : Fence) (n : Nat) (h10 : F.fn 50) (hro : F.round = none) (hn : 1 ≤ n) (l Bm b nn : Nat) (S : Int × Int → Bool) (J Jx : List (Int × Int) → World → Prop)
    (hY : ∀ pre x W, J pre W → pre.length < nn → YieldAt F (n - 1) Try.prog l #[.agg #[.int .i64 x.1, .int .i64 x.2]] W fun e W' =>
      (e = .returned (.bool true) ∧ J (pre ++ [x]) W' ∧ KeepsWalks W W') ∨ (e = .returned (.bool false) ∧ Jx (pre ++ [x]) W'))
    (W : World) (hJ : AbidesFrom W.heap.size J) (hm : W.cell? ⟨Bm, 0, none⟩ = some (.map (some b))) (hown : SetE W b nn S) (h0 : J [] W) :
    CallsIn F n Try.prog 50 #[.func (.yield l) #[] #[], .pointer (some ⟨Bm, 0, none⟩)] W fun e W' => (∃ v, e = .returned v) ∧
      ((∃ ss, AllN S nn ss ∧ J ss W') ∨ (∃ pre, True ∧ Jx pre W')) := by
  obtain ⟨D0, hown, hS⟩ := hown
  refine callsIn_of_wp Try.func50 rfl h10 ?_ hro
  simp only [Try.ntmps50, List.size_toArray, List.length_cons, List.length_nil, Nat.reduceAdd, Nat.reduceSub, Array.replicate_succ, Array.replicate_zero, List.push_toArray, List.append_toArray, List.nil_append, List.cons_append]
  gi_wp2_with (first
    | (gi_at_range; refine wpListIn_range_own _ rfl _ 71 rfl 41 91 Try.lawE Try.underlying71 _ b nn _ rfl hown ?_; intro w0 hrg0 hg0 hs0)
    | gi_in)
  go_frame
  gi_loopw [3] (fun _ wr => ∃ (left : Lit → Bool) (cnt : Nat) (ss : List (Int × Int)), wr.ranges Try.prog 41 unitElem b W.heap.size nn D0 left cnt ∧ ss.length + cnt ≤ Maps.size D0 ∧ CollE S left ss ∧ J ss wr)
    (fun _ wr => wr.rangeLeft b W.heap.size)
  case atStart =>
    exact ⟨_, _, [], hrg0, by simp, ⟨List.nodup_nil, by simp, fun e he => by rw [hS e he]; simp⟩, hJ [] W w0 none h0 hg0 (fun r e => by cases e)⟩
  case round =>
    obtain ⟨left, cnt, ss, hrg, hcs, hC, hJs⟩ := hrel
    gi_wp2_with (first
      | (gi_at_next; refine wpListIn_next_ranges _ rfl _ rfl 41 Try.lawE unitElem (fun e : Int × Int => Value.agg #[.int .i64 e.1, .int .i64 e.2]) id (fun key kl hk => by obtain ⟨x, hx, _⟩ := key_inv hk; exact ⟨x, hx⟩) (fun v _ _ => ⟨v, rfl⟩) b W.heap.size nn _ _ _ rfl hrg ?_ ?_)
      | gi_in)
    · intro hc0 hl0
      gi_wp2
      go_end0
      exact ⟨⟨_, rfl⟩, .inl ⟨ss, ⟨hC.end hl0, by have := hown.size_le; omega⟩, hJs⟩⟩
    · intro x y c kl yd yp w2 cnt2 hkey hlk hv hat hrg2 hlt hg2 hs2 hen
      obtain ⟨x', ex, rfl, hx⟩ := key_inv hkey
      obtain ⟨x2, y2⟩ := x'
      simp only [eV, Value.agg.injEq] at ex
      simp at ex
      obtain ⟨rfl, rfl⟩ := ex
      have hsz : Maps.size D0 ≤ nn := hown.size_le
      have hJ2 : J ss w2 := hJ ss wr w2 (some W.heap.size) hJs hg2 (fun r e => by cases e; exact ⟨Nat.le_refl _, hrg.iter_walk⟩)
      have hJ3 : J ss (w2.alloc (.cells #[.int .i64 x, .int .i64 y] 41)) := hJ ss w2 _ none hJ2 (World.grownBy_alloc _ _ none) (fun r e => by cases e)
      have hrg3 := hrg2.alloc (.cells #[.int .i64 x, .int .i64 y] 41)
      obtain ⟨fn, tmps, assign, body, hy, hR⟩ := hY ss (x, y) _ hJ3 (by omega)
      dsimp only at hy
      clear hs2
      gi_wp2
      refine hR.mono ?_
      have hC2 := hC.step hx hlk
      rintro e W3 (⟨rfl, hJ4, hk4⟩ | ⟨rfl, hJx4⟩)
      · gi_wp2
        have hrg4 := hrg3.of_walks hk4
        go_roundw
        case rel => exact ⟨_, cnt2, ss ++ [(x, y)], hrg4, by simp; omega, hC2, hJ4⟩
        case measure => rw [hrg4.left_eq, hrg.left_eq]; exact hlt
      · gi_wp2
        refine bodyPost_ret (results_none rfl _ _ _) rfl ?_
        exact ⟨⟨_, rfl⟩, .inr ⟨ss ++ [(x, y)], trivial, hJx4⟩⟩

theorem keysE_stops (F : Fence) (n : Nat) (h10 : F.fn 50) (hro : F.round = none) (hn : 1 ≤ n) (Bm b nn : Nat) (S : Int × Int → Bool) (w : World) (hBm : Bm < w.heap.size)
    (hm : w.cell? ⟨Bm, 0, none⟩ = some (.map (some b))) (hown : SetE w b nn S) :
    SeqStopsK F n Try.prog 50 #[.pointer (some ⟨Bm, 0, none⟩)] (fun x : Int × Int => #[.agg #[.int .i64 x.1, .int .i64 x.2]]) KeepsWalks (AllN S nn) (fun _ => True) nn w := fun l J Jx W hW hJ _ hY h0 =>
  keysE_in F n h10 hro hn l Bm b nn S J Jx hY W hJ ((hW.cell (p := ⟨Bm, 0, none⟩) hBm).trans hm) (hown.later hW) h0

theorem keysMade_in (F : Fence) (n : Nat) (h5 : F.fn 37) (hro : F.round = none) (mb : Option Nat) (w : World) :
    CallsIn F n Try.prog 37 #[.map mb] w fun e w' => e = .returned (.func (.func 50) #[] #[.pointer (some ⟨w.heap.size, 0, none⟩)]) ∧ w' = w.alloc (.cells #[.map mb] 71) := by
  refine callsIn_of_wp Try.func37 rfl h5 ?_ hro
  simp only [Try.ntmps37, List.size_toArray, List.length_cons, List.length_nil, Nat.reduceAdd, Nat.reduceSub, Array.replicate_succ, Array.replicate_zero, List.push_toArray, List.append_toArray, List.nil_append, List.cons_append]
  gi_wp2
  go_ret
  exact ⟨rfl, rfl⟩

/-! ### slices.AppendSeq(nil, seq), slices.Collect(seq) -/
def eC (e : Int × Int) : List Value := [.int .i64 e.1, .int .i64 e.2]
theorem eC_len (e : Int × Int) : (eC e).length = 2 := rfl
theorem eC_one (e : Int × Int) : ∀ u ∈ eC e, u.oneCell' = true := by intro u hu; simp [eC] at hu; rcases hu with h | h <;> subst h <;> rfl
theorem Try.infoE : (Try.prog.info? 41).map (fun i => (i.zero, i.size, i.bytes)) = some (some (.agg #[.int .i64 0, .int .i64 0]), 2, 16) := by kernel_rfl
/-- The round's own edge. -/
def Box2 (W : World) (B : Nat) (e : Int × Int) : Prop := W.heap[B]? = some (.cells #[.int .i64 e.1, .int .i64 e.2] 41 (0, 0))
theorem Box2.kept {W W' : World} {row : Option Nat} {B : Nat} {e : Int × Int} (h : Box2 W B e) (hg : W.grownBy W' row) (hne : some B ≠ row) : Box2 W' B e := (hg.block B (lt_of_block h) hne).trans h
theorem Box2.own {β : Type} (B : Nat) (f : β → Int × Int) : Own (fun s W => Box2 W B (f s)) := fun s X Y row hs hg hrow =>
  hs.kept hg (fun e' => by obtain ⟨o, ho, hc⟩ := hrow B e'.symm; rw [show X.heap[B]? = _ from hs] at ho; cases ho; cases hc)
theorem cell_two_new (w : World) (x y : Value) (t : TypeId) : ∀ j u, [x, y][j]? = some u → (w.alloc (.cells #[x, y] t)).cell? ((⟨w.heap.size, 0, none⟩ : Addr).add j) = some u := by
  intro j u hu
  rw [add_at, Nat.zero_add]
  exact cell_in (heap_alloc_new w _) (by simpa using hu)

set_option maxRecDepth 100000 in
set_option maxHeartbeats 4000000 in
theorem appendE_in (F : Fence) (n : Nat) (h11 : F.fn 53) (hro : F.round = none) (hn : 2 ≤ n) (g : Nat) (lb : Array Value) (hFg : F.fn g) (eg : ∀ args w, (callFunc g args).run Try.prog w = .ok (.enter g args) w)
    (S : List (Int × Int) → Prop) (N : Nat) (hN : N ≤ maxLen) (hNb : N * 16 ≤ 140737488355328) (w : World)
    (hseq : SeqStopsK F (n - 1) Try.prog g lb (fun x : Int × Int => #[.agg #[.int .i64 x.1, .int .i64 x.2]]) KeepsWalks S (fun _ => True) N w) :
    CallsIn F n Try.prog 53 #[.slice none 0 0, .func (.func g) #[] lb] w fun e w' => ∃ (v : Value) (ss : List (Int × Int)), e = .returned v ∧ S ss ∧ w'.ownsRow w.heap.size 41 2 v ss.length (ss.flatMap eC) ∧ Below w.heap.size w w' := by
  have h1 : 1 ≤ n := by omega
  obtain ⟨i0, hi, hz0, hz1, hz2⟩ := info_parts Try.infoE
  refine callsIn_of_wp_marks Try.func53 rfl h11 ?_ hro
  simp only [Try.ntmps53, List.size_toArray, List.length_cons, List.length_nil, Nat.reduceAdd, Nat.reduceSub, Array.replicate_succ, Array.replicate_zero, List.push_toArray, List.append_toArray, List.nil_append, List.cons_append]
  gi_wp2
  have bv := Boxed.new w 29 (.slice none 0 0)
  have hB0 := below1 w (.cells #[.slice none 0 0] 29)
  have hs1 : (w.alloc (.cells #[.slice none 0 0] 29)).heap.size = w.heap.size + 1 := by simp
  obtain ⟨W0, hW0⟩ : ∃ W0, w.alloc (.cells #[.slice none 0 0] 29) = W0 := ⟨_, rfl⟩
  rw [hW0] at bv hB0 hs1 ⊢
  clear hW0
  refine wpIn_rangeFunc_ownH hro h1 (gf := g) (lb := lb) rfl hFg eg hseq walksK_t walksK_b hB0 (fun _ => rfl)
    (fun pre W => (∃ v, Boxed W w.heap.size 29 v ∧ W.ownsRow w.heap.size 41 2 v pre.length (pre.flatMap eC) ∧ True) ∧ Below w.heap.size w W)
    (fun _ _ _ => False)
    (OwnFrom.and (Own.from (holdsRow_own w.heap.size w.heap.size 29 41 2 (fun pre : List (Int × Int) => pre.length) (fun pre => pre.flatMap eC) (fun _ _ => True)) _) (ownFrom_below (Nat.le_refl _) (by omega)))
    (fun _ _ _ _ _ hs _ _ => hs)
    ⟨⟨_, bv, World.ownsRow_nil _ _ _ _, trivial⟩, hB0⟩
    (fun x a' W => ∃ Bx, w.heap.size < Bx ∧ Box2 W Bx x ∧ a' = { tmps := #[.slice none 0 0, .func (.func g) #[] lb, .pointer (some ⟨w.heap.size, 0, none⟩), undef, .slice none 0 0, .pointer (some ⟨Bx, 0, none⟩), .func (.func g) #[] lb, .agg #[.int .i64 x.1, .int .i64 x.2], undef, undef, undef, undef, undef], defers := [] })
    (fun x a' _ A B row hs hg hr => by
      obtain ⟨Bx, h1, h2, h3⟩ := hs
      exact ⟨Bx, h1, Box2.own (β := Unit) Bx (fun _ => x) () A B row h2 hg (fun r e => (hr r e).2), h3⟩)
    ?assign ?body ?done ?stop
  case assign =>
    rintro l pre ⟨x, y⟩ W K ⟨⟨v, hv, hrow, _⟩, hB⟩ hK
    gi_wp2
    exact hK _ _ ((KeepsOthers.alloc _ _).from _) (KeepsWalks.alloc _ _) ⟨⟨v, hv.alloc _, hrow.alloc _, trivial⟩, hB.alloc hB.size _⟩ ⟨W.heap.size, hv.lt, heap_alloc_new _ _, rfl⟩
  case body =>
    rintro l pre ⟨x, y⟩ a' W hl ⟨r, hr⟩ ⟨⟨v, hv, hrow, _⟩, hB⟩ ⟨Bx, hBx, hbx, rfl⟩ hlen
    have hbx' : W.heap[Bx]? = some (.cells #[.int .i64 x, .int .i64 y] 41 (0, 0)) := hbx
    have c0 := hv.cell
    have c1 : W.cell? ⟨Bx, 0, none⟩ = some (.int .i64 x) := cell_in hbx' rfl
    have c2 : W.cell? ⟨Bx, 1, none⟩ = some (.int .i64 y) := cell_in hbx' rfl
    have hle := hv.lt
    gi_wp2_with (first
      | (gi_at_builtin; refine wpListIn_append_own _ rfl _ _ 29 rfl w.heap.size 41 i0 (.agg #[.int .i64 0, .int .i64 0]) 2 16 Try.underlying29 hi hz0 hz1 hz2 rfl (by decide) _ _ _ rfl (hrow.alloc _) ⟨W.heap.size, 0, none⟩ 1 1 [.int .i64 x, .int .i64 y] rfl rfl (cell_two_new _ _ _ _) (eC_one (x, y)) (by omega) (by omega) (by have := hB.size; simp; omega) ?_; intro v' w1 hown' hgrow _; obtain ⟨g', cap', rfl⟩ := ownsRow_succ hown'; obtain ⟨hv1, hv2, hr2, hk2, hb2⟩ := hv.appended (by decide) hrow hB.size (Nat.le_refl _) hown' hgrow; have hc1 := hv1.cell; have hf1 := hv1.frozen)
      | gi_in)
    exact ⟨hk2.from _, hk2.walks, ⟨⟨_, hv2, by simpa [List.flatMap_append, eC] using hr2⟩, hB.trans hb2⟩⟩
  case done =>
    rintro D xs W hD hS ⟨⟨v, hv, hrow, _⟩, hB⟩ hK
    have c0 := hv.cell
    gi_wp2
    refine ⟨by simp, .inl ⟨_, _, rfl, run_takeDeferred hK, ?_⟩⟩
    exact ⟨_, results_tmp rfl _ _ _, v, xs, rfl, hS, ownsRow_putObj hrow _ hK rfl, hB.trans (belowK_b (w := w) (Nat.le_refl _) W D _ _ (by omega) hK rfl rfl)⟩
  case stop =>
    rintro D c pre W _ _ h _
    exact h.elim

set_option maxHeartbeats 1000000 in
theorem collectE_in (F : Fence) (n : Nat) (h8 : F.fn 48) (h11 : F.fn 53) (hro : F.round = none) (hn : 3 ≤ n) (g : Nat) (lb : Array Value) (hFg : F.fn g) (eg : ∀ args w, (callFunc g args).run Try.prog w = .ok (.enter g args) w)
    (S : List (Int × Int) → Prop) (N : Nat) (hN : N ≤ maxLen) (hNb : N * 16 ≤ 140737488355328) (w : World)
    (hseq : SeqStopsK F (n - 1 - 1) Try.prog g lb (fun x : Int × Int => #[.agg #[.int .i64 x.1, .int .i64 x.2]]) KeepsWalks S (fun _ => True) N w) :
    CallsIn F n Try.prog 48 #[.func (.func g) #[] lb] w fun e w' => ∃ (v : Value) (ss : List (Int × Int)), e = .returned v ∧ S ss ∧ w'.ownsRow w.heap.size 41 2 v ss.length (ss.flatMap eC) ∧ Below w.heap.size w w' := by
  have h1 : 1 ≤ n := by omega
  refine callsIn_of_wp Try.func48 rfl h8 ?_ hro
  simp only [Try.ntmps48, List.size_toArray, List.length_cons, List.length_nil, Nat.reduceAdd, Nat.reduceSub, Array.replicate_succ, Array.replicate_zero, List.push_toArray, List.append_toArray, List.nil_append, List.cons_append]
  gi_wp2_with (gi_at_call 53; refine (appendE_in F (n - 1) h11 hro (by omega) g lb hFg eg S N hN hNb _ hseq).mono ?_; rintro e w' ⟨v, ss, rfl, hS, hrow, hb⟩)
  go_ret
  exact ⟨v, ss, rfl, hS, hrow, hb⟩

/-- All of a set, in some order, each once. -/
theorem collectE_any (Bm b nn : Nat) (S : Int × Int → Bool) (w : World) (hm : w.cell? ⟨Bm, 0, none⟩ = some (.map (some b))) (hBm : Bm < w.heap.size) (hown : SetE w b nn S) (hN : nn * 16 ≤ 140737488355328) :
    Calls Try.prog 48 #[.func (.func 50) #[] #[.pointer (some ⟨Bm, 0, none⟩)]] w fun e w' => ∃ (v : Value) (ss : List (Int × Int)), e = .returned v ∧ AllN S nn ss ∧ w'.ownsRow w.heap.size 41 2 v ss.length (ss.flatMap eC) ∧ Below w.heap.size w w' :=
  (callsIn_wide (n := 3)).1 (collectE_in Fence.wide 3 trivial trivial rfl (by omega) _ _ trivial (enters_of Try.func50 (by kernel_rfl) rfl) (AllN S nn) nn (by unfold maxLen; omega) hN w (keysE_stops Fence.wide _ trivial rfl (by omega) Bm b nn S w hBm hm hown))
theorem keysMade_any (mb : Option Nat) (w : World) : Calls Try.prog 37 #[.map mb] w fun e w' => e = .returned (.func (.func 50) #[] #[.pointer (some ⟨w.heap.size, 0, none⟩)]) ∧ w' = w.alloc (.cells #[.map mb] 71) :=
  (callsIn_wide (n := 1)).1 (keysMade_in Fence.wide 1 trivial rfl mb w)
end Go.Proofs.Ytkikapodobeaaaa
namespace Go.Proofs.Ytkikapodobeaaaa
open Go.Shelf Go.RowKit Go.Lib Go.Sort
set_option linter.unusedVariables false
def Try.cmpInt_ren : Go.Shelf.Ren := ⟨fun | 5 => 40 | 7 => 51 | n => n, fun | 22 => 3 | 3 => 3 | 4 => 4 | n => n, fun | n => n⟩
theorem Try.cmpInt : Go.Proofs.SlLaysC2.n5 Try.prog Try.cmpInt_ren := {
  mixed := by kernel_rfl
  f5 := ⟨Try.f40.name, by decide, Try.func40.trans (congrArg some (by kernel_rfl))⟩
  f7 := ⟨Try.f51.name, by decide, Try.func51.trans (congrArg some (by kernel_rfl))⟩
  t3 := Try.underlying3
  a3 := Try.isAgg3
  z3 := Try.sizeOf3
  v3 := Try.zeroValue3
  t4 := Try.underlying4
  a4 := Try.isAgg4
  z4 := Try.sizeOf4
  v4 := Try.zeroValue4
  t22 := Try.underlying3
  a22 := Try.isAgg3
  z22 := Try.sizeOf3
  v22 := Try.zeroValue3 }
def Try.sortE_ren : Go.Shelf.Ren := ⟨fun | 6 => 49 | 15 => 55 | 14 => 54 | 28 => 64 | 29 => 65 | 20 => 56 | 21 => 57 | 22 => 58 | 23 => 59 | 24 => 60 | 25 => 61 | 26 => 62 | 27 => 63 | 46 => 66 | 47 => 67 | 48 => 68 | 49 => 69 | 50 => 70 | 57 => 71 | n => n, fun | 22 => 29 | 24 => 41 | 25 => 94 | 3 => 3 | 39 => 114 | 0 => 0 | 53 => 124 | 55 => 126 | 4 => 4 | 46 => 117 | 45 => 116 | 50 => 121 | 5 => 5 | 9 => 9 | 66 => 127 | 70 => 131 | 76 => 133 | 77 => 134 | n => n, fun | n => n⟩
theorem Try.sortE : Go.Proofs.SlLaysF0.n6 Try.prog Try.sortE_ren := {
  mixed := by kernel_rfl
  f6 := ⟨Try.f49.name, by decide, Try.func49.trans (congrArg some (by kernel_rfl))⟩
  f14 := ⟨Try.f54.name, by decide, Try.func54.trans (congrArg some (by kernel_rfl))⟩
  f15 := Try.func55.trans (congrArg some (by kernel_rfl))
  f20 := ⟨Try.f56.name, by decide, Try.func56.trans (congrArg some (by kernel_rfl))⟩
  f21 := ⟨Try.f57.name, by decide, Try.func57.trans (congrArg some (by kernel_rfl))⟩
  f22 := ⟨Try.f58.name, by decide, Try.func58.trans (congrArg some (by kernel_rfl))⟩
  f23 := ⟨Try.f59.name, by decide, Try.func59.trans (congrArg some (by kernel_rfl))⟩
  f24 := ⟨Try.f60.name, by decide, Try.func60.trans (congrArg some (by kernel_rfl))⟩
  f25 := ⟨Try.f61.name, by decide, Try.func61.trans (congrArg some (by kernel_rfl))⟩
  f26 := ⟨Try.f62.name, by decide, Try.func62.trans (congrArg some (by kernel_rfl))⟩
  f27 := ⟨Try.f63.name, by decide, Try.func63.trans (congrArg some (by kernel_rfl))⟩
  f28 := Try.func64.trans (congrArg some (by kernel_rfl))
  f29 := Try.func65.trans (congrArg some (by kernel_rfl))
  f46 := ⟨Try.f66.name, by decide, Try.func66.trans (congrArg some (by kernel_rfl))⟩
  f47 := Try.func67.trans (congrArg some (by kernel_rfl))
  f48 := Try.func68.trans (congrArg some (by kernel_rfl))
  f49 := ⟨Try.f69.name, by decide, Try.func69.trans (congrArg some (by kernel_rfl))⟩
  f50 := ⟨Try.f70.name, by decide, Try.func70.trans (congrArg some (by kernel_rfl))⟩
  f57 := ⟨Try.f71.name, by decide, Try.func71.trans (congrArg some (by kernel_rfl))⟩
  t0 := Try.underlying0
  a0 := Try.isAgg0
  z0 := Try.sizeOf0
  v0 := Try.zeroValue0
  t3 := Try.underlying3
  a3 := Try.isAgg3
  z3 := Try.sizeOf3
  v3 := Try.zeroValue3
  t4 := Try.underlying4
  a4 := Try.isAgg4
  z4 := Try.sizeOf4
  v4 := Try.zeroValue4
  t5 := Try.underlying5
  a5 := Try.isAgg5
  z5 := Try.sizeOf5
  v5 := Try.zeroValue5
  t9 := Try.underlying9
  a9 := Try.isAgg9
  z9 := Try.sizeOf9
  v9 := Try.zeroValue9
  t22 := Try.underlying29
  a22 := Try.isAgg29
  z22 := Try.sizeOf29
  v22 := Try.zeroValue29
  t25 := Try.underlying94
  a25 := Try.isAgg94
  z25 := Try.sizeOf94
  v25 := Try.zeroValue94
  t39 := Try.underlying114
  a39 := Try.isAgg114
  z39 := Try.sizeOf114
  v39 := Try.zeroValue114
  t45 := Try.underlying116
  a45 := Try.isAgg116
  z45 := Try.sizeOf116
  v45 := Try.zeroValue116
  t46 := Try.underlying117
  a46 := Try.isAgg117
  z46 := Try.sizeOf117
  v46 := Try.zeroValue117
  t50 := Try.underlying121
  a50 := Try.isAgg121
  z50 := Try.sizeOf121
  v50 := Try.zeroValue121
  t53 := Try.underlying124
  a53 := Try.isAgg124
  z53 := Try.sizeOf124
  v53 := Try.zeroValue124
  t55 := Try.underlying126
  a55 := Try.isAgg126
  z55 := Try.sizeOf126
  v55 := Try.zeroValue126
  t66 := Try.underlying127
  a66 := Try.isAgg127
  z66 := Try.sizeOf127
  v66 := Try.zeroValue127
  t70 := Try.underlying131
  a70 := Try.isAgg131
  z70 := Try.sizeOf131
  v70 := Try.zeroValue131
  t76 := Try.underlying133
  a76 := Try.isAgg133
  z76 := Try.sizeOf133
  v76 := Try.zeroValue133
  t77 := Try.underlying134
  a77 := Try.isAgg134
  z77 := Try.sizeOf134
  v77 := Try.zeroValue134 }

/-- Which of two edges comes first. -/
def orV (a b : Int) : Int := if a = 0 then b else a
def cmpE (x y : Int × Int) : Int := orV (Lib.compareInt x.1 y.1) (Lib.compareInt x.2 y.2)
theorem compare_is (a b : Int) : Lib.compareInt a b = if a < b then -1 else if b < a then 1 else 0 := by unfold Lib.compareInt; rfl
def ltE (x y : Int × Int) : Bool := decide (x.1 < y.1 ∨ (x.1 = y.1 ∧ x.2 < y.2))
theorem lt_cmpE : ltOf cmpE = ltE := by
  funext x y
  unfold ltOf cmpE orV ltE
  rw [compare_is, compare_is, Bool.eq_iff_iff, decide_eq_true_eq, decide_eq_true_eq]
  repeat' split
  all_goals omega
theorem swoE : SWO (ltOf cmpE) where
  irrefl x := by rw [lt_cmpE]; simp [ltE]
  trans x y z h1 h2 := by rw [lt_cmpE] at *; simp [ltE] at *; omega
  ntrans x y z h1 h2 := by rw [lt_cmpE] at *; simp [ltE] at *; omega
/-- A world that has grown and drawn alone. -/
def Gr (W X : World) : Prop := ∃ q os, X = grow (W.drewN q) os
theorem Gr.refl (W : World) : Gr W W := ⟨0, #[], by simp; rfl⟩
theorem Gr.drew {W X : World} (h : Gr W X) : Gr W X.drew := by
  obtain ⟨q, os, rfl⟩ := h
  exact ⟨q + 1, os, rfl⟩
theorem Gr.alloc {W X : World} (h : Gr W X) (o : Obj) : Gr W (X.alloc o) := by
  obtain ⟨q, os, rfl⟩ := h
  exact ⟨q, os ++ #[o], by rw [alloc_eq_grow, grow_grow]⟩
theorem Gr.block {W X : World} (h : Gr W X) {b : Nat} {o : Obj} (hb : W.heap[b]? = some o) : X.heap[b]? = some o := by
  obtain ⟨q, os, rfl⟩ := h
  show (W.heap ++ os)[b]? = some o
  rw [Array.getElem?_append_left (lt_of_block hb)]
  exact hb
theorem Gr.below {W X : World} (h : Gr W X) : Below W.heap.size W X := by
  obtain ⟨q, os, rfl⟩ := h
  refine ⟨rfl, rfl, rfl, ?_, fun k hk => ?_⟩
  · show W.heap.size ≤ (W.heap ++ os).size
    simp
  · show (W.heap ++ os)[k]? = _
    exact Array.getElem?_append_left hk

set_option maxRecDepth 100000 in
set_option maxHeartbeats 2000000 in
theorem or_any (b : Nat) (x y : Int) (w : World) (h0 : w.cell? ⟨b, 0, none⟩ = some (.int .i64 x)) (h1 : w.cell? ⟨b, 1, none⟩ = some (.int .i64 y)) :
    Calls Try.prog 39 #[.slice (some ⟨b, 0, none⟩) 2 2] w fun e w' => e = .returned (.int .i64 (orV x y)) ∧ w' = w := by
  have HR : Hid (orV x y = if x = 0 then y else x) := Lib.hid rfl
  go_enter Try.func39, Try.ntmps39
  go_wp2
  go_loopw [8] (fun i wr => wr = w ∧ ∃ k : Nat, k ≤ 2 ∧ i = .int .i64 k ∧ Hid (1 ≤ k → x = 0) ∧ Hid (2 ≤ k → y = 0)) (fun i _ => 2 - (intOf i).toNat)
  case atStart => exact ⟨rfl, 0, by omega, rfl, Lib.hid (by omega), Lib.hid (by omega)⟩
  case round =>
    obtain ⟨rfl, k, hk, rfl, HX, HY⟩ := hrel
    rcases (show k = 0 ∨ k = 1 ∨ k = 2 by omega) with rfl | rfl | rfl
    · by_cases hx : x = 0
      · have hxn : decide (x = 0) = true := by simpa using hx
        have hxp : Hid (x = 0) := Lib.hid hx
        go_wp2
        go_roundw
        case rel => exact ⟨trivial, 1, by omega, rfl, Lib.hid (fun _ => hxp.out), Lib.hid (by omega)⟩
        case measure => simp [intOf]
      · go_wp2
        go_ret
        exact ⟨by rw [HR.out, if_neg hx]; rfl, rfl⟩
    · have hx0 := HX.out (by omega)
      by_cases hy : y = 0
      · have hyp : Hid (y = 0) := Lib.hid hy
        go_wp2
        go_roundw
        case rel => exact ⟨trivial, 2, by omega, rfl, Lib.hid (fun _ => hx0), Lib.hid (fun _ => hyp.out)⟩
        case measure => simp [intOf]
      · go_wp2
        go_ret
        exact ⟨by rw [HR.out, if_pos hx0]; rfl, rfl⟩
    · have hx0 := HX.out (by omega)
      have hy0 := HY.out (by omega)
      go_wp2
      go_ret
      exact ⟨by rw [HR.out, if_pos hx0, hy0]; rfl, rfl⟩
theorem compare_any (x y : Int) (w : World) : Calls Try.prog 40 #[.int .i64 x, .int .i64 y] w fun e w' => e = .returned (.int .i64 (Lib.compareInt x y)) ∧ w' = w := by
  have h := AnyG.cmp_Compare_int Try.cmpInt x y w
  change Calls Try.prog 40 _ _ _ at h
  exact h
set_option maxRecDepth 100000 in
set_option maxHeartbeats 4000000 in
theorem cmpE_any (x y : Int × Int) (W : World) : Calls Try.prog 38 #[.agg #[.int .i64 x.1, .int .i64 x.2], .agg #[.int .i64 y.1, .int .i64 y.2]] W fun e w' => e = .returned (.int .i64 (cmpE x y)) ∧ Gr W w' := by
  obtain ⟨x0, x1⟩ := x
  obtain ⟨y0, y1⟩ := y
  have HR : Hid (cmpE (x0, x1) (y0, y1) = orV (Lib.compareInt x0 y0) (Lib.compareInt x1 y1)) := Lib.hid rfl
  obtain ⟨V, hV⟩ : ∃ V, V = (W.alloc (.cells #[.int .i64 x0, .int .i64 x1] 41)).alloc (.cells #[.int .i64 y0, .int .i64 y1] 41) := ⟨_, rfl⟩
  have HG : Hid (Gr W V) := Lib.hid (by rw [hV]; exact ((Gr.refl W).alloc _).alloc _)
  have b0 : V.heap[W.heap.size]? = some (.cells #[.int .i64 x0, .int .i64 x1] 41 (0, 0)) := by rw [hV]; exact (Below.heap_alloc _ _ _ (by simp)).trans (heap_alloc_new _ _)
  have b1 : V.heap[W.heap.size + 1]? = some (.cells #[.int .i64 y0, .int .i64 y1] 41 (0, 0)) := by
    rw [hV]
    have := heap_alloc_new (W.alloc (.cells #[.int .i64 x0, .int .i64 x1] 41)) (.cells #[.int .i64 y0, .int .i64 y1] 41)
    simpa using this
  have ks : ∀ X : World, Gr V X → (Gr V X ∧ X.cell? ⟨W.heap.size, 0, none⟩ = some (.int .i64 x0) ∧ X.cell? ⟨W.heap.size, 1, none⟩ = some (.int .i64 x1) ∧ X.cell? ⟨W.heap.size + 1, 0, none⟩ = some (.int .i64 y0) ∧ X.cell? ⟨W.heap.size + 1, 1, none⟩ = some (.int .i64 y1)) :=
    fun X h => ⟨h, cell_in (h.block b0) rfl, cell_in (h.block b0) rfl, cell_in (h.block b1) rfl, cell_in (h.block b1) rfl⟩
  have KS := Lib.hid ks
  have HV := Lib.hid hV
  obtain ⟨_, k0, k1, k2, k3⟩ := ks V (Gr.refl V)
  clear ks b0 b1 hV
  go_enter Try.func38, Try.ntmps38
  go_wp2_with fail
  rw [← HV.out]
  go_region_held3 (fun X => Gr V X ∧ X.cell? ⟨W.heap.size, 0, none⟩ = some (.int .i64 x0) ∧ X.cell? ⟨W.heap.size, 1, none⟩ = some (.int .i64 x1) ∧ X.cell? ⟨W.heap.size + 1, 0, none⟩ = some (.int .i64 y0) ∧ X.cell? ⟨W.heap.size + 1, 1, none⟩ = some (.int .i64 y1))
    (first | exact KS.out _ ((Gr.refl V).drew) | exact KS.out _ (((Gr.refl V).drew).alloc _) | exact KS.out _ (((Gr.refl V).alloc _).drew) | (go_split_ands; exact KS.out _ (Gr.drew (by assumption))) | (go_split_ands; exact KS.out _ (Gr.alloc (by assumption) _)) | (go_split_ands; exact KS.out _ (by assumption)))
    (first
    | (go_at_call 39; refine (or_any _ _ _ _ (cell_in (cs := #[.int .i64 (Lib.compareInt x0 y0), .int .i64 (Lib.compareInt x1 y1)]) (t := 3) (by (show (World.alloc _ _).heap[_]? = _; rw [heap_at, if_pos (by simp)])) rfl) (cell_in (cs := #[.int .i64 (Lib.compareInt x0 y0), .int .i64 (Lib.compareInt x1 y1)]) (t := 3) (by (show (World.alloc _ _).heap[_]? = _; rw [heap_at, if_pos (by simp)])) rfl)).mono ?_; rintro e w3 ⟨rfl, rfl⟩)
    | (go_at_call 40; refine (compare_any _ _ _).mono ?_; rintro e w4 ⟨rfl, rfl⟩))
  go_wp2_with fail
  go_ret
  exact ⟨by rw [HR.out]; rfl, (HG.out.alloc _).drew⟩

theorem flatE (ts : List (Int × Int)) : (flatK eC 2 ts.toArray).toList = ts.flatMap eC := by
  apply List.ext_getElem?
  intro j
  by_cases hj : j < ts.length * 2
  · have h1 : j / 2 < ts.length := by omega
    have h2 : j % 2 < 2 := by omega
    have h3 := flat_at eC 2 eC_len ts (j / 2) (j % 2) ts[j / 2] (by simp [h1]) h2
    rw [show j / 2 * 2 + j % 2 = j by omega] at h3
    rw [h3, Array.getElem?_toList]
    have h4 : j < (flatK eC 2 ts.toArray).size := by simpa using hj
    have h5 := get_flatK eC 2 ts.toArray j (by simpa using hj)
    rw [Array.getElem?_eq_getElem h4, ← getElem!_pos _ j h4, h5]
    have h6 : ts.toArray[j / 2]! = ts[j / 2] := by rw [getElem!_pos _ _ (by simpa using h1)]; simp
    rw [h6]
    have h7 : j % 2 < (eC (ts[j / 2])).length := h2
    rw [List.getElem?_eq_getElem h7, getElem!_pos (eC (ts[j / 2])) (j % 2) h7]
  · rw [List.getElem?_eq_none (by simpa using hj), List.getElem?_eq_none (by rw [flat_len eC 2 eC_len]; omega)]
theorem holdsE {w : World} {g : Nat} {cur : Array Value} {e : TypeId} {ss : List (Int × Int)} (hb : w.heap[g]? = some (.cells cur e (0, 0))) (ht : cur.toList.take (ss.length * 2) = ss.flatMap eC) : HoldsK eC 2 w g 0 ss.toArray := by
  intro j hj
  have hj' : j < ss.length * 2 := by simpa using hj
  refine ⟨?_, by simp [World.frozen?, hb]⟩
  have h1 : (cur.toList.take (ss.length * 2))[j]? = (flatK eC 2 ss.toArray).toList[j]? := by rw [ht, flatE]
  rw [List.getElem?_take_of_lt hj'] at h1
  simp only [World.cell?, hb, Nat.zero_add]
  simp only [Option.isSome_none, Bool.false_eq_true, if_false]
  rw [← Array.getElem?_toList, h1, Array.getElem?_toList, Array.getElem?_eq_getElem hj, getElem!_pos _ j hj]
  rfl
theorem heap_sortedE {w : World} {g n : Nat} {os : Array Obj} {cur : Array Value} {e : TypeId} {fr : Nat × Nat} (d : Array (Int × Int)) (hb : w.heap[g]? = some (.cells cur e fr)) :
    (sortWorldK eC 2 w g 0 n d os).heap[g]? = some (.cells (putCells id 0 (flatK eC 2 d) cur) e fr) := by
  have hg : g < w.heap.size := (Array.getElem?_eq_some_iff.1 hb).1
  unfold sortWorldK putRowK
  rw [heap_grow_old _ _ (by simpa using hg)]
  simp [putRow, mapBlock, Sort.ahead, Array.getElem?_modify, hb, onCells]
theorem grownBy_sortedE {w : World} {g n : Nat} {os : Array Obj} (d : Array (Int × Int)) : w.grownBy (sortWorldK eC 2 w g 0 n d os) (some g) := by
  unfold sortWorldK putRowK
  refine ⟨rfl, rfl, rfl, by simp, fun k hk hne => ?_⟩
  rw [heap_grow_old _ _ (by simpa using hk)]
  have : g ≠ k := fun e => hne (by rw [e])
  simp [putRow, mapBlock, Sort.ahead, Array.getElem?_modify, this]
theorem take_putCellsE (cur : Array Value) (ts : List (Int × Int)) (h : ts.length * 2 ≤ cur.size) : (putCells id 0 (flatK eC 2 ts.toArray) cur).toList.take (ts.length * 2) = ts.flatMap eC := by
  rw [← flatE]
  apply List.ext_getElem?
  intro j
  by_cases hj : j < ts.length * 2
  · rw [List.getElem?_take_of_lt hj, Array.getElem?_toList, Array.getElem?_toList]
    have h4 : j < (flatK eC 2 ts.toArray).size := by simpa using hj
    rw [Array.getElem?_eq_getElem h4, ← getElem!_pos _ j h4]
    simp [putCells, hj, show j < cur.size by omega]
  · rw [List.getElem?_take_eq_none (by omega), List.getElem?_eq_none (by simpa using hj)]
theorem Try.aggE (w : World) : (isAgg 41).run Try.prog w = .ok true w := by kernel_rfl
theorem Try.sizeE (w : World) : (Go.sizeOf 41).run Try.prog w = .ok 2 w := by kernel_rfl
/-- Edges, rising. -/
def sortV (ss : List (Int × Int)) : List (Int × Int) := ss.mergeSort fun x y => !(ltOf cmpE) y x
theorem sortV_len (ss : List (Int × Int)) : (sortV ss).length = ss.length := List.length_mergeSort _
set_option maxHeartbeats 1000000 in
theorem sortE_any (v : Value) (base : Nat) (ss : List (Int × Int)) (w : World) (hown : w.ownsRow base 41 2 v ss.length (ss.flatMap eC)) (hlen : ss.length < 4611686018427387904) :
    Calls Try.prog 49 #[v, .func (.func 38) #[] #[]] w fun e w' => e = .returned (.tuple #[]) ∧ w'.ownsRow base 41 2 v ss.length ((sortV ss).flatMap eC) ∧ Below base w w' := by
  rcases hown.2 with ⟨rfl, h0⟩ | ⟨g, cap, cur, rfl, hbase, hb, h1, h2, h3, h4⟩
  · have hs : ss = [] := List.eq_nil_of_length_eq_zero h0
    subst hs
    refine Calls.mono (AnyF.slices_SortFunc_none Try.sortE none 0 (.func (.func 38) #[] #[]) w) ?_
    rintro e w' ⟨rfl, rfl⟩
    refine ⟨rfl, ?_, Below.refl _ _⟩
    simpa [sortV] using hown
  · have eg : ∀ args w, (callFunc 38 args).run Try.prog w = .ok (.enter 38 args) w := enters_of Try.func38 (by kernel_rfl) rfl
    have hcon := AnyQ.slices_SortFunc_total Try.sortE 2 Try.aggE Try.sizeE eC eC_len eC_one cmpE swoE 38 #[] g 0 cap ss.toArray w eg (fun _ _ _ _ x y => cmpE_any x y _) (holdsE hb h4) (lt_of_block hb) (by simpa using hlen)
      (fun x y h1 h2 => by rw [lt_cmpE] at h1 h2; simp [ltE] at h1 h2; exact Prod.ext (by omega) (by omega))
    change Calls Try.prog 49 _ _ _ at hcon
    simp only [List.size_toArray] at hcon
    refine hcon.mono ?_
    rintro e w' ⟨rfl, n, os, rfl⟩
    refine ⟨rfl, ⟨by rw [flat_len eC 2 eC_len, sortV_len], .inr ⟨g, cap, _, rfl, hbase, heap_sortedE _ hb, h1, h2, by simp [putCells, h3], ?_⟩⟩, ?_⟩
    · have := take_putCellsE cur (sortV ss) (by rw [sortV_len, h3]; exact Nat.mul_le_mul_right _ h1)
      rw [sortV_len] at this
      exact this
    · exact ((But.of_grown (grownBy_sortedE _)).below hbase (by have := lt_of_block hb; omega))
end Go.Proofs.Ytkikapodobeaaaa
