/- A loop over a sequence that takes what it yields out of a store of its own, into which the body puts: both write the same cells. What is no cells stays. -/
import Derived.RangeFuncNested
import Derived.RangeFuncBound
import Derived.RangeFuncCalls
import Derived.RangeFuncLeaves
import Derived.Test.YtbjhoncojegjiaaDoorBase
namespace Go.Proofs.YtbjhoncojegjiaaDoor
open Go.RowKit
set_option linter.unusedVariables false

/-- It speaks of cells, and of what lies ahead of B. -/
def OwnW (B : Nat) (J : World → Prop) : Prop := OwnFrom B (fun (_ : Unit) W => J W)
theorem OwnW.put {B : Nat} {J : World → Prop} (h : OwnW B J) {W : World} {l : Nat} {o : Obj} (o' : Obj) (hs : J W) (hB : B ≤ l) (hl : W.heap[l]? = some o) (ho : o.isCells = false) : J (W.putObj l o') := OwnFrom.putObj (s := ()) h o' hs hB hl ho
theorem OwnW.new {B : Nat} {J : World → Prop} (h : OwnW B J) {W : World} (o : Obj) (hs : J W) : J (W.alloc o) := OwnFrom.alloc (s := ()) h o hs
/-- The post of a round's body. -/
def takenPost (J : World → Prop) (W : World) : Exit → Act → World → Prop
  | .normal, _, W' => KeepsOthers W W' ∧ J W'
  | _, _, _ => False
variable {F : Fence} {n : Nat} {P : Program}
theorem wpIn_rangeFunc_taken {α ι : Type} {g : Operand} {ps : Array Tmp} {assign body : Code} {Q : Exit → Act → World → Prop} {a : Act} {w : World}
    (hro : F.round = none) (h1 : 1 ≤ n) {gf : Nat} {lb : Array Value} (hg : a.eval g = .func (.func gf) #[] lb) (hFg : F.fn gf) (eg : ∀ args w, (callFunc gf args).run P w = .ok (.enter gf args) w)
    (enc : α → Value) (hps : ps.size = 1) (I : ι → World → Prop) (I' : α → ι → World → Prop) (hI : ∀ i, OwnW w.heap.size (I i)) (hI' : ∀ x i, OwnW w.heap.size (I' x i)) (i0 i1 : ι) (h0 : I i0 w)
    (hseq : ∀ (l : Nat) (Bk : World → Prop), (∀ A B, KeepsOthers A B → Bk A → Bk B) →
      (∀ x i W1, I' x i W1 → Bk W1 → YieldAt F (n - 1 - 1) P l #[enc x] W1 fun e W' => e = .returned (.bool true) ∧ I i W' ∧ Bk W') →
      ∀ W, I i0 W → Bk W → CallsIn F (n - 1) P gf (#[.func (.yield l) #[] #[]] ++ lb) W fun e W' => (∃ v, e = .returned v) ∧ I i1 W' ∧ Bk W')
    (a₁ : α → Act)
    (hassign : ∀ (l : Nat) (x : α) (W : World) (K : Act → World → Prop), K (a₁ x) W →
      assign.wpIn (F.inRound l) (n - 1 - 1) P (Exit.then K (fun _ _ _ => False)) { tmps := (ps.zip #[enc x]).foldl (fun t (p, v) => t.setIfInBounds p v) a.tmps, defers := [] } W)
    (hbody : ∀ (l : Nat) (x : α) (i : ι) (W : World), I' x i W → body.wpIn (F.inRound l) (n - 1 - 1) P (takenPost (I i) W) (a₁ x) W)
    (hdone : ∀ (D : Nat) (W : World), w.heap.size ≤ D → I i1 W → W.heap[D]? = some (.deferred (some [])) → Q .normal { a with defers := { target := .collected D, args := #[] } :: a.defers } W) :
    (Code.rangeFunc g ps assign body).wpIn F n P Q a w := by
  refine wpIn_rangeFunc fun fn hfn => ?_
  rw [hro]
  obtain ⟨D, hD⟩ : ∃ D, D = w.heap.size := ⟨_, rfl⟩
  let lp : LoopState → Loop := fun st => { state := st, pending := none, fn := fn, tmps := a.tmps, params := ps, assign := assign, body := body, defers := D }
  let W1 : World := (w.alloc (.deferred (some []))).alloc (.loop (lp .ready))
  have hl1 : W1.heap[D + 1]? = some (.loop (lp .ready)) := by
    have := World.alloc_heap_new (w.alloc (.deferred (some []))) (.loop (lp .ready))
    rwa [World.size_alloc, ← hD] at this
  have hd1 : W1.heap[D]? = some (.deferred (some [])) := by
    rw [hD]
    exact (Below.heap_alloc _ _ _ (by simp)).trans (World.alloc_heap_new w _)
  have hI1 : I i0 W1 := (hI i0).new _ ((hI i0).new _ h0)
  refine ⟨D + 1, [{ target := .collected D, args := #[] }], W1, { target := .fn (.func gf) lb, args := #[.func (.yield (D + 1)) #[] #[]] }, W1, gf, #[.func (.yield (D + 1)) #[] #[]] ++ lb, W1, ?_, ?_, ?_, ?_, fun _ => h1, ?_⟩
  · rw [hD]; exact (run_enterLoop_outer fn a.tmps ps assign body).trans (by simp only [W1, lp, hD])
  · simp only [resolve, hg]
    simp [go_sem]
  · intro f' hf'
    simp [Target.leads] at hf'
    subst hf'
    exact hFg
  · simp [invoke, go_sem, eg]
  let Bk : World → Prop := fun W => W.heap[D + 1]? = some (.loop (lp .ready)) ∧ W.heap[D]? = some (.deferred (some []))
  refine (hseq (D + 1) Bk (fun A B hk hb => ⟨hk.same _ _ hb.1 rfl, hk.same _ _ hb.2 rfl⟩) ?_ W1 hI1 ⟨hl1, hd1⟩).mono ?_
  · rintro x i W hi ⟨hl, hd⟩
    refine ⟨fn, _, assign, body, run_yield hl (by show _ = ps.size; rw [hps]; rfl), roundIn_of_wpIn hfn (hassign _ x W _ ⟨_, run_beginRound hl rfl, ?_⟩)⟩
    have hlt : D + 1 < W.heap.size := (Array.getElem?_eq_some_iff.1 hl).1
    let W2 : World := W.putObj (D + 1) (.loop (lp .busy))
    have hl2 : W2.heap[D + 1]? = some (.loop (lp .busy)) := World.putObj_heap_same hlt
    have hd2 : W2.heap[D]? = some (.deferred (some [])) := (World.putObj_heap_other (by omega)).trans hd
    refine wpIn_mono (hbody _ x i W2 ((hI' x i).put _ hi (by omega) hl rfl)) ?_
    rintro e a3 W3 hp
    cases e with
    | normal =>
      obtain ⟨hk, hi3⟩ := hp
      have hl3 := hk.same _ _ hl2 rfl
      have hd3 := hk.same _ _ hd2 rfl
      refine ⟨_, _, run_endRound none hl3, rfl, (hI i).put _ hi3 (by omega) hl3 rfl, World.putObj_heap_same (Array.getElem?_eq_some_iff.1 hl3).1, (World.putObj_heap_other (by omega)).trans hd3⟩
    | ret => exact hp.elim
    | exit id => exact hp.elim
    | goto t => exact hp.elim
    | panic c => exact hp.elim
    | outgrown => exact hp.elim
  · rintro e W2 ⟨⟨v, rfl⟩, hi, hl, hd⟩
    exact ⟨none, _, run_endLoop hl (by simp [lp]), hdone D _ (by omega) ((hI i1).put _ hi (by omega) hl rfl) ((World.putObj_heap_other (by omega)).trans hd)⟩
end Go.Proofs.YtbjhoncojegjiaaDoor
