/- Plain facts of a partition: who is picked; what each call keeps of the desks. -/
import Derived.Test.YtchbehnkkcjdgaaGreatPartM
namespace Go.Proofs.YtchbehnkkcjdgaaGreat
open Go.ChangeShapes Go.WideShapes Go.ChangeAt Go.RowKit
set_option linter.unusedVariables false

section
variable {ts : List Tk} {ss : List Sv} {st : Int} {x : Px}
theorem pickT_at : ∀ (m : Nat), (pickT ts ss x m).sv = true → ∃ i : Nat, i < m ∧ (pickT ts ss x m).n = i ∧ (x.ds i).busy = true
  | 0, h => by cases h
  | k + 1, h => by
    unfold pickT at h ⊢
    split at h
    · rename_i hc
      rw [if_pos hc]
      rw [Bool.and_eq_true, Dk.dueOk, Bool.and_eq_true] at hc
      exact ⟨k, by omega, rfl, hc.1.1⟩
    · rename_i hc
      rw [if_neg hc]
      obtain ⟨i, h1, h2, h3⟩ := pickT_at k h
      exact ⟨i, by omega, h2, h3⟩
theorem pickT_no : ∀ (m : Nat), (pickT ts ss x m).ok = false → (pickT ts ss x m).sv = false ∧ (pickT ts ss x m).n = 0
  | 0, h => ⟨rfl, by
    have hb := fo_f (h : foV ts x.hi x.js = false)
    show fkV ts x.hi x.js = 0
    unfold fkV
    rw [hb]⟩
  | k + 1, h => by
    unfold pickT at h ⊢
    split at h
    · cases h
    · rename_i hc
      rw [if_neg hc]
      exact pickT_no k h
theorem pickV_at (h : (pickV ts ss x).sv = true) : ∃ i : Nat, i < ss.length ∧ (pickV ts ss x).n = i ∧ (x.ds i).busy = true ∧ x.up = true := by
  unfold pickV at h ⊢
  split at h
  · rename_i hu
    rw [if_pos hu]
    obtain ⟨i, h1, h2, h3⟩ := pickT_at _ h
    exact ⟨i, h1, h2, h3, hu⟩
  · cases h
theorem pickV_no (h : (pickV ts ss x).ok = false) : (pickV ts ss x).sv = false ∧ (pickV ts ss x).n = 0 := by
  unfold pickV at h ⊢
  split at h
  · rename_i hu
    rw [if_pos hu]
    exact pickT_no _ h
  · rename_i hu
    rw [if_neg hu]
    exact ⟨rfl, rfl⟩
/-- What a desk keeps: its requests are in order, few were ever taken, its budget went by now. -/
structure DkIn (now m : Int) (d : Dk) : Prop where
  ok : d.Ok
  low : d.first + d.q.length ≤ m
  at_ : d.bud.by_ now
def DsIn (n : Nat) (now m : Int) (ds : Nat → Dk) : Prop := ∀ i, i < n → DkIn now m (ds i)
theorem DsIn.ok {n : Nat} {now m : Int} {ds : Nat → Dk} (h : DsIn n now m ds) : DsOk n ds := fun i hi => (h i hi).ok
theorem DsIn.by_ {n : Nat} {now now' m : Int} {ds : Nat → Dk} (h : DsIn n now m ds) (hn : now ≤ now') : DsBy n now' ds := fun i hi => by
  have := (h i hi).at_
  unfold Bud.by_ at this ⊢
  split <;> simp_all
  omega
theorem Bud.by_mono {b : Bud} {now now' : Int} (h : b.by_ now) (hn : now ≤ now') : b.by_ now' := by
  cases b with
  | c b => trivial
  | r b => exact Int.le_trans (h : b.now ≤ now) hn
theorem Bud.by_go {b : Bud} {s : Sv} {now : Int} {busy : Bool} : (b.go s st now busy).by_ now := by
  cases b with
  | c b => trivial
  | r b =>
    show (rGo s.c s.t st b now busy).now ≤ now
    unfold rGo
    dsimp only
    (repeat' split) <;> exact Int.le_refl _
theorem Bud.by_use {b : Bud} {s : Sv} {now : Int} (h : b.by_ now) : (b.use s).by_ now := by
  cases b with
  | c b => trivial
  | r b =>
    have h : b.now ≤ now := h
    show (rUse b).now ≤ now
    unfold rUse
    split
    · exact h
    · split <;> exact h
theorem Bud.by_done {b : Bud} {s : Sv} {now : Int} (h : b.by_ now) : (b.done s).by_ now := by
  cases b with
  | c b => trivial
  | r b => exact h
theorem Bud.by_stop {b : Bud} {s : Sv} {now : Int} (h : b.by_ now) : (b.stop s).by_ now := by
  cases b with
  | c b => trivial
  | r b => exact h
theorem Bud.by_resume {b : Bud} {now : Int} (h : b.by_ now) : b.resume.by_ now := by
  cases b with
  | c b => trivial
  | r b => exact h
theorem Bud.by_reset {b : Bud} {s : Sv} {now : Int} (h : b.by_ now) : (b.reset s).by_ now := by
  cases b with
  | c b => trivial
  | r b => exact h
theorem Bud.by_new {s : Sv} : (Bud.new s st).by_ st := by
  unfold Bud.new
  split
  · exact Int.le_refl _
  · trivial
theorem DkIn.mono {d : Dk} {now now' m m' : Int} (h : DkIn now m d) (hn : now ≤ now') (hm : m ≤ m') : DkIn now' m' d := ⟨h.ok, Int.le_trans h.low hm, Bud.by_mono h.at_ hn⟩
theorem DkIn.new {s : Sv} : DkIn st 1 (Dk.new s st) := ⟨Dk.Ok.new s st, by simp [Dk.new], Bud.by_new⟩
theorem DkIn.go {d : Dk} {s : Sv} {now now' m : Int} (h : DkIn now m d) : DkIn now' m (d.go s st now') := ⟨h.ok.same rfl rfl, h.low, Bud.by_go⟩
theorem DkIn.stop {d : Dk} {s : Sv} {now m : Int} (h : DkIn now m d) : DkIn now m (d.stop s) := ⟨h.ok.same rfl rfl, h.low, Bud.by_stop h.at_⟩
theorem DkIn.resume {d : Dk} {now m : Int} (h : DkIn now m d) : DkIn now m d.resume := ⟨h.ok.same rfl rfl, h.low, Bud.by_resume h.at_⟩
theorem DkIn.empty {d : Dk} {s : Sv} {now m : Int} (h : DkIn now m d) : DkIn now m (d.empty s) := ⟨h.ok.empty s, by have := h.low; simp only [Dk.empty, List.length_nil]; omega, Bud.by_reset h.at_⟩
theorem DkIn.take {d : Dk} {now m work : Int} (h : DkIn now m d) (h1 : 1 ≤ work ∧ work ≤ 1048576) (hm : m < 2199023255552) : DkIn now (m + 1) (d.take work) := by
  have hl := h.low
  refine ⟨h.ok.take h1 (by omega), ?_, ?_⟩
  · unfold Dk.take
    split
    · simp only [List.length_append, List.length_cons, List.length_nil]; omega
    · omega
  · unfold Dk.take
    split <;> exact h.at_
theorem DkIn.serve {d : Dk} {s : Sv} {now m : Int} (h : DkIn now m d) (hb : d.busy = true) : DkIn now m (d.serve s) := by
  have hl := h.low
  have ho := h.ok.serve s hb
  refine ⟨ho, ?_, ?_⟩
  · obtain ⟨bud, q, first⟩ := d
    cases q with
    | nil => simp [Dk.busy] at hb
    | cons y r =>
      replace hl : first + ((r.length + 1 : Nat) : Int) ≤ m := hl
      unfold Dk.serve
      split
      · split
        · show first + 1 + ((0 : Nat) : Int) ≤ m; omega
        · show first + 1 + (r.length : Int) ≤ m; omega
      · show first + ((r.length + 1 : Nat) : Int) ≤ m; omega
  · unfold Dk.serve
    split
    · split
      · exact Bud.by_done (Bud.by_use h.at_)
      · exact Bud.by_use h.at_
    · exact Bud.by_use h.at_
/-- Call by call. -/
theorem DsIn.newPx {n : Nat} : DsIn n st 1 (newPx ts ss st).ds := fun i _ => DkIn.new
theorem DsIn.mono {n : Nat} {now now' m m' : Int} {ds : Nat → Dk} (h : DsIn n now m ds) (hn : now ≤ now') (hm : m ≤ m') : DsIn n now' m' ds := fun i hi => (h i hi).mono hn hm
theorem DsIn.arrX {n : Nat} {now m a t work done : Int} {ops : List Wn} (h : DsIn n now m x.ds) : DsIn n now m (arrX ts x a t work done ops).ds := by
  unfold Proofs.YtchbehnkkcjdgaaGreat.arrX; split <;> exact h
theorem DsIn.reqX {now m s work : Int} (h : DsIn ss.length now m x.ds) (hm : m < 2199023255552) : DsIn ss.length now (m + 1) (reqX ss x s work).ds := by
  unfold Proofs.YtchbehnkkcjdgaaGreat.reqX
  split
  · rename_i he
    have hw : workOk work = true := by
      unfold reqE at he
      split at he
      · split at he
        · rename_i hc; rw [Bool.and_eq_true] at hc; exact hc.2
        · omega
      · omega
    simp only [workOk, Bool.and_eq_true, decide_eq_true_eq] at hw
    intro i hi
    show DkIn now (m + 1) (updD x.ds s.toNat ((x.ds s.toNat).take work) i)
    unfold updD
    split
    · rename_i e
      subst e
      exact (h _ hi).take hw hm
    · exact (h i hi).mono (Int.le_refl _) (by omega)
  · exact h.mono (Int.le_refl _) (by omega)
theorem DsIn.setX {n : Nat} {now m : Int} (h : DsIn n now m x.ds) : DsIn n now m (setX ts x).ds := by
  unfold Proofs.YtchbehnkkcjdgaaGreat.setX
  split
  · exact fun i hi => (h i hi).resume
  · exact h
theorem DsIn.begX {n : Nat} {now now' m : Int} (h : DsIn n now m x.ds) (hn : now ≤ now') : DsIn n now' m (begX ts ss st x now').ds := by
  unfold Proofs.YtchbehnkkcjdgaaGreat.begX
  split
  · exact fun i hi => ((DsIn.setX (x := misX ts x now') h) i hi).go
  · exact h.mono hn (Int.le_refl _)
theorem DsIn.risX {n : Nat} {now m : Int} (h : DsIn n now m x.ds) : DsIn n now m (risX ts ss x).ds := fun i hi => (h i hi).stop
theorem DsIn.runX {now m : Int} (h : DsIn ss.length now m x.ds) : DsIn ss.length now m (runX ts ss x).ds := by
  unfold Proofs.YtchbehnkkcjdgaaGreat.runX
  split
  · split
    · rename_i hs
      obtain ⟨k, hk, e, hb, _⟩ := pickV_at hs
      rw [e, Int.toNat_natCast]
      intro i hi
      show DkIn now m (updD x.ds k ((x.ds k).serve (svAt ss k)) i)
      unfold updD
      split
      · rename_i e
        subst e
        exact (h _ hi).serve hb
      · exact h i hi
    · unfold runJX
      split
      · exact DsIn.setX (x := jobX ts x _) h
      · split
        · exact DsIn.setX (x := jobX ts x _) h
        · split
          · exact DsIn.risX (x := jobX ts x _) h
          · exact h
  · exact h
theorem DsIn.stopX {n : Nat} {now m : Int} {up : Bool} (h : DsIn n now m x.ds) : DsIn n now m (stopX ss up x).ds := fun i hi => (h i hi).empty
end
end Go.Proofs.YtchbehnkkcjdgaaGreat
