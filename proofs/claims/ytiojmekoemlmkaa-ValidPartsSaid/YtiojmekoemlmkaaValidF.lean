/- The looks at all windows, all partitions, all channels: what they find when they are asked. -/
import Derived.Test.YtiojmekoemlmkaaValidE
import Derived.Test.YtiojmekoemlmkaaSysA
namespace Go.Proofs.Ytiojmekoemlmkaa
open Go.ChangeShapes Go.WideShapes Go.ChangeAt Go.RowKit
set_option linter.unusedVariables false

/-- v is a look that tells r, asked in w; K holds of the world behind it. -/
def Finds (w : World) (v : Value) (r : Int × Int) (K : World → Prop) : Prop :=
  ∃ g c, v = .func (.func g) #[] c ∧ (g = 44 ∨ g = 62) ∧ Calls Try.prog g c w fun e w' => e = .returned (.tuple #[.int .i64 r.1, .int .i64 r.2]) ∧ K w'
theorem must_finds {w : World} {lo hi : Nat} {v : Value} {well : Bool} {err at_ : Int} (h : MustAt w lo hi v well err at_) : Finds w v (mustV well err at_) (Below w.heap.size w) := by
  obtain ⟨g, c, rfl, hc⟩ := mustLook_any h
  obtain ⟨b0, b1, b2, e, _⟩ := h
  cases e
  refine ⟨_, _, rfl, .inl rfl, hc.mono ?_⟩
  rintro e w' ⟨he, n, rfl⟩
  exact ⟨he, below_drewN n (Below.refl _ _)⟩
theorem win_finds {w : World} {lo hi be : Nat} {v : Value} {fr mg : Int} {wa : Option Addr} {wn wc : Nat} {pa : Option Addr} {pn pc : Nat} {ca : Option Addr} {cn cc : Nat} (h : WinAt w lo hi be v fr mg wa wn wc pa pn pc ca cn cc) (hhi : hi ≤ w.heap.size)
    {l0 : Nat} {ws : List Wn} (hwn : ws.length = wn) (hws : Lies w 0 l0 (.slice wa wn wc) wn 3 (ws.flatMap Wn.cells)) (hl0 : l0 ≤ lo) (hin : ∀ x ∈ ws, x.In) (f1 : 1 ≤ fr) (f2 : fr ≤ 256) (hsm : wn ≤ 1000) :
    Finds w v (fstV (eachL (errsW fr pn 0 ws) 0)) (But be w) := by
  obtain ⟨bc, ⟨h1, h2, h3⟩, ⟨b0, b1, rfl, ⟨g0, g1⟩, ⟨g2, g3⟩, c0, c1⟩, hc, hb⟩ := h
  refine ⟨_, _, rfl, .inr rfl, (eachLook_any (I := fun k W => But be w W ∧ ∃ a, W.heap[be]? = some (.cells #[.int .i64 a] 3 (0, 0)) ∧ ((∀ (i : Nat) (x : Int), i < k → (errsW fr pn 0 ws)[i]? = some x → x = 0) → a = endW 0 ws k))
    (g := 46) (c := #[.pointer (some ⟨bc, 0, none⟩), .pointer (some ⟨be, 0, none⟩)]) (b0 := b0) (b1 := b1) (n := wn) (es := errsW fr pn 0 ws) ?_ w ⟨But.refl _ _, 0, hb, fun _ => by cases ws <;> rfl⟩).mono ?_⟩
  · refine ⟨by rw [errsW_len, hwn], hsm, .inl rfl, fun k W hI => cell_same (hI.1.same (lo := be + 1) (hi := hi) (.inl (by omega)) hhi) g0 g1 c0, fun k W hI => cell_same (hI.1.same (lo := be + 1) (hi := hi) (.inl (by omega)) hhi) g2 g3 c1, ?_⟩
    intro k r hr hok W hI
    obtain ⟨hbut, a, ha, haw⟩ := hI
    have hae := haw hok
    subst hae
    have hEb := endW_in (F := fr) (pn := pn) (a := 0) (l := ws) (k := k) (by omega) (by omega) hok
    rw [errsW_at] at hr
    obtain ⟨x, hx, rfl⟩ := Option.map_eq_some_iff.1 hr
    have hsame : SameIn w W 0 l0 := hbut.same (.inr (by omega)) (by omega)
    refine (winTell_any fr mg wa pa ca wn wc pn pc cn cc bc be k (endW 0 ws k) x W 0 l0 ws ((hbut.block bc (by omega) (by omega)).trans hc) ha hwn (hws.keep hsame) (by have := hbut.size; omega) hx (hin x (List.mem_of_getElem? hx)) f1 f2 hEb.1 hEb.2).mono ?_
    rintro e w' ⟨rfl, ⟨u, hu, huw⟩, hb2⟩
    refine ⟨rfl, hbut.trans hb2, u, hu, fun hz => ?_⟩
    rw [endW_next hx]
    refine huw ?_
    have := hz k _ (by omega) (by rw [errsW_at, hx]; rfl)
    by_cases g : okWn fr (endW 0 ws k) pn x = true
    · exact g
    · dsimp only at this; rw [if_neg g] at this; omega
  · rintro e w' ⟨he, k, _, hk⟩
    exact ⟨he, hk.1⟩
theorem part_finds {w : World} {lo hi : Nat} {v : Value} {fr mg : Int} {wa : Option Addr} {wn wc : Nat} {pa : Option Addr} {pn pc : Nat} {ca : Option Addr} {cn cc : Nat} (h : partAt w lo hi v fr mg wa wn wc pa pn pc ca cn cc) (hhi : hi ≤ w.heap.size)
    {l0 : Nat} {ps : List Pt} {pvs : List Pv} (hpn : ps.length = pn) (hps : Lies w 0 l0 (.slice pa pn pc) pn 6 (pvs.flatMap Pv.cells)) (hal : AllLie w 0 l0 pvs ps) (hl0 : l0 ≤ w.heap.size) (hsm : pn ≤ 1000) (hf : ∀ p ∈ ps, p.ts.length ≤ 1000 ∧ p.ss.length ≤ 1000 ∧ p.ds.length ≤ 1000) :
    Finds w v (fstV (eachL (errsP pn ps 0) 0)) (Below w.heap.size w) := by
  obtain ⟨bc, ⟨h1, h2⟩, ⟨b0, b1, rfl, ⟨g0, g1⟩, ⟨g2, g3⟩, c0, c1⟩, hc⟩ := h
  refine ⟨_, _, rfl, .inr rfl, (eachLook_any (I := fun k W => Below w.heap.size w W)
    (g := 48) (c := #[.pointer (some ⟨bc, 0, none⟩)]) (b0 := b0) (b1 := b1) (n := pn) (es := errsP pn ps 0) ?_ w (Below.refl _ _)).mono ?_⟩
  · refine ⟨by rw [errsP_len, hpn], hsm, .inr (.inl rfl), fun k W hI => cell_same (SameIn.of_below hI hhi) g0 g1 c0, fun k W hI => cell_same (SameIn.of_below hI hhi) g2 g3 c1, ?_⟩
    intro k r hr hok W hI
    rw [errsP_at] at hr
    obtain ⟨x, hx, rfl⟩ := Option.map_eq_some_iff.1 hr
    rw [Nat.zero_add]
    have hsame : SameIn w W 0 l0 := SameIn.of_below hI hl0
    refine (partTell_any fr mg wa pa ca wn wc pn pc cn cc bc k x W 0 l0 ps pvs ((hI.block bc (by omega)).trans hc) hpn (hps.keep hsame) (hal.keep hsame) (by have := hI.size; omega) hx hsm (hf x (List.mem_of_getElem? hx))).mono ?_
    rintro e w' ⟨rfl, hb2⟩
    exact ⟨rfl, hI.trans (hb2.mono hI.size)⟩
  · rintro e w' ⟨he, k, _, hk⟩
    exact ⟨he, hk⟩
theorem chan_finds {w : World} {lo hi : Nat} {v : Value} {fr mg : Int} {wa : Option Addr} {wn wc : Nat} {pa : Option Addr} {pn pc : Nat} {ca : Option Addr} {cn cc : Nat} (h : chanAt w lo hi v fr mg wa wn wc pa pn pc ca cn cc) (hhi : hi ≤ w.heap.size)
    {l0 : Nat} {cs : List Ch} (hcn : cs.length = cn) (hcs : Lies w 0 l0 (.slice ca cn cc) cn 4 (cs.flatMap Ch.cells)) (hl0 : l0 ≤ w.heap.size) (hsm : cn ≤ 1000) (hp2 : pn ≤ 1000) :
    Finds w v (fstV (eachL (errsC pn cs) 0)) (Below w.heap.size w) := by
  obtain ⟨bc, ⟨h1, h2⟩, ⟨b0, b1, rfl, ⟨g0, g1⟩, ⟨g2, g3⟩, c0, c1⟩, hc⟩ := h
  refine ⟨_, _, rfl, .inr rfl, (eachLook_any (I := fun k W => Below w.heap.size w W)
    (g := 51) (c := #[.pointer (some ⟨bc, 0, none⟩)]) (b0 := b0) (b1 := b1) (n := cn) (es := errsC pn cs) ?_ w (Below.refl _ _)).mono ?_⟩
  · refine ⟨by unfold errsC; rw [List.length_map, hcn], hsm, .inr (.inr rfl), fun k W hI => cell_same (SameIn.of_below hI hhi) g0 g1 c0, fun k W hI => cell_same (SameIn.of_below hI hhi) g2 g3 c1, ?_⟩
    intro k r hr hok W hI
    unfold errsC at hr
    rw [List.getElem?_map] at hr
    obtain ⟨x, hx, rfl⟩ := Option.map_eq_some_iff.1 hr
    have hsame : SameIn w W 0 l0 := SameIn.of_below hI hl0
    refine (chanTell_any fr mg wa pa ca wn wc pn pc cn cc bc k x W 0 l0 cs ((hI.block bc (by omega)).trans hc) hcn (hcs.keep hsame) (by have := hI.size; omega) hx hp2).mono ?_
    rintro e w' ⟨rfl, hb2⟩
    exact ⟨rfl, hI.trans (hb2.mono hI.size)⟩
  · rintro e w' ⟨he, k, _, hk⟩
    exact ⟨he, hk⟩
/-- All that is told of a system, in order. -/
def tellsV (c : Cf) : List (Int × Int) :=
  [mustV (inB c.frame 1 256) 20 0, mustV (inB c.margin 0 8) 20 0, mustV (inB (c.ps.length : Int) 1 6) 1 0, mustV (decide ((c.ws.length : Int) ≤ 32)) 21 32,
   fstV (eachL (errsW c.frame c.ps.length 0 c.ws) 0), fstV (eachL (errsP c.ps.length c.ps 0) 0), mustV (decide ((c.cs.length : Int) ≤ 8)) 25 8, fstV (eachL (errsC c.ps.length c.cs) 0)]
theorem mustV_t (e k : Int) : mustV true e k = (0, 0) := rfl
theorem mustV_f (e k : Int) : mustV false e k = (e, k) := rfl
theorem tellsV_check (c : Cf) : fstV (tellsV c) = checkV c := by
  unfold tellsV checkV
  rw [fst_errsW, fst_errsP, fst_errsC]
  have hz : ∀ (l : List (Int × Int)), fstV ((0, 0) :: l) = fstV l := fun l => by rw [fstV, if_pos rfl]
  have hn : ∀ (e k : Int) (l : List (Int × Int)), e ≠ 0 → fstV ((e, k) :: l) = (e, k) := fun e k l h => by rw [fstV, if_neg h]
  by_cases h1 : 1 ≤ c.frame ∧ c.frame ≤ 256
  · by_cases h2 : 0 ≤ c.margin ∧ c.margin ≤ 8
    · have e0 : frameOk c.frame c.margin = true := decide_eq_true ⟨h1.1, h1.2, h2.1, h2.2⟩
      rw [if_neg (by simp [e0]), show inB c.frame 1 256 = true from decide_eq_true h1, show inB c.margin 0 8 = true from decide_eq_true h2, mustV_t, hz, hz]
      by_cases h3 : c.ps.length < 1 ∨ 6 < c.ps.length
      · rw [if_pos h3, show inB (c.ps.length : Int) 1 6 = false from decide_eq_false (by omega), mustV_f, hn _ _ _ (by omega)]
      · rw [if_neg h3, show inB (c.ps.length : Int) 1 6 = true from decide_eq_true (by omega), mustV_t, hz]
        unfold winV chanV
        by_cases h4 : 32 < c.ws.length
        · rw [if_pos h4, decide_eq_false (by omega), mustV_f, hn _ _ _ (by omega)]; rfl
        · rw [if_neg h4, decide_eq_true (by omega), mustV_t, hz]
          cases h5 : badW c.frame c.ps.length 0 c.ws 0 with
          | some k => simp only; rw [hn _ _ _ (by omega)]
          | none =>
            simp only
            rw [hz]
            cases h6 : badP c.ps.length c.ps 0 with
            | some x => simp only; rw [hn _ _ _ (badP_err h6)]
            | none =>
              simp only
              rw [hz]
              by_cases h7 : 8 < c.cs.length
              · rw [if_pos h7, decide_eq_false (by omega), mustV_f, hn _ _ _ (by omega)]; rfl
              · rw [if_neg h7, decide_eq_true (by omega), mustV_t, hz]
                cases h8 : badC c.ps.length c.cs 0 with
                | some k => simp only; rw [hn _ _ _ (by omega)]
                | none => simp only; rw [hz]; rfl
    · have e0 : frameOk c.frame c.margin = false := decide_eq_false (by omega)
      rw [if_pos e0, show inB c.frame 1 256 = true from decide_eq_true h1, show inB c.margin 0 8 = false from decide_eq_false h2, mustV_t, mustV_f, hz, hn _ _ _ (by omega)]
  · have e0 : frameOk c.frame c.margin = false := decide_eq_false (by omega)
    rw [if_pos e0, show inB c.frame 1 256 = false from decide_eq_false h1, mustV_f, hn _ _ _ (by omega)]
end Go.Proofs.Ytiojmekoemlmkaa
