/- Joined of ValidF, ValidG, ValidH: The looks at all windows, all partitions, all channels: what they find when they are asked. -/
import Derived.Test.YtmkohnpdpcefgaaValidQ
import Derived.Test.YtmkohnpdpcefgaaValidT
import Derived.Test.YtmkohnpdpcefgaaSys
namespace Go.Proofs.Ytmkohnpdpcefgaa
open Go.ChangeShapes Go.WideShapes Go.ChangeAt Go.RowKit
set_option linter.unusedVariables false

/-- v is a look that tells r, asked in w; K holds of the world behind it. -/
def Finds (w : World) (v : Value) (r : Int × Int) (K : World → Prop) : Prop :=
  ∃ g c, v = .func (.func g) #[] c ∧ (g = 56 ∨ g = 65) ∧ Calls Try.prog g c w fun e w' => e = .returned (.tuple #[.int .i64 r.1, .int .i64 r.2]) ∧ K w'
theorem must_finds {w : World} {lo hi : Nat} {v : Value} {well : Bool} {err at_ : Int} (h : MustAt w lo hi v well err at_) : Finds w v (mustV well err at_) (Below w.heap.size w) := by
  obtain ⟨g, c, rfl, hc⟩ := mustLook_any h
  obtain ⟨b0, b1, b2, e, _⟩ := h
  cases e
  refine ⟨_, _, rfl, .inl rfl, hc.mono ?_⟩
  rintro e w' ⟨he, n, rfl⟩
  exact ⟨he, below_drewN n (Below.refl _ _)⟩
theorem win_finds {w : World} {lo hi be : Nat} {v : Value} {fr mg : Int} {wa : Option Addr} {wn wc : Nat} {pa : Option Addr} {pn pc : Nat} {ca : Option Addr} {cn cc : Nat} (h : WinAt w lo hi be v fr mg wa wn wc pa pn pc ca cn cc) (hhi : hi ≤ w.heap.size)
    {l0 : Nat} {ws : List Wn} (hwn : ws.length = wn) (hws : Lies w 0 l0 (.slice wa wn wc) wn 3 (ws.flatMap Wn.cells)) (hl0 : l0 ≤ lo) (hin : ∀ x ∈ ws, x.In) (f1 : 1 ≤ fr) (f2 : fr ≤ 256) (hsm : wn ≤ 1000) :
    Finds w v (fstV (eachL (errsW fr pn 0 ws) 0)) (But be w) := by
  obtain ⟨bc, ⟨h1, h2, h3⟩, ⟨b0, b1, rfl, ⟨g0, g1⟩, ⟨g2, g3⟩, c0, c1⟩, hc, hb⟩ := h
  refine ⟨_, _, rfl, .inr rfl, (eachLook_any (I := fun k W => But be w W ∧ ∃ a, W.heap[be]? = some (.cells #[.int .i64 a] 3 (0, 0)) ∧ ((∀ (i : Nat) (x : Int), i < k → (errsW fr pn 0 ws)[i]? = some x → x = 0) → a = endW 0 ws k))
    (g := 58) (c := #[.pointer (some ⟨bc, 0, none⟩), .pointer (some ⟨be, 0, none⟩)]) (b0 := b0) (b1 := b1) (n := wn) (es := errsW fr pn 0 ws) ?_ w ⟨But.refl _ _, 0, hb, fun _ => by cases ws <;> rfl⟩).mono ?_⟩
  · refine ⟨by rw [errsW_len, hwn], hsm, .inl rfl, fun k W hI => cell_same (hI.1.same (lo := be + 1) (hi := hi) (.inl (by omega)) hhi) g0 g1 c0, fun k W hI => cell_same (hI.1.same (lo := be + 1) (hi := hi) (.inl (by omega)) hhi) g2 g3 c1, ?_⟩
    intro k r hr hok W hI
    obtain ⟨hbut, a, ha, haw⟩ := hI
    have hae := haw hok
    subst hae
    have hEb := endW_in (F := fr) (pn := pn) (a := 0) (l := ws) (k := k) (by omega) (by omega) hok
    rw [errsW_at] at hr
    obtain ⟨x, hx, rfl⟩ := Option.map_eq_some_iff.1 hr
    have hsame : SameIn w W 0 l0 := hbut.same (.inr (by omega)) (by omega)
    refine (winTell_any fr mg wa pa ca wn wc pn pc cn cc bc be k (endW 0 ws k) x W 0 l0 ws ((hbut.block bc (by omega) (by omega)).trans hc) ha hwn (hws.keep hsame) (by have := hbut.size; omega) hx (hin x (List.mem_of_getElem? hx)) f1 f2 hEb.1 hEb.2).mono ?_
    rintro e w' ⟨rfl, ⟨u, hu, huw⟩, hb2⟩
    refine ⟨rfl, hbut.trans hb2, u, hu, fun hz => ?_⟩
    rw [endW_next hx]
    refine huw ?_
    have := hz k _ (by omega) (by rw [errsW_at, hx]; rfl)
    by_cases g : okWn fr (endW 0 ws k) pn x = true
    · exact g
    · dsimp only at this; rw [if_neg g] at this; omega
  · rintro e w' ⟨he, k, _, hk⟩
    exact ⟨he, hk.1⟩
theorem part_finds {w : World} {lo hi : Nat} {v : Value} {fr mg : Int} {wa : Option Addr} {wn wc : Nat} {pa : Option Addr} {pn pc : Nat} {ca : Option Addr} {cn cc : Nat} (h : partAt w lo hi v fr mg wa wn wc pa pn pc ca cn cc) (hhi : hi ≤ w.heap.size)
    {l0 : Nat} {ps : List Pt} {pvs : List Pv} (hpn : ps.length = pn) (hps : Lies w 0 l0 (.slice pa pn pc) pn 6 (pvs.flatMap Pv.cells)) (hal : AllLie w 0 l0 pvs ps) (hl0 : l0 ≤ w.heap.size) (hsm : pn ≤ 1000) (hf : ∀ p ∈ ps, p.ds.length ≤ 140737488355328) :
    Finds w v (fstV (eachL (errsP pn ps 0) 0)) (Below w.heap.size w) := by
  obtain ⟨bc, ⟨h1, h2⟩, ⟨b0, b1, rfl, ⟨g0, g1⟩, ⟨g2, g3⟩, c0, c1⟩, hc⟩ := h
  refine ⟨_, _, rfl, .inr rfl, (eachLook_any (I := fun k W => Below w.heap.size w W)
    (g := 60) (c := #[.pointer (some ⟨bc, 0, none⟩)]) (b0 := b0) (b1 := b1) (n := pn) (es := errsP pn ps 0) ?_ w (Below.refl _ _)).mono ?_⟩
  · refine ⟨by rw [errsP_len, hpn], hsm, .inr (.inl rfl), fun k W hI => cell_same (SameIn.of_below hI hhi) g0 g1 c0, fun k W hI => cell_same (SameIn.of_below hI hhi) g2 g3 c1, ?_⟩
    intro k r hr hok W hI
    rw [errsP_at] at hr
    obtain ⟨x, hx, rfl⟩ := Option.map_eq_some_iff.1 hr
    rw [Nat.zero_add]
    have hsame : SameIn w W 0 l0 := SameIn.of_below hI hl0
    refine (partTell_any fr mg wa pa ca wn wc pn pc cn cc bc k x W 0 l0 ps pvs ((hI.block bc (by omega)).trans hc) hpn (hps.keep hsame) (hal.keep hsame) (by have := hI.size; omega) hx hsm (hf x (List.mem_of_getElem? hx))).mono ?_
    rintro e w' ⟨rfl, hb2⟩
    exact ⟨rfl, hI.trans (hb2.mono hI.size)⟩
  · rintro e w' ⟨he, k, _, hk⟩
    exact ⟨he, hk⟩
theorem chan_finds {w : World} {lo hi : Nat} {v : Value} {fr mg : Int} {wa : Option Addr} {wn wc : Nat} {pa : Option Addr} {pn pc : Nat} {ca : Option Addr} {cn cc : Nat} (h : chanAt w lo hi v fr mg wa wn wc pa pn pc ca cn cc) (hhi : hi ≤ w.heap.size)
    {l0 : Nat} {cs : List Ch} (hcn : cs.length = cn) (hcs : Lies w 0 l0 (.slice ca cn cc) cn 4 (cs.flatMap Ch.cells)) (hl0 : l0 ≤ w.heap.size) (hsm : cn ≤ 1000) (hp2 : pn ≤ 1000) :
    Finds w v (fstV (eachL (errsC pn cs) 0)) (Below w.heap.size w) := by
  obtain ⟨bc, ⟨h1, h2⟩, ⟨b0, b1, rfl, ⟨g0, g1⟩, ⟨g2, g3⟩, c0, c1⟩, hc⟩ := h
  refine ⟨_, _, rfl, .inr rfl, (eachLook_any (I := fun k W => Below w.heap.size w W)
    (g := 63) (c := #[.pointer (some ⟨bc, 0, none⟩)]) (b0 := b0) (b1 := b1) (n := cn) (es := errsC pn cs) ?_ w (Below.refl _ _)).mono ?_⟩
  · refine ⟨by unfold errsC; rw [List.length_map, hcn], hsm, .inr (.inr rfl), fun k W hI => cell_same (SameIn.of_below hI hhi) g0 g1 c0, fun k W hI => cell_same (SameIn.of_below hI hhi) g2 g3 c1, ?_⟩
    intro k r hr hok W hI
    unfold errsC at hr
    rw [List.getElem?_map] at hr
    obtain ⟨x, hx, rfl⟩ := Option.map_eq_some_iff.1 hr
    have hsame : SameIn w W 0 l0 := SameIn.of_below hI hl0
    refine (chanTell_any fr mg wa pa ca wn wc pn pc cn cc bc k x W 0 l0 cs ((hI.block bc (by omega)).trans hc) hcn (hcs.keep hsame) (by have := hI.size; omega) hx hp2).mono ?_
    rintro e w' ⟨rfl, hb2⟩
    exact ⟨rfl, hI.trans (hb2.mono hI.size)⟩
  · rintro e w' ⟨he, k, _, hk⟩
    exact ⟨he, hk⟩
/-- No list of donees is longer than any thing may be. -/
def Far (c : Cf) : Prop := ∀ p ∈ c.ps, p.ds.length ≤ 140737488355328
theorem Few.far {c : Cf} (f : Few c) : Far c := fun p hp => Nat.le_trans (f.2.2.2 p hp).2.2 (by omega)
/-- All that is told of a system, in order. -/
def tellsV (c : Cf) : List (Int × Int) :=
  [mustV (inB c.frame 1 256) 20 0, mustV (inB c.margin 0 8) 20 0, mustV (inB (c.ps.length : Int) 1 6) 1 0, mustV (decide ((c.ws.length : Int) ≤ 32)) 21 32,
   fstV (eachL (errsW c.frame c.ps.length 0 c.ws) 0), fstV (eachL (errsP c.ps.length c.ps 0) 0), mustV (decide ((c.cs.length : Int) ≤ 8)) 25 8, fstV (eachL (errsC c.ps.length c.cs) 0)]
theorem mustV_t (e k : Int) : mustV true e k = (0, 0) := rfl
theorem mustV_f (e k : Int) : mustV false e k = (e, k) := rfl
theorem tellsV_check (c : Cf) : fstV (tellsV c) = checkV c := by
  unfold tellsV checkV
  rw [fst_errsW, fst_errsP, fst_errsC]
  have hz : ∀ (l : List (Int × Int)), fstV ((0, 0) :: l) = fstV l := fun l => by rw [fstV, if_pos rfl]
  have hn : ∀ (e k : Int) (l : List (Int × Int)), e ≠ 0 → fstV ((e, k) :: l) = (e, k) := fun e k l h => by rw [fstV, if_neg h]
  by_cases h1 : 1 ≤ c.frame ∧ c.frame ≤ 256
  · by_cases h2 : 0 ≤ c.margin ∧ c.margin ≤ 8
    · have e0 : frameOk c.frame c.margin = true := decide_eq_true ⟨h1.1, h1.2, h2.1, h2.2⟩
      rw [if_neg (by simp [e0]), show inB c.frame 1 256 = true from decide_eq_true h1, show inB c.margin 0 8 = true from decide_eq_true h2, mustV_t, hz, hz]
      by_cases h3 : c.ps.length < 1 ∨ 6 < c.ps.length
      · rw [if_pos h3, show inB (c.ps.length : Int) 1 6 = false from decide_eq_false (by omega), mustV_f, hn _ _ _ (by omega)]
      · rw [if_neg h3, show inB (c.ps.length : Int) 1 6 = true from decide_eq_true (by omega), mustV_t, hz]
        unfold winV chanV
        by_cases h4 : 32 < c.ws.length
        · rw [if_pos h4, decide_eq_false (by omega), mustV_f, hn _ _ _ (by omega)]; rfl
        · rw [if_neg h4, decide_eq_true (by omega), mustV_t, hz]
          cases h5 : badW c.frame c.ps.length 0 c.ws 0 with
          | some k => simp only; rw [hn _ _ _ (by omega)]
          | none =>
            simp only
            rw [hz]
            cases h6 : badP c.ps.length c.ps 0 with
            | some x => simp only; rw [hn _ _ _ (badP_err h6)]
            | none =>
              simp only
              rw [hz]
              by_cases h7 : 8 < c.cs.length
              · rw [if_pos h7, decide_eq_false (by omega), mustV_f, hn _ _ _ (by omega)]; rfl
              · rw [if_neg h7, decide_eq_true (by omega), mustV_t, hz]
                cases h8 : badC c.ps.length c.cs 0 with
                | some k => simp only; rw [hn _ _ _ (by omega)]
                | none => simp only; rw [hz]; rfl
    · have e0 : frameOk c.frame c.margin = false := decide_eq_false (by omega)
      rw [if_pos e0, show inB c.frame 1 256 = true from decide_eq_true h1, show inB c.margin 0 8 = false from decide_eq_false h2, mustV_t, mustV_f, hz, hn _ _ _ (by omega)]
  · have e0 : frameOk c.frame c.margin = false := decide_eq_false (by omega)
    rw [if_pos e0, show inB c.frame 1 256 = false from decide_eq_false h1, mustV_f, hn _ _ _ (by omega)]
end Go.Proofs.Ytmkohnpdpcefgaa
namespace Go.Proofs.Ytmkohnpdpcefgaa
open Go.ChangeShapes Go.WideShapes Go.ChangeAt Go.RowKit
set_option linter.unusedVariables false

theorem mustV_zero {well : Bool} {e k : Int} (h : (mustV well e k).1 = 0) (he : e ≠ 0) : well = true := by
  cases well
  · exact absurd h he
  · rfl
/-- The eight looks, as they were made: each in its own blocks. -/
structure Eight (W : World) (B be : Nat) (v1 v2 v3 v4 v5 v6 v7 v8 : Value) (c : Cf) (wa pa ca : Option Addr) (wc pc cc : Nat) : Prop where
  low : B ≤ be
  high : be < W.heap.size
  m1 : MustAt W B be v1 (inB c.frame 1 256) 20 0
  m2 : MustAt W B be v2 (inB c.margin 0 8) 20 0
  m3 : MustAt W B be v3 (inB (c.ps.length : Int) 1 6) 1 0
  m4 : MustAt W B be v4 (decide ((c.ws.length : Int) ≤ 32)) 21 32
  m5 : WinAt W B W.heap.size be v5 c.frame c.margin wa c.ws.length wc pa c.ps.length pc ca c.cs.length cc
  m6 : partAt W (be + 1) W.heap.size v6 c.frame c.margin wa c.ws.length wc pa c.ps.length pc ca c.cs.length cc
  m7 : MustAt W (be + 1) W.heap.size v7 (decide ((c.cs.length : Int) ≤ 8)) 25 8
  m8 : chanAt W (be + 1) W.heap.size v8 c.frame c.margin wa c.ws.length wc pa c.ps.length pc ca c.cs.length cc
theorem one_of {x y : Value} {n : Nat} {a : Array Value} (h : a[n]? = some x) (k : a[n]? = some y) : x = y := by rw [h] at k; cases k; rfl
theorem Finds.go {w : World} {v : Value} {r : Int × Int} {K K' : World → Prop} (h : Finds w v r K) (hk : ∀ w', K w' → K' w') : Finds w v r K' := by
  obtain ⟨g, c, e, hg, hc⟩ := h
  exact ⟨g, c, e, hg, hc.mono fun e w' h => ⟨h.1, hk w' h.2⟩⟩
theorem eight_first {W X : World} {B be g : Nat} {T : TypeId} {v1 v2 v3 v4 v5 v6 v7 v8 : Value} {c : Cf} {wa pa ca : Option Addr} {wc pc cc : Nat} (h : Eight W B be v1 v2 v3 v4 v5 v6 v7 v8 c wa pa ca wc pc cc) (hX : Below W.heap.size W X)
    (hg : X.heap[g]? = some (.cells #[v1, v2, v3, v4, v5, v6, v7, v8] T (0, 0))) (hgW : W.heap.size ≤ g) {hi : Nat} {pvs : List Pv} (f : Far c) (hS : SysL W hi c pvs wa pa ca wc pc cc) (hhi : hi ≤ B) (hin : ∀ x ∈ c.ws, x.In) :
    Calls Try.prog 44 #[.slice (some ⟨g, 0, none⟩) 8 8] X fun e w' => e = .returned (.tuple #[.int .i64 (checkV c).1, .int .i64 (checkV c).2]) ∧ Below B X w' := by
  have hgl := lt_of_block hg
  have hlow := h.low
  have hhigh := h.high
  have hXs := hX.size
  rw [← tellsV_check]
  have keep : ∀ W', But be X W' → ∀ lo hi', (be < lo ∨ hi' ≤ be) → hi' ≤ W.heap.size → SameIn W W' lo hi' := fun W' hb lo hi' h1 h2 =>
    (SameIn.of_below hX h2).trans (hb.same h1 (by omega))
  refine (first_any (I := fun k W' => (k ≤ 4 → Below X.heap.size X W') ∧ But be X W') (rs := tellsV c) ?_ X ⟨fun _ => Below.refl _ _, But.refl _ _⟩).mono ?_
  · refine ⟨rfl, by omega, ?_, ?_⟩
    · intro k W' hI hk
      have hb := (hI.2.block g hgl (by omega)).trans hg
      obtain ⟨v, hv⟩ : ∃ v, (#[v1, v2, v3, v4, v5, v6, v7, v8] : Array Value)[k]? = some v := ⟨_, Array.getElem?_eq_getElem (by simpa using hk)⟩
      exact ⟨g, 0, v, rfl, by rw [Nat.zero_add]; exact cell_in hb hv⟩
    · intro k r hr hok W' hI b off v hb hcv
      cases hb
      have hk8 : k < 8 := (List.getElem?_eq_some_iff.1 hr).1
      have hbk := (hI.2.block g hgl (by omega)).trans hg
      obtain ⟨u, hu⟩ : ∃ u, (#[v1, v2, v3, v4, v5, v6, v7, v8] : Array Value)[k]? = some u := ⟨_, Array.getElem?_eq_getElem (by simpa using hk8)⟩
      have huv : v = u := by
        rw [Nat.zero_add, cell_in hbk hu] at hcv
        cases hcv; rfl
      subst huv
      have K := keep W' hI.2
      have hSW : SysL W' hi c pvs wa pa ca wc pc cc := hS.keep (K 0 hi (.inr (by omega)) (by omega))
      have hW' : W.heap.size ≤ W'.heap.size := by have := hI.2.size; omega
      have st : k ≠ 4 → ∀ w', Below W'.heap.size W' w' → (k + 1 ≤ 4 → Below X.heap.size X w') ∧ But be X w' := fun hk w' hb => ⟨fun h4 => (hI.1 (by omega)).trans (hb.mono hI.2.size), hI.2.trans (But.of_below hb)⟩
      show Finds W' v r fun w' => (k + 1 ≤ 4 → Below X.heap.size X w') ∧ But be X w'
      rcases (show k = 0 ∨ k = 1 ∨ k = 2 ∨ k = 3 ∨ k = 4 ∨ k = 5 ∨ k = 6 ∨ k = 7 by omega) with rfl | rfl | rfl | rfl | rfl | rfl | rfl | rfl
      · cases hr; cases hu
        exact (must_finds (h.m1.keep (K _ _ (.inr (Nat.le_refl _)) (by omega)))).go (st (by omega))
      · cases hr; cases hu
        exact (must_finds (h.m2.keep (K _ _ (.inr (Nat.le_refl _)) (by omega)))).go (st (by omega))
      · cases hr; cases hu
        exact (must_finds (h.m3.keep (K _ _ (.inr (Nat.le_refl _)) (by omega)))).go (st (by omega))
      · cases hr; cases hu
        exact (must_finds (h.m4.keep (K _ _ (.inr (Nat.le_refl _)) (by omega)))).go (st (by omega))
      · cases hr; cases hu
        have hin1 : inB c.frame 1 256 = true := mustV_zero (hok 0 _ (by omega) rfl) (by omega)
        have hfr : 1 ≤ c.frame ∧ c.frame ≤ 256 := of_decide_eq_true hin1
        refine (win_finds (h.m5.keep ((SameIn.of_below hX (Nat.le_refl _)).trans (SameIn.of_below (hI.1 (by omega)) (by omega)))) (by omega) rfl hSW.l1 hhi hin hfr.1 hfr.2 (by have h4 : (c.ws.length : Int) ≤ 32 := of_decide_eq_true (mustV_zero (hok 3 _ (by omega) rfl) (by omega)); omega)).go fun w' hb => ⟨fun h4 => by omega, hI.2.trans hb⟩
      · cases hr; cases hu
        exact (part_finds (h.m6.keep (K _ _ (.inl (by omega)) (Nat.le_refl _))) (by omega) rfl hSW.l2 hSW.l3 (by omega) (by have h4 : (1 : Int) ≤ (c.ps.length : Int) ∧ (c.ps.length : Int) ≤ 6 := of_decide_eq_true (mustV_zero (hok 2 _ (by omega) rfl) (by omega)); omega) f).go (st (by omega))
      · cases hr; cases hu
        exact (must_finds (h.m7.keep (K _ _ (.inl (by omega)) (Nat.le_refl _)))).go (st (by omega))
      · cases hr; cases hu
        exact (chan_finds (h.m8.keep (K _ _ (.inl (by omega)) (Nat.le_refl _))) (by omega) rfl hSW.l4 (by omega) (by have h4 : (c.cs.length : Int) ≤ 8 := of_decide_eq_true (mustV_zero (hok 6 _ (by omega) rfl) (by omega)); omega) (by have h4 : (1 : Int) ≤ (c.ps.length : Int) ∧ (c.ps.length : Int) ≤ 6 := of_decide_eq_true (mustV_zero (hok 2 _ (by omega) rfl) (by omega)); omega)).go (st (by omega))
  · rintro e w' ⟨he, k, _, hk⟩
    exact ⟨he, hk.2.below hlow (by omega)⟩
end Go.Proofs.Ytmkohnpdpcefgaa
namespace Go.Proofs.Ytmkohnpdpcefgaa
open Go.ChangeShapes Go.WideShapes Go.ChangeAt Go.RowKit
set_option linter.unusedVariables false

theorem must_made (well : Bool) (err at_ : Int) (w : World) : Calls Try.prog 45 #[.bool well, .int .i64 err, .int .i64 at_] w fun e w' => ∃ cap, e = .returned (.func (.func 56) #[] cap) ∧ MustAt w' w.heap.size w'.heap.size (.func (.func 56) #[] cap) well err at_ ∧ Below w.heap.size w w' := by
  refine (must_any well err at_ w).mono ?_
  rintro e w' ⟨v, rfl, h, hb⟩
  obtain ⟨b0, b1, b2, rfl, _⟩ := id h
  exact ⟨_, rfl, h, hb⟩
theorem EachAt.shape {w : World} {lo hi : Nat} {v f : Value} {n : Nat} (h : EachAt w lo hi v n f) : ∃ cap, v = .func (.func 65) #[] cap := by
  obtain ⟨b0, b1, rfl, _⟩ := h
  exact ⟨_, rfl⟩
theorem win_laid (fr mg : Int) (wa pa ca : Option Addr) (wn wc pn pc cn cc : Nat) (w : World) :
    Calls Try.prog 47 #[.agg #[.int .i64 fr, .int .i64 mg, .slice wa wn wc, .slice pa pn pc, .slice ca cn cc]] w fun e w' => ∃ cap be, e = .returned (.func (.func 65) #[] cap) ∧ WinAt w' w.heap.size w'.heap.size be (.func (.func 65) #[] cap) fr mg wa wn wc pa pn pc ca cn cc ∧ Below w.heap.size w w' := by
  refine (win_made fr mg wa pa ca wn wc pn pc cn cc w).mono ?_
  rintro e w' ⟨v, be, rfl, h, hb⟩
  obtain ⟨_, _, he, _⟩ := id h
  obtain ⟨cap, rfl⟩ := he.shape
  exact ⟨cap, be, rfl, h, hb⟩
theorem part_laid (fr mg : Int) (wa pa ca : Option Addr) (wn wc pn pc cn cc : Nat) (w : World) :
    Calls Try.prog 48 #[.agg #[.int .i64 fr, .int .i64 mg, .slice wa wn wc, .slice pa pn pc, .slice ca cn cc]] w fun e w' => ∃ cap, e = .returned (.func (.func 65) #[] cap) ∧ partAt w' w.heap.size w'.heap.size (.func (.func 65) #[] cap) fr mg wa wn wc pa pn pc ca cn cc ∧ Below w.heap.size w w' := by
  refine (part_made fr mg wa pa ca wn wc pn pc cn cc w).mono ?_
  rintro e w' ⟨v, rfl, h, hb⟩
  obtain ⟨_, _, he, _⟩ := id h
  obtain ⟨cap, rfl⟩ := he.shape
  exact ⟨cap, rfl, h, hb⟩
theorem chan_laid (fr mg : Int) (wa pa ca : Option Addr) (wn wc pn pc cn cc : Nat) (w : World) :
    Calls Try.prog 49 #[.agg #[.int .i64 fr, .int .i64 mg, .slice wa wn wc, .slice pa pn pc, .slice ca cn cc]] w fun e w' => ∃ cap, e = .returned (.func (.func 65) #[] cap) ∧ chanAt w' w.heap.size w'.heap.size (.func (.func 65) #[] cap) fr mg wa wn wc pa pn pc ca cn cc ∧ Below w.heap.size w w' := by
  refine (chan_made fr mg wa pa ca wn wc pn pc cn cc w).mono ?_
  rintro e w' ⟨v, rfl, h, hb⟩
  obtain ⟨_, _, he, _⟩ := id h
  obtain ⟨cap, rfl⟩ := he.shape
  exact ⟨cap, rfl, h, hb⟩
theorem MustAt.wider {w : World} {lo hi lo' hi' : Nat} {v : Value} {well : Bool} {err at_ : Int} (h : MustAt w lo hi v well err at_) (h1 : lo' ≤ lo) (h2 : hi ≤ hi') : MustAt w lo' hi' v well err at_ := by
  obtain ⟨b0, b1, b2, e, g0, g1, g2, c⟩ := h
  exact ⟨b0, b1, b2, e, ⟨by omega, by omega⟩, ⟨by omega, by omega⟩, ⟨by omega, by omega⟩, c⟩
theorem WinAt.wider {w : World} {lo hi be lo' hi' : Nat} {v : Value} {fr mg : Int} {wa : Option Addr} {wn wc : Nat} {pa : Option Addr} {pn pc : Nat} {ca : Option Addr} {cn cc : Nat} (h : WinAt w lo hi be v fr mg wa wn wc pa pn pc ca cn cc) (h1 : lo' ≤ lo) (h2 : hi ≤ hi') : WinAt w lo' hi' be v fr mg wa wn wc pa pn pc ca cn cc := by
  obtain ⟨bc, g, he, c⟩ := h
  exact ⟨bc, ⟨by omega, g.2.1, by omega⟩, he.wider (Nat.le_refl _) h2, c⟩
theorem partAt.wider {w : World} {lo hi lo' hi' : Nat} {v : Value} {fr mg : Int} {wa : Option Addr} {wn wc : Nat} {pa : Option Addr} {pn pc : Nat} {ca : Option Addr} {cn cc : Nat} (h : partAt w lo hi v fr mg wa wn wc pa pn pc ca cn cc) (h1 : lo' ≤ lo) (h2 : hi ≤ hi') : partAt w lo' hi' v fr mg wa wn wc pa pn pc ca cn cc := by
  obtain ⟨bc, g, he, c⟩ := h
  exact ⟨bc, ⟨by omega, by omega⟩, he.wider h1 h2, c⟩
theorem chanAt.wider {w : World} {lo hi lo' hi' : Nat} {v : Value} {fr mg : Int} {wa : Option Addr} {wn wc : Nat} {pa : Option Addr} {pn pc : Nat} {ca : Option Addr} {cn cc : Nat} (h : chanAt w lo hi v fr mg wa wn wc pa pn pc ca cn cc) (h1 : lo' ≤ lo) (h2 : hi ≤ hi') : chanAt w lo' hi' v fr mg wa wn wc pa pn pc ca cn cc := by
  obtain ⟨bc, g, he, c⟩ := h
  exact ⟨bc, ⟨by omega, by omega⟩, he.wider h1 h2, c⟩
theorem bel_next {a b d : World} (h : Below a.heap.size a b) (k : Below b.heap.size b d) : Below a.heap.size a d := h.trans (k.mono h.size)
theorem eight_join {V w1 w2 w3 w4 w5 w6 w7 w8 : World} {be : Nat} {v1 v2 v3 v4 v5 v6 v7 v8 : Value} {c : Cf} {wa pa ca : Option Addr} {wc pc cc : Nat}
    (m1 : MustAt w1 V.drew.heap.size w1.heap.size v1 (inB c.frame 1 256) 20 0) (b1 : Below V.drew.heap.size V.drew w1)
    (m2 : MustAt w2 w1.heap.size w2.heap.size v2 (inB c.margin 0 8) 20 0) (b2 : Below w1.heap.size w1 w2)
    (m3 : MustAt w3 w2.heap.size w3.heap.size v3 (inB (c.ps.length : Int) 1 6) 1 0) (b3 : Below w2.heap.size w2 w3)
    (m4 : MustAt w4 w3.heap.size w4.heap.size v4 (decide ((c.ws.length : Int) ≤ 32)) 21 32) (b4 : Below w3.heap.size w3 w4)
    (m5 : WinAt w5 w4.heap.size w5.heap.size be v5 c.frame c.margin wa c.ws.length wc pa c.ps.length pc ca c.cs.length cc) (b5 : Below w4.heap.size w4 w5)
    (m6 : partAt w6 w5.heap.size w6.heap.size v6 c.frame c.margin wa c.ws.length wc pa c.ps.length pc ca c.cs.length cc) (b6 : Below w5.heap.size w5 w6)
    (m7 : MustAt w7 w6.heap.size w7.heap.size v7 (decide ((c.cs.length : Int) ≤ 8)) 25 8) (b7 : Below w6.heap.size w6 w7)
    (m8 : chanAt w8 w7.heap.size w8.heap.size v8 c.frame c.margin wa c.ws.length wc pa c.ps.length pc ca c.cs.length cc) (b8 : Below w7.heap.size w7 w8) :
    Eight w8 V.heap.size be v1 v2 v3 v4 v5 v6 v7 v8 c wa pa ca wc pc cc := by
  have s0 : V.drew.heap.size = V.heap.size := rfl
  have s1 := b1.size; have s2 := b2.size; have s3 := b3.size; have s4 := b4.size; have s5 := b5.size; have s6 := b6.size; have s7 := b7.size; have s8 := b8.size
  obtain ⟨bc, hg, _⟩ := id m5
  have k7 := b8
  have k6 := bel_next b7 k7
  have k5 := bel_next b6 k6
  have k4 := bel_next b5 k5
  have k3 := bel_next b4 k4
  have k2 := bel_next b3 k3
  have k1 := bel_next b2 k2
  have sm : ∀ {a : World} {lo : Nat}, Below a.heap.size a w8 → SameIn a w8 lo a.heap.size := fun h => SameIn.of_below h (Nat.le_refl _)
  exact ⟨by omega, by omega, (m1.keep (sm k1)).wider (by omega) (by omega), (m2.keep (sm k2)).wider (by omega) (by omega), (m3.keep (sm k3)).wider (by omega) (by omega), (m4.keep (sm k4)).wider (by omega) (by omega),
    (m5.keep (sm k5)).wider (by omega) (by omega), (m6.keep (sm k6)).wider (by omega) (by omega), (m7.keep (sm k7)).wider (by omega) (by omega), m8.wider (by omega) (by omega)⟩
set_option maxRecDepth 100000 in
set_option maxHeartbeats 8000000 in
theorem check_far {w : World} {hi : Nat} {c : Cf} {pvs : List Pv} {wa pa ca : Option Addr} {wc pc cc : Nat} (f : Far c) (h : SysL w hi c pvs wa pa ca wc pc cc) (hh : hi ≤ w.heap.size) (hin : ∀ x ∈ c.ws, x.In) :
    Calls Try.prog 31 #[.agg #[.int .i64 c.frame, .int .i64 c.margin, .slice wa c.ws.length wc, .slice pa c.ps.length pc, .slice ca c.cs.length cc]] w fun e w' => e = .returned (.tuple #[.int .i64 (checkV c).1, .int .i64 (checkV c).2]) ∧ Below w.heap.size w w' := by
  obtain ⟨V, hV⟩ : ∃ V, V = w.alloc (.cells #[.int .i64 c.frame, .int .i64 c.margin, .slice wa c.ws.length wc, .slice pa c.ps.length pc, .slice ca c.cs.length cc] 36) := ⟨_, rfl⟩
  have hB1 : Below w.heap.size w V := by rw [hV]; exact below1 _ _
  have hblk : V.heap[w.heap.size]? = some (.cells #[.int .i64 c.frame, .int .i64 c.margin, .slice wa c.ws.length wc, .slice pa c.ps.length pc, .slice ca c.cs.length cc] 36 (0, 0)) := by rw [hV]; exact heap_alloc_new _ _
  have ks : ∀ W : World, Below V.heap.size V W → (Below V.heap.size V W ∧ W.cell? ⟨w.heap.size, 0, none⟩ = some (.int .i64 c.frame) ∧ W.cell? ⟨w.heap.size, 1, none⟩ = some (.int .i64 c.margin) ∧ W.cell? ⟨w.heap.size, 2, none⟩ = some (.slice wa c.ws.length wc) ∧ W.cell? ⟨w.heap.size, 3, none⟩ = some (.slice pa c.ps.length pc) ∧ W.cell? ⟨w.heap.size, 4, none⟩ = some (.slice ca c.cs.length cc)) := by
    intro W g
    have q := fun (i : Nat) (u : Value) hu => (g.cell (p := ⟨w.heap.size, i, none⟩) (lt_of_block hblk)).trans (cell_in (j := i) (u := u) hblk hu)
    exact ⟨g, q 0 _ rfl, q 1 _ rfl, q 2 _ rfl, q 3 _ rfl, q 4 _ rfl⟩
  have KS := Lib.hid ks; have HF := Lib.hid f; have HS := Lib.hid h; have HIN := Lib.hid hin; have HB1 := Lib.hid hB1
  have HV := Lib.hid hV
  clear ks f h hin hB1 hblk hV
  go_enter Try.func31, Try.ntmps31
  go_wp2_with fail
  rw [← HV.out]
  obtain ⟨_, k0, k1, k2, k3, k4⟩ := KS.out _ (Below.refl _ _)
  go_region_held3 (fun W => Below V.heap.size V W ∧ W.cell? ⟨w.heap.size, 0, none⟩ = some (.int .i64 c.frame) ∧ W.cell? ⟨w.heap.size, 1, none⟩ = some (.int .i64 c.margin) ∧ W.cell? ⟨w.heap.size, 2, none⟩ = some (.slice wa c.ws.length wc) ∧ W.cell? ⟨w.heap.size, 3, none⟩ = some (.slice pa c.ps.length pc) ∧ W.cell? ⟨w.heap.size, 4, none⟩ = some (.slice ca c.cs.length cc))
    (first | exact KS.out _ ((Below.refl _ _).drew) | exact KS.out _ (by assumption) | exact KS.out _ (b_alloc (by assumption) (Nat.le_refl _) _))
    (first
      | (go_at_call 46; refine (within_any _ _ _ _).mono ?_; rintro e w' ⟨rfl, rfl⟩)
      | (go_at_call 45; have _z := m6; refine (must_made _ _ _ _).mono ?_; rintro e w7 ⟨v7, rfl, m7, b7⟩; have n7 : Below V.heap.size V w7 := bel_then (by first | assumption | exact Below.refl _ _ | exact (Below.refl _ _).drew) (Nat.le_refl _) b7)
      | (go_at_call 45; have _z := m3; refine (must_made _ _ _ _).mono ?_; rintro e w4 ⟨v4, rfl, m4, b4⟩; have n4 : Below V.heap.size V w4 := bel_then (by first | assumption | exact Below.refl _ _ | exact (Below.refl _ _).drew) (Nat.le_refl _) b4)
      | (go_at_call 45; have _z := m2; refine (must_made _ _ _ _).mono ?_; rintro e w3 ⟨v3, rfl, m3, b3⟩; have n3 : Below V.heap.size V w3 := bel_then (by first | assumption | exact Below.refl _ _ | exact (Below.refl _ _).drew) (Nat.le_refl _) b3)
      | (go_at_call 45; have _z := m1; refine (must_made _ _ _ _).mono ?_; rintro e w2 ⟨v2, rfl, m2, b2⟩; have n2 : Below V.heap.size V w2 := bel_then (by first | assumption | exact Below.refl _ _ | exact (Below.refl _ _).drew) (Nat.le_refl _) b2)
      | (go_at_call 45; refine (must_made _ _ _ _).mono ?_; rintro e w1 ⟨v1, rfl, m1, b1⟩; have n1 : Below V.heap.size V w1 := bel_then (by first | assumption | exact Below.refl _ _ | exact (Below.refl _ _).drew) (Nat.le_refl _) b1)
      | (go_at_call 47; refine (win_laid _ _ _ _ _ _ _ _ _ _ _ _).mono ?_; rintro e w5 ⟨v5, be, rfl, m5, b5⟩; have n5 : Below V.heap.size V w5 := bel_then (by first | assumption | exact Below.refl _ _ | exact (Below.refl _ _).drew) (Nat.le_refl _) b5)
      | (go_at_call 48; refine (part_laid _ _ _ _ _ _ _ _ _ _ _ _).mono ?_; rintro e w6 ⟨v6, rfl, m6, b6⟩; have n6 : Below V.heap.size V w6 := bel_then (by first | assumption | exact Below.refl _ _ | exact (Below.refl _ _).drew) (Nat.le_refl _) b6)
      | (go_at_call 49; refine (chan_laid _ _ _ _ _ _ _ _ _ _ _ _).mono ?_; rintro e w8 ⟨v8, rfl, m8, b8⟩; have n8 : Below V.heap.size V w8 := bel_then (by first | assumption | exact Below.refl _ _ | exact (Below.refl _ _).drew) (Nat.le_refl _) b8)
      | (go_at_call 44; refine (eight_first (eight_join m1 b1 m2 b2 m3 b3 m4 b4 m5 b5 m6 b6 m7 b7 m8 b8) (below1 _ _) (heap_alloc_new _ _) (Nat.le_refl _) HF.out (HS.out.keep (SameIn.of_below (HB1.out.trans (n8.mono HB1.out.size)) hh)) (Nat.le_trans hh HB1.out.size) HIN.out).mono ?_; rintro e w9 ⟨rfl, hb9⟩; have n9 : Below V.heap.size V w9 := (b_alloc n8 (Nat.le_refl _) _).trans hb9))
  go_wp2_with fail
  go_ret2
  exact ⟨rfl, HB1.out.trans (n9.mono HB1.out.size)⟩
theorem check_sys {w : World} {hi : Nat} {c : Cf} {pvs : List Pv} {wa pa ca : Option Addr} {wc pc cc : Nat} (f : Few c) (h : SysL w hi c pvs wa pa ca wc pc cc) (hh : hi ≤ w.heap.size) (hin : ∀ x ∈ c.ws, x.In) :
    Calls Try.prog 31 #[.agg #[.int .i64 c.frame, .int .i64 c.margin, .slice wa c.ws.length wc, .slice pa c.ps.length pc, .slice ca c.cs.length cc]] w fun e w' => e = .returned (.tuple #[.int .i64 (checkV c).1, .int .i64 (checkV c).2]) ∧ Below w.heap.size w w' := check_far f.far h hh hin
end Go.Proofs.Ytmkohnpdpcefgaa
