/- Joined of ConfK, SysA: The walk of what is few of a system. -/
import Derived.Test.YtmkohnpdpcefgaaBase
import Derived.Test.YtmkohnpdpcefgaaRights
import Derived.Test.YtmkohnpdpcefgaaCopy
namespace Go.Proofs.Ytmkohnpdpcefgaa
open Go.ChangeShapes Go.WideShapes Go.ChangeAt Go.RowKit
set_option linter.unusedVariables false

def fewB (p : Pt) : Bool := decide (p.ts.length ≤ 20) && (decide (p.ss.length ≤ 20) && decide (p.ds.length ≤ 20))
def lightB (c : Cf) : Bool := decide (c.ws.length ≤ 60 ∧ c.ps.length ≤ 20 ∧ c.cs.length ≤ 30) && c.ps.all fewB
theorem lightB_true {c : Cf} (h : lightB c = true) : c.ws.length ≤ 60 ∧ c.ps.length ≤ 20 ∧ c.cs.length ≤ 30 ∧ ∀ p ∈ c.ps, p.ts.length ≤ 20 ∧ p.ss.length ≤ 20 ∧ p.ds.length ≤ 20 := by
  unfold lightB at h
  rw [Bool.and_eq_true, decide_eq_true_eq] at h
  refine ⟨h.1.1, h.1.2.1, h.1.2.2, fun p hp => ?_⟩
  have := List.all_eq_true.1 h.2 p hp
  simpa [fewB] using this
set_option maxRecDepth 100000 in
set_option maxHeartbeats 4000000 in
theorem light_any (fr mg : Int) (wa pa ca : Option Addr) (wn wc pn pc cn cc : Nat) (w : World) (lo hi : Nat) (c : Cf) (pvs : List Pv) (hwn : c.ws.length = wn) (hpn : c.ps.length = pn) (hcn : c.cs.length = cn)
    (hps : Lies w lo hi (.slice pa pn pc) pn 6 (pvs.flatMap Pv.cells)) (hal : AllLie w lo hi pvs c.ps) (hhi : hi ≤ w.heap.size) :
    Calls Try.prog 6 #[.agg #[.int .i64 fr, .int .i64 mg, .slice wa wn wc, .slice pa pn pc, .slice ca cn cc]] w fun e w' => e = .returned (.bool (lightB c)) ∧ Below w.heap.size w w' := by
  have hlen := hal.length
  have HP := Lib.hid (hps.keep (SameIn.of_below (below1 w (.cells #[.int .i64 fr, .int .i64 mg, .slice wa wn wc, .slice pa pn pc, .slice ca cn cc] 26)) hhi))
  have HAL := Lib.hid (hal.keep (SameIn.of_below (below1 w (.cells #[.int .i64 fr, .int .i64 mg, .slice wa wn wc, .slice pa pn pc, .slice ca cn cc] 26)) hhi))
  have HW := Lib.hid hwn; have HPN := Lib.hid hpn; have HCN := Lib.hid hcn; have HL := Lib.hid hlen
  clear hps hal hwn hpn hcn hlen
  have B1 := Lib.hid (below1 w (.cells #[.int .i64 fr, .int .i64 mg, .slice wa wn wc, .slice pa pn pc, .slice ca cn cc] 26))
  by_cases hb : wn ≤ 60 ∧ pn ≤ 20 ∧ cn ≤ 30
  case neg =>
    have HR : Hid (lightB c = false) := Lib.hid (by unfold lightB; rw [HW.out, HPN.out, HCN.out, decide_eq_false hb]; rfl)
    rcases (show 60 < wn ∨ (wn ≤ 60 ∧ 20 < pn) ∨ (wn ≤ 60 ∧ pn ≤ 20 ∧ 30 < cn) from by omega) with h | ⟨h, h⟩ | ⟨h, h, h⟩
    all_goals
      (go_enter Try.func6, Try.ntmps6
       go_wp2
       go_ret
       exact ⟨by rw [HR.out]; rfl, B1.out⟩)
  case pos =>
    obtain ⟨h1, h2, h3⟩ := hb
    have HR : Hid (lightB c = c.ps.all fewB) := Lib.hid (by unfold lightB; rw [HW.out, HPN.out, HCN.out, decide_eq_true ⟨h1, h2, h3⟩]; rfl)
    obtain ⟨V, hV⟩ : ∃ V, V = w.alloc (.cells #[.int .i64 fr, .int .i64 mg, .slice wa wn wc, .slice pa pn pc, .slice ca cn cc] 26) := ⟨_, rfl⟩
    rw [← hV] at HP HAL B1
    have hblk : V.heap[w.heap.size]? = some (.cells #[.int .i64 fr, .int .i64 mg, .slice wa wn wc, .slice pa pn pc, .slice ca cn cc] 26 (0, 0)) := by rw [hV]; exact heap_alloc_new _ _
    have hlt0 := lt_of_block hblk
    have HV := Lib.hid hV; have HBK := Lib.hid hblk
    have hhv : hi ≤ V.heap.size := by omega
    clear hV hblk
    go_enter Try.func6, Try.ntmps6
    go_wp2_with fail
    go_loopw [3] (fun i wr => ∃ k : Nat, k ≤ pn ∧ i = .int .i64 k ∧ Hid ((c.ps.take k).all fewB = true) ∧ Below V.heap.size V wr) (fun i _ => pn - (intOf i).toNat)
    case atStart => exact ⟨0, by omega, rfl, Lib.hid rfl, by rw [HV.out]; exact Below.refl _ _⟩
    case round =>
      obtain ⟨k, hk, rfl, HA, hb⟩ := hrel
      have B0 : wr.cell? ⟨w.heap.size, 3, none⟩ = some (.slice pa pn pc) := (hb.cell hlt0).trans (cell_in HBK.out rfl)
      by_cases hlt : k < pn
      · have tk : decide ((k : Int) < (pn : Int)) = true := by simpa using hlt
        obtain ⟨x, hx⟩ : ∃ x, c.ps[k]? = some x := ⟨_, List.getElem?_eq_getElem (by rw [HPN.out]; exact hlt)⟩
        obtain ⟨pv, hpv⟩ : ∃ x, pvs[k]? = some x := ⟨_, List.getElem?_eq_getElem (by rw [HL.out, HPN.out]; exact hlt)⟩
        obtain ⟨ta, sa, da, tc, sc, dc, e1, e2, e3⟩ := (HAL.out.at hpv hx).slices
        have hlies := HP.out.keep (SameIn.of_below hb hhv)
        obtain ⟨a2, c2, ee, _, _, hc⟩ := hlies
        cases ee
        rcases hc with h0 | ⟨b, off, rfl, hb1, hb2, hc⟩
        · omega
        obtain ⟨s0, s1, s2, s3, s4, s5⟩ := Lies.pv hc hpv
        have HX := Lib.hid hx
        have l0 : (0 : Int) ≤ (k : Int) := by omega
        have l1 : (k : Int) < (pn : Int) := by omega
        rw [e1] at s0; rw [e2] at s1; rw [e3] at s2
        clear hc hx e1 e2 e3 hpv
        cases hok : fewB x with
        | true =>
          have HN := Lib.hid (all_next fewB c.ps k _ HX.out HA.out hok)
          have HOK := Lib.hid hok; clear hok
          go_wp2_with (first | (go_at_call 17; refine (few_any _ _ _ _ _ _ _ _ _ _ _ _ _).mono ?_; rintro e w' ⟨rfl, hb3⟩; rw [show (decide (x.ts.length ≤ 20) && (decide (x.ss.length ≤ 20) && decide (x.ds.length ≤ 20))) = true from HOK.out]))
          go_roundw
          case rel => exact ⟨k + 1, by omega, by go_num, HN, hb.trans (hb3.mono hb.size)⟩
          case measure => simp [intOf]; omega
        | false =>
          have HN := Lib.hid (all_not fewB c.ps k _ HX.out hok)
          have HOK := Lib.hid hok; clear hok
          go_wp2_with (first | (go_at_call 17; refine (few_any _ _ _ _ _ _ _ _ _ _ _ _ _).mono ?_; rintro e w' ⟨rfl, hb3⟩; rw [show (decide (x.ts.length ≤ 20) && (decide (x.ss.length ≤ 20) && decide (x.ds.length ≤ 20))) = false from HOK.out]))
          go_ret
          exact ⟨by rw [HR.out, HN.out]; rfl, B1.out.trans ((hb.trans (hb3.mono hb.size)).mono B1.out.size)⟩
      · have tk : decide ((k : Int) < (pn : Int)) = false := by simp; omega
        have HN := Lib.hid (all_end fewB c.ps k (by rw [HPN.out]; omega) HA.out)
        go_wp2
        go_ret
        exact ⟨by rw [HR.out, HN.out]; rfl, B1.out.trans (hb.mono B1.out.size)⟩
end Go.Proofs.Ytmkohnpdpcefgaa
namespace Go.Proofs.Ytmkohnpdpcefgaa
open Go.ChangeShapes Go.WideShapes Go.ChangeAt Go.RowKit
set_option linter.unusedVariables false

theorem bel_go2 {V W w1 : World} (h : Below V.heap.size V W) (k : Below W.heap.size W w1) : Below V.heap.size V w1 := h.trans (k.mono h.size)
structure SysL (w : World) (hi : Nat) (c : Cf) (pvs : List Pv) (wa pa ca : Option Addr) (wc pc cc : Nat) : Prop where
  l1 : Lies w 0 hi (.slice wa c.ws.length wc) c.ws.length 3 (c.ws.flatMap Wn.cells)
  l2 : Lies w 0 hi (.slice pa c.ps.length pc) c.ps.length 6 (pvs.flatMap Pv.cells)
  l3 : AllLie w 0 hi pvs c.ps
  l4 : Lies w 0 hi (.slice ca c.cs.length cc) c.cs.length 4 (c.cs.flatMap Ch.cells)
theorem SysL.keep {w w' : World} {hi : Nat} {c : Cf} {pvs : List Pv} {wa pa ca : Option Addr} {wc pc cc : Nat} (h : SysL w hi c pvs wa pa ca wc pc cc) (hs : SameIn w w' 0 hi) : SysL w' hi c pvs wa pa ca wc pc cc := ⟨h.l1.keep hs, h.l2.keep hs, h.l3.keep hs, h.l4.keep hs⟩
theorem SysL.wider {w : World} {hi hi' : Nat} {c : Cf} {pvs : List Pv} {wa pa ca : Option Addr} {wc pc cc : Nat} (h : SysL w hi c pvs wa pa ca wc pc cc) (hh : hi ≤ hi') : SysL w hi' c pvs wa pa ca wc pc cc := ⟨h.l1.wider (Nat.le_refl _) hh, h.l2.wider (Nat.le_refl _) hh, h.l3.wider (Nat.le_refl _) hh, h.l4.wider (Nat.le_refl _) hh⟩
/-- Few enough of all. -/
def Few (c : Cf) : Prop := c.ws.length ≤ 1000 ∧ c.ps.length ≤ 1000 ∧ c.cs.length ≤ 1000 ∧ ∀ p ∈ c.ps, p.ts.length ≤ 1000 ∧ p.ss.length ≤ 1000 ∧ p.ds.length ≤ 1000
theorem light_bounds {c : Cf} (h : lightB c = true) : Few c := by
  obtain ⟨h1, h2, h3, h4⟩ := lightB_true h
  exact ⟨by omega, by omega, by omega, fun p hp => by have := h4 p hp; omega⟩
theorem config_sys {w : World} {hi : Nat} {c : Cf} {pvs : List Pv} {wa pa ca : Option Addr} {wc pc cc : Nat} (f : Few c) (h : SysL w hi c pvs wa pa ca wc pc cc) (hh : hi ≤ w.heap.size) :
    Calls Try.prog 9 #[.agg #[.int .i64 c.frame, .int .i64 c.margin, .slice wa c.ws.length wc, .slice pa c.ps.length pc, .slice ca c.cs.length cc]] w fun e w' => ∃ vs i1 i2 i3 j1 j2 j3, e = .returned (.agg #[.int .i64 c.frame, .int .i64 c.margin, .slice i1 c.ws.length j1, .slice i2 c.ps.length j2, .slice i3 c.cs.length j3]) ∧ SysL w' w'.heap.size c vs i1 i2 i3 j1 j2 j3 ∧ Below w.heap.size w w' := by
  obtain ⟨f1, f2, f3, f4⟩ := f
  refine (config_any c.frame c.margin wa pa ca _ wc _ pc _ cc w 0 hi c pvs rfl rfl rfl h.l1 h.l2 h.l3 h.l4 hh f1 f2 f3 f4).mono ?_
  rintro e w' ⟨wa', wc', pa', pc', ca', cc', vs', rfl, o1, o2, o3, o4, hb⟩
  exact ⟨vs', wa', pa', ca', wc', pc', cc', rfl, ⟨(Lies.of_owns o1).wider (Nat.zero_le _) (Nat.le_refl _), (Lies.of_owns o2).wider (Nat.zero_le _) (Nat.le_refl _), o3.lies.wider (Nat.zero_le _) (Nat.le_refl _), (Lies.of_owns o4).wider (Nat.zero_le _) (Nat.le_refl _)⟩, hb⟩
end Go.Proofs.Ytmkohnpdpcefgaa
