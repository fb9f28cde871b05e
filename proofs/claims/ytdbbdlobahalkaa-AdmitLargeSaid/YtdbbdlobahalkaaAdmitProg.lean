/- Joined of AdmitP, AdmitD, AdmitE, AdmitF, AdmitI: A phase of the program in memory: the closure that tells its slack, and how it is made. -/
import Derived.Test.YtdbbdlobahalkaaAdmitG
import Derived.Test.YtdbbdlobahalkaaAdmitC
import Derived.Test.YtdbbdlobahalkaaSupplyW
import Derived.Test.YtdbbdlobahalkaaDemandRise
import Derived.Deep.RegionHeld3
import Derived.Deep.CutRange
import Derived.Laws.EntriesVeiled
import Derived.Test.YtdbbdlobahalkaaNames
import Derived.Test.YtdbbdlobahalkaaGrow
namespace Go.Proofs.Ytdbbdlobahalkaa
open Go.ChangeShapes Go.WideShapes Go.ChangeAt Go.RowKit
set_option linter.unusedVariables false
attribute [local go_sem ↓] Go.wp_at_zero Go.wp_at_succ

/-- What demand is asked for in one mode. -/
def askedF (high : Bool) : Value := .func (.func (if high then 60 else 59)) #[] #[]
/-- A closure that tells a phase's slack: what it holds lies from lo to below hi. -/
structure SlackAt (w : World) (lo hi : Nat) (c : Cf) (pa : Option Addr) (pc : Nat) (F k : Nat) (high : Bool) (bs ba bc bp g R : Nat) : Prop where
  s1 : lo ≤ bs ∧ bs < hi
  a1 : lo ≤ ba ∧ ba < hi
  c1 : lo ≤ bc ∧ bc < hi
  p1 : lo ≤ bp ∧ bp < hi
  hs : w.cell? ⟨bs, 0, none⟩ = some (.pointer (some ⟨g, 0, none⟩))
  ha : w.cell? ⟨ba, 0, none⟩ = some (askedF high)
  hc : w.cell? ⟨bc, 3, none⟩ = some (.slice pa c.ps.length pc)
  hp : w.cell? ⟨bp, 0, none⟩ = some (.int .i64 k)
  sup : SupL w lo hi g R F (isO F c.margin c.ws (k : Int))
theorem SlackAt.keep {w w' : World} {lo hi : Nat} {c : Cf} {pa : Option Addr} {pc : Nat} {F k : Nat} {high : Bool} {bs ba bc bp g R : Nat} (h : SlackAt w lo hi c pa pc F k high bs ba bc bp g R) (hs : SameIn w w' lo hi) : SlackAt w' lo hi c pa pc F k high bs ba bc bp g R :=
  { h with hs := cell_same hs h.s1.1 h.s1.2 h.hs, ha := cell_same hs h.a1.1 h.a1.2 h.ha, hc := cell_same hs h.c1.1 h.c1.2 h.hc, hp := cell_same hs h.p1.1 h.p1.2 h.hp, sup := h.sup.keep hs }
theorem SlackAt.wider {w : World} {lo hi lo' hi' : Nat} {c : Cf} {pa : Option Addr} {pc : Nat} {F k : Nat} {high : Bool} {bs ba bc bp g R : Nat} (h : SlackAt w lo hi c pa pc F k high bs ba bc bp g R) (h1 : lo' ≤ lo) (h2 : hi ≤ hi') : SlackAt w lo' hi' c pa pc F k high bs ba bc bp g R := by
  obtain ⟨x1, x2, x3, x4, x5, x6, x7, x8, x9⟩ := h
  exact ⟨⟨by omega, by omega⟩, ⟨by omega, by omega⟩, ⟨by omega, by omega⟩, ⟨by omega, by omega⟩, x5, x6, x7, x8, { x9 with g1 := by have := x9.g1; omega, g2 := by have := x9.g2; omega, r1 := by have := x9.r1; omega, r2 := by have := x9.r2; omega }⟩
/-- The closure, as a value. -/
def slackF (bs ba bc bp : Nat) : Value := .func (.func 61) #[] #[.pointer (some ⟨bs, 0, none⟩), .pointer (some ⟨ba, 0, none⟩), .pointer (some ⟨bc, 0, none⟩), .pointer (some ⟨bp, 0, none⟩)]
set_option maxRecDepth 100000 in
set_option maxHeartbeats 4000000 in
theorem slackC_any {w : World} {lo hl hi : Nat} {c : Cf} {pvs : List Pv} {wa pa ca : Option Addr} {wc pc cc : Nat} {F k : Nat} {high : Bool} {bs ba bc bp g R : Nat} (hS : SlackAt w lo hl c pa pc F k high bs ba bc bp g R) (hhl : hl ≤ w.heap.size) (h : SysL w hi c pvs wa pa ca wc pc cc) (hh : hi ≤ w.heap.size) {x : Pt} (hx : c.ps[k]? = some x) (d1 : x.ts.length ≤ 6) (d2 : x.ss.length ≤ 3) (t : Int) :
    Calls Try.prog 61 #[.int .i64 t, .pointer (some ⟨bs, 0, none⟩), .pointer (some ⟨ba, 0, none⟩), .pointer (some ⟨bc, 0, none⟩), .pointer (some ⟨bp, 0, none⟩)] w fun e w' => e = .returned (.int .i64 (slackU (isO F c.margin c.ws (k : Int)) F x high (cutT t).toNat)) ∧ Below w.heap.size w w' := by
  have hk : k < c.ps.length := (List.getElem?_eq_some_iff.1 hx).1
  obtain ⟨x', pv, ta, sa, da, tc, sc, dc, b, off, hx', rfl, hb2, hpx, s0, s1, s2, s3, s4, s5⟩ := h.part hh hk
  obtain rfl : x = x' := by have := hx.symm.trans hx'; cases this; rfl
  have hbw : b < w.heap.size := by omega
  have hbs : bs < w.heap.size := by have := hS.s1; omega
  have hba : ba < w.heap.size := by have := hS.a1; omega
  have hbc : bc < w.heap.size := by have := hS.c1; omega
  have hbp : bp < w.heap.size := by have := hS.p1; omega
  obtain ⟨c0, c1⟩ := cutT_in t
  have HSL := Lib.hid (slack_is (isO F c.margin c.ws (k : Int)) F x high c0 c1)
  have hdb := demV_bd2 (x := x) (cutT t) high (by omega) (by omega)
  have hlb := leastV_bd (f := isO F c.margin c.ws (k : Int)) (F := F) (heldN (cutT t))
  have hhb := heldN_bd (cutT t)
  have hcut : (t < 0 ∧ cutT t = 0) ∨ (0 ≤ t ∧ t ≤ 1099511627776 ∧ cutT t = t) ∨ (0 ≤ t ∧ 1099511627776 < t ∧ cutT t = 1099511627776) := by unfold cutT; omega
  have HC := Lib.hid hcut
  obtain ⟨T, hT⟩ : ∃ T, T = cutT t := ⟨_, rfl⟩
  rw [← hT] at HSL hdb hlb hhb HC c0 c1
  have HT := Lib.hid hT
  obtain ⟨dm, hdm⟩ : ∃ d, d = demV x T high := ⟨_, rfl⟩
  obtain ⟨lv, hlv⟩ : ∃ d, d = leastV (isO F c.margin c.ws (k : Int)) F (heldN T) := ⟨_, rfl⟩
  rw [← hdm, ← hlv] at HSL
  rw [← hdm] at hdb
  rw [← hlv] at hlb
  have HLV := Lib.hid hlv
  obtain ⟨b0, b1⟩ := hdb
  have S1 : IntKind.i64.wrap ((lv : Int) - dm) = (lv : Int) - dm := IntWalk.i64_in _ (by omega)
  have CS := Lib.hid (fun (W : World) (gb : Below w.heap.size w W) => sLeast_any (hS.sup.keep ((SameIn.of_below gb hhl))) (Nat.le_trans hhl gb.size) T)
  have HPX := Lib.hid (fun (W : World) (gb : Below w.heap.size w W) => hpx.later gb)
  have R0 := Lib.hid (Below.refl w.heap.size w)
  have l0 : (0 : Int) ≤ (k : Int) := by omega
  have l1 : (k : Int) < (c.ps.length : Int) := by omega
  have q0 := hS.hs; have q1 := hS.ha; have q2 := hS.hc; have q3 := hS.hp
  have hsz1 : x.ts.length ≤ 20 := by omega
  have hsz2 : x.ss.length ≤ 20 := by omega
  cases high
  all_goals
    unfold askedF at q1
    simp only [Bool.false_eq_true, if_false, if_true] at q1
  case false =>
    have HD : Hid (lowV x T = dm) := Lib.hid hdm.symm
    have KT : Hid (∀ W : World, Below w.heap.size w W → Below w.heap.size w W ∧ W.cell? ⟨bs, 0, none⟩ = some (.pointer (some ⟨g, 0, none⟩)) ∧ W.cell? ⟨ba, 0, none⟩ = some (.func (.func 59) #[] #[]) ∧ W.cell? ⟨bc, 3, none⟩ = some (.slice (some ⟨b, off, none⟩) c.ps.length pc) ∧ W.cell? ⟨bp, 0, none⟩ = some (.int .i64 k) ∧ W.cell? ⟨b, off + k * 6, none⟩ = some (.slice ta x.ts.length tc) ∧ W.cell? ⟨b, off + k * 6 + 1, none⟩ = some (.slice sa x.ss.length sc) ∧ W.cell? ⟨b, off + k * 6 + 2, none⟩ = some (.slice da x.ds.length dc) ∧ W.cell? ⟨b, off + k * 6 + 3, none⟩ = some (.int .u8 pv.a0) ∧ W.cell? ⟨b, off + k * 6 + 4, none⟩ = some (.int .u8 pv.a1) ∧ W.cell? ⟨b, off + k * 6 + 5, none⟩ = some (.int .u8 pv.a2)) := Lib.hid fun W gb =>
      ⟨gb, (gb.cell (p := ⟨bs, 0, none⟩) hbs).trans q0, (gb.cell (p := ⟨ba, 0, none⟩) hba).trans q1, (gb.cell (p := ⟨bc, 3, none⟩) hbc).trans q2, (gb.cell (p := ⟨bp, 0, none⟩) hbp).trans q3, (gb.cell (p := ⟨b, off + k * 6, none⟩) hbw).trans s0, (gb.cell (p := ⟨b, off + k * 6 + 1, none⟩) hbw).trans s1, (gb.cell (p := ⟨b, off + k * 6 + 2, none⟩) hbw).trans s2, (gb.cell (p := ⟨b, off + k * 6 + 3, none⟩) hbw).trans s3, (gb.cell (p := ⟨b, off + k * 6 + 4, none⟩) hbw).trans s4, (gb.cell (p := ⟨b, off + k * 6 + 5, none⟩) hbw).trans s5⟩
    clear h hS hx hx' hcut hT hdm hlv hpx q0 q1 q2 q3 s0 s1 s2 s3 s4 s5
    go_enter Try.func61, Try.ntmps61
    go_upto_region 1 with fail
    go_cut [0] from 7 to 10 (fun v wx => v = .int .i64 T ∧ wx = w)
    case first =>
      rcases HC.out with ⟨g1, g2⟩ | ⟨g1, g2, g3⟩ | ⟨g1, g2, g3⟩
      all_goals (go_wp2_with fail; go_meet)
      all_goals (case rel => first | exact ⟨by rw [g2], rfl⟩ | exact ⟨by rw [g3], rfl⟩)
    case rest =>
      obtain ⟨rfl, hwr⟩ := hcut
      have hwr2 := hwr.symm
      subst hwr2
      go_wp2_with fail
      go_region_held3 (fun W => Below w.heap.size w W ∧ W.cell? ⟨bs, 0, none⟩ = some (.pointer (some ⟨g, 0, none⟩)) ∧ W.cell? ⟨ba, 0, none⟩ = some (.func (.func 59) #[] #[]) ∧ W.cell? ⟨bc, 3, none⟩ = some (.slice (some ⟨b, off, none⟩) c.ps.length pc) ∧ W.cell? ⟨bp, 0, none⟩ = some (.int .i64 k) ∧ W.cell? ⟨b, off + k * 6, none⟩ = some (.slice ta x.ts.length tc) ∧ W.cell? ⟨b, off + k * 6 + 1, none⟩ = some (.slice sa x.ss.length sc) ∧ W.cell? ⟨b, off + k * 6 + 2, none⟩ = some (.slice da x.ds.length dc) ∧ W.cell? ⟨b, off + k * 6 + 3, none⟩ = some (.int .u8 pv.a0) ∧ W.cell? ⟨b, off + k * 6 + 4, none⟩ = some (.int .u8 pv.a1) ∧ W.cell? ⟨b, off + k * 6 + 5, none⟩ = some (.int .u8 pv.a2))
        (first | exact KT.out _ R0.out | exact KT.out _ R0.out.drew | exact KT.out _ (by assumption))
        (first
          | (go_at_call 62; refine (CS.out _ (by go_split_ands; assumption)).mono ?_; rintro e w5 ⟨rfl, hb5⟩; rw [← HLV.out]; have hbn : Below w.heap.size w w5 := (by go_split_ands; exact bel_thenD (by assumption) (Nat.le_refl _) hb5))
          | (go_at_call 59; refine (low_any _ _ _ _ _ _ _ _ _ _ _ _ _ _ _ _ (HPX.out _ (by go_split_ands; assumption)) hsz1 hsz2).mono ?_; rintro e w4 ⟨rfl, hb4⟩; rw [HD.out]; have hbn : Below w.heap.size w w4 := (by go_split_ands; exact bel_thenD (by assumption) (Nat.le_refl _) hb4))
          | fail "no arm")
      all_goals go_wp2_with fail
      all_goals go_ret
      all_goals exact ⟨ret_iD (HSL.out.trans (by rw [HT.out])), by repeat first | assumption | refine below_drewD _ ?_⟩
  case true =>
    have HD : Hid (highV x T = dm) := Lib.hid hdm.symm
    have KT : Hid (∀ W : World, Below w.heap.size w W → Below w.heap.size w W ∧ W.cell? ⟨bs, 0, none⟩ = some (.pointer (some ⟨g, 0, none⟩)) ∧ W.cell? ⟨ba, 0, none⟩ = some (.func (.func 60) #[] #[]) ∧ W.cell? ⟨bc, 3, none⟩ = some (.slice (some ⟨b, off, none⟩) c.ps.length pc) ∧ W.cell? ⟨bp, 0, none⟩ = some (.int .i64 k) ∧ W.cell? ⟨b, off + k * 6, none⟩ = some (.slice ta x.ts.length tc) ∧ W.cell? ⟨b, off + k * 6 + 1, none⟩ = some (.slice sa x.ss.length sc) ∧ W.cell? ⟨b, off + k * 6 + 2, none⟩ = some (.slice da x.ds.length dc) ∧ W.cell? ⟨b, off + k * 6 + 3, none⟩ = some (.int .u8 pv.a0) ∧ W.cell? ⟨b, off + k * 6 + 4, none⟩ = some (.int .u8 pv.a1) ∧ W.cell? ⟨b, off + k * 6 + 5, none⟩ = some (.int .u8 pv.a2)) := Lib.hid fun W gb =>
      ⟨gb, (gb.cell (p := ⟨bs, 0, none⟩) hbs).trans q0, (gb.cell (p := ⟨ba, 0, none⟩) hba).trans q1, (gb.cell (p := ⟨bc, 3, none⟩) hbc).trans q2, (gb.cell (p := ⟨bp, 0, none⟩) hbp).trans q3, (gb.cell (p := ⟨b, off + k * 6, none⟩) hbw).trans s0, (gb.cell (p := ⟨b, off + k * 6 + 1, none⟩) hbw).trans s1, (gb.cell (p := ⟨b, off + k * 6 + 2, none⟩) hbw).trans s2, (gb.cell (p := ⟨b, off + k * 6 + 3, none⟩) hbw).trans s3, (gb.cell (p := ⟨b, off + k * 6 + 4, none⟩) hbw).trans s4, (gb.cell (p := ⟨b, off + k * 6 + 5, none⟩) hbw).trans s5⟩
    clear h hS hx hx' hcut hT hdm hlv hpx q0 q1 q2 q3 s0 s1 s2 s3 s4 s5
    go_enter Try.func61, Try.ntmps61
    go_upto_region 1 with fail
    go_cut [0] from 7 to 10 (fun v wx => v = .int .i64 T ∧ wx = w)
    case first =>
      rcases HC.out with ⟨g1, g2⟩ | ⟨g1, g2, g3⟩ | ⟨g1, g2, g3⟩
      all_goals (go_wp2_with fail; go_meet)
      all_goals (case rel => first | exact ⟨by rw [g2], rfl⟩ | exact ⟨by rw [g3], rfl⟩)
    case rest =>
      obtain ⟨rfl, hwr⟩ := hcut
      have hwr2 := hwr.symm
      subst hwr2
      go_wp2_with fail
      go_region_held3 (fun W => Below w.heap.size w W ∧ W.cell? ⟨bs, 0, none⟩ = some (.pointer (some ⟨g, 0, none⟩)) ∧ W.cell? ⟨ba, 0, none⟩ = some (.func (.func 60) #[] #[]) ∧ W.cell? ⟨bc, 3, none⟩ = some (.slice (some ⟨b, off, none⟩) c.ps.length pc) ∧ W.cell? ⟨bp, 0, none⟩ = some (.int .i64 k) ∧ W.cell? ⟨b, off + k * 6, none⟩ = some (.slice ta x.ts.length tc) ∧ W.cell? ⟨b, off + k * 6 + 1, none⟩ = some (.slice sa x.ss.length sc) ∧ W.cell? ⟨b, off + k * 6 + 2, none⟩ = some (.slice da x.ds.length dc) ∧ W.cell? ⟨b, off + k * 6 + 3, none⟩ = some (.int .u8 pv.a0) ∧ W.cell? ⟨b, off + k * 6 + 4, none⟩ = some (.int .u8 pv.a1) ∧ W.cell? ⟨b, off + k * 6 + 5, none⟩ = some (.int .u8 pv.a2))
        (first | exact KT.out _ R0.out | exact KT.out _ R0.out.drew | exact KT.out _ (by assumption))
        (first
          | (go_at_call 62; refine (CS.out _ (by go_split_ands; assumption)).mono ?_; rintro e w5 ⟨rfl, hb5⟩; rw [← HLV.out]; have hbn : Below w.heap.size w w5 := (by go_split_ands; exact bel_thenD (by assumption) (Nat.le_refl _) hb5))
          | (go_at_call 60; refine (high_any _ _ _ _ _ _ _ _ _ _ _ _ _ _ _ _ (HPX.out _ (by go_split_ands; assumption)) hsz1 hsz2).mono ?_; rintro e w4 ⟨rfl, hb4⟩; rw [HD.out]; have hbn : Below w.heap.size w w4 := (by go_split_ands; exact bel_thenD (by assumption) (Nat.le_refl _) hb4))
          | fail "no arm")
      all_goals go_wp2_with fail
      all_goals go_ret
      all_goals exact ⟨ret_iD (HSL.out.trans (by rw [HT.out])), by repeat first | assumption | refine below_drewD _ ?_⟩
theorem alloc5 (w : World) (o0 o1 o2 o3 o4 : Obj) :
    (((((w.alloc o0).alloc o1).alloc o2).alloc o3).alloc o4).heap[w.heap.size]? = some o0 ∧ (((((w.alloc o0).alloc o1).alloc o2).alloc o3).alloc o4).heap[w.heap.size + 1]? = some o1 ∧ (((((w.alloc o0).alloc o1).alloc o2).alloc o3).alloc o4).heap[w.heap.size + 1 + 1]? = some o2 ∧ (((((w.alloc o0).alloc o1).alloc o2).alloc o3).alloc o4).heap[w.heap.size + 1 + 1 + 1]? = some o3 ∧ (((((w.alloc o0).alloc o1).alloc o2).alloc o3).alloc o4).heap[w.heap.size + 1 + 1 + 1 + 1]? = some o4 ∧
      (((((w.alloc o0).alloc o1).alloc o2).alloc o3).alloc o4).heap.size = w.heap.size + 5 ∧ Below w.heap.size w (((((w.alloc o0).alloc o1).alloc o2).alloc o3).alloc o4) := by
  refine ⟨?_, ?_, ?_, ?_, ?_, by simp, ((((below1 w o0).alloc (by simp) o1).alloc (by simp; omega) o2).alloc (by simp; omega) o3).alloc (by simp; omega) o4⟩
  all_goals simp only [heap_at]
  all_goals (repeat' split)
  all_goals first | rfl | (exfalso; simp at *; omega) | (exfalso; simp at *)
theorem Try.sizePhase : (Try.prog.info? 77).map (·.size) = some 8 := by kernel_rfl
set_option maxRecDepth 100000 in
set_option maxHeartbeats 2000000 in
theorem newPhase_any {w : World} {lo hl : Nat} {c : Cf} {wa pa ca : Option Addr} {wc pc cc : Nat} {F k : Nat} {g R : Nat} (hS : SupL w lo hl g R F (isO F c.margin c.ws (k : Int))) (hlo : lo ≤ w.heap.size) (hhl : hl ≤ w.heap.size) (high : Bool) :
    Calls Try.prog 36 #[.agg #[.int .i64 c.frame, .int .i64 c.margin, .slice wa c.ws.length wc, .slice pa c.ps.length pc, .slice ca c.cs.length cc], .int .i64 k, .bool high, .pointer (some ⟨g, 0, none⟩)] w fun e w' => ∃ bs ba bc bp, e = .returned (.agg #[.int .i64 c.frame, .int .i64 c.margin, .slice wa c.ws.length wc, .slice pa c.ps.length pc, .slice ca c.cs.length cc, .int .i64 k, .bool high, slackF bs ba bc bp]) ∧ SlackAt w' lo w'.heap.size c pa pc F k high bs ba bc bp g R ∧ Below w.heap.size w w' := by
  have HS := Lib.hid hS
  clear hS
  cases high
  all_goals
    (go_enter Try.func36, Try.ntmps36
     go_wp2_with fail
     (try simp only [Exit.inBlock, Exit.then])
     obtain ⟨h0, h1, h2, h3, h4, hs, hb⟩ := alloc5 w _ _ _ _ _
     refine bodyPost_ret (results_cell_row (P := Try.prog) rfl _ _ (w.heap.size + 1 + 1 + 1) _ _ (0, 0) _ rfl h3 Try.underlying77 rfl Try.sizePhase) rfl ?_
     refine ⟨w.heap.size + 1 + 1, w.heap.size + 1 + 1 + 1 + 1, w.heap.size, w.heap.size + 1, rfl, ⟨⟨by omega, by rw [hs]; omega⟩, ⟨by omega, by rw [hs]; omega⟩, ⟨by omega, by rw [hs]; omega⟩, ⟨by omega, by rw [hs]; omega⟩, cell_in h2 rfl, cell_in h4 rfl, cell_in h0 rfl, cell_in h1 rfl, ?_⟩, hb⟩
     have q := HS.out.keep (SameIn.of_below hb hhl)
     exact { q with g2 := by have := q.g2; rw [hs]; omega, r2 := by have := q.r2; rw [hs]; omega })
end Go.Proofs.Ytdbbdlobahalkaa
namespace Go.Proofs.Ytdbbdlobahalkaa
open Go.ChangeShapes Go.WideShapes Go.ChangeAt Go.RowKit
set_option linter.unusedVariables false
attribute [local go_sem ↓] Go.wp_at_zero Go.wp_at_succ

theorem owns_oneD {w : World} {e base : Nat} {x : Value} (hb : base ≤ w.heap.size) : (w.alloc (.cells #[x] e)).ownsRow base e 1 (.slice (some ⟨w.heap.size, 0, none⟩) 1 1) 1 [x] :=
  ⟨by simp, .inr ⟨w.heap.size, 1, #[x], rfl, hb, heap_alloc_new _ _, Nat.le_refl _, by simp [maxLen], by simp, by simp⟩⟩
theorem boxK8 (w : World) (v0 v1 v2 v3 v4 v5 v6 v7 : Value) (T : TypeId) (W : World) (h : Below (w.alloc (.cells #[v0, v1, v2, v3, v4, v5, v6, v7] T)).heap.size (w.alloc (.cells #[v0, v1, v2, v3, v4, v5, v6, v7] T)) W) :
    W.cell? ⟨w.heap.size, 0, none⟩ = some v0 ∧ W.cell? ⟨w.heap.size, 1, none⟩ = some v1 ∧ W.cell? ⟨w.heap.size, 2, none⟩ = some v2 ∧ W.cell? ⟨w.heap.size, 3, none⟩ = some v3 ∧ W.cell? ⟨w.heap.size, 4, none⟩ = some v4 ∧ W.cell? ⟨w.heap.size, 5, none⟩ = some v5 ∧ W.cell? ⟨w.heap.size, 6, none⟩ = some v6 ∧ W.cell? ⟨w.heap.size, 7, none⟩ = some v7 :=
  have k := box_says w #[v0, v1, v2, v3, v4, v5, v6, v7] T W h
  ⟨k 0 _ rfl, k 1 _ rfl, k 2 _ rfl, k 3 _ rfl, k 4 _ rfl, k 5 _ rfl, k 6 _ rfl, k 7 _ rfl⟩
theorem turnsI_is {x : Pt} {high : Bool} {n : Nat} (hn : n ≤ 65536) : [(.int .i64 0 : Value)] ++ (outL (metE (onceV x high) (againV x high)) n).flatMap intCells = (turnsI x n high).flatMap intCells := by
  rw [outL_is (fun t => demV x t high) _ n fun t h1 h2 => met_is x high h1 (by omega)]
  rfl
theorem turnsI_len {x : Pt} {high : Bool} {n : Nat} (hn : n ≤ 65536) : 1 + (outL (metE (onceV x high) (againV x high)) n).length = (turnsI x n high).length := by
  rw [outL_is (fun t => demV x t high) _ n fun t h1 h2 => met_is x high h1 (by omega)]
  simp [turnsI, turnsV]; omega
def TurnsPost (w : World) (n : Nat) (cs : List Value) (e : Ending) (w' : World) : Prop := ∃ a cap, e = .returned (.slice a n cap) ∧ Lies w' w.heap.size w'.heap.size (.slice a n cap) n 1 cs ∧ Below w.heap.size w w'
set_option maxRecDepth 100000 in
set_option maxHeartbeats 4000000 in
theorem turns_any {w : World} {hi : Nat} {c : Cf} {pvs : List Pv} {wa pa ca : Option Addr} {wc pc cc : Nat} (hF : I64 c.frame) (h : SysL w hi c pvs wa pa ca wc pc cc) (hh : hi ≤ w.heap.size) {k : Nat} {x : Pt} (hx : c.ps[k]? = some x) (d1 : x.ts.length ≤ 6) (d2 : x.ss.length ≤ 3) (high : Bool) (fv : Value) :
    Calls Try.prog 53 #[.agg #[.int .i64 c.frame, .int .i64 c.margin, .slice wa c.ws.length wc, .slice pa c.ps.length pc, .slice ca c.cs.length cc, .int .i64 k, .bool high, fv]] w (TurnsPost w (if boundOk c.frame x then (turnsI x (boundV c.frame x).toNat high).length else 0) (if boundOk c.frame x then (turnsI x (boundV c.frame x).toNat high).flatMap intCells else [])) := by
  obtain ⟨i0, hi0, hz0, hz1, hz2⟩ := info_parts Try.infoInt
  have HI := Lib.hid hi0
  have hk : k < c.ps.length := (List.getElem?_eq_some_iff.1 hx).1
  obtain ⟨x', pv, ta, sa, da, tc, sc, dc, b, off, hx', rfl, hb2, hpx, s0, s1, s2, s3, s4, s5⟩ := h.part hh hk
  obtain rfl : x = x' := by have := hx.symm.trans hx'; cases this; rfl
  have hbw : b < w.heap.size := by omega
  obtain ⟨V, hV⟩ : ∃ V, V = w.alloc (.cells #[.int .i64 c.frame, .int .i64 c.margin, .slice wa c.ws.length wc, .slice (some ⟨b, off, none⟩) c.ps.length pc, .slice ca c.cs.length cc, .int .i64 k, .bool high, fv] 77) := ⟨_, rfl⟩
  have hBV : Below w.heap.size w V := by rw [hV]; exact below1 _ _
  have hVs : V.heap.size = w.heap.size + 1 := by rw [hV]; simp
  obtain ⟨V2, hV2⟩ : ∃ V2, V2 = V.alloc (.cells #[.slice ta x.ts.length tc, .slice sa x.ss.length sc, .slice da x.ds.length dc, .int .u8 pv.a0, .int .u8 pv.a1, .int .u8 pv.a2] 58) := ⟨_, rfl⟩
  have hBV2 : Below w.heap.size w V2 := by rw [hV2]; exact hBV.alloc (by omega) _
  have hV2s : V2.heap.size = w.heap.size + 2 := by rw [hV2]; simp [hVs]
  have k1 : V.cell? ⟨w.heap.size, 0, none⟩ = some (.int .i64 c.frame) ∧ V.cell? ⟨w.heap.size, 1, none⟩ = some (.int .i64 c.margin) ∧ V.cell? ⟨w.heap.size, 2, none⟩ = some (.slice wa c.ws.length wc) ∧ V.cell? ⟨w.heap.size, 3, none⟩ = some (.slice (some ⟨b, off, none⟩) c.ps.length pc) ∧ V.cell? ⟨w.heap.size, 4, none⟩ = some (.slice ca c.cs.length cc) ∧ V.cell? ⟨w.heap.size, 5, none⟩ = some (.int .i64 k) ∧ V.cell? ⟨w.heap.size, 6, none⟩ = some (.bool high) ∧ V.cell? ⟨w.heap.size, 7, none⟩ = some fv := by
    have g := boxK8 w (.int .i64 c.frame) (.int .i64 c.margin) (.slice wa c.ws.length wc) (.slice (some ⟨b, off, none⟩) c.ps.length pc) (.slice ca c.cs.length cc) (.int .i64 k) (.bool high) fv 77 V (by rw [hV]; exact Below.refl _ _)
    exact g
  have hVw : w.heap.size < V.heap.size := by omega
  have kp : ∀ W : World, Below V.heap.size V W → W.cell? ⟨b, off + k * 6, none⟩ = some (.slice ta x.ts.length tc) ∧ W.cell? ⟨b, off + k * 6 + 1, none⟩ = some (.slice sa x.ss.length sc) ∧ W.cell? ⟨b, off + k * 6 + 2, none⟩ = some (.slice da x.ds.length dc) ∧ W.cell? ⟨b, off + k * 6 + 3, none⟩ = some (.int .u8 pv.a0) ∧ W.cell? ⟨b, off + k * 6 + 4, none⟩ = some (.int .u8 pv.a1) ∧ W.cell? ⟨b, off + k * 6 + 5, none⟩ = some (.int .u8 pv.a2) := fun W gV => by
    have gb : Below w.heap.size w W := hBV.trans (gV.mono (Nat.le_of_lt hVw))
    exact ⟨(gb.cell (p := ⟨b, off + k * 6, none⟩) hbw).trans s0, (gb.cell (p := ⟨b, off + k * 6 + 1, none⟩) hbw).trans s1, (gb.cell (p := ⟨b, off + k * 6 + 2, none⟩) hbw).trans s2, (gb.cell (p := ⟨b, off + k * 6 + 3, none⟩) hbw).trans s3, (gb.cell (p := ⟨b, off + k * 6 + 4, none⟩) hbw).trans s4, (gb.cell (p := ⟨b, off + k * 6 + 5, none⟩) hbw).trans s5⟩
  have k2 : ∀ W : World, Below V2.heap.size V2 W → W.cell? ⟨w.heap.size, 0, none⟩ = some (.int .i64 c.frame) ∧ W.cell? ⟨w.heap.size, 6, none⟩ = some (.bool high) ∧ W.cell? ⟨w.heap.size + 1, 0, none⟩ = some (.slice ta x.ts.length tc) ∧ W.cell? ⟨w.heap.size + 1, 1, none⟩ = some (.slice sa x.ss.length sc) ∧ W.cell? ⟨w.heap.size + 1, 2, none⟩ = some (.slice da x.ds.length dc) ∧ W.cell? ⟨w.heap.size + 1, 3, none⟩ = some (.int .u8 pv.a0) ∧ W.cell? ⟨w.heap.size + 1, 4, none⟩ = some (.int .u8 pv.a1) ∧ W.cell? ⟨w.heap.size + 1, 5, none⟩ = some (.int .u8 pv.a2) := fun W g => by
    have gV : Below V.heap.size V W := by
      rw [hV2] at g
      exact (below1 V _).trans (g.mono (by simp))
    have q := box_says V #[.slice ta x.ts.length tc, .slice sa x.ss.length sc, .slice da x.ds.length dc, .int .u8 pv.a0, .int .u8 pv.a1, .int .u8 pv.a2] 58 W (by rw [← hV2]; exact g)
    rw [hVs] at q
    exact ⟨(gV.cell (p := ⟨w.heap.size, 0, none⟩) (by omega)).trans k1.1, (gV.cell (p := ⟨w.heap.size, 6, none⟩) (by omega)).trans k1.2.2.2.2.2.2.1, q 0 _ rfl, q 1 _ rfl, q 2 _ rfl, q 3 _ rfl, q 4 _ rfl, q 5 _ rfl⟩
  have CB := Lib.hid (fun (W : World) (gb : Below w.heap.size w W) => bound_at hF (hpx.later gb) (by omega) (by omega) da x.ds.length dc pv.a0 pv.a1 pv.a2)
  have KP := Lib.hid kp; have K1 := Lib.hid k1; have K2 := Lib.hid k2; have HBV := Lib.hid hBV; have HBV2 := Lib.hid hBV2; have HV := Lib.hid hV; have HV2 := Lib.hid hV2; have HVS := Lib.hid hVs; have HV2S := Lib.hid hV2s
  have l0 : (0 : Int) ≤ (k : Int) := by omega
  have l1 : (k : Int) < (c.ps.length : Int) := by omega
  cases hb : boundOk c.frame x with
  | false =>
    have t0 : (!boundOk c.frame x) = true := by rw [hb]; rfl
    have HBO := Lib.hid hb
    clear h hx hx' hpx kp k1 k2 hBV hBV2 hV hV2 hVs hV2s hi0 s0 s1 s2 s3 s4 s5 hF hb t0
    obtain ⟨z0, z1, z2, z3, z4, z5, z6, z7⟩ := K1.out
    obtain ⟨y0, y1, y2, y3, y4, y5⟩ := KP.out V (Below.refl _ _)
    generalize boundV c.frame x = bv at *
    go_enter Try.func53, Try.ntmps53
    go_upto_region 1 with fail
    rw [← HV.out]
    go_upto_region 2 with fail
    have es : V.heap.size = w.heap.size + 1 := HVS.out
    try rw [es]
    try rw [← HV2.out]
    clear z0 z1 z2 z3 z4 z5 z6 z7 y0 y1 y2 y3 y4 y5
    obtain ⟨z0, z6, y0, y1, y2, y3, y4, y5⟩ := K2.out V2 (Below.refl _ _)
    go_wp2_with (first
      | (go_at_call 15; refine (CB.out _ HBV2.out).mono ?_; rintro e w3 ⟨rfl, hb3⟩; rw [HBO.out]))
    go_ret
    exact ⟨none, 0, rfl, ⟨none, 0, rfl, rfl, fun _ => ⟨rfl, rfl⟩, .inl rfl⟩, HBV2.out.trans (hb3.mono (by have := HV2S.out; omega))⟩
  | true =>
    obtain ⟨bk1, bk2, bk3⟩ := bound_ok hb
    have hbv : 1 ≤ boundV c.frame x ∧ boundV c.frame x ≤ 65536 := by have := hyper_ok bk1; have := farV_bd x; omega
    obtain ⟨n, hn⟩ : ∃ n : Nat, boundV c.frame x = (n : Int) := ⟨(boundV c.frame x).toNat, by omega⟩
    have hn2 : n ≤ 65536 := by omega
    have CT := Lib.hid (fun (W : World) (gb : Below w.heap.size w W) => steps_any ta sa da x.ts.length tc x.ss.length sc x.ds.length dc pv.a0 pv.a1 pv.a2 (n : Int) high W 0 hi x rfl rfl (hpx.later gb).ts (hpx.later gb).ss (Nat.le_trans hh gb.size) (by omega) (by omega) n (by omega))
    have HBO := Lib.hid hb
    have HN := Lib.hid hn
    have HIS := Lib.hid (turnsI_is (x := x) (high := high) hn2)
    have HLN := Lib.hid (turnsI_len (x := x) (high := high) hn2)
    obtain ⟨ol, hol⟩ : ∃ ol, ol = outL (metE (onceV x high) (againV x high)) n := ⟨_, rfl⟩
    have hln : ol.length ≤ 65536 := by rw [hol]; exact Nat.le_trans (outL_len _ _) hn2
    rw [← hol] at CT HIS HLN
    simp only [if_true]
    have e0 : (boundV c.frame x).toNat = n := by rw [hn]; rfl
    rw [e0]
    have HP : Hid (∀ e w', TurnsPost w (1 + ol.length) ([.int .i64 0] ++ ol.flatMap intCells) e w' → TurnsPost w (turnsI x n high).length ((turnsI x n high).flatMap intCells) e w') := Lib.hid fun e w' hq => by rw [← HIS.out, ← HLN.out]; exact hq
    clear h hx hx' hpx kp k1 k2 hBV hBV2 hV hV2 hVs hV2s hi0 s0 s1 s2 s3 s4 s5 hF hb hol hn e0 bk1 bk2 bk3 HIS HLN hbv
    obtain ⟨z0, z1, z2, z3, z4, z5, z6, z7⟩ := K1.out
    obtain ⟨y0, y1, y2, y3, y4, y5⟩ := KP.out V (Below.refl _ _)
    refine Calls.mono ?_ HP.out
    generalize boundV c.frame x = bv at *
    go_enter Try.func53, Try.ntmps53
    go_upto_region 1 with fail
    rw [← HV.out]
    go_upto_region 2 with fail
    have es : V.heap.size = w.heap.size + 1 := HVS.out
    try rw [es]
    try rw [← HV2.out]
    clear z0 z1 z2 z3 z4 z5 z6 z7 y0 y1 y2 y3 y4 y5
    obtain ⟨z0, z6, y0, y1, y2, y3, y4, y5⟩ := K2.out V2 (Below.refl _ _)
    go_upto_region 5 with (first
      | (go_at_call 15; refine (CB.out _ HBV2.out).mono ?_; rintro e w3 ⟨rfl, hb3⟩; rw [HBO.out, HN.out]))
    have HB3 := Lib.hid hb3
    have hbA : Below V2.heap.size V2 (w3.alloc (.cells #[.int .i64 0] 3)) := hb3.alloc (Nat.le_trans (Nat.le_refl _) hb3.size) _
    clear z0 z6 y0 y1 y2 y3 y4 y5
    obtain ⟨z0, z6, y0, y1, y2, y3, y4, y5⟩ := K2.out _ hbA
    have HONE := Lib.hid (owns_oneD (w := w3) (e := 3) (base := w.heap.size) (x := .int .i64 0) (by have := hb3.size; have := HV2S.out; omega))
    have HBA := Lib.hid (show Below w.heap.size w (w3.alloc (.cells #[.int .i64 0] 3)) from HBV2.out.trans (hbA.mono (by have := HV2S.out; omega)))
    clear hbA hb3
    go_wp2_with (first
      | (refine wpList_append_lie2 (by rfl) (.tmp 23) (.tmp 28) 48 (by rfl) w.heap.size 3 i0 _ 1 8 Try.underlying48 HI.out hz0 hz1 hz2 rfl (by omega) (.slice (some ⟨w3.heap.size, 0, none⟩) 1 1) 1 [.int .i64 0] (by rfl) (owns_later HONE.out HB4.out) (.slice a4 ol.length c4) 0 w4.heap.size ol.length (ol.flatMap intCells) (by rfl) HL4.out (flat_one intCells in_one _) (1 + ol.length) rfl (by simp only [maxLen]; omega) (by omega) (by have := HBA.out.size; have := HB4.out.size; omega) ?_; intro ao cap' w5 hown5 hgrow5 hob5)
      | (go_at_call 73; refine (CT.out _ HBA.out).mono ?_; rintro e w4 ⟨a4, c4, rfl, hown4, hb4⟩; have HB4 := Lib.hid hb4; have HL4 := Lib.hid ((Lies.of_owns hown4).wider (Nat.zero_le _) (Nat.le_refl _)); clear hown4 hb4))
    go_ret
    have hs1 := HBA.out.size
    have hs4 := HB4.out.size
    exact ⟨ao, cap', rfl, Lies.of_owns hown5, (HBA.out.trans (HB4.out.mono hs1)).grown hgrow5 (by omega) (fun q hq => by cases hq; show w.heap.size ≤ w3.heap.size; have := HB3.out.size; have := HV2S.out; omega)⟩
set_option maxRecDepth 100000 in
set_option maxHeartbeats 4000000 in
theorem breaks_any {w : World} {lo hl hi : Nat} {c : Cf} {pvs : List Pv} {wa pa ca : Option Addr} {wc pc cc : Nat} {F k : Nat} {high : Bool} {bs ba bc bp g R : Nat} (hF : I64 c.frame) (hFF : c.frame = (F : Int)) (hz : (checkV c).1 = 0) (hS : SlackAt w lo hl c pa pc F k high bs ba bc bp g R) (hhl : hl ≤ w.heap.size) (h : SysL w hi c pvs wa pa ca wc pc cc) (hh : hi ≤ w.heap.size) {x : Pt} (hx : c.ps[k]? = some x) :
    Calls Try.prog 33 #[.agg #[.int .i64 c.frame, .int .i64 c.margin, .slice wa c.ws.length wc, .slice pa c.ps.length pc, .slice ca c.cs.length cc, .int .i64 k, .bool high, slackF bs ba bc bp]] w fun e w' => e = .returned (.tuple #[.int .i64 (phaseT c F (k : Int) high).1, .bool (phaseT c F (k : Int) high).2]) ∧ Below w.heap.size w w' := by
  obtain ⟨d1, d2, _, _⟩ := ok_few hz hx
  obtain ⟨V, hV⟩ : ∃ V, V = w.alloc (.cells #[.int .i64 c.frame, .int .i64 c.margin, .slice wa c.ws.length wc, .slice pa c.ps.length pc, .slice ca c.cs.length cc, .int .i64 k, .bool high, slackF bs ba bc bp] 77) := ⟨_, rfl⟩
  have hBV : Below w.heap.size w V := by rw [hV]; exact below1 _ _
  have hVs : V.heap.size = w.heap.size + 1 := by rw [hV]; simp
  have hVw : w.heap.size < V.heap.size := by omega
  have ks : ∀ W : World, Below V.heap.size V W → W.cell? ⟨w.heap.size, 0, none⟩ = some (.int .i64 c.frame) ∧ W.cell? ⟨w.heap.size, 1, none⟩ = some (.int .i64 c.margin) ∧ W.cell? ⟨w.heap.size, 2, none⟩ = some (.slice wa c.ws.length wc) ∧ W.cell? ⟨w.heap.size, 3, none⟩ = some (.slice pa c.ps.length pc) ∧ W.cell? ⟨w.heap.size, 4, none⟩ = some (.slice ca c.cs.length cc) ∧ W.cell? ⟨w.heap.size, 5, none⟩ = some (.int .i64 k) ∧ W.cell? ⟨w.heap.size, 6, none⟩ = some (.bool high) ∧ W.cell? ⟨w.heap.size, 7, none⟩ = some (slackF bs ba bc bp) := fun W gb => by
    rw [hV] at gb
    exact boxK8 _ _ _ _ _ _ _ _ _ _ W gb
  have HS := Lib.hid (fun (W : World) (gb : Below V.heap.size V W) => And.intro (h.keep (SameIn.of_below (hBV.trans (gb.mono (Nat.le_of_lt hVw))) hh)) (Nat.le_trans (Nat.le_trans hh (Nat.le_of_lt hVw)) gb.size))
  have CT := Lib.hid (fun (W : World) (gb : Below V.heap.size V W) => turns_any hF (HS.out W gb).1 (HS.out W gb).2 hx d1 d2 high (slackF bs ba bc bp))
  have CC := Lib.hid (fun (W : World) (gb : Below V.heap.size V W) (t : Int) => slackC_any (hS.keep (SameIn.of_below (hBV.trans (gb.mono (Nat.le_of_lt hVw))) hhl)) (Nat.le_trans (Nat.le_trans hhl (Nat.le_of_lt hVw)) gb.size) (HS.out W gb).1 (HS.out W gb).2 hx d1 d2 t)
  have KS := Lib.hid ks; have HV := Lib.hid hV; have HBV := Lib.hid hBV
  have HVW := Lib.hid hVw
  cases hb : boundOk c.frame x with
  | false =>
    have HE := Lib.hid (phaseT_large (F := F) (high := high) hz hx hb)
    rw [hb] at CT
    simp only [Bool.false_eq_true, if_false] at CT
    obtain ⟨z0, z1, z2, z3, z4, z5, z6, z7⟩ := ks V (Below.refl _ _)
    clear h hS hx ks hV hBV hVw hVs hF hFF hz hb
    have tk : decide ((0 : Int) < 0) = false := by decide
    rw [HE.out]
    unfold slackF at *
    go_enter Try.func33, Try.ntmps33
    go_upto_region 1 with fail
    rw [← HV.out]
    go_wp2_with (first
      | (go_at_call 53; refine (CT.out _ (Below.refl _ _)).mono ?_; rintro e w2 ⟨a, cap, rfl, hl2, hb2⟩))
    clear z0 z1 z2 z3 z4 z5 z6 z7
    go_loopw [9] (fun i wr => i = .int .i64 0 ∧ wr = w2) (fun i _ => 1)
    case atStart => exact ⟨rfl, rfl⟩
    case round =>
      obtain ⟨rfl, rfl⟩ := hrel
      go_wp2_with fail
      go_ret2
      exact ⟨rfl, HBV.out.trans (hb2.mono (Nat.le_of_lt HVW.out))⟩
  | true =>
    have HE := Lib.hid (show phaseT c F (k : Int) high = phTell ((turnsV x (boundV c.frame x).toNat high).find? fun (t : Nat) => decide (slackU (isO F c.margin c.ws (k : Int)) F x high t < 0)) from by rw [phaseT_yes hz hx hb, phaseC_turns hz hFF k x high hb])
    have hle : ∀ t ∈ turnsV x (boundV c.frame x).toNat high, t ≤ 65536 := fun t ht => by
      obtain ⟨bk1, bk2, bk3⟩ := bound_ok hb
      rcases List.mem_cons.1 ht with rfl | ht
      · omega
      · have := (stepsV_mem.1 ht).1.2
        have : (boundV c.frame x).toNat ≤ 65536 := by omega
        omega
    have hlen : (turnsV x (boundV c.frame x).toNat high).length ≤ 65537 := by
      obtain ⟨bk1, bk2, bk3⟩ := bound_ok hb
      unfold turnsV stepsV
      rw [List.length_cons]
      exact Nat.succ_le_succ (Nat.le_trans (List.length_filter_le _ _) (by rw [List.length_map, List.length_range]; omega))
    rw [hb] at CT
    simp only [if_true] at CT
    rw [HE.out]
    clear HE
    unfold turnsI at CT
    have HLE := Lib.hid hle
    generalize (boundV c.frame x).toNat = n at *
    generalize turnsV x n high = TL at *
    generalize slackU (isO F c.margin c.ws (k : Int)) F x high = S at *
    obtain ⟨L, hL⟩ : ∃ L, L = TL.length := ⟨_, rfl⟩
    have HLL : Hid ((TL.map fun (t : Nat) => (t : Int)).length = L) := Lib.hid (by simp [hL])
    rw [HLL.out] at CT
    rw [← hL] at hlen
    have HL := Lib.hid hL
    obtain ⟨z0, z1, z2, z3, z4, z5, z6, z7⟩ := ks V (Below.refl _ _)
    clear h hS hx ks hV hBV hVw hVs hF hFF hz hb hle hL
    obtain ⟨ans, hans⟩ : ∃ ans, ans = TL.find? fun (t : Nat) => decide (S t < 0) := ⟨_, rfl⟩
    rw [← hans]
    have HR0 : Hid ((TL.drop 0).find? (fun (t : Nat) => decide (S t < 0)) = ans) := Lib.hid hans.symm
    clear hans
    unfold slackF at *
    go_enter Try.func33, Try.ntmps33
    go_upto_region 1 with fail
    rw [← HV.out]
    go_wp2_with (first
      | (go_at_call 53; refine (CT.out _ (Below.refl _ _)).mono ?_; rintro e w2 ⟨a, cap, rfl, hl2, hb2⟩; have HL2 := Lib.hid hl2; have HB2 := Lib.hid hb2; clear hl2 hb2))
    clear z0 z1 z2 z3 z4 z5 z6 z7
    go_loopw [9] (fun i wr => ∃ j : Nat, j ≤ L ∧ i = .int .i64 j ∧ Hid ((TL.drop j).find? (fun (t : Nat) => decide (S t < 0)) = ans) ∧ Below w2.heap.size w2 wr) (fun i _ => L - (intOf i).toNat)
    case atStart => exact ⟨0, by omega, rfl, HR0, Below.refl _ _⟩
    case round =>
      clear HR0
      obtain ⟨j, hj, rfl, HR, hbr⟩ := hrel
      obtain ⟨z0, z1, z2, z3, z4, z5, z6, z7⟩ := KS.out wr (HB2.out.trans (hbr.mono HB2.out.size))
      by_cases hlt : j < L
      · have tk : decide ((j : Int) < (L : Int)) = true := by simpa using hlt
        obtain ⟨t, ht⟩ : ∃ t, TL[j]? = some t := ⟨_, List.getElem?_eq_getElem (by rw [← HL.out]; exact hlt)⟩
        have ht2 : (TL.map fun (t : Nat) => (t : Int))[j]? = some (t : Int) := by rw [List.getElem?_map, ht]; rfl
        have htb : t ≤ 65536 := HLE.out t (List.mem_of_getElem? ht)
        have hct : (cutT (t : Int)).toNat = t := by rw [cutT_of (by omega) (by omega)]; rfl
        have HLW := HL2.out.keep (SameIn.of_below hbr (Nat.le_refl _))
        obtain ⟨a2, c2, e2, _, _, hc⟩ := HLW
        cases e2
        rcases hc with h0 | ⟨b, off, rfl, hb1, hb2, hc⟩
        · exfalso; omega
        have s0 := Lies.int' hc ht2
        have CCW := Lib.hid (by have q := CC.out wr (HB2.out.trans (hbr.mono HB2.out.size)) (t : Int); rw [hct] at q; exact q)
        have HDR : Hid (TL.drop j = t :: TL.drop (j + 1)) := Lib.hid (drop_some ht)
        have l0 : (0 : Int) ≤ (j : Int) := by omega
        have l1 : (j : Int) < (L : Int) := by omega
        clear hc ht ht2 hct
        rcases Int.lt_or_le (S t) 0 with hneg | hpos
        · have HA : Hid (ans = some t) := Lib.hid (by rw [← HR.out, HDR.out, List.find?_cons_of_pos (by simpa using hneg)])
          generalize S t = st at *
          have tn : decide (st < 0) = true := by simpa using hneg
          go_wp2_with (first
            | (go_at_call 61; refine (CCW.out).mono ?_; rintro e w5 ⟨rfl, hb5⟩; have HB5 := Lib.hid hb5; clear hb5))
          go_ret2
          exact ⟨by rw [HA.out]; rfl, HBV.out.trans (((HB2.out.trans (hbr.mono HB2.out.size)).trans (HB5.out.mono (Nat.le_trans HB2.out.size hbr.size))).mono (Nat.le_of_lt HVW.out))⟩
        · have HA : Hid ((TL.drop (j + 1)).find? (fun (t : Nat) => decide (S t < 0)) = ans) := Lib.hid (by rw [← HR.out, HDR.out, List.find?_cons_of_neg (by simp; omega)])
          generalize S t = st at *
          have tn : decide (st < 0) = false := by simp; omega
          go_wp2_with (first
            | (go_at_call 61; refine (CCW.out).mono ?_; rintro e w5 ⟨rfl, hb5⟩; have HB5 := Lib.hid hb5; clear hb5))
          go_roundw
          case rel => exact ⟨j + 1, by omega, by go_num, HA, hbr.trans (HB5.out.mono hbr.size)⟩
          case measure => simp [intOf]; omega
      · have tk : decide ((j : Int) < (L : Int)) = false := by simp; omega
        have HA : Hid (ans = none) := Lib.hid (by rw [← HR.out, List.drop_eq_nil_of_le (by rw [← HL.out]; omega)]; rfl)
        go_wp2_with fail
        go_ret2
        exact ⟨by rw [HA.out]; rfl, HBV.out.trans ((HB2.out.trans (hbr.mono HB2.out.size)).mono (Nat.le_of_lt HVW.out))⟩
end Go.Proofs.Ytdbbdlobahalkaa
namespace Go.Proofs.Ytdbbdlobahalkaa
open Go.ChangeShapes Go.WideShapes Go.ChangeAt Go.RowKit
set_option linter.unusedVariables false
attribute [local go_sem ↓] Go.wp_at_zero Go.wp_at_succ

theorem wpAnyH_takeP {P : Program} {md : Region.Mode} {ops : Array Oper} {Q : Exit → Act → World → Prop} {S : World → Prop} {i : Nat} {oi : Oper} {d : Option Tmp} {v : Value} {fuel : Nat} {listed : Array Bool} {a : Act} {w : World} (hi : ops[i]? = some oi) (hd : oi.dst = d)
    (hs : Region.noSelect ops = true) (hf : Region.free md ops listed i = true) (hr : (Region.ready md ops listed).contains i = true)
    (hQ : ∀ c a w, Q (.panic c) (a.put d v) w → Q (.panic c) a w) (hy : YieldsIf P ops S oi v a) (hS : S w)
    (h : wpAnyH P md ops Q S fuel (listed.setIfInBounds i true) (a.put d v) w) : wpAnyH P md ops Q S (fuel + 1) listed a w := by
  subst hd
  exact wpAnyH_take hi hs hf hr hQ hy hS h
theorem set8 {w : World} {X : Nat} {T : TypeId} {cs : Array Value} (h : w.heap[X]? = some (.cells cs T (0, 0))) (hs : cs.size = 8) (v0 v1 v2 v3 v4 v5 v6 v7 : Value) :
    ((((((((w.setCell ⟨X, 0, none⟩ v0).setCell ⟨X, 1, none⟩ v1).setCell ⟨X, 2, none⟩ v2).setCell ⟨X, 3, none⟩ v3).setCell ⟨X, 4, none⟩ v4).setCell ⟨X, 5, none⟩ v5).setCell ⟨X, 6, none⟩ v6).setCell ⟨X, 7, none⟩ v7).heap[X]? = some (.cells #[v0, v1, v2, v3, v4, v5, v6, v7] T (0, 0)) := by
  have h0 := set_at (j := 0) (u := v0) h
  have h1 := set_at (j := 1) (u := v1) h0
  have h2 := set_at (j := 2) (u := v2) h1
  have h3 := set_at (j := 3) (u := v3) h2
  have h4 := set_at (j := 4) (u := v4) h3
  have h5 := set_at (j := 5) (u := v5) h4
  have h6 := set_at (j := 6) (u := v6) h5
  have h7 := set_at (j := 7) (u := v7) h6
  refine h7.trans ?_
  clear h0 h1 h2 h3 h4 h5 h6 h7 h
  have e : ((((((((cs.setIfInBounds 0 v0).setIfInBounds 1 v1).setIfInBounds 2 v2).setIfInBounds 3 v3).setIfInBounds 4 v4).setIfInBounds 5 v5).setIfInBounds 6 v6).setIfInBounds 7 v7) = #[v0, v1, v2, v3, v4, v5, v6, v7] := by
    obtain ⟨l⟩ := cs
    match l, hs with
    | [_, _, _, _, _, _, _, _], _ => simp
  rw [e]
theorem block_set8 {w : World} {X q : Nat} (h : q ≠ X) (v0 v1 v2 v3 v4 v5 v6 v7 : Value) : ((((((((w.setCell ⟨X, 0, none⟩ v0).setCell ⟨X, 1, none⟩ v1).setCell ⟨X, 2, none⟩ v2).setCell ⟨X, 3, none⟩ v3).setCell ⟨X, 4, none⟩ v4).setCell ⟨X, 5, none⟩ v5).setCell ⟨X, 6, none⟩ v6).setCell ⟨X, 7, none⟩ v7).heap[q]? = w.heap[q]? := by
  simp only [Below.heap_setCell _ _ _ q (show q ≠ (Addr.mk X _ none).block from h)]
theorem below8 {B : Nat} {w0 w : World} (h : Below B w0 w) {X : Nat} (hX : B ≤ X) (v0 v1 v2 v3 v4 v5 v6 v7 : Value) :
    Below B w0 ((((((((w.setCell ⟨X, 0, none⟩ v0).setCell ⟨X, 1, none⟩ v1).setCell ⟨X, 2, none⟩ v2).setCell ⟨X, 3, none⟩ v3).setCell ⟨X, 4, none⟩ v4).setCell ⟨X, 5, none⟩ v5).setCell ⟨X, 6, none⟩ v6).setCell ⟨X, 7, none⟩ v7) :=
  (((((((h.setCell (p := ⟨X, 0, none⟩) hX _).setCell (p := ⟨X, 1, none⟩) hX _).setCell (p := ⟨X, 2, none⟩) hX _).setCell (p := ⟨X, 3, none⟩) hX _).setCell (p := ⟨X, 4, none⟩) hX _).setCell (p := ⟨X, 5, none⟩) hX _).setCell (p := ⟨X, 6, none⟩) hX _).setCell (p := ⟨X, 7, none⟩) hX _
/-- A phase told: that of a partition, its closure in memory; or none. -/
def PhOfPost (w : World) (c : Cf) (wa pa ca : Option Addr) (wc pc cc : Nat) (F : Nat) (p : Int) (high : Bool) (e : Ending) (w' : World) : Prop :=
  ∃ bs ba bc bp g R, e = .returned (.tuple #[.agg #[.int .i64 c.frame, .int .i64 c.margin, .slice wa c.ws.length wc, .slice pa c.ps.length pc, .slice ca c.cs.length cc, .int .i64 p, .bool high, slackF bs ba bc bp], .bool true]) ∧ SlackAt w' w.heap.size w'.heap.size c pa pc F p.toNat high bs ba bc bp g R ∧ Below w.heap.size w w'
set_option maxRecDepth 100000 in
set_option maxHeartbeats 4000000 in
theorem phaseOf_no {w : World} {hi : Nat} {c : Cf} {pvs : List Pv} {wa pa ca : Option Addr} {wc pc cc : Nat} (fw : Few c) (h : SysL w hi c pvs wa pa ca wc pc cc) (hh : hi ≤ w.heap.size) (hin : ∀ x ∈ c.ws, x.In) (p : Int) (high : Bool) (hn : (checkV c).1 ≠ 0 ∨ hasB c.ps.length p = false) :
    Calls Try.prog 21 #[.agg #[.int .i64 c.frame, .int .i64 c.margin, .slice wa c.ws.length wc, .slice pa c.ps.length pc, .slice ca c.cs.length cc], .int .i64 p, .bool high] w fun e w' => e = .returned (.tuple #[.agg #[.int .i64 0, .int .i64 0, .slice none 0 0, .slice none 0 0, .slice none 0 0, .int .i64 0, .bool false, .nilFunc], .bool false]) ∧ Below w.heap.size w w' := by
  obtain ⟨V, hV⟩ : ∃ V, V = (w.alloc (.cells #[.int .i64 c.frame, .int .i64 c.margin, .slice wa c.ws.length wc, .slice pa c.ps.length pc, .slice ca c.cs.length cc] 33)).alloc (.cells #[.int .i64 0, .int .i64 0, .slice none 0 0, .slice none 0 0, .slice none 0 0, .int .i64 0, .bool false, .nilFunc] 77) := ⟨_, rfl⟩
  have hbb : Below (w.alloc (.cells #[.int .i64 c.frame, .int .i64 c.margin, .slice wa c.ws.length wc, .slice pa c.ps.length pc, .slice ca c.cs.length cc] 33)).heap.size (w.alloc (.cells #[.int .i64 c.frame, .int .i64 c.margin, .slice wa c.ws.length wc, .slice pa c.ps.length pc, .slice ca c.cs.length cc] 33)) V := by rw [hV]; exact below1 _ _
  have hBV : Below w.heap.size w V := bel_thenD (below1 _ _) (Nat.le_refl _) hbb
  have hVz : V.heap.size = w.heap.size + 2 := by rw [hV]; simp
  have hVw : w.heap.size < V.heap.size := by omega
  have kx : ∀ W : World, Below V.heap.size V W → W.heap[w.heap.size + 1]? = some (.cells #[.int .i64 0, .int .i64 0, .slice none 0 0, .slice none 0 0, .slice none 0 0, .int .i64 0, .bool false, .nilFunc] 77 (0, 0)) := fun W g => (g.block _ (by omega)).trans (by rw [hV]; exact heap_alloc2_new _ _ _)
  have ks : ∀ W : World, Below V.heap.size V W → (W.cell? ⟨w.heap.size, 0, none⟩ = some (.int .i64 c.frame) ∧ W.cell? ⟨w.heap.size, 1, none⟩ = some (.int .i64 c.margin) ∧ W.cell? ⟨w.heap.size, 2, none⟩ = some (.slice wa c.ws.length wc) ∧ W.cell? ⟨w.heap.size, 3, none⟩ = some (.slice pa c.ps.length pc) ∧ W.cell? ⟨w.heap.size, 4, none⟩ = some (.slice ca c.cs.length cc)) ∧ W.cell? ⟨w.heap.size + 1, 0, none⟩ = some (.int .i64 0) ∧ W.frozen? ⟨w.heap.size + 1, 0, none⟩ = false ∧ W.cell? ⟨w.heap.size + 1, 1, none⟩ = some (.int .i64 0) ∧ W.frozen? ⟨w.heap.size + 1, 1, none⟩ = false ∧ W.cell? ⟨w.heap.size + 1, 2, none⟩ = some (.slice none 0 0) ∧ W.frozen? ⟨w.heap.size + 1, 2, none⟩ = false ∧ W.cell? ⟨w.heap.size + 1, 3, none⟩ = some (.slice none 0 0) ∧ W.frozen? ⟨w.heap.size + 1, 3, none⟩ = false ∧ W.cell? ⟨w.heap.size + 1, 4, none⟩ = some (.slice none 0 0) ∧ W.frozen? ⟨w.heap.size + 1, 4, none⟩ = false ∧ W.cell? ⟨w.heap.size + 1, 5, none⟩ = some (.int .i64 0) ∧ W.frozen? ⟨w.heap.size + 1, 5, none⟩ = false ∧ W.cell? ⟨w.heap.size + 1, 6, none⟩ = some (.bool false) ∧ W.frozen? ⟨w.heap.size + 1, 6, none⟩ = false ∧ W.cell? ⟨w.heap.size + 1, 7, none⟩ = some (.nilFunc) ∧ W.frozen? ⟨w.heap.size + 1, 7, none⟩ = false := fun W g => by
    obtain ⟨k0, k1, k2, k3, k4⟩ := boxK5 w (.int .i64 c.frame) (.int .i64 c.margin) (.slice wa c.ws.length wc) (.slice pa c.ps.length pc) (.slice ca c.cs.length cc) 33 W (bel_thenD hbb (Nat.le_refl _) g)
    have k := kx W g
    exact ⟨⟨k0, k1, k2, k3, k4⟩, cell_in k rfl, free_in k 0, cell_in k rfl, free_in k 1, cell_in k rfl, free_in k 2, cell_in k rfl, free_in k 3, cell_in k rfl, free_in k 4, cell_in k rfl, free_in k 5, cell_in k rfl, free_in k 6, cell_in k rfl, free_in k 7⟩
  have HS := Lib.hid (fun (W : World) (g : Below V.heap.size V W) => And.intro (h.keep (SameIn.of_below (hBV.trans (g.mono (Nat.le_of_lt hVw))) hh)) (Nat.le_trans (Nat.le_trans hh (Nat.le_of_lt hVw)) g.size))
  have HV := Lib.hid hV; have HBV := Lib.hid hBV; have KS := Lib.hid ks; have KX := Lib.hid kx; have HBV1 := Lib.hid hbb
  have hx2 : V.heap.size ≤ w.heap.size + 2 := by omega
  cases hzz : decide ((checkV c).1 = 0) with
  | true =>
    have hz : (checkV c).1 = 0 := by simpa using hzz
    have hp : hasB c.ps.length p = false := by rcases hn with g | g; exact absurd hz g; exact g
    obtain ⟨F, hF⟩ := frame_nat hz
    have CTB := Lib.hid (fun (W : World) (g : Below V.heap.size V W) => table_yes fw (HS.out W g).1 (HS.out W g).2 hin hz F hF)
    have HP := Lib.hid hp
    clear hV hbb hBV ks kx h fw hin hVz hz hzz hp hn hF
    go_enter Try.func21, Try.ntmps21
    go_wp2_with (first
      | (go_at_call 34; rw [← HV.out]; refine (CTB.out V (Below.refl _ _)).mono ?_; rintro e w1 ⟨gt, la, lc, rfl, hT, hb1⟩; have HB1 := Lib.hid hb1; obtain ⟨⟨z0, z1, z2, z3, z4⟩, x0, q0, x1, q1, x2, q2, x3, q3, x4, q4, x5, q5, x6, q6, x7, q7⟩ := KS.out _ hb1; clear hb1)
      | (go_at_call 11; refine (has_any _ _ _ _ _ _ _ _ _ _ _ _ _).mono ?_; rintro e w2 ⟨rfl, hb2⟩; rw [HP.out]; have HB2 := Lib.hid (bel_thenD HB1.out (Nat.le_refl _) hb2); clear z0 z1 z2 z3 z4 x0 q0 x1 q1 x2 q2 x3 q3 x4 q4 x5 q5 x6 q6 x7 q7; obtain ⟨⟨z0, z1, z2, z3, z4⟩, x0, q0, x1, q1, x2, q2, x3, q3, x4, q4, x5, q5, x6, q6, x7, q7⟩ := KS.out _ HB2.out; clear hb2))
    (try simp only [Exit.inBlock, Exit.then])
    refine bodyPost_ret (results_row_tmp (P := Try.prog) rfl _ _ (w.heap.size + 1) _ _ (0, 0) _ rfl (set8 (KX.out _ HB2.out) rfl _ _ _ _ _ _ _ _) Try.underlying77 rfl Try.sizePhase) rfl ?_
    exact ⟨rfl, below8 (HBV.out.trans (HB2.out.mono (Nat.le_of_lt hVw))) (by omega) _ _ _ _ _ _ _ _⟩
  | false =>
    have hz : (checkV c).1 ≠ 0 := by simpa using hzz
    have CTB := Lib.hid (fun (W : World) (g : Below V.heap.size V W) => table_no fw (HS.out W g).1 (HS.out W g).2 hin hz)
    clear hV hbb hBV ks kx h fw hin hVz hz hzz hn
    go_enter Try.func21, Try.ntmps21
    go_wp2_with (first
      | (go_at_call 34; rw [← HV.out]; refine (CTB.out V (Below.refl _ _)).mono ?_; rintro e w1 ⟨rfl, hb1⟩; have HB1 := Lib.hid hb1; obtain ⟨⟨z0, z1, z2, z3, z4⟩, x0, q0, x1, q1, x2, q2, x3, q3, x4, q4, x5, q5, x6, q6, x7, q7⟩ := KS.out _ hb1; clear hb1))
    (try simp only [Exit.inBlock, Exit.then])
    refine bodyPost_ret (results_row_tmp (P := Try.prog) rfl _ _ (w.heap.size + 1) _ _ (0, 0) _ rfl (set8 (KX.out _ HB1.out) rfl _ _ _ _ _ _ _ _) Try.underlying77 rfl Try.sizePhase) rfl ?_
    exact ⟨rfl, below8 (HBV.out.trans (HB1.out.mono (Nat.le_of_lt hVw))) (by omega) _ _ _ _ _ _ _ _⟩
set_option maxRecDepth 100000 in
set_option maxHeartbeats 4000000 in
theorem phaseOf_yes {w : World} {hi : Nat} {c : Cf} {pvs : List Pv} {wa pa ca : Option Addr} {wc pc cc : Nat} (fw : Few c) (h : SysL w hi c pvs wa pa ca wc pc cc) (hh : hi ≤ w.heap.size) (hin : ∀ x ∈ c.ws, x.In) (hz : (checkV c).1 = 0) (F : Nat) (hF : c.frame = (F : Int)) {k : Nat} (hk : k < c.ps.length) (high : Bool) :
    Calls Try.prog 21 #[.agg #[.int .i64 c.frame, .int .i64 c.margin, .slice wa c.ws.length wc, .slice pa c.ps.length pc, .slice ca c.cs.length cc], .int .i64 k, .bool high] w (PhOfPost w c wa pa ca wc pc cc F (k : Int) high) := by
  obtain ⟨V, hV⟩ : ∃ V, V = (w.alloc (.cells #[.int .i64 c.frame, .int .i64 c.margin, .slice wa c.ws.length wc, .slice pa c.ps.length pc, .slice ca c.cs.length cc] 33)).alloc (.cells #[.int .i64 0, .int .i64 0, .slice none 0 0, .slice none 0 0, .slice none 0 0, .int .i64 0, .bool false, .nilFunc] 77) := ⟨_, rfl⟩
  have hbb : Below (w.alloc (.cells #[.int .i64 c.frame, .int .i64 c.margin, .slice wa c.ws.length wc, .slice pa c.ps.length pc, .slice ca c.cs.length cc] 33)).heap.size (w.alloc (.cells #[.int .i64 c.frame, .int .i64 c.margin, .slice wa c.ws.length wc, .slice pa c.ps.length pc, .slice ca c.cs.length cc] 33)) V := by rw [hV]; exact below1 _ _
  have hBV : Below w.heap.size w V := bel_thenD (below1 _ _) (Nat.le_refl _) hbb
  have hVz : V.heap.size = w.heap.size + 2 := by rw [hV]; simp
  have hVw : w.heap.size < V.heap.size := by omega
  have kx : ∀ W : World, Below V.heap.size V W → W.heap[w.heap.size + 1]? = some (.cells #[.int .i64 0, .int .i64 0, .slice none 0 0, .slice none 0 0, .slice none 0 0, .int .i64 0, .bool false, .nilFunc] 77 (0, 0)) := fun W g => (g.block _ (by omega)).trans (by rw [hV]; exact heap_alloc2_new _ _ _)
  have ks : ∀ W : World, Below V.heap.size V W → (W.cell? ⟨w.heap.size, 0, none⟩ = some (.int .i64 c.frame) ∧ W.cell? ⟨w.heap.size, 1, none⟩ = some (.int .i64 c.margin) ∧ W.cell? ⟨w.heap.size, 2, none⟩ = some (.slice wa c.ws.length wc) ∧ W.cell? ⟨w.heap.size, 3, none⟩ = some (.slice pa c.ps.length pc) ∧ W.cell? ⟨w.heap.size, 4, none⟩ = some (.slice ca c.cs.length cc)) ∧ W.cell? ⟨w.heap.size + 1, 0, none⟩ = some (.int .i64 0) ∧ W.frozen? ⟨w.heap.size + 1, 0, none⟩ = false ∧ W.cell? ⟨w.heap.size + 1, 1, none⟩ = some (.int .i64 0) ∧ W.frozen? ⟨w.heap.size + 1, 1, none⟩ = false ∧ W.cell? ⟨w.heap.size + 1, 2, none⟩ = some (.slice none 0 0) ∧ W.frozen? ⟨w.heap.size + 1, 2, none⟩ = false ∧ W.cell? ⟨w.heap.size + 1, 3, none⟩ = some (.slice none 0 0) ∧ W.frozen? ⟨w.heap.size + 1, 3, none⟩ = false ∧ W.cell? ⟨w.heap.size + 1, 4, none⟩ = some (.slice none 0 0) ∧ W.frozen? ⟨w.heap.size + 1, 4, none⟩ = false ∧ W.cell? ⟨w.heap.size + 1, 5, none⟩ = some (.int .i64 0) ∧ W.frozen? ⟨w.heap.size + 1, 5, none⟩ = false ∧ W.cell? ⟨w.heap.size + 1, 6, none⟩ = some (.bool false) ∧ W.frozen? ⟨w.heap.size + 1, 6, none⟩ = false ∧ W.cell? ⟨w.heap.size + 1, 7, none⟩ = some (.nilFunc) ∧ W.frozen? ⟨w.heap.size + 1, 7, none⟩ = false := fun W g => by
    obtain ⟨k0, k1, k2, k3, k4⟩ := boxK5 w (.int .i64 c.frame) (.int .i64 c.margin) (.slice wa c.ws.length wc) (.slice pa c.ps.length pc) (.slice ca c.cs.length cc) 33 W (bel_thenD hbb (Nat.le_refl _) g)
    have k := kx W g
    exact ⟨⟨k0, k1, k2, k3, k4⟩, cell_in k rfl, free_in k 0, cell_in k rfl, free_in k 1, cell_in k rfl, free_in k 2, cell_in k rfl, free_in k 3, cell_in k rfl, free_in k 4, cell_in k rfl, free_in k 5, cell_in k rfl, free_in k 6, cell_in k rfl, free_in k 7⟩
  have HS := Lib.hid (fun (W : World) (g : Below V.heap.size V W) => And.intro (h.keep (SameIn.of_below (hBV.trans (g.mono (Nat.le_of_lt hVw))) hh)) (Nat.le_trans (Nat.le_trans hh (Nat.le_of_lt hVw)) g.size))
  have HV := Lib.hid hV; have HBV := Lib.hid hBV; have KS := Lib.hid ks; have KX := Lib.hid kx; have HBV1 := Lib.hid hbb
  have hx2 : V.heap.size ≤ w.heap.size + 2 := by omega
  have hp : hasB c.ps.length (k : Int) = true := by unfold hasB; simp; omega
  have hlen6 : c.ps.length ≤ 6 := ((check_iff c).1 hz).2.1.2
  have CTB := Lib.hid (fun (W : World) (g : Below V.heap.size V W) => table_yes fw (HS.out W g).1 (HS.out W g).2 hin hz F hF)
  have HP := Lib.hid hp
  have hk6 : k < 6 := by omega
  clear hV hbb hBV ks kx h fw hin hz hp hF hlen6 hk
  go_enter Try.func21, Try.ntmps21
  go_upto_region 4 with (first
    | (go_at_call 34; rw [← HV.out]; refine (CTB.out V (Below.refl _ _)).mono ?_; rintro e w1 ⟨gt, la, lc, rfl, hT, hb1⟩; have HB1 := Lib.hid hb1; have HT := Lib.hid hT; obtain ⟨⟨z0, z1, z2, z3, z4⟩, x0, q0, x1, q1, x2, q2, x3, q3, x4, q4, x5, q5, x6, q6, x7, q7⟩ := KS.out _ hb1; clear hb1 hT)
    | (go_at_call 11; refine (has_any _ _ _ _ _ _ _ _ _ _ _ _ _).mono ?_; rintro e w2 ⟨rfl, hb2⟩; rw [HP.out]; have HB2 := Lib.hid (bel_thenD HB1.out (Nat.le_refl _) hb2); have HT2 := Lib.hid (HT.out.keep hb2 (Nat.le_refl _)); have HW12 := Lib.hid hb2.size; clear hb2))
  clear z0 z1 z2 z3 z4 x0 q0 x1 q1 x2 q2 x3 q3 x4 q4 x5 q5 x6 q6 x7 q7
  have hV1z : (w.alloc (.cells #[.int .i64 c.frame, .int .i64 c.margin, .slice wa c.ws.length wc, .slice pa c.ps.length pc, .slice ca c.cs.length cc] 33)).heap.size = w.heap.size + 1 := by simp
  obtain ⟨V1, hV1⟩ : ∃ V1, V1 = w.alloc (.cells #[.int .i64 c.frame, .int .i64 c.margin, .slice wa c.ws.length wc, .slice pa c.ps.length pc, .slice ca c.cs.length cc] 33) := ⟨_, rfl⟩
  have HV1S : Hid (V1.heap.size = w.heap.size + 1) := Lib.hid (by rw [hV1]; simp)
  have HBB : Hid (Below V1.heap.size V1 V) := Lib.hid (by rw [hV1]; exact HBV1.out)
  have KT : Hid (∀ W : World, Below V1.heap.size V1 W → Below V1.heap.size V1 W ∧ W.cell? ⟨w.heap.size, 0, none⟩ = some (.int .i64 c.frame) ∧ W.cell? ⟨w.heap.size, 1, none⟩ = some (.int .i64 c.margin) ∧ W.cell? ⟨w.heap.size, 2, none⟩ = some (.slice wa c.ws.length wc) ∧ W.cell? ⟨w.heap.size, 3, none⟩ = some (.slice pa c.ps.length pc) ∧ W.cell? ⟨w.heap.size, 4, none⟩ = some (.slice ca c.cs.length cc)) := Lib.hid fun W g => ⟨g, by rw [hV1] at g; exact boxK5 _ _ _ _ _ _ _ W g⟩
  have HB2' := Lib.hid (bel_thenD HBB.out (Nat.le_refl _) HB2.out)
  clear hV1 hV1z
  go_wp2_with fail
  refine wp_region_held_drew (S := fun W => Below V1.heap.size V1 W ∧ W.cell? ⟨w.heap.size, 0, none⟩ = some (.int .i64 c.frame) ∧ W.cell? ⟨w.heap.size, 1, none⟩ = some (.int .i64 c.margin) ∧ W.cell? ⟨w.heap.size, 2, none⟩ = some (.slice wa c.ws.length wc) ∧ W.cell? ⟨w.heap.size, 3, none⟩ = some (.slice pa c.ps.length pc) ∧ W.cell? ⟨w.heap.size, 4, none⟩ = some (.slice ca c.cs.length cc)) (by kernel_rfl) ?_ (fun hHeld => ?_)
  · exact KT.out _ (HB2'.out.drew)
  have hbr : Below w2.heap.size w2 w2.drew := (Below.refl _ _).drew
  refine wpAnyH_takeP (i := 0) (d := some 20) (v := ?_) rfl rfl (by kernel_rfl) (by kernel_rfl) (by kernel_rfl) (fun _ _ _ h => h) (Or.inl ⟨by rfl, ?_⟩) (by assumption) ?_
  rotate_left
  · intro w hSw
    (try dsimp only at hSw)
    go_simp
    try (with_reducible rfl)
  simp only [Act.put, List.setIfInBounds_toArray, List.set_cons_zero, List.set_cons_succ]
  refine wpAnyH_takeP (i := 1) (d := some 21) (v := ?_) rfl rfl (by kernel_rfl) (by kernel_rfl) (by kernel_rfl) (fun _ _ _ h => h) (Or.inl ⟨by rfl, ?_⟩) (by assumption) ?_
  rotate_left
  · intro w hSw
    (try dsimp only at hSw)
    go_simp
    try (with_reducible rfl)
  simp only [Act.put, List.setIfInBounds_toArray, List.set_cons_zero, List.set_cons_succ]
  refine wpAnyH_takeP (i := 2) (d := some 22) (v := ?_) rfl rfl (by kernel_rfl) (by kernel_rfl) (by kernel_rfl) (fun _ _ _ h => h) (Or.inl ⟨by rfl, ?_⟩) (by assumption) ?_
  rotate_left
  · intro w hSw
    (try dsimp only at hSw)
    go_simp
    try (with_reducible rfl)
  simp only [Act.put, List.setIfInBounds_toArray, List.set_cons_zero, List.set_cons_succ]
  refine wpAnyH_takeP (i := 3) (d := some 23) (v := ?_) rfl rfl (by kernel_rfl) (by kernel_rfl) (by kernel_rfl) (fun _ _ _ h => h) (Or.inl ⟨by rfl, ?_⟩) (by assumption) ?_
  rotate_left
  · intro w hSw
    (try dsimp only at hSw)
    go_simp
    try (with_reducible rfl)
  simp only [Act.put, List.setIfInBounds_toArray, List.set_cons_zero, List.set_cons_succ]
  refine wpAnyH_takeP (i := 4) (d := some 24) (v := ?_) rfl rfl (by kernel_rfl) (by kernel_rfl) (by kernel_rfl) (fun _ _ _ h => h) (Or.inl ⟨by rfl, ?_⟩) (by assumption) ?_
  rotate_left
  · intro w hSw
    (try dsimp only at hSw)
    go_simp
    try (with_reducible rfl)
  simp only [Act.put, List.setIfInBounds_toArray, List.set_cons_zero, List.set_cons_succ]
  refine wpAnyH_ready (rs := [5]) (by kernel_rfl) (by simp) ?_
  refine AllReadyH.cons rfl (fun K hK => ?_) AllReadyH.nil
  go_simp
  go_at_call 35
  refine (sOf_yes (HT2.out.keep hbr HW12.out) (Nat.le_trans HW12.out hbr.size) (k : Int) (by omega) (by omega)).mono ?_
  rintro e w3 ⟨g, R, rfl, hsup, hb3⟩
  have HB3 := Lib.hid (bel_thenD hbr (Nat.le_refl _) hb3)
  have hbn : Below V1.heap.size V1 w3 := bel_thenD HB2'.out (Nat.le_refl _) HB3.out
  refine hK.out _ _ ?_ (fun hHeld => ?_)
  · exact KT.out _ hbn
  clear hK K
  try simp only [Act.put, List.setIfInBounds_toArray, List.set_cons_zero, List.set_cons_succ]
  refine wpAnyH_ready (rs := [6]) (by kernel_rfl) (by simp) ?_
  refine AllReadyH.cons rfl (fun K hK => ?_) AllReadyH.nil
  go_simp
  go_at_call 36
  refine (newPhase_any (lo := w2.heap.size) hsup (by have := HB3.out.size; omega) (Nat.le_refl _) high).mono ?_
  rintro e w4 ⟨bs, ba, bc, bp, rfl, hSA, hb4⟩
  unfold slackF
  have HB4 := Lib.hid (bel_thenD HB3.out (Nat.le_refl _) hb4)
  have hbn : Below V1.heap.size V1 w4 := bel_thenD HB2'.out (Nat.le_refl _) HB4.out
  have HX := KX.out w4 (bel_thenD HB2.out (Nat.le_refl _) HB4.out)
  refine hK.out _ _ ?_ (fun hHeld => ?_)
  · exact KT.out _ hbn
  clear hK K
  try simp only [Act.put, List.setIfInBounds_toArray, List.set_cons_zero, List.set_cons_succ]
  have HX5 := Lib.hid (set8 HX rfl (.int .i64 c.frame) (.int .i64 c.margin) (.slice wa c.ws.length wc) (.slice pa c.ps.length pc) (.slice ca c.cs.length cc) (.int .i64 k) (.bool high) (.func (.func 61) #[] #[.pointer (some ⟨bs, 0, none⟩), .pointer (some ⟨ba, 0, none⟩), .pointer (some ⟨bc, 0, none⟩), .pointer (some ⟨bp, 0, none⟩)]))
  have HEND := Lib.hid (show PhOfPost w c wa pa ca wc pc cc F (k : Int) high (.returned (.tuple #[.agg #[.int .i64 c.frame, .int .i64 c.margin, .slice wa c.ws.length wc, .slice pa c.ps.length pc, .slice ca c.cs.length cc, .int .i64 k, .bool high, .func (.func 61) #[] #[.pointer (some ⟨bs, 0, none⟩), .pointer (some ⟨ba, 0, none⟩), .pointer (some ⟨bc, 0, none⟩), .pointer (some ⟨bp, 0, none⟩)]], .bool true])) ((((((((w4.setCell ⟨w.heap.size + 1, 0, none⟩ (.int .i64 c.frame)).setCell ⟨w.heap.size + 1, 1, none⟩ (.int .i64 c.margin)).setCell ⟨w.heap.size + 1, 2, none⟩ (.slice wa c.ws.length wc)).setCell ⟨w.heap.size + 1, 3, none⟩ (.slice pa c.ps.length pc)).setCell ⟨w.heap.size + 1, 4, none⟩ (.slice ca c.cs.length cc)).setCell ⟨w.heap.size + 1, 5, none⟩ (.int .i64 k)).setCell ⟨w.heap.size + 1, 6, none⟩ (.bool high)).setCell ⟨w.heap.size + 1, 7, none⟩ (.func (.func 61) #[] #[.pointer (some ⟨bs, 0, none⟩), .pointer (some ⟨ba, 0, none⟩), .pointer (some ⟨bc, 0, none⟩), .pointer (some ⟨bp, 0, none⟩)])) from by
    refine ⟨bs, ba, bc, bp, g, R, rfl, ?_, below8 (HBV.out.trans ((bel_thenD HB2.out (Nat.le_refl _) HB4.out).mono (Nat.le_of_lt hVw))) (by omega) _ _ _ _ _ _ _ _⟩
    exact (hSA.keep (fun q q1 q2 => block_set8 (by have := HB2.out.size; omega) _ _ _ _ _ _ _ _)).wider (by have := HB2.out.size; omega) (below8 (B := 0) (Below.refl _ _) (Nat.zero_le _) _ _ _ _ _ _ _ _).size)
  have hbn : Below V1.heap.size V1 ((((((((w4.setCell ⟨w.heap.size + 1, 0, none⟩ (.int .i64 c.frame)).setCell ⟨w.heap.size + 1, 1, none⟩ (.int .i64 c.margin)).setCell ⟨w.heap.size + 1, 2, none⟩ (.slice wa c.ws.length wc)).setCell ⟨w.heap.size + 1, 3, none⟩ (.slice pa c.ps.length pc)).setCell ⟨w.heap.size + 1, 4, none⟩ (.slice ca c.cs.length cc)).setCell ⟨w.heap.size + 1, 5, none⟩ (.int .i64 k)).setCell ⟨w.heap.size + 1, 6, none⟩ (.bool high)).setCell ⟨w.heap.size + 1, 7, none⟩ (.func (.func 61) #[] #[.pointer (some ⟨bs, 0, none⟩), .pointer (some ⟨ba, 0, none⟩), .pointer (some ⟨bc, 0, none⟩), .pointer (some ⟨bp, 0, none⟩)])) := below8 (bel_thenD HB2'.out (Nat.le_refl _) HB4.out) (by have := HV1S.out; omega) _ _ _ _ _ _ _ _
  have x0 := cell_in (j := 0) HX rfl; have q0 := free_in HX 0; have x1 := cell_in (j := 1) HX rfl; have q1 := free_in HX 1; have x2 := cell_in (j := 2) HX rfl; have q2 := free_in HX 2; have x3 := cell_in (j := 3) HX rfl; have q3 := free_in HX 3; have x4 := cell_in (j := 4) HX rfl; have q4 := free_in HX 4; have x5 := cell_in (j := 5) HX rfl; have q5 := free_in HX 5; have x6 := cell_in (j := 6) HX rfl; have q6 := free_in HX 6; have x7 := cell_in (j := 7) HX rfl; have q7 := free_in HX 7
  refine wpAnyH_ready (rs := [7]) (by kernel_rfl) (by simp) ?_
  refine AllReadyH.cons rfl (fun K hK => ?_) AllReadyH.nil
  go_simp
  refine hK.out _ _ ?_ (fun hHeld => ?_)
  · exact KT.out _ hbn
  clear hK K
  try simp only [Act.put, List.setIfInBounds_toArray, List.set_cons_zero, List.set_cons_succ]
  refine wpAnyH_takeP (i := 8) (d := some 7) (v := ?_) rfl rfl (by kernel_rfl) (by kernel_rfl) (by kernel_rfl) (fun _ _ _ h => h) (Or.inl ⟨by rfl, ?_⟩) (by assumption) ?_
  rotate_left
  · intro w hSw
    (try dsimp only at hSw)
    go_simp
    try (with_reducible rfl)
  simp only [Act.put, List.setIfInBounds_toArray, List.set_cons_zero, List.set_cons_succ]
  refine wpAnyH_done (by kernel_rfl) ?_ _
  go_wp2_with fail
  (try simp only [Exit.inBlock, Exit.then])
  refine bodyPost_ret (results_row_tmp (P := Try.prog) rfl _ _ (w.heap.size + 1) _ _ (0, 0) _ rfl HX5.out Try.underlying77 rfl Try.sizePhase) rfl ?_
  exact HEND.out
set_option maxRecDepth 100000 in
set_option maxHeartbeats 2000000 in
theorem slack_no {w : World} {hi : Nat} {c : Cf} {pvs : List Pv} {wa pa ca : Option Addr} {wc pc cc : Nat} (fw : Few c) (h : SysL w hi c pvs wa pa ca wc pc cc) (hh : hi ≤ w.heap.size) (hin : ∀ x ∈ c.ws, x.In) (p : Int) (t : Int) (high : Bool) (hn : (checkV c).1 ≠ 0 ∨ hasB c.ps.length p = false) :
    Calls Try.prog 10 #[.agg #[.int .i64 c.frame, .int .i64 c.margin, .slice wa c.ws.length wc, .slice pa c.ps.length pc, .slice ca c.cs.length cc], .int .i64 p, .int .i64 t, .bool high] w fun e w' => e = .returned (.tuple #[.int .i64 0, .bool false]) ∧ Below w.heap.size w w' := by
  obtain ⟨V, hV⟩ : ∃ V, V = w.alloc (.cells #[.int .i64 c.frame, .int .i64 c.margin, .slice wa c.ws.length wc, .slice pa c.ps.length pc, .slice ca c.cs.length cc] 33) := ⟨_, rfl⟩
  have ks : ∀ W : World, Below V.heap.size V W → W.cell? ⟨w.heap.size, 0, none⟩ = some (.int .i64 c.frame) ∧ W.cell? ⟨w.heap.size, 1, none⟩ = some (.int .i64 c.margin) ∧ W.cell? ⟨w.heap.size, 2, none⟩ = some (.slice wa c.ws.length wc) ∧ W.cell? ⟨w.heap.size, 3, none⟩ = some (.slice pa c.ps.length pc) ∧ W.cell? ⟨w.heap.size, 4, none⟩ = some (.slice ca c.cs.length cc) := fun W g => by
    rw [hV] at g
    exact boxK5 _ _ _ _ _ _ _ W g
  have hBV : Below w.heap.size w V := by rw [hV]; exact below1 _ _
  have hVw : w.heap.size < V.heap.size := by rw [hV]; simp
  have HS := Lib.hid (fun (W : World) (g : Below V.heap.size V W) => And.intro (h.keep (SameIn.of_below (hBV.trans (g.mono (Nat.le_of_lt hVw))) hh)) (Nat.le_trans (Nat.le_trans hh (Nat.le_of_lt hVw)) g.size))
  have HV := Lib.hid hV; have HBV := Lib.hid hBV
  obtain ⟨z0, z1, z2, z3, z4⟩ := ks V (Below.refl _ _)
  have CP := Lib.hid (phaseOf_no fw (HS.out V (Below.refl _ _)).1 (HS.out V (Below.refl _ _)).2 hin p high hn)
  clear hV hBV ks h fw hin hn
  go_enter Try.func10, Try.ntmps10
  go_wp2_with (first
    | (go_at_call 21; rw [← HV.out]; refine CP.out.mono ?_; rintro e w1 ⟨rfl, hb1⟩; have HB1 := Lib.hid hb1; clear hb1))
  go_ret2
  exact ⟨rfl, HBV.out.trans ((HB1.out.mono (Nat.le_of_lt hVw)).alloc (by have := HB1.out.size; omega) _)⟩
set_option maxRecDepth 100000 in
set_option maxHeartbeats 4000000 in
theorem slack_yes {w : World} {hi : Nat} {c : Cf} {pvs : List Pv} {wa pa ca : Option Addr} {wc pc cc : Nat} (fw : Few c) (h : SysL w hi c pvs wa pa ca wc pc cc) (hh : hi ≤ w.heap.size) (hin : ∀ x ∈ c.ws, x.In) (hz : (checkV c).1 = 0) (F : Nat) (hF : c.frame = (F : Int)) {k : Nat} {x : Pt} (hx : c.ps[k]? = some x) (t : Int) (high : Bool) :
    Calls Try.prog 10 #[.agg #[.int .i64 c.frame, .int .i64 c.margin, .slice wa c.ws.length wc, .slice pa c.ps.length pc, .slice ca c.cs.length cc], .int .i64 k, .int .i64 t, .bool high] w fun e w' => e = .returned (.tuple #[.int .i64 (slackU (isO F c.margin c.ws (k : Int)) F x high (cutT t).toNat), .bool true]) ∧ Below w.heap.size w w' := by
  obtain ⟨V, hV⟩ : ∃ V, V = w.alloc (.cells #[.int .i64 c.frame, .int .i64 c.margin, .slice wa c.ws.length wc, .slice pa c.ps.length pc, .slice ca c.cs.length cc] 33) := ⟨_, rfl⟩
  have ks : ∀ W : World, Below V.heap.size V W → W.cell? ⟨w.heap.size, 0, none⟩ = some (.int .i64 c.frame) ∧ W.cell? ⟨w.heap.size, 1, none⟩ = some (.int .i64 c.margin) ∧ W.cell? ⟨w.heap.size, 2, none⟩ = some (.slice wa c.ws.length wc) ∧ W.cell? ⟨w.heap.size, 3, none⟩ = some (.slice pa c.ps.length pc) ∧ W.cell? ⟨w.heap.size, 4, none⟩ = some (.slice ca c.cs.length cc) := fun W g => by
    rw [hV] at g
    exact boxK5 _ _ _ _ _ _ _ W g
  have hBV : Below w.heap.size w V := by rw [hV]; exact below1 _ _
  have hVw : w.heap.size < V.heap.size := by rw [hV]; simp
  have HS := Lib.hid (fun (W : World) (g : Below V.heap.size V W) => And.intro (h.keep (SameIn.of_below (hBV.trans (g.mono (Nat.le_of_lt hVw))) hh)) (Nat.le_trans (Nat.le_trans hh (Nat.le_of_lt hVw)) g.size))
  have HV := Lib.hid hV; have HBV := Lib.hid hBV
  obtain ⟨z0, z1, z2, z3, z4⟩ := ks V (Below.refl _ _)
  have hk : k < c.ps.length := (List.getElem?_eq_some_iff.1 hx).1
  obtain ⟨d1, d2, _, _⟩ := ok_few hz hx
  have CP := Lib.hid (phaseOf_yes fw (HS.out V (Below.refl _ _)).1 (HS.out V (Below.refl _ _)).2 hin hz F hF hk high)
  have CC : Hid (∀ (w1 : World) (bs ba bc bp g R : Nat), SlackAt w1 V.heap.size w1.heap.size c pa pc F k high bs ba bc bp g R → Below V.heap.size V w1 → ∀ o : Obj, Calls Try.prog 61 #[.int .i64 t, .pointer (some ⟨bs, 0, none⟩), .pointer (some ⟨ba, 0, none⟩), .pointer (some ⟨bc, 0, none⟩), .pointer (some ⟨bp, 0, none⟩)] (w1.alloc o) fun e w' => e = .returned (.int .i64 (slackU (isO F c.margin c.ws (k : Int)) F x high (cutT t).toNat)) ∧ Below (w1.alloc o).heap.size (w1.alloc o) w') := Lib.hid fun w1 bs ba bc bp g R hs hb o => slackC_any (hs.keep (SameIn.of_below (below1 w1 o) (Nat.le_refl _))) (below1 w1 o).size (HS.out _ (hb.alloc hb.size o)).1 (HS.out _ (hb.alloc hb.size o)).2 hx d1 d2 t
  generalize slackU (isO F c.margin c.ws (k : Int)) F x high (cutT t).toNat = sl at *
  clear hV hBV ks h fw hin hz hF hx hk
  go_enter Try.func10, Try.ntmps10
  go_wp2_with (first
    | (go_at_call 21; rw [← HV.out]; refine CP.out.mono ?_; rintro e w1 ⟨bs, ba, bc, bp, g, R, rfl, hSA, hb1⟩; rw [Int.toNat_natCast] at hSA; have HSA := Lib.hid hSA; have HB1 := Lib.hid hb1; unfold slackF; clear hSA hb1)
    | (go_at_call 61; refine (CC.out _ _ _ _ _ _ _ HSA.out HB1.out _).mono ?_; rintro e w2 ⟨rfl, hb2⟩; have HB2 := Lib.hid hb2; clear hb2))
  go_ret2
  exact ⟨rfl, HBV.out.trans ((((HB1.out.mono (Nat.le_of_lt hVw)).alloc (by have := HB1.out.size; omega) _)).trans (HB2.out.mono (by have := HB1.out.size; simp; omega)))⟩
theorem slackOk : SlackOk := by
  intro w hi c pvs wa pa ca wc pc cc fw h hh hin hF64 F hFe p t high
  by_cases hn : (checkV c).1 ≠ 0 ∨ hasB c.ps.length p = false
  · rw [slackT_no hn]
    exact slack_no fw h hh hin p t high hn
  · have hz : (checkV c).1 = 0 := Classical.byContradiction fun g => hn (.inl g)
    have hp : hasB c.ps.length p = true := by cases g : hasB c.ps.length p with | true => rfl | false => exact absurd (.inr g) hn
    obtain ⟨p0, p1⟩ := hasB_true hp
    obtain ⟨k, rfl⟩ := Int.eq_ofNat_of_zero_le p0
    obtain ⟨x, hx⟩ : ∃ x, c.ps[k]? = some x := ⟨_, List.getElem?_eq_getElem (by omega)⟩
    rw [slackT_yes hz hx]
    exact slack_yes fw h hh hin hz F (hFe hz) hx t high
end Go.Proofs.Ytdbbdlobahalkaa
namespace Go.Proofs.Ytdbbdlobahalkaa
open Go.ChangeShapes Go.WideShapes Go.ChangeAt Go.RowKit
set_option linter.unusedVariables false
set_option linter.unusedSimpArgs false
attribute [local go_sem ↓] Go.wp_at_zero Go.wp_at_succ

theorem Try.infoPhase : (Try.prog.info? 77).map (fun i => (i.zero, i.size, i.bytes)) = some (some (.agg #[.int .i64 0, .int .i64 0, .slice none 0 0, .slice none 0 0, .slice none 0 0, .int .i64 0, .bool false, .nilFunc]), 8, 112) := by kernel_rfl
/-- A phase as it lies in memory: its partition, its mode, where its closure's things lie. -/
structure Ph where
  (k : Nat) (high : Bool) (bs ba bc bp g R : Nat)
def phCells (c : Cf) (wa pa ca : Option Addr) (wc pc cc : Nat) (p : Ph) : List Value := [.int .i64 c.frame, .int .i64 c.margin, .slice wa c.ws.length wc, .slice pa c.ps.length pc, .slice ca c.cs.length cc, .int .i64 (p.k : Nat), .bool p.high, slackF p.bs p.ba p.bc p.bp]
theorem phCells_len (c : Cf) (wa pa ca : Option Addr) (wc pc cc : Nat) (p : Ph) : (phCells c wa pa ca wc pc cc p).length = 8 := rfl
theorem phCells_one (c : Cf) (wa pa ca : Option Addr) (wc pc cc : Nat) (p : Ph) : ∀ u ∈ phCells c wa pa ca wc pc cc p, u.oneCell' = true := by
  intro u hu
  simp [phCells] at hu
  rcases hu with h | h | h | h | h | h | h | h <;> subst h <;> rfl
theorem Lies.ph {c : Cf} {wa pa ca : Option Addr} {wc pc cc : Nat} {w : World} {b off : Nat} {xs : List Ph} {i : Nat} {p : Ph} (h : ∀ k u, (xs.flatMap (phCells c wa pa ca wc pc cc))[k]? = some u → w.cell? ⟨b, off + k, none⟩ = some u) (hx : xs[i]? = some p) :
    w.cell? ⟨b, off + i * 8, none⟩ = some (.int .i64 c.frame) ∧ w.cell? ⟨b, off + i * 8 + 1, none⟩ = some (.int .i64 c.margin) ∧ w.cell? ⟨b, off + i * 8 + 2, none⟩ = some (.slice wa c.ws.length wc) ∧ w.cell? ⟨b, off + i * 8 + 3, none⟩ = some (.slice pa c.ps.length pc) ∧ w.cell? ⟨b, off + i * 8 + 4, none⟩ = some (.slice ca c.cs.length cc) ∧ w.cell? ⟨b, off + i * 8 + 5, none⟩ = some (.int .i64 (p.k : Nat)) ∧ w.cell? ⟨b, off + i * 8 + 6, none⟩ = some (.bool p.high) ∧ w.cell? ⟨b, off + i * 8 + 7, none⟩ = some (slackF p.bs p.ba p.bc p.bp) := by
  have f := fun j hj => flat_at (phCells c wa pa ca wc pc cc) 8 (fun _ => rfl) xs i j p hx hj
  have g := fun j hj u hu => by
    have := h (i * 8 + j) u ((f j hj).trans hu)
    rwa [← Nat.add_assoc] at this
  exact ⟨g 0 (by omega) _ rfl, g 1 (by omega) _ rfl, g 2 (by omega) _ rfl, g 3 (by omega) _ rfl, g 4 (by omega) _ rfl, g 5 (by omega) _ rfl, g 6 (by omega) _ rfl, g 7 (by omega) _ rfl⟩
/-- Each partition's low phase, then its high one. -/
def pairsL : Nat → List (Nat × Bool)
  | 0 => []
  | m + 1 => pairsL m ++ [(m, false), (m, true)]
theorem pairsL_len : ∀ m, (pairsL m).length = 2 * m
  | 0 => rfl
  | m + 1 => by rw [pairsL, List.length_append, pairsL_len m]; simp; omega
theorem pairsL_at : ∀ {m i : Nat}, i < 2 * m → (pairsL m)[i]? = some (i / 2, i % 2 == 1)
  | 0, i, h => by omega
  | m + 1, i, h => by
    rw [pairsL]
    by_cases hi : i < 2 * m
    · rw [List.getElem?_append_left (by rw [pairsL_len]; exact hi)]
      exact pairsL_at hi
    · rw [List.getElem?_append_right (by rw [pairsL_len]; omega), pairsL_len]
      rcases (show i = 2 * m ∨ i = 2 * m + 1 by omega) with rfl | rfl
      · simp [show 2 * m / 2 = m by omega]
      · simp [show 2 * m + 1 - 2 * m = 1 by omega, show (2 * m + 1) / 2 = m by omega, show (2 * m + 1) % 2 = 1 by omega]
/-- Phases, each in a range of its own, clear of one block. -/
def PhRow (w : World) (ob : Option Nat) (c : Cf) (pa : Option Addr) (pc F : Nat) (phs : List Ph) : Prop :=
  ∀ p ∈ phs, ∃ lo hi, hi ≤ w.heap.size ∧ (∀ g, ob = some g → g < lo ∨ hi ≤ g) ∧ SlackAt w lo hi c pa pc F p.k p.high p.bs p.ba p.bc p.bp p.g p.R
theorem PhRow.later {w w' : World} {ob : Option Nat} {c : Cf} {pa : Option Addr} {pc F : Nat} {phs : List Ph} (h : PhRow w ob c pa pc F phs) (hb : Below w.heap.size w w') : PhRow w' ob c pa pc F phs := fun p hp =>
  let ⟨lo, hi, a, b, d⟩ := h p hp; ⟨lo, hi, Nat.le_trans a hb.size, b, d.keep (SameIn.of_below hb a)⟩
theorem PhRow.grown {w w' : World} {ob ob' : Option Nat} {c : Cf} {pa : Option Addr} {pc F : Nat} {phs : List Ph} (h : PhRow w ob c pa pc F phs) (hg : w.grownBy w' ob) (ho : ob' = ob ∨ ob' = some w.heap.size) : PhRow w' ob' c pa pc F phs := fun p hp => by
  obtain ⟨lo, hi, a, b, d⟩ := h p hp
  refine ⟨lo, hi, Nat.le_trans a hg.size, fun g hg' => ?_, d.keep (fun k k1 k2 => hg.block k (by omega) (fun e => ?_))⟩
  · rcases ho with rfl | rfl
    · exact b g hg'
    · cases hg'; exact .inr a
  · have := b k e.symm; omega
/-- Two more. -/
theorem PhRow.more {wr w5 w6 : World} {ob ob' : Option Nat} {c : Cf} {pa : Option Addr} {pc F : Nat} {phs : List Ph} (h : PhRow wr ob c pa pc F phs) (hb : Below wr.heap.size wr w5) (hob : ∀ g, ob = some g → g < wr.heap.size) (hg : w5.grownBy w6 ob) (ho : ob' = ob ∨ ob' = some w5.heap.size) {p q : Ph}
    (hp : SlackAt w5 wr.heap.size w5.heap.size c pa pc F p.k p.high p.bs p.ba p.bc p.bp p.g p.R) (hq : SlackAt w5 wr.heap.size w5.heap.size c pa pc F q.k q.high q.bs q.ba q.bc q.bp q.g q.R) : PhRow w6 ob' c pa pc F (phs ++ [p, q]) := by
  have h5 : PhRow w5 ob c pa pc F (phs ++ [p, q]) := fun r hr => by
    rcases List.mem_append.1 hr with hr | hr
    · exact h.later hb r hr
    · rcases List.mem_cons.1 hr with rfl | hr
      · exact ⟨wr.heap.size, w5.heap.size, Nat.le_refl _, fun g e => .inl (hob g e), hp⟩
      · obtain rfl : r = q := by simpa using hr
        exact ⟨wr.heap.size, w5.heap.size, Nat.le_refl _, fun g e => .inl (hob g e), hq⟩
  exact h5.grown hg ho
/-- What phases tells. -/
def PhasesPost (w : World) (c : Cf) (wa pa ca : Option Addr) (wc pc cc : Nat) (F : Nat) (e : Ending) (w' : World) : Prop :=
  ∃ (a : Option Addr) (cap : Nat) (phs : List Ph), e = .returned (.slice a (2 * c.ps.length) cap) ∧ Lies w' w.heap.size w'.heap.size (.slice a (2 * c.ps.length) cap) (2 * c.ps.length) 8 (phs.flatMap (phCells c wa pa ca wc pc cc)) ∧ phs.map (fun p => (p.k, p.high)) = pairsL c.ps.length ∧ (∀ p ∈ phs, SlackAt w' 0 w'.heap.size c pa pc F p.k p.high p.bs p.ba p.bc p.bp p.g p.R) ∧ Below w.heap.size w w'
theorem two_lies {w : World} {b : Nat} {xs : List Value} {t : TypeId} (h : w.heap[b]? = some (.cells xs.toArray t (0, 0))) (hs : xs.length = 16) : Lies w b (b + 1) (.slice (some ⟨b, 0, none⟩) 2 2) 2 8 xs :=
  ⟨_, _, rfl, by omega, (fun h => by cases h), .inr ⟨b, 0, rfl, by omega, by omega, fun k u hu => by rw [Nat.zero_add]; exact cell_in h (by simpa using hu)⟩⟩
set_option maxRecDepth 100000 in
set_option maxHeartbeats 8000000 in
theorem phases_any {w : World} {hi : Nat} {c : Cf} {pvs : List Pv} {wa pa ca : Option Addr} {wc pc cc : Nat} (fw : Few c) (h : SysL w hi c pvs wa pa ca wc pc cc) (hh : hi ≤ w.heap.size) (hin : ∀ x ∈ c.ws, x.In) (hz : (checkV c).1 = 0) (F : Nat) (hF : c.frame = (F : Int)) :
    Calls Try.prog 20 #[.agg #[.int .i64 c.frame, .int .i64 c.margin, .slice wa c.ws.length wc, .slice pa c.ps.length pc, .slice ca c.cs.length cc]] w (PhasesPost w c wa pa ca wc pc cc F) := by
  obtain ⟨i0, hi0, hz0, hz1, hz2⟩ := info_parts Try.infoPhase
  have HI := Lib.hid hi0
  obtain ⟨V, hV⟩ : ∃ V, V = w.alloc (.cells #[.int .i64 c.frame, .int .i64 c.margin, .slice wa c.ws.length wc, .slice pa c.ps.length pc, .slice ca c.cs.length cc] 33) := ⟨_, rfl⟩
  have ks : ∀ W : World, Below V.heap.size V W → W.cell? ⟨w.heap.size, 0, none⟩ = some (.int .i64 c.frame) ∧ W.cell? ⟨w.heap.size, 1, none⟩ = some (.int .i64 c.margin) ∧ W.cell? ⟨w.heap.size, 2, none⟩ = some (.slice wa c.ws.length wc) ∧ W.cell? ⟨w.heap.size, 3, none⟩ = some (.slice pa c.ps.length pc) ∧ W.cell? ⟨w.heap.size, 4, none⟩ = some (.slice ca c.cs.length cc) := fun W g => by
    rw [hV] at g
    exact boxK5 _ _ _ _ _ _ _ W g
  have hBV : Below w.heap.size w V := by rw [hV]; exact below1 _ _
  have hVw : w.heap.size < V.heap.size := by rw [hV]; simp
  have hVs : V.heap.size = w.heap.size + 1 := by rw [hV]; simp
  have HS := Lib.hid (fun (W : World) (g : Below V.heap.size V W) => And.intro (h.keep (SameIn.of_below (hBV.trans (g.mono (Nat.le_of_lt hVw))) hh)) (Nat.le_trans (Nat.le_trans hh (Nat.le_of_lt hVw)) g.size))
  have CTB := Lib.hid (fun (W : World) (g : Below V.heap.size V W) => table_yes fw (HS.out W g).1 (HS.out W g).2 hin hz F hF)
  have hlen6 : c.ps.length ≤ 6 := ((check_iff c).1 hz).2.1.2
  have HV := Lib.hid hV; have HBV := Lib.hid hBV; have KS := Lib.hid ks; have HVW := Lib.hid hVw
  obtain ⟨z0, z1, z2, z3, z4⟩ := ks V (Below.refl _ _)
  clear hV hBV ks h fw hin hz hF
  go_enter Try.func20, Try.ntmps20
  go_wp2_with (first
    | (go_at_call 34; rw [← HV.out]; refine (CTB.out V (Below.refl _ _)).mono ?_; rintro e w1 ⟨gt, la, lc, rfl, hT, hb1⟩; have HB1 := Lib.hid hb1; have HT := Lib.hid hT; clear z0 z1 z2 z3 z4; obtain ⟨z0, z1, z2, z3, z4⟩ := KS.out _ hb1; clear hb1 hT))
  clear z0 z1 z2 z3 z4
  have H1S := Lib.hid (Nat.lt_of_lt_of_le hVw HB1.out.size)
  go_loopw [4, 12] (fun s4 s12 wr => ∃ (k cap : Nat) (a : Option Addr) (phs : List Ph), k ≤ c.ps.length ∧ s4 = .slice a (2 * k) cap ∧ s12 = .int .i64 k ∧ Hid (wr.ownsRow w1.heap.size 77 8 (.slice a (2 * k) cap) (2 * k) (phs.flatMap (phCells c wa pa ca wc pc cc))) ∧ Hid (phs.map (fun p => (p.k, p.high)) = pairsL k) ∧ Hid (PhRow wr (Value.slice a (2 * k) cap).ownBlock c pa pc F phs) ∧ Below w1.heap.size w1 wr) (fun _ i _ => c.ps.length - (intOf i).toNat)
  case atStart => exact ⟨0, 0, none, [], by omega, rfl, rfl, Lib.hid (World.ownsRow_nil _ _ _ _), Lib.hid rfl, Lib.hid (fun p hp => by cases hp), Below.refl _ _⟩
  case round =>
    obtain ⟨k, cap, a, phs, hk, rfl, rfl, HO, HP, HR, hb⟩ := hrel
    by_cases hlt : k < c.ps.length
    · have tk : decide ((k : Int) < (c.ps.length : Int)) = true := by simpa using hlt
      have CO := Lib.hid (sOf_yes (HT.out.keep hb (Nat.le_refl _)) hb.size (k : Int) (by omega) (by omega))
      obtain ⟨z0, z1, z2, z3, z4⟩ := KS.out wr (HB1.out.trans (hb.mono HB1.out.size))
      have H1R := Lib.hid hb.size
      go_upto_region 7 with (first
        | (go_at_call 35; refine CO.out.mono ?_; rintro e w2 ⟨g, R, rfl, hsup, hb2⟩; have HSUP := Lib.hid hsup; have HB2 := Lib.hid hb2; clear hsup hb2 z0 z1 z2 z3 z4))
      have HBW := Lib.hid (bel_thenD hb (Nat.le_refl _) HB2.out)
      have KT : Hid (∀ W : World, Below w1.heap.size w1 W → Below w1.heap.size w1 W ∧ W.cell? ⟨w.heap.size, 0, none⟩ = some (.int .i64 c.frame) ∧ W.cell? ⟨w.heap.size, 1, none⟩ = some (.int .i64 c.margin) ∧ W.cell? ⟨w.heap.size, 2, none⟩ = some (.slice wa c.ws.length wc) ∧ W.cell? ⟨w.heap.size, 3, none⟩ = some (.slice pa c.ps.length pc) ∧ W.cell? ⟨w.heap.size, 4, none⟩ = some (.slice ca c.cs.length cc)) := Lib.hid fun W gW => ⟨gW, KS.out W (HB1.out.trans (gW.mono HB1.out.size))⟩
      have hbr : Below w2.heap.size w2 w2.drew := (Below.refl _ _).drew
      refine wp_region_held_drew (S := fun W => Below w1.heap.size w1 W ∧ W.cell? ⟨w.heap.size, 0, none⟩ = some (.int .i64 c.frame) ∧ W.cell? ⟨w.heap.size, 1, none⟩ = some (.int .i64 c.margin) ∧ W.cell? ⟨w.heap.size, 2, none⟩ = some (.slice wa c.ws.length wc) ∧ W.cell? ⟨w.heap.size, 3, none⟩ = some (.slice pa c.ps.length pc) ∧ W.cell? ⟨w.heap.size, 4, none⟩ = some (.slice ca c.cs.length cc)) (by kernel_rfl) ?_ (fun hHeld => ?_)
      · exact KT.out _ (HBW.out.drew)
      refine wpAnyH_takeP (i := 0) (d := some 18) (v := ?_) rfl rfl (by kernel_rfl) (by kernel_rfl) (by kernel_rfl) (fun _ _ _ h => h) (Or.inl ⟨by rfl, ?_⟩) (by assumption) ?_
      rotate_left
      · intro w hSw
        (try dsimp only at hSw)
        go_simp
        try (with_reducible rfl)
      simp only [Act.put, List.setIfInBounds_toArray, List.set_cons_zero, List.set_cons_succ]
      refine wpAnyH_takeP (i := 1) (d := some 19) (v := ?_) rfl rfl (by kernel_rfl) (by kernel_rfl) (by kernel_rfl) (fun _ _ _ h => h) (Or.inl ⟨by rfl, ?_⟩) (by assumption) ?_
      rotate_left
      · intro w hSw
        (try dsimp only at hSw)
        go_simp
        try (with_reducible rfl)
      simp only [Act.put, List.setIfInBounds_toArray, List.set_cons_zero, List.set_cons_succ]
      refine wpAnyH_takeP (i := 2) (d := some 20) (v := ?_) rfl rfl (by kernel_rfl) (by kernel_rfl) (by kernel_rfl) (fun _ _ _ h => h) (Or.inl ⟨by rfl, ?_⟩) (by assumption) ?_
      rotate_left
      · intro w hSw
        (try dsimp only at hSw)
        go_simp
        try (with_reducible rfl)
      simp only [Act.put, List.setIfInBounds_toArray, List.set_cons_zero, List.set_cons_succ]
      refine wpAnyH_takeP (i := 3) (d := some 21) (v := ?_) rfl rfl (by kernel_rfl) (by kernel_rfl) (by kernel_rfl) (fun _ _ _ h => h) (Or.inl ⟨by rfl, ?_⟩) (by assumption) ?_
      rotate_left
      · intro w hSw
        (try dsimp only at hSw)
        go_simp
        try (with_reducible rfl)
      simp only [Act.put, List.setIfInBounds_toArray, List.set_cons_zero, List.set_cons_succ]
      refine wpAnyH_takeP (i := 5) (d := some 23) (v := ?_) rfl rfl (by kernel_rfl) (by kernel_rfl) (by kernel_rfl) (fun _ _ _ h => h) (Or.inl ⟨by rfl, ?_⟩) (by assumption) ?_
      rotate_left
      · intro w hSw
        (try dsimp only at hSw)
        go_simp
        try (with_reducible rfl)
      simp only [Act.put, List.setIfInBounds_toArray, List.set_cons_zero, List.set_cons_succ]
      refine wpAnyH_takeP (i := 6) (d := some 24) (v := ?_) rfl rfl (by kernel_rfl) (by kernel_rfl) (by kernel_rfl) (fun _ _ _ h => h) (Or.inl ⟨by rfl, ?_⟩) (by assumption) ?_
      rotate_left
      · intro w hSw
        (try dsimp only at hSw)
        go_simp
        try (with_reducible rfl)
      simp only [Act.put, List.setIfInBounds_toArray, List.set_cons_zero, List.set_cons_succ]
      refine wpAnyH_takeP (i := 7) (d := some 25) (v := ?_) rfl rfl (by kernel_rfl) (by kernel_rfl) (by kernel_rfl) (fun _ _ _ h => h) (Or.inl ⟨by rfl, ?_⟩) (by assumption) ?_
      rotate_left
      · intro w hSw
        (try dsimp only at hSw)
        go_simp
        try (with_reducible rfl)
      simp only [Act.put, List.setIfInBounds_toArray, List.set_cons_zero, List.set_cons_succ]
      refine wpAnyH_ready (rs := [4]) (by kernel_rfl) (by simp) ?_
      refine AllReadyH.cons rfl (fun K hK => ?_) AllReadyH.nil
      go_simp
      go_at_call 36
      refine (newPhase_any (lo := wr.heap.size) (HSUP.out.keep (SameIn.of_below hbr (Nat.le_refl _))) (Nat.le_trans HB2.out.size hbr.size) hbr.size false).mono ?_
      rintro e w3 ⟨bs, ba, bc, bp, rfl, hSA, hb3⟩
      unfold slackF
      have HB3 := Lib.hid (bel_thenD hbr (Nat.le_refl _) hb3)
      have HSA := Lib.hid hSA
      have hbn : Below w1.heap.size w1 w3 := bel_thenD HBW.out (Nat.le_refl _) HB3.out
      clear hSA hb3
      refine hK.out _ _ ?_ (fun hHeld => ?_)
      · exact KT.out _ hbn
      clear hK K
      try simp only [Act.put, List.setIfInBounds_toArray, List.set_cons_zero, List.set_cons_succ]
      refine wpAnyH_ready (rs := [8]) (by kernel_rfl) (by simp) ?_
      refine AllReadyH.cons rfl (fun K hK => ?_) AllReadyH.nil
      go_simp
      go_at_call 36
      refine (newPhase_any (lo := wr.heap.size) (HSUP.out.keep (SameIn.of_below HB3.out (Nat.le_refl _))) (Nat.le_trans HB2.out.size HB3.out.size) HB3.out.size true).mono ?_
      rintro e w4 ⟨bs2, ba2, bc2, bp2, rfl, hSB, hb4⟩
      unfold slackF
      have HB4 := Lib.hid (bel_thenD HB3.out (Nat.le_refl _) hb4)
      have HSB := Lib.hid hSB
      have HS3 := Lib.hid (HSA.out.keep (SameIn.of_below hb4 (Nat.le_refl _)))
      have H34 := Lib.hid hb4.size
      have hbn : Below w1.heap.size w1 w4 := bel_thenD HBW.out (Nat.le_refl _) HB4.out
      clear hSB hb4
      refine hK.out _ _ ?_ (fun hHeld => ?_)
      · exact KT.out _ hbn
      clear hK K
      try simp only [Act.put, List.setIfInBounds_toArray, List.set_cons_zero, List.set_cons_succ]
      have hz12 : Below wr.heap.size wr w4 := bel_thenD HB2.out (Nat.le_refl _) HB4.out
      obtain ⟨news, hnews⟩ : ∃ news, news = phCells c wa pa ca wc pc cc ⟨k, false, bs, ba, bc, bp, g, R⟩ ++ phCells c wa pa ca wc pc cc ⟨k, true, bs2, ba2, bc2, bp2, g, R⟩ := ⟨_, rfl⟩
      have HNEWS := Lib.hid hnews
      have HAP : Hid (∀ W : World, W.heap = (w4.alloc (.cells #[.int .i64 c.frame, .int .i64 c.margin, .slice wa c.ws.length wc, .slice pa c.ps.length pc, .slice ca c.cs.length cc, .int .i64 k, .bool false, .func (.func 61) #[] #[.pointer (some ⟨bs, 0, none⟩), .pointer (some ⟨ba, 0, none⟩), .pointer (some ⟨bc, 0, none⟩), .pointer (some ⟨bp, 0, none⟩)], .int .i64 c.frame, .int .i64 c.margin, .slice wa c.ws.length wc, .slice pa c.ps.length pc, .slice ca c.cs.length cc, .int .i64 k, .bool true, .func (.func 61) #[] #[.pointer (some ⟨bs2, 0, none⟩), .pointer (some ⟨ba2, 0, none⟩), .pointer (some ⟨bc2, 0, none⟩), .pointer (some ⟨bp2, 0, none⟩)]] 77)).heap → W.ownsRow w1.heap.size 77 8 (.slice a (2 * k) cap) (2 * k) (phs.flatMap (phCells c wa pa ca wc pc cc)) ∧ Lies W w4.heap.size (w4.heap.size + 1) (.slice (some ⟨w4.heap.size, 0, none⟩) 2 2) 2 8 news ∧ w1.heap.size ≤ W.heap.size) := Lib.hid fun W hW => by
        have hz : W.heap.size = w4.heap.size + 1 := by rw [hW]; simp
        have h4 := hz12.size
        refine ⟨owns_hold (owns_later HO.out hz12) ⟨by omega, fun q hq => ?_⟩, two_lies (t := 77) ?_ (by rw [hnews]; rfl), by have := H1R.out; omega⟩
        · have := (owns_own (owns_later HO.out hz12) q hq).2
          rw [hW, heap_at, if_neg (by omega)]
        · rw [hW, hnews]; exact heap_alloc_new _ _
      have hk12 : 2 * k + 2 = 2 * (k + 1) := by omega
      refine wpAnyH_ready (rs := [9]) (by kernel_rfl) (by simp) ?_
      refine AllReadyH.cons rfl (fun K hK => ?_) AllReadyH.nil
      go_simp
      refine hK.out _ _ ?_ (fun hHeld => ?_)
      · exact KT.out _ (hbn.alloc hbn.size _)
      clear hK K
      try simp only [Act.put, List.setIfInBounds_toArray, List.set_cons_zero, List.set_cons_succ]
      refine wpAnyH_ready (rs := [10]) (by kernel_rfl) (by simp) ?_
      refine AllReadyH.cons rfl (fun K hK => ?_) AllReadyH.nil
      refine step_append_lie2 (by rfl) (.tmp 18) (.tmp 27) 73 (by rfl) w1.heap.size 77 i0 _ 8 112 Try.underlying73 HI.out hz0 hz1 hz2 rfl (by omega) (.slice a (2 * k) cap) (2 * k) (phs.flatMap (phCells c wa pa ca wc pc cc)) (by rfl) (HAP.out _ (by rfl)).1 (.slice (some ⟨w4.heap.size, 0, none⟩) 2 2) w4.heap.size (w4.heap.size + 1) 2 news (by rfl) (HAP.out _ (by rfl)).2.1 (by rw [HNEWS.out]; intro u hu; rcases List.mem_append.1 hu with hu | hu <;> exact phCells_one _ _ _ _ _ _ _ _ u hu) (2 * (k + 1)) hk12 (by simp only [maxLen]; omega) (by omega) (HAP.out _ (by rfl)).2.2 ?_
      intro ao cap' w6 hown6 hgrow6 hob6
      obtain ⟨U, hU⟩ : ∃ U, U = w4.alloc (.cells #[.int .i64 c.frame, .int .i64 c.margin, .slice wa c.ws.length wc, .slice pa c.ps.length pc, .slice ca c.cs.length cc, .int .i64 k, .bool false, .func (.func 61) #[] #[.pointer (some ⟨bs, 0, none⟩), .pointer (some ⟨ba, 0, none⟩), .pointer (some ⟨bc, 0, none⟩), .pointer (some ⟨bp, 0, none⟩)], .int .i64 c.frame, .int .i64 c.margin, .slice wa c.ws.length wc, .slice pa c.ps.length pc, .slice ca c.cs.length cc, .int .i64 k, .bool true, .func (.func 61) #[] #[.pointer (some ⟨bs2, 0, none⟩), .pointer (some ⟨ba2, 0, none⟩), .pointer (some ⟨bc2, 0, none⟩), .pointer (some ⟨bp2, 0, none⟩)]] 77) := ⟨_, rfl⟩
      have hU4 : Below w4.heap.size w4 U := by rw [hU]; exact below1 _ _
      have hgU : U.grownBy w6 (Value.slice a (2 * k) cap).ownBlock := by rw [hU]; exact hgrow6
      have hoU : (Value.slice ao (2 * (k + 1)) cap').ownBlock = (Value.slice a (2 * k) cap).ownBlock ∨ (Value.slice ao (2 * (k + 1)) cap').ownBlock = some U.heap.size := by rw [hU]; exact hob6
      have hbn2 : Below w1.heap.size w1 w6 := ((hbn.trans (hU4.mono hbn.size)).grown hgU (Nat.le_trans hbn.size hU4.size) (fun q hq => (owns_own HO.out q hq).1))
      have HREL := Lib.hid (show ∃ (k' cap1 : Nat) (a' : Option Addr) (phs' : List Ph), k' ≤ c.ps.length ∧ Value.slice ao (2 * (k + 1)) cap' = .slice a' (2 * k') cap1 ∧ Value.int .i64 ((k : Int) + 1) = .int .i64 k' ∧ Hid (w6.ownsRow w1.heap.size 77 8 (.slice a' (2 * k') cap1) (2 * k') (phs'.flatMap (phCells c wa pa ca wc pc cc))) ∧ Hid (phs'.map (fun p => (p.k, p.high)) = pairsL k') ∧ Hid (PhRow w6 (Value.slice a' (2 * k') cap1).ownBlock c pa pc F phs') ∧ Below w1.heap.size w1 w6 from by
        refine ⟨k + 1, cap', ao, phs ++ [⟨k, false, bs, ba, bc, bp, g, R⟩, ⟨k, true, bs2, ba2, bc2, bp2, g, R⟩], by omega, rfl, by rw [show ((k + 1 : Nat) : Int) = (k : Int) + 1 by omega], Lib.hid ?_, Lib.hid ?_, Lib.hid ?_, hbn2⟩
        · rw [List.flatMap_append, show List.flatMap (phCells c wa pa ca wc pc cc) [⟨k, false, bs, ba, bc, bp, g, R⟩, ⟨k, true, bs2, ba2, bc2, bp2, g, R⟩] = news from by rw [HNEWS.out]; simp]
          exact hown6
        · rw [List.map_append, HP.out]; rfl
        · refine HR.out.more (w5 := U) (hz12.trans (hU4.mono hz12.size)) (fun q hq => (owns_own HO.out q hq).2) hgU hoU ?_ ?_
          · exact ((HS3.out.wider (Nat.le_refl _) H34.out).keep (SameIn.of_below hU4 (Nat.le_refl _))).wider (Nat.le_refl _) hU4.size
          · exact (HSB.out.keep (SameIn.of_below hU4 (Nat.le_refl _))).wider (Nat.le_refl _) hU4.size)
      refine hK.out _ _ ?_ (fun hHeld => ?_)
      · exact KT.out _ hbn2
      clear hK K
      try simp only [Act.put, List.setIfInBounds_toArray, List.set_cons_zero, List.set_cons_succ]
      refine wpAnyH_takeP (i := 11) (d := some 4) (v := ?_) rfl rfl (by kernel_rfl) (by kernel_rfl) (by kernel_rfl) (fun _ _ _ h => h) (Or.inl ⟨by rfl, ?_⟩) (by assumption) ?_
      rotate_left
      · intro w hSw
        (try dsimp only at hSw)
        go_simp
        try (with_reducible rfl)
      simp only [Act.put, List.setIfInBounds_toArray, List.set_cons_zero, List.set_cons_succ]
      refine wpAnyH_done (by kernel_rfl) ?_ _
      go_wp2_with fail
      go_roundw
      case rel => exact HREL.out
      case measure => simp [intOf]; omega
    · have tk : decide ((k : Int) < (c.ps.length : Int)) = false := by simp; omega
      obtain rfl : k = c.ps.length := by omega
      obtain ⟨z0, z1, z2, z3, z4⟩ := KS.out wr (HB1.out.trans (hb.mono HB1.out.size))
      go_wp2_with fail
      go_ret
      refine ⟨a, cap, phs, rfl, (Lies.of_owns HO.out).wider (Nat.le_of_lt H1S.out) (Nat.le_refl _), HP.out, fun p hp => ?_, HBV.out.trans ((HB1.out.trans (hb.mono HB1.out.size)).mono (Nat.le_of_lt HVW.out))⟩
      obtain ⟨lo, hi', e1, _, e3⟩ := HR.out p hp
      exact e3.wider (Nat.zero_le _) e1
end Go.Proofs.Ytdbbdlobahalkaa
namespace Go.Proofs.Ytdbbdlobahalkaa
open Go.ChangeShapes Go.WideShapes Go.ChangeAt Go.RowKit
set_option linter.unusedVariables false
attribute [local go_sem ↓] Go.wp_at_zero Go.wp_at_succ

theorem Try.sizeVerdP : (Try.prog.info? 36).map (·.size) = some 4 := by kernel_rfl
set_option maxRecDepth 100000 in
set_option maxHeartbeats 4000000 in
theorem judged_any {w : World} {hi : Nat} {c : Cf} {pvs : List Pv} {wa pa ca : Option Addr} {wc pc cc : Nat} {F : Nat} {a : Option Addr} {cap : Nat} {phs : List Ph} (h : SysL w hi c pvs wa pa ca wc pc cc) (hh : hi ≤ w.heap.size) (hF64 : I64 c.frame) (hz : (checkV c).1 = 0) (hF : c.frame = (F : Int)) (hbnd : ∀ x ∈ c.ps, boundOk c.frame x = true)
    (hl : Lies w 0 w.heap.size (.slice a (2 * c.ps.length) cap) (2 * c.ps.length) 8 (phs.flatMap (phCells c wa pa ca wc pc cc))) (hps : phs.map (fun p => (p.k, p.high)) = pairsL c.ps.length) (hS : ∀ p ∈ phs, SlackAt w 0 w.heap.size c pa pc F p.k p.high p.bs p.ba p.bc p.bp p.g p.R) :
    Calls Try.prog 19 #[.slice a (2 * c.ps.length) cap] w fun e w' => e = .returned (.agg (judgeRun (phAt c F) (2 * c.ps.length) 0).cells) ∧ Below w.heap.size w w' := by
  obtain ⟨V, hV⟩ : ∃ V, V = w.alloc (.cells #[.int .i64 0, .int .i64 0, .bool false, .int .i64 0] 36) := ⟨_, rfl⟩
  have hBV : Below w.heap.size w V := by rw [hV]; exact below1 _ _
  have hVz : V.heap.size = w.heap.size + 1 := by rw [hV]; simp
  have hVw : w.heap.size < V.heap.size := by omega
  have kx : ∀ W : World, Below V.heap.size V W → W.heap[w.heap.size]? = some (.cells #[.int .i64 0, .int .i64 0, .bool false, .int .i64 0] 36 (0, 0)) := fun W g => (g.block _ (by omega)).trans (by rw [hV]; exact heap_alloc_new _ _)
  have kr : ∀ W : World, Below V.heap.size V W → W.cell? ⟨w.heap.size, 0, none⟩ = some (.int .i64 0) ∧ W.frozen? ⟨w.heap.size, 0, none⟩ = false ∧ W.cell? ⟨w.heap.size, 1, none⟩ = some (.int .i64 0) ∧ W.frozen? ⟨w.heap.size, 1, none⟩ = false ∧ W.cell? ⟨w.heap.size, 2, none⟩ = some (.bool false) ∧ W.frozen? ⟨w.heap.size, 2, none⟩ = false ∧ W.cell? ⟨w.heap.size, 3, none⟩ = some (.int .i64 0) ∧ W.frozen? ⟨w.heap.size, 3, none⟩ = false := fun W g => by
    have k := kx W g
    exact ⟨cell_in k rfl, free_in k 0, cell_in k rfl, free_in k 1, cell_in k rfl, free_in k 2, cell_in k rfl, free_in k 3⟩
  have hlen6 : c.ps.length ≤ 6 := ((check_iff c).1 hz).2.1.2
  have CB : Hid (∀ (W : World), Below V.heap.size V W → ∀ (j : Nat) (p : Ph), phs[j]? = some p → j < 2 * c.ps.length → (p.k = j / 2 ∧ p.high = (j % 2 == 1)) ∧ Calls Try.prog 33 #[.agg #[.int .i64 c.frame, .int .i64 c.margin, .slice wa c.ws.length wc, .slice pa c.ps.length pc, .slice ca c.cs.length cc, .int .i64 p.k, .bool p.high, slackF p.bs p.ba p.bc p.bp]] W fun e w' => e = .returned (.tuple #[.int .i64 (phTell (phAt c F j)).1, .bool (phTell (phAt c F j)).2]) ∧ Below W.heap.size W w') := Lib.hid fun W g j p hp hj => by
    have e : (p.k, p.high) = (j / 2, j % 2 == 1) := by
      have h1 : (phs.map fun p => (p.k, p.high))[j]? = some (p.k, p.high) := by rw [List.getElem?_map, hp]; rfl
      rw [hps, pairsL_at hj] at h1
      exact (Option.some.inj h1).symm
    obtain ⟨e1, e2⟩ := Prod.mk.inj e
    refine ⟨⟨e1, e2⟩, ?_⟩
    have hlt : p.k < c.ps.length := by omega
    obtain ⟨x, hx⟩ : ∃ x, c.ps[p.k]? = some x := ⟨_, List.getElem?_eq_getElem hlt⟩
    have hbw : Below w.heap.size w W := hBV.trans (g.mono (Nat.le_of_lt hVw))
    have q := breaks_any hF64 hF hz ((hS p (List.mem_of_getElem? hp)).keep (SameIn.of_below hbw (Nat.le_refl _))) hbw.size (h.keep (SameIn.of_below hbw hh)) (Nat.le_trans hh hbw.size) hx
    rw [phaseT_yes hz hx (hbnd x (List.mem_of_getElem? hx))] at q
    have e3 : phAt c F j = phaseC c F p.k x p.high := by unfold phAt; rw [← e1, hx, e2]
    rw [e3]
    exact q
  have HL := Lib.hid hl
  have hpl : phs.length = 2 * c.ps.length := by
    have := congrArg List.length hps
    rwa [List.length_map, pairsL_len] at this
  have HPL := Lib.hid hpl
  have HV := Lib.hid hV; have HBV := Lib.hid hBV; have KR := Lib.hid kr; have KX := Lib.hid kx; have HVW := Lib.hid hVw
  clear hV hBV kr kx h hh hF64 hz hF hbnd hl hps hS hpl
  obtain ⟨ph, hph⟩ : ∃ ph, ph = phAt c F := ⟨_, rfl⟩
  rw [← hph] at CB ⊢
  clear hph
  obtain ⟨n, hn⟩ : ∃ n, n = 2 * c.ps.length := ⟨_, rfl⟩
  rw [← hn] at HL HPL CB ⊢
  have hn12 : n ≤ 12 := by omega
  obtain ⟨ans, hans⟩ : ∃ ans, ans = judgeRun ph n 0 := ⟨_, rfl⟩
  rw [← hans]
  have HR0 : Hid (judgeRun ph (n - 0) 0 = ans) := Lib.hid hans.symm
  clear hn hans
  go_enter Try.func19, Try.ntmps19
  go_wp2_with fail
  rw [← HV.out]
  go_wp2_with fail
  go_loopw [9] (fun i wr => ∃ j : Nat, j ≤ n ∧ i = .int .i64 j ∧ Hid (judgeRun ph (n - j) j = ans) ∧ Below V.heap.size V wr) (fun i _ => n - (intOf i).toNat)
  case atStart => exact ⟨0, by omega, rfl, HR0, Below.refl _ _⟩
  case round =>
    clear HR0
    obtain ⟨j, hj, rfl, HR, hb⟩ := hrel
    obtain ⟨x0, q0, x1, q1, x2, q2, x3, q3⟩ := KR.out wr hb
    by_cases hlt : j < n
    · have tk : decide ((j : Int) < (n : Int)) = true := by simpa using hlt
      obtain ⟨p, hp⟩ : ∃ p, phs[j]? = some p := ⟨_, List.getElem?_eq_getElem (by rw [HPL.out]; exact hlt)⟩
      have HBW : Hid (Below w.heap.size w wr) := Lib.hid (HBV.out.trans (hb.mono (Nat.le_of_lt HVW.out)))
      have HLW := HL.out.keep (SameIn.of_below HBW.out (Nat.le_refl _))
      obtain ⟨a2, c2, e2, _, _, hc⟩ := HLW
      cases e2
      rcases hc with h0 | ⟨b, off, rfl, hb1, hb2, hc⟩
      · exfalso; omega
      obtain ⟨s0, s1, s2, s3, s4, s5, s6, s7⟩ := Lies.ph hc hp
      have HC := Lib.hid (fun (W : World) (g : Below V.heap.size V W) => (CB.out W g j p hp hlt).2)
      have HE := Lib.hid (CB.out wr hb j p hp hlt).1
      have l0 : (0 : Int) ≤ (j : Int) := by omega
      have l1 : (j : Int) < (n : Int) := by omega
      obtain ⟨m, hm⟩ : ∃ m, n - j = m + 1 := ⟨n - j - 1, by omega⟩
      have hm2 : n - (j + 1) = m := by omega
      have HM := Lib.hid hm; have HM2 := Lib.hid hm2
      clear hc hp hm hm2
      unfold slackF at *
      cases hq : ph j with
      | some T =>
        have HA : Hid (ans = ⟨1, (j / 2 : Nat), j % 2 == 1, T⟩) := Lib.hid (by rw [← HR.out, HM.out, judge_stop hq])
        rw [hq] at HC
        simp only [phTell] at HC
        clear hq
        go_wp2_with (first
          | (go_at_call 33; refine (HC.out _ (hb.alloc hb.size _)).mono ?_; rintro e w5 ⟨rfl, hb5⟩; have HB5 := Lib.hid (bel_thenD (hb.alloc hb.size _) (Nat.le_refl _) hb5); obtain ⟨y5, y6⟩ : w5.cell? ⟨wr.heap.size, 5, none⟩ = some (.int .i64 p.k) ∧ w5.cell? ⟨wr.heap.size, 6, none⟩ = some (.bool p.high) := ⟨box_says _ _ _ _ hb5 5 _ rfl, box_says _ _ _ _ hb5 6 _ rfl⟩; clear x0 q0 x1 q1 x2 q2 x3 q3; obtain ⟨x0, q0, x1, q1, x2, q2, x3, q3⟩ := KR.out w5 HB5.out; clear hb5))
        (try simp only [Exit.inBlock, Exit.then])
        refine bodyPost_ret (results_cell_row (P := Try.prog) rfl _ _ w.heap.size _ _ (0, 0) _ rfl (set4 (KX.out _ HB5.out) rfl _ _ _ _) Try.underlying36 rfl Try.sizeVerdP) rfl ?_
        exact ⟨by rw [HA.out, HE.out.1, HE.out.2]; rfl, below4 (HBV.out.trans (HB5.out.mono (Nat.le_of_lt HVW.out))) (Nat.le_refl _) _ _ _ _⟩
      | none =>
        have HA : Hid (judgeRun ph (n - (j + 1)) (j + 1) = ans) := Lib.hid (by rw [← HR.out, HM.out, judge_next hq, HM2.out])
        rw [hq] at HC
        simp only [phTell] at HC
        clear hq
        go_wp2_with (first
          | (go_at_call 33; refine (HC.out _ (hb.alloc hb.size _)).mono ?_; rintro e w5 ⟨rfl, hb5⟩; have HB5 := Lib.hid (bel_thenD (hb.alloc hb.size _) (Nat.le_refl _) hb5); clear hb5))
        go_roundw
        case rel => exact ⟨j + 1, by omega, by go_num, HA, HB5.out⟩
        case measure => simp [intOf]; omega
    · have tk : decide ((j : Int) < (n : Int)) = false := by simp; omega
      have HA : Hid (ans = noVd) := Lib.hid (by rw [← HR.out, show n - j = 0 by omega]; rfl)
      go_wp2_with fail
      (try simp only [Exit.inBlock, Exit.then])
      refine bodyPost_ret (results_cell_row (P := Try.prog) rfl _ _ w.heap.size _ _ (0, 0) _ rfl (set4 (KX.out _ hb) rfl _ _ _ _) Try.underlying36 rfl Try.sizeVerdP) rfl ?_
      exact ⟨by rw [HA.out]; rfl, below4 (HBV.out.trans (hb.mono (Nat.le_of_lt HVW.out))) (Nat.le_refl _) _ _ _ _⟩
set_option maxRecDepth 100000 in
set_option maxHeartbeats 4000000 in
theorem judgeOk : JudgeOk := by
  intro w hi c pvs wa pa ca wc pc cc fw h hh hin hF64 F hFe
  obtain ⟨V, hV⟩ : ∃ V, V = (w.alloc (.cells #[.int .i64 c.frame, .int .i64 c.margin, .slice wa c.ws.length wc, .slice pa c.ps.length pc, .slice ca c.cs.length cc] 33)).alloc (.cells #[.int .i64 0, .int .i64 0, .bool false, .int .i64 0] 36) := ⟨_, rfl⟩
  have hbb : Below (w.alloc (.cells #[.int .i64 c.frame, .int .i64 c.margin, .slice wa c.ws.length wc, .slice pa c.ps.length pc, .slice ca c.cs.length cc] 33)).heap.size (w.alloc (.cells #[.int .i64 c.frame, .int .i64 c.margin, .slice wa c.ws.length wc, .slice pa c.ps.length pc, .slice ca c.cs.length cc] 33)) V := by rw [hV]; exact below1 _ _
  have hBV : Below w.heap.size w V := bel_thenD (below1 _ _) (Nat.le_refl _) hbb
  have hVz : V.heap.size = w.heap.size + 2 := by rw [hV]; simp
  have hVw : w.heap.size < V.heap.size := by omega
  have kx : ∀ W : World, Below V.heap.size V W → W.heap[w.heap.size + 1]? = some (.cells #[.int .i64 0, .int .i64 0, .bool false, .int .i64 0] 36 (0, 0)) := fun W g => (g.block _ (by omega)).trans (by rw [hV]; exact heap_alloc2_new _ _ _)
  have ks : ∀ W : World, Below V.heap.size V W → (W.cell? ⟨w.heap.size, 0, none⟩ = some (.int .i64 c.frame) ∧ W.cell? ⟨w.heap.size, 1, none⟩ = some (.int .i64 c.margin) ∧ W.cell? ⟨w.heap.size, 2, none⟩ = some (.slice wa c.ws.length wc) ∧ W.cell? ⟨w.heap.size, 3, none⟩ = some (.slice pa c.ps.length pc) ∧ W.cell? ⟨w.heap.size, 4, none⟩ = some (.slice ca c.cs.length cc)) ∧ W.cell? ⟨w.heap.size + 1, 0, none⟩ = some (.int .i64 0) ∧ W.frozen? ⟨w.heap.size + 1, 0, none⟩ = false ∧ W.cell? ⟨w.heap.size + 1, 1, none⟩ = some (.int .i64 0) ∧ W.frozen? ⟨w.heap.size + 1, 1, none⟩ = false ∧ W.cell? ⟨w.heap.size + 1, 2, none⟩ = some (.bool false) ∧ W.frozen? ⟨w.heap.size + 1, 2, none⟩ = false ∧ W.cell? ⟨w.heap.size + 1, 3, none⟩ = some (.int .i64 0) ∧ W.frozen? ⟨w.heap.size + 1, 3, none⟩ = false := fun W g => by
    obtain ⟨k0, k1, k2, k3, k4⟩ := boxK5 w (.int .i64 c.frame) (.int .i64 c.margin) (.slice wa c.ws.length wc) (.slice pa c.ps.length pc) (.slice ca c.cs.length cc) 33 W (bel_thenD hbb (Nat.le_refl _) g)
    have k := kx W g
    exact ⟨⟨k0, k1, k2, k3, k4⟩, cell_in k rfl, free_in k 0, cell_in k rfl, free_in k 1, cell_in k rfl, free_in k 2, cell_in k rfl, free_in k 3⟩
  have HS := Lib.hid (fun (W : World) (g : Below V.heap.size V W) => And.intro (h.keep (SameIn.of_below (hBV.trans (g.mono (Nat.le_of_lt hVw))) hh)) (Nat.le_trans (Nat.le_trans hh (Nat.le_of_lt hVw)) g.size))
  have CK := Lib.hid (fun (W : World) (g : Below V.heap.size V W) => check_sys fw (HS.out W g).1 (HS.out W g).2 hin)
  have CL := Lib.hid (fun (W : World) (g : Below V.heap.size V W) => all_sys fw hF64 (HS.out W g).1 (HS.out W g).2)
  have HV := Lib.hid hV; have HBV := Lib.hid hBV; have KS := Lib.hid ks; have KX := Lib.hid kx
  have hx2 : V.heap.size ≤ w.heap.size + 2 := by omega
  by_cases hz : (checkV c).1 = 0
  case neg =>
    have HJ : Hid ((judgeV c F).1 = noVd ∧ (judgeV c F).2 = (checkV c).1) := Lib.hid (by unfold judgeV; rw [if_neg hz]; exact ⟨rfl, rfl⟩)
    have t1 : ((checkV c).1 != 0) = true := by simpa using hz
    have t2 : ((checkV c).1 == 0) = false := by simpa using hz
    clear hV hbb hBV ks kx h fw hin hFe hVz hz hF64
    generalize (checkV c).1 = e1 at *
    generalize (checkV c).2 = e2 at *
    go_enter Try.func8, Try.ntmps8
    go_wp2_with (first
      | (go_at_call 14; rw [← HV.out]; refine (CK.out V (Below.refl _ _)).mono ?_; rintro e w1 ⟨rfl, hb1⟩; have HB1 := Lib.hid hb1; obtain ⟨⟨z0, z1, z2, z3, z4⟩, x0, q0, x1, q1, x2, q2, x3, q3⟩ := KS.out _ hb1; clear hb1))
    (try simp only [Exit.inBlock, Exit.then])
    refine bodyPost_ret (results_row_tmp (P := Try.prog) rfl _ _ (w.heap.size + 1) _ _ (0, 0) _ rfl (set4 (KX.out _ HB1.out) rfl _ _ _ _) Try.underlying36 rfl Try.sizeVerdP) rfl ?_
    exact ⟨by rw [HJ.out.1, HJ.out.2]; rfl, below4 (HBV.out.trans (HB1.out.mono (Nat.le_of_lt hVw))) (by omega) _ _ _ _⟩
  case pos =>
    have hF := hFe hz
    have t1 : ((checkV c).1 != 0) = false := by simpa using hz
    have t2 : ((checkV c).1 == 0) = true := by simpa using hz
    by_cases hal : 0 ≤ (allV c).1
    · have HJ : Hid ((judgeV c F).1 = ⟨2, (allV c).1, false, 0⟩ ∧ (judgeV c F).2 = 0) := Lib.hid (by unfold judgeV; rw [if_pos hz, if_pos hal]; exact ⟨rfl, rfl⟩)
      have t3 : decide (0 ≤ (allV c).1) = true := by simpa using hal
      clear hV hbb hBV ks kx h fw hin hFe hVz hz hF hF64
      generalize (checkV c).1 = e1 at *
      generalize (checkV c).2 = e2 at *
      generalize (allV c).1 = e3 at *
      generalize (allV c).2 = e4 at *
      go_enter Try.func8, Try.ntmps8
      go_wp2_with (first
        | (go_at_call 14; rw [← HV.out]; refine (CK.out V (Below.refl _ _)).mono ?_; rintro e w1 ⟨rfl, hb1⟩; have HB1 := Lib.hid hb1; obtain ⟨⟨z0, z1, z2, z3, z4⟩, x0, q0, x1, q1, x2, q2, x3, q3⟩ := KS.out _ hb1; clear hb1)
        | (go_at_call 18; refine (CL.out _ HB1.out).mono ?_; rintro e w2 ⟨rfl, hb2⟩; have HB2 := Lib.hid (bel_thenD HB1.out (Nat.le_refl _) hb2); clear z0 z1 z2 z3 z4 x0 q0 x1 q1 x2 q2 x3 q3; obtain ⟨⟨z0, z1, z2, z3, z4⟩, x0, q0, x1, q1, x2, q2, x3, q3⟩ := KS.out _ HB2.out; clear hb2))
      (try simp only [Exit.inBlock, Exit.then])
      refine bodyPost_ret (results_row_tmp (P := Try.prog) rfl _ _ (w.heap.size + 1) _ _ (0, 0) _ rfl (set4 (KX.out _ HB2.out) rfl _ _ _ _) Try.underlying36 rfl Try.sizeVerdP) rfl ?_
      exact ⟨by rw [HJ.out.1, HJ.out.2]; rfl, below4 (HBV.out.trans (HB2.out.mono (Nat.le_of_lt hVw))) (by omega) _ _ _ _⟩
    · have HJ : Hid ((judgeV c F).1 = judgeRun (phAt c F) (2 * c.ps.length) 0 ∧ (judgeV c F).2 = 0) := Lib.hid (by unfold judgeV; rw [if_pos hz, if_neg hal]; exact ⟨rfl, rfl⟩)
      have t3 : decide (0 ≤ (allV c).1) = false := by simpa using hal
      have hbnd := all_bounded (F := c.frame) (l := c.ps) (m := 0) (k := 0) (by omega) (show (allV c).1 < 0 by omega)
      have CP := Lib.hid (fun (W : World) (g : Below V.heap.size V W) => phases_any fw (HS.out W g).1 (HS.out W g).2 hin hz F hF)
      have CJ := Lib.hid (fun (W : World) (g : Below V.heap.size V W) (a : Option Addr) (cap : Nat) (phs : List Ph) hl hps hS => judged_any (HS.out W g).1 (HS.out W g).2 hF64 hz hF hbnd (a := a) (cap := cap) (phs := phs) hl hps hS)
      clear hV hbb hBV ks kx h fw hin hFe hVz hz hF hF64 hbnd hal
      generalize (checkV c).1 = e1 at *
      generalize (checkV c).2 = e2 at *
      generalize (allV c).1 = e3 at *
      generalize (allV c).2 = e4 at *
      generalize judgeRun (phAt c F) (2 * c.ps.length) 0 = vd at *
      obtain ⟨v0, v1, v2, v3⟩ := vd
      go_enter Try.func8, Try.ntmps8
      go_wp2_with (first
        | (go_at_call 14; rw [← HV.out]; refine (CK.out V (Below.refl _ _)).mono ?_; rintro e w1 ⟨rfl, hb1⟩; have HB1 := Lib.hid hb1; obtain ⟨⟨z0, z1, z2, z3, z4⟩, x0, q0, x1, q1, x2, q2, x3, q3⟩ := KS.out _ hb1; clear hb1)
        | (go_at_call 18; refine (CL.out _ HB1.out).mono ?_; rintro e w2 ⟨rfl, hb2⟩; have HB2 := Lib.hid (bel_thenD HB1.out (Nat.le_refl _) hb2); clear z0 z1 z2 z3 z4 x0 q0 x1 q1 x2 q2 x3 q3; obtain ⟨⟨z0, z1, z2, z3, z4⟩, x0, q0, x1, q1, x2, q2, x3, q3⟩ := KS.out _ HB2.out; clear hb2)
        | (go_at_call 19; refine (CJ.out _ HB3.out _ _ _ HPL.out HPS.out HSS.out).mono ?_; rintro e w4 ⟨rfl, hb4⟩; have HB4 := Lib.hid (bel_thenD HB3.out (Nat.le_refl _) hb4); simp only [Vd.cells]; obtain ⟨⟨z0, z1, z2, z3, z4⟩, x0, q0, x1, q1, x2, q2, x3, q3⟩ := KS.out _ HB4.out; clear hb4)
        | (go_at_call 20; refine (CP.out _ HB2.out).mono ?_; rintro e w3 ⟨a, cap, phs, rfl, hpl, hps, hss, hb3⟩; have HB3 := Lib.hid (bel_thenD HB2.out (Nat.le_refl _) hb3); have HPL := Lib.hid (hpl.wider (Nat.zero_le _) (Nat.le_refl _)); have HPS := Lib.hid hps; have HSS := Lib.hid hss; clear z0 z1 z2 z3 z4 x0 q0 x1 q1 x2 q2 x3 q3 hpl hps hss hb3))
      (try simp only [Exit.inBlock, Exit.then])
      refine bodyPost_ret (results_row_tmp (P := Try.prog) rfl _ _ (w.heap.size + 1) _ _ (0, 0) _ rfl (set4 (KX.out _ HB4.out) rfl _ _ _ _) Try.underlying36 rfl Try.sizeVerdP) rfl ?_
      exact ⟨by rw [HJ.out.1, HJ.out.2]; rfl, below4 (HBV.out.trans (HB4.out.mono (Nat.le_of_lt hVw))) (by omega) _ _ _ _⟩
end Go.Proofs.Ytdbbdlobahalkaa
