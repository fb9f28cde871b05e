/- The document's police. -/
import Derived.Test.YtchbehnkkcjdgaaGreatTwo
import Derived.Test.YtchbehnkkcjdgaaGreatPolM
import Derived.Test.YtchbehnkkcjdgaaGreatTks
import Derived.Test.YtchbehnkkcjdgaaGreatRights
import Derived.Lib.SliceRun
import Derived.BigQuiet
namespace Go.Proofs.YtchbehnkkcjdgaaGreat
open Go.ChangeShapes Go.WideShapes Go.ChangeAt Go.RowKit
set_option linter.unusedVariables false

/-- The document's police in memory, its places written out. -/
structure PAt (w : World) (rb : Nat) (R : Nat → Prop) (ts : List Tk) (la : List Int) (hi : Bool) (ao bo : Option Addr) (c1 c2 : Nat) : Prop where
  box : w.heap[rb]? = some (.cells #[.slice ao ts.length c1, .slice bo la.length c2, .bool hi] 142 (0, 0))
  rt : RowR w rb R 101 6 ao ts.length c1 (ts.flatMap Tk.cells)
  rl : RowR w rb R 3 1 bo la.length c2 (la.flatMap intCells)
  own : R rb
  lt : ∀ k, R k → k < w.heap.size
/-- The document's police in memory: its blocks are R. -/
def PRg (rb : Nat) (ts : List Tk) (la : List Int) (hi : Bool) (w : World) (R : Nat → Prop) : Prop := ∃ ao bo c1 c2, PAt w rb R ts la hi ao bo c1 c2
section
variable {w w' : World} {rb : Nat} {R : Nat → Prop} {ts : List Tk} {la : List Int} {hi : Bool} {ao bo : Option Addr} {c1 c2 : Nat}
theorem PAt.keep (h : PAt w rb R ts la hi ao bo c1 c2) (hs : ∀ k, R k → w'.heap[k]? = w.heap[k]?) (hz : w.heap.size ≤ w'.heap.size) : PAt w' rb R ts la hi ao bo c1 c2 :=
  ⟨(hs rb h.own).trans h.box, h.rt.keep (fun k hk _ => hs k hk) hz (fun _ h => h), h.rl.keep (fun k hk _ => hs k hk) hz (fun _ h => h), h.own, fun k hk => Nat.lt_of_lt_of_le (h.lt k hk) hz⟩
theorem PAt.later (h : PAt w rb R ts la hi ao bo c1 c2) (hb : Below w.heap.size w w') : PAt w' rb R ts la hi ao bo c1 c2 := h.keep (fun k hk => hb.block k (h.lt k hk)) hb.size
theorem pr_own (rb : Nat) (ts : List Tk) (la : List Int) (hi : Bool) : OwnP (PRg rb ts la hi) := ⟨fun ⟨ao, bo, c1, c2, h⟩ hs hz => ⟨ao, bo, c1, c2, h.keep hs hz⟩, fun ⟨_, _, _, _, h⟩ => h.lt⟩
/-- The fields of a task. -/
theorem PAt.tk (h : PAt w rb R ts la hi ao bo c1 c2) {i : Nat} (hi' : i < ts.length) : ∃ b, ao = some ⟨b, 0, none⟩ ∧ w.cell? ⟨b, i * 6, none⟩ = some (.bool (tkAt ts i).hi) ∧ w.cell? ⟨b, i * 6 + 1, none⟩ = some (.int .i64 (tkAt ts i).t) := by
  rcases h.rt.1.2 with ⟨h1, h2⟩ | ⟨g, cap', cur, hv, hb, hg, h1, h2, h3, h4⟩
  · exfalso; injection h1 with _ e2 _; omega
  · cases hv
    have hx : ts[i]? = some (tkAt ts i) := by rw [List.getElem?_eq_getElem hi', tkAt_eq hi']
    have hln := h.rt.1.1
    have f0 := flat_at Tk.cells 6 (fun _ => rfl) ts i 0 _ hx (by omega)
    have f1 := flat_at Tk.cells 6 (fun _ => rfl) ts i 1 _ hx (by omega)
    rw [← h4, List.getElem?_take_of_lt (by omega)] at f0 f1
    exact ⟨g, rfl, cell_in hg (by simpa [Tk.cells] using f0), cell_in hg (by simpa [Tk.cells] using f1)⟩
theorem PAt.appT {w2 : World} {x : Tk} {m : Nat} {ao2 : Option Addr} {cap2 : Nat} (h : PAt w rb R ts la hi ao bo c1 c2) (hm : m = ts.length) (hown : w2.ownsRow 0 101 6 (.slice ao2 (m + 1) cap2) (m + 1) (ts.flatMap Tk.cells ++ x.cells)) (hg : ∃ w1, Below w.heap.size w w1 ∧ w1.grownBy w2 (Value.slice ao m c1).ownBlock ∧ ((Value.slice ao2 (m + 1) cap2).ownBlock = (Value.slice ao m c1).ownBlock ∨ (Value.slice ao2 (m + 1) cap2).ownBlock = some w1.heap.size)) :
    ∃ R', PAt (w2.setCell ⟨rb, 0, none⟩ (.slice ao2 (m + 1) cap2)) rb R' (ts ++ [x]) la hi ao2 bo cap2 c2 ∧ GrowS R R' w (w2.setCell ⟨rb, 0, none⟩ (.slice ao2 (m + 1) cap2)) := by
  subst hm
  obtain ⟨g1, g2, g3, g4, g5, g6⟩ := app_box (slot := 0) h.box h.own h.lt h.rt hown hg
  have hxs : (ts ++ [x]).flatMap Tk.cells = ts.flatMap Tk.cells ++ x.cells := by simp
  exact ⟨_, ⟨by rw [g1, List.length_append]; rfl, by rw [hxs, List.length_append]; exact g2, h.rl.keepO (fun b hb => g3 b (h.rl.2 b hb).1 (h.rl.2 b hb).2 (fun e => h.rt.apart h.rl (by decide) e hb)) g5 (fun _ h => .inl h), .inl h.own, g4⟩, g6⟩
theorem PAt.appL {w2 : World} {x : Int} {m : Nat} {ao2 : Option Addr} {cap2 : Nat} (h : PAt w rb R ts la hi ao bo c1 c2) (hm : m = la.length) (hown : w2.ownsRow 0 3 1 (.slice ao2 (m + 1) cap2) (m + 1) (la.flatMap intCells ++ [.int .i64 x])) (hg : ∃ w1, Below w.heap.size w w1 ∧ w1.grownBy w2 (Value.slice bo m c2).ownBlock ∧ ((Value.slice ao2 (m + 1) cap2).ownBlock = (Value.slice bo m c2).ownBlock ∨ (Value.slice ao2 (m + 1) cap2).ownBlock = some w1.heap.size)) :
    ∃ R', PAt (w2.setCell ⟨rb, 1, none⟩ (.slice ao2 (m + 1) cap2)) rb R' ts (la ++ [x]) hi ao ao2 c1 cap2 ∧ GrowS R R' w (w2.setCell ⟨rb, 1, none⟩ (.slice ao2 (m + 1) cap2)) := by
  subst hm
  obtain ⟨g1, g2, g3, g4, g5, g6⟩ := app_box (slot := 1) h.box h.own h.lt h.rl hown hg
  have hxs : (la ++ [x]).flatMap intCells = la.flatMap intCells ++ [.int .i64 x] := by simp [intCells]
  exact ⟨_, ⟨by rw [g1, List.length_append]; rfl, h.rt.keepO (fun b hb => g3 b (h.rt.2 b hb).1 (h.rt.2 b hb).2 (fun e => h.rl.apart h.rt (by decide) e hb)) g5 (fun _ h => .inl h), by rw [hxs, List.length_append]; exact g2, .inl h.own, g4⟩, g6⟩
theorem PAt.setL {g i : Nat} (h : PAt w rb R ts la hi ao (some ⟨g, 0, none⟩) c1 c2) (hi' : i < la.length) (x : Int) : PAt (w.setCell ⟨g, i, none⟩ (.int .i64 x)) rb R ts (la.set i x) hi ao (some ⟨g, 0, none⟩) c1 c2 ∧ GrowS R R w (w.setCell ⟨g, i, none⟩ (.int .i64 x)) := by
  have hB : But g w (w.setCell ⟨g, i, none⟩ (.int .i64 x)) := (But.refl g w).set i _
  have hz : (w.setCell ⟨g, i, none⟩ (.int .i64 x)).heap.size = w.heap.size := by simp
  obtain ⟨hg, hne⟩ := h.rl.2 g rfl
  have hs := h.rl.set1 (f := intCells) (emb := fun x => .int .i64 x) (fun _ => rfl) hi' x
  refine ⟨⟨by rw [List.length_set]; exact (hB.block rb (h.lt rb h.own) (fun e => hne e.symm)).trans h.box, h.rt.keepO (fun b hb => hB.block b (h.lt b (h.rt.2 b hb).1) (fun e => h.rt.apart h.rl (by decide) hb (by rw [e]; rfl))) hB.size (fun _ h => h), by rw [List.length_set]; exact hs, h.own, fun k hk => by rw [hz]; exact h.lt k hk⟩, ⟨hB.os, hB.tape, hB.output, hB.size, fun k hk hS => hB.block k hk (fun e => hS (e ▸ hg)), fun k hk => .inl hk⟩⟩
theorem PAt.setH (h : PAt w rb R ts la hi ao bo c1 c2) (b : Bool) : PAt (w.setCell ⟨rb, 2, none⟩ (.bool b)) rb R ts la b ao bo c1 c2 ∧ GrowS R R w (w.setCell ⟨rb, 2, none⟩ (.bool b)) := by
  have hB : But rb w (w.setCell ⟨rb, 2, none⟩ (.bool b)) := (But.refl rb w).set 2 _
  have hz : (w.setCell ⟨rb, 2, none⟩ (.bool b)).heap.size = w.heap.size := by simp
  exact ⟨⟨by rw [set_at h.box]; rfl, h.rt.keepO (fun k hk => hB.block k (h.lt k (h.rt.2 k hk).1) (h.rt.2 k hk).2) hB.size (fun _ h => h), h.rl.keepO (fun k hk => hB.block k (h.lt k (h.rl.2 k hk).1) (h.rl.2 k hk).2) hB.size (fun _ h => h), h.own, fun k hk => by rw [hz]; exact h.lt k hk⟩, ⟨hB.os, hB.tape, hB.output, hB.size, fun k hk hS => hB.block k hk (fun e => hS (e ▸ h.own)), fun k hk => .inl hk⟩⟩
end
theorem Tryz.infoTk16 : (Tryz.prog.info? 101).map (fun i => (i.zero, i.size, i.bytes)) = some (some (.agg #[.bool false, .int .i64 0, .int .i64 0, .int .i64 0, .int .i64 0, .int .i64 0]), 6, 48) := by kernel_rfl
theorem Tryz.infoInt16 : (Tryz.prog.info? 3).map (fun i => (i.zero, i.size, i.bytes)) = some (some (.int .i64 0), 1, 8) := by kernel_rfl

set_option maxRecDepth 100000 in
set_option maxHeartbeats 8000000 in
theorem prdrop_any (w : World) (rb : Nat) (R : Nat → Prop) (ts : List Tk) (la : List Int) (hi : Bool) (h : PRg rb ts la hi w R) (hl : ts.length ≤ 6) (t : Int) : Calls Tryz.prog 117 #[.pointer (some ⟨rb, 0, none⟩), .int .i64 t] w fun e w' => e = .returned (.bool (dropV ts hi t)) ∧ Below w.heap.size w w' := by
  obtain ⟨ao, bo, c1, c2, h⟩ := h
  have HQ := Lib.hid h
  have b0 : w.cell? ⟨rb, 0, none⟩ = some (.slice ao ts.length c1) := cell_in h.box rfl
  have b1 : w.cell? ⟨rb, 1, none⟩ = some (.slice bo la.length c2) := cell_in h.box rfl
  have b2 : w.cell? ⟨rb, 2, none⟩ = some (.bool hi) := cell_in h.box rfl
  obtain ⟨n, hn⟩ : ∃ n, n = ts.length := ⟨_, rfl⟩
  rw [← hn] at b0 hl
  have HN := Lib.hid hn
  cases hin : inT ts t with
  | false =>
    have HD : Hid (dropV ts hi t = false) := Lib.hid (by unfold dropV; rw [hin]; rfl)
    rcases inT_f hin with g | ⟨g, g2⟩
    · have t0 : decide (0 ≤ t) = false := decide_eq_false (by omega)
      clear h hn hin
      go_enter Tryz.func117, Tryz.ntmps117
      go_wp2_with fail
      go_ret
      rw [HD.out]
      exact ⟨rfl, Below.refl _ _⟩
    · have t0 : decide (0 ≤ t) = true := decide_eq_true (by omega)
      have g3 : ¬ (t < (n : Int)) := by rw [hn]; omega
      have t1 : decide (t < (n : Int)) = false := decide_eq_false g3
      clear h hn hin g2
      go_enter Tryz.func117, Tryz.ntmps117
      go_wp2_with fail
      go_ret
      rw [HD.out]
      exact ⟨rfl, Below.refl _ _⟩
  | true =>
    obtain ⟨i, rfl, hi'⟩ := inT_nat hin
    obtain ⟨b, rfl, k0, k1⟩ := h.tk hi'
    have t0 : decide (0 ≤ (i : Int)) = true := decide_eq_true (by omega)
    have t1 : decide ((i : Int) < (n : Int)) = true := decide_eq_true (by omega)
    have l0 : (0 : Int) ≤ (i : Int) := by omega
    have l1 : (i : Int) < (n : Int) := by omega
    have HD := Lib.hid (dropV_nat (hi := hi) hi')
    obtain ⟨x, hx⟩ : ∃ x, x = (tkAt ts i).hi := ⟨_, rfl⟩
    rw [← hx] at k0 HD
    clear h hn hin hx hi'
    cases hi with
    | false =>
      go_enter Tryz.func117, Tryz.ntmps117
      go_wp2_with fail
      go_ret
      rw [HD.out]
      exact ⟨rfl, Below.refl _ _⟩
    | true =>
      go_enter Tryz.func117, Tryz.ntmps117
      go_wp2_with fail
      go_ret
      rw [HD.out]
      exact ⟨by simp, Below.refl _ _⟩
theorem below_drewM {B : Nat} {a w : World} (d : Nat) (h : Below B a w) : Below B a (w.drewN d) := ⟨h.os, h.tape, h.output, h.size, h.block⟩
set_option maxRecDepth 100000 in
set_option maxHeartbeats 8000000 in
theorem prmay_any (w : World) (rb : Nat) (R : Nat → Prop) (ts : List Tk) (la : List Int) (hi : Bool) (h : PRg rb ts la hi w R) (hl : ts.length ≤ 6) (hla : LaOk ts la) (ht : ∀ x ∈ ts, okTk x = true) (t now : Int) : Calls Tryz.prog 62 #[.pointer (some ⟨rb, 0, none⟩), .int .i64 t, .int .i64 now] w fun e w' => e = .returned (.int .i64 (errP ts la hi t now)) ∧ Below w.heap.size w w' := by
  have HDR := Lib.hid (prdrop_any w rb R ts la hi h hl t)
  obtain ⟨ao, bo, c1, c2, h⟩ := h
  have HQ := Lib.hid h
  have b0 : w.cell? ⟨rb, 0, none⟩ = some (.slice ao ts.length c1) := cell_in h.box rfl
  have b1 : w.cell? ⟨rb, 1, none⟩ = some (.slice bo la.length c2) := cell_in h.box rfl
  have b2 : w.cell? ⟨rb, 2, none⟩ = some (.bool hi) := cell_in h.box rfl
  obtain ⟨n, hn⟩ : ∃ n, n = ts.length := ⟨_, rfl⟩
  rw [← hn] at b0 hl
  cases hin : inT ts t with
  | false =>
    have HE : Hid (errP ts la hi t now = 1) := Lib.hid (errP_arg (.inl hin))
    rcases inT_f hin with g | ⟨g, g2⟩
    · have t0 : decide (t < 0) = true := decide_eq_true g
      
      clear h hn
      go_enter Tryz.func62, Tryz.ntmps62
      go_wp2_with fail
      go_ret
      rw [HE.out]
      exact ⟨rfl, Below.refl _ _⟩
    · have t0 : decide (t < 0) = false := decide_eq_false (by omega)
      have g3 : (n : Int) ≤ t := by rw [hn]; omega
      have t1 : decide ((n : Int) ≤ t) = true := decide_eq_true g3
      clear g2
      
      clear h hn
      go_enter Tryz.func62, Tryz.ntmps62
      go_wp2_with fail
      go_ret
      rw [HE.out]
      exact ⟨rfl, Below.refl _ _⟩
  | true =>
    have HIN := Lib.hid hin
    obtain ⟨i, rfl, hi'⟩ := inT_nat hin
    have t0 : decide ((i : Int) < 0) = false := decide_eq_false (by omega)
    have l0 : (0 : Int) ≤ (i : Int) := by omega
    have l1 : (i : Int) < (n : Int) := by omega
    have t1 : decide ((n : Int) ≤ (i : Int)) = false := decide_eq_false (by omega)
    clear hin
    by_cases n0 : now < 0
    · have HE : Hid (errP ts la hi i now = 1) := Lib.hid (errP_arg (.inr (by unfold nowOk; rw [decide_eq_false (by omega)]; rfl)))
      have t2 : decide (now < 0) = true := decide_eq_true n0
      
      clear h hn
      go_enter Tryz.func62, Tryz.ntmps62
      go_wp2_with fail
      go_ret
      rw [HE.out]
      exact ⟨rfl, Below.refl _ _⟩
    by_cases n1 : 4611686018427387904 < now
    · have HE : Hid (errP ts la hi i now = 1) := Lib.hid (errP_arg (.inr (by unfold nowOk; rw [decide_eq_true (by omega), decide_eq_false (by omega)]; rfl)))
      have t2 : decide (now < 0) = false := decide_eq_false n0
      have t3 : decide (4611686018427387904 < now) = true := decide_eq_true n1
      
      clear h hn
      go_enter Tryz.func62, Tryz.ntmps62
      go_wp2_with fail
      go_ret
      rw [HE.out]
      exact ⟨rfl, Below.refl _ _⟩
    have t2 : decide (now < 0) = false := decide_eq_false n0
    have t3 : decide (4611686018427387904 < now) = false := decide_eq_false n1
    have hno : nowOk now = true := by unfold nowOk; rw [decide_eq_true (by omega), decide_eq_true (by omega)]; rfl
    have hil : i < la.length := by rw [hla.len]; exact hi'
    obtain ⟨b, rfl, y5, y6⟩ := h.tk hi'
    clear y5 y6
    obtain ⟨g, rfl, y1, y2, y3, y4⟩ := h.rl.at1 (f := intCells) (emb := fun x => .int .i64 x) (fun _ => rfl) hil
    clear y1 y2 y3 y4
    obtain ⟨x, hx⟩ : ∃ x, x = laAt la i := ⟨_, rfl⟩
    obtain ⟨T, hT⟩ : ∃ T, T = (tkAt ts i).t := ⟨_, rfl⟩
    obtain ⟨m, hm⟩ : ∃ m, m = la.length := ⟨_, rfl⟩
    rw [← hm] at b1
    have KS : Hid (∀ W : World, Below w.heap.size w W → W.cell? ⟨rb, 0, none⟩ = some (.slice (some ⟨b, 0, none⟩) n c1) ∧ W.cell? ⟨rb, 1, none⟩ = some (.slice (some ⟨g, 0, none⟩) m c2) ∧ W.cell? ⟨g, i, none⟩ = some (.int .i64 x) ∧ W.cell? ⟨b, i * 6 + 1, none⟩ = some (.int .i64 T)) := Lib.hid (fun W hW => by
      have hk := h.later hW
      obtain ⟨b', e1, k0, k1⟩ := hk.tk hi'
      cases e1
      obtain ⟨g', e2, _, _, k2, _⟩ := hk.rl.at1 (f := intCells) (emb := fun x => .int .i64 x) (fun _ => rfl) hil
      cases e2
      rw [hn, hm, hx, hT, laAt_eq hil]
      exact ⟨cell_in hk.box rfl, cell_in hk.box rfl, k2, k1⟩)
    have l2 : (i : Int) < (m : Int) := by rw [hm]; omega
    have hxb := hla.at_ i
    rw [← hx] at hxb
    have hTb : 1 ≤ T ∧ T ≤ 1000 := by
      have := ht _ (List.getElem_mem hi')
      rw [← tkAt_eq hi'] at this
      rw [hT]
      simp only [okTk, decide_eq_true_eq] at this
      omega
    cases hd : dropV ts hi i with
    | true =>
      have HE := Lib.hid (errP_drop (la := la) HIN.out hno hd)
      have HD := Lib.hid hd
      clear h hn hd hx hT hm hil hi'
      go_enter Tryz.func62, Tryz.ntmps62
      go_wp2_with (go_at_call 117; refine HDR.out.mono ?_; rintro e w3 ⟨rfl, hb3'⟩; rw [HD.out]; obtain ⟨z0, z1, z2, z3⟩ := KS.out _ hb3'; have hb3 := Lib.hid hb3'; clear hb3')
      go_ret
      rw [HE.out]
      exact ⟨rfl, hb3.out⟩
    | false =>
      have HD := Lib.hid hd
      by_cases x0 : 0 ≤ x
      · have u0 : decide (0 ≤ x) = true := decide_eq_true x0
        obtain ⟨df, hdf⟩ : ∃ df, df = now - x := ⟨_, rfl⟩
        have e1 : IntKind.i64.wrap (now - x) = df := by rw [hdf]; exact IntWalk.i64_in _ (by omega)
        by_cases x1 : df < T
        · have u1 : decide (df < T) = true := decide_eq_true x1
          have HE : Hid (errP ts la hi i now = 40) := Lib.hid (errP_soon hi' hno hd (by rw [← hx]; exact x0) (by rw [← hx, ← hT]; omega))
          clear hdf h hn hd hx hT hm hil hi'
          go_enter Tryz.func62, Tryz.ntmps62
          go_wp2_with (go_at_call 117; refine HDR.out.mono ?_; rintro e w3 ⟨rfl, hb3'⟩; rw [HD.out]; obtain ⟨z0, z1, z2, z3⟩ := KS.out _ hb3'; have hb3 := Lib.hid hb3'; clear hb3')
          go_quiet (fail)
          go_wp2_with fail
          go_ret
          rw [HE.out]
          exact ⟨rfl, below_drewM _ hb3.out⟩
        · have u1 : decide (df < T) = false := decide_eq_false x1
          have HE : Hid (errP ts la hi i now = 0) := Lib.hid (errP_ok hi' hno hd (by rw [← hx, ← hT]; intro _; omega))
          clear hdf h hn hd hx hT hm hil hi'
          go_enter Tryz.func62, Tryz.ntmps62
          go_wp2_with (go_at_call 117; refine HDR.out.mono ?_; rintro e w3 ⟨rfl, hb3'⟩; rw [HD.out]; obtain ⟨z0, z1, z2, z3⟩ := KS.out _ hb3'; have hb3 := Lib.hid hb3'; clear hb3')
          go_quiet (fail)
          go_wp2_with fail
          go_ret
          rw [HE.out]
          exact ⟨rfl, below_drewM _ hb3.out⟩
      · have u0 : decide (0 ≤ x) = false := decide_eq_false x0
        have HE : Hid (errP ts la hi i now = 0) := Lib.hid (errP_ok hi' hno hd (by rw [← hx]; intro h; exact absurd h x0))
        clear h hn hd hx hT hm hil hi'
        go_enter Tryz.func62, Tryz.ntmps62
        go_wp2_with (go_at_call 117; refine HDR.out.mono ?_; rintro e w3 ⟨rfl, hb3'⟩; rw [HD.out]; obtain ⟨z0, z1, z2, z3⟩ := KS.out _ hb3'; have hb3 := Lib.hid hb3'; clear hb3')
        go_quiet (fail)
        go_wp2_with fail
        go_ret
        rw [HE.out]
        exact ⟨rfl, below_drewM _ hb3.out⟩
set_option maxRecDepth 100000 in
set_option maxHeartbeats 8000000 in
theorem prtake_any (w : World) (rb : Nat) (R : Nat → Prop) (ts : List Tk) (la : List Int) (hi : Bool) (h : PRg rb ts la hi w R) (hl : ts.length ≤ 6) (hla : LaOk ts la) (ht : ∀ x ∈ ts, okTk x = true) (t now : Int) : Calls Tryz.prog 64 #[.pointer (some ⟨rb, 0, none⟩), .int .i64 t, .int .i64 now] w fun e w' => e = .returned (.int .i64 (errP ts la hi t now)) ∧ PRg rb ts (takL ts la hi t now) hi w' R ∧ GrowS R R w w' := by
  have HM := Lib.hid (prmay_any w rb R ts la hi h hl hla ht t now)
  have HO := Lib.hid h
  obtain ⟨ev, hev⟩ : ∃ ev, ev = errP ts la hi t now := ⟨_, rfl⟩
  have HEV := Lib.hid hev
  rw [← hev] at HM ⊢
  by_cases e0 : ev = 0
  · subst e0
    obtain ⟨hin, _⟩ := errP_zero hev.symm
    obtain ⟨i, rfl, hi'⟩ := inT_nat hin
    have HT : Hid (takL ts la hi i now = la.set i now) := Lib.hid (by unfold takL; rw [if_pos hev.symm]; simp)
    rw [HT.out]
    obtain ⟨ao, bo, c1, c2, h⟩ := h
    have hil : i < la.length := by rw [hla.len]; exact hi'
    obtain ⟨g, rfl, y1, y2, y3, y4⟩ := h.rl.at1 (f := intCells) (emb := fun x => .int .i64 x) (fun _ => rfl) hil
    clear y1 y2 y3 y4
    have KS : Hid (∀ W : World, Below w.heap.size w W → PAt W rb R ts la hi ao (some ⟨g, 0, none⟩) c1 c2 ∧ W.cell? ⟨rb, 1, none⟩ = some (.slice (some ⟨g, 0, none⟩) la.length c2) ∧ (∃ u, W.cell? ⟨g, i, none⟩ = some u) ∧ W.frozen? ⟨g, i, none⟩ = false) := Lib.hid (fun W hW => by
      have hk := h.later hW
      obtain ⟨g', e2, _, _, k2, k3⟩ := hk.rl.at1 (f := intCells) (emb := fun x => .int .i64 x) (fun _ => rfl) hil
      cases e2
      exact ⟨hk, cell_in hk.box rfl, ⟨_, k2⟩, k3⟩)
    have HIL := Lib.hid hil
    obtain ⟨m, hm⟩ : ∃ m, m = la.length := ⟨_, rfl⟩
    rw [← hm] at KS
    have l0 : (0 : Int) ≤ (i : Int) := by omega
    have l2 : (i : Int) < (m : Int) := by rw [hm]; omega
    clear h hin hm hev hil hi'
    go_enter Tryz.func64, Tryz.ntmps64
    go_wp2_with (go_at_call 62; refine HM.out.mono ?_; rintro e w3 ⟨rfl, hb3'⟩; obtain ⟨z0, z1, ⟨u2, z2⟩, z3⟩ := KS.out _ hb3'; have hz := Lib.hid z0; have hb3 := Lib.hid hb3'; clear hb3' z0)
    go_ret
    obtain ⟨f1, f2⟩ := hz.out.setL HIL.out now
    exact ⟨rfl, ⟨_, _, _, _, f1⟩, (GrowS.of_below hb3.out).trans f2⟩
  · have u0 : (ev == 0) = false := by simpa using e0
    have HT : Hid (takL ts la hi t now = la) := Lib.hid (by unfold takL; rw [if_neg (by rw [← HEV.out]; exact e0)])
    rw [HT.out]
    clear h hev
    go_enter Tryz.func64, Tryz.ntmps64
    go_wp2_with (go_at_call 62; refine HM.out.mono ?_; rintro e w3 ⟨rfl, hb3'⟩; have hb3 := Lib.hid hb3'; clear hb3')
    go_ret
    exact ⟨rfl, (pr_own rb ts la hi).later HO.out hb3.out, GrowS.of_below hb3.out⟩
end Go.Proofs.YtchbehnkkcjdgaaGreat
