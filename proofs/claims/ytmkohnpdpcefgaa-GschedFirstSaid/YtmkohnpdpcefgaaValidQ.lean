/- Joined of ValidC, ValidD, ValidE: What is told of one window, one partition, one channel. -/
import Derived.Test.YtmkohnpdpcefgaaValidP
import Derived.Test.YtmkohnpdpcefgaaBase
import Derived.Test.YtmkohnpdpcefgaaValidM
import Derived.Test.YtmkohnpdpcefgaaNames
import Derived.Test.YtmkohnpdpcefgaaFrameP
import Derived.Test.YtmkohnpdpcefgaaRead
import Derived.Test.YtmkohnpdpcefgaaRights
import Derived.Test.YtmkohnpdpcefgaaWider
namespace Go.Proofs.Ytmkohnpdpcefgaa
open Go.ChangeShapes Go.WideShapes Go.ChangeAt Go.RowKit
set_option linter.unusedVariables false

def TellPost (be : Nat) (w : World) (r : Bool) (u : Int) (e : Ending) (w' : World) : Prop :=
  e = .returned (.int .i64 (if r then 0 else 21)) ∧ (∃ v : Int, w'.heap[be]? = some (.cells #[.int .i64 v] 3 (0, 0)) ∧ (r = true → v = u)) ∧ But be w w'
theorem tell_no {be : Nat} {w w' : World} {a u : Int} {r : Bool} (hr : r = false) (h : w'.heap[be]? = some (.cells #[.int .i64 a] 3 (0, 0))) (hb : But be w w') : TellPost be w r u (.returned (.int .i64 21)) w' := by
  subst hr; exact ⟨rfl, ⟨a, h, fun h => by cases h⟩, hb⟩
theorem tell_yes {be : Nat} {w w' : World} {u : Int} {r : Bool} (hr : r = true) (h : w'.heap[be]? = some (.cells #[.int .i64 u] 3 (0, 0))) (hb : But be w w') : TellPost be w r u (.returned (.int .i64 0)) w' := by
  subst hr; exact ⟨rfl, ⟨u, h, fun _ => rfl⟩, hb⟩
set_option maxRecDepth 100000 in
set_option maxHeartbeats 4000000 in
theorem winTell_any (fr mg : Int) (wa pa ca : Option Addr) (wn wc pn pc cn cc : Nat) (bc be k : Nat) (a : Int) (x : Wn) (w : World) (lo hi : Nat) (ws : List Wn)
    (hbc : w.heap[bc]? = some (.cells #[.int .i64 fr, .int .i64 mg, .slice wa wn wc, .slice pa pn pc, .slice ca cn cc] 36 (0, 0)))
    (hbe : w.heap[be]? = some (.cells #[.int .i64 a] 3 (0, 0))) (hwn : ws.length = wn) (hws : Lies w lo hi (.slice wa wn wc) wn 3 (ws.flatMap Wn.cells)) (hhi : hi ≤ w.heap.size)
    (hx : ws[k]? = some x) (hin : x.In) (f1 : 1 ≤ fr) (f2 : fr ≤ 256) (a0 : 0 ≤ a) (a1 : a ≤ fr) :
    Calls Try.prog 58 #[.int .i64 k, .pointer (some ⟨bc, 0, none⟩), .pointer (some ⟨be, 0, none⟩)] w (TellPost be w (okWn fr a pn x) (x.at_ + x.len)) := by
  have y0 : w.cell? ⟨be, 0, none⟩ = some (.int .i64 a) := cell_in hbe rfl
  have y1 : w.cell? ⟨bc, 0, none⟩ = some (.int .i64 fr) := cell_in hbc rfl
  have y2 : w.cell? ⟨bc, 1, none⟩ = some (.int .i64 mg) := cell_in hbc rfl
  have y3 : w.cell? ⟨bc, 2, none⟩ = some (.slice wa wn wc) := cell_in hbc rfl
  have y4 : w.cell? ⟨bc, 3, none⟩ = some (.slice pa pn pc) := cell_in hbc rfl
  have y5 : w.cell? ⟨bc, 4, none⟩ = some (.slice ca cn cc) := cell_in hbc rfl
  have hlt : k < wn := by rw [← hwn]; exact (List.getElem?_eq_some_iff.1 hx).1
  obtain ⟨a2, c2, e2, _, _, hc⟩ := hws
  cases e2
  rcases hc with h0 | ⟨b, off, rfl, hb1, hb2, hc⟩
  · omega
  obtain ⟨s0, s1, s2⟩ := Lies.wn hc hx
  have l0 : (0 : Int) ≤ (k : Int) := by omega
  have l1 : (k : Int) < (wn : Int) := by omega
  obtain ⟨⟨i1, i2⟩, ⟨i3, i4⟩, ⟨i5, i6⟩⟩ := hin
  obtain ⟨x0, x1, x2⟩ := x
  simp only at s0 s1 s2 i1 i2 i3 i4 i5 i6
  have hbl := lt_of_block hbe
  have hcl := lt_of_block hbc
  have hfz := free_in hbe 0
  have HBE := Lib.hid hbe
  have hne : be ≠ w.heap.size := by omega
  have hne2 : ¬ w.heap.size = be := by omega
  have hne3 : bc ≠ w.heap.size := by omega
  have p0 : ∀ o, (w.alloc o).cell? ⟨be, 0, none⟩ = some (.int .i64 a) := fun o => by rw [World.cell?_alloc_lt _ _ _ hbl]; exact y0
  have p1 : ∀ o, (w.alloc o).cell? ⟨bc, 0, none⟩ = some (.int .i64 fr) := fun o => by rw [World.cell?_alloc_lt _ _ _ hcl]; exact y1
  have p2 : ∀ o, (w.alloc o).cell? ⟨bc, 1, none⟩ = some (.int .i64 mg) := fun o => by rw [World.cell?_alloc_lt _ _ _ hcl]; exact y2
  have p3 : ∀ o, (w.alloc o).cell? ⟨bc, 2, none⟩ = some (.slice (some ⟨b, off, none⟩) wn wc) := fun o => by rw [World.cell?_alloc_lt _ _ _ hcl]; exact y3
  have p4 : ∀ o, (w.alloc o).cell? ⟨bc, 3, none⟩ = some (.slice pa pn pc) := fun o => by rw [World.cell?_alloc_lt _ _ _ hcl]; exact y4
  have p5 : ∀ o, (w.alloc o).cell? ⟨bc, 4, none⟩ = some (.slice ca cn cc) := fun o => by rw [World.cell?_alloc_lt _ _ _ hcl]; exact y5
  clear hbc hbe hx hc hwn
  rcases (show x0 < a ∨ (a ≤ x0 ∧ x1 < 1) ∨ (a ≤ x0 ∧ 1 ≤ x1 ∧ fr - x0 < x1) ∨ (a ≤ x0 ∧ 1 ≤ x1 ∧ x1 ≤ fr - x0) from by omega) with h | ⟨h, h2⟩ | ⟨h, h2, h3⟩ | ⟨h, h2, h3⟩
  · have t0 : decide (x0 < a) = true := by simpa using h
    have HR : Hid (okWn fr a pn ⟨x0, x1, x2⟩ = false) := Lib.hid (by unfold okWn; simp; omega)
    go_enter Try.func58, Try.ntmps58
    go_wp2_with fail
    go_ret
    exact tell_no HR.out ((heap_at _ _ _).trans ((if_neg hne).trans HBE.out)) ((But.refl _ _).alloc _)
  · have t0 : decide (x0 < a) = false := by simpa using h
    have t1 : decide (x1 < 1) = true := by simpa using h2
    have HR : Hid (okWn fr a pn ⟨x0, x1, x2⟩ = false) := Lib.hid (by unfold okWn; simp; omega)
    go_enter Try.func58, Try.ntmps58
    go_wp2_with fail
    go_ret
    exact tell_no HR.out ((heap_at _ _ _).trans ((if_neg hne).trans HBE.out)) ((But.refl _ _).alloc _)
  · have t0 : decide (x0 < a) = false := by simpa using h
    have t1 : decide (x1 < 1) = false := by simpa using h2
    have s1 : IntKind.i64.wrap (fr - x0) = fr - x0 := IntWalk.i64_in _ (by omega)
    have t2 : decide (fr - x0 < x1) = true := by simpa using h3
    have HR : Hid (okWn fr a pn ⟨x0, x1, x2⟩ = false) := Lib.hid (by unfold okWn; simp; omega)
    go_enter Try.func58, Try.ntmps58
    go_wp2_with fail
    go_ret
    exact tell_no HR.out ((heap_at _ _ _).trans ((if_neg hne).trans HBE.out)) ((But.refl _ _).alloc _)
  · have t0 : decide (x0 < a) = false := by simpa using h
    have t1 : decide (x1 < 1) = false := by simpa using h2
    have s1 : IntKind.i64.wrap (fr - x0) = fr - x0 := IntWalk.i64_in _ (by omega)
    have s2 : IntKind.i64.wrap (x0 + x1) = x0 + x1 := IntWalk.i64_in _ (by omega)
    have t2 : decide (fr - x0 < x1) = false := by simpa using h3
    have CH := Lib.hid (fun W => has_any fr mg x2 (some ⟨b, off, none⟩) pa ca wn wc pn pc cn cc W)
    cases hp : hasB pn x2 with
    | false =>
      have HR : Hid (okWn fr a pn ⟨x0, x1, x2⟩ = false) := Lib.hid (by have := hasB_false hp; unfold okWn; simp; omega)
      have HP := Lib.hid hp; clear hp
      go_enter Try.func58, Try.ntmps58
      go_wp2_with (first | (go_at_call 59; refine (CH.out _).mono ?_; rintro e w2 ⟨rfl, hb2⟩; rw [HP.out]))
      go_ret
      exact tell_no HR.out ((hb2.block _ (by simp; omega)).trans ((heap_at _ _ _).trans ((if_neg hne).trans HBE.out))) (((But.refl _ _).alloc _).trans (But.of_below hb2))
    | true =>
      have HR : Hid (okWn fr a pn ⟨x0, x1, x2⟩ = true) := Lib.hid (by have := hasB_true hp; unfold okWn; simp; omega)
      have HP := Lib.hid hp; clear hp
      go_enter Try.func58, Try.ntmps58
      go_wp2_with (first | (go_at_call 59; refine (CH.out _).mono ?_; rintro e w2 ⟨rfl, hb2⟩; rw [HP.out]; have q0 := (hb2.cell (p := ⟨w.heap.size, 0, none⟩) (by simp)).trans (cell_in (heap_alloc_new _ _) rfl); have q1 := (hb2.cell (p := ⟨w.heap.size, 1, none⟩) (by simp)).trans (cell_in (heap_alloc_new _ _) rfl); have qb := (hb2.block be (by simp; omega)).trans ((heap_at _ _ _).trans ((if_neg hne).trans HBE.out)); have qf := free_in qb 0; have qc := cell_in qb (j := 0) rfl; have QB := Lib.hid qb; clear qb))
      go_ret
      exact tell_yes HR.out (by rw [set_at QB.out]; rfl) ((((But.refl _ _).alloc _).trans (But.of_below hb2)).set _ _)
end Go.Proofs.Ytmkohnpdpcefgaa
namespace Go.Proofs.Ytmkohnpdpcefgaa
open Go.ChangeShapes Go.WideShapes Go.ChangeAt Go.RowKit
set_option linter.unusedVariables false

set_option maxRecDepth 100000 in
set_option maxHeartbeats 4000000 in
theorem partTell_any (fr mg : Int) (wa pa ca : Option Addr) (wn wc pn pc cn cc : Nat) (bc k : Nat) (p : Pt) (w : World) (lo hi : Nat) (ps : List Pt) (pvs : List Pv)
    (hbc : w.heap[bc]? = some (.cells #[.int .i64 fr, .int .i64 mg, .slice wa wn wc, .slice pa pn pc, .slice ca cn cc] 36 (0, 0)))
    (hpn : ps.length = pn) (hps : Lies w lo hi (.slice pa pn pc) pn 6 (pvs.flatMap Pv.cells)) (hal : AllLie w lo hi pvs ps) (hhi : hi ≤ w.heap.size) (hx : ps[k]? = some p) (hp2 : pn ≤ 1000) (h3 : p.ds.length ≤ 140737488355328) :
    Calls Try.prog 60 #[.int .i64 k, .pointer (some ⟨bc, 0, none⟩)] w fun e w' => e = .returned (.int .i64 (tellP pn k p)) ∧ Below w.heap.size w w' := by
  have hlt : k < pn := by rw [← hpn]; exact (List.getElem?_eq_some_iff.1 hx).1
  have hlen := hal.length
  obtain ⟨pv, hpv⟩ : ∃ x, pvs[k]? = some x := ⟨_, List.getElem?_eq_getElem (by rw [hlen, hpn]; exact hlt)⟩
  have hpl := hal.at hpv hx
  obtain ⟨ta, sa, da, tc, sc, dc, e1, e2, e3⟩ := hpl.slices
  have hl := hps
  obtain ⟨a2, c2, ee, _, _, hc⟩ := hps
  cases ee
  rcases hc with h0 | ⟨b, off, rfl, hb1, hb2, hc⟩
  · omega
  have hcl := lt_of_block hbc
  have ks : ∀ W : World, Below w.heap.size w W → (Below w.heap.size w W ∧ W.cell? ⟨bc, 0, none⟩ = some (.int .i64 fr) ∧ W.cell? ⟨bc, 1, none⟩ = some (.int .i64 mg) ∧ W.cell? ⟨bc, 2, none⟩ = some (.slice wa wn wc) ∧ W.cell? ⟨bc, 3, none⟩ = some (.slice (some ⟨b, off, none⟩) pn pc) ∧ W.cell? ⟨bc, 4, none⟩ = some (.slice ca cn cc) ∧ W.cell? ⟨b, off + k * 6 + 2, none⟩ = some (.slice da p.ds.length dc)) := by
    intro W h
    have q := fun (i : Nat) (u : Value) hu => (h.cell (p := ⟨bc, i, none⟩) hcl).trans (cell_in (j := i) (u := u) hbc hu)
    obtain ⟨s0, s1, s2, s3, s4, s5⟩ := Lies.pv hc hpv
    rw [e3] at s2
    exact ⟨h, q 0 _ rfl, q 1 _ rfl, q 2 _ rfl, q 3 _ rfl, q 4 _ rfl, (h.cell (p := ⟨b, off + k * 6 + 2, none⟩) (by show b < _; omega)).trans s2⟩
  obtain ⟨s0, s1, s2, s3, s4, s5⟩ := Lies.pv hc hpv
  obtain ⟨q1, q2, q3, q4, q5, q6⟩ := hpl
  obtain ⟨v0, v1, v2, v3, v4, v5⟩ := pv
  simp only at e1 e2 e3 s0 s1 s2 s3 s4 s5 q1 q2 q3 q4 q5 q6
  subst e1; subst e2; subst e3; subst q4; subst q5; subst q6
  have HT := Lib.hid q1; have HS := Lib.hid q2; have HD := Lib.hid q3
  obtain ⟨_, k0, k1, k2, k3, k4, k5⟩ := ks w (Below.refl _ _)
  have KS := Lib.hid ks
  have cr : Calls Try.prog 61 #[.agg #[.slice ta p.ts.length tc, .slice sa p.ss.length sc, .slice da p.ds.length dc, .int .u8 p.a0, .int .u8 p.a1, .int .u8 p.a2]] w fun e w' => e = .returned (.int .i64 (wrongOf p.ts p.ss p.a0 p.a1 p.a2)) ∧ Below w.heap.size w w' :=
    rights_wide _ _ _ _ _ _ _ _ _ _ _ _ w p.ts p.ss rfl rfl (q1.wider (Nat.zero_le _) hhi) (q2.wider (Nat.zero_le _) hhi)
  have cn2 : ∀ W : World, Below w.heap.size w W → Calls Try.prog 62 #[.agg #[.int .i64 fr, .int .i64 mg, .slice wa wn wc, .slice (some ⟨b, off, none⟩) pn pc, .slice ca cn cc], .int .i64 k, .slice da p.ds.length dc] W fun e w' => e = .returned (.bool (namesB pn k p.ds)) ∧ Below W.heap.size W w' := fun W h =>
    names_wide _ _ _ _ _ _ _ _ _ _ _ _ _ _ _ W lo hi p.ds rfl (q3.keep (SameIn.of_below h hhi)) (Nat.le_trans hhi h.size) h3 hp2
  have CR := Lib.hid cr; have CN := Lib.hid cn2
  have l0 : (0 : Int) ≤ (k : Int) := by omega
  have l1 : (k : Int) < (pn : Int) := by omega
  clear ks cr cn2 hc hx hpv hl hal q1 q2 q3 hbc
  by_cases hz : wrongOf p.ts p.ss p.a0 p.a1 p.a2 = 0
  · cases hn : namesB pn (k : Int) p.ds with
    | false =>
      have HR := Lib.hid (tellP_names hz hn)
      have HZ := Lib.hid hz; have HN := Lib.hid hn; clear hz hn
      go_enter Try.func60, Try.ntmps60
      go_wp2_with (first | (go_at_call 61; refine CR.out.mono ?_; rintro e w2 ⟨rfl, hb3⟩; rw [HZ.out]))
      obtain ⟨_, k0, k1, k2, k3, k4, k5⟩ := KS.out _ hb3
      go_region_held3 (fun W => Below w.heap.size w W ∧ W.cell? ⟨bc, 0, none⟩ = some (.int .i64 fr) ∧ W.cell? ⟨bc, 1, none⟩ = some (.int .i64 mg) ∧ W.cell? ⟨bc, 2, none⟩ = some (.slice wa wn wc) ∧ W.cell? ⟨bc, 3, none⟩ = some (.slice (some ⟨b, off, none⟩) pn pc) ∧ W.cell? ⟨bc, 4, none⟩ = some (.slice ca cn cc) ∧ W.cell? ⟨b, off + k * 6 + 2, none⟩ = some (.slice da p.ds.length dc))
        (first | exact KS.out _ (hb3.drew) | exact KS.out _ (by assumption))
        (first | (go_at_call 62; refine (CN.out _ (by go_split_ands; assumption)).mono ?_; rintro e w3 ⟨rfl, hb4⟩; rw [HN.out]; have hbn : Below w.heap.size w w3 := (by go_split_ands; exact bel_then (by assumption) (Nat.le_refl _) hb4)))
      go_wp2_with fail
      go_ret
      exact ⟨by rw [HR.out]; rfl, hbn⟩
    | true =>
      have HR := Lib.hid (tellP_ok hz hn)
      have HZ := Lib.hid hz; have HN := Lib.hid hn; clear hz hn
      go_enter Try.func60, Try.ntmps60
      go_wp2_with (first | (go_at_call 61; refine CR.out.mono ?_; rintro e w2 ⟨rfl, hb3⟩; rw [HZ.out]))
      obtain ⟨_, k0, k1, k2, k3, k4, k5⟩ := KS.out _ hb3
      go_region_held3 (fun W => Below w.heap.size w W ∧ W.cell? ⟨bc, 0, none⟩ = some (.int .i64 fr) ∧ W.cell? ⟨bc, 1, none⟩ = some (.int .i64 mg) ∧ W.cell? ⟨bc, 2, none⟩ = some (.slice wa wn wc) ∧ W.cell? ⟨bc, 3, none⟩ = some (.slice (some ⟨b, off, none⟩) pn pc) ∧ W.cell? ⟨bc, 4, none⟩ = some (.slice ca cn cc) ∧ W.cell? ⟨b, off + k * 6 + 2, none⟩ = some (.slice da p.ds.length dc))
        (first | exact KS.out _ (hb3.drew) | exact KS.out _ (by assumption))
        (first | (go_at_call 62; refine (CN.out _ (by go_split_ands; assumption)).mono ?_; rintro e w3 ⟨rfl, hb4⟩; rw [HN.out]; have hbn : Below w.heap.size w w3 := (by go_split_ands; exact bel_then (by assumption) (Nat.le_refl _) hb4)))
      go_wp2_with fail
      go_ret
      exact ⟨by rw [HR.out]; rfl, hbn⟩
  · have HR := Lib.hid (tellP_wrong (pn := pn) (k := k) hz)
    have t1 : decide (wrongOf p.ts p.ss p.a0 p.a1 p.a2 = 0) = false := by simpa using hz
    have t2 : (wrongOf p.ts p.ss p.a0 p.a1 p.a2 == 0) = false := by simpa using hz
    go_enter Try.func60, Try.ntmps60
    go_wp2_with (first | (go_at_call 61; refine CR.out.mono ?_; rintro e w2 ⟨rfl, hb3⟩))
    go_ret
    exact ⟨by rw [HR.out]; rfl, hb3⟩
end Go.Proofs.Ytmkohnpdpcefgaa
namespace Go.Proofs.Ytmkohnpdpcefgaa
open Go.ChangeShapes Go.WideShapes Go.ChangeAt Go.RowKit
set_option linter.unusedVariables false

/-! ### What is told, in lists -/
/-- Where the next window may begin, behind the first k ones. -/
def endW : Int → List Wn → Nat → Int
  | a, _, 0 => a
  | a, [], _ + 1 => a
  | _, x :: l, k + 1 => endW (x.at_ + x.len) l k
def errsW (F : Int) (pn : Nat) : Int → List Wn → List Int
  | _, [] => []
  | a, x :: l => (if okWn F a pn x then 0 else 21) :: errsW F pn (x.at_ + x.len) l
theorem errsW_len {F : Int} {pn : Nat} : ∀ {a : Int} {l : List Wn}, (errsW F pn a l).length = l.length
  | a, [] => rfl
  | a, x :: l => by unfold errsW; rw [List.length_cons, errsW_len, List.length_cons]
theorem errsW_at {F : Int} {pn : Nat} : ∀ {a : Int} {l : List Wn} {k : Nat}, (errsW F pn a l)[k]? = l[k]?.map fun x => if okWn F (endW a l k) pn x then (0 : Int) else 21
  | a, [], k => by simp [errsW]
  | a, x :: l, 0 => rfl
  | a, x :: l, k + 1 => by
    unfold errsW
    rw [List.getElem?_cons_succ, List.getElem?_cons_succ, errsW_at]
    rfl
theorem endW_next : ∀ {a : Int} {l : List Wn} {k : Nat} {x : Wn}, l[k]? = some x → endW a l (k + 1) = x.at_ + x.len
  | a, [], k, x, h => by simp at h
  | a, y :: l, 0, x, h => by simp at h; subst h; cases l <;> rfl
  | a, y :: l, k + 1, x, h => by
    show endW (y.at_ + y.len) l (k + 1) = _
    exact endW_next (by simpa using h)
theorem endW_in {F : Int} {pn : Nat} : ∀ {a : Int} {l : List Wn} {k : Nat}, 0 ≤ a → a ≤ F → (∀ (i : Nat) (x : Int), i < k → (errsW F pn a l)[i]? = some x → x = 0) → 0 ≤ endW a l k ∧ endW a l k ≤ F
  | a, l, 0, h0, h1, _ => by cases l <;> exact ⟨h0, h1⟩
  | a, [], k + 1, h0, h1, _ => ⟨h0, h1⟩
  | a, x :: l, k + 1, h0, h1, h => by
    have h2 := h 0 _ (by omega) rfl
    have hx : okWn F a pn x = true := by
      by_cases g : okWn F a pn x = true
      · exact g
      · rw [if_neg g] at h2; omega
    have hx' : a ≤ x.at_ ∧ x.at_ < F ∧ 1 ≤ x.len ∧ x.len ≤ F - x.at_ ∧ 0 ≤ x.part ∧ x.part < (pn : Int) := of_decide_eq_true hx
    exact endW_in (F := F) (pn := pn) (a := x.at_ + x.len) (l := l) (k := k) (by omega) (by omega) (fun i y hi hy => h (i + 1) y (by omega) (by unfold errsW; simpa using hy))
theorem fst_errsW {F : Int} {pn : Nat} : ∀ {a : Int} {l : List Wn} {i : Nat}, fstV (eachL (errsW F pn a l) i) = match badW F pn a l i with
    | none => (0, 0)
    | some k => (21, (k : Int))
  | a, [], i => rfl
  | a, x :: l, i => by
    unfold errsW eachL fstV badW
    by_cases h : okWn F a pn x = true
    · rw [if_pos h, if_pos rfl, if_pos h]; exact fst_errsW
    · rw [if_neg h, if_neg h]; rfl
def errsP (pn : Nat) : List Pt → Nat → List Int
  | [], _ => []
  | p :: l, i => tellP pn i p :: errsP pn l (i + 1)
theorem errsP_len {pn : Nat} : ∀ {l : List Pt} {i : Nat}, (errsP pn l i).length = l.length
  | [], i => rfl
  | x :: l, i => by unfold errsP; rw [List.length_cons, errsP_len, List.length_cons]
theorem errsP_at {pn : Nat} : ∀ {l : List Pt} {i k : Nat}, (errsP pn l i)[k]? = l[k]?.map fun x => tellP pn (i + k) x
  | [], i, k => by simp [errsP]
  | x :: l, i, 0 => by simp [errsP]
  | x :: l, i, k + 1 => by
    unfold errsP
    rw [List.getElem?_cons_succ, List.getElem?_cons_succ, errsP_at, show i + 1 + k = i + (k + 1) by omega]
theorem fst_errsP {pn : Nat} : ∀ {l : List Pt} {i : Nat}, fstV (eachL (errsP pn l i) i) = match badP pn l i with
    | none => (0, 0)
    | some x => (x.1, (x.2 : Int))
  | [], i => rfl
  | x :: l, i => by
    unfold errsP eachL fstV badP tellP
    by_cases h : okPt pn i x = true
    · rw [if_pos h, if_pos rfl, if_pos h]; exact fst_errsP
    · have h2 : errPt pn i x ≠ 0 := by unfold errPt; split <;> omega
      rw [if_neg h, if_neg h2, if_neg h]
def errsC (pn : Nat) (l : List Ch) : List Int := l.map (tellC pn)
theorem fst_errsC {pn : Nat} : ∀ {l : List Ch} {i : Nat}, fstV (eachL (errsC pn l) i) = match badC pn l i with
    | none => (0, 0)
    | some k => (25, (k : Int))
  | [], i => rfl
  | x :: l, i => by
    unfold errsC
    rw [List.map_cons]
    unfold eachL fstV badC tellC
    by_cases h : okCh pn x = true
    · rw [if_pos h, if_pos rfl, if_pos h]; exact fst_errsC
    · rw [if_neg h, if_neg h]; rfl

/-! ### As they are made -/
def cfgA (fr mg : Int) (wa : Option Addr) (wn wc : Nat) (pa : Option Addr) (pn pc : Nat) (ca : Option Addr) (cn cc : Nat) : Array Value := #[.int .i64 fr, .int .i64 mg, .slice wa wn wc, .slice pa pn pc, .slice ca cn cc]
/-- A look at all windows, its own end at be. -/
def WinAt (w : World) (lo hi be : Nat) (v : Value) (fr mg : Int) (wa : Option Addr) (wn wc : Nat) (pa : Option Addr) (pn pc : Nat) (ca : Option Addr) (cn cc : Nat) : Prop :=
  ∃ bc, (lo ≤ bc ∧ bc < be ∧ be < hi) ∧ EachAt w (be + 1) hi v wn (.func (.func 58) #[] #[.pointer (some ⟨bc, 0, none⟩), .pointer (some ⟨be, 0, none⟩)]) ∧
    w.heap[bc]? = some (.cells #[.int .i64 fr, .int .i64 mg, .slice wa wn wc, .slice pa pn pc, .slice ca cn cc] 36 (0, 0)) ∧ w.heap[be]? = some (.cells #[.int .i64 0] 3 (0, 0))
theorem WinAt.keep {w w' : World} {lo hi be : Nat} {v : Value} {fr mg : Int} {wa : Option Addr} {wn wc : Nat} {pa : Option Addr} {pn pc : Nat} {ca : Option Addr} {cn cc : Nat} (h : WinAt w lo hi be v fr mg wa wn wc pa pn pc ca cn cc) (hs : SameIn w w' lo hi) : WinAt w' lo hi be v fr mg wa wn wc pa pn pc ca cn cc := by
  obtain ⟨bc, ⟨h1, h2, h3⟩, he, hc, hb⟩ := h
  exact ⟨bc, ⟨h1, h2, h3⟩, he.keep (fun b g1 g2 => hs b (by omega) g2), (hs bc h1 (by omega)).trans hc, (hs be (by omega) h3).trans hb⟩
/-- A look at all of parts. -/
def partAt (w : World) (lo hi : Nat) (v : Value) (fr mg : Int) (wa : Option Addr) (wn wc : Nat) (pa : Option Addr) (pn pc : Nat) (ca : Option Addr) (cn cc : Nat) : Prop :=
  ∃ bc, (lo ≤ bc ∧ bc < hi) ∧ EachAt w lo hi v pn (.func (.func 60) #[] #[.pointer (some ⟨bc, 0, none⟩)]) ∧
    w.heap[bc]? = some (.cells #[.int .i64 fr, .int .i64 mg, .slice wa wn wc, .slice pa pn pc, .slice ca cn cc] 36 (0, 0))
theorem partAt.keep {w w' : World} {lo hi : Nat} {v : Value} {fr mg : Int} {wa : Option Addr} {wn wc : Nat} {pa : Option Addr} {pn pc : Nat} {ca : Option Addr} {cn cc : Nat} (h : partAt w lo hi v fr mg wa wn wc pa pn pc ca cn cc) (hs : SameIn w w' lo hi) : partAt w' lo hi v fr mg wa wn wc pa pn pc ca cn cc := by
  obtain ⟨bc, ⟨h1, h2⟩, he, hc⟩ := h
  exact ⟨bc, ⟨h1, h2⟩, he.keep hs, (hs bc h1 h2).trans hc⟩
theorem part_made (fr mg : Int) (wa pa ca : Option Addr) (wn wc pn pc cn cc : Nat) (w : World) :
    Calls Try.prog 48 #[.agg #[.int .i64 fr, .int .i64 mg, .slice wa wn wc, .slice pa pn pc, .slice ca cn cc]] w fun e w' => ∃ v, e = .returned v ∧ partAt w' w.heap.size w'.heap.size v fr mg wa wn wc pa pn pc ca cn cc ∧ Below w.heap.size w w' := by
  go_enter Try.func48, Try.ntmps48
  go_wp2_with (first | (go_at_call 57; refine (each_any _ _ _ _).mono ?_; rintro e w2 ⟨v, rfl, he, hb⟩))
  go_ret
  have hz := hb.size
  simp at hz
  refine ⟨_, rfl, ⟨w.heap.size, ⟨by omega, by omega⟩, he.wider (by simp) (Nat.le_refl _), (hb.block _ (by simp)).trans (heap_alloc_new _ _)⟩, (below1 _ _).trans (hb.mono (by simp))⟩
/-- A look at all of channels. -/
def chanAt (w : World) (lo hi : Nat) (v : Value) (fr mg : Int) (wa : Option Addr) (wn wc : Nat) (pa : Option Addr) (pn pc : Nat) (ca : Option Addr) (cn cc : Nat) : Prop :=
  ∃ bc, (lo ≤ bc ∧ bc < hi) ∧ EachAt w lo hi v cn (.func (.func 63) #[] #[.pointer (some ⟨bc, 0, none⟩)]) ∧
    w.heap[bc]? = some (.cells #[.int .i64 fr, .int .i64 mg, .slice wa wn wc, .slice pa pn pc, .slice ca cn cc] 36 (0, 0))
theorem chanAt.keep {w w' : World} {lo hi : Nat} {v : Value} {fr mg : Int} {wa : Option Addr} {wn wc : Nat} {pa : Option Addr} {pn pc : Nat} {ca : Option Addr} {cn cc : Nat} (h : chanAt w lo hi v fr mg wa wn wc pa pn pc ca cn cc) (hs : SameIn w w' lo hi) : chanAt w' lo hi v fr mg wa wn wc pa pn pc ca cn cc := by
  obtain ⟨bc, ⟨h1, h2⟩, he, hc⟩ := h
  exact ⟨bc, ⟨h1, h2⟩, he.keep hs, (hs bc h1 h2).trans hc⟩
theorem chan_made (fr mg : Int) (wa pa ca : Option Addr) (wn wc pn pc cn cc : Nat) (w : World) :
    Calls Try.prog 49 #[.agg #[.int .i64 fr, .int .i64 mg, .slice wa wn wc, .slice pa pn pc, .slice ca cn cc]] w fun e w' => ∃ v, e = .returned v ∧ chanAt w' w.heap.size w'.heap.size v fr mg wa wn wc pa pn pc ca cn cc ∧ Below w.heap.size w w' := by
  go_enter Try.func49, Try.ntmps49
  go_wp2_with (first | (go_at_call 57; refine (each_any _ _ _ _).mono ?_; rintro e w2 ⟨v, rfl, he, hb⟩))
  go_ret
  have hz := hb.size
  simp at hz
  refine ⟨_, rfl, ⟨w.heap.size, ⟨by omega, by omega⟩, he.wider (by simp) (Nat.le_refl _), (hb.block _ (by simp)).trans (heap_alloc_new _ _)⟩, (below1 _ _).trans (hb.mono (by simp))⟩
set_option maxRecDepth 100000 in
theorem win_made (fr mg : Int) (wa pa ca : Option Addr) (wn wc pn pc cn cc : Nat) (w : World) :
    Calls Try.prog 47 #[.agg #[.int .i64 fr, .int .i64 mg, .slice wa wn wc, .slice pa pn pc, .slice ca cn cc]] w fun e w' => ∃ v be, e = .returned v ∧ WinAt w' w.heap.size w'.heap.size be v fr mg wa wn wc pa pn pc ca cn cc ∧ Below w.heap.size w w' := by
  go_enter Try.func47, Try.ntmps47
  go_wp2_with (first | (go_at_call 57; refine (each_any _ _ _ _).mono ?_; rintro e w2 ⟨v, rfl, he, hb⟩))
  go_ret
  have hz := hb.size
  simp at hz
  refine ⟨_, w.heap.size + 1, rfl, ⟨w.heap.size, ⟨by omega, by omega, by omega⟩, he.wider (by simp) (Nat.le_refl _), (hb.block _ (by simp; omega)).trans ?_, (hb.block _ (by simp)).trans ?_⟩, ?_⟩
  · rw [heap_at, if_neg (by simp)]; exact heap_alloc_new _ _
  · rw [heap_at, if_pos (by simp)]
  · exact (b_alloc (below1 _ _) (Nat.le_refl _) _).trans (hb.mono (by simp; omega))
end Go.Proofs.Ytmkohnpdpcefgaa
