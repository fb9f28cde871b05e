/- What is told of one partition, and of one channel. -/
import Derived.Test.YtiojmekoemlmkaaValidC
import Derived.Test.YtiojmekoemlmkaaConfH
namespace Go.Proofs.Ytiojmekoemlmkaa
open Go.ChangeShapes Go.WideShapes Go.ChangeAt Go.RowKit
set_option linter.unusedVariables false

def tellP (pn k : Nat) (p : Pt) : Int := if okPt pn k p then 0 else errPt pn k p
theorem tellP_wrong {pn k : Nat} {p : Pt} (h : wrongOf p.ts p.ss p.a0 p.a1 p.a2 ≠ 0) : tellP pn k p = wrongOf p.ts p.ss p.a0 p.a1 p.a2 := by
  unfold tellP okPt errPt
  rw [if_neg (by simp [h]), if_neg h]
theorem tellP_names {pn k : Nat} {p : Pt} (h : wrongOf p.ts p.ss p.a0 p.a1 p.a2 = 0) (h2 : namesB pn (k : Int) p.ds = false) : tellP pn k p = 24 := by
  unfold tellP okPt errPt
  rw [if_neg (by simp [h2]), if_pos h]
theorem tellP_ok {pn k : Nat} {p : Pt} (h : wrongOf p.ts p.ss p.a0 p.a1 p.a2 = 0) (h2 : namesB pn (k : Int) p.ds = true) : tellP pn k p = 0 := by
  unfold tellP okPt
  rw [if_pos (by simp [h, h2])]
def tellC (pn : Nat) (x : Ch) : Int := if okCh pn x then 0 else 25
theorem names_one {pn : Nat} {a b : Int} : namesB pn a [b] = decide (0 ≤ a ∧ a < (pn : Int) ∧ 0 ≤ b ∧ b < (pn : Int) ∧ a ≠ b) := by
  unfold namesB
  rw [Bool.eq_iff_iff]
  simp
  constructor
  · rintro ⟨h, h1, h2⟩; exact ⟨h1.1, h1.2, h2.1, h2.2, h⟩
  · rintro ⟨h1, h2, h3, h4, h5⟩; exact ⟨h5, ⟨h1, h2⟩, h3, h4⟩
theorem tellC_names {pn : Nat} {x : Ch} (h : namesB pn x.from_ [x.to] = false) : tellC pn x = 25 := by
  rw [names_one] at h
  unfold tellC okCh
  rw [if_neg]
  intro g
  have g := of_decide_eq_true g
  exact of_decide_eq_false h ⟨g.1, g.2.1, g.2.2.1, g.2.2.2.1, g.2.2.2.2.1⟩
theorem tellC_size {pn : Nat} {x : Ch} (h : inB x.size 1 (mostV x.queue) = false) : tellC pn x = 25 := by
  unfold tellC okCh
  rw [if_neg]
  intro g
  have g := of_decide_eq_true g
  exact of_decide_eq_false h ⟨g.2.2.2.2.2.1, g.2.2.2.2.2.2⟩
theorem tellC_ok {pn : Nat} {x : Ch} (h : namesB pn x.from_ [x.to] = true) (h2 : inB x.size 1 (mostV x.queue) = true) : tellC pn x = 0 := by
  rw [names_one] at h
  have h := of_decide_eq_true h
  have h2 := of_decide_eq_true h2
  unfold tellC okCh
  rw [if_pos (decide_eq_true ⟨h.1, h.2.1, h.2.2.1, h.2.2.2.1, h.2.2.2.2, h2.1, h2.2⟩)]
set_option maxRecDepth 100000 in
set_option maxHeartbeats 4000000 in
theorem partTell_any (fr mg : Int) (wa pa ca : Option Addr) (wn wc pn pc cn cc : Nat) (bc k : Nat) (p : Pt) (w : World) (lo hi : Nat) (ps : List Pt) (pvs : List Pv)
    (hbc : w.heap[bc]? = some (.cells #[.int .i64 fr, .int .i64 mg, .slice wa wn wc, .slice pa pn pc, .slice ca cn cc] 36 (0, 0)))
    (hpn : ps.length = pn) (hps : Lies w lo hi (.slice pa pn pc) pn 6 (pvs.flatMap Pv.cells)) (hal : AllLie w lo hi pvs ps) (hhi : hi ≤ w.heap.size) (hx : ps[k]? = some p) (hp2 : pn ≤ 1000) (h3 : p.ts.length ≤ 1000 ∧ p.ss.length ≤ 1000 ∧ p.ds.length ≤ 1000) :
    Calls Try.prog 48 #[.int .i64 k, .pointer (some ⟨bc, 0, none⟩)] w fun e w' => e = .returned (.int .i64 (tellP pn k p)) ∧ Below w.heap.size w w' := by
  have hlt : k < pn := by rw [← hpn]; exact (List.getElem?_eq_some_iff.1 hx).1
  have hlen := hal.length
  obtain ⟨pv, hpv⟩ : ∃ x, pvs[k]? = some x := ⟨_, List.getElem?_eq_getElem (by rw [hlen, hpn]; exact hlt)⟩
  have hpl := hal.at hpv hx
  obtain ⟨ta, sa, da, tc, sc, dc, e1, e2, e3⟩ := hpl.slices
  have hl := hps
  obtain ⟨a2, c2, ee, _, _, hc⟩ := hps
  cases ee
  rcases hc with h0 | ⟨b, off, rfl, hb1, hb2, hc⟩
  · omega
  have hcl := lt_of_block hbc
  have ks : ∀ W : World, Below w.heap.size w W → (Below w.heap.size w W ∧ W.cell? ⟨bc, 0, none⟩ = some (.int .i64 fr) ∧ W.cell? ⟨bc, 1, none⟩ = some (.int .i64 mg) ∧ W.cell? ⟨bc, 2, none⟩ = some (.slice wa wn wc) ∧ W.cell? ⟨bc, 3, none⟩ = some (.slice (some ⟨b, off, none⟩) pn pc) ∧ W.cell? ⟨bc, 4, none⟩ = some (.slice ca cn cc) ∧ W.cell? ⟨b, off + k * 6 + 2, none⟩ = some (.slice da p.ds.length dc)) := by
    intro W h
    have q := fun (i : Nat) (u : Value) hu => (h.cell (p := ⟨bc, i, none⟩) hcl).trans (cell_in (j := i) (u := u) hbc hu)
    obtain ⟨s0, s1, s2, s3, s4, s5⟩ := Lies.pv hc hpv
    rw [e3] at s2
    exact ⟨h, q 0 _ rfl, q 1 _ rfl, q 2 _ rfl, q 3 _ rfl, q 4 _ rfl, (h.cell (p := ⟨b, off + k * 6 + 2, none⟩) (by show b < _; omega)).trans s2⟩
  obtain ⟨s0, s1, s2, s3, s4, s5⟩ := Lies.pv hc hpv
  obtain ⟨q1, q2, q3, q4, q5, q6⟩ := hpl
  obtain ⟨v0, v1, v2, v3, v4, v5⟩ := pv
  simp only at e1 e2 e3 s0 s1 s2 s3 s4 s5 q1 q2 q3 q4 q5 q6
  subst e1; subst e2; subst e3; subst q4; subst q5; subst q6
  have HT := Lib.hid q1; have HS := Lib.hid q2; have HD := Lib.hid q3
  obtain ⟨_, k0, k1, k2, k3, k4, k5⟩ := ks w (Below.refl _ _)
  have KS := Lib.hid ks
  have cr : Calls Try.prog 49 #[.agg #[.slice ta p.ts.length tc, .slice sa p.ss.length sc, .slice da p.ds.length dc, .int .u8 p.a0, .int .u8 p.a1, .int .u8 p.a2]] w fun e w' => e = .returned (.int .i64 (wrongOf p.ts p.ss p.a0 p.a1 p.a2)) ∧ Below w.heap.size w w' :=
    rights_any _ _ _ _ _ _ _ _ _ _ _ _ w lo hi p.ts p.ss rfl rfl q1 q2 hhi h3.1 h3.2.1
  have cn2 : ∀ W : World, Below w.heap.size w W → Calls Try.prog 50 #[.agg #[.int .i64 fr, .int .i64 mg, .slice wa wn wc, .slice (some ⟨b, off, none⟩) pn pc, .slice ca cn cc], .int .i64 k, .slice da p.ds.length dc] W fun e w' => e = .returned (.bool (namesB pn k p.ds)) ∧ Below W.heap.size W w' := fun W h =>
    names_any _ _ _ _ _ _ _ _ _ _ _ _ _ _ _ W lo hi p.ds rfl (q3.keep (SameIn.of_below h hhi)) (Nat.le_trans hhi h.size) h3.2.2 hp2
  have CR := Lib.hid cr; have CN := Lib.hid cn2
  have l0 : (0 : Int) ≤ (k : Int) := by omega
  have l1 : (k : Int) < (pn : Int) := by omega
  clear ks cr cn2 hc hx hpv hl hal q1 q2 q3 hbc
  by_cases hz : wrongOf p.ts p.ss p.a0 p.a1 p.a2 = 0
  · cases hn : namesB pn (k : Int) p.ds with
    | false =>
      have HR := Lib.hid (tellP_names hz hn)
      have HZ := Lib.hid hz; have HN := Lib.hid hn; clear hz hn
      go_enter Try.func48, Try.ntmps48
      go_wp2_with (first | (go_at_call 49; refine CR.out.mono ?_; rintro e w2 ⟨rfl, hb3⟩; rw [HZ.out]))
      obtain ⟨_, k0, k1, k2, k3, k4, k5⟩ := KS.out _ hb3
      go_region_held3 (fun W => Below w.heap.size w W ∧ W.cell? ⟨bc, 0, none⟩ = some (.int .i64 fr) ∧ W.cell? ⟨bc, 1, none⟩ = some (.int .i64 mg) ∧ W.cell? ⟨bc, 2, none⟩ = some (.slice wa wn wc) ∧ W.cell? ⟨bc, 3, none⟩ = some (.slice (some ⟨b, off, none⟩) pn pc) ∧ W.cell? ⟨bc, 4, none⟩ = some (.slice ca cn cc) ∧ W.cell? ⟨b, off + k * 6 + 2, none⟩ = some (.slice da p.ds.length dc))
        (first | exact KS.out _ (hb3.drew) | exact KS.out _ (by assumption))
        (first | (go_at_call 50; refine (CN.out _ (by go_split_ands; assumption)).mono ?_; rintro e w3 ⟨rfl, hb4⟩; rw [HN.out]; have hbn : Below w.heap.size w w3 := (by go_split_ands; exact bel_then (by assumption) (Nat.le_refl _) hb4)))
      go_wp2_with fail
      go_ret
      exact ⟨by rw [HR.out]; rfl, hbn⟩
    | true =>
      have HR := Lib.hid (tellP_ok hz hn)
      have HZ := Lib.hid hz; have HN := Lib.hid hn; clear hz hn
      go_enter Try.func48, Try.ntmps48
      go_wp2_with (first | (go_at_call 49; refine CR.out.mono ?_; rintro e w2 ⟨rfl, hb3⟩; rw [HZ.out]))
      obtain ⟨_, k0, k1, k2, k3, k4, k5⟩ := KS.out _ hb3
      go_region_held3 (fun W => Below w.heap.size w W ∧ W.cell? ⟨bc, 0, none⟩ = some (.int .i64 fr) ∧ W.cell? ⟨bc, 1, none⟩ = some (.int .i64 mg) ∧ W.cell? ⟨bc, 2, none⟩ = some (.slice wa wn wc) ∧ W.cell? ⟨bc, 3, none⟩ = some (.slice (some ⟨b, off, none⟩) pn pc) ∧ W.cell? ⟨bc, 4, none⟩ = some (.slice ca cn cc) ∧ W.cell? ⟨b, off + k * 6 + 2, none⟩ = some (.slice da p.ds.length dc))
        (first | exact KS.out _ (hb3.drew) | exact KS.out _ (by assumption))
        (first | (go_at_call 50; refine (CN.out _ (by go_split_ands; assumption)).mono ?_; rintro e w3 ⟨rfl, hb4⟩; rw [HN.out]; have hbn : Below w.heap.size w w3 := (by go_split_ands; exact bel_then (by assumption) (Nat.le_refl _) hb4)))
      go_wp2_with fail
      go_ret
      exact ⟨by rw [HR.out]; rfl, hbn⟩
  · have HR := Lib.hid (tellP_wrong (pn := pn) (k := k) hz)
    have t1 : decide (wrongOf p.ts p.ss p.a0 p.a1 p.a2 = 0) = false := by simpa using hz
    have t2 : (wrongOf p.ts p.ss p.a0 p.a1 p.a2 == 0) = false := by simpa using hz
    go_enter Try.func48, Try.ntmps48
    go_wp2_with (first | (go_at_call 49; refine CR.out.mono ?_; rintro e w2 ⟨rfl, hb3⟩))
    go_ret
    exact ⟨by rw [HR.out]; rfl, hb3⟩
set_option maxRecDepth 100000 in
set_option maxHeartbeats 4000000 in
theorem chanTell_any (fr mg : Int) (wa pa ca : Option Addr) (wn wc pn pc cn cc : Nat) (bc k : Nat) (x : Ch) (w : World) (lo hi : Nat) (cs : List Ch)
    (hbc : w.heap[bc]? = some (.cells #[.int .i64 fr, .int .i64 mg, .slice wa wn wc, .slice pa pn pc, .slice ca cn cc] 36 (0, 0)))
    (hcn : cs.length = cn) (hcs : Lies w lo hi (.slice ca cn cc) cn 4 (cs.flatMap Ch.cells)) (hhi : hi ≤ w.heap.size) (hx : cs[k]? = some x) (hp2 : pn ≤ 1000) :
    Calls Try.prog 51 #[.int .i64 k, .pointer (some ⟨bc, 0, none⟩)] w fun e w' => e = .returned (.int .i64 (tellC pn x)) ∧ Below w.heap.size w w' := by
  have hlt : k < cn := by rw [← hcn]; exact (List.getElem?_eq_some_iff.1 hx).1
  obtain ⟨a2, c2, ee, _, _, hc⟩ := hcs
  cases ee
  rcases hc with h0 | ⟨b, off, rfl, hb1, hb2, hc⟩
  · omega
  have hcl := lt_of_block hbc
  obtain ⟨s0, s1, s2, s3⟩ := Lies.ch hc hx
  obtain ⟨x0, x1, x2, x3⟩ := x
  simp only at s0 s1 s2 s3
  have l0 : (0 : Int) ≤ (k : Int) := by omega
  have l1 : (k : Int) < (cn : Int) := by omega
  have ks : ∀ W : World, Below (w.alloc (.cells #[.bool x0, .int .i64 x1, .int .i64 x2, .int .i64 x3] 72)).heap.size (w.alloc (.cells #[.bool x0, .int .i64 x1, .int .i64 x2, .int .i64 x3] 72)) W → (Below (w.alloc (.cells #[.bool x0, .int .i64 x1, .int .i64 x2, .int .i64 x3] 72)).heap.size (w.alloc (.cells #[.bool x0, .int .i64 x1, .int .i64 x2, .int .i64 x3] 72)) W ∧ W.cell? ⟨bc, 0, none⟩ = some (.int .i64 fr) ∧ W.cell? ⟨bc, 1, none⟩ = some (.int .i64 mg) ∧ W.cell? ⟨bc, 2, none⟩ = some (.slice wa wn wc) ∧ W.cell? ⟨bc, 3, none⟩ = some (.slice pa pn pc) ∧ W.cell? ⟨bc, 4, none⟩ = some (.slice (some ⟨b, off, none⟩) cn cc) ∧ W.cell? ⟨w.heap.size, 0, none⟩ = some (.bool x0) ∧ W.cell? ⟨w.heap.size, 1, none⟩ = some (.int .i64 x1) ∧ W.cell? ⟨w.heap.size, 2, none⟩ = some (.int .i64 x2) ∧ W.cell? ⟨w.heap.size, 3, none⟩ = some (.int .i64 x3)) := by
    intro W h
    have q := fun (i : Nat) (u : Value) hu => (h.cell (p := ⟨bc, i, none⟩) (by simp; omega)).trans ((World.cell?_alloc_lt _ _ _ (by show bc < _; omega)).trans (cell_in (j := i) (u := u) hbc hu))
    have r := fun (i : Nat) (u : Value) hu => (h.cell (p := ⟨w.heap.size, i, none⟩) (by simp)).trans (cell_in (j := i) (u := u) (heap_alloc_new w (.cells #[.bool x0, .int .i64 x1, .int .i64 x2, .int .i64 x3] 72)) hu)
    exact ⟨h, q 0 _ rfl, q 1 _ rfl, q 2 _ rfl, q 3 _ rfl, q 4 _ rfl, r 0 _ rfl, r 1 _ rfl, r 2 _ rfl, r 3 _ rfl⟩
  have k0 : w.cell? ⟨bc, 4, none⟩ = some (.slice (some ⟨b, off, none⟩) cn cc) := cell_in hbc rfl
  have cn2 : ∀ (W : World) (g : Nat), Below (w.alloc (.cells #[.bool x0, .int .i64 x1, .int .i64 x2, .int .i64 x3] 72)).heap.size (w.alloc (.cells #[.bool x0, .int .i64 x1, .int .i64 x2, .int .i64 x3] 72)) W → W.heap[g]? = some (.cells #[.int .i64 x2] 3 (0, 0)) → Calls Try.prog 50 #[.agg #[.int .i64 fr, .int .i64 mg, .slice wa wn wc, .slice pa pn pc, .slice (some ⟨b, off, none⟩) cn cc], .int .i64 x1, .slice (some ⟨g, 0, none⟩) 1 1] W fun e w' => e = .returned (.bool (namesB pn x1 [x2])) ∧ Below W.heap.size W w' := fun W g h hg =>
    names_any _ _ _ _ _ _ _ _ _ _ _ _ _ _ _ W g (g + 1) [x2] rfl (one_lies hg rfl) (lt_of_block hg) (by omega) hp2
  have KS := Lib.hid ks; have CN := Lib.hid cn2; have HB := Lib.hid (below1 w (.cells #[.bool x0, .int .i64 x1, .int .i64 x2, .int .i64 x3] 72))
  clear hc hx hbc hcn ks cn2
  cases hn : namesB pn x1 [x2] with
  | false =>
    have HR : Hid (tellC pn ⟨x0, x1, x2, x3⟩ = 25) := Lib.hid (tellC_names hn)
    have HN := Lib.hid hn; have HI : Hid True := Lib.hid trivial; clear hn
    go_enter Try.func51, Try.ntmps51
    go_wp2_with fail
    obtain ⟨_, k0, k1, k2, k3, k4, k5, k6, k7, k8⟩ := KS.out _ (Below.refl _ _)
    first | go_region_law (first
      | (go_simp; go_at_call 50; refine (CN.out _ _ (by first | exact (b_alloc (Below.refl _ _) (Nat.le_refl _) _).drew | exact b_alloc ((Below.refl _ _).drew) (Nat.le_refl _) _ | (go_split_ands; assumption)) (by first | (show (World.alloc _ _).heap[_]? = _; rw [heap_at, if_pos (by simp)]))).mono ?_; rintro e w3 ⟨rfl, hb3⟩; rw [HN.out]; have hbn : Below (w.alloc (.cells #[.bool x0, .int .i64 x1, .int .i64 x2, .int .i64 x3] 72)).heap.size (w.alloc (.cells #[.bool x0, .int .i64 x1, .int .i64 x2, .int .i64 x3] 72)) w3 := (by first | exact bel_then ((b_alloc (Below.refl _ _) (Nat.le_refl _) _).drew) (Nat.le_refl _) hb3 | exact bel_then (b_alloc ((Below.refl _ _).drew) (Nat.le_refl _) _) (Nat.le_refl _) hb3))) | fail
    all_goals go_wp2_with fail
    all_goals go_ret
    all_goals exact ⟨by rw [HR.out]; rfl, HB.out.trans (hbn.mono HB.out.size)⟩
  | true =>
    have HN := Lib.hid hn
    cases hi2 : inB x3 1 (mostV x0) with
    | false =>
      have HR : Hid (tellC pn ⟨x0, x1, x2, x3⟩ = 25) := Lib.hid (tellC_size hi2)
      have HI := Lib.hid hi2; clear hn hi2
      go_enter Try.func51, Try.ntmps51
      go_wp2_with fail
      obtain ⟨_, k0, k1, k2, k3, k4, k5, k6, k7, k8⟩ := KS.out _ (Below.refl _ _)
      go_region_held3 (fun W => Below (w.alloc (.cells #[.bool x0, .int .i64 x1, .int .i64 x2, .int .i64 x3] 72)).heap.size (w.alloc (.cells #[.bool x0, .int .i64 x1, .int .i64 x2, .int .i64 x3] 72)) W ∧ W.cell? ⟨bc, 0, none⟩ = some (.int .i64 fr) ∧ W.cell? ⟨bc, 1, none⟩ = some (.int .i64 mg) ∧ W.cell? ⟨bc, 2, none⟩ = some (.slice wa wn wc) ∧ W.cell? ⟨bc, 3, none⟩ = some (.slice pa pn pc) ∧ W.cell? ⟨bc, 4, none⟩ = some (.slice (some ⟨b, off, none⟩) cn cc) ∧ W.cell? ⟨w.heap.size, 0, none⟩ = some (.bool x0) ∧ W.cell? ⟨w.heap.size, 1, none⟩ = some (.int .i64 x1) ∧ W.cell? ⟨w.heap.size, 2, none⟩ = some (.int .i64 x2) ∧ W.cell? ⟨w.heap.size, 3, none⟩ = some (.int .i64 x3))
        (first | exact KS.out _ ((Below.refl _ _).drew) | exact KS.out _ ((b_alloc (Below.refl _ _) (Nat.le_refl _) _).drew) | exact KS.out _ (b_alloc ((Below.refl _ _).drew) (Nat.le_refl _) _) | exact KS.out _ (by assumption))
        (first
        | (go_at_call 50; refine (CN.out _ _ (by first | exact (b_alloc (Below.refl _ _) (Nat.le_refl _) _).drew | exact b_alloc ((Below.refl _ _).drew) (Nat.le_refl _) _ | (go_split_ands; assumption)) (by first | (show (World.alloc _ _).heap[_]? = _; rw [heap_at, if_pos (by simp)]))).mono ?_; rintro e w3 ⟨rfl, hb3⟩; rw [HN.out]; have hbn : Below (w.alloc (.cells #[.bool x0, .int .i64 x1, .int .i64 x2, .int .i64 x3] 72)).heap.size (w.alloc (.cells #[.bool x0, .int .i64 x1, .int .i64 x2, .int .i64 x3] 72)) w3 := (by first | exact bel_then ((b_alloc (Below.refl _ _) (Nat.le_refl _) _).drew) (Nat.le_refl _) hb3 | exact bel_then (b_alloc ((Below.refl _ _).drew) (Nat.le_refl _) _) (Nat.le_refl _) hb3))
        | (go_at_call 52; refine (mostSize_any _ _ _ _ _).mono ?_; rintro e w4 ⟨rfl, hb4⟩; have hbm : Below (w.alloc (.cells #[.bool x0, .int .i64 x1, .int .i64 x2, .int .i64 x3] 72)).heap.size (w.alloc (.cells #[.bool x0, .int .i64 x1, .int .i64 x2, .int .i64 x3] 72)) w4 := (by go_split_ands; exact bel_then (by assumption) (Nat.le_refl _) hb4))
        | (go_at_call 23; refine (within_any _ _ _ _).mono ?_; rintro e w5 ⟨rfl, rfl⟩; rw [HI.out]))
      go_wp2_with fail
      go_ret
      exact ⟨by rw [HR.out]; rfl, HB.out.trans (hbm.mono HB.out.size)⟩
    | true =>
      have HR : Hid (tellC pn ⟨x0, x1, x2, x3⟩ = 0) := Lib.hid (tellC_ok hn hi2)
      have HI := Lib.hid hi2; clear hn hi2
      go_enter Try.func51, Try.ntmps51
      go_wp2_with fail
      obtain ⟨_, k0, k1, k2, k3, k4, k5, k6, k7, k8⟩ := KS.out _ (Below.refl _ _)
      go_region_held3 (fun W => Below (w.alloc (.cells #[.bool x0, .int .i64 x1, .int .i64 x2, .int .i64 x3] 72)).heap.size (w.alloc (.cells #[.bool x0, .int .i64 x1, .int .i64 x2, .int .i64 x3] 72)) W ∧ W.cell? ⟨bc, 0, none⟩ = some (.int .i64 fr) ∧ W.cell? ⟨bc, 1, none⟩ = some (.int .i64 mg) ∧ W.cell? ⟨bc, 2, none⟩ = some (.slice wa wn wc) ∧ W.cell? ⟨bc, 3, none⟩ = some (.slice pa pn pc) ∧ W.cell? ⟨bc, 4, none⟩ = some (.slice (some ⟨b, off, none⟩) cn cc) ∧ W.cell? ⟨w.heap.size, 0, none⟩ = some (.bool x0) ∧ W.cell? ⟨w.heap.size, 1, none⟩ = some (.int .i64 x1) ∧ W.cell? ⟨w.heap.size, 2, none⟩ = some (.int .i64 x2) ∧ W.cell? ⟨w.heap.size, 3, none⟩ = some (.int .i64 x3))
        (first | exact KS.out _ ((Below.refl _ _).drew) | exact KS.out _ ((b_alloc (Below.refl _ _) (Nat.le_refl _) _).drew) | exact KS.out _ (b_alloc ((Below.refl _ _).drew) (Nat.le_refl _) _) | exact KS.out _ (by assumption))
        (first
        | (go_at_call 50; refine (CN.out _ _ (by first | exact (b_alloc (Below.refl _ _) (Nat.le_refl _) _).drew | exact b_alloc ((Below.refl _ _).drew) (Nat.le_refl _) _ | (go_split_ands; assumption)) (by first | (show (World.alloc _ _).heap[_]? = _; rw [heap_at, if_pos (by simp)]))).mono ?_; rintro e w3 ⟨rfl, hb3⟩; rw [HN.out]; have hbn : Below (w.alloc (.cells #[.bool x0, .int .i64 x1, .int .i64 x2, .int .i64 x3] 72)).heap.size (w.alloc (.cells #[.bool x0, .int .i64 x1, .int .i64 x2, .int .i64 x3] 72)) w3 := (by first | exact bel_then ((b_alloc (Below.refl _ _) (Nat.le_refl _) _).drew) (Nat.le_refl _) hb3 | exact bel_then (b_alloc ((Below.refl _ _).drew) (Nat.le_refl _) _) (Nat.le_refl _) hb3))
        | (go_at_call 52; refine (mostSize_any _ _ _ _ _).mono ?_; rintro e w4 ⟨rfl, hb4⟩; have hbm : Below (w.alloc (.cells #[.bool x0, .int .i64 x1, .int .i64 x2, .int .i64 x3] 72)).heap.size (w.alloc (.cells #[.bool x0, .int .i64 x1, .int .i64 x2, .int .i64 x3] 72)) w4 := (by go_split_ands; exact bel_then (by assumption) (Nat.le_refl _) hb4))
        | (go_at_call 23; refine (within_any _ _ _ _).mono ?_; rintro e w5 ⟨rfl, rfl⟩; rw [HI.out]))
      go_wp2_with fail
      go_ret
      exact ⟨by rw [HR.out]; rfl, HB.out.trans (hbm.mono HB.out.size)⟩
end Go.Proofs.Ytiojmekoemlmkaa
