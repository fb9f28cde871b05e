/- Joined of ValidI, ValidJ: The document's own looks at windows, and at a channel. -/
import Derived.Test.YtmkohnpdpcefgaaValidM
import Derived.Test.YtmkohnpdpcefgaaNames
import Derived.Test.YtmkohnpdpcefgaaFrameT
import Derived.Test.YtmkohnpdpcefgaaRead
import Derived.Test.YtmkohnpdpcefgaaRights
import Derived.Test.YtmkohnpdpcefgaaFrameP
import Derived.Test.YtmkohnpdpcefgaaSys
namespace Go.Proofs.Ytmkohnpdpcefgaa
open Go.ChangeShapes Go.WideShapes Go.ChangeAt Go.RowKit
set_option linter.unusedVariables false

def orNo (o : Option Nat) : Int := match o with
  | none => -1
  | some k => (k : Int)
theorem bel_next2 {w w2 : World} {o : Obj} (h : Below (w.alloc o).heap.size (w.alloc o) w2) : Below w.heap.size w w2 := (below1 w o).trans (h.mono (below1 w o).size)
theorem badW_step {F a : Int} {pn i : Nat} {x : Wn} {l : List Wn} (h : okWn F a pn x = true) : badW F pn a (x :: l) i = badW F pn (x.at_ + x.len) l (i + 1) := by rw [badW, if_pos h]
theorem badW_stop {F a : Int} {pn i : Nat} {x : Wn} {l : List Wn} (h : okWn F a pn x = false) : badW F pn a (x :: l) i = some i := by rw [badW, if_neg (by simp [h])]
set_option maxRecDepth 100000 in
set_option maxHeartbeats 4000000 in
theorem refWindows_any (fr mg : Int) (wa pa ca : Option Addr) (wn wc pn pc cn cc : Nat) (w : World) (lo hi : Nat) (l : List Wn) (hln : l.length = wn) (hl : Lies w lo hi (.slice wa wn wc) wn 3 (l.flatMap Wn.cells)) (hhi : hi ≤ w.heap.size) (hin : ∀ x ∈ l, x.In) (f1 : 1 ≤ fr) (f2 : fr ≤ 256) :
    Calls Try.prog 33 #[.agg #[.int .i64 fr, .int .i64 mg, .slice wa wn wc, .slice pa pn pc, .slice ca cn cc]] w fun e w' => e = .returned (.int .i64 (orNo (winV fr pn l))) ∧ Below w.heap.size w w' := by
  obtain ⟨V, hV⟩ : ∃ V, V = w.alloc (.cells #[.int .i64 fr, .int .i64 mg, .slice wa wn wc, .slice pa pn pc, .slice ca cn cc] 26) := ⟨_, rfl⟩
  have B1 : Below w.heap.size w V := by rw [hV]; exact below1 _ _
  have hblk : V.heap[w.heap.size]? = some (.cells #[.int .i64 fr, .int .i64 mg, .slice wa wn wc, .slice pa pn pc, .slice ca cn cc] 26 (0, 0)) := by rw [hV]; exact heap_alloc_new _ _
  have hlt0 := lt_of_block hblk
  have HL := Lib.hid (hl.keep (SameIn.of_below B1 hhi)); have HLN := Lib.hid hln; have HIN := Lib.hid hin
  have hhv : hi ≤ V.heap.size := by omega
  have HBK := Lib.hid hblk; have HB1 := Lib.hid B1; have HV := Lib.hid hV
  clear hl hln hin hblk B1 hV
  by_cases hbig : 32 < wn
  · have t1 : decide (32 < (wn : Int)) = true := by simp; omega
    have HR : Hid (winV fr pn l = some 32) := Lib.hid (by unfold winV; rw [if_pos (by rw [HLN.out]; exact hbig)])
    go_enter Try.func33, Try.ntmps33
    go_wp2_with fail
    go_ret
    exact ⟨by rw [HR.out]; rfl, below1 _ _⟩
  have t1 : decide (32 < (wn : Int)) = false := by simp; omega
  have HR : Hid (winV fr pn l = badW fr pn 0 l 0) := Lib.hid (by unfold winV; rw [if_neg (by rw [HLN.out]; exact hbig)])
  go_enter Try.func33, Try.ntmps33
  go_wp2_with fail
  go_loopw [3, 4] (fun s i wr => ∃ (k : Nat) (z : Int), k ≤ wn ∧ i = .int .i64 k ∧ s = .int .i64 z ∧ 0 ≤ z ∧ z ≤ fr ∧ Hid (badW fr pn 0 l 0 = badW fr pn z (l.drop k) k) ∧ Below V.heap.size V wr) (fun _ i _ => wn - (intOf i).toNat)
  case atStart => exact ⟨0, 0, by omega, rfl, rfl, by omega, by omega, Lib.hid rfl, by rw [HV.out]; exact Below.refl _ _⟩
  case round =>
    obtain ⟨k, z, hk, rfl, rfl, r0, r1, HA, hb⟩ := hrel
    have y0 : wr.cell? ⟨w.heap.size, 0, none⟩ = some (.int .i64 fr) := (hb.cell hlt0).trans (cell_in HBK.out rfl)
    have y1 : wr.cell? ⟨w.heap.size, 1, none⟩ = some (.int .i64 mg) := (hb.cell hlt0).trans (cell_in HBK.out rfl)
    have y2 : wr.cell? ⟨w.heap.size, 2, none⟩ = some (.slice wa wn wc) := (hb.cell hlt0).trans (cell_in HBK.out rfl)
    have y3 : wr.cell? ⟨w.heap.size, 3, none⟩ = some (.slice pa pn pc) := (hb.cell hlt0).trans (cell_in HBK.out rfl)
    have y4 : wr.cell? ⟨w.heap.size, 4, none⟩ = some (.slice ca cn cc) := (hb.cell hlt0).trans (cell_in HBK.out rfl)
    have hwr : w.heap.size < wr.heap.size := by have := hb.size; omega
    by_cases hlt : k < wn
    · have tk : decide ((k : Int) < (wn : Int)) = true := by simpa using hlt
      obtain ⟨x, hx⟩ : ∃ x, l[k]? = some x := ⟨_, List.getElem?_eq_getElem (by rw [HLN.out]; exact hlt)⟩
      have hlies := HL.out.keep (SameIn.of_below hb hhv)
      obtain ⟨a2, c2, e2, _, _, hc⟩ := hlies
      cases e2
      rcases hc with h0 | ⟨b, off, rfl, hb1, hb2, hc⟩
      · omega
      obtain ⟨s0, s1, s2⟩ := Lies.wn hc hx
      have q := HIN.out x (List.mem_of_getElem? hx)
      have hd := drop_cons hx
      have l0 : (0 : Int) ≤ (k : Int) := by omega
      have l1 : (k : Int) < (wn : Int) := by omega
      obtain ⟨xa, xn, xp⟩ := x
      simp only at s0 s1 s2 q
      obtain ⟨⟨q1, q2⟩, ⟨q3, q4⟩, ⟨q5, q6⟩⟩ := q
      simp only at q1 q2 q3 q4 q5 q6
      have p0 : ∀ o, (wr.alloc o).cell? ⟨w.heap.size, 0, none⟩ = some (.int .i64 fr) := fun o => by rw [World.cell?_alloc_lt _ _ _ hwr]; exact y0
      have p1 : ∀ o, (wr.alloc o).cell? ⟨w.heap.size, 1, none⟩ = some (.int .i64 mg) := fun o => by rw [World.cell?_alloc_lt _ _ _ hwr]; exact y1
      have p2 : ∀ o, (wr.alloc o).cell? ⟨w.heap.size, 2, none⟩ = some (.slice (some ⟨b, off, none⟩) wn wc) := fun o => by rw [World.cell?_alloc_lt _ _ _ hwr]; exact y2
      have p3 : ∀ o, (wr.alloc o).cell? ⟨w.heap.size, 3, none⟩ = some (.slice pa pn pc) := fun o => by rw [World.cell?_alloc_lt _ _ _ hwr]; exact y3
      have p4 : ∀ o, (wr.alloc o).cell? ⟨w.heap.size, 4, none⟩ = some (.slice ca cn cc) := fun o => by rw [World.cell?_alloc_lt _ _ _ hwr]; exact y4
      have HBB := Lib.hid hb
      have HD := Lib.hid hd
      clear hc hx hb hd
      rcases (show xa < z ∨ (z ≤ xa ∧ fr ≤ xa) ∨ (z ≤ xa ∧ xa < fr ∧ xn < 1) ∨ (z ≤ xa ∧ xa < fr ∧ 1 ≤ xn ∧ fr - xa < xn) ∨ (z ≤ xa ∧ xa < fr ∧ 1 ≤ xn ∧ xn ≤ fr - xa) from by omega) with g | ⟨g, g3⟩ | ⟨g, g3, g4⟩ | ⟨g, g3, g4, g5⟩ | ⟨g, g3, g4, g5⟩
      case inr.inr.inr.inr =>
        have s1 : IntKind.i64.wrap (fr - xa) = fr - xa := IntWalk.i64_in _ (by omega)
        have s3 : IntKind.i64.wrap (xa + xn) = xa + xn := IntWalk.i64_in _ (by omega)
        have CH := Lib.hid (fun W => refHas_any fr mg xp (some ⟨b, off, none⟩) pa ca wn wc pn pc cn cc W)
        cases hp : hasB pn xp with
        | false =>
          have HN : Hid (badW fr pn 0 l 0 = some k) := Lib.hid (by rw [HA.out, HD.out]; exact badW_stop (by have := hasB_false hp; unfold okWn; simp; omega))
          have HP := Lib.hid hp; clear hp
          go_wp2_with (first | (go_at_call 51; refine (CH.out _).mono ?_; rintro e w2 ⟨rfl, hb2⟩; rw [HP.out]))
          go_ret
          exact ⟨by rw [HR.out, HN.out]; rfl, HB1.out.trans ((HBB.out.trans ((bel_next2 hb2).mono HBB.out.size)).mono HB1.out.size)⟩
        | true =>
          have HN : Hid (badW fr pn 0 l 0 = badW fr pn (xa + xn) (l.drop (k + 1)) (k + 1)) := Lib.hid (by rw [HA.out, HD.out]; exact badW_step (by have := hasB_true hp; unfold okWn; simp; omega))
          have HP := Lib.hid hp; clear hp
          go_wp2_with (first | (go_at_call 51; refine (CH.out _).mono ?_; rintro e w2 ⟨rfl, hb2⟩; rw [HP.out]; have q0 := (hb2.cell (p := ⟨wr.heap.size, 0, none⟩) (by simp)).trans (cell_in (heap_alloc_new _ _) rfl); have q1 := (hb2.cell (p := ⟨wr.heap.size, 1, none⟩) (by simp)).trans (cell_in (heap_alloc_new _ _) rfl)))
          go_roundw
          case rel => exact ⟨k + 1, xa + xn, by omega, by go_num, by go_num, by omega, by omega, HN, HBB.out.trans ((bel_next2 hb2).mono HBB.out.size)⟩
          case measure => simp [intOf]; omega
      all_goals
        (have s1 : z ≤ xa → IntKind.i64.wrap (fr - xa) = fr - xa := fun _ => IntWalk.i64_in _ (by omega)
         have HN : Hid (badW fr pn 0 l 0 = some k) := Lib.hid (by rw [HA.out, HD.out]; exact badW_stop (by unfold okWn; simp; omega))
         try have s2 := s1 (by omega)
         clear s1
         go_wp2_with fail
         go_ret
         exact ⟨by rw [HR.out, HN.out]; rfl, HB1.out.trans ((HBB.out.trans ((below1 _ _).mono HBB.out.size)).mono HB1.out.size)⟩)
    · have tk : decide ((k : Int) < (wn : Int)) = false := by simp; omega
      have HE : Hid (badW fr pn 0 l 0 = none) := Lib.hid (by rw [HA.out, List.drop_of_length_le (by rw [HLN.out]; omega)]; rfl)
      go_wp2_with fail
      go_ret
      exact ⟨by rw [HR.out, HE.out]; rfl, HB1.out.trans (hb.mono HB1.out.size)⟩
set_option maxRecDepth 100000 in
set_option maxHeartbeats 4000000 in
theorem refChannel_any (fr mg : Int) (wa pa ca : Option Addr) (wn wc pn pc cn cc : Nat) (q : Bool) (a b s : Int) (w : World) :
    Calls Try.prog 36 #[.agg #[.int .i64 fr, .int .i64 mg, .slice wa wn wc, .slice pa pn pc, .slice ca cn cc], .agg #[.bool q, .int .i64 a, .int .i64 b, .int .i64 s]] w fun e w' => e = .returned (.bool (okCh pn ⟨q, a, b, s⟩)) ∧ Below w.heap.size w w' := by
  obtain ⟨V, hV⟩ : ∃ V, V = ((w.alloc (.cells #[.int .i64 fr, .int .i64 mg, .slice wa wn wc, .slice pa pn pc, .slice ca cn cc] 26)).alloc (.cells #[.bool q, .int .i64 a, .int .i64 b, .int .i64 s] 78)) := ⟨_, rfl⟩
  have B1 : Below w.heap.size w V := by rw [hV]; exact b_alloc (below1 _ _) (Nat.le_refl _) _
  have hb1 : V.heap[w.heap.size]? = some (.cells #[.int .i64 fr, .int .i64 mg, .slice wa wn wc, .slice pa pn pc, .slice ca cn cc] 26 (0, 0)) := by rw [hV, heap_at, if_neg (by simp)]; exact heap_alloc_new _ _
  have hb2 : V.heap[w.heap.size + 1]? = some (.cells #[.bool q, .int .i64 a, .int .i64 b, .int .i64 s] 78 (0, 0)) := by rw [hV, heap_at, if_pos (by simp)]
  have ks : ∀ W : World, Below V.heap.size V W → (W.cell? ⟨w.heap.size, 0, none⟩ = some (.int .i64 fr) ∧ W.cell? ⟨w.heap.size, 1, none⟩ = some (.int .i64 mg) ∧ W.cell? ⟨w.heap.size, 2, none⟩ = some (.slice wa wn wc) ∧ W.cell? ⟨w.heap.size, 3, none⟩ = some (.slice pa pn pc) ∧ W.cell? ⟨w.heap.size, 4, none⟩ = some (.slice ca cn cc) ∧ W.cell? ⟨w.heap.size + 1, 0, none⟩ = some (.bool q) ∧ W.cell? ⟨w.heap.size + 1, 1, none⟩ = some (.int .i64 a) ∧ W.cell? ⟨w.heap.size + 1, 2, none⟩ = some (.int .i64 b) ∧ W.cell? ⟨w.heap.size + 1, 3, none⟩ = some (.int .i64 s)) := by
    intro W g
    have r := fun (i : Nat) (u : Value) hu => (g.cell (p := ⟨w.heap.size, i, none⟩) (lt_of_block hb1)).trans (cell_in (j := i) (u := u) hb1 hu)
    have t := fun (i : Nat) (u : Value) hu => (g.cell (p := ⟨w.heap.size + 1, i, none⟩) (lt_of_block hb2)).trans (cell_in (j := i) (u := u) hb2 hu)
    exact ⟨r 0 _ rfl, r 1 _ rfl, r 2 _ rfl, r 3 _ rfl, r 4 _ rfl, t 0 _ rfl, t 1 _ rfl, t 2 _ rfl, t 3 _ rfl⟩
  have KS := Lib.hid ks; have HB1 := Lib.hid B1; have HV := Lib.hid hV
  have CH := Lib.hid (fun p W => refHas_any fr mg p wa pa ca wn wc pn pc cn cc W)
  clear ks B1 hb1 hb2 hV
  rcases (show ¬ (0 ≤ a ∧ a < (pn : Int)) ∨ ((0 ≤ a ∧ a < (pn : Int)) ∧ ¬ (0 ≤ b ∧ b < (pn : Int))) ∨ ((0 ≤ a ∧ a < (pn : Int)) ∧ (0 ≤ b ∧ b < (pn : Int))) from by omega) with h1 | ⟨h1, h2⟩ | ⟨h1, h2⟩
  · have HN := Lib.hid (show hasB pn a = false from decide_eq_false h1)
    have HR : Hid (okCh pn ⟨q, a, b, s⟩ = false) := Lib.hid (decide_eq_false fun g => h1 ⟨g.1, g.2.1⟩)
    cases q
    all_goals
      (go_enter Try.func36, Try.ntmps36
       go_wp2_with (first | (go_at_call 51; rw [← HV.out]; refine (CH.out _ _).mono ?_; rintro e w1 ⟨rfl, hc1⟩; rw [HN.out]))
       go_ret
       exact ⟨by rw [HR.out]; rfl, HB1.out.trans (hc1.mono HB1.out.size)⟩)
  · have HN := Lib.hid (show hasB pn a = true from decide_eq_true h1)
    have HM := Lib.hid (show hasB pn b = false from decide_eq_false h2)
    have HR : Hid (okCh pn ⟨q, a, b, s⟩ = false) := Lib.hid (decide_eq_false fun g => h2 ⟨g.2.2.1, g.2.2.2.1⟩)
    cases q
    all_goals
      (go_enter Try.func36, Try.ntmps36
       go_wp2_with (first
         | (go_at_call 51; have _z := hc1; refine (CH.out _ _).mono ?_; rintro e w2 ⟨rfl, hc2⟩; rw [HM.out])
         | (go_at_call 51; rw [← HV.out]; refine (CH.out _ _).mono ?_; rintro e w1 ⟨rfl, hc1⟩; rw [HN.out]; obtain ⟨k0, k1, k2, k3, k4, k5, k6, k7, k8⟩ := KS.out _ hc1))
       go_ret
       exact ⟨by rw [HR.out]; rfl, HB1.out.trans ((hc1.trans (hc2.mono hc1.size)).mono HB1.out.size)⟩)
  · have HN := Lib.hid (show hasB pn a = true from decide_eq_true h1)
    have HM := Lib.hid (show hasB pn b = true from decide_eq_true h2)
    cases q
    all_goals
      (rcases (show a = b ∨ (a ≠ b ∧ s < 1) ∨ (a ≠ b ∧ 1 ≤ s ∧ 1000 < s) ∨ (a ≠ b ∧ 1 ≤ s ∧ 16 < s ∧ s ≤ 1000) ∨ (a ≠ b ∧ 1 ≤ s ∧ s ≤ 16) from by omega) with h3 | ⟨h3, h4⟩ | ⟨h3, h4, h5⟩ | ⟨h3, h4, h5, h6⟩ | ⟨h3, h4, h5⟩
       all_goals
         (try subst h3
          go_enter Try.func36, Try.ntmps36
          go_wp2_with (first
            | (go_at_call 51; have _z := hc1; refine (CH.out _ _).mono ?_; rintro e w2 ⟨rfl, hc2⟩; rw [HM.out]; obtain ⟨k0, k1, k2, k3, k4, k5, k6, k7, k8⟩ := KS.out _ (hc1.trans (hc2.mono hc1.size)))
            | (go_at_call 51; rw [← HV.out]; refine (CH.out _ _).mono ?_; rintro e w1 ⟨rfl, hc1⟩; rw [HN.out]; obtain ⟨k0, k1, k2, k3, k4, k5, k6, k7, k8⟩ := KS.out _ hc1))
          go_ret
          exact ⟨ret_b (by rw [Bool.eq_iff_iff]; unfold okCh; simp; try omega), HB1.out.trans ((hc1.trans (hc2.mono hc1.size)).mono HB1.out.size)⟩))
end Go.Proofs.Ytmkohnpdpcefgaa
namespace Go.Proofs.Ytmkohnpdpcefgaa
open Go.ChangeShapes Go.WideShapes Go.ChangeAt Go.RowKit
set_option linter.unusedVariables false

theorem cv_frame {c : Cf} (h : frameOk c.frame c.margin = false) : checkV c = (20, 0) := by unfold checkV; rw [if_pos h]
theorem cv_parts {c : Cf} (h : frameOk c.frame c.margin = true) (h2 : c.ps.length < 1 ∨ 6 < c.ps.length) : checkV c = (1, 0) := by unfold checkV; rw [if_neg (by simp [h]), if_pos h2]
theorem cv_win {c : Cf} {k : Nat} (h : frameOk c.frame c.margin = true) (h2 : ¬ (c.ps.length < 1 ∨ 6 < c.ps.length)) (h3 : winV c.frame c.ps.length c.ws = some k) : checkV c = (21, (k : Int)) := by unfold checkV; rw [if_neg (by simp [h]), if_neg h2, h3]
theorem cv_part {c : Cf} {x : Int × Nat} (h : frameOk c.frame c.margin = true) (h2 : ¬ (c.ps.length < 1 ∨ 6 < c.ps.length)) (h3 : winV c.frame c.ps.length c.ws = none) (h4 : badP c.ps.length c.ps 0 = some x) : checkV c = (x.1, (x.2 : Int)) := by
  unfold checkV; rw [if_neg (by simp [h]), if_neg h2, h3]; simp only [h4]
theorem cv_chan {c : Cf} {k : Nat} (h : frameOk c.frame c.margin = true) (h2 : ¬ (c.ps.length < 1 ∨ 6 < c.ps.length)) (h3 : winV c.frame c.ps.length c.ws = none) (h4 : badP c.ps.length c.ps 0 = none) (h5 : chanV c.ps.length c.cs = some k) : checkV c = (25, (k : Int)) := by
  unfold checkV; rw [if_neg (by simp [h]), if_neg h2, h3]; simp only [h4, h5]
theorem cv_ok {c : Cf} (h : frameOk c.frame c.margin = true) (h2 : ¬ (c.ps.length < 1 ∨ 6 < c.ps.length)) (h3 : winV c.frame c.ps.length c.ws = none) (h4 : badP c.ps.length c.ps 0 = none) (h5 : chanV c.ps.length c.cs = none) : checkV c = (0, 0) := by
  unfold checkV; rw [if_neg (by simp [h]), if_neg h2, h3]; simp only [h4, h5]
theorem badP_wrong {pn i : Nat} {p : Pt} {l : List Pt} (h : wrongOf p.ts p.ss p.a0 p.a1 p.a2 ≠ 0) : badP pn (p :: l) i = some (wrongOf p.ts p.ss p.a0 p.a1 p.a2, i) := by
  rw [badP, if_neg (by unfold okPt; simp [h])]; unfold errPt; rw [if_neg h]
theorem badP_names {pn i : Nat} {p : Pt} {l : List Pt} (h : wrongOf p.ts p.ss p.a0 p.a1 p.a2 = 0) (h2 : namesB pn (i : Int) p.ds = false) : badP pn (p :: l) i = some (24, i) := by
  rw [badP, if_neg (by unfold okPt; simp [h2])]; unfold errPt; rw [if_pos h]
theorem badP_next {pn i : Nat} {p : Pt} {l : List Pt} (h : wrongOf p.ts p.ss p.a0 p.a1 p.a2 = 0) (h2 : namesB pn (i : Int) p.ds = true) : badP pn (p :: l) i = badP pn l (i + 1) := by
  rw [badP, if_pos (by unfold okPt; simp [h, h2])]
theorem badC_next {pn i : Nat} {x : Ch} {l : List Ch} (h : okCh pn x = true) : badC pn (x :: l) i = badC pn l (i + 1) := by rw [badC, if_pos h]
theorem badC_stop {pn i : Nat} {x : Ch} {l : List Ch} (h : okCh pn x = false) : badC pn (x :: l) i = some i := by rw [badC, if_neg (by simp [h])]
theorem dropp {α : Type} {l : List α} {k : Nat} {x : α} (h : l[k]? = some x) : l.drop k = x :: l.drop (k + 1) := by
  obtain ⟨h1, h2⟩ := List.getElem?_eq_some_iff.1 h
  rw [List.drop_eq_getElem_cons h1, h2]
theorem ret_pair {a b : Int} {x : Int × Int} (h : x = (a, b)) : Ending.returned (.tuple #[.int .i64 a, .int .i64 b]) = .returned (.tuple #[.int .i64 x.1, .int .i64 x.2]) := by rw [h]
set_option maxRecDepth 100000 in
set_option maxHeartbeats 8000000 in
theorem refCheck_any (fr mg : Int) (wa pa ca : Option Addr) (wn wc pn pc cn cc : Nat) (w : World) (lo hi : Nat) (c : Cf) (pvs : List Pv) (hfr : c.frame = fr) (hmg : c.margin = mg) (hwn : c.ws.length = wn) (hpn : c.ps.length = pn) (hcn : c.cs.length = cn)
    (hws : Lies w lo hi (.slice wa wn wc) wn 3 (c.ws.flatMap Wn.cells)) (hps : Lies w lo hi (.slice pa pn pc) pn 6 (pvs.flatMap Pv.cells)) (hal : AllLie w lo hi pvs c.ps) (hcs : Lies w lo hi (.slice ca cn cc) cn 4 (c.cs.flatMap Ch.cells)) (hhi : hi ≤ w.heap.size)
    (hin : ∀ x ∈ c.ws, x.In) (hf : ∀ p ∈ c.ps, p.ts.length ≤ 1000 ∧ p.ss.length ≤ 1000 ∧ p.ds.length ≤ 1000) (hp2 : pn ≤ 1000) :
    Calls Try.prog 21 #[.agg #[.int .i64 fr, .int .i64 mg, .slice wa wn wc, .slice pa pn pc, .slice ca cn cc]] w fun e w' => e = .returned (.tuple #[.int .i64 (checkV c).1, .int .i64 (checkV c).2]) ∧ Below w.heap.size w w' := by
  obtain ⟨V, hV⟩ : ∃ V, V = w.alloc (.cells #[.int .i64 fr, .int .i64 mg, .slice wa wn wc, .slice pa pn pc, .slice ca cn cc] 26) := ⟨_, rfl⟩
  have B1 : Below w.heap.size w V := by rw [hV]; exact below1 _ _
  have hblk : V.heap[w.heap.size]? = some (.cells #[.int .i64 fr, .int .i64 mg, .slice wa wn wc, .slice pa pn pc, .slice ca cn cc] 26 (0, 0)) := by rw [hV]; exact heap_alloc_new _ _
  have hlt0 := lt_of_block hblk
  have hhv : hi ≤ V.heap.size := by omega
  have ks : ∀ W : World, Below V.heap.size V W → (Below V.heap.size V W ∧ W.cell? ⟨w.heap.size, 0, none⟩ = some (.int .i64 fr) ∧ W.cell? ⟨w.heap.size, 1, none⟩ = some (.int .i64 mg) ∧ W.cell? ⟨w.heap.size, 2, none⟩ = some (.slice wa wn wc) ∧ W.cell? ⟨w.heap.size, 3, none⟩ = some (.slice pa pn pc) ∧ W.cell? ⟨w.heap.size, 4, none⟩ = some (.slice ca cn cc)) := by
    intro W g
    have q := fun (i : Nat) (u : Value) hu => (g.cell (p := ⟨w.heap.size, i, none⟩) hlt0).trans (cell_in (j := i) (u := u) hblk hu)
    exact ⟨g, q 0 _ rfl, q 1 _ rfl, q 2 _ rfl, q 3 _ rfl, q 4 _ rfl⟩
  have hlen := hal.length
  have KS := Lib.hid ks; have HBK := Lib.hid hblk; have HB1 := Lib.hid B1; have HV := Lib.hid hV
  have HWN := Lib.hid hwn; have HPN := Lib.hid hpn; have HCN := Lib.hid hcn; have HLEN := Lib.hid hlen
  have HP := Lib.hid (hps.keep (SameIn.of_below B1 hhi)); have HAL := Lib.hid (hal.keep (SameIn.of_below B1 hhi)); have HC := Lib.hid (hcs.keep (SameIn.of_below B1 hhi)); have HFW := Lib.hid hf
  have cw : 1 ≤ fr → fr ≤ 256 → Calls Try.prog 33 #[.agg #[.int .i64 fr, .int .i64 mg, .slice wa wn wc, .slice pa pn pc, .slice ca cn cc]] V fun e w' => e = .returned (.int .i64 (orNo (winV fr pn c.ws))) ∧ Below V.heap.size V w' := fun f1 f2 => refWindows_any fr mg wa pa ca wn wc pn pc cn cc V lo hi c.ws hwn (hws.keep (SameIn.of_below B1 hhi)) hhv hin f1 f2
  have CW := Lib.hid cw; have HFR := Lib.hid hfr; have HMG := Lib.hid hmg
  clear hws hps hal hcs hin hwn hpn hcn hlen hblk B1 hV ks cw hf hfr hmg
  rcases (show fr < 1 ∨ (1 ≤ fr ∧ 256 < fr) ∨ (1 ≤ fr ∧ fr ≤ 256 ∧ mg < 0) ∨ (1 ≤ fr ∧ fr ≤ 256 ∧ 0 ≤ mg ∧ 8 < mg) ∨ (1 ≤ fr ∧ fr ≤ 256 ∧ 0 ≤ mg ∧ mg ≤ 8) from by omega) with h | ⟨h, h2⟩ | ⟨h, h2, h3⟩ | ⟨h, h2, h3, h4⟩ | ⟨h, h2, h3, h4⟩
  case inr.inr.inr.inr =>
    have hfo : frameOk c.frame c.margin = true := by rw [HFR.out, HMG.out]; exact decide_eq_true ⟨h, h2, h3, h4⟩
    rcases (show pn < 1 ∨ (1 ≤ pn ∧ 6 < pn) ∨ (1 ≤ pn ∧ pn ≤ 6) from by omega) with g | ⟨g, g2⟩ | ⟨g, g2⟩
    · have HR := Lib.hid (cv_parts hfo (by rw [HPN.out]; omega))
      clear hfo
      go_enter Try.func21, Try.ntmps21
      go_wp2_with fail
      go_ret2
      exact ⟨ret_pair HR.out, below1 _ _⟩
    · have HR := Lib.hid (cv_parts hfo (by rw [HPN.out]; omega))
      clear hfo
      go_enter Try.func21, Try.ntmps21
      go_wp2_with fail
      go_ret2
      exact ⟨ret_pair HR.out, below1 _ _⟩
    have hpo : ¬ (c.ps.length < 1 ∨ 6 < c.ps.length) := by rw [HPN.out]; omega
    have HFO := Lib.hid hfo; have HPO := Lib.hid hpo
    clear hfo hpo
    cases hw : winV fr pn c.ws with
    | some n =>
      have HR := Lib.hid (cv_win HFO.out HPO.out (by rw [HFR.out, HPN.out]; exact hw))
      have HW : Hid (orNo (winV fr pn c.ws) = (n : Int)) := Lib.hid (by rw [hw]; rfl)
      have t1 : decide ((0 : Int) ≤ (n : Int)) = true := by simp
      clear hw
      go_enter Try.func21, Try.ntmps21
      go_wp2_with (first | (go_at_call 33; rw [← HV.out]; refine (CW.out h h2).mono ?_; rintro e w1 ⟨rfl, hb1⟩; rw [HW.out]))
      go_ret2
      exact ⟨ret_pair HR.out, HB1.out.trans (hb1.mono HB1.out.size)⟩
    | none =>
      have hwn0 : winV c.frame c.ps.length c.ws = none := by rw [HFR.out, HPN.out]; exact hw
      have HWN0 := Lib.hid hwn0
      have HW : Hid (orNo (winV fr pn c.ws) = -1) := Lib.hid (by rw [hw]; rfl)
      clear hw hwn0
      go_enter Try.func21, Try.ntmps21
      go_wp2_with (first | (go_at_call 33; rw [← HV.out]; refine (CW.out h h2).mono ?_; rintro e w1 ⟨rfl, hb1⟩; rw [HW.out]))
      go_loopw [5] (fun i wr => ∃ k : Nat, k ≤ pn ∧ i = .int .i64 k ∧ Hid (badP c.ps.length c.ps 0 = badP c.ps.length (c.ps.drop k) k) ∧ Below V.heap.size V wr) (fun i _ => pn - (intOf i).toNat)
      case atStart => exact ⟨0, by omega, rfl, Lib.hid rfl, hb1⟩
      case round =>
        obtain ⟨k, hk, rfl, HA, hb⟩ := hrel
        obtain ⟨_, y0, y1, y2, y3, y4⟩ := KS.out _ hb
        by_cases hlt : k < pn
        · have tk : decide ((k : Int) < (pn : Int)) = true := by simpa using hlt
          obtain ⟨p, hx⟩ : ∃ x, c.ps[k]? = some x := ⟨_, List.getElem?_eq_getElem (by rw [HPN.out]; exact hlt)⟩
          obtain ⟨pv, hpv⟩ : ∃ x, pvs[k]? = some x := ⟨_, List.getElem?_eq_getElem (by rw [HLEN.out, HPN.out]; exact hlt)⟩
          have hpl := (HAL.out.keep (SameIn.of_below hb hhv)).at hpv hx
          obtain ⟨ta, sa, da, tc, sc, dc, e1, e2, e3⟩ := hpl.slices
          obtain ⟨a2, c2, ee, _, _, hc⟩ := HP.out.keep (SameIn.of_below hb hhv)
          cases ee
          rcases hc with h0 | ⟨b, off, rfl, hb1x, hb2, hc⟩
          · omega
          have hbl : b < V.heap.size := by omega
          have hd := dropp hx
          have ks : ∀ W : World, Below wr.heap.size wr W → (Below V.heap.size V W ∧ W.cell? ⟨w.heap.size, 0, none⟩ = some (.int .i64 fr) ∧ W.cell? ⟨w.heap.size, 1, none⟩ = some (.int .i64 mg) ∧ W.cell? ⟨w.heap.size, 2, none⟩ = some (.slice wa wn wc) ∧ W.cell? ⟨w.heap.size, 3, none⟩ = some (.slice (some ⟨b, off, none⟩) pn pc) ∧ W.cell? ⟨w.heap.size, 4, none⟩ = some (.slice ca cn cc) ∧ W.cell? ⟨b, off + k * 6 + 2, none⟩ = some (.slice da p.ds.length dc)) := by
            intro W g
            obtain ⟨z, z0, z1, z2, z3, z4⟩ := KS.out _ (hb.trans (g.mono hb.size))
            obtain ⟨s0, s1, s2, s3, s4, s5⟩ := Lies.pv hc hpv
            rw [e3] at s2
            exact ⟨z, z0, z1, z2, z3, z4, (g.cell (p := ⟨b, off + k * 6 + 2, none⟩) (by have := hb.size; show b < _; omega)).trans s2⟩
          obtain ⟨s0, s1, s2, s3, s4, s5⟩ := Lies.pv hc hpv
          obtain ⟨q1, q2, q3, q4, q5, q6⟩ := hpl
          obtain ⟨v0, v1, v2, v3, v4, v5⟩ := pv
          simp only at e1 e2 e3 s0 s1 s2 s3 s4 s5 q1 q2 q3 q4 q5 q6
          subst e1; subst e2; subst e3; subst q4; subst q5; subst q6
          obtain ⟨n1, n2, n3⟩ := HFW.out p (List.mem_of_getElem? hx)
          have cr : Calls Try.prog 34 #[.agg #[.slice ta p.ts.length tc, .slice sa p.ss.length sc, .slice da p.ds.length dc, .int .u8 p.a0, .int .u8 p.a1, .int .u8 p.a2]] wr fun e w' => e = .returned (.int .i64 (wrongOf p.ts p.ss p.a0 p.a1 p.a2)) ∧ Below wr.heap.size wr w' :=
            refRights_any _ _ _ _ _ _ _ _ _ _ _ _ wr lo hi p.ts p.ss rfl rfl q1 q2 (by have := hb.size; omega) n1 n2
          have cn2 : ∀ W : World, Below wr.heap.size wr W → Calls Try.prog 35 #[.agg #[.int .i64 fr, .int .i64 mg, .slice wa wn wc, .slice (some ⟨b, off, none⟩) pn pc, .slice ca cn cc], .int .i64 k, .slice da p.ds.length dc] W fun e w' => e = .returned (.bool (namesB pn k p.ds)) ∧ Below W.heap.size W w' := fun W g =>
            refNames_any _ _ _ _ _ _ _ _ _ _ _ _ _ _ _ W lo hi p.ds rfl (q3.keep (SameIn.of_below g (by have := hb.size; omega))) (by have := hb.size; have := g.size; omega) n3
          have CR := Lib.hid cr; have CN := Lib.hid cn2; have KP := Lib.hid ks; have HBB := Lib.hid hb; have HD := Lib.hid hd; have HBX := Lib.hid hb1
          have l0 : (0 : Int) ≤ (k : Int) := by omega
          have l1 : (k : Int) < (pn : Int) := by omega
          clear cr cn2 ks hc hx hpv q1 q2 q3 hd hb hb1 n1 n2 n3 hb1x
          by_cases hz : wrongOf p.ts p.ss p.a0 p.a1 p.a2 = 0
          · cases hn : namesB pn (k : Int) p.ds with
            | false =>
              have HR := Lib.hid (cv_part HFO.out HPO.out HWN0.out (by rw [HA.out, HD.out]; exact badP_names hz (by rw [HPN.out]; exact hn)))
              have HZ := Lib.hid hz; have HN := Lib.hid hn; clear hz hn
              go_wp2_with (first | (go_at_call 34; refine CR.out.mono ?_; rintro e w2 ⟨rfl, hb3⟩; rw [HZ.out]))
              obtain ⟨_, k0, k1, k2, k3, k4, k5⟩ := KP.out _ hb3
              go_region_held3 (fun W => Below V.heap.size V W ∧ W.cell? ⟨w.heap.size, 0, none⟩ = some (.int .i64 fr) ∧ W.cell? ⟨w.heap.size, 1, none⟩ = some (.int .i64 mg) ∧ W.cell? ⟨w.heap.size, 2, none⟩ = some (.slice wa wn wc) ∧ W.cell? ⟨w.heap.size, 3, none⟩ = some (.slice (some ⟨b, off, none⟩) pn pc) ∧ W.cell? ⟨w.heap.size, 4, none⟩ = some (.slice ca cn cc) ∧ W.cell? ⟨b, off + k * 6 + 2, none⟩ = some (.slice da p.ds.length dc))
                (first | exact KP.out _ (hb3.drew) | exact KP.out _ (by assumption))
                (first | (go_at_call 35; refine (CN.out _ (by first | exact hb3 | exact hb3.drew)).mono ?_; rintro e w3 ⟨rfl, hb4⟩; rw [HN.out]; have hbn : Below wr.heap.size wr w3 := (by first | exact bel_then hb3 (Nat.le_refl _) hb4 | exact bel_then hb3.drew (Nat.le_refl _) hb4)))
              go_wp2_with fail
              go_ret2
              exact ⟨ret_pair HR.out, HB1.out.trans ((HBB.out.trans (hbn.mono HBB.out.size)).mono HB1.out.size)⟩
            | true =>
              have HNX : Hid (badP c.ps.length c.ps 0 = badP c.ps.length (c.ps.drop (k + 1)) (k + 1)) := Lib.hid (by rw [HA.out, HD.out]; exact badP_next hz (by rw [HPN.out]; exact hn))
              have HZ := Lib.hid hz; have HN := Lib.hid hn; clear hz hn
              go_wp2_with (first | (go_at_call 34; refine CR.out.mono ?_; rintro e w2 ⟨rfl, hb3⟩; rw [HZ.out]))
              obtain ⟨_, k0, k1, k2, k3, k4, k5⟩ := KP.out _ hb3
              go_region_held3 (fun W => Below V.heap.size V W ∧ W.cell? ⟨w.heap.size, 0, none⟩ = some (.int .i64 fr) ∧ W.cell? ⟨w.heap.size, 1, none⟩ = some (.int .i64 mg) ∧ W.cell? ⟨w.heap.size, 2, none⟩ = some (.slice wa wn wc) ∧ W.cell? ⟨w.heap.size, 3, none⟩ = some (.slice (some ⟨b, off, none⟩) pn pc) ∧ W.cell? ⟨w.heap.size, 4, none⟩ = some (.slice ca cn cc) ∧ W.cell? ⟨b, off + k * 6 + 2, none⟩ = some (.slice da p.ds.length dc))
                (first | exact KP.out _ (hb3.drew) | exact KP.out _ (by assumption))
                (first | (go_at_call 35; refine (CN.out _ (by first | exact hb3 | exact hb3.drew)).mono ?_; rintro e w3 ⟨rfl, hb4⟩; rw [HN.out]; have hbn : Below wr.heap.size wr w3 := (by first | exact bel_then hb3 (Nat.le_refl _) hb4 | exact bel_then hb3.drew (Nat.le_refl _) hb4)))
              go_wp2_with fail
              go_roundw
              case rel => exact ⟨k + 1, by omega, by go_num, HNX, HBB.out.trans (hbn.mono HBB.out.size)⟩
              case measure => simp [intOf]; omega
          · have HR := Lib.hid (cv_part HFO.out HPO.out HWN0.out (by rw [HA.out, HD.out]; exact badP_wrong hz))
            have t1 : decide (wrongOf p.ts p.ss p.a0 p.a1 p.a2 = 0) = false := by simpa using hz
            have t2 : (wrongOf p.ts p.ss p.a0 p.a1 p.a2 == 0) = false := by simpa using hz
            go_wp2_with (first | (go_at_call 34; refine CR.out.mono ?_; rintro e w2 ⟨rfl, hb3⟩))
            go_ret2
            exact ⟨ret_pair HR.out, HB1.out.trans ((HBB.out.trans (hb3.mono HBB.out.size)).mono HB1.out.size)⟩
        · have tk : decide ((k : Int) < (pn : Int)) = false := by simp; omega
          have HPX : Hid (badP c.ps.length c.ps 0 = none) := Lib.hid (by rw [HA.out, List.drop_of_length_le (by rw [HPN.out]; omega)]; rfl)
          have HBB := Lib.hid hb; have HBX := Lib.hid hb1
          clear HA HP HAL hb1
          by_cases hbig : 8 < cn
          · have t2 : decide ((8 : Int) < (cn : Int)) = true := by simp; omega
            have HR := Lib.hid (cv_chan HFO.out HPO.out HWN0.out HPX.out (k := 8) (by unfold chanV; rw [if_pos (by rw [HCN.out]; exact hbig)]))
            clear hb
            go_wp2_with fail
            go_ret2
            exact ⟨ret_pair HR.out, HB1.out.trans (HBB.out.mono HB1.out.size)⟩
          have t2 : decide ((8 : Int) < (cn : Int)) = false := by simp; omega
          have HCV : Hid (chanV c.ps.length c.cs = badC c.ps.length c.cs 0) := Lib.hid (by unfold chanV; rw [if_neg (by rw [HCN.out]; exact hbig)])
          go_wp2_with fail
          go_loopw [7] (fun i wr => ∃ m : Nat, m ≤ cn ∧ i = .int .i64 m ∧ Hid (badC c.ps.length c.cs 0 = badC c.ps.length (c.cs.drop m) m) ∧ Below V.heap.size V wr) (fun i _ => cn - (intOf i).toNat)
          case atStart => exact ⟨0, by omega, rfl, Lib.hid rfl, hb⟩
          case round =>
            clear hb y0 y1 y2 y3 y4
            obtain ⟨m, hm, rfl, HA, hb⟩ := hrel
            obtain ⟨_, y0, y1, y2, y3, y4⟩ := KS.out _ hb
            by_cases hlt2 : m < cn
            · have tm : decide ((m : Int) < (cn : Int)) = true := by simpa using hlt2
              obtain ⟨x, hx⟩ : ∃ x, c.cs[m]? = some x := ⟨_, List.getElem?_eq_getElem (by rw [HCN.out]; exact hlt2)⟩
              obtain ⟨a2, c2, ee, _, _, hc⟩ := HC.out.keep (SameIn.of_below hb hhv)
              cases ee
              rcases hc with h0 | ⟨b, off, rfl, hb1x, hb2, hc⟩
              · omega
              have hbl : b < V.heap.size := by omega
              have hd := dropp hx
              obtain ⟨s0, s1, s2, s3⟩ := Lies.ch hc hx
              obtain ⟨x0, x1, x2, x3⟩ := x
              simp only at s0 s1 s2 s3
              have hbs := hb.size
              have ks : ∀ W : World, Below wr.heap.size wr W → (Below V.heap.size V W ∧ W.cell? ⟨w.heap.size, 0, none⟩ = some (.int .i64 fr) ∧ W.cell? ⟨w.heap.size, 1, none⟩ = some (.int .i64 mg) ∧ W.cell? ⟨w.heap.size, 2, none⟩ = some (.slice wa wn wc) ∧ W.cell? ⟨w.heap.size, 3, none⟩ = some (.slice pa pn pc) ∧ W.cell? ⟨w.heap.size, 4, none⟩ = some (.slice (some ⟨b, off, none⟩) cn cc) ∧ W.cell? ⟨b, off + m * 4, none⟩ = some (.bool x0) ∧ W.cell? ⟨b, off + m * 4 + 1, none⟩ = some (.int .i64 x1) ∧ W.cell? ⟨b, off + m * 4 + 2, none⟩ = some (.int .i64 x2) ∧ W.cell? ⟨b, off + m * 4 + 3, none⟩ = some (.int .i64 x3)) := by
                intro W g
                obtain ⟨z, z0, z1, z2, z3, z4⟩ := KS.out _ (hb.trans (g.mono hb.size))
                have q := fun (j : Nat) => g.cell (p := ⟨b, j, none⟩) (by show b < _; omega)
                exact ⟨z, z0, z1, z2, z3, z4, (q _).trans s0, (q _).trans s1, (q _).trans s2, (q _).trans s3⟩
              have CC := Lib.hid (fun W => refChannel_any fr mg wa pa (some ⟨b, off, none⟩) wn wc pn pc cn cc x0 x1 x2 x3 W)
              have KC := Lib.hid ks; have HBM := Lib.hid hb; have HD := Lib.hid hd
              have l0 : (0 : Int) ≤ (m : Int) := by omega
              have l1 : (m : Int) < (cn : Int) := by omega
              clear ks hc hx hd hb hb1x
              cases hn : okCh pn ⟨x0, x1, x2, x3⟩ with
              | false =>
                have HR := Lib.hid (cv_chan HFO.out HPO.out HWN0.out HPX.out (by rw [HCV.out, HA.out, HD.out]; exact badC_stop (by rw [HPN.out]; exact hn)))
                have HN := Lib.hid hn; clear hn
                go_wp2_with fail
                go_region_held3 (fun W => Below V.heap.size V W ∧ W.cell? ⟨w.heap.size, 0, none⟩ = some (.int .i64 fr) ∧ W.cell? ⟨w.heap.size, 1, none⟩ = some (.int .i64 mg) ∧ W.cell? ⟨w.heap.size, 2, none⟩ = some (.slice wa wn wc) ∧ W.cell? ⟨w.heap.size, 3, none⟩ = some (.slice pa pn pc) ∧ W.cell? ⟨w.heap.size, 4, none⟩ = some (.slice (some ⟨b, off, none⟩) cn cc) ∧ W.cell? ⟨b, off + m * 4, none⟩ = some (.bool x0) ∧ W.cell? ⟨b, off + m * 4 + 1, none⟩ = some (.int .i64 x1) ∧ W.cell? ⟨b, off + m * 4 + 2, none⟩ = some (.int .i64 x2) ∧ W.cell? ⟨b, off + m * 4 + 3, none⟩ = some (.int .i64 x3))
                  (first | exact KC.out _ ((Below.refl _ _).drew) | exact KC.out _ (by assumption))
                  (first | (go_at_call 36; refine (CC.out _).mono ?_; rintro e w3 ⟨rfl, hb4⟩; rw [HN.out]; have hbn : Below wr.heap.size wr w3 := (by first | exact bel_then (Below.refl _ _) (Nat.le_refl _) hb4 | exact bel_then (Below.refl _ _).drew (Nat.le_refl _) hb4)))
                go_wp2_with fail
                go_ret2
                exact ⟨ret_pair HR.out, HB1.out.trans ((HBM.out.trans (hbn.mono HBM.out.size)).mono HB1.out.size)⟩
              | true =>
                have HNX : Hid (badC c.ps.length c.cs 0 = badC c.ps.length (c.cs.drop (m + 1)) (m + 1)) := Lib.hid (by rw [HA.out, HD.out]; exact badC_next (by rw [HPN.out]; exact hn))
                have HN := Lib.hid hn; clear hn
                go_wp2_with fail
                go_region_held3 (fun W => Below V.heap.size V W ∧ W.cell? ⟨w.heap.size, 0, none⟩ = some (.int .i64 fr) ∧ W.cell? ⟨w.heap.size, 1, none⟩ = some (.int .i64 mg) ∧ W.cell? ⟨w.heap.size, 2, none⟩ = some (.slice wa wn wc) ∧ W.cell? ⟨w.heap.size, 3, none⟩ = some (.slice pa pn pc) ∧ W.cell? ⟨w.heap.size, 4, none⟩ = some (.slice (some ⟨b, off, none⟩) cn cc) ∧ W.cell? ⟨b, off + m * 4, none⟩ = some (.bool x0) ∧ W.cell? ⟨b, off + m * 4 + 1, none⟩ = some (.int .i64 x1) ∧ W.cell? ⟨b, off + m * 4 + 2, none⟩ = some (.int .i64 x2) ∧ W.cell? ⟨b, off + m * 4 + 3, none⟩ = some (.int .i64 x3))
                  (first | exact KC.out _ ((Below.refl _ _).drew) | exact KC.out _ (by assumption))
                  (first | (go_at_call 36; refine (CC.out _).mono ?_; rintro e w3 ⟨rfl, hb4⟩; rw [HN.out]; have hbn : Below wr.heap.size wr w3 := (by first | exact bel_then (Below.refl _ _) (Nat.le_refl _) hb4 | exact bel_then (Below.refl _ _).drew (Nat.le_refl _) hb4)))
                go_wp2_with fail
                go_roundw
                case rel => exact ⟨m + 1, by omega, by go_num, HNX, HBM.out.trans (hbn.mono HBM.out.size)⟩
                case measure => simp [intOf]; omega
            · have tm : decide ((m : Int) < (cn : Int)) = false := by simp; omega
              have HR := Lib.hid (cv_ok HFO.out HPO.out HWN0.out HPX.out (by rw [HCV.out, HA.out, List.drop_of_length_le (by rw [HCN.out]; omega)]; rfl))
              go_wp2_with fail
              go_ret2
              exact ⟨ret_pair HR.out, HB1.out.trans (hb.mono HB1.out.size)⟩
  all_goals
    (have HR := Lib.hid (cv_frame (c := c) (by rw [HFR.out, HMG.out]; exact decide_eq_false (by omega)))
     go_enter Try.func21, Try.ntmps21
     go_wp2_with fail
     go_ret2
     exact ⟨ret_pair HR.out, below1 _ _⟩)
theorem refCheck_sys {w : World} {hi : Nat} {c : Cf} {pvs : List Pv} {wa pa ca : Option Addr} {wc pc cc : Nat} (f : Few c) (h : SysL w hi c pvs wa pa ca wc pc cc) (hh : hi ≤ w.heap.size) (hin : ∀ x ∈ c.ws, x.In) :
    Calls Try.prog 21 #[.agg #[.int .i64 c.frame, .int .i64 c.margin, .slice wa c.ws.length wc, .slice pa c.ps.length pc, .slice ca c.cs.length cc]] w fun e w' => e = .returned (.tuple #[.int .i64 (checkV c).1, .int .i64 (checkV c).2]) ∧ Below w.heap.size w w' :=
  refCheck_any c.frame c.margin wa pa ca _ wc _ pc _ cc w 0 hi c pvs rfl rfl rfl rfl rfl h.l1 h.l2 h.l3 h.l4 hh hin f.2.2.2 f.2.1
end Go.Proofs.Ytmkohnpdpcefgaa
