/- The document's own looks at windows, and at a channel. -/
import Derived.Test.YtiojmekoemlmkaaValidM
import Derived.Test.YtiojmekoemlmkaaConfO
import Derived.Test.YtiojmekoemlmkaaFrameG
import Derived.Test.YtiojmekoemlmkaaReadA
namespace Go.Proofs.Ytiojmekoemlmkaa
open Go.ChangeShapes Go.WideShapes Go.ChangeAt Go.RowKit
set_option linter.unusedVariables false

def orNo (o : Option Nat) : Int := match o with
  | none => -1
  | some k => (k : Int)
theorem bel_next2 {w w2 : World} {o : Obj} (h : Below (w.alloc o).heap.size (w.alloc o) w2) : Below w.heap.size w w2 := (below1 w o).trans (h.mono (below1 w o).size)
theorem badW_step {F a : Int} {pn i : Nat} {x : Wn} {l : List Wn} (h : okWn F a pn x = true) : badW F pn a (x :: l) i = badW F pn (x.at_ + x.len) l (i + 1) := by rw [badW, if_pos h]
theorem badW_stop {F a : Int} {pn i : Nat} {x : Wn} {l : List Wn} (h : okWn F a pn x = false) : badW F pn a (x :: l) i = some i := by rw [badW, if_neg (by simp [h])]
set_option maxRecDepth 100000 in
set_option maxHeartbeats 4000000 in
theorem refWindows_any (fr mg : Int) (wa pa ca : Option Addr) (wn wc pn pc cn cc : Nat) (w : World) (lo hi : Nat) (l : List Wn) (hln : l.length = wn) (hl : Lies w lo hi (.slice wa wn wc) wn 3 (l.flatMap Wn.cells)) (hhi : hi ≤ w.heap.size) (hin : ∀ x ∈ l, x.In) (f1 : 1 ≤ fr) (f2 : fr ≤ 256) :
    Calls Try.prog 28 #[.agg #[.int .i64 fr, .int .i64 mg, .slice wa wn wc, .slice pa pn pc, .slice ca cn cc]] w fun e w' => e = .returned (.int .i64 (orNo (winV fr pn l))) ∧ Below w.heap.size w w' := by
  obtain ⟨V, hV⟩ : ∃ V, V = w.alloc (.cells #[.int .i64 fr, .int .i64 mg, .slice wa wn wc, .slice pa pn pc, .slice ca cn cc] 26) := ⟨_, rfl⟩
  have B1 : Below w.heap.size w V := by rw [hV]; exact below1 _ _
  have hblk : V.heap[w.heap.size]? = some (.cells #[.int .i64 fr, .int .i64 mg, .slice wa wn wc, .slice pa pn pc, .slice ca cn cc] 26 (0, 0)) := by rw [hV]; exact heap_alloc_new _ _
  have hlt0 := lt_of_block hblk
  have HL := Lib.hid (hl.keep (SameIn.of_below B1 hhi)); have HLN := Lib.hid hln; have HIN := Lib.hid hin
  have hhv : hi ≤ V.heap.size := by omega
  have HBK := Lib.hid hblk; have HB1 := Lib.hid B1; have HV := Lib.hid hV
  clear hl hln hin hblk B1 hV
  by_cases hbig : 32 < wn
  · have t1 : decide (32 < (wn : Int)) = true := by simp; omega
    have HR : Hid (winV fr pn l = some 32) := Lib.hid (by unfold winV; rw [if_pos (by rw [HLN.out]; exact hbig)])
    go_enter Try.func28, Try.ntmps28
    go_wp2_with fail
    go_ret
    exact ⟨by rw [HR.out]; rfl, below1 _ _⟩
  have t1 : decide (32 < (wn : Int)) = false := by simp; omega
  have HR : Hid (winV fr pn l = badW fr pn 0 l 0) := Lib.hid (by unfold winV; rw [if_neg (by rw [HLN.out]; exact hbig)])
  go_enter Try.func28, Try.ntmps28
  go_wp2_with fail
  go_loopw [3, 4] (fun s i wr => ∃ (k : Nat) (z : Int), k ≤ wn ∧ i = .int .i64 k ∧ s = .int .i64 z ∧ 0 ≤ z ∧ z ≤ fr ∧ Hid (badW fr pn 0 l 0 = badW fr pn z (l.drop k) k) ∧ Below V.heap.size V wr) (fun _ i _ => wn - (intOf i).toNat)
  case atStart => exact ⟨0, 0, by omega, rfl, rfl, by omega, by omega, Lib.hid rfl, by rw [HV.out]; exact Below.refl _ _⟩
  case round =>
    obtain ⟨k, z, hk, rfl, rfl, r0, r1, HA, hb⟩ := hrel
    have y0 : wr.cell? ⟨w.heap.size, 0, none⟩ = some (.int .i64 fr) := (hb.cell hlt0).trans (cell_in HBK.out rfl)
    have y1 : wr.cell? ⟨w.heap.size, 1, none⟩ = some (.int .i64 mg) := (hb.cell hlt0).trans (cell_in HBK.out rfl)
    have y2 : wr.cell? ⟨w.heap.size, 2, none⟩ = some (.slice wa wn wc) := (hb.cell hlt0).trans (cell_in HBK.out rfl)
    have y3 : wr.cell? ⟨w.heap.size, 3, none⟩ = some (.slice pa pn pc) := (hb.cell hlt0).trans (cell_in HBK.out rfl)
    have y4 : wr.cell? ⟨w.heap.size, 4, none⟩ = some (.slice ca cn cc) := (hb.cell hlt0).trans (cell_in HBK.out rfl)
    have hwr : w.heap.size < wr.heap.size := by have := hb.size; omega
    by_cases hlt : k < wn
    · have tk : decide ((k : Int) < (wn : Int)) = true := by simpa using hlt
      obtain ⟨x, hx⟩ : ∃ x, l[k]? = some x := ⟨_, List.getElem?_eq_getElem (by rw [HLN.out]; exact hlt)⟩
      have hlies := HL.out.keep (SameIn.of_below hb hhv)
      obtain ⟨a2, c2, e2, _, _, hc⟩ := hlies
      cases e2
      rcases hc with h0 | ⟨b, off, rfl, hb1, hb2, hc⟩
      · omega
      obtain ⟨s0, s1, s2⟩ := Lies.wn hc hx
      have q := HIN.out x (List.mem_of_getElem? hx)
      have hd := drop_cons hx
      have l0 : (0 : Int) ≤ (k : Int) := by omega
      have l1 : (k : Int) < (wn : Int) := by omega
      obtain ⟨xa, xn, xp⟩ := x
      simp only at s0 s1 s2 q
      obtain ⟨⟨q1, q2⟩, ⟨q3, q4⟩, ⟨q5, q6⟩⟩ := q
      simp only at q1 q2 q3 q4 q5 q6
      have p0 : ∀ o, (wr.alloc o).cell? ⟨w.heap.size, 0, none⟩ = some (.int .i64 fr) := fun o => by rw [World.cell?_alloc_lt _ _ _ hwr]; exact y0
      have p1 : ∀ o, (wr.alloc o).cell? ⟨w.heap.size, 1, none⟩ = some (.int .i64 mg) := fun o => by rw [World.cell?_alloc_lt _ _ _ hwr]; exact y1
      have p2 : ∀ o, (wr.alloc o).cell? ⟨w.heap.size, 2, none⟩ = some (.slice (some ⟨b, off, none⟩) wn wc) := fun o => by rw [World.cell?_alloc_lt _ _ _ hwr]; exact y2
      have p3 : ∀ o, (wr.alloc o).cell? ⟨w.heap.size, 3, none⟩ = some (.slice pa pn pc) := fun o => by rw [World.cell?_alloc_lt _ _ _ hwr]; exact y3
      have p4 : ∀ o, (wr.alloc o).cell? ⟨w.heap.size, 4, none⟩ = some (.slice ca cn cc) := fun o => by rw [World.cell?_alloc_lt _ _ _ hwr]; exact y4
      have HBB := Lib.hid hb
      have HD := Lib.hid hd
      clear hc hx hb hd
      rcases (show xa < z ∨ (z ≤ xa ∧ fr ≤ xa) ∨ (z ≤ xa ∧ xa < fr ∧ xn < 1) ∨ (z ≤ xa ∧ xa < fr ∧ 1 ≤ xn ∧ fr - xa < xn) ∨ (z ≤ xa ∧ xa < fr ∧ 1 ≤ xn ∧ xn ≤ fr - xa) from by omega) with g | ⟨g, g3⟩ | ⟨g, g3, g4⟩ | ⟨g, g3, g4, g5⟩ | ⟨g, g3, g4, g5⟩
      case inr.inr.inr.inr =>
        have s1 : IntKind.i64.wrap (fr - xa) = fr - xa := IntWalk.i64_in _ (by omega)
        have s3 : IntKind.i64.wrap (xa + xn) = xa + xn := IntWalk.i64_in _ (by omega)
        have CH := Lib.hid (fun W => refHas_any fr mg xp (some ⟨b, off, none⟩) pa ca wn wc pn pc cn cc W)
        cases hp : hasB pn xp with
        | false =>
          have HN : Hid (badW fr pn 0 l 0 = some k) := Lib.hid (by rw [HA.out, HD.out]; exact badW_stop (by have := hasB_false hp; unfold okWn; simp; omega))
          have HP := Lib.hid hp; clear hp
          go_wp2_with (first | (go_at_call 53; refine (CH.out _).mono ?_; rintro e w2 ⟨rfl, hb2⟩; rw [HP.out]))
          go_ret
          exact ⟨by rw [HR.out, HN.out]; rfl, HB1.out.trans ((HBB.out.trans ((bel_next2 hb2).mono HBB.out.size)).mono HB1.out.size)⟩
        | true =>
          have HN : Hid (badW fr pn 0 l 0 = badW fr pn (xa + xn) (l.drop (k + 1)) (k + 1)) := Lib.hid (by rw [HA.out, HD.out]; exact badW_step (by have := hasB_true hp; unfold okWn; simp; omega))
          have HP := Lib.hid hp; clear hp
          go_wp2_with (first | (go_at_call 53; refine (CH.out _).mono ?_; rintro e w2 ⟨rfl, hb2⟩; rw [HP.out]; have q0 := (hb2.cell (p := ⟨wr.heap.size, 0, none⟩) (by simp)).trans (cell_in (heap_alloc_new _ _) rfl); have q1 := (hb2.cell (p := ⟨wr.heap.size, 1, none⟩) (by simp)).trans (cell_in (heap_alloc_new _ _) rfl)))
          go_roundw
          case rel => exact ⟨k + 1, xa + xn, by omega, by go_num, by go_num, by omega, by omega, HN, HBB.out.trans ((bel_next2 hb2).mono HBB.out.size)⟩
          case measure => simp [intOf]; omega
      all_goals
        (have s1 : z ≤ xa → IntKind.i64.wrap (fr - xa) = fr - xa := fun _ => IntWalk.i64_in _ (by omega)
         have HN : Hid (badW fr pn 0 l 0 = some k) := Lib.hid (by rw [HA.out, HD.out]; exact badW_stop (by unfold okWn; simp; omega))
         try have s2 := s1 (by omega)
         clear s1
         go_wp2_with fail
         go_ret
         exact ⟨by rw [HR.out, HN.out]; rfl, HB1.out.trans ((HBB.out.trans ((below1 _ _).mono HBB.out.size)).mono HB1.out.size)⟩)
    · have tk : decide ((k : Int) < (wn : Int)) = false := by simp; omega
      have HE : Hid (badW fr pn 0 l 0 = none) := Lib.hid (by rw [HA.out, List.drop_of_length_le (by rw [HLN.out]; omega)]; rfl)
      go_wp2_with fail
      go_ret
      exact ⟨by rw [HR.out, HE.out]; rfl, HB1.out.trans (hb.mono HB1.out.size)⟩
set_option maxRecDepth 100000 in
set_option maxHeartbeats 4000000 in
theorem refChannel_any (fr mg : Int) (wa pa ca : Option Addr) (wn wc pn pc cn cc : Nat) (q : Bool) (a b s : Int) (w : World) :
    Calls Try.prog 31 #[.agg #[.int .i64 fr, .int .i64 mg, .slice wa wn wc, .slice pa pn pc, .slice ca cn cc], .agg #[.bool q, .int .i64 a, .int .i64 b, .int .i64 s]] w fun e w' => e = .returned (.bool (okCh pn ⟨q, a, b, s⟩)) ∧ Below w.heap.size w w' := by
  obtain ⟨V, hV⟩ : ∃ V, V = ((w.alloc (.cells #[.int .i64 fr, .int .i64 mg, .slice wa wn wc, .slice pa pn pc, .slice ca cn cc] 26)).alloc (.cells #[.bool q, .int .i64 a, .int .i64 b, .int .i64 s] 73)) := ⟨_, rfl⟩
  have B1 : Below w.heap.size w V := by rw [hV]; exact b_alloc (below1 _ _) (Nat.le_refl _) _
  have hb1 : V.heap[w.heap.size]? = some (.cells #[.int .i64 fr, .int .i64 mg, .slice wa wn wc, .slice pa pn pc, .slice ca cn cc] 26 (0, 0)) := by rw [hV, heap_at, if_neg (by simp)]; exact heap_alloc_new _ _
  have hb2 : V.heap[w.heap.size + 1]? = some (.cells #[.bool q, .int .i64 a, .int .i64 b, .int .i64 s] 73 (0, 0)) := by rw [hV, heap_at, if_pos (by simp)]
  have ks : ∀ W : World, Below V.heap.size V W → (W.cell? ⟨w.heap.size, 0, none⟩ = some (.int .i64 fr) ∧ W.cell? ⟨w.heap.size, 1, none⟩ = some (.int .i64 mg) ∧ W.cell? ⟨w.heap.size, 2, none⟩ = some (.slice wa wn wc) ∧ W.cell? ⟨w.heap.size, 3, none⟩ = some (.slice pa pn pc) ∧ W.cell? ⟨w.heap.size, 4, none⟩ = some (.slice ca cn cc) ∧ W.cell? ⟨w.heap.size + 1, 0, none⟩ = some (.bool q) ∧ W.cell? ⟨w.heap.size + 1, 1, none⟩ = some (.int .i64 a) ∧ W.cell? ⟨w.heap.size + 1, 2, none⟩ = some (.int .i64 b) ∧ W.cell? ⟨w.heap.size + 1, 3, none⟩ = some (.int .i64 s)) := by
    intro W g
    have r := fun (i : Nat) (u : Value) hu => (g.cell (p := ⟨w.heap.size, i, none⟩) (lt_of_block hb1)).trans (cell_in (j := i) (u := u) hb1 hu)
    have t := fun (i : Nat) (u : Value) hu => (g.cell (p := ⟨w.heap.size + 1, i, none⟩) (lt_of_block hb2)).trans (cell_in (j := i) (u := u) hb2 hu)
    exact ⟨r 0 _ rfl, r 1 _ rfl, r 2 _ rfl, r 3 _ rfl, r 4 _ rfl, t 0 _ rfl, t 1 _ rfl, t 2 _ rfl, t 3 _ rfl⟩
  have KS := Lib.hid ks; have HB1 := Lib.hid B1; have HV := Lib.hid hV
  have CH := Lib.hid (fun p W => refHas_any fr mg p wa pa ca wn wc pn pc cn cc W)
  clear ks B1 hb1 hb2 hV
  rcases (show ¬ (0 ≤ a ∧ a < (pn : Int)) ∨ ((0 ≤ a ∧ a < (pn : Int)) ∧ ¬ (0 ≤ b ∧ b < (pn : Int))) ∨ ((0 ≤ a ∧ a < (pn : Int)) ∧ (0 ≤ b ∧ b < (pn : Int))) from by omega) with h1 | ⟨h1, h2⟩ | ⟨h1, h2⟩
  · have HN := Lib.hid (show hasB pn a = false from decide_eq_false h1)
    have HR : Hid (okCh pn ⟨q, a, b, s⟩ = false) := Lib.hid (decide_eq_false fun g => h1 ⟨g.1, g.2.1⟩)
    cases q
    all_goals
      (go_enter Try.func31, Try.ntmps31
       go_wp2_with (first | (go_at_call 53; rw [← HV.out]; refine (CH.out _ _).mono ?_; rintro e w1 ⟨rfl, hc1⟩; rw [HN.out]))
       go_ret
       exact ⟨by rw [HR.out]; rfl, HB1.out.trans (hc1.mono HB1.out.size)⟩)
  · have HN := Lib.hid (show hasB pn a = true from decide_eq_true h1)
    have HM := Lib.hid (show hasB pn b = false from decide_eq_false h2)
    have HR : Hid (okCh pn ⟨q, a, b, s⟩ = false) := Lib.hid (decide_eq_false fun g => h2 ⟨g.2.2.1, g.2.2.2.1⟩)
    cases q
    all_goals
      (go_enter Try.func31, Try.ntmps31
       go_wp2_with (first
         | (go_at_call 53; have _z := hc1; refine (CH.out _ _).mono ?_; rintro e w2 ⟨rfl, hc2⟩; rw [HM.out])
         | (go_at_call 53; rw [← HV.out]; refine (CH.out _ _).mono ?_; rintro e w1 ⟨rfl, hc1⟩; rw [HN.out]; obtain ⟨k0, k1, k2, k3, k4, k5, k6, k7, k8⟩ := KS.out _ hc1))
       go_ret
       exact ⟨by rw [HR.out]; rfl, HB1.out.trans ((hc1.trans (hc2.mono hc1.size)).mono HB1.out.size)⟩)
  · have HN := Lib.hid (show hasB pn a = true from decide_eq_true h1)
    have HM := Lib.hid (show hasB pn b = true from decide_eq_true h2)
    cases q
    all_goals
      (rcases (show a = b ∨ (a ≠ b ∧ s < 1) ∨ (a ≠ b ∧ 1 ≤ s ∧ 1000 < s) ∨ (a ≠ b ∧ 1 ≤ s ∧ 16 < s ∧ s ≤ 1000) ∨ (a ≠ b ∧ 1 ≤ s ∧ s ≤ 16) from by omega) with h3 | ⟨h3, h4⟩ | ⟨h3, h4, h5⟩ | ⟨h3, h4, h5, h6⟩ | ⟨h3, h4, h5⟩
       all_goals
         (try subst h3
          go_enter Try.func31, Try.ntmps31
          go_wp2_with (first
            | (go_at_call 53; have _z := hc1; refine (CH.out _ _).mono ?_; rintro e w2 ⟨rfl, hc2⟩; rw [HM.out]; obtain ⟨k0, k1, k2, k3, k4, k5, k6, k7, k8⟩ := KS.out _ (hc1.trans (hc2.mono hc1.size)))
            | (go_at_call 53; rw [← HV.out]; refine (CH.out _ _).mono ?_; rintro e w1 ⟨rfl, hc1⟩; rw [HN.out]; obtain ⟨k0, k1, k2, k3, k4, k5, k6, k7, k8⟩ := KS.out _ hc1))
          go_ret
          exact ⟨ret_b (by rw [Bool.eq_iff_iff]; unfold okCh; simp; try omega), HB1.out.trans ((hc1.trans (hc2.mono hc1.size)).mono HB1.out.size)⟩))
end Go.Proofs.Ytiojmekoemlmkaa
