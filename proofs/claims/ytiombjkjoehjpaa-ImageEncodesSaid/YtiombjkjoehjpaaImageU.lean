/- The document's writer of numbers in memory. -/
import Derived.Test.YtiombjkjoehjpaaImageT
import Derived.Test.YtiombjkjoehjpaaImageC
import Derived.Deep.RegionLaw
namespace Go.Proofs.Ytiombjkjoehjpaa
open Go.ChangeShapes Go.WideShapes Go.ChangeAt Go.RowKit
set_option linter.unusedVariables false

/-- Only the writer and its bytes are written. -/
structure Mine (X : Nat) (w w' : World) : Prop where
  keep : KeepsBut 5 83 w w'
  below : Below X w w'
theorem Mine.refl (X : Nat) (w : World) : Mine X w w := ⟨KeepsBut.refl _ _ _, Below.refl _ _⟩
theorem Mine.trans {X : Nat} {a b c : World} (h : Mine X a b) (k : Mine X b c) : Mine X a c := ⟨h.keep.trans k.keep, h.below.trans k.below⟩
theorem Mine.of_below {X : Nat} {w w' : World} (h : Below w.heap.size w w') (hX : X ≤ w.heap.size) : Mine X w w' := ⟨KeepsBut.of_below h, h.mono hX⟩
theorem Mine.alloc {X : Nat} {a w : World} (h : Mine X a w) (hX : X ≤ a.heap.size) (o : Obj) : Mine X a (w.alloc o) := h.trans (Mine.of_below (below1 _ _) (Nat.le_trans hX h.below.size))
theorem Mine.drew {X : Nat} {a w : World} (h : Mine X a w) : Mine X a w.drew := ⟨h.keep, h.below.drew⟩
/-- The document's writer in memory: block X. -/
def WrR (w : World) (X : Nat) (s : Option (List Fl)) : Prop := ∃ (v : Value) (e : Int), w.heap[X]? = some (.cells #[v, .int .i64 e] 83 (0, 0)) ∧ (match s with
  | none => e = 2
  | some fs => e = 0 ∧ ∃ a n c, v = .slice a n c ∧ n = szL fs ∧ w.ownsRow (X + 1) 5 1 (.slice a n c) n (bts (encB fs)))
theorem WrR.lt {X : Nat} {w : World} {s : Option (List Fl)} (h : WrR w X s) : X < w.heap.size := by obtain ⟨v, e, h1, _⟩ := h; exact lt_of_block h1
theorem WrR.keep {X : Nat} {w w' : World} {s : Option (List Fl)} (h : WrR w X s) (k : Below w.heap.size w w') : WrR w' X s := by
  obtain ⟨v, e, h1, h2⟩ := h
  refine ⟨v, e, (k.block X (lt_of_block h1)).trans h1, ?_⟩
  cases s with
  | none => exact h2
  | some fs => obtain ⟨h3, a, n, c, h4, h5, h6⟩ := h2; exact ⟨h3, a, n, c, h4, h5, owns_later h6 k⟩
theorem WrR.err {w : World} {X : Nat} {s : Option (List Fl)} (h : WrR w X s) : w.cell? ⟨X, 1, none⟩ = some (.int .i64 (if s.isNone then 2 else 0)) := by
  obtain ⟨v, e, h1, h2⟩ := h
  have := cell_in (j := 1) h1 rfl
  rw [this]
  cases s with
  | none => rw [show e = 2 from h2]; rfl
  | some fs => rw [h2.1]; rfl
theorem WrR.new {w : World} {X : Nat} (h : w.heap[X]? = some (.cells #[.slice none 0 0, .int .i64 0] 83 (0, 0))) : WrR w X (some []) :=
  ⟨_, 0, h, rfl, none, 0, 0, rfl, rfl, ⟨rfl, .inl ⟨rfl, rfl⟩⟩⟩
theorem encB_snoc (fs : List Fl) (f : Fl) : encB (fs ++ [f]) = encB fs ++ putN f.1 f.2 := by rw [encB_append, encB_cons, encB_nil, List.append_nil]
theorem own_set {w : World} {base e sz : Nat} {v : Value} {n : Nat} {xs : List Value} (ho : w.ownsRow base e sz v n xs) {X : Nat} (hX : X < base) (j : Nat) (u : Value) : (w.setCell ⟨X, j, none⟩ u).ownsRow base e sz v n xs := by
  obtain ⟨hl, ho⟩ := ho
  refine ⟨hl, ?_⟩
  rcases ho with ho | ⟨g, cap, cur, hv, hb, hgr, ho⟩
  · exact .inl ho
  · exact .inr ⟨g, cap, cur, hv, hb, (Below.heap_setCell _ _ _ _ (by show g ≠ X; omega)).trans hgr, ho⟩
theorem Mine.set {X : Nat} {a w : World} (h : Mine X a w) {cs : Array Value} (hX : w.heap[X]? = some (.cells cs 83 (0, 0))) (j : Nat) (u : Value) : Mine X a (w.setCell ⟨X, j, none⟩ u) :=
  h.trans ⟨KeepsBut.set (a := ⟨X, j, none⟩) hX u, (Below.refl _ _).setCell (p := ⟨X, j, none⟩) (Nat.le_refl _) u⟩
theorem Mine.grown {X : Nat} {w w' : World} {v : Value} {n : Nat} {xs : List Value} (ho : w.ownsRow (X + 1) 5 1 v n xs) (hg : w.grownBy w' v.ownBlock) (hX : X + 1 ≤ w.heap.size) : Mine X w w' :=
  ⟨KeepsBut.of_grown hg ho, ((Below.refl (X + 1) w).grown hg hX (fun g h => ((owns_block ho) g h).1)).mono (by omega)⟩
set_option maxRecDepth 100000 in
set_option maxHeartbeats 2000000 in
theorem rPut_any (X : Nat) (s : Option (List Fl)) (sz : Nat) (l : List Int) (a : Option Addr) (n c : Nat) (w : World) (lo hi : Nat) (hw : WrR w X s) (hn : l.length = n) (hl : ∀ W : World, Mine X w W → Lies W lo hi (.slice a n c) n 1 (ints l)) (s1 : 1 ≤ sz) (s7 : sz ≤ 7) (hnb : n ≤ 4611686018427387904) (hb : ∀ fs, s = some fs → szL fs + sz * n ≤ 1099511627776) :
    Calls Try.prog 23 #[.pointer (some ⟨X, 0, none⟩), .int .i64 (sz : Int), .slice a n c] w fun e w' => e = .returned (.tuple #[]) ∧ WrR w' X (putS s (sized sz l)) ∧ Mine X w w' := by
  have t1 : decide ((sz : Int) < 1) = false := by simp; omega
  have t2 : decide ((sz : Int) > 7) = false := by simp; omega
  cases s with
  | none =>
    have c1 : w.cell? ⟨X, 1, none⟩ = some (.int .i64 2) := hw.err
    have H0 := Lib.hid hw
    clear hw hl hb
    by_cases h0 : 0 < n
    · have t3 : decide ((0 : Int) < (n : Int)) = true := by simp; omega
      go_enter Try.func23, Try.ntmps23
      go_wp2_with fail
      go_loopw [6] (fun i wr => i = .int .i64 0 ∧ wr = w) (fun _ _ => 0)
      case atStart => exact ⟨rfl, rfl⟩
      case round =>
        obtain ⟨rfl, rfl⟩ := hrel
        go_wp2_with fail
        (first | go_end0 | refine bodyPost_ret (results_none rfl _ _ _) rfl ?_)
        exact ⟨rfl, H0.out, Mine.refl _ _⟩
    · have t3 : decide ((0 : Int) < (n : Int)) = false := by simp; omega
      go_enter Try.func23, Try.ntmps23
      go_wp2_with fail
      go_loopw [6] (fun i wr => i = .int .i64 0 ∧ wr = w) (fun _ _ => 0)
      case atStart => exact ⟨rfl, rfl⟩
      case round =>
        obtain ⟨rfl, rfl⟩ := hrel
        go_wp2_with fail
        (first | go_end0 | refine bodyPost_ret (results_none rfl _ _ _) rfl ?_)
        exact ⟨rfl, H0.out, Mine.refl _ _⟩
  | some fs =>
    obtain ⟨i0, hi0, hz0, hz1, hz2⟩ := info_parts Try.infoU8
    have HI := Lib.hid hi0
    have HB : szL fs + sz * n ≤ 1099511627776 := hb fs rfl
    have HL := Lib.hid hl
    have HN := Lib.hid hn
    have H0 := Lib.hid (show WrR w X (some (fs ++ sized sz (l.take 0))) from by simpa [sized] using hw)
    clear hw hl hb hn hi0
    go_enter Try.func23, Try.ntmps23
    go_wp2_with fail
    go_loopw [6] (fun i wr => ∃ (k : Nat), k ≤ n ∧ i = .int .i64 k ∧ Hid (fitL (sized sz (l.take k)) = true) ∧ Hid (WrR wr X (some (fs ++ sized sz (l.take k)))) ∧ Hid (Mine X w wr)) (fun i _ => n - (intOf i).toNat)
    case atStart => exact ⟨0, by omega, rfl, Lib.hid rfl, H0, Lib.hid (Mine.refl _ _)⟩
    case round =>
      obtain ⟨k, hk, rfl, HFT, HW, HM⟩ := hrel
      have ce : wr.cell? ⟨X, 1, none⟩ = some (.int .i64 0) := HW.out.err
      by_cases hlt : k < n
      · have tk : decide ((k : Int) < (n : Int)) = true := by simpa using hlt
        obtain ⟨x, hx⟩ : ∃ x, l[k]? = some x := ⟨_, List.getElem?_eq_getElem (by rw [HN.out]; exact hlt)⟩
        have HX := Lib.hid hx
        obtain ⟨a2, c2, e2, _, _, hc⟩ := HL.out wr HM.out
        cases e2
        rcases hc with h0 | ⟨b, off, rfl, hb1, hb2, hc⟩
        · omega
        have q0 : wr.cell? ⟨b, off + k, none⟩ = some (.int .i64 x) := hc k (.int .i64 x) (by have := flat_at intCells 1 (fun _ => rfl) l k 0 x hx (by omega); simpa [ints, intCells] using this)
        have hbw : b < wr.heap.size := by
          rcases Nat.lt_or_ge b wr.heap.size with h | h
          · exact h
          · exact absurd q0 (by simp [World.cell?, Array.getElem?_eq_none h])
        have l0 : (0 : Int) ≤ (k : Int) := by omega
        have l1 : (k : Int) < (n : Int) := by omega
        have hXr : X < wr.heap.size := HW.out.lt
        clear hc hx
        cases hfx : fitsB sz x with
        | false =>
          have HNO : Hid (fitL (sized sz l) = false) := Lib.hid (fit_not HX.out hfx)
          obtain ⟨v, e2, hX2, g⟩ := HW.out
          have k1 : wr.frozen? ⟨X, 1, none⟩ = false := free_in hX2 1
          have HX2 := Lib.hid hX2
          clear hX2 g
          go_wp2_with (first
            | (go_at_call 46; refine (rFits_any sz x _ s1 s7).mono ?_; rintro e w' ⟨rfl, rfl⟩; rw [hfx]))
          (first | go_end0 | refine bodyPost_ret (results_none rfl _ _ _) rfl ?_)
          refine ⟨rfl, ?_, HM.out.set HX2.out 1 _⟩
          rw [putS_no HNO.out]
          exact ⟨v, 2, set_at (j := 1) HX2.out, rfl⟩
        | true =>
          have HYES : Hid (fitL (sized sz (l.take (k + 1))) = true) := Lib.hid (fit_take HX.out HFT.out hfx)
          obtain ⟨v, e2, hX2, g⟩ := HW.out
          obtain ⟨rfl, ba, bn, bc, rfl, hbn, hown⟩ := g
          have HX2 := Lib.hid hX2
          have c0 : wr.cell? ⟨X, 0, none⟩ = some (.slice ba bn bc) := cell_in hX2 rfl
          have f0 : wr.frozen? ⟨X, 0, none⟩ = false := free_in hX2 0
          have HOW := Lib.hid hown
          obtain ⟨x0, x1⟩ := fitsB_iff.1 hfx
          have CN := Lib.hid (fun (W : World) => rNumber_any sz x W s1 s7 x0 x1)
          have hbn2 : bn = szL fs + sz * k := by
            rw [hbn, szL_append, szL_sized, List.length_take, HN.out, Nat.min_eq_left hk]
          have hkn : sz * (k + 1) ≤ sz * n := Nat.mul_le_mul_left _ hlt
          rw [Nat.mul_succ] at hkn
          have HBN := Lib.hid hbn
          have hbnb : bn + sz ≤ 1099511627776 := by omega
          clear hX2 hown x0 x1 hbn hbn2 hkn
          go_wp2_with (first
            | (go_at_call 46; refine (rFits_any sz x _ s1 s7).mono ?_; rintro e w' ⟨rfl, rfl⟩; rw [hfx]))
          go_region_law (first
            | (refine step_append_lie (by rfl) _ _ 29 (by rfl) (X + 1) 5 i0 _ 1 1 Try.underlying29 HI.out hz0 hz1 hz2 rfl (by omega) (.slice ba bn bc) bn _ (by rfl) HOW1.out (.slice na sz nc) wr.heap.size w1.heap.size sz (bts (putN sz x)) (by rfl) HLN.out (bts_uno _) (bn + sz) (by omega) (by simp [maxLen]; omega) (by omega) (by omega) ?_
               intro ao cap w2 hown1 hgrow
               have HM2 := Lib.hid (Mine.grown HOW1.out hgrow (by omega))
               have hbg : Below (X + 1) w1 w2 := (Below.refl (X + 1) w1).grown hgrow (by omega) (fun g h => ((owns_block HOW1.out) g h).1)
               have g2 : w2.cell? ⟨X, 0, none⟩ = some (.slice ba bn bc) := (hbg.cell (p := ⟨X, 0, none⟩) (by show X < X + 1; omega)).trans g1
               have f2 : w2.frozen? ⟨X, 0, none⟩ = false := (hbg.frozen (p := ⟨X, 0, none⟩) (by show X < X + 1; omega)).trans f1
               have HX4 := Lib.hid ((hbg.block X (by omega)).trans HX3.out)
               have HOW2 := Lib.hid hown1
               clear hown1 hgrow hbg)
            | (go_simp
               go_at_call 47
               refine (CN.out _).mono ?_
               rintro e w1 ⟨na, nc, rfl, hno, hb1⟩
               have hb1' : Below wr.heap.size wr w1 := (Below.refl _ _).drew.trans hb1
               have g1 : w1.cell? ⟨X, 0, none⟩ = some (.slice ba bn bc) := (hb1'.cell (p := ⟨X, 0, none⟩) hXr).trans c0
               have f1 : w1.frozen? ⟨X, 0, none⟩ = false := (hb1'.frozen (p := ⟨X, 0, none⟩) hXr).trans f0
               have HX3 := Lib.hid ((hb1'.block X hXr).trans HX2.out)
               have HOW1 := Lib.hid (owns_later HOW.out hb1')
               have HLN := Lib.hid (Lies.of_owns hno)
               have HM1 := Lib.hid (HM.out.trans (Mine.of_below hb1' (by omega)))
               have hs1 := hb1'.size
               clear hno hb1 hb1'))
          all_goals go_wp2_with fail
          all_goals go_roundw
          all_goals first
            | (case rel =>
                refine ⟨k + 1, by omega, by go_num, HYES, Lib.hid ?_, Lib.hid ((HM1.out.trans HM2.out).set HX4.out 0 _)⟩
                rw [sized_take _ _ _ _ HX.out, ← List.append_assoc]
                refine ⟨_, 0, set_at (j := 0) HX4.out, rfl, ao, bn + sz, cap, rfl, by rw [szL_append, ← HBN.out]; rfl, own_set ?_ (by omega) 0 _⟩
                have h9 := HOW2.out
                rw [encB_snoc]
                unfold bts at h9 ⊢
                rw [List.map_append]
                exact h9)
            | (case measure => simp [intOf]; omega)
      · have tk : decide ((k : Int) < (n : Int)) = false := by simp; omega
        have HE : Hid (l.take k = l) := Lib.hid (List.take_of_length_le (by rw [HN.out]; omega))
        go_wp2_with fail
        (first | go_end0 | refine bodyPost_ret (results_none rfl _ _ _) rfl ?_)
        rw [HE.out] at HFT HW
        refine ⟨rfl, ?_, HM.out⟩
        rw [putS_yes HFT.out]
        exact HW.out
end Go.Proofs.Ytiombjkjoehjpaa
