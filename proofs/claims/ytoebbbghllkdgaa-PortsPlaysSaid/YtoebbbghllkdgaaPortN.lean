/- The program's channels: what newPort and New make. -/
import Derived.Test.YtoebbbghllkdgaaPortX
import Derived.Lib.SliceRun
namespace Go.Proofs.Ytoebbbghllkdgaa
open Go.ChangeShapes Go.WideShapes Go.ChangeAt Go.RowKit
set_option linter.unusedVariables false

set_option maxRecDepth 100000 in
set_option maxHeartbeats 8000000 in
theorem newport_q (f t sz : Int) (w : World) :
    Calls Try.prog 21 #[.agg #[.bool true, .int .i64 f, .int .i64 t, .int .i64 sz]] w fun e w' => ∃ H A, e = .returned (.iface 67 (.pointer (some ⟨H, 0, none⟩))) ∧ QuAt H ⟨true, f, t, sz⟩ Ps.new w' A ∧ (∀ k, A k → w.heap.size ≤ k) ∧ Below w.heap.size w w' := by
  have HN := Lib.hid (ringInt.new sz)
  obtain ⟨V, hV⟩ : ∃ V, V = w.alloc (.cells #[.bool true, .int .i64 f, .int .i64 t, .int .i64 sz] 45) := ⟨_, rfl⟩
  obtain ⟨E, hE⟩ : ∃ E, E = w.heap.size := ⟨_, rfl⟩
  have hbV : Below w.heap.size w V := by rw [hV]; exact below1 _ _
  have hEV : V.heap[E]? = some (.cells #[.bool true, .int .i64 f, .int .i64 t, .int .i64 sz] 45 (0, 0)) := by rw [hV, hE]; exact heap_alloc_new _ _
  have KX : Hid (∀ W : World, Below V.heap.size V W → W.cell? ⟨E, 0, none⟩ = some (.bool true) ∧ W.cell? ⟨E, 1, none⟩ = some (.int .i64 f) ∧ W.cell? ⟨E, 2, none⟩ = some (.int .i64 t) ∧ W.cell? ⟨E, 3, none⟩ = some (.int .i64 sz)) := Lib.hid (fun W h => by
    have a2 := (h.block E (lt_of_block hEV)).trans hEV
    exact ⟨cell_in a2 rfl, cell_in a2 rfl, cell_in a2 rfl, cell_in a2 rfl⟩)
  obtain ⟨k0, k1, k2, k3⟩ := KX.out V (Below.refl _ _)
  have HV := Lib.hid hV
  have HE := Lib.hid hE
  have HBV := Lib.hid hbV
  clear hV hE hEV hbV
  go_enter Try.func21, Try.ntmps21
  go_upto_region 1 with fail
  rw [← HV.out, ← HE.out]
  go_upto_region 2 with fail
  go_region_held3 (fun W => W.cell? ⟨E, 0, none⟩ = some (.bool true) ∧ W.cell? ⟨E, 1, none⟩ = some (.int .i64 f) ∧ W.cell? ⟨E, 2, none⟩ = some (.int .i64 t) ∧ W.cell? ⟨E, 3, none⟩ = some (.int .i64 sz))
    (first | exact k9.out | exact KX.out _ (g3.out.1.trans ((below1 _ _).mono g3.out.1.size)) | exact KX.out _ (Below.refl _ _) | exact KX.out _ (Below.refl _ _).drew | fail "no keep")
    (first
      | (go_at_call 22; go_loud (refine (HN.out _).mono ?_; rintro e w3 ⟨R, S3, rfl, h3', s3', b3'⟩; have h3 := Lib.hid h3'; have g3 : Hid (Below V.heap.size V w3 ∧ ∀ k, S3 k → V.heap.size ≤ k) := Lib.hid ⟨(Below.refl _ _).drew.trans b3', s3'⟩; have k9 := Lib.hid (KX.out w3 g3.out.1); clear h3' s3' b3'))
      | fail "no arm")
  go_wp2_with fail
  go_ret
  have hz := HBV.out.size
  have hz3 := g3.out.1.size
  have hb1 := below1 w3 (.cells #[.bool true, .int .i64 f, .int .i64 t, .int .i64 sz, .pointer (some ⟨R, 0, none⟩), .int .i64 0] 73)
  refine ⟨w3.heap.size, fun k => k = w3.heap.size ∨ S3 k, rfl, ⟨R, S3, heap_alloc_new w3 _, ringInt.later h3.out hb1, fun h => by have := ringInt.lt h3.out _ h; omega, fun _ => Iff.rfl⟩, fun k hk => ?_, (HBV.out.trans (g3.out.1.mono hz)).trans (hb1.mono (by omega))⟩
  rcases hk with rfl | hk
  · omega
  · have := g3.out.2 k hk; omega
set_option maxRecDepth 100000 in
set_option maxHeartbeats 8000000 in
theorem newport_s (f t sz : Int) (w : World) :
    Calls Try.prog 21 #[.agg #[.bool false, .int .i64 f, .int .i64 t, .int .i64 sz]] w fun e w' => ∃ H A, e = .returned (.iface 74 (.pointer (some ⟨H, 0, none⟩))) ∧ SaAt H ⟨false, f, t, sz⟩ Ps.new w' A ∧ (∀ k, A k → w.heap.size ≤ k) ∧ Below w.heap.size w w' := by
  obtain ⟨V, hV⟩ : ∃ V, V = w.alloc (.cells #[.bool false, .int .i64 f, .int .i64 t, .int .i64 sz] 45) := ⟨_, rfl⟩
  obtain ⟨E, hE⟩ : ∃ E, E = w.heap.size := ⟨_, rfl⟩
  have hbV : Below w.heap.size w V := by rw [hV]; exact below1 _ _
  have hEV : V.heap[E]? = some (.cells #[.bool false, .int .i64 f, .int .i64 t, .int .i64 sz] 45 (0, 0)) := by rw [hV, hE]; exact heap_alloc_new _ _
  have k0 : V.cell? ⟨E, 0, none⟩ = some (.bool false) := cell_in hEV rfl
  have k1 : V.cell? ⟨E, 1, none⟩ = some (.int .i64 f) := cell_in hEV rfl
  have k2 : V.cell? ⟨E, 2, none⟩ = some (.int .i64 t) := cell_in hEV rfl
  have k3 : V.cell? ⟨E, 3, none⟩ = some (.int .i64 sz) := cell_in hEV rfl
  have HV := Lib.hid hV
  have HE := Lib.hid hE
  have HBV := Lib.hid hbV
  clear hV hE hEV hbV
  go_enter Try.func21, Try.ntmps21
  go_upto_region 1 with fail
  rw [← HV.out, ← HE.out]
  go_wp2_with fail
  go_ret
  have hz := HBV.out.size
  have hb1 := below1 V (.cells #[.bool false, .int .i64 f, .int .i64 t, .int .i64 sz, .bool false, .int .i64 0, .int .i64 0] 78)
  exact ⟨V.heap.size, fun k => k = V.heap.size, rfl, ⟨false, 0, 0, heap_alloc_new V _, .inl ⟨rfl, rfl⟩, fun _ => Iff.rfl⟩, fun k hk => by omega, HBV.out.trans (hb1.mono (by omega))⟩
theorem newport_any (x : Ch) (w : World) :
    Calls Try.prog 21 #[.agg #[.bool x.queue, .int .i64 x.from_, .int .i64 x.to, .int .i64 x.size]] w fun e w' => ∃ H A, e = .returned (poV H x) ∧ PoAt H x Ps.new w' A ∧ (∀ k, A k → w.heap.size ≤ k) ∧ Below w.heap.size w w' := by
  obtain ⟨q, f, t, sz⟩ := x
  cases q with
  | true => exact (newport_q f t sz w).mono (by rintro e w' ⟨H, A, rfl, q1, q2, q3⟩; exact ⟨H, A, rfl, .inl ⟨rfl, q1⟩, q2, q3⟩)
  | false => exact (newport_s f t sz w).mono (by rintro e w' ⟨H, A, rfl, q1, q2, q3⟩; exact ⟨H, A, rfl, .inr ⟨rfl, q1⟩, q2, q3⟩)
theorem po_one (B : Nat) (x : Ch) : (poV B x).oneCell' = true := by unfold poV; split <;> rfl
/-- So many are made; the row is written out. -/
def HdX (H : Nat) (ps : List (Nat × Ch)) (ao : Option Addr) (cap : Nat) : Own := fun w S => w.heap[H]? = some (.cells #[.slice ao ps.length cap] 60 (0, 0)) ∧ RowR w H S 57 1 ao ps.length cap (ps.flatMap bcV) ∧ S H ∧ ∀ k, S k → k < w.heap.size
def PrX (H : Nat) (ps : List (Nat × Ch)) (ao : Option Addr) (cap : Nat) (st : Nat → Ps) : Own := Star (HdX H ps ao cap) (Fam ps.length (PoF ps st))
theorem PrX.out {H : Nat} {ps : List (Nat × Ch)} {ao : Option Addr} {cap : Nat} {st : Nat → Ps} {w : World} {S : Nat → Prop} (h : PrX H ps ao cap st w S) : PrO H (ps.map (·.2)) st w S := by
  obtain ⟨A, B, h1, h2, h3, h4⟩ := h
  exact ⟨ps, rfl, A, B, ⟨ao, cap, h1⟩, h2, h3, h4⟩
theorem PrX.step {H : Nat} {ps : List (Nat × Ch)} {ao ao' : Option Addr} {cap cap' : Nat} {st : Nat → Ps} {wr w7 wa w8 : World} {S A : Nat → Prop} {B : Nat} {x : Ch} (h : PrX H ps ao cap st wr S) (hb7 : Below wr.heap.size wr w7)
    (hp : PoAt B x (st ps.length) w7 A) (hA : ∀ j, A j → wr.heap.size ≤ j) (hba : Below w7.heap.size w7 wa)
    (hown : w8.ownsRow 0 57 1 (.slice ao' (ps.length + 1) cap') (ps.length + 1) (ps.flatMap bcV ++ [poV B x])) (hg : wa.grownBy w8 (Value.slice ao ps.length cap).ownBlock)
    (hob : (Value.slice ao' (ps.length + 1) cap').ownBlock = (Value.slice ao ps.length cap).ownBlock ∨ (Value.slice ao' (ps.length + 1) cap').ownBlock = some wa.heap.size) :
    ∃ S', PrX H (ps ++ [(B, x)]) ao' cap' st (w8.setCell ⟨H, 0, none⟩ (.slice ao' (ps.length + 1) cap')) S' ∧ GrowS S S' wr (w8.setCell ⟨H, 0, none⟩ (.slice ao' (ps.length + 1) cap')) := by
  obtain ⟨R, F, ⟨h1, h2, h3, h4⟩, hF, hd, hs⟩ := h
  have z7 := hb7.size
  have za := hba.size
  have zg := hg.size
  have hbw : Below wr.heap.size wr wa := hb7.trans (hba.mono z7)
  have lp := (po_own B x _).lt hp
  obtain ⟨a1, a2, a3, a4, a5, a6⟩ := app_box (slot := 0) h1 h3 h4 h2 hown ⟨wa, hbw, hg, hob⟩
  obtain ⟨R', hR'⟩ : ∃ R' : Nat → Prop, R' = fun k => R k ∨ (Value.slice ao' (ps.length + 1) cap').ownBlock = some k := ⟨_, rfl⟩
  rw [← hR'] at a2 a6
  have a4' : ∀ k, R' k → k < (w8.setCell ⟨H, 0, none⟩ (.slice ao' (ps.length + 1) cap')).heap.size := by rw [hR']; exact a4
  have hHR : R' H := by rw [hR']; exact .inl h3
  clear a4
  obtain ⟨Y, hY⟩ : ∃ Y, Y = w8.setCell ⟨H, 0, none⟩ (.slice ao' (ps.length + 1) cap') := ⟨_, rfl⟩
  have hzY : Y.heap.size = w8.heap.size := by rw [hY]; simp
  rw [← hY] at a1 a2 a3 a4' a5 a6 ⊢
  have hFY := grow_part (fam_own fun i => po_own _ _ _) hF hd hs a6
  obtain ⟨f1, f2, f3⟩ := hFY
  have hHl := lt_of_block h1
  have hpY : PoAt B x (st ps.length) Y A := (po_own B x _).keep hp (fun k hk => by
    have e1 := hA k hk
    have e2 := lp k hk
    rw [hY]
    rw [((But.refl H w8).set 0 _).block k (by omega) (by omega)]
    rw [hg.block k (by omega) (fun e => by have := h4 k (h2.2 k e.symm).1; omega)]
    exact hba.block k e2) (by omega)
  have dA : ∀ k, F k → ¬ A k := fun k h5 h6 => by
    have := (fam_own (n := ps.length) (F := PoF ps st) fun i => po_own _ _ _).lt hF k h5
    have := hA k h6
    omega
  have dR : ∀ k, R' k → ¬ A k := fun k h5 h6 => by
    have e1 := hA k h6
    have e2 := lp k h6
    rw [hR'] at h5
    rcases h5 with h5 | h5
    · have := h4 k h5; omega
    · rcases hob with h | h
      · have := h4 k (h2.2 k (h ▸ h5)).1; omega
      · have := h.symm.trans h5; cases this; omega
  have hat : ∀ i, i < ps.length → PoF (ps ++ [(B, x)]) st i = PoF ps st i := fun i hi => by
    unfold PoF chAt
    rw [List.getD_eq_getElem?_getD, List.getD_eq_getElem?_getD, List.getElem?_append_left hi]
  have hfam : Fam ps.length (PoF (ps ++ [(B, x)]) st) Y F := f1.congr hat
  have hnew : PoF (ps ++ [(B, x)]) st ps.length Y A := by
    unfold PoF chAt
    rw [List.getD_eq_getElem?_getD, List.getElem?_append_right (Nat.le_refl _), Nat.sub_self]
    exact hpY
  have hsn := Fam.snoc (fun i => po_own _ _ _) hfam hnew dA
  refine ⟨fun k => R' k ∨ (F k ∨ A k), ⟨R', fun k => F k ∨ A k, ⟨?_, ?_, hHR, a4'⟩, ?_, fun k h5 h6 => h6.elim (f2 k h5) (dR k h5), fun _ => Iff.rfl⟩, ?_⟩
  · rw [List.length_append, List.length_singleton]
    exact a1
  · rw [List.length_append, List.length_singleton, List.flatMap_append]
    exact a2
  · rw [List.length_append, List.length_singleton]
    exact hsn
  · exact ⟨f3.os, f3.tape, f3.output, f3.size, f3.block, fun k hk => by
      rcases hk with h | h | h
      · exact f3.own k (.inl h)
      · exact f3.own k (.inr h)
      · exact .inr (hA k h)⟩
end Go.Proofs.Ytoebbbghllkdgaa
