/- The program's ring: its slots grow. -/
import Derived.Test.YtoebbbghllkdgaaRingQ
namespace Go.Proofs.Ytoebbbghllkdgaa
open Go.ChangeShapes Go.WideShapes Go.ChangeAt Go.RowKit
set_option linter.unusedVariables false

theorem ringL_from {α : Type} {v v' : Nat → α} {fi m M : Nat} (hM : m < M) (h : ∀ j, j < m → v' j = v ((fi + j) % m)) : ringL v' 0 M m = ringL v fi m m := by
  unfold ringL
  apply List.map_congr_left
  intro j hj
  have hj' := List.mem_range.1 hj
  rw [Nat.zero_add, Nat.mod_eq_of_lt (by omega)]
  exact h j hj'
theorem hr3_i {W w5 : World} {G M : Nat} {u : Nat → Int} (h : RowF (fun x => Value.int .i64 x) 3 W G M u) (hG : G < W.heap.size) (hb : Below W.heap.size W w5) : RowF (fun x => Value.int .i64 x) 3 w5 G M u := h.same (hb.block G hG)
theorem hr3_s {W w5 : World} {G M : Nat} {u : Nat → ByteArray} (h : RowF (fun x => Value.string x) 9 W G M u) (hG : G < W.heap.size) (hb : Below W.heap.size W w5) : RowF (fun x => Value.string x) 9 w5 G M u := h.same (hb.block G hG)
set_option maxRecDepth 100000 in
set_option maxHeartbeats 4000000 in
theorem grow_i (w : World) (H : Nat) (S : Nat → Prop) (n : Int) (fi m cap : Nat) (ao : Option Addr) (v : Nat → Int) (h : RgAt (fun x => Value.int .i64 x) 80 3 w H S n fi m m cap ao v) (hlt : (m : Int) < n) : Calls Try.prog 49 #[.pointer (some ⟨H, 0, none⟩)] w fun e w' => ∃ (S' : Nat → Prop) (M : Nat) (ao' : Option Addr) (v' : Nat → Int), e = .returned (.tuple #[]) ∧ RgAt (fun x => Value.int .i64 x) 80 3 w' H S' n 0 m M M ao' v' ∧ m < M ∧ ringL v' 0 M m = ringL v fi m m ∧ GrowS S S' w w' := by
  have hs := h.sm
  have hbox := h.box
  have HQ := Lib.hid h
  have KS : Hid (∀ W : World, Below w.heap.size w W → W.cell? ⟨H, 0, none⟩ = some (.int .i64 n) ∧ W.cell? ⟨H, 2, none⟩ = some (.int .i64 m)) := Lib.hid (fun W hW => by
    have hb := (h.later hW).box
    exact ⟨cell_in hb rfl, cell_in hb rfl⟩)
  have KT : Hid (∀ W : World, Below w.heap.size w W → W.frozen? ⟨H, 1, none⟩ = false ∧ W.frozen? ⟨H, 3, none⟩ = false ∧ (∃ u, W.cell? ⟨H, 1, none⟩ = some u) ∧ (∃ u, W.cell? ⟨H, 3, none⟩ = some u)) := Lib.hid (fun W hW => by
    have hb := (h.later hW).box
    exact ⟨free_in hb _, free_in hb _, ⟨_, cell_in hb rfl⟩, ⟨_, cell_in hb rfl⟩⟩)
  obtain ⟨b0, b2⟩ := KS.out _ (Below.refl _ _)
  obtain ⟨G, hGe⟩ : ∃ G, G = w.heap.size := ⟨_, rfl⟩
  have HGE := Lib.hid hGe
  have hHG : H ≠ G := by have := h.lt H h.own; omega
  have HAL : Hid (∀ W : World, Below w.heap.size w W → Calls Try.prog 53 #[.pointer (some ⟨H, 0, none⟩)] W fun e w' => ∃ G2, e = .returned (.slice (some ⟨G2, 0, none⟩) m m) ∧ W.heap.size ≤ G2 ∧ RowF (fun x => Value.int .i64 x) 3 w' G2 m (fun j => v ((fi + j) % m)) ∧ Below W.heap.size W w') := Lib.hid (fun W hW => all_i W H S n fi m m cap ao v (h.later hW))
  clear h hbox hGe
  rcases (show (m = 0 ∧ n = 1) ∨ (m = 0 ∧ 1 < n) ∨ (1 ≤ m ∧ 2 * (m : Int) ≤ n) ∨ (1 ≤ m ∧ n < 2 * (m : Int)) by omega) with ⟨g1, g2⟩ | ⟨g1, g2⟩ | ⟨g1, g2⟩ | ⟨g1, g2⟩
  · obtain ⟨M, hM, hM1, hM2⟩ : ∃ M : Nat, M = 1 ∧ m < M ∧ (M : Int) ≤ n := ⟨1, by omega, by omega, by omega⟩
    have g3 : (M : Int) ≤ 4096 := by omega
    have hmk := run_make_i M (by omega)
    have HM := Lib.hid (And.intro hM1 hM2)
    have k0 : (0 : Int) ≤ 2 * (m : Int) := by omega
    subst hM; subst g1; subst g2
    rw [show ((1 : Nat) : Int) = 1 from rfl] at hmk
    clear hM1 hM2
    go_enter Try.func49, Try.ntmps49
    go_wp2_with fail
    go_region_held3 (fun W => W.cell? ⟨H, 0, none⟩ = some (.int .i64 1) ∧ W.cell? ⟨H, 2, none⟩ = some (.int .i64 0))
      (first | exact KS.out _ (Below.refl _ _).drew | exact KS.out _ (b_alloc (Below.refl _ _).drew (Nat.le_refl _) _) | fail "no keep") (fail)
    rw [← HGE.out]
    obtain ⟨V, hV⟩ : ∃ V, V = (w.alloc (rowObj_i 1)).drew := ⟨_, rfl⟩
    have HB3 : Hid (Below w.heap.size w V) := Lib.hid (by rw [hV]; exact (below1 _ _).drew)
    have HR3 : Hid (RowF (fun x => Value.int .i64 x) 3 V G 1 (fun _ => 0)) := Lib.hid (rowObj_row_i (by rw [HGE.out, hV]; exact heap_alloc_new w _))
    have HZ3 : Hid (G < V.heap.size) := Lib.hid (by rw [HGE.out, hV, heap_drew]; simp)
    rw [← hV]
    clear hV
    go_wp2_with (first
      | (go_at_call 53
         refine (HAL.out _ HB3.out).mono ?_
         rintro e w5 ⟨G2, rfl, hG2, hr5, hb5⟩
         obtain ⟨A', hcopy, hr6, hb6⟩ := copy_i (hr3_i HR3.out HZ3.out hb5) hr5 (Nat.le_of_lt HM.out.1)
         have HR6 := Lib.hid hr6
         have HB6 : Hid (Below w.heap.size w A') := Lib.hid (hb6 _ _ (Nat.le_of_eq HGE.out.symm) (HB3.out.trans (hb5.mono HB3.out.size)))
         obtain ⟨q0, q1, ⟨u1, q2⟩, ⟨u3, q3⟩⟩ := KT.out _ HB6.out
         clear hG2 hr5 hb5 hr6 hb6)
      | fail "no arm")
    go_end0
    have hh := (HQ.out).slots HB6.out (Nat.le_of_eq HGE.out.symm) HR6.out (Nat.le_of_lt HM.out.1) (by have := HM.out.1; omega) HM.out.2
    exact ⟨_, 1, _, _, rfl, hh.1, HM.out.1, ringL_from HM.out.1 (fun j hj => by first | exact if_pos hj | exact absurd hj (by omega)), hh.2⟩
  · obtain ⟨M, hM, hM1, hM2⟩ : ∃ M : Nat, M = 1 ∧ m < M ∧ (M : Int) ≤ n := ⟨1, by omega, by omega, by omega⟩
    have g3 : (M : Int) ≤ 4096 := by omega
    have hmk := run_make_i M (by omega)
    have HM := Lib.hid (And.intro hM1 hM2)
    have k0 : (0 : Int) ≤ 2 * (m : Int) := by omega
    subst hM; subst g1
    rw [show ((1 : Nat) : Int) = 1 from rfl] at hmk
    clear hM1 hM2
    go_enter Try.func49, Try.ntmps49
    go_wp2_with fail
    go_region_held3 (fun W => W.cell? ⟨H, 0, none⟩ = some (.int .i64 n) ∧ W.cell? ⟨H, 2, none⟩ = some (.int .i64 0))
      (first | exact KS.out _ (Below.refl _ _).drew | exact KS.out _ (b_alloc (Below.refl _ _).drew (Nat.le_refl _) _) | fail "no keep") (fail)
    rw [← HGE.out]
    obtain ⟨V, hV⟩ : ∃ V, V = (w.alloc (rowObj_i 1)).drew := ⟨_, rfl⟩
    have HB3 : Hid (Below w.heap.size w V) := Lib.hid (by rw [hV]; exact (below1 _ _).drew)
    have HR3 : Hid (RowF (fun x => Value.int .i64 x) 3 V G 1 (fun _ => 0)) := Lib.hid (rowObj_row_i (by rw [HGE.out, hV]; exact heap_alloc_new w _))
    have HZ3 : Hid (G < V.heap.size) := Lib.hid (by rw [HGE.out, hV, heap_drew]; simp)
    rw [← hV]
    clear hV
    go_wp2_with (first
      | (go_at_call 53
         refine (HAL.out _ HB3.out).mono ?_
         rintro e w5 ⟨G2, rfl, hG2, hr5, hb5⟩
         obtain ⟨A', hcopy, hr6, hb6⟩ := copy_i (hr3_i HR3.out HZ3.out hb5) hr5 (Nat.le_of_lt HM.out.1)
         have HR6 := Lib.hid hr6
         have HB6 : Hid (Below w.heap.size w A') := Lib.hid (hb6 _ _ (Nat.le_of_eq HGE.out.symm) (HB3.out.trans (hb5.mono HB3.out.size)))
         obtain ⟨q0, q1, ⟨u1, q2⟩, ⟨u3, q3⟩⟩ := KT.out _ HB6.out
         clear hG2 hr5 hb5 hr6 hb6)
      | fail "no arm")
    go_end0
    have hh := (HQ.out).slots HB6.out (Nat.le_of_eq HGE.out.symm) HR6.out (Nat.le_of_lt HM.out.1) (by have := HM.out.1; omega) HM.out.2
    exact ⟨_, 1, _, _, rfl, hh.1, HM.out.1, ringL_from HM.out.1 (fun j hj => by first | exact if_pos hj | exact absurd hj (by omega)), hh.2⟩
  · obtain ⟨M, hM, hM1, hM2⟩ : ∃ M : Nat, M = 2 * m ∧ m < M ∧ (M : Int) ≤ n := ⟨2 * m, by omega, by omega, by omega⟩
    have g3 : (M : Int) ≤ 4096 := by omega
    have hmk := run_make_i M (by omega)
    have HM := Lib.hid (And.intro hM1 hM2)
    have k0 : (0 : Int) ≤ 2 * (m : Int) := by omega
    have e1 : IntKind.i64.wrap (2 * (m : Int)) = (M : Int) := (IntWalk.i64_in _ (by omega)).trans (by omega)
    have g4 : (M : Int) ≤ n := by omega
    have g5 : (1 : Int) ≤ (M : Int) := by omega
    clear hM g2 k0
    clear hM1 hM2
    go_enter Try.func49, Try.ntmps49
    go_wp2_with fail
    go_region_held3 (fun W => W.cell? ⟨H, 0, none⟩ = some (.int .i64 n) ∧ W.cell? ⟨H, 2, none⟩ = some (.int .i64 m))
      (first | exact KS.out _ (Below.refl _ _).drew | exact KS.out _ (b_alloc (Below.refl _ _).drew (Nat.le_refl _) _) | fail "no keep") (fail)
    rw [← HGE.out]
    obtain ⟨V, hV⟩ : ∃ V, V = (w.alloc (rowObj_i M)).drew := ⟨_, rfl⟩
    have HB3 : Hid (Below w.heap.size w V) := Lib.hid (by rw [hV]; exact (below1 _ _).drew)
    have HR3 : Hid (RowF (fun x => Value.int .i64 x) 3 V G M (fun _ => 0)) := Lib.hid (rowObj_row_i (by rw [HGE.out, hV]; exact heap_alloc_new w _))
    have HZ3 : Hid (G < V.heap.size) := Lib.hid (by rw [HGE.out, hV, heap_drew]; simp)
    rw [← hV]
    clear hV
    go_wp2_with (first
      | (go_at_call 53
         refine (HAL.out _ HB3.out).mono ?_
         rintro e w5 ⟨G2, rfl, hG2, hr5, hb5⟩
         obtain ⟨A', hcopy, hr6, hb6⟩ := copy_i (hr3_i HR3.out HZ3.out hb5) hr5 (Nat.le_of_lt HM.out.1)
         have HR6 := Lib.hid hr6
         have HB6 : Hid (Below w.heap.size w A') := Lib.hid (hb6 _ _ (Nat.le_of_eq HGE.out.symm) (HB3.out.trans (hb5.mono HB3.out.size)))
         obtain ⟨q0, q1, ⟨u1, q2⟩, ⟨u3, q3⟩⟩ := KT.out _ HB6.out
         clear hG2 hr5 hb5 hr6 hb6)
      | fail "no arm")
    go_end0
    have hh := (HQ.out).slots HB6.out (Nat.le_of_eq HGE.out.symm) HR6.out (Nat.le_of_lt HM.out.1) (by have := HM.out.1; omega) HM.out.2
    exact ⟨_, M, _, _, rfl, hh.1, HM.out.1, ringL_from HM.out.1 (fun j hj => by first | exact if_pos hj | exact absurd hj (by omega)), hh.2⟩
  · obtain ⟨M, hM, hM1, hM2⟩ : ∃ M : Nat, (M : Int) = n ∧ m < M ∧ (M : Int) ≤ n := ⟨n.toNat, by omega, by omega, by omega⟩
    have g3 : (M : Int) ≤ 4096 := by omega
    have hmk := run_make_i M (by omega)
    have HM := Lib.hid (And.intro hM1 hM2)
    have k0 : (0 : Int) ≤ 2 * (m : Int) := by omega
    subst hM
    obtain ⟨Kq, hKq⟩ : ∃ Kq : Int, Kq = 2 * (m : Int) := ⟨_, rfl⟩
    have e1 : IntKind.i64.wrap (2 * (m : Int)) = Kq := (IntWalk.i64_in _ (by omega)).trans (by omega)
    have g4 : (M : Int) < Kq := by omega
    have g5 : (1 : Int) ≤ Kq := by omega
    clear hKq g2 k0
    clear hM1 hM2
    go_enter Try.func49, Try.ntmps49
    go_wp2_with fail
    go_region_held3 (fun W => W.cell? ⟨H, 0, none⟩ = some (.int .i64 M) ∧ W.cell? ⟨H, 2, none⟩ = some (.int .i64 m))
      (first | exact KS.out _ (Below.refl _ _).drew | exact KS.out _ (b_alloc (Below.refl _ _).drew (Nat.le_refl _) _) | fail "no keep") (fail)
    rw [← HGE.out]
    obtain ⟨V, hV⟩ : ∃ V, V = (w.alloc (rowObj_i M)).drew := ⟨_, rfl⟩
    have HB3 : Hid (Below w.heap.size w V) := Lib.hid (by rw [hV]; exact (below1 _ _).drew)
    have HR3 : Hid (RowF (fun x => Value.int .i64 x) 3 V G M (fun _ => 0)) := Lib.hid (rowObj_row_i (by rw [HGE.out, hV]; exact heap_alloc_new w _))
    have HZ3 : Hid (G < V.heap.size) := Lib.hid (by rw [HGE.out, hV, heap_drew]; simp)
    rw [← hV]
    clear hV
    go_wp2_with (first
      | (go_at_call 53
         refine (HAL.out _ HB3.out).mono ?_
         rintro e w5 ⟨G2, rfl, hG2, hr5, hb5⟩
         obtain ⟨A', hcopy, hr6, hb6⟩ := copy_i (hr3_i HR3.out HZ3.out hb5) hr5 (Nat.le_of_lt HM.out.1)
         have HR6 := Lib.hid hr6
         have HB6 : Hid (Below w.heap.size w A') := Lib.hid (hb6 _ _ (Nat.le_of_eq HGE.out.symm) (HB3.out.trans (hb5.mono HB3.out.size)))
         obtain ⟨q0, q1, ⟨u1, q2⟩, ⟨u3, q3⟩⟩ := KT.out _ HB6.out
         clear hG2 hr5 hb5 hr6 hb6)
      | fail "no arm")
    go_end0
    have hh := (HQ.out).slots HB6.out (Nat.le_of_eq HGE.out.symm) HR6.out (Nat.le_of_lt HM.out.1) (by have := HM.out.1; omega) HM.out.2
    exact ⟨_, M, _, _, rfl, hh.1, HM.out.1, ringL_from HM.out.1 (fun j hj => by first | exact if_pos hj | exact absurd hj (by omega)), hh.2⟩
end Go.Proofs.Ytoebbbghllkdgaa
