/- The program's ring, by what is in. -/
import Derived.Test.YtoebbbghllkdgaaRingU
namespace Go.Proofs.Ytoebbbghllkdgaa
open Go.ChangeShapes Go.WideShapes Go.ChangeAt Go.RowKit
set_option linter.unusedVariables false
theorem zero_i (w : World) : (zeroValue 3).run Try.prog w = .ok (.int .i64 0) w := by kernel_rfl
theorem zero_s (w : World) : (zeroValue 9).run Try.prog w = .ok (.string ⟨#[]⟩) w := by kernel_rfl
set_option maxRecDepth 100000 in
set_option maxHeartbeats 4000000 in
theorem clear_i (w : World) (H : Nat) (S : Nat → Prop) (n : Int) (fi c m cap : Nat) (ao : Option Addr) (v : Nat → Int) (h : RgAt (fun x => Value.int .i64 x) 80 3 w H S n fi c m cap ao v) : Calls Try.prog 44 #[.pointer (some ⟨H, 0, none⟩)] w fun e w' => ∃ v', e = .returned (.tuple #[]) ∧ RgAt (fun x => Value.int .i64 x) 80 3 w' H S n 0 0 m cap ao v' ∧ GrowS S S w w' := by
  obtain ⟨A, hcl, v', hA, gA⟩ : ∃ A, (∀ ty, (Builtin.clear_ #[46] ty #[.slice ao m cap]).run Try.prog w = .ok (.tuple #[]) A) ∧ ∃ v', RgAt (fun x => Value.int .i64 x) 80 3 A H S n fi c m cap ao v' ∧ GrowS S S w A := by
    rcases Nat.eq_zero_or_pos m with hm | hm
    · subst hm
      refine ⟨w, fun ty => ?_, v, h, GrowS.of_below (Below.refl _ _)⟩
      cases ao <;> simp [Builtin.clear_, run_underlying Try.underlying46]
    · obtain ⟨G, rfl, hG, hGH, hrow⟩ := h.row hm
      refine ⟨_, fun ty => Lib.run_clear_slice w 46 3 ty (Value.int .i64 0) Try.underlying46 zero_i rfl rfl G 0 m cap hm (fun j hj => by rw [Nat.zero_add, (hrow.at_ hj).1]; rfl) (fun j hj => by rw [Nat.zero_add]; exact (hrow.at_ hj).2), (fun j => if 0 ≤ j ∧ j < 0 + m then (0 : Int) else v j), ?_⟩
      have hB := But.setCells G (List.replicate m (Value.int .i64 0)) 0 w
      have hz := hB.size
      refine ⟨{ h with box := (hB.block H (h.lt H h.own) hGH.symm).trans h.box, row := fun _ => ⟨G, rfl, hG, hGH, RowF.fill (emb := (fun x => Value.int .i64 x)) (0 : Int) m 0 v w hrow (by omega)⟩, lt := fun k hk => Nat.lt_of_lt_of_le (h.lt k hk) hz }, ⟨hB.os, hB.tape, hB.output, hz, fun k hk hS => hB.block k hk (fun e => hS (e ▸ hG)), fun k hk => .inl hk⟩⟩
  have HA := Lib.hid hA
  have GA := Lib.hid gA
  have b3 : w.cell? ⟨H, 3, none⟩ = some (.slice ao m cap) := cell_in h.box rfl
  have p1 : A.cell? ⟨H, 1, none⟩ = some (.int .i64 fi) := cell_in hA.box rfl
  have p2 : A.cell? ⟨H, 2, none⟩ = some (.int .i64 c) := cell_in hA.box rfl
  have p3 : A.frozen? ⟨H, 1, none⟩ = false := free_in hA.box _
  have p4 : A.frozen? ⟨H, 2, none⟩ = false := free_in hA.box _
  clear h hA gA
  go_enter Try.func44, Try.ntmps44
  go_wp2_with (simp only [hcl])
  go_end0
  obtain ⟨r1, k1⟩ := HA.out.first (f' := 0) (by omega)
  obtain ⟨r2, k2⟩ := r1.len (c' := 0) (by omega)
  exact ⟨v', rfl, r2, GA.out.trans (k1.trans k2)⟩
set_option maxRecDepth 100000 in
set_option maxHeartbeats 4000000 in
theorem new_i (room : Int) (w : World) : Calls Try.prog 22 #[.int .i64 room] w fun e w' => e = .returned (.pointer (some ⟨w.heap.size, 0, none⟩)) ∧ RgAt (fun x => Value.int .i64 x) 80 3 w' w.heap.size (fun k => k = w.heap.size) (roomV room) 0 0 0 0 none (fun _ => 0) ∧ Below w.heap.size w w' := by
  obtain ⟨now, hnow⟩ : ∃ now, now = roomV room := ⟨_, rfl⟩
  rw [← hnow]
  rcases (show (room < 0 ∧ now = 0) ∨ (0 ≤ room ∧ room ≤ 4096 ∧ now = room) ∨ (4096 < room ∧ now = 4096) by unfold roomV at hnow; omega) with ⟨g1, g3⟩ | ⟨g1, g2, g3⟩ | ⟨g1, g3⟩
  all_goals
    have G3 := Lib.hid g3
    clear hnow g3
    go_enter Try.func22, Try.ntmps22
    go_wp2_with fail
    go_ret
    rw [G3.out]
    exact ⟨rfl, ⟨heap_alloc_new _ _, by omega, Nat.le_refl _, by omega, Nat.le_refl _, .inr ⟨rfl, rfl, rfl, rfl⟩, fun h => absurd h (Nat.lt_irrefl 0), rfl, fun k hk => by rw [hk]; simp⟩, below1 _ _⟩
/-- The program's ring, by what is in. -/
def Rg_i (w : World) (H : Nat) (S : Nat → Prop) (n : Int) (l : List Int) : Prop := ∃ fi c m cap ao v, RgAt (fun x => Value.int .i64 x) 80 3 w H S n fi c m cap ao v ∧ l = ringL v fi m c
theorem Rg_len_i {w : World} {H : Nat} {S : Nat → Prop} {n : Int} {l : List Int} {fi c m cap : Nat} {ao : Option Addr} {v : Nat → Int} (h : RgAt (fun x => Value.int .i64 x) 80 3 w H S n fi c m cap ao v) (hl : l = ringL v fi m c) : l.length = c := by rw [hl, ringL_len]
theorem hasNo_i (w : World) (H : Nat) (S : Nat → Prop) (n : Int) (fi c m cap : Nat) (ao : Option Addr) (v : Nat → Int) (h : RgAt (fun x => Value.int .i64 x) 80 3 w H S n fi c m cap ao v) (i : Int) (hi : hasV c i = false) : Hid (Calls Try.prog 54 #[.pointer (some ⟨H, 0, none⟩), .int .i64 i] w fun e w' => e = .returned (.bool false) ∧ w' = w) := Lib.hid (by
  have := has_i w _ c i (Lib.hid (len_box_i w H _ _ _ _ h.box))
  rw [hi] at this
  exact this)
theorem rpush_i (w : World) (H : Nat) (S : Nat → Prop) (n : Int) (l : List Int) (x : Int) (h : Rg_i w H S n l) : Calls Try.prog 45 #[.pointer (some ⟨H, 0, none⟩), .int .i64 x] w fun e w' => ∃ S', e = .returned (.bool (freeV n l)) ∧ Rg_i w' H S' n (pushV n l x) ∧ GrowS S S' w w' := by
  obtain ⟨fi, c, m, cap, ao, v, h, hl⟩ := h
  have hlen := Rg_len_i h hl
  have hcm := h.cm; have hmn := h.mn
  by_cases hx : (c : Int) < n
  · obtain ⟨d1, d2⟩ := pushV_yes (n := n) (l := l) (x := x) (by omega)
    rw [d1, d2, hl]
    by_cases hlt : c < m
    · have hf : fi < m := by rcases h.fm with h | h <;> omega
      refine (push_in_i w H S n fi c m cap ao v h hlt x hx).mono ?_
      rintro e w' ⟨rfl, r, g⟩
      exact ⟨S, rfl, ⟨fi, c + 1, m, cap, ao, _, r, (ringL_push x hf hlt).symm⟩, g⟩
    · refine (push_grow_i w H S n fi c m cap ao v h (by omega) x hx).mono ?_
      rintro e w' ⟨S', M, ao', v', rfl, r, hr, g⟩
      exact ⟨S', rfl, ⟨0, c + 1, M, M, ao', v', r, hr.symm⟩, g⟩
  · obtain ⟨d1, d2⟩ := pushV_no (n := n) (l := l) (x := x) (by omega)
    rw [d1, d2]
    have hcn : n = (c : Int) := by omega
    refine (push_no_i w _ c x (Lib.hid (len_box_i w H _ _ _ _ h.box)) (Lib.hid (by have := room_box_i w H _ _ _ _ h.box; rw [hcn] at this; exact this))).mono ?_
    rintro e w' ⟨rfl, rfl⟩
    exact ⟨S, rfl, ⟨fi, c, m, cap, ao, v, h, hl⟩, GrowS.of_below (Below.refl _ _)⟩
theorem rpop_i (w : World) (H : Nat) (S : Nat → Prop) (n : Int) (l : List Int) (h : Rg_i w H S n l) : Calls Try.prog 46 #[.pointer (some ⟨H, 0, none⟩)] w fun e w' => ∃ S', e = .returned (.tuple #[.int .i64 (popV 0 l), .bool (anyV l)]) ∧ Rg_i w' H S' n l.tail ∧ GrowS S S' w w' := by
  obtain ⟨fi, c, m, cap, ao, v, h, hl⟩ := h
  have hcm := h.cm
  rcases c with _ | c
  · have hl0 : l = [] := by rw [hl]; rfl
    rw [hl0]
    refine (pop_no_i w _ (Lib.hid (at_no_i w _ 0 (hasNo_i w H S n fi 0 m cap ao v h 0 rfl)))).mono ?_
    rintro e w' ⟨rfl, rfl⟩
    exact ⟨S, rfl, ⟨fi, 0, m, cap, ao, v, h, rfl⟩, GrowS.of_below (Below.refl _ _)⟩
  · have hf : fi < m := by rcases h.fm with h | h <;> omega
    rw [hl, ringL_cons hf, List.tail_cons]
    refine (pop_yes_i w H S n fi c m cap ao v h).mono ?_
    rintro e w' ⟨rfl, r, g⟩
    exact ⟨S, rfl, ⟨_, c, m, cap, ao, _, r, (ringL_gone (0 : Int) hf (by omega)).symm⟩, g⟩
def ring_i : RingIntB where
  Rg := Rg_i
  keep := fun h hs hz => by
    obtain ⟨fi, c, m, cap, ao, v, h, hl⟩ := h
    exact ⟨fi, c, m, cap, ao, v, h.keep hs hz, hl⟩
  lt := fun h k hk => by
    obtain ⟨fi, c, m, cap, ao, v, h, hl⟩ := h
    exact h.lt k hk
  bd := fun h => by
    obtain ⟨fi, c, m, cap, ao, v, h, hl⟩ := h
    have hlen := Rg_len_i h hl
    have := h.sm; have := h.mn; have := h.cm
    omega
  new := fun room w => (new_i room w).mono (by
    rintro e w' ⟨rfl, h, hb⟩
    exact ⟨w.heap.size, _, rfl, ⟨0, 0, 0, 0, none, _, h, rfl⟩, fun k hk => by rw [hk]; exact Nat.le_refl _, hb⟩)
  push := rpush_i
  pop := rpop_i
  len := fun w H S n l h => by
    obtain ⟨fi, c, m, cap, ao, v, h, hl⟩ := h
    refine (len_box_i w H _ _ _ _ h.box).mono ?_
    rintro e w' ⟨rfl, rfl⟩
    rw [Rg_len_i h hl]
    exact ⟨rfl, Below.refl _ _⟩
  room := fun w H S n l h => by
    obtain ⟨fi, c, m, cap, ao, v, h, hl⟩ := h
    refine (room_box_i w H _ _ _ _ h.box).mono ?_
    rintro e w' ⟨rfl, rfl⟩
    exact ⟨rfl, Below.refl _ _⟩
/-- The program's ring of ints, whole. -/
def ringInt : RingInt := { ring_i with
  at' := fun w H S n l i h => by
    obtain ⟨fi, c, m, cap, ao, v, h, hl⟩ := h
    have hlen := Rg_len_i h hl
    have hcm := h.cm
    rw [inL_has, hlen]
    cases hi : hasV c i with
    | false =>
      have ha : atL l i = 0 := by
        unfold atL
        split
        · have : c ≤ i.toNat := by
            simp only [hasV, Bool.and_eq_false_iff, decide_eq_false_iff_not] at hi
            omega
          rw [List.getD_eq_getElem?_getD, List.getElem?_eq_none (by omega)]
          rfl
        · rfl
      rw [ha]
      refine (at_no_i w _ i (hasNo_i w H S n fi c m cap ao v h i hi)).mono ?_
      rintro e w' ⟨rfl, rfl⟩
      exact ⟨rfl, Below.refl _ _⟩
    | true =>
      have hi' : 0 ≤ i ∧ i < (c : Int) := by simpa [hasV] using hi
      obtain ⟨k, rfl⟩ : ∃ k : Nat, i = k := ⟨i.toNat, by omega⟩
      have ha : atL l k = v ((fi + k) % m) := by
        unfold atL
        rw [if_pos hi'.1, Int.toNat_natCast, hl, List.getD_eq_getElem?_getD, List.getElem?_eq_getElem (by rw [ringL_len]; omega), Option.getD_some, ringL_get]
      rw [ha]
      refine (at_yes_i w H S n fi c m cap ao v h k (by omega)).mono ?_
      rintro e w' ⟨rfl, d, rfl⟩
      exact ⟨rfl, below_drewR d (Below.refl _ _)⟩
  set := fun w H S n l i x h => by
    obtain ⟨fi, c, m, cap, ao, v, h, hl⟩ := h
    have hlen := Rg_len_i h hl
    have hcm := h.cm
    rw [inL_has, hlen]
    cases hi : hasV c i with
    | false =>
      have ha : setL l i x = l := by
        unfold setL
        split
        · simp only [hasV, Bool.and_eq_false_iff, decide_eq_false_iff_not] at hi
          exact List.set_eq_of_length_le (by omega)
        · rfl
      rw [ha]
      refine (set_no_i w _ i x (hasNo_i w H S n fi c m cap ao v h i hi)).mono ?_
      rintro e w' ⟨rfl, rfl⟩
      exact ⟨S, rfl, ⟨fi, c, m, cap, ao, v, h, hl⟩, GrowS.of_below (Below.refl _ _)⟩
    | true =>
      have hi' : 0 ≤ i ∧ i < (c : Int) := by simpa [hasV] using hi
      obtain ⟨k, rfl⟩ : ∃ k : Nat, i = k := ⟨i.toNat, by omega⟩
      have hf : fi < m := by rcases h.fm with h | h <;> omega
      have ha : setL l k x = ringL (updF v ((fi + k) % m) x) fi m c := by
        unfold setL
        rw [if_pos hi'.1, Int.toNat_natCast, hl, ringL_set x hf hcm (by omega)]
      rw [ha]
      refine (set_yes_i w H S n fi c m cap ao v h k (by omega) x).mono ?_
      rintro e w' ⟨rfl, r, g⟩
      exact ⟨S, rfl, ⟨fi, c, m, cap, ao, _, r, rfl⟩, g⟩
  clear := fun w H S n l h => by
    obtain ⟨fi, c, m, cap, ao, v, h, hl⟩ := h
    refine (clear_i w H S n fi c m cap ao v h).mono ?_
    rintro e w' ⟨v', rfl, r, g⟩
    exact ⟨S, rfl, ⟨0, 0, m, cap, ao, v', r, rfl⟩, g⟩
  all := fun w H S n l h => by
    obtain ⟨fi, c, m, cap, ao, v, h, hl⟩ := h
    have hlen := Rg_len_i h hl
    refine (all_i w H S n fi c m cap ao v h).mono ?_
    rintro e w' ⟨G, rfl, hG, hr, hb⟩
    rw [hlen]
    refine ⟨_, _, rfl, ⟨_, _, rfl, ?_, (fun e => by cases e), .inr ⟨G, 0, rfl, Nat.zero_le _, hr.lt, fun j u hu => ?_⟩⟩, hb⟩
    · rw [flat_len intCells 1 (fun _ => rfl), hlen]
    · have hj : j < c := by
        rcases Nat.lt_or_ge j c with h | h
        · exact h
        · rw [List.getElem?_eq_none (by rw [flat_len intCells 1 (fun _ => rfl), hlen]; omega)] at hu; cases hu
      have f := flat_at intCells 1 (fun _ => rfl) l j 0 _ (List.getElem?_eq_getElem (by omega)) (by omega)
      rw [show j * 1 + 0 = j by omega, hu] at f
      rw [Nat.zero_add, (hr.at_ hj).1, f]
      subst hl
      rw [ringL_get]
      rfl }
end Go.Proofs.Ytoebbbghllkdgaa
