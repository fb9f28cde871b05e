/- The program's ring: its places, its small calls. -/
import Derived.Test.YtoebbbghllkdgaaRingC
import Derived.Test.YtoebbbghllkdgaaRingF
import Derived.BigQuiet
import Derived.BigRegion
import Derived.Lib.SliceRun
namespace Go.Proofs.Ytoebbbghllkdgaa
open Go.ChangeShapes Go.WideShapes Go.ChangeAt Go.RowKit
set_option linter.unusedVariables false

/-- The program's ring in memory, its places written out: v tells what lies in its m slots; c are in, from fi on. -/
structure RgAt {α : Type} (emb : α → Value) (tR tE : TypeId) (w : World) (H : Nat) (S : Nat → Prop) (n : Int) (fi c m cap : Nat) (ao : Option Addr) (v : Nat → α) : Prop where
  box : w.heap[H]? = some (.cells #[.int .i64 n, .int .i64 fi, .int .i64 c, .slice ao m cap] tR (0, 0))
  sm : n ≤ 4096
  cm : c ≤ m
  mn : (m : Int) ≤ n
  mc : m ≤ cap
  fm : fi < m ∨ (m = 0 ∧ fi = 0 ∧ ao = none ∧ cap = 0)
  row : 0 < m → ∃ G, ao = some ⟨G, 0, none⟩ ∧ S G ∧ G ≠ H ∧ RowF emb tE w G m v
  own : S H
  lt : ∀ k, S k → k < w.heap.size
theorem RgAt.keep {α : Type} {emb : α → Value} {tR tE : TypeId} {w w' : World} {H : Nat} {S : Nat → Prop} {n : Int} {fi c m cap : Nat} {ao : Option Addr} {v : Nat → α} (h : RgAt emb tR tE w H S n fi c m cap ao v) (hs : ∀ k, S k → w'.heap[k]? = w.heap[k]?) (hz : w.heap.size ≤ w'.heap.size) : RgAt emb tR tE w' H S n fi c m cap ao v :=
  { h with
    box := (hs H h.own).trans h.box
    row := fun hm => by
      obtain ⟨G, h1, h2, h3, h4⟩ := h.row hm
      exact ⟨G, h1, h2, h3, h4.same (hs G h2)⟩
    lt := fun k hk => Nat.lt_of_lt_of_le (h.lt k hk) hz }
theorem RgAt.later {α : Type} {emb : α → Value} {tR tE : TypeId} {w w' : World} {H : Nat} {S : Nat → Prop} {n : Int} {fi c m cap : Nat} {ao : Option Addr} {v : Nat → α} (h : RgAt emb tR tE w H S n fi c m cap ao v) (hb : Below w.heap.size w w') : RgAt emb tR tE w' H S n fi c m cap ao v := h.keep (fun k hk => hb.block k (h.lt k hk)) hb.size
/-- Is there an i-th of c? -/
def hasV (c i : Int) : Bool := decide (0 ≤ i) && decide (i < c)
theorem below_drewR {B : Nat} {a w : World} (d : Nat) (h : Below B a w) : Below B a (w.drewN d) := ⟨h.os, h.tape, h.output, h.size, h.block⟩
theorem inL_has (l : List Int) (i : Int) : inL l i = hasV l.length i := rfl
theorem mod_lt14 {a b m : Nat} (h : 0 < m) : (a + b) % m < m := Nat.mod_lt _ h
set_option maxRecDepth 100000 in
set_option maxHeartbeats 4000000 in
theorem len_box_i (w : World) (H : Nat) (a b c : Int) (s : Value) (h : w.heap[H]? = some (.cells #[.int .i64 a, .int .i64 b, .int .i64 c, s] 80 (0, 0))) : Calls Try.prog 47 #[.pointer (some ⟨H, 0, none⟩)] w fun e w' => e = .returned (.int .i64 c) ∧ w' = w := by
  have b2 : w.cell? ⟨H, 2, none⟩ = some (.int .i64 c) := cell_in h rfl
  clear h
  go_enter Try.func47, Try.ntmps47
  go_wp2
  go_ret
  exact ⟨rfl, rfl⟩
set_option maxRecDepth 100000 in
set_option maxHeartbeats 4000000 in
theorem len_nil_i (w : World) : Calls Try.prog 47 #[.pointer none] w fun e w' => e = .returned (.int .i64 0) ∧ w' = w := by
  go_enter Try.func47, Try.ntmps47
  go_wp2
  go_ret
  exact ⟨rfl, rfl⟩
set_option maxRecDepth 100000 in
set_option maxHeartbeats 4000000 in
theorem room_box_i (w : World) (H : Nat) (a b c : Int) (s : Value) (h : w.heap[H]? = some (.cells #[.int .i64 a, .int .i64 b, .int .i64 c, s] 80 (0, 0))) : Calls Try.prog 48 #[.pointer (some ⟨H, 0, none⟩)] w fun e w' => e = .returned (.int .i64 a) ∧ w' = w := by
  have b2 : w.cell? ⟨H, 0, none⟩ = some (.int .i64 a) := cell_in h rfl
  clear h
  go_enter Try.func48, Try.ntmps48
  go_wp2
  go_ret
  exact ⟨rfl, rfl⟩
set_option maxRecDepth 100000 in
set_option maxHeartbeats 4000000 in
theorem room_nil_i (w : World) : Calls Try.prog 48 #[.pointer none] w fun e w' => e = .returned (.int .i64 0) ∧ w' = w := by
  go_enter Try.func48, Try.ntmps48
  go_wp2
  go_ret
  exact ⟨rfl, rfl⟩
set_option maxRecDepth 100000 in
set_option maxHeartbeats 4000000 in
theorem has_i (w : World) (p : Option Addr) (c i : Int) (HL : Hid (Calls Try.prog 47 #[.pointer p] w fun e w' => e = .returned (.int .i64 c) ∧ w' = w)) : Calls Try.prog 54 #[.pointer p, .int .i64 i] w fun e w' => e = .returned (.bool (hasV c i)) ∧ w' = w := by
  have HR : Hid (∀ a b, a = decide (0 ≤ i) → b = decide (i < c) → hasV c i = (a && b)) := Lib.hid (fun a b h1 h2 => by rw [h1, h2]; rfl)
  by_cases h0 : 0 ≤ i
  · have t0 : decide (0 ≤ i) = true := decide_eq_true h0
    have HT := Lib.hid t0.symm
    by_cases h1 : i < c
    · have t1 : decide (i < c) = true := decide_eq_true h1
      have HU := Lib.hid t1.symm
      go_enter Try.func54, Try.ntmps54
      go_wp2_with (go_at_call 47; refine HL.out.mono ?_; rintro e w3 ⟨rfl, rfl⟩)
      go_ret
      rw [HR.out _ _ HT.out HU.out]
      exact ⟨rfl, rfl⟩
    · have t1 : decide (i < c) = false := decide_eq_false h1
      have HU := Lib.hid t1.symm
      go_enter Try.func54, Try.ntmps54
      go_wp2_with (go_at_call 47; refine HL.out.mono ?_; rintro e w3 ⟨rfl, rfl⟩)
      go_ret
      rw [HR.out _ _ HT.out HU.out]
      exact ⟨rfl, rfl⟩
  · have t0 : decide (0 ≤ i) = false := decide_eq_false h0
    have HT := Lib.hid t0.symm
    go_enter Try.func54, Try.ntmps54
    go_wp2_with fail
    go_ret
    rw [HR.out _ _ HT.out rfl]
    exact ⟨by simp, rfl⟩
set_option maxRecDepth 100000 in
set_option maxHeartbeats 4000000 in
theorem place_i (w : World) (H : Nat) (a c : Value) (fi m cap j : Nat) (ao : Option Addr) (h : w.heap[H]? = some (.cells #[a, .int .i64 fi, c, .slice ao m cap] 80 (0, 0))) (hf : fi < m) (hm : m ≤ 4096) (hj : j ≤ m) : Calls Try.prog 52 #[.pointer (some ⟨H, 0, none⟩), .int .i64 j] w fun e w' => e = .returned (.int .i64 ((fi + j) % m : Nat)) ∧ ∃ d, w' = w.drewN d := by
  have b1 : w.cell? ⟨H, 1, none⟩ = some (.int .i64 fi) := cell_in h rfl
  have b3 : w.cell? ⟨H, 3, none⟩ = some (.slice ao m cap) := cell_in h rfl
  clear h
  obtain ⟨q, hq⟩ : ∃ q, q = (fi + j) % m := ⟨_, rfl⟩
  have hqm : q < m := by rw [hq]; exact Nat.mod_lt _ (by omega)
  have e1 : IntKind.i64.wrap ((fi : Int) + (j : Int)) = ((fi + j : Nat) : Int) := (IntWalk.i64_in _ (by omega)).trans (by omega)
  have e2 : ((fi + j : Nat) : Int).tmod (m : Int) = (q : Int) := by
    rw [hq, Int.tmod_eq_emod_of_nonneg (by omega)]
    exact (Int.natCast_emod _ _).symm
  have e3 : ((fi : Int) + (j : Int)).tmod (m : Int) = (q : Int) := by rw [← e2]; congr 1
  have e4 : IntKind.i64.wrap (q : Int) = (q : Int) := IntWalk.i64_in _ (by omega)
  have d0 : (m : Int) ≠ 0 := by omega
  have d1 : decide ((m : Int) = 0) = false := decide_eq_false d0
  have d2 : ((m : Int) == 0) = false := by simpa using d0
  have d3 : m ≠ 0 := by omega
  have d4 : decide (m = 0) = false := decide_eq_false d3
  have d5 : (m == 0) = false := by simpa using d3
  rw [← hq]
  clear hq
  go_enter Try.func52, Try.ntmps52
  go_wp2_with fail
  go_quiet (fail)
  go_wp2_with fail
  go_ret
  exact ⟨rfl, _, rfl⟩
set_option maxRecDepth 100000 in
set_option maxHeartbeats 4000000 in
theorem at_no_i (w : World) (p : Option Addr) (i : Int) (HH : Hid (Calls Try.prog 54 #[.pointer p, .int .i64 i] w fun e w' => e = .returned (.bool false) ∧ w' = w)) : Calls Try.prog 51 #[.pointer p, .int .i64 i] w fun e w' => e = .returned (.tuple #[.int .i64 0, .bool false]) ∧ w' = w := by
  go_enter Try.func51, Try.ntmps51
  go_wp2_with (go_at_call 54; refine HH.out.mono ?_; rintro e w3 ⟨rfl, rfl⟩)
  go_ret2
  exact ⟨rfl, rfl⟩
set_option maxRecDepth 100000 in
set_option maxHeartbeats 4000000 in
theorem at_yes_i (w : World) (H : Nat) (S : Nat → Prop) (n : Int) (fi c m cap : Nat) (ao : Option Addr) (v : Nat → Int) (h : RgAt (fun x => Value.int .i64 x) 80 3 w H S n fi c m cap ao v) (i : Nat) (hi : i < c) : Calls Try.prog 51 #[.pointer (some ⟨H, 0, none⟩), .int .i64 i] w fun e w' => e = .returned (.tuple #[.int .i64 (v ((fi + i) % m)), .bool true]) ∧ ∃ d, w' = w.drewN d := by
  have hc := h.cm; have hn := h.mn; have hs := h.sm
  have hf : fi < m := by rcases h.fm with h | h <;> omega
  obtain ⟨G, rfl, hG, hGH, hrow⟩ := h.row (by omega)
  have hbox := h.box
  have b3 : w.cell? ⟨H, 3, none⟩ = some (.slice (some ⟨G, 0, none⟩) m cap) := cell_in hbox rfl
  obtain ⟨q, hq⟩ : ∃ q, q = (fi + i) % m := ⟨_, rfl⟩
  have hqm : q < m := by rw [hq]; exact Nat.mod_lt _ (by omega)
  have HP : Hid (∀ W : World, W.heap[H]? = w.heap[H]? → Calls Try.prog 52 #[.pointer (some ⟨H, 0, none⟩), .int .i64 i] W fun e w' => e = .returned (.int .i64 q) ∧ ∃ d, w' = W.drewN d) := Lib.hid (fun W hW => by rw [hq]; exact place_i W H _ _ fi m cap i _ (hW.trans hbox) hf (by omega) (by omega))
  rw [← hq]
  obtain ⟨x, hx⟩ : ∃ x, x = v q := ⟨_, rfl⟩
  obtain ⟨c0, c1⟩ := hrow.at_ hqm
  rw [← hx] at c0 ⊢
  have HH : Hid (Calls Try.prog 54 #[.pointer (some ⟨H, 0, none⟩), .int .i64 i] w fun e w' => e = .returned (.bool true) ∧ w' = w) := Lib.hid (by
    have := has_i w _ c i (Lib.hid (len_box_i w H _ _ _ _ hbox))
    rw [show hasV c i = true by unfold hasV; rw [decide_eq_true (by omega), decide_eq_true (by omega)]; rfl] at this
    exact this)
  have l0 : (0 : Int) ≤ (q : Int) := by omega
  have l1 : (q : Int) < (m : Int) := by omega
  clear h hq hrow hbox hx
  go_enter Try.func51, Try.ntmps51
  go_wp2_with (go_at_call 54; refine HH.out.mono ?_; rintro e w3 ⟨rfl, rfl⟩)
  go_quiet (first | (go_at_call 52; exact Calls.quiet_of (HP.out _ rfl)))
  go_wp2_with fail
  go_ret2
  exact ⟨rfl, _, rfl⟩
set_option maxRecDepth 100000 in
set_option maxHeartbeats 4000000 in
theorem set_no_i (w : World) (p : Option Addr) (i : Int) (x : Int) (HH : Hid (Calls Try.prog 54 #[.pointer p, .int .i64 i] w fun e w' => e = .returned (.bool false) ∧ w' = w)) : Calls Try.prog 50 #[.pointer p, .int .i64 i, .int .i64 x] w fun e w' => e = .returned (.bool false) ∧ w' = w := by
  go_enter Try.func50, Try.ntmps50
  go_wp2_with (go_at_call 54; refine HH.out.mono ?_; rintro e w3 ⟨rfl, rfl⟩)
  go_ret
  exact ⟨rfl, rfl⟩
set_option maxRecDepth 100000 in
set_option maxHeartbeats 4000000 in
theorem set_yes_i (w : World) (H : Nat) (S : Nat → Prop) (n : Int) (fi c m cap : Nat) (ao : Option Addr) (v : Nat → Int) (h : RgAt (fun x => Value.int .i64 x) 80 3 w H S n fi c m cap ao v) (i : Nat) (hi : i < c) (x : Int) : Calls Try.prog 50 #[.pointer (some ⟨H, 0, none⟩), .int .i64 i, .int .i64 x] w fun e w' => e = .returned (.bool true) ∧ RgAt (fun x => Value.int .i64 x) 80 3 w' H S n fi c m cap ao (updF v ((fi + i) % m) x) ∧ GrowS S S w w' := by
  have hc := h.cm; have hn := h.mn; have hs := h.sm
  have hf : fi < m := by rcases h.fm with h | h <;> omega
  obtain ⟨G, rfl, hG, hGH, hrow⟩ := h.row (by omega)
  have hbox := h.box
  have b3 : w.cell? ⟨H, 3, none⟩ = some (.slice (some ⟨G, 0, none⟩) m cap) := cell_in hbox rfl
  obtain ⟨q, hq⟩ : ∃ q, q = (fi + i) % m := ⟨_, rfl⟩
  have hqm : q < m := by rw [hq]; exact Nat.mod_lt _ (by omega)
  have HP : Hid (∀ W : World, W.heap[H]? = w.heap[H]? → Calls Try.prog 52 #[.pointer (some ⟨H, 0, none⟩), .int .i64 i] W fun e w' => e = .returned (.int .i64 q) ∧ ∃ d, w' = W.drewN d) := Lib.hid (fun W hW => by rw [hq]; exact place_i W H _ _ fi m cap i _ (hW.trans hbox) hf (by omega) (by omega))
  rw [← hq]
  obtain ⟨c0, c1⟩ := hrow.at_ hqm
  have HH : Hid (Calls Try.prog 54 #[.pointer (some ⟨H, 0, none⟩), .int .i64 i] w fun e w' => e = .returned (.bool true) ∧ w' = w) := Lib.hid (by
    have := has_i w _ c i (Lib.hid (len_box_i w H _ _ _ _ hbox))
    rw [show hasV c i = true by unfold hasV; rw [decide_eq_true (by omega), decide_eq_true (by omega)]; rfl] at this
    exact this)
  have KS : Hid (∀ W : World, W.heap = w.heap → W.cell? ⟨H, 3, none⟩ = some (.slice (some ⟨G, 0, none⟩) m cap) ∧ W.cell? ⟨G, q, none⟩ = some (.int .i64 (v q)) ∧ W.frozen? ⟨G, q, none⟩ = false) := Lib.hid (fun W hW => ⟨(World.cell?_of_block (w := w) (by rw [hW])).trans b3, (World.cell?_of_block (w := w) (by rw [hW])).trans c0, by obtain ⟨cur, hg, _⟩ := hrow; exact free_in (by rw [hW]; exact hg) _⟩)
  have HFIN : Hid (∀ W : World, W.heap = w.heap → W.os = w.os → W.tape = w.tape → W.output = w.output → RgAt (fun x => Value.int .i64 x) 80 3 (W.setCell ⟨G, q, none⟩ (.int .i64 x)) H S n fi c m cap (some ⟨G, 0, none⟩) (updF v q x) ∧ GrowS S S w (W.setCell ⟨G, q, none⟩ (.int .i64 x))) := Lib.hid (fun W hW h1 h2 h3 => by
    have hB : But G W (W.setCell ⟨G, q, none⟩ (.int .i64 x)) := (But.refl G W).set q _
    have hz : (W.setCell ⟨G, q, none⟩ (.int .i64 x)).heap.size = w.heap.size := by simp [hW]
    refine ⟨{ h with box := (hB.block H (by rw [hW]; exact h.lt H h.own) hGH.symm).trans (by rw [hW]; exact hbox), row := fun _ => ⟨G, rfl, hG, hGH, (hrow.same (by rw [hW])).set hqm x⟩, lt := fun k hk => by rw [hz]; exact h.lt k hk }, ⟨hB.os.trans h1, hB.tape.trans h2, hB.output.trans h3, by rw [hz]; exact Nat.le_refl _, fun k hk hS => (hB.block k (by rw [hW]; exact hk) (fun e => hS (e ▸ hG))).trans (by rw [hW]), fun k hk => .inl hk⟩⟩)
  have l0 : (0 : Int) ≤ (q : Int) := by omega
  have l1 : (q : Int) < (m : Int) := by omega
  have u1 : H ≠ G := hGH.symm
  clear h hq hrow hbox
  go_enter Try.func50, Try.ntmps50
  go_wp2_with (go_at_call 54; refine HH.out.mono ?_; rintro e w3 ⟨rfl, hw3⟩; rw [hw3]; clear hw3)
  go_region_held3 (fun W => W.cell? ⟨H, 3, none⟩ = some (.slice (some ⟨G, 0, none⟩) m cap))
    (first | exact (KS.out _ rfl).1 | exact (KS.out _ hw4.out.1).1 | exact (World.cell?_of_block (Below.heap_setCell _ ⟨G, q, none⟩ _ H u1)).trans ((KS.out _ rfl).1) | exact (World.cell?_of_block (Below.heap_setCell _ ⟨G, q, none⟩ _ H u1)).trans ((KS.out _ hw4.out.1).1) | fail "no keep")
    (first | (go_at_call 52; refine (HP.out _ (by rfl)).mono ?_; rintro e w4 ⟨rfl, d, hd⟩; have hw4 := Lib.hid (show w4.heap = w.heap ∧ w4.os = w.os ∧ w4.tape = w.tape ∧ w4.output = w.output by rw [hd]; exact ⟨rfl, rfl, rfl, rfl⟩); obtain ⟨k0, k1, k2⟩ := KS.out _ hw4.out.1; clear hd) | fail "no arm")
  go_wp2_with fail
  go_ret
  exact ⟨rfl, HFIN.out _ hw4.out.1 hw4.out.2.1 hw4.out.2.2.1 hw4.out.2.2.2⟩
end Go.Proofs.Ytoebbbghllkdgaa
