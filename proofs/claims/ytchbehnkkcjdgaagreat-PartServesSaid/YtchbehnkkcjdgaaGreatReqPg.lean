/- Joined of ReqP, ReqQ, ReqU: The program's row of requests (a ring of pairs): its places, its small calls, At and Set. -/
import Derived.Test.YtchbehnkkcjdgaaGreatTaskPg
import Derived.Test.YtchbehnkkcjdgaaGreatRingM
import Derived.Test.YtchbehnkkcjdgaaGreatStar
import Derived.Test.YtchbehnkkcjdgaaGreatPlains
import Derived.BigQuiet
import Derived.BigRegion
import Derived.Lib.SliceRun
import Derived.Laws.CopyOwn
namespace Go.Proofs.YtchbehnkkcjdgaaGreat
open Go.ChangeShapes Go.WideShapes Go.ChangeAt Go.RowKit
set_option linter.unusedVariables false
/-- The n pairs of block C. -/
def Row2 (t : TypeId) (w : World) (C n : Nat) (v : Nat → Bk) : Prop := ∃ cur, w.heap[C]? = some (.cells cur t (0, 0)) ∧ n * 2 ≤ cur.size ∧ ∀ i, i < n → cur[i * 2]? = some (.int .i64 (v i).at_) ∧ cur[i * 2 + 1]? = some (.int .i64 (v i).n)
section
variable {t : TypeId} {w w' : World} {C n : Nat} {v v' : Nat → Bk}
theorem Row2.same (h : Row2 t w C n v) (hs : w'.heap[C]? = w.heap[C]?) : Row2 t w' C n v := by
 obtain ⟨cur, h1, h2⟩ := h
 exact ⟨cur, hs.trans h1, h2⟩
theorem Row2.lt (h : Row2 t w C n v) : C < w.heap.size := by obtain ⟨cur, h1, _⟩ := h; exact lt_of_block h1
theorem Row2.congr (h : Row2 t w C n v) (hv : ∀ j, j < n → v j = v' j) : Row2 t w C n v' := by
 obtain ⟨cur, h1, h2, h3⟩ := h
 exact ⟨cur, h1, h2, fun i hi => by rw [← hv i hi]; exact h3 i hi⟩
theorem Row2.at_ (h : Row2 t w C n v) {i : Nat} (hi : i < n) : w.cell? ⟨C, i * 2, none⟩ = some (.int .i64 (v i).at_) ∧ w.cell? ⟨C, i * 2 + 1, none⟩ = some (.int .i64 (v i).n) ∧ ∀ j, w.frozen? ⟨C, j, none⟩ = false := by
 obtain ⟨cur, h1, _, h3⟩ := h
 exact ⟨cell_in h1 (h3 i hi).1, cell_in h1 (h3 i hi).2, fun j => free_in h1 _⟩
theorem Row2.set (h : Row2 t w C n v) {i : Nat} (hi : i < n) (x : Bk) : Row2 t ((w.setCell ⟨C, i * 2, none⟩ (.int .i64 x.at_)).setCell ⟨C, i * 2 + 1, none⟩ (.int .i64 x.n)) C n (updF v i x) := by
 obtain ⟨cur, h1, h2, h3⟩ := h
 refine ⟨_, set_at (set_at h1), by simpa using h2, fun k hk => ?_⟩
 obtain ⟨a1, a2⟩ := h3 k hk
 by_cases e : k = i
 ·subst e
  rw [updF_at]
  refine ⟨?_, ?_⟩
  ·rw [Array.getElem?_setIfInBounds_ne (by omega), Array.getElem?_setIfInBounds_self_of_lt (by omega)]
  ·rw [Array.getElem?_setIfInBounds_self_of_lt (by simp; omega)]
 ·rw [updF_ne _ _ e]
  exact ⟨by rw [Array.getElem?_setIfInBounds_ne (by omega), Array.getElem?_setIfInBounds_ne (by omega)]; exact a1, by rw [Array.getElem?_setIfInBounds_ne (by omega), Array.getElem?_setIfInBounds_ne (by omega)]; exact a2⟩
end
def zBk : Bk := ⟨0, 0⟩
/-- The ring in memory, its places written out: v tells what lies in its m slots; c are in, from fi on. -/
structure RqAt (w : World) (H : Nat) (S : Nat → Prop) (n : Int) (fi c m cap : Nat) (ao : Option Addr) (v : Nat → Bk) : Prop where
 box : w.heap[H]? = some (.cells #[.int .i64 n, .int .i64 fi, .int .i64 c, .slice ao m cap] 201 (0, 0))
 sm : n ≤ 4096
 cm : c ≤ m
 mn : (m : Int) ≤ n
 mc : m ≤ cap
 fm : fi < m ∨ (m = 0 ∧ fi = 0 ∧ ao = none ∧ cap = 0)
 row : 0 < m → ∃ G, ao = some ⟨G, 0, none⟩ ∧ S G ∧ G ≠ H ∧ Row2 153 w G m v
 own : S H
 lt : ∀ k, S k → k < w.heap.size
section
variable {w w' : World} {H : Nat} {S : Nat → Prop} {n : Int} {fi c m cap : Nat} {ao : Option Addr} {v : Nat → Bk}
theorem RqAt.keep (h : RqAt w H S n fi c m cap ao v) (hs : ∀ k, S k → w'.heap[k]? = w.heap[k]?) (hz : w.heap.size ≤ w'.heap.size) : RqAt w' H S n fi c m cap ao v :=
 { h with
  box := (hs H h.own).trans h.box
  row := fun hm => by
   obtain ⟨G, h1, h2, h3, h4⟩ := h.row hm
   exact ⟨G, h1, h2, h3, h4.same (hs G h2)⟩
  lt := fun k hk => Nat.lt_of_lt_of_le (h.lt k hk) hz }
theorem RqAt.later (h : RqAt w H S n fi c m cap ao v) (hb : Below w.heap.size w w') : RqAt w' H S n fi c m cap ao v := h.keep (fun k hk => hb.block k (h.lt k hk)) hb.size
theorem RqAt.len (h : RqAt w H S n fi c m cap ao v) {c' : Nat} (hc : c' ≤ m) : RqAt (w.setCell ⟨H, 2, none⟩ (.int .i64 c')) H S n fi c' m cap ao v ∧ GrowS S S w (w.setCell ⟨H, 2, none⟩ (.int .i64 c')) := by
 have hB : But H w (w.setCell ⟨H, 2, none⟩ (.int .i64 c')) := (But.refl H w).set 2 _
 have hz : (w.setCell ⟨H, 2, none⟩ (.int .i64 c')).heap.size = w.heap.size := by simp
 refine ⟨{ h with box := by rw [set_at h.box]; rfl, cm := hc, row := fun hm => ?_, lt := fun k hk => by rw [hz]; exact h.lt k hk }, ⟨hB.os, hB.tape, hB.output, hB.size, fun k hk hS => hB.block k hk (fun e => hS (e ▸ h.own)), fun k hk => .inl hk⟩⟩
 obtain ⟨G, h1, h2, h3, h4⟩ := h.row hm
 exact ⟨G, h1, h2, h3, h4.same (hB.block G (h.lt G h2) h3)⟩
theorem RqAt.first (h : RqAt w H S n fi c m cap ao v) {f' : Nat} (hf : f' < m ∨ (m = 0 ∧ f' = 0)) : RqAt (w.setCell ⟨H, 1, none⟩ (.int .i64 f')) H S n f' c m cap ao v ∧ GrowS S S w (w.setCell ⟨H, 1, none⟩ (.int .i64 f')) := by
 have hB : But H w (w.setCell ⟨H, 1, none⟩ (.int .i64 f')) := (But.refl H w).set 1 _
 have hz : (w.setCell ⟨H, 1, none⟩ (.int .i64 f')).heap.size = w.heap.size := by simp
 refine ⟨{ h with box := by rw [set_at h.box]; rfl, fm := ?_, row := fun hm => ?_, lt := fun k hk => by rw [hz]; exact h.lt k hk }, ⟨hB.os, hB.tape, hB.output, hB.size, fun k hk hS => hB.block k hk (fun e => hS (e ▸ h.own)), fun k hk => .inl hk⟩⟩
 ·rcases hf with hf | hf
  ·exact .inl hf
  ·rcases h.fm with h1 | h1
   ·omega
   ·exact .inr ⟨hf.1, hf.2, h1.2.2⟩
 ·obtain ⟨G, h1, h2, h3, h4⟩ := h.row hm
  exact ⟨G, h1, h2, h3, h4.same (hB.block G (h.lt G h2) h3)⟩
/-- The slots are others. -/
theorem RqAt.slots {A : World} {G M : Nat} {v' : Nat → Bk} (h : RqAt w H S n fi c m cap ao v) (hb : Below w.heap.size w A) (hG : w.heap.size ≤ G) (hr : Row2 153 A G M v') (hc : c ≤ M) (hM : 0 < M) (hn : (M : Int) ≤ n) :
 RqAt ((A.setCell ⟨H, 1, none⟩ (.int .i64 0)).setCell ⟨H, 3, none⟩ (.slice (some ⟨G, 0, none⟩) M M)) H (fun k => S k ∨ k = G) n 0 c M M (some ⟨G, 0, none⟩) v' ∧ GrowS S (fun k => S k ∨ k = G) w ((A.setCell ⟨H, 1, none⟩ (.int .i64 0)).setCell ⟨H, 3, none⟩ (.slice (some ⟨G, 0, none⟩) M M)) := by
 have hH := h.lt H h.own
 have hbA := (hb.block H hH).trans h.box
 have hB : But H A ((A.setCell ⟨H, 1, none⟩ (.int .i64 0)).setCell ⟨H, 3, none⟩ (.slice (some ⟨G, 0, none⟩) M M)) := ((But.refl H A).set 1 _).set 3 _
 have hz : ((A.setCell ⟨H, 1, none⟩ (.int .i64 0)).setCell ⟨H, 3, none⟩ (.slice (some ⟨G, 0, none⟩) M M)).heap.size = A.heap.size := by simp
 have hGA := hr.lt
 refine ⟨⟨by rw [set_at (set_at hbA)]; rfl, h.sm, hc, hn, Nat.le_refl _, .inl hM, fun _ => ⟨G, rfl, .inr rfl, by omega, hr.same (hB.block G hGA (by omega))⟩, .inl h.own, fun k hk => ?_⟩, ⟨hB.os.trans hb.os, hB.tape.trans hb.tape, hB.output.trans hb.output, by rw [hz]; exact hb.size, fun k hk hS => ?_, fun k hk => ?_⟩⟩
 ·rw [hz]
  rcases hk with hk | rfl
  ·exact Nat.lt_of_lt_of_le (h.lt k hk) hb.size
  ·exact hGA
 ·exact (hB.block k (Nat.lt_of_lt_of_le hk hb.size) (fun e => hS (e ▸ h.own))).trans (hb.block k hk)
 ·rcases hk with hk | rfl
  ·exact .inl hk
  ·exact .inr hG
end
theorem below_drewQ {B : Nat} {a w : World} (d : Nat) (h : Below B a w) : Below B a (w.drewN d) := ⟨h.os, h.tape, h.output, h.size, h.block⟩
def hasQ (c i : Int) : Bool := decide (0 ≤ i) && decide (i < c)
theorem set2q {w : World} {X : Nat} {T : TypeId} {cs : Array Value} (h : w.heap[X]? = some (.cells cs T (0, 0))) (hs : cs.size = 2) (v0 v1 : Value) :
 ((w.setCell ⟨X, 0, none⟩ v0).setCell ⟨X, 1, none⟩ v1).heap[X]? = some (.cells #[v0, v1] T (0, 0)) := by
 rw [set_at (set_at h)]
 congr 2
 apply Array.ext
 ·simp [hs]
 ·intro i h1 h2
  simp at h2
  rcases (show i = 0 ∨ i = 1 by omega) with e | e <;> subst e <;> simp [hs]
theorem Tryz.sizeRq : (Tryz.prog.info? 153).map (·.size) = some 2 := by kernel_rfl
theorem Tryz.infoRq : (Tryz.prog.info? 153).map (fun i => (i.zero, i.size, i.bytes)) = some (some (.agg #[.int .i64 0, .int .i64 0]), 2, 16) := by kernel_rfl
set_option maxRecDepth 100000 in
set_option maxHeartbeats 4000000 in
theorem rqlen_box (w : World) (H : Nat) (a b c : Int) (s : Value) (h : w.heap[H]? = some (.cells #[.int .i64 a, .int .i64 b, .int .i64 c, s] 201 (0, 0))) : Calls Tryz.prog 81 #[.pointer (some ⟨H, 0, none⟩)] w fun e w' => e = .returned (.int .i64 c) ∧ w' = w := by
 have b2 : w.cell? ⟨H, 2, none⟩ = some (.int .i64 c) := cell_in h rfl
 clear h
 go_enter Tryz.func81, Tryz.ntmps81
 go_wp2
 go_ret
 exact ⟨rfl, rfl⟩
set_option maxRecDepth 100000 in
set_option maxHeartbeats 4000000 in
theorem rqroom_box (w : World) (H : Nat) (a b c : Int) (s : Value) (h : w.heap[H]? = some (.cells #[.int .i64 a, .int .i64 b, .int .i64 c, s] 201 (0, 0))) : Calls Tryz.prog 165 #[.pointer (some ⟨H, 0, none⟩)] w fun e w' => e = .returned (.int .i64 a) ∧ w' = w := by
 have b2 : w.cell? ⟨H, 0, none⟩ = some (.int .i64 a) := cell_in h rfl
 clear h
 go_enter Tryz.func165, Tryz.ntmps165
 go_wp2
 go_ret
 exact ⟨rfl, rfl⟩
set_option maxRecDepth 100000 in
set_option maxHeartbeats 4000000 in
theorem rqhas_any (w : World) (p : Option Addr) (c i : Int) (HL : Hid (Calls Tryz.prog 81 #[.pointer p] w fun e w' => e = .returned (.int .i64 c) ∧ w' = w)) : Calls Tryz.prog 182 #[.pointer p, .int .i64 i] w fun e w' => e = .returned (.bool (hasQ c i)) ∧ w' = w := by
 have HR : Hid (∀ a b, a = decide (0 ≤ i) → b = decide (i < c) → hasQ c i = (a && b)) := Lib.hid (fun a b h1 h2 => by rw [h1, h2]; rfl)
 by_cases h0 : 0 ≤ i
 ·have t0 : decide (0 ≤ i) = true := decide_eq_true h0
  have HT := Lib.hid t0.symm
  by_cases h1 : i < c
  ·have t1 : decide (i < c) = true := decide_eq_true h1
   have HU := Lib.hid t1.symm
   go_enter Tryz.func182, Tryz.ntmps182
   go_wp2_with (go_at_call 81; refine HL.out.mono ?_; rintro e w3 ⟨rfl, rfl⟩)
   go_ret
   rw [HR.out _ _ HT.out HU.out]
   exact ⟨rfl, rfl⟩
  ·have t1 : decide (i < c) = false := decide_eq_false h1
   have HU := Lib.hid t1.symm
   go_enter Tryz.func182, Tryz.ntmps182
   go_wp2_with (go_at_call 81; refine HL.out.mono ?_; rintro e w3 ⟨rfl, rfl⟩)
   go_ret
   rw [HR.out _ _ HT.out HU.out]
   exact ⟨rfl, rfl⟩
 ·have t0 : decide (0 ≤ i) = false := decide_eq_false h0
  have HT := Lib.hid t0.symm
  go_enter Tryz.func182, Tryz.ntmps182
  go_wp2_with fail
  go_ret
  rw [HR.out _ _ HT.out rfl]
  exact ⟨by simp, rfl⟩
set_option maxRecDepth 100000 in
set_option maxHeartbeats 4000000 in
theorem rqplace_any (w : World) (H : Nat) (a c : Value) (fi m cap j : Nat) (ao : Option Addr) (h : w.heap[H]? = some (.cells #[a, .int .i64 fi, c, .slice ao m cap] 201 (0, 0))) (hf : fi < m) (hm : m ≤ 4096) (hj : j ≤ m) : Calls Tryz.prog 183 #[.pointer (some ⟨H, 0, none⟩), .int .i64 j] w fun e w' => e = .returned (.int .i64 ((fi + j) % m : Nat)) ∧ ∃ d, w' = w.drewN d := by
 have b1 : w.cell? ⟨H, 1, none⟩ = some (.int .i64 fi) := cell_in h rfl
 have b3 : w.cell? ⟨H, 3, none⟩ = some (.slice ao m cap) := cell_in h rfl
 clear h
 obtain ⟨q, hq⟩ : ∃ q, q = (fi + j) % m := ⟨_, rfl⟩
 have hqm : q < m := by rw [hq]; exact Nat.mod_lt _ (by omega)
 have e1 : IntKind.i64.wrap ((fi : Int) + (j : Int)) = ((fi + j : Nat) : Int) := (IntWalk.i64_in _ (by omega)).trans (by omega)
 have e2 : ((fi + j : Nat) : Int).tmod (m : Int) = (q : Int) := by
  rw [hq, Int.tmod_eq_emod_of_nonneg (by omega)]
  exact (Int.natCast_emod _ _).symm
 have e3 : ((fi : Int) + (j : Int)).tmod (m : Int) = (q : Int) := by rw [← e2]; congr 1
 have e4 : IntKind.i64.wrap (q : Int) = (q : Int) := IntWalk.i64_in _ (by omega)
 have d0 : (m : Int) ≠ 0 := by omega
 have d1 : decide ((m : Int) = 0) = false := decide_eq_false d0
 have d2 : ((m : Int) == 0) = false := by simpa using d0
 have d3 : m ≠ 0 := by omega
 have d4 : decide (m = 0) = false := decide_eq_false d3
 have d5 : (m == 0) = false := by simpa using d3
 rw [← hq]
 clear hq
 go_enter Tryz.func183, Tryz.ntmps183
 go_wp2_with fail
 go_quiet (fail)
 go_wp2_with fail
 go_ret
 exact ⟨rfl, _, rfl⟩
set_option maxRecDepth 100000 in
set_option maxHeartbeats 4000000 in
theorem rqat_yes (w : World) (H : Nat) (S : Nat → Prop) (n : Int) (fi c m cap : Nat) (ao : Option Addr) (v : Nat → Bk) (h : RqAt w H S n fi c m cap ao v) (i : Nat) (hi : i < c) : Calls Tryz.prog 148 #[.pointer (some ⟨H, 0, none⟩), .int .i64 i] w fun e w' => e = .returned (.tuple #[.agg #[.int .i64 (v ((fi + i) % m)).at_, .int .i64 (v ((fi + i) % m)).n], .bool true]) ∧ Below w.heap.size w w' := by
 have hc := h.cm; have hn := h.mn; have hs := h.sm
 have hf : fi < m := by rcases h.fm with h | h <;> omega
 obtain ⟨G, rfl, hG, hGH, hrow⟩ := h.row (by omega)
 have hbox := h.box
 obtain ⟨q, hq⟩ : ∃ q, q = (fi + i) % m := ⟨_, rfl⟩
 have hqm : q < m := by rw [hq]; exact Nat.mod_lt _ (by omega)
 have HP : Hid (∀ W : World, W.heap[H]? = w.heap[H]? → Calls Tryz.prog 183 #[.pointer (some ⟨H, 0, none⟩), .int .i64 i] W fun e w' => e = .returned (.int .i64 q) ∧ ∃ d, w' = W.drewN d) := Lib.hid (fun W hW => by rw [hq]; exact rqplace_any W H _ _ fi m cap i _ (hW.trans hbox) hf (by omega) (by omega))
 rw [← hq]
 have HH : Hid (∀ W : World, W.heap[H]? = w.heap[H]? → Calls Tryz.prog 182 #[.pointer (some ⟨H, 0, none⟩), .int .i64 i] W fun e w' => e = .returned (.bool true) ∧ w' = W) := Lib.hid (fun W hW => by
  have := rqhas_any W _ c i (Lib.hid (rqlen_box W H _ _ _ _ (hW.trans hbox)))
  rw [show hasQ c i = true by unfold hasQ; rw [decide_eq_true (by omega), decide_eq_true (by omega)]; rfl] at this
  exact this)
 have l0 : (0 : Int) ≤ (q : Int) := by omega
 have l1 : (q : Int) < (m : Int) := by omega
 obtain ⟨x0, x1, hx0, hx1⟩ : ∃ x0 x1, x0 = (v q).at_ ∧ x1 = (v q).n := ⟨_, _, rfl, rfl⟩
 obtain ⟨E, hE⟩ : ∃ E, E = w.heap.size := ⟨_, rfl⟩
 obtain ⟨V, hV⟩ : ∃ V, V = w.alloc (.cells #[.int .i64 0, .int .i64 0] 153) := ⟨_, rfl⟩
 have hbV : Below w.heap.size w V := by rw [hV]; exact below1 _ _
 have hEV : V.heap[E]? = some (.cells #[.int .i64 0, .int .i64 0] 153 (0, 0)) := by rw [hV, hE]; exact heap_alloc_new _ _
 have hVH : V.heap[H]? = w.heap[H]? := hbV.block H (h.lt H h.own)
 obtain ⟨c0, c1, cf⟩ := (hrow.same (hbV.block G (h.lt G hG))).at_ hqm
 rw [← hx0] at c0 ⊢
 rw [← hx1] at c1 ⊢
 have b3 : V.cell? ⟨H, 3, none⟩ = some (.slice (some ⟨G, 0, none⟩) m cap) := cell_in (hVH.trans hbox) rfl
 have HBV := Lib.hid hbV
 have HEV := Lib.hid hEV
 have HVH := Lib.hid hVH
 have HV := Lib.hid hV
 have HE := Lib.hid hE
 have r0 := cell_in (j := 0) hEV rfl
 have r1 := cell_in (j := 1) hEV rfl
 have q0 := free_in hEV 0
 have q1 := free_in hEV 1
 have hHE : H ≠ E := by have := h.lt H h.own; omega
 have hGE : G ≠ E := by have := h.lt G hG; omega
 have c2 : V.cell? ⟨G, q * 2, none⟩ = some (.int .i64 x0) := c0
 have KS : Hid (∀ W : World, W.heap = V.heap → (W.cell? ⟨H, 3, none⟩ = some (.slice (some ⟨G, 0, none⟩) m cap) ∧ W.cell? ⟨G, q * 2, none⟩ = some (.int .i64 x0) ∧ W.cell? ⟨G, q * 2 + 1, none⟩ = some (.int .i64 x1)) ∧ W.cell? ⟨E, 0, none⟩ = some (.int .i64 0) ∧ W.cell? ⟨E, 1, none⟩ = some (.int .i64 0) ∧ W.frozen? ⟨E, 0, none⟩ = false ∧ W.frozen? ⟨E, 1, none⟩ = false ∧ W.heap[H]? = w.heap[H]? ∧ W.heap[E]? = some (.cells #[.int .i64 0, .int .i64 0] 153 (0, 0))) := Lib.hid (fun W hW => by
  have k : ∀ p, W.cell? p = V.cell? p := fun p => World.cell?_of_block (w := V) (by rw [hW])
  exact ⟨⟨(k _).trans b3, (k _).trans c0, (k _).trans c1⟩, (k _).trans r0, (k _).trans r1, free_in (by rw [hW]; exact hEV) _, free_in (by rw [hW]; exact hEV) _, by rw [hW]; exact hVH, by rw [hW]; exact hEV⟩)
 have KT : Hid (∀ W : World, W.heap = V.heap → ((W.setCell ⟨E, 0, none⟩ (.int .i64 x0)).setCell ⟨E, 1, none⟩ (.int .i64 x1)).cell? ⟨H, 3, none⟩ = some (.slice (some ⟨G, 0, none⟩) m cap) ∧ ((W.setCell ⟨E, 0, none⟩ (.int .i64 x0)).setCell ⟨E, 1, none⟩ (.int .i64 x1)).cell? ⟨G, q * 2, none⟩ = some (.int .i64 x0) ∧ ((W.setCell ⟨E, 0, none⟩ (.int .i64 x0)).setCell ⟨E, 1, none⟩ (.int .i64 x1)).cell? ⟨G, q * 2 + 1, none⟩ = some (.int .i64 x1)) := Lib.hid (fun W hW => by
  have k : ∀ b j, b ≠ E → ((W.setCell ⟨E, 0, none⟩ (.int .i64 x0)).setCell ⟨E, 1, none⟩ (.int .i64 x1)).cell? ⟨b, j, none⟩ = V.cell? ⟨b, j, none⟩ := fun b j hb => World.cell?_of_block (w := V) (by
   rw [Below.heap_setCell _ ⟨E, 1, none⟩ _ b hb, Below.heap_setCell _ ⟨E, 0, none⟩ _ b hb, hW])
  exact ⟨(k _ _ hHE).trans b3, (k _ _ hGE).trans c0, (k _ _ hGE).trans c1⟩)
 clear h hq hrow hbox hx0 hx1 hV hE hEV hbV hVH c2
 go_enter Tryz.func148, Tryz.ntmps148
 go_upto_region 1 with fail
 rw [← HV.out, ← HE.out]
 go_wp2_with (first
  | (go_at_call 182; refine (HH.out _ HVH.out).mono ?_; rintro e w3 ⟨rfl, hw3⟩; rw [hw3]; clear hw3)
  | fail "no arm")
 go_region_held3 (fun W => W.cell? ⟨H, 3, none⟩ = some (.slice (some ⟨G, 0, none⟩) m cap) ∧ W.cell? ⟨G, q * 2, none⟩ = some (.int .i64 x0) ∧ W.cell? ⟨G, q * 2 + 1, none⟩ = some (.int .i64 x1))
  (first | exact (KS.out _ (by rfl)).1 | exact (KS.out _ (hw4.out)).1 | exact KT.out _ hw4.out | fail "no keep")
  (first | (go_at_call 183; refine (HP.out _ (KS.out _ (by rfl)).2.2.2.2.2.1).mono ?_; rintro e w4 ⟨rfl, d, hd⟩; have hw4 : Hid (w4.heap = V.heap) := Lib.hid (by rw [hd]; rfl); have hb4 : Hid (Below V.heap.size V w4) := Lib.hid (by rw [hd]; exact below_drewQ _ (below_drewQ 1 (Below.refl _ _))); obtain ⟨⟨k0, k1, k2⟩, k3, k4, k5, k6, k7, k8⟩ := KS.out _ hw4.out; clear k7 hd) | fail "no arm")
 go_wp2_with fail
 refine bodyPost_ret (results_pairT (P := Tryz.prog) rfl _ _ E _ _ (0, 0) _ _ rfl rfl (set2q k8 rfl (.int .i64 x0) (.int .i64 x1)) Tryz.underlying153 rfl Tryz.sizeRq) rfl ?_
 exact ⟨rfl, ((HBV.out.trans (hb4.out.mono HBV.out.size)).setCell (p := ⟨E, 0, none⟩) (Nat.le_of_eq HE.out.symm) _).setCell (p := ⟨E, 1, none⟩) (Nat.le_of_eq HE.out.symm) _⟩
set_option maxRecDepth 100000 in
set_option maxHeartbeats 4000000 in
theorem rqset_yes (w : World) (H : Nat) (S : Nat → Prop) (n : Int) (fi c m cap : Nat) (ao : Option Addr) (v : Nat → Bk) (h : RqAt w H S n fi c m cap ao v) (i : Nat) (hi : i < c) (x0 x1 : Int) : Calls Tryz.prog 149 #[.pointer (some ⟨H, 0, none⟩), .int .i64 i, .agg #[.int .i64 x0, .int .i64 x1]] w fun e w' => e = .returned (.bool true) ∧ RqAt w' H S n fi c m cap ao (updF v ((fi + i) % m) ⟨x0, x1⟩) ∧ GrowS S S w w' := by
 have hc := h.cm; have hn := h.mn; have hs := h.sm
 have hf : fi < m := by rcases h.fm with h | h <;> omega
 obtain ⟨G, rfl, hG, hGH, hrow⟩ := h.row (by omega)
 have hbox := h.box
 obtain ⟨q, hq⟩ : ∃ q, q = (fi + i) % m := ⟨_, rfl⟩
 have hqm : q < m := by rw [hq]; exact Nat.mod_lt _ (by omega)
 have HP : Hid (∀ W : World, W.heap[H]? = w.heap[H]? → Calls Tryz.prog 183 #[.pointer (some ⟨H, 0, none⟩), .int .i64 i] W fun e w' => e = .returned (.int .i64 q) ∧ ∃ d, w' = W.drewN d) := Lib.hid (fun W hW => by rw [hq]; exact rqplace_any W H _ _ fi m cap i _ (hW.trans hbox) hf (by omega) (by omega))
 rw [← hq]
 have HH : Hid (∀ W : World, W.heap[H]? = w.heap[H]? → Calls Tryz.prog 182 #[.pointer (some ⟨H, 0, none⟩), .int .i64 i] W fun e w' => e = .returned (.bool true) ∧ w' = W) := Lib.hid (fun W hW => by
  have := rqhas_any W _ c i (Lib.hid (rqlen_box W H _ _ _ _ (hW.trans hbox)))
  rw [show hasQ c i = true by unfold hasQ; rw [decide_eq_true (by omega), decide_eq_true (by omega)]; rfl] at this
  exact this)
 have l0 : (0 : Int) ≤ (q : Int) := by omega
 have l1 : (q : Int) < (m : Int) := by omega
 obtain ⟨E, hE⟩ : ∃ E, E = w.heap.size := ⟨_, rfl⟩
 obtain ⟨V, hV⟩ : ∃ V, V = w.alloc (.cells #[.int .i64 x0, .int .i64 x1] 153) := ⟨_, rfl⟩
 have hbV : Below w.heap.size w V := by rw [hV]; exact below1 _ _
 have hEV : V.heap[E]? = some (.cells #[.int .i64 x0, .int .i64 x1] 153 (0, 0)) := by rw [hV, hE]; exact heap_alloc_new _ _
 have hVH : V.heap[H]? = w.heap[H]? := hbV.block H (h.lt H h.own)
 obtain ⟨c0, c1, cf⟩ := (hrow.same (hbV.block G (h.lt G hG))).at_ hqm
 obtain ⟨y0, hy0⟩ : ∃ y0, y0 = (v q).at_ := ⟨_, rfl⟩
 obtain ⟨y1, hy1⟩ : ∃ y1, y1 = (v q).n := ⟨_, rfl⟩
 rw [← hy0] at c0
 rw [← hy1] at c1
 have b3 : V.cell? ⟨H, 3, none⟩ = some (.slice (some ⟨G, 0, none⟩) m cap) := cell_in (hVH.trans hbox) rfl
 have HBV := Lib.hid hbV
 have HVH := Lib.hid hVH
 have HV := Lib.hid hV
 have HE := Lib.hid hE
 have r0 := cell_in (j := 0) hEV rfl
 have r1 := cell_in (j := 1) hEV rfl
 have hHE : H ≠ E := by have := h.lt H h.own; omega
 have hGE : E ≠ G := by have := h.lt G hG; omega
 have hHG : H ≠ G := fun e => hGH e.symm
 have KS : Hid (∀ W : World, W.heap = V.heap → (W.cell? ⟨H, 3, none⟩ = some (.slice (some ⟨G, 0, none⟩) m cap) ∧ W.cell? ⟨E, 0, none⟩ = some (.int .i64 x0) ∧ W.cell? ⟨E, 1, none⟩ = some (.int .i64 x1)) ∧ W.cell? ⟨G, q * 2, none⟩ = some (.int .i64 y0) ∧ W.cell? ⟨G, q * 2 + 1, none⟩ = some (.int .i64 y1) ∧ W.frozen? ⟨G, q * 2, none⟩ = false ∧ W.frozen? ⟨G, q * 2 + 1, none⟩ = false ∧ W.heap[H]? = w.heap[H]?) := Lib.hid (fun W hW => by
  have k : ∀ p, W.cell? p = V.cell? p := fun p => World.cell?_of_block (w := V) (by rw [hW])
  exact ⟨⟨(k _).trans b3, (k _).trans r0, (k _).trans r1⟩, (k _).trans c0, (k _).trans c1, by simp only [World.frozen?, hW]; exact cf _, by simp only [World.frozen?, hW]; exact cf _, by rw [hW]; exact hVH⟩)
 have KT : Hid (∀ W : World, W.heap = V.heap → ((W.setCell ⟨G, q * 2, none⟩ (.int .i64 x0)).setCell ⟨G, q * 2 + 1, none⟩ (.int .i64 x1)).cell? ⟨H, 3, none⟩ = some (.slice (some ⟨G, 0, none⟩) m cap) ∧ ((W.setCell ⟨G, q * 2, none⟩ (.int .i64 x0)).setCell ⟨G, q * 2 + 1, none⟩ (.int .i64 x1)).cell? ⟨E, 0, none⟩ = some (.int .i64 x0) ∧ ((W.setCell ⟨G, q * 2, none⟩ (.int .i64 x0)).setCell ⟨G, q * 2 + 1, none⟩ (.int .i64 x1)).cell? ⟨E, 1, none⟩ = some (.int .i64 x1)) := Lib.hid (fun W hW => by
  have k : ∀ b j, b ≠ G → ((W.setCell ⟨G, q * 2, none⟩ (.int .i64 x0)).setCell ⟨G, q * 2 + 1, none⟩ (.int .i64 x1)).cell? ⟨b, j, none⟩ = V.cell? ⟨b, j, none⟩ := fun b j hb => World.cell?_of_block (w := V) (by
   rw [Below.heap_setCell _ ⟨G, q * 2 + 1, none⟩ _ b hb, Below.heap_setCell _ ⟨G, q * 2, none⟩ _ b hb, hW])
  exact ⟨(k _ _ hHG).trans b3, (k _ _ hGE).trans r0, (k _ _ hGE).trans r1⟩)
 have HFIN : Hid (∀ W : World, Below V.heap.size V W → RqAt ((W.setCell ⟨G, q * 2, none⟩ (.int .i64 x0)).setCell ⟨G, q * 2 + 1, none⟩ (.int .i64 x1)) H S n fi c m cap (some ⟨G, 0, none⟩) (updF v q ⟨x0, x1⟩) ∧ GrowS S S w ((W.setCell ⟨G, q * 2, none⟩ (.int .i64 x0)).setCell ⟨G, q * 2 + 1, none⟩ (.int .i64 x1))) := Lib.hid (fun W hW => by
  have hbW := hbV.trans (hW.mono hbV.size)
  have hr := h.later hbW
  obtain ⟨G', e1, _, _, hrow'⟩ := hr.row (by omega)
  cases e1
  have hB : But G W ((W.setCell ⟨G, q * 2, none⟩ (.int .i64 x0)).setCell ⟨G, q * 2 + 1, none⟩ (.int .i64 x1)) := ((But.refl G W).set _ _).set _ _
  have hz : ((W.setCell ⟨G, q * 2, none⟩ (.int .i64 x0)).setCell ⟨G, q * 2 + 1, none⟩ (.int .i64 x1)).heap.size = W.heap.size := by simp
  have hsz := hbW.size
  refine ⟨{ hr with box := (hB.block H (hr.lt H hr.own) hGH.symm).trans hr.box, row := fun _ => ⟨G, rfl, hG, hGH, hrow'.set hqm ⟨x0, x1⟩⟩, lt := fun k hk => by rw [hz]; exact hr.lt k hk }, ⟨hB.os.trans hbW.os, hB.tape.trans hbW.tape, hB.output.trans hbW.output, by rw [hz]; exact hsz, fun k hk hS => (hB.block k (by omega) (fun e => hS (e ▸ hG))).trans (hbW.block k hk), fun k hk => .inl hk⟩⟩)
 clear h hq hrow hbox hy0 hy1 hV hE hEV hbV hVH cf
 go_enter Tryz.func149, Tryz.ntmps149
 go_upto_region 1 with fail
 rw [← HV.out, ← HE.out]
 go_wp2_with (first
  | (go_at_call 182; refine (HH.out _ HVH.out).mono ?_; rintro e w3 ⟨rfl, hw3⟩; rw [hw3]; clear hw3)
  | fail "no arm")
 go_region_held3 (fun W => W.cell? ⟨H, 3, none⟩ = some (.slice (some ⟨G, 0, none⟩) m cap) ∧ W.cell? ⟨E, 0, none⟩ = some (.int .i64 x0) ∧ W.cell? ⟨E, 1, none⟩ = some (.int .i64 x1))
  (first | exact (KS.out _ (by rfl)).1 | exact (KS.out _ (hw4.out)).1 | exact KT.out _ hw4.out | fail "no keep")
  (first | (go_at_call 183; refine (HP.out _ (KS.out _ (by rfl)).2.2.2.2.2).mono ?_; rintro e w4 ⟨rfl, d, hd⟩; have hw4 : Hid (w4.heap = V.heap) := Lib.hid (by rw [hd]; rfl); have hb4 : Hid (Below V.heap.size V w4) := Lib.hid (by rw [hd]; exact below_drewQ _ (below_drewQ 1 (Below.refl _ _))); obtain ⟨⟨k0, k1, k2⟩, k3, k4, k5, k6, k7⟩ := KS.out _ hw4.out; clear k7 hd) | fail "no arm")
 go_wp2_with fail
 go_ret
 exact ⟨rfl, HFIN.out _ hb4.out⟩
end Go.Proofs.YtchbehnkkcjdgaaGreat
namespace Go.Proofs.YtchbehnkkcjdgaaGreat
open Go.ChangeShapes Go.WideShapes Go.ChangeAt Go.RowKit
set_option linter.unusedVariables false
/-- f up to k, z from there on. -/
def partQ {α : Type} (f : Nat → α) (z : α) (k : Nat) : Nat → α := fun j => if j < k then f j else z
theorem partQ_next {α : Type} (f : Nat → α) (z : α) (k : Nat) : updF (partQ f z k) k (f k) = partQ f z (k + 1) := by
 funext j
 unfold updF partQ
 by_cases h : j = k
 ·subst h; simp
 ·rw [if_neg h]
  by_cases h1 : j < k
  ·rw [if_pos h1, if_pos (by omega)]
  ·rw [if_neg h1, if_neg (by omega)]
theorem made2 (n j : Nat) (hj : j < n * 2) : (madeCells (Value.agg #[.int .i64 0, .int .i64 0]).cells (n * 2))[j]? = some (.int .i64 0) := by
 rcases (show j % 2 = 0 ∨ j % 2 = 1 by omega) with e | e <;> simp [madeCells, Value.cells, hj, e]
theorem Row2.made {w : World} {B G n : Nat} (h : w.ownsRow B 153 2 (.slice (some ⟨G, 0, none⟩) n n) n (madeCells (Value.agg #[.int .i64 0, .int .i64 0]).cells (n * 2)).toList) : Row2 153 w G n (fun _ => zBk) ∧ B ≤ G := by
 rcases h.2 with ⟨h0, _⟩ | ⟨G', cap', cur, hv, hb, hg, e1, e2, e3, e4⟩
 ·cases h0
 ·cases hv
  have hx : ∀ j, j < n * 2 → cur[j]? = some (.int .i64 0) := fun j hj => by
   have h5 : ((madeCells (Value.agg #[.int .i64 0, .int .i64 0]).cells (n * 2)).toList)[j]? = some (.int .i64 0) := by
    have := made2 n j hj
    simpa using this
   rw [← e4, List.getElem?_take_of_lt hj] at h5
   simpa using h5
  exact ⟨⟨cur, hg, by omega, fun i hi => ⟨hx _ (by omega), hx _ (by omega)⟩⟩, hb⟩
theorem run_copy_row2 {P : Program} (w : World) (dT sT ty elem : TypeId) (g o dLen dCap : Nat) (a : Addr) (sLen sCap : Nat) (cur : Array Value) (t : TypeId) (cs : List Value)
 (hu : P.underlying dT = some (.slice elem)) (hs : (P.info? elem).map (·.size) = some 2)
 (hg : w.heap[g]? = some (.cells cur t (0, 0))) (hn : cs.length = Nat.min sLen dLen * 2)
 (hsrc : ∀ j v, cs[j]? = some v → w.cell? (a.add j) = some v) (hfit : o + cs.length ≤ cur.size) (h1 : ∀ v ∈ cs, v.oneCell' = true) :
 (Builtin.copy_ #[dT, sT] ty #[.slice (some ⟨g, o, none⟩) dLen dCap, .slice (some a) sLen sCap]).run P w =
   .ok (goInt (Nat.min sLen dLen)) (w.setRow g (cur.toList.take o ++ cs ++ cur.toList.drop (o + cs.length)).toArray) := by
 have hl := run_loadCells_list (P := P) w a cs hsrc
 have hst := run_storeCells_at P g o t cs 0 cur w hg (by simpa using hfit) h1
 cases hq : P.info? elem with
 | none => simp [hq] at hs
 | some i =>
   have hi : i.size = 2 := by simpa [hq] using hs
   simp [Builtin.copy_, run_underlying hu, Builtin.lenOf, Builtin.firstCells, sizeOf, typeInfo, hq, hi, ← hn, hl, hst]
theorem pairs_at (f : Nat → Bk) (c j : Nat) (x : Value) : (((List.range c).map f).flatMap Bk.cells)[j]? = some x → ∃ i, i < c ∧ ((j = i * 2 ∧ x = .int .i64 (f i).at_) ∨ (j = i * 2 + 1 ∧ x = .int .i64 (f i).n)) := by
 intro h
 have hlt := (List.getElem?_eq_some_iff.1 h).1
 rw [flat_len Bk.cells 2 (fun _ => rfl), List.length_map, List.length_range] at hlt
 have hi : j / 2 < c := by omega
 have hx : ((List.range c).map f)[j / 2]? = some (f (j / 2)) := by simp [hi]
 have a0 := flat_at Bk.cells 2 (fun _ => rfl) _ (j / 2) (j % 2) _ hx (by omega)
 rw [show j / 2 * 2 + j % 2 = j by omega, h] at a0
 refine ⟨j / 2, hi, ?_⟩
 rcases (show j % 2 = 0 ∨ j % 2 = 1 by omega) with e | e
 ·rw [e] at a0
  exact .inl ⟨by omega, by cases a0; rfl⟩
 ·rw [e] at a0
  exact .inr ⟨by omega, by cases a0; rfl⟩
theorem rqcopy {A : World} {G G2 M c : Nat} {u f : Nat → Bk} (hG : Row2 153 A G M u) (h2 : Row2 153 A G2 c f) (hc : c ≤ M) :
 ∃ A', (Builtin.copy_ #[199, 199] 3 #[.slice (some ⟨G, 0, none⟩) M M, .slice (some ⟨G2, 0, none⟩) c c]).run Tryz.prog A = .ok (.int .i64 c) A' ∧ Row2 153 A' G M (fun j => if j < c then f j else u j) ∧ ∀ B w, B ≤ G → Below B w A → Below B w A' := by
 obtain ⟨cur, g1, g2, g3⟩ := hG
 have hl : (((List.range c).map f).flatMap Bk.cells).length = c * 2 := by rw [flat_len Bk.cells 2 (fun _ => rfl)]; simp
 have hmin : Nat.min c M = c := Nat.min_eq_left hc
 have h := run_copy_row2 (P := Tryz.prog) A 199 199 3 153 G 0 M M ⟨G2, 0, none⟩ c c cur 153 (((List.range c).map f).flatMap Bk.cells) Tryz.underlying199 Tryz.sizeRq g1 (by rw [hl, hmin])
  (fun j x hj => by
    rw [add_at, Nat.zero_add]
    obtain ⟨i, hi, ⟨rfl, rfl⟩ | ⟨rfl, rfl⟩⟩ := pairs_at f c j x hj
    ·exact (h2.at_ hi).1
    ·exact (h2.at_ hi).2.1) (by rw [hl]; omega) (by
    intro x hx
    obtain ⟨y, _, hy⟩ := List.mem_flatMap.1 hx
    simp [Bk.cells] at hy
    rcases hy with rfl | rfl <;> rfl)
 refine ⟨_, h.trans (by rw [hmin]; rfl), ?_, fun B w hB hb => below_setRow hb hB _⟩
 refine ⟨_, setRow_heap A G cur _ 153 _ g1, by simp [hl]; omega, fun i hi => ?_⟩
 obtain ⟨h3, h4⟩ := g3 i hi
 simp only [List.take_zero, List.nil_append, Nat.zero_add, List.getElem?_toArray]
 by_cases e : i < c
 ·rw [if_pos e]
  have hx : ((List.range c).map f)[i]? = some (f i) := by simp [e]
  rw [List.getElem?_append_left (by rw [hl]; omega), List.getElem?_append_left (by rw [hl]; omega)]
  have a0 := flat_at Bk.cells 2 (fun _ => rfl) _ i 0 _ hx (by omega)
  have a1 := flat_at Bk.cells 2 (fun _ => rfl) _ i 1 _ hx (by omega)
  exact ⟨a0, a1⟩
 ·rw [if_neg e, List.getElem?_append_right (by rw [hl]; omega), List.getElem?_append_right (by rw [hl]; omega), hl, List.getElem?_drop, List.getElem?_drop, show c * 2 + (i * 2 - c * 2) = i * 2 by omega, show c * 2 + (i * 2 + 1 - c * 2) = i * 2 + 1 by omega]
  exact ⟨by simpa using h3, by simpa using h4⟩
set_option maxRecDepth 100000 in
set_option maxHeartbeats 4000000 in
theorem rqall_any (w : World) (H : Nat) (S : Nat → Prop) (n : Int) (fi c m cap : Nat) (ao : Option Addr) (v : Nat → Bk) (h : RqAt w H S n fi c m cap ao v) : Calls Tryz.prog 191 #[.pointer (some ⟨H, 0, none⟩)] w fun e w' => ∃ G, e = .returned (.slice (some ⟨G, 0, none⟩) c c) ∧ w.heap.size ≤ G ∧ Row2 153 w' G c (fun j => v ((fi + j) % m)) ∧ Below w.heap.size w w' := by
 have hcm := h.cm; have hn := h.mn; have hs := h.sm
 have HL := Lib.hid (rqlen_box w H _ _ _ _ h.box)
 have HQ := Lib.hid h
 obtain ⟨f, hf⟩ : ∃ f : Nat → Bk, f = fun j => v ((fi + j) % m) := ⟨_, rfl⟩
 have HA : Hid (∀ W : World, Below w.heap.size w W → ∀ i : Nat, i < c → Calls Tryz.prog 148 #[.pointer (some ⟨H, 0, none⟩), .int .i64 i] W fun e w' => e = .returned (.tuple #[.agg #[.int .i64 (f i).at_, .int .i64 (f i).n], .bool true]) ∧ Below W.heap.size W w') := Lib.hid (fun W hW i hi => by rw [hf]; exact rqat_yes W H S n fi c m cap ao v (h.later hW) i hi)
 obtain ⟨i0, hi, hz0, hz1, hz2⟩ := info_parts Tryz.infoRq
 have HI := Lib.hid hi
 obtain ⟨G, hGe⟩ : ∃ G, G = w.heap.size := ⟨_, rfl⟩
 have HGE := Lib.hid hGe
 rw [← hf]
 clear h hi hf hGe
 go_enter Tryz.func191, Tryz.ntmps191
 go_wp2_with (first
  | (refine wpList_make_full _ (by rfl) (.tmp 6) (.tmp 6) 199 (by rfl) w.heap.size 153 i0 _ 2 Tryz.underlying199 HI.out hz0 hz1 _ _ c c c (by rfl) (by rfl) rfl rfl (by rw [hz2]; omega) (by simp [maxLen]; omega) (Nat.le_refl _) ?_
     intro w2 hown2 hgrow2
     have HB2 : Hid (Below w.heap.size w w2) := Lib.hid ⟨hgrow2.os, hgrow2.tape, hgrow2.output, hgrow2.size, fun k hk => hgrow2.block k hk (by simp)⟩
     have HR2 := Lib.hid (Row2.made hown2).1
     rw [← HGE.out] at HR2 ⊢
     clear hown2 hgrow2)
  | (go_at_call 81; refine HL.out.mono ?_; rintro e w3 ⟨rfl, hw3⟩; rw [hw3]; clear hw3)
  | fail "no arm")
 go_loopw [10] (fun s wr => ∃ k : Nat, k ≤ c ∧ s = .int .i64 k ∧ Hid (Row2 153 wr G c (partQ f zBk k)) ∧ Hid (Below w.heap.size w wr)) (fun s _ => c - (intOf s).toNat)
 case atStart => exact ⟨0, Nat.zero_le _, rfl, Lib.hid (HR2.out.congr fun j hj => rfl), HB2⟩
 case round =>
  obtain ⟨k, hk, rfl, HR, HB⟩ := hrel
  by_cases hlt : k < c
  ·have l0 : decide ((k : Int) < (c : Int)) = true := decide_eq_true (by omega)
   have l1 : (0 : Int) ≤ (k : Int) := by omega
   have l2 : (k : Int) < (c : Int) := by omega
   go_wp2_with (first
    | (go_at_call 148
       refine (HA.out _ HB.out k hlt).mono ?_
       rintro e w5 ⟨rfl, hw5⟩
       have HR5 : Hid (Row2 153 w5 G c (partQ f zBk k)) := Lib.hid (HR.out.same (hw5.block G HR.out.lt))
       have HB5 : Hid (Below w.heap.size w w5) := Lib.hid (HB.out.trans (hw5.mono HB.out.size))
       obtain ⟨q0, q1, q2⟩ := HR5.out.at_ hlt
       have q3 := q2 (k * 2)
       have q4 := q2 (k * 2 + 1)
       clear hw5 q2)
    | fail "no arm")
   go_roundw
   case rel => exact ⟨k + 1, by omega, by go_num, Lib.hid (by have hh := HR5.out.set hlt (f k); rw [partQ_next] at hh; exact hh), Lib.hid ((HB5.out.setCell (p := ⟨G, k * 2, none⟩) (Nat.le_of_eq HGE.out.symm) _).setCell (p := ⟨G, k * 2 + 1, none⟩) (Nat.le_of_eq HGE.out.symm) _)⟩
   case measure => simp [intOf]; omega
  ·have l0 : decide ((k : Int) < (c : Int)) = false := decide_eq_false (by omega)
   have HKC : Hid (k = c) := Lib.hid (by omega)
   go_wp2_with fail
   go_ret
   exact ⟨G, rfl, Nat.le_of_eq HGE.out.symm, HR.out.congr fun j hj => by unfold partQ; rw [if_pos (by have := HKC.out; omega)], HB.out⟩
def rowObj_q (M : Nat) : Obj := .cells (madeCells (Value.agg #[.int .i64 0, .int .i64 0]).cells (M * 2)) 153
theorem rowObj_row_q {W : World} {G M : Nat} (h : W.heap[G]? = some (rowObj_q M)) : Row2 153 W G M (fun _ => zBk) :=
 ⟨_, h, by simp [madeCells], fun i hi => ⟨made2 M _ (by omega), made2 M _ (by omega)⟩⟩
theorem run_make_q (M : Nat) (hM : M ≤ 4096) (W : World) : (Instr.makeSlice 199 (.int .i64 (M : Int)) (.int .i64 (M : Int))).run Tryz.prog W = .ok (.slice (some ⟨W.heap.size, 0, none⟩) M M) (W.alloc (rowObj_q M)) := by
 obtain ⟨i0, hi0, hz0, hz1, hz2⟩ := info_parts Tryz.infoRq
 have h := run_make (P := Tryz.prog) W 199 153 i0 _ Tryz.underlying199 hi0 hz0 .i64 .i64 (M : Int) (M : Int) (by omega) (by omega) (by rw [hz2]; omega) (by omega)
 rw [h, hz1]
 rfl
theorem ringL_fromQ {α : Type} {v v' : Nat → α} {fi m M : Nat} (hM : m < M) (h : ∀ j, j < m → v' j = v ((fi + j) % m)) : ringL v' 0 M m = ringL v fi m m := by
 unfold ringL
 apply List.map_congr_left
 intro j hj
 have hj' := List.mem_range.1 hj
 rw [Nat.zero_add, Nat.mod_eq_of_lt (by omega)]
 exact h j hj'
theorem hr3_q {W w5 : World} {G M : Nat} {u : Nat → Bk} (h : Row2 153 W G M u) (hG : G < W.heap.size) (hb : Below W.heap.size W w5) : Row2 153 w5 G M u := h.same (hb.block G hG)
set_option maxRecDepth 100000 in
set_option maxHeartbeats 4000000 in
theorem rqgrow_any (w : World) (H : Nat) (S : Nat → Prop) (n : Int) (fi m cap : Nat) (ao : Option Addr) (v : Nat → Bk) (h : RqAt w H S n fi m m cap ao v) (hlt : (m : Int) < n) : Calls Tryz.prog 166 #[.pointer (some ⟨H, 0, none⟩)] w fun e w' => ∃ (S' : Nat → Prop) (M : Nat) (ao' : Option Addr) (v' : Nat → Bk), e = .returned (.tuple #[]) ∧ RqAt w' H S' n 0 m M M ao' v' ∧ m < M ∧ ringL v' 0 M m = ringL v fi m m ∧ GrowS S S' w w' := by
 have hs := h.sm
 have hbox := h.box
 have HQ := Lib.hid h
 have KS : Hid (∀ W : World, Below w.heap.size w W → W.cell? ⟨H, 0, none⟩ = some (.int .i64 n) ∧ W.cell? ⟨H, 2, none⟩ = some (.int .i64 m)) := Lib.hid (fun W hW => by
  have hb := (h.later hW).box
  exact ⟨cell_in hb rfl, cell_in hb rfl⟩)
 have KT : Hid (∀ W : World, Below w.heap.size w W → W.frozen? ⟨H, 1, none⟩ = false ∧ W.frozen? ⟨H, 3, none⟩ = false ∧ (∃ u, W.cell? ⟨H, 1, none⟩ = some u) ∧ (∃ u, W.cell? ⟨H, 3, none⟩ = some u)) := Lib.hid (fun W hW => by
  have hb := (h.later hW).box
  exact ⟨free_in hb _, free_in hb _, ⟨_, cell_in hb rfl⟩, ⟨_, cell_in hb rfl⟩⟩)
 obtain ⟨b0, b2⟩ := KS.out _ (Below.refl _ _)
 obtain ⟨G, hGe⟩ : ∃ G, G = w.heap.size := ⟨_, rfl⟩
 have HGE := Lib.hid hGe
 have hHG : H ≠ G := by have := h.lt H h.own; omega
 have HAL : Hid (∀ W : World, Below w.heap.size w W → Calls Tryz.prog 191 #[.pointer (some ⟨H, 0, none⟩)] W fun e w' => ∃ G2, e = .returned (.slice (some ⟨G2, 0, none⟩) m m) ∧ W.heap.size ≤ G2 ∧ Row2 153 w' G2 m (fun j => v ((fi + j) % m)) ∧ Below W.heap.size W w') := Lib.hid (fun W hW => rqall_any W H S n fi m m cap ao v (h.later hW))
 clear h hbox hGe
 rcases (show (m = 0 ∧ n = 1) ∨ (m = 0 ∧ 1 < n) ∨ (1 ≤ m ∧ 2 * (m : Int) ≤ n) ∨ (1 ≤ m ∧ n < 2 * (m : Int)) by omega) with ⟨g1, g2⟩ | ⟨g1, g2⟩ | ⟨g1, g2⟩ | ⟨g1, g2⟩
 ·obtain ⟨M, hM, hM1, hM2⟩ : ∃ M : Nat, M = 1 ∧ m < M ∧ (M : Int) ≤ n := ⟨1, by omega, by omega, by omega⟩
  have g3 : (M : Int) ≤ 4096 := by omega
  have hmk := run_make_q M (by omega)
  have HM := Lib.hid (And.intro hM1 hM2)
  have k0 : (0 : Int) ≤ 2 * (m : Int) := by omega
  subst hM; subst g1; subst g2
  rw [show ((1 : Nat) : Int) = 1 from rfl] at hmk
  clear hM1 hM2
  have w0 : IntKind.i64.wrap 0 = 0 := by decide
  have x1 : max (0 : Int) 1 = 1 := by decide
  have x2 : min (1 : Int) 1 = 1 := by decide
  go_enter Tryz.func166, Tryz.ntmps166
  go_wp2_with fail
  go_region_held3 (fun W => W.cell? ⟨H, 0, none⟩ = some (.int .i64 1) ∧ W.cell? ⟨H, 2, none⟩ = some (.int .i64 0))
   (first | exact KS.out _ (Below.refl _ _).drew | exact KS.out _ (b_alloc (Below.refl _ _).drew (Nat.le_refl _) _) | fail "no keep") (fail)
  rw [← HGE.out]
  obtain ⟨V, hV⟩ : ∃ V, V = (w.alloc (rowObj_q 1)).drew := ⟨_, rfl⟩
  have HB3 : Hid (Below w.heap.size w V) := Lib.hid (by rw [hV]; exact (below1 _ _).drew)
  have HR3 : Hid (Row2 153 V G 1 (fun _ => zBk)) := Lib.hid (rowObj_row_q (by rw [HGE.out, hV]; exact heap_alloc_new w _))
  have HZ3 : Hid (G < V.heap.size) := Lib.hid (by rw [HGE.out, hV, heap_drew]; simp)
  rw [← hV]
  clear hV
  go_wp2_with (first
   | (go_at_call 191
      refine (HAL.out _ HB3.out).mono ?_
      rintro e w5 ⟨G2, rfl, hG2, hr5, hb5⟩
      obtain ⟨A', hcopy, hr6, hb6⟩ := rqcopy (hr3_q HR3.out HZ3.out hb5) hr5 (Nat.le_of_lt HM.out.1)
      have HR6 := Lib.hid hr6
      have HB6 : Hid (Below w.heap.size w A') := Lib.hid (hb6 _ _ (Nat.le_of_eq HGE.out.symm) (HB3.out.trans (hb5.mono HB3.out.size)))
      obtain ⟨q0, q1, ⟨u1, q2⟩, ⟨u3, q3⟩⟩ := KT.out _ HB6.out
      clear hG2 hr5 hb5 hr6 hb6)
   | fail "no arm")
  go_end0
  have hh := (HQ.out).slots HB6.out (Nat.le_of_eq HGE.out.symm) HR6.out (Nat.le_of_lt HM.out.1) (by have := HM.out.1; omega) HM.out.2
  exact ⟨_, 1, _, _, rfl, hh.1, HM.out.1, ringL_fromQ HM.out.1 (fun j hj => by first | exact if_pos hj | exact absurd hj (by omega)), hh.2⟩
 ·obtain ⟨M, hM, hM1, hM2⟩ : ∃ M : Nat, M = 1 ∧ m < M ∧ (M : Int) ≤ n := ⟨1, by omega, by omega, by omega⟩
  have g3 : (M : Int) ≤ 4096 := by omega
  have hmk := run_make_q M (by omega)
  have HM := Lib.hid (And.intro hM1 hM2)
  have k0 : (0 : Int) ≤ 2 * (m : Int) := by omega
  subst hM; subst g1
  rw [show ((1 : Nat) : Int) = 1 from rfl] at hmk
  clear hM1 hM2
  have w0 : IntKind.i64.wrap 0 = 0 := by decide
  have x1 : max (0 : Int) 1 = 1 := by decide
  have x2 : min (1 : Int) n = 1 := by omega
  go_enter Tryz.func166, Tryz.ntmps166
  go_wp2_with fail
  go_region_held3 (fun W => W.cell? ⟨H, 0, none⟩ = some (.int .i64 n) ∧ W.cell? ⟨H, 2, none⟩ = some (.int .i64 0))
   (first | exact KS.out _ (Below.refl _ _).drew | exact KS.out _ (b_alloc (Below.refl _ _).drew (Nat.le_refl _) _) | fail "no keep") (fail)
  rw [← HGE.out]
  obtain ⟨V, hV⟩ : ∃ V, V = (w.alloc (rowObj_q 1)).drew := ⟨_, rfl⟩
  have HB3 : Hid (Below w.heap.size w V) := Lib.hid (by rw [hV]; exact (below1 _ _).drew)
  have HR3 : Hid (Row2 153 V G 1 (fun _ => zBk)) := Lib.hid (rowObj_row_q (by rw [HGE.out, hV]; exact heap_alloc_new w _))
  have HZ3 : Hid (G < V.heap.size) := Lib.hid (by rw [HGE.out, hV, heap_drew]; simp)
  rw [← hV]
  clear hV
  go_wp2_with (first
   | (go_at_call 191
      refine (HAL.out _ HB3.out).mono ?_
      rintro e w5 ⟨G2, rfl, hG2, hr5, hb5⟩
      obtain ⟨A', hcopy, hr6, hb6⟩ := rqcopy (hr3_q HR3.out HZ3.out hb5) hr5 (Nat.le_of_lt HM.out.1)
      have HR6 := Lib.hid hr6
      have HB6 : Hid (Below w.heap.size w A') := Lib.hid (hb6 _ _ (Nat.le_of_eq HGE.out.symm) (HB3.out.trans (hb5.mono HB3.out.size)))
      obtain ⟨q0, q1, ⟨u1, q2⟩, ⟨u3, q3⟩⟩ := KT.out _ HB6.out
      clear hG2 hr5 hb5 hr6 hb6)
   | fail "no arm")
  go_end0
  have hh := (HQ.out).slots HB6.out (Nat.le_of_eq HGE.out.symm) HR6.out (Nat.le_of_lt HM.out.1) (by have := HM.out.1; omega) HM.out.2
  exact ⟨_, 1, _, _, rfl, hh.1, HM.out.1, ringL_fromQ HM.out.1 (fun j hj => by first | exact if_pos hj | exact absurd hj (by omega)), hh.2⟩
 ·obtain ⟨M, hM, hM1, hM2⟩ : ∃ M : Nat, M = 2 * m ∧ m < M ∧ (M : Int) ≤ n := ⟨2 * m, by omega, by omega, by omega⟩
  have g3 : (M : Int) ≤ 4096 := by omega
  have hmk := run_make_q M (by omega)
  have HM := Lib.hid (And.intro hM1 hM2)
  have k0 : (0 : Int) ≤ 2 * (m : Int) := by omega
  have e1 : IntKind.i64.wrap (2 * (m : Int)) = (M : Int) := (IntWalk.i64_in _ (by omega)).trans (by omega)
  have g4 : (M : Int) ≤ n := by omega
  have g5 : (1 : Int) ≤ (M : Int) := by omega
  clear hM g2 k0
  clear hM1 hM2
  have x1 : max (M : Int) 1 = (M : Int) := by omega
  have x2 : min (M : Int) n = (M : Int) := by omega
  go_enter Tryz.func166, Tryz.ntmps166
  go_wp2_with fail
  go_region_held3 (fun W => W.cell? ⟨H, 0, none⟩ = some (.int .i64 n) ∧ W.cell? ⟨H, 2, none⟩ = some (.int .i64 m))
   (first | exact KS.out _ (Below.refl _ _).drew | exact KS.out _ (b_alloc (Below.refl _ _).drew (Nat.le_refl _) _) | fail "no keep") (fail)
  rw [← HGE.out]
  obtain ⟨V, hV⟩ : ∃ V, V = (w.alloc (rowObj_q M)).drew := ⟨_, rfl⟩
  have HB3 : Hid (Below w.heap.size w V) := Lib.hid (by rw [hV]; exact (below1 _ _).drew)
  have HR3 : Hid (Row2 153 V G M (fun _ => zBk)) := Lib.hid (rowObj_row_q (by rw [HGE.out, hV]; exact heap_alloc_new w _))
  have HZ3 : Hid (G < V.heap.size) := Lib.hid (by rw [HGE.out, hV, heap_drew]; simp)
  rw [← hV]
  clear hV
  go_wp2_with (first
   | (go_at_call 191
      refine (HAL.out _ HB3.out).mono ?_
      rintro e w5 ⟨G2, rfl, hG2, hr5, hb5⟩
      obtain ⟨A', hcopy, hr6, hb6⟩ := rqcopy (hr3_q HR3.out HZ3.out hb5) hr5 (Nat.le_of_lt HM.out.1)
      have HR6 := Lib.hid hr6
      have HB6 : Hid (Below w.heap.size w A') := Lib.hid (hb6 _ _ (Nat.le_of_eq HGE.out.symm) (HB3.out.trans (hb5.mono HB3.out.size)))
      obtain ⟨q0, q1, ⟨u1, q2⟩, ⟨u3, q3⟩⟩ := KT.out _ HB6.out
      clear hG2 hr5 hb5 hr6 hb6)
   | fail "no arm")
  go_end0
  have hh := (HQ.out).slots HB6.out (Nat.le_of_eq HGE.out.symm) HR6.out (Nat.le_of_lt HM.out.1) (by have := HM.out.1; omega) HM.out.2
  exact ⟨_, M, _, _, rfl, hh.1, HM.out.1, ringL_fromQ HM.out.1 (fun j hj => by first | exact if_pos hj | exact absurd hj (by omega)), hh.2⟩
 ·obtain ⟨M, hM, hM1, hM2⟩ : ∃ M : Nat, (M : Int) = n ∧ m < M ∧ (M : Int) ≤ n := ⟨n.toNat, by omega, by omega, by omega⟩
  have g3 : (M : Int) ≤ 4096 := by omega
  have hmk := run_make_q M (by omega)
  have HM := Lib.hid (And.intro hM1 hM2)
  have k0 : (0 : Int) ≤ 2 * (m : Int) := by omega
  subst hM
  obtain ⟨Kq, hKq⟩ : ∃ Kq : Int, Kq = 2 * (m : Int) := ⟨_, rfl⟩
  have e1 : IntKind.i64.wrap (2 * (m : Int)) = Kq := (IntWalk.i64_in _ (by omega)).trans (by omega)
  have g4 : (M : Int) < Kq := by omega
  have g5 : (1 : Int) ≤ Kq := by omega
  clear hKq g2 k0
  clear hM1 hM2
  have x1 : max Kq 1 = Kq := by omega
  have x2 : min Kq (M : Int) = (M : Int) := by omega
  go_enter Tryz.func166, Tryz.ntmps166
  go_wp2_with fail
  go_region_held3 (fun W => W.cell? ⟨H, 0, none⟩ = some (.int .i64 M) ∧ W.cell? ⟨H, 2, none⟩ = some (.int .i64 m))
   (first | exact KS.out _ (Below.refl _ _).drew | exact KS.out _ (b_alloc (Below.refl _ _).drew (Nat.le_refl _) _) | fail "no keep") (fail)
  rw [← HGE.out]
  obtain ⟨V, hV⟩ : ∃ V, V = (w.alloc (rowObj_q M)).drew := ⟨_, rfl⟩
  have HB3 : Hid (Below w.heap.size w V) := Lib.hid (by rw [hV]; exact (below1 _ _).drew)
  have HR3 : Hid (Row2 153 V G M (fun _ => zBk)) := Lib.hid (rowObj_row_q (by rw [HGE.out, hV]; exact heap_alloc_new w _))
  have HZ3 : Hid (G < V.heap.size) := Lib.hid (by rw [HGE.out, hV, heap_drew]; simp)
  rw [← hV]
  clear hV
  go_wp2_with (first
   | (go_at_call 191
      refine (HAL.out _ HB3.out).mono ?_
      rintro e w5 ⟨G2, rfl, hG2, hr5, hb5⟩
      obtain ⟨A', hcopy, hr6, hb6⟩ := rqcopy (hr3_q HR3.out HZ3.out hb5) hr5 (Nat.le_of_lt HM.out.1)
      have HR6 := Lib.hid hr6
      have HB6 : Hid (Below w.heap.size w A') := Lib.hid (hb6 _ _ (Nat.le_of_eq HGE.out.symm) (HB3.out.trans (hb5.mono HB3.out.size)))
      obtain ⟨q0, q1, ⟨u1, q2⟩, ⟨u3, q3⟩⟩ := KT.out _ HB6.out
      clear hG2 hr5 hb5 hr6 hb6)
   | fail "no arm")
  go_end0
  have hh := (HQ.out).slots HB6.out (Nat.le_of_eq HGE.out.symm) HR6.out (Nat.le_of_lt HM.out.1) (by have := HM.out.1; omega) HM.out.2
  exact ⟨_, M, _, _, rfl, hh.1, HM.out.1, ringL_fromQ HM.out.1 (fun j hj => by first | exact if_pos hj | exact absurd hj (by omega)), hh.2⟩
end Go.Proofs.YtchbehnkkcjdgaaGreat
namespace Go.Proofs.YtchbehnkkcjdgaaGreat
open Go.ChangeShapes Go.WideShapes Go.ChangeAt Go.RowKit
set_option linter.unusedVariables false
set_option maxRecDepth 100000 in
set_option maxHeartbeats 4000000 in
theorem rqpush_no (w : World) (p : Option Addr) (c : Int) (x0 x1 : Int) (HL : Hid (∀ W : World, Below w.heap.size w W → Calls Tryz.prog 81 #[.pointer p] W fun e w' => e = .returned (.int .i64 c) ∧ w' = W)) (HR : Hid (∀ W : World, Below w.heap.size w W → Calls Tryz.prog 165 #[.pointer p] W fun e w' => e = .returned (.int .i64 c) ∧ w' = W)) : Calls Tryz.prog 118 #[.pointer p, (.agg #[.int .i64 x0, .int .i64 x1])] w fun e w' => e = .returned (.bool false) ∧ Below w.heap.size w w' := by
 go_enter Tryz.func118, Tryz.ntmps118
 go_wp2_with (first
  | (go_at_call 81; refine (HL.out _ (below1 _ _)).mono ?_; rintro e w3 ⟨rfl, hw3⟩; rw [hw3]; clear hw3)
  | (go_at_call 165; refine (HR.out _ (below1 _ _)).mono ?_; rintro e w3 ⟨rfl, hw3⟩; rw [hw3]; clear hw3)
  | fail "no arm")
 go_ret
 exact ⟨rfl, below1 _ _⟩
theorem RqAt.drewN {w : World} {H : Nat} {S : Nat → Prop} {n : Int} {fi c m cap : Nat} {ao : Option Addr} {v : Nat → Bk} (h : RqAt w H S n fi c m cap ao v) (d : Nat) : RqAt (w.drewN d) H S n fi c m cap ao v := h.later (below_drewQ d (Below.refl _ _))
theorem growQ_new {S : Nat → Prop} {w W W' : World} {E : Nat} (g : GrowS S S w W) (hE : w.heap.size ≤ E) (hB : But E W W') : GrowS S S w W' :=
 ⟨hB.os.trans g.os, hB.tape.trans g.tape, hB.output.trans g.output, Nat.le_trans g.size hB.size, fun k hk hS => (hB.block k (Nat.lt_of_lt_of_le hk g.size) (by omega)).trans (g.block k hk hS), fun k hk => .inl hk⟩
theorem growQ_drewN {S : Nat → Prop} {a b : World} (g : GrowS S S a b) (d : Nat) : GrowS S S a (b.drewN d) := ⟨g.os, g.tape, g.output, g.size, g.block, g.own⟩
set_option maxRecDepth 100000 in
set_option maxHeartbeats 4000000 in
theorem rqpush_in (w : World) (H : Nat) (S : Nat → Prop) (n : Int) (fi c m cap : Nat) (ao : Option Addr) (v : Nat → Bk) (h : RqAt w H S n fi c m cap ao v) (hlt : c < m) (x0 x1 : Int) (hx : (c : Int) < n) : Calls Tryz.prog 118 #[.pointer (some ⟨H, 0, none⟩), .agg #[.int .i64 x0, .int .i64 x1]] w fun e w' => e = .returned (.bool true) ∧ RqAt w' H S n fi (c + 1) m cap ao (updF v ((fi + c) % m) ⟨x0, x1⟩) ∧ GrowS S S w w' := by
 have hs := h.sm; have hmn := h.mn
 obtain ⟨E, hE⟩ : ∃ E, E = w.heap.size := ⟨_, rfl⟩
 obtain ⟨V, hV⟩ : ∃ V, V = w.alloc (.cells #[.int .i64 x0, .int .i64 x1] 153) := ⟨_, rfl⟩
 have hbV : Below w.heap.size w V := by rw [hV]; exact below1 _ _
 have hEV : V.heap[E]? = some (.cells #[.int .i64 x0, .int .i64 x1] 153 (0, 0)) := by rw [hV, hE]; exact heap_alloc_new _ _
 have hHE : E ≠ H := by have := h.lt H h.own; omega
 have hESn : ¬ S E := fun hs => by have := h.lt E hs; omega
 replace h := h.later hbV
 have hgV : GrowS S S w V := GrowS.of_below hbV
 have HV := Lib.hid hV
 have HE := Lib.hid hE
 have r0 := cell_in (j := 0) hEV rfl
 have r1 := cell_in (j := 1) hEV rfl
 have HL := Lib.hid (rqlen_box V H _ _ _ _ h.box)
 have HR := Lib.hid (rqroom_box V H _ _ _ _ h.box)
 have t0 : ((c : Int) == n) = false := by simp; omega
 have b2 : V.cell? ⟨H, 2, none⟩ = some (.int .i64 c) := cell_in h.box rfl
 have b3 : V.cell? ⟨H, 3, none⟩ = some (.slice ao m cap) := cell_in h.box rfl
 have f2 : V.frozen? ⟨H, 2, none⟩ = false := free_in h.box _
 have t1 : ((c : Int) == (m : Int)) = false := by simp; omega
 have t2 : (c == m) = false := by simp; omega
 have t3 : ¬ ((c : Int) = (m : Int)) := by omega
 have t4 : ¬ (c = m) := by omega
 have e1 : IntKind.i64.wrap ((c : Int) + 1) = ((c + 1 : Nat) : Int) := (IntWalk.i64_in _ (by omega)).trans (by omega)
 have e2 : wrap64 (c : Int) = (c : Int) := IntWalk.wrap64_in _ (by omega)
 have e3 : IntKind.i64.wrap (c : Int) = (c : Int) := IntWalk.i64_in _ (by omega)
 have e4 : IntKind.i64.wrap ((c : Int) + 1 - 1) = (c : Int) := (IntWalk.i64_in _ (by omega)).trans (by omega)
 have HS : Hid (∀ d d', Calls Tryz.prog 149 #[.pointer (some ⟨H, 0, none⟩), .int .i64 c, .agg #[.int .i64 x0, .int .i64 x1]] (((V.drewN d).setCell ⟨H, 2, none⟩ (.int .i64 ((c : Int) + 1))).drewN d') fun e w' => e = .returned (.bool true) ∧ RqAt w' H S n fi (c + 1) m cap ao (updF v ((fi + c) % m) ⟨x0, x1⟩) ∧ GrowS S S w w' ∧ GrowS S S ((V.drewN d).setCell ⟨H, 2, none⟩ (.int .i64 ((c : Int) + 1))) w') := Lib.hid (fun d d' => by
  rw [show ((c : Int) + 1) = ((c + 1 : Nat) : Int) by omega]
  obtain ⟨r2, g1⟩ := (h.drewN d).len (c' := c + 1) (by omega)
  refine (rqset_yes _ H S n fi (c + 1) m cap ao v (r2.drewN d') c (by omega) x0 x1).mono ?_
  rintro e w' ⟨rfl, r3, g2⟩
  exact ⟨rfl, r3, (growQ_drewN hgV d).trans ((growQ_drewN g1 d').trans g2), (growQ_drewN (GrowS.of_below (Below.refl _ _)) d').trans g2⟩)
 have KE : Hid (∀ d d', ((((V.drewN d).setCell ⟨H, 2, none⟩ (.int .i64 ((c : Int) + 1))).drewN d').cell? ⟨H, 2, none⟩ = some (.int .i64 ((c : Int) + 1))) ∧ (((V.drewN d).setCell ⟨H, 2, none⟩ (.int .i64 ((c : Int) + 1))).drewN d').cell? ⟨E, 0, none⟩ = some (.int .i64 x0) ∧ (((V.drewN d).setCell ⟨H, 2, none⟩ (.int .i64 ((c : Int) + 1))).drewN d').cell? ⟨E, 1, none⟩ = some (.int .i64 x1)) := Lib.hid (fun d d' => by
  have hb := set_at (j := 2) (u := .int .i64 ((c : Int) + 1)) (h.drewN d).box
  exact ⟨cell_in hb rfl, (World.cell?_of_block (Below.heap_setCell _ ⟨H, 2, none⟩ _ E hHE)).trans r0, (World.cell?_of_block (Below.heap_setCell _ ⟨H, 2, none⟩ _ E hHE)).trans r1⟩)
 have HK : Hid (∀ w' : World, RqAt w' H S n fi (c + 1) m cap ao (updF v ((fi + c) % m) ⟨x0, x1⟩) → (∃ d, GrowS S S ((V.drewN d).setCell ⟨H, 2, none⟩ (.int .i64 ((c : Int) + 1))) w') → w'.cell? ⟨H, 2, none⟩ = some (.int .i64 ((c : Int) + 1)) ∧ w'.cell? ⟨E, 0, none⟩ = some (.int .i64 x0) ∧ w'.cell? ⟨E, 1, none⟩ = some (.int .i64 x1)) := Lib.hid (fun w' h' ⟨d, g⟩ => by
  have hES : ¬ S E := hESn
  have hz : E < ((V.drewN d).setCell ⟨H, 2, none⟩ (.int .i64 ((c : Int) + 1))).heap.size := by simpa using lt_of_block hEV
  have k := g.block E hz hES
  exact ⟨by rw [cell_in h'.box rfl]; congr 2, (World.cell?_of_block k).trans ((World.cell?_of_block (Below.heap_setCell _ ⟨H, 2, none⟩ _ E hHE)).trans r0), (World.cell?_of_block k).trans ((World.cell?_of_block (Below.heap_setCell _ ⟨H, 2, none⟩ _ E hHE)).trans r1)⟩)
 clear h hx hlt hV hE hEV hbV hgV
 go_enter Tryz.func118, Tryz.ntmps118
 go_upto_region 1 with fail
 rw [← HV.out, ← HE.out]
 go_wp2_with (first
  | (go_at_call 81; refine HL.out.mono ?_; rintro e w3 ⟨rfl, hw3⟩; rw [hw3]; clear hw3)
  | (go_at_call 165; refine HR.out.mono ?_; rintro e w3 ⟨rfl, hw3⟩; rw [hw3]; clear hw3)
  | fail "no arm")
 go_quiet (fail)
 go_wp2_with fail
 go_region_held3 (fun W => W.cell? ⟨H, 2, none⟩ = some (.int .i64 ((c : Int) + 1)) ∧ W.cell? ⟨E, 0, none⟩ = some (.int .i64 x0) ∧ W.cell? ⟨E, 1, none⟩ = some (.int .i64 x1))
  (first | exact KE.out _ 0 | exact KE.out _ 1 | exact K5.out | fail "no keep")
  (first | (go_at_call 149; refine (HS.out _ 1).mono ?_; rintro e w5 ⟨rfl, h5', g5', g6'⟩; have h5 := Lib.hid h5'; have g5 := Lib.hid g5'; have K5 := Lib.hid (HK.out _ h5' ⟨_, g6'⟩); clear h5' g5' g6') | fail "no arm")
 go_wp2_with fail
 go_ret
 exact ⟨rfl, h5.out, g5.out⟩
set_option maxRecDepth 100000 in
set_option maxHeartbeats 4000000 in
theorem rqpush_grow (w : World) (H : Nat) (S : Nat → Prop) (n : Int) (fi c m cap : Nat) (ao : Option Addr) (v : Nat → Bk) (h : RqAt w H S n fi c m cap ao v) (hcm : c = m) (x0 x1 : Int) (hx : (c : Int) < n) : Calls Tryz.prog 118 #[.pointer (some ⟨H, 0, none⟩), .agg #[.int .i64 x0, .int .i64 x1]] w fun e w' => ∃ (S' : Nat → Prop) (M : Nat) (ao' : Option Addr) (v' : Nat → Bk), e = .returned (.bool true) ∧ RqAt w' H S' n 0 (c + 1) M M ao' v' ∧ ringL v' 0 M (c + 1) = ringL v fi m c ++ [⟨x0, x1⟩] ∧ GrowS S S' w w' := by
 subst hcm
 have hs := h.sm; have hmn := h.mn
 obtain ⟨E, hE⟩ : ∃ E, E = w.heap.size := ⟨_, rfl⟩
 obtain ⟨V, hV⟩ : ∃ V, V = w.alloc (.cells #[.int .i64 x0, .int .i64 x1] 153) := ⟨_, rfl⟩
 have hbV : Below w.heap.size w V := by rw [hV]; exact below1 _ _
 have hEV : V.heap[E]? = some (.cells #[.int .i64 x0, .int .i64 x1] 153 (0, 0)) := by rw [hV, hE]; exact heap_alloc_new _ _
 have hHE : E ≠ H := by have := h.lt H h.own; omega
 have hESn : ¬ S E := fun hs => by have := h.lt E hs; omega
 replace h := h.later hbV
 have hgV : GrowS S S w V := GrowS.of_below hbV
 have HV := Lib.hid hV
 have HE := Lib.hid hE
 have r0 := cell_in (j := 0) hEV rfl
 have r1 := cell_in (j := 1) hEV rfl
 have HL := Lib.hid (rqlen_box V H _ _ _ _ h.box)
 have HR := Lib.hid (rqroom_box V H _ _ _ _ h.box)
 have t0 : ((c : Int) == n) = false := by simp; omega
 have b2 : V.cell? ⟨H, 2, none⟩ = some (.int .i64 c) := cell_in h.box rfl
 have b3 : V.cell? ⟨H, 3, none⟩ = some (.slice ao c cap) := cell_in h.box rfl
 have e1 : IntKind.i64.wrap ((c : Int) + 1) = (c : Int) + 1 := IntWalk.i64_in _ (by omega)
 have e2 : wrap64 (c : Int) = (c : Int) := IntWalk.wrap64_in _ (by omega)
 have e3 : IntKind.i64.wrap (c : Int) = (c : Int) := IntWalk.i64_in _ (by omega)
 have e4 : IntKind.i64.wrap ((c : Int) + 1 - 1) = (c : Int) := (IntWalk.i64_in _ (by omega)).trans (by omega)
 have HG : Hid (∀ d, Calls Tryz.prog 166 #[.pointer (some ⟨H, 0, none⟩)] (V.drewN d) fun e w' => ∃ (S' : Nat → Prop) (M : Nat) (ao' : Option Addr) (v' : Nat → Bk), e = .returned (.tuple #[]) ∧ RqAt w' H S' n 0 c M M ao' v' ∧ c < M ∧ ringL v' 0 M c = ringL v fi c c ∧ GrowS S S' w w' ∧ w'.cell? ⟨E, 0, none⟩ = some (.int .i64 x0) ∧ w'.cell? ⟨E, 1, none⟩ = some (.int .i64 x1) ∧ ¬ S' E ∧ E < w'.heap.size) := Lib.hid (fun d => by
  refine (rqgrow_any _ H S n fi c cap ao v (h.drewN d) hx).mono ?_
  rintro e w' ⟨S', M, ao', v', rfl, q1, q2, q3, g⟩
  have hz : E < (V.drewN d).heap.size := lt_of_block hEV
  have k := g.block E hz hESn
  exact ⟨S', M, ao', v', rfl, q1, q2, q3, (growQ_drewN hgV d).trans g, (World.cell?_of_block k).trans r0, (World.cell?_of_block k).trans r1, g.not hz hESn, Nat.lt_of_lt_of_le hz g.size⟩)
 have hx' := Lib.hid hx
 have HSV := Lib.hid hESn
 clear h hx hV hE hEV hbV hgV hESn
 go_enter Tryz.func118, Tryz.ntmps118
 go_upto_region 1 with fail
 rw [← HV.out, ← HE.out]
 go_wp2_with (first
  | (go_at_call 81; refine HL.out.mono ?_; rintro e w3 ⟨rfl, hw3⟩; rw [hw3]; clear hw3)
  | (go_at_call 165; refine HR.out.mono ?_; rintro e w3 ⟨rfl, hw3⟩; rw [hw3]; clear hw3)
  | fail "no arm")
 go_quiet (fail)
 go_wp2_with (first
  | (go_at_call 166
     refine (HG.out _).mono ?_
     rintro e w5 ⟨S5, M, ao5, v5, rfl, h5', hM', hl5', g5', y0, y1, y2, y3⟩
     have h5 := Lib.hid h5'
     have hM := Lib.hid hM'
     have hl5 := Lib.hid hl5'
     have g5 := Lib.hid g5'
     have p2 : w5.cell? ⟨H, 2, none⟩ = some (.int .i64 c) := cell_in h5'.box rfl
     have q2 : w5.frozen? ⟨H, 2, none⟩ = false := free_in h5'.box _
     have HS5 : Hid (∀ d', Calls Tryz.prog 149 #[.pointer (some ⟨H, 0, none⟩), .int .i64 c, .agg #[.int .i64 x0, .int .i64 x1]] ((w5.setCell ⟨H, 2, none⟩ (.int .i64 ((c : Int) + 1))).drewN d') fun e w' => e = .returned (.bool true) ∧ RqAt w' H S5 n 0 (c + 1) M M ao5 (updF v5 ((0 + c) % M) ⟨x0, x1⟩) ∧ GrowS S5 S5 w5 w' ∧ w'.cell? ⟨H, 2, none⟩ = some (.int .i64 ((c : Int) + 1)) ∧ w'.cell? ⟨E, 0, none⟩ = some (.int .i64 x0) ∧ w'.cell? ⟨E, 1, none⟩ = some (.int .i64 x1)) := Lib.hid (fun d' => by
      rw [show ((c : Int) + 1) = ((c + 1 : Nat) : Int) by omega]
      obtain ⟨q1, g1⟩ := h5'.len (c' := c + 1) (by omega)
      refine (rqset_yes _ H S5 n 0 (c + 1) M M ao5 v5 (q1.drewN d') c (by omega) x0 x1).mono ?_
      rintro e w' ⟨rfl, q3, g2⟩
      have gg := (growQ_drewN g1 d').trans g2
      have k := gg.block E y3 y2
      exact ⟨rfl, q3, gg, cell_in q3.box rfl, (World.cell?_of_block k).trans y0, (World.cell?_of_block k).trans y1⟩)
     have KE : Hid (∀ d', (((w5.setCell ⟨H, 2, none⟩ (.int .i64 ((c : Int) + 1))).drewN d').cell? ⟨H, 2, none⟩ = some (.int .i64 ((c : Int) + 1))) ∧ ((w5.setCell ⟨H, 2, none⟩ (.int .i64 ((c : Int) + 1))).drewN d').cell? ⟨E, 0, none⟩ = some (.int .i64 x0) ∧ ((w5.setCell ⟨H, 2, none⟩ (.int .i64 ((c : Int) + 1))).drewN d').cell? ⟨E, 1, none⟩ = some (.int .i64 x1)) := Lib.hid (fun d' => by
      have hb := set_at (j := 2) (u := .int .i64 ((c : Int) + 1)) h5'.box
      exact ⟨cell_in hb rfl, (World.cell?_of_block (Below.heap_setCell _ ⟨H, 2, none⟩ _ E hHE)).trans y0, (World.cell?_of_block (Below.heap_setCell _ ⟨H, 2, none⟩ _ E hHE)).trans y1⟩)
     clear h5' hM' hl5' g5' y0 y1 y2 y3)
  | fail "no arm")
 go_region_held3 (fun W => W.cell? ⟨H, 2, none⟩ = some (.int .i64 ((c : Int) + 1)) ∧ W.cell? ⟨E, 0, none⟩ = some (.int .i64 x0) ∧ W.cell? ⟨E, 1, none⟩ = some (.int .i64 x1))
  (first | exact KE.out 0 | exact KE.out 1 | exact K5.out | fail "no keep")
  (first | (go_at_call 149; refine (HS5.out 1).mono ?_; rintro e w6 ⟨rfl, h6', g6', k6'⟩; have h6 := Lib.hid h6'; have g6 := Lib.hid g6'; have K5 := Lib.hid k6'; clear h6' g6' k6') | fail "no arm")
 go_wp2_with fail
 go_ret
 exact ⟨S5, M, ao5, _, rfl, h6.out, by rw [← hl5.out]; exact ringL_push (α := Bk) ⟨x0, x1⟩ (by have := hM.out; omega) hM.out, g5.out.trans g6.out⟩
set_option maxRecDepth 100000 in
set_option maxHeartbeats 4000000 in
theorem rqpop_yes (w : World) (H : Nat) (S : Nat → Prop) (n : Int) (fi c m cap : Nat) (ao : Option Addr) (v : Nat → Bk) (h : RqAt w H S n fi (c + 1) m cap ao v) : Calls Tryz.prog 150 #[.pointer (some ⟨H, 0, none⟩)] w fun e w' => e = .returned (.tuple #[.agg #[.int .i64 (v fi).at_, .int .i64 (v fi).n], .bool true]) ∧ RqAt w' H S n ((fi + 1) % m) c m cap ao (updF v fi zBk) ∧ GrowS S S w w' := by
 have hc := h.cm; have hs := h.sm; have hmn := h.mn
 have hf : fi < m := by rcases h.fm with h | h <;> omega
 have e0 : (fi + 0) % m = fi := Nat.mod_eq_of_lt hf
 obtain ⟨x0, hx0⟩ : ∃ x0, x0 = (v fi).at_ := ⟨_, rfl⟩
 obtain ⟨x1, hx1⟩ : ∃ x1, x1 = (v fi).n := ⟨_, rfl⟩
 obtain ⟨E, hE⟩ : ∃ E, E = w.heap.size := ⟨_, rfl⟩
 obtain ⟨V, hV⟩ : ∃ V, V = w.alloc (.cells #[.int .i64 0, .int .i64 0] 153) := ⟨_, rfl⟩
 have hbV : Below w.heap.size w V := by rw [hV]; exact below1 _ _
 have hEV : V.heap[E]? = some (.cells #[.int .i64 0, .int .i64 0] 153 (0, 0)) := by rw [hV, hE]; exact heap_alloc_new _ _
 have hHE : E ≠ H := by have := h.lt H h.own; omega
 have hESn : ¬ S E := fun hs => by have := h.lt E hs; omega
 replace h := h.later hbV
 have hgV : GrowS S S w V := GrowS.of_below hbV
 have HV := Lib.hid hV
 have HE := Lib.hid hE
 have HEV := Lib.hid hEV
 have HGV := Lib.hid hgV
 have HES := Lib.hid hESn
 have HA : Hid (Calls Tryz.prog 148 #[.pointer (some ⟨H, 0, none⟩), .int .i64 0] V fun e w' => e = .returned (.tuple #[.agg #[.int .i64 x0, .int .i64 x1], .bool true]) ∧ RqAt w' H S n fi (c + 1) m cap ao v ∧ Below V.heap.size V w') := Lib.hid (by
  refine (rqat_yes V H S n fi (c + 1) m cap ao v h 0 (by omega)).mono ?_
  rintro e w' ⟨rfl, hb⟩
  rw [e0, ← hx0, ← hx1]
  exact ⟨rfl, h.later hb, hb⟩)
 have HS : Hid (∀ W : World, RqAt W H S n fi (c + 1) m cap ao v → Calls Tryz.prog 149 #[.pointer (some ⟨H, 0, none⟩), .int .i64 0, .agg #[.int .i64 0, .int .i64 0]] W fun e w' => e = .returned (.bool true) ∧ RqAt w' H S n fi (c + 1) m cap ao (updF v fi zBk) ∧ GrowS S S W w') := Lib.hid (fun W hW => by
  have := rqset_yes W H S n fi (c + 1) m cap ao v hW 0 (by omega) 0 0
  rw [e0] at this
  exact this)
 have HP : Hid (∀ W : World, RqAt W H S n fi (c + 1) m cap ao (updF v fi zBk) → Calls Tryz.prog 183 #[.pointer (some ⟨H, 0, none⟩), .int .i64 1] W fun e w' => e = .returned (.int .i64 (((fi + 1) % m : Nat) : Int)) ∧ RqAt w' H S n fi (c + 1) m cap ao (updF v fi zBk) ∧ GrowS S S W w') := Lib.hid (fun W hW => by
  refine (rqplace_any W H _ _ fi m cap 1 ao hW.box hf (by omega) (by omega)).mono ?_
  rintro e w' ⟨rfl, d, rfl⟩
  exact ⟨rfl, hW.drewN d, GrowS.of_below (below_drewQ d (Below.refl _ _))⟩)
 obtain ⟨q, hq⟩ : ∃ q, q = (fi + 1) % m := ⟨_, rfl⟩
 have hqm : q < m := by rw [hq]; exact Nat.mod_lt _ (by omega)
 rw [← hq, ← hx0, ← hx1]
 rw [← hq] at HP
 have e1 : IntKind.i64.wrap (((c + 1 : Nat) : Int) - 1) = (c : Int) := (IntWalk.i64_in _ (by omega)).trans (by omega)
 clear h hx0 hx1 hq e0 hV hE hEV hbV hgV hESn
 go_enter Tryz.func150, Tryz.ntmps150
 go_upto_region 1 with fail
 rw [← HV.out, ← HE.out]
 go_upto_region 4 with (first
  | (go_at_call 148; refine HA.out.mono ?_; rintro e w3 ⟨rfl, h3', g3'⟩; have h3 := Lib.hid h3'; have g3 := Lib.hid g3'; clear h3' g3')
  | fail "no arm")
 obtain ⟨F, hF⟩ : ∃ F, F = w3.heap.size := ⟨_, rfl⟩
 obtain ⟨V4, hV4⟩ : ∃ V4, V4 = ((w3.alloc (.cells #[.int .i64 x0, .int .i64 x1] 153)).alloc (.cells #[.int .i64 0, .int .i64 0] 153)) := ⟨_, rfl⟩
 have hb4 : Below w3.heap.size w3 V4 := by rw [hV4]; exact b_alloc (below1 _ _) (Nat.le_refl _) _
 have H4 := Lib.hid (h3.out.later hb4)
 have G4 := Lib.hid ((HGV.out.trans (GrowS.of_below g3.out)).trans (GrowS.of_below hb4))
 have hE3 : w3.heap[E]? = some (.cells #[.int .i64 0, .int .i64 0] 153 (0, 0)) := (g3.out.block E (lt_of_block HEV.out)).trans HEV.out
 have E4 := Lib.hid ((hb4.block E (lt_of_block hE3)).trans hE3)
 have F4 : Hid (V4.heap[F]? = some (.cells #[.int .i64 x0, .int .i64 x1] 153 (0, 0))) := Lib.hid (by
  rw [hV4, hF]
  exact ((below1 (w3.alloc (.cells #[.int .i64 x0, .int .i64 x1] 153)) _).block _ (by simp)).trans (heap_alloc_new _ _))
 have FS : Hid (¬ S F) := Lib.hid (fun hs => by have := h3.out.lt F hs; omega)
 have z0 : V4.cell? ⟨F + 1, 0, none⟩ = some (.int .i64 0) := by
  have : V4.heap[F + 1]? = some (.cells #[.int .i64 0, .int .i64 0] 153 (0, 0)) := by rw [hV4, hF]; have := heap_alloc_new (w3.alloc (.cells #[.int .i64 x0, .int .i64 x1] 153)) (.cells #[.int .i64 0, .int .i64 0] 153); simpa using this
  exact cell_in this rfl
 have z1 : V4.cell? ⟨F + 1, 1, none⟩ = some (.int .i64 0) := by
  have : V4.heap[F + 1]? = some (.cells #[.int .i64 0, .int .i64 0] 153 (0, 0)) := by rw [hV4, hF]; have := heap_alloc_new (w3.alloc (.cells #[.int .i64 x0, .int .i64 x1] 153)) (.cells #[.int .i64 0, .int .i64 0] 153); simpa using this
  exact cell_in this rfl
 have hFE : F ≠ E := by have := lt_of_block hE3; omega
 have hFH : F ≠ H := by have := h3.out.lt H h3.out.own; omega
 rw [← hV4, ← hF]
 clear hV4 hF hb4 hE3
 go_wp2_with (first
  | (go_at_call 183; have _z := h4; refine (HP.out _ h4.out).mono ?_; rintro e w5 ⟨rfl, h5', g5'⟩; have h5 := Lib.hid h5'; have g5 := Lib.hid (g4.out.trans g5')
     have p1 : w5.cell? ⟨H, 1, none⟩ = some (.int .i64 fi) := cell_in h5'.box rfl
     have p2 : w5.cell? ⟨H, 2, none⟩ = some (.int .i64 ((c + 1 : Nat) : Int)) := cell_in h5'.box rfl
     have p3 : w5.frozen? ⟨H, 1, none⟩ = false := free_in h5'.box _
     have p4 : w5.frozen? ⟨H, 2, none⟩ = false := free_in h5'.box _
     have gg := e4.out.2.2.trans g5'
     have F5 := Lib.hid ((gg.block F (lt_of_block F4.out) FS.out).trans F4.out)
     have E5 := Lib.hid ((gg.block E (lt_of_block E4.out) HES.out).trans E4.out)
     have s0 := cell_in (j := 0) F5.out rfl
     have s1 := cell_in (j := 1) F5.out rfl
     have s2 := cell_in (j := 0) E5.out rfl
     have s3 := cell_in (j := 1) E5.out rfl
     have s4 := free_in E5.out 0
     have s5 := free_in E5.out 1
     clear h5' g5' gg)
  | (go_at_call 149; refine (HS.out _ H4.out).mono ?_; rintro e w4 ⟨rfl, h4', g4'⟩; have h4 := Lib.hid h4'; have g4 := Lib.hid (G4.out.trans g4'); have e4 := Lib.hid (And.intro True.intro (And.intro True.intro g4')); clear h4' g4')
  | fail "no arm")
 obtain ⟨r1, k1⟩ := h5.out.first (f' := q) (.inl hqm)
 obtain ⟨r2, k2⟩ := r1.len (c' := c) (by omega)
 obtain ⟨W7, hW7⟩ : ∃ W7, W7 = (w5.setCell ⟨H, 1, none⟩ (.int .i64 q)).setCell ⟨H, 2, none⟩ (.int .i64 c) := ⟨_, rfl⟩
 rw [← hW7] at r2 k2 ⊢
 have hE7 : W7.heap[E]? = some (.cells #[.int .i64 0, .int .i64 0] 153 (0, 0)) := by
  rw [hW7, Below.heap_setCell _ ⟨H, 2, none⟩ _ E hHE, Below.heap_setCell _ ⟨H, 1, none⟩ _ E hHE]
  exact E5.out
 refine bodyPost_ret (results_pairT (P := Tryz.prog) rfl _ _ E _ _ (0, 0) _ _ rfl rfl (set2q hE7 rfl (.int .i64 x0) (.int .i64 x1)) Tryz.underlying153 rfl Tryz.sizeRq) rfl ?_
 have hB : But E W7 ((W7.setCell ⟨E, 0, none⟩ (.int .i64 x0)).setCell ⟨E, 1, none⟩ (.int .i64 x1)) := ((But.refl E W7).set 0 _).set 1 _
 exact ⟨rfl, r2.keep (fun k hk => hB.block k (r2.lt k hk) (fun e => HES.out (e ▸ hk))) hB.size, growQ_new ((g5.out.trans k1).trans k2) (Nat.le_of_eq HE.out.symm) hB⟩
set_option maxRecDepth 100000 in
set_option maxHeartbeats 4000000 in
theorem rqnew_at (w : World) : Calls Tryz.prog 93 #[.int .i64 8] w fun e w' => e = .returned (.pointer (some ⟨w.heap.size, 0, none⟩)) ∧ RqAt w' w.heap.size (fun k => k = w.heap.size) 8 0 0 0 0 none (fun _ => zBk) ∧ Below w.heap.size w w' := by
 have x1 : max (8 : Int) 0 = 8 := by decide
 have x2 : min (8 : Int) 4096 = 8 := by decide
 go_enter Tryz.func93, Tryz.ntmps93
 go_wp2_with fail
 go_ret
 exact ⟨rfl, ⟨heap_alloc_new _ _, by omega, Nat.le_refl _, by omega, Nat.le_refl _, .inr ⟨rfl, rfl, rfl, rfl⟩, fun h => absurd h (Nat.lt_irrefl 0), rfl, fun k hk => by rw [hk]; simp⟩, below1 _ _⟩
/-- The row of requests, by what is in: of 8 at most. -/
def Rq (H : Nat) (l : List Bk) (w : World) (S : Nat → Prop) : Prop := ∃ fi c m cap ao v, RqAt w H S 8 fi c m cap ao v ∧ l = ringL v fi m c
theorem rq_own (H : Nat) (l : List Bk) : OwnP (Rq H l) := ⟨fun ⟨fi, c, m, cap, ao, v, h, hl⟩ hs hz => ⟨fi, c, m, cap, ao, v, h.keep hs hz, hl⟩, fun ⟨_, _, _, _, _, _, h, _⟩ => h.lt⟩
theorem rq_new (w : World) : Calls Tryz.prog 93 #[.int .i64 8] w fun e w' => ∃ H S, e = .returned (.pointer (some ⟨H, 0, none⟩)) ∧ Rq H [] w' S ∧ (∀ k, S k → w.heap.size ≤ k) ∧ Below w.heap.size w w' :=
 (rqnew_at w).mono (by rintro e w' ⟨rfl, h, hb⟩; exact ⟨_, _, rfl, ⟨0, 0, 0, 0, none, _, h, rfl⟩, fun k hk => by rw [hk]; exact Nat.le_refl _, hb⟩)
theorem rq_len (w : World) (H : Nat) (S : Nat → Prop) (l : List Bk) (h : Rq H l w S) : Calls Tryz.prog 81 #[.pointer (some ⟨H, 0, none⟩)] w fun e w' => e = .returned (.int .i64 (l.length : Nat)) ∧ w' = w := by
 obtain ⟨fi, c, m, cap, ao, v, h, hl⟩ := h
 rw [hl, ringL_len]
 exact rqlen_box w H _ _ _ _ h.box
theorem rq_push (w : World) (H : Nat) (S : Nat → Prop) (l : List Bk) (x0 x1 : Int) (h : Rq H l w S) : Calls Tryz.prog 118 #[.pointer (some ⟨H, 0, none⟩), .agg #[.int .i64 x0, .int .i64 x1]] w fun e w' => ∃ S', e = .returned (.bool (decide (l.length < 8))) ∧ Rq H (if l.length < 8 then l ++ [⟨x0, x1⟩] else l) w' S' ∧ GrowS S S' w w' := by
 obtain ⟨fi, c, m, cap, ao, v, h, hl⟩ := h
 have hlen : l.length = c := by rw [hl, ringL_len]
 have hcm := h.cm; have hmn := h.mn
 by_cases hx : (c : Int) < 8
 ·have hx' : l.length < 8 := by omega
  rw [decide_eq_true hx', if_pos hx', hl]
  by_cases hlt : c < m
  ·have hf : fi < m := by rcases h.fm with h | h <;> omega
   refine (rqpush_in w H S 8 fi c m cap ao v h hlt x0 x1 hx).mono ?_
   rintro e w' ⟨rfl, r, g⟩
   exact ⟨S, rfl, ⟨fi, c + 1, m, cap, ao, _, r, (ringL_push (α := Bk) ⟨x0, x1⟩ hf hlt).symm⟩, g⟩
  ·refine (rqpush_grow w H S 8 fi c m cap ao v h (by omega) x0 x1 hx).mono ?_
   rintro e w' ⟨S', M, ao', v', rfl, r, hr, g⟩
   exact ⟨S', rfl, ⟨0, c + 1, M, M, ao', v', r, hr.symm⟩, g⟩
 ·have hx' : ¬ l.length < 8 := by omega
  rw [decide_eq_false hx', if_neg hx']
  have hcn : (c : Int) = 8 := by omega
  refine (rqpush_no w _ c x0 x1 (Lib.hid (fun W hW => rqlen_box W H _ _ _ _ (h.later hW).box)) (Lib.hid (fun W hW => by rw [hcn]; exact rqroom_box W H _ _ _ _ (h.later hW).box))).mono ?_
  rintro e w' ⟨rfl, hb⟩
  exact ⟨S, rfl, ⟨fi, c, m, cap, ao, v, h.later hb, hl⟩, GrowS.of_below hb⟩
theorem rq_at (w : World) (H : Nat) (S : Nat → Prop) (x : Bk) (l : List Bk) (h : Rq H (x :: l) w S) : Calls Tryz.prog 148 #[.pointer (some ⟨H, 0, none⟩), .int .i64 0] w fun e w' => e = .returned (.tuple #[.agg #[.int .i64 x.at_, .int .i64 x.n], .bool true]) ∧ Below w.heap.size w w' := by
 obtain ⟨fi, c, m, cap, ao, v, h, hl⟩ := h
 have hlen : (x :: l).length = c := by rw [hl, ringL_len]
 have hcm := h.cm
 have hc : 0 < c := by simp at hlen; omega
 have hf : fi < m := by rcases h.fm with h | h <;> omega
 obtain ⟨c, rfl⟩ : ∃ c', c = c' + 1 := ⟨c - 1, by omega⟩
 rw [ringL_cons hf] at hl
 cases hl
 have := rqat_yes w H S 8 fi (c + 1) m cap ao v h 0 (by omega)
 rw [Nat.add_zero, Nat.mod_eq_of_lt hf] at this
 exact this
theorem rq_set (w : World) (H : Nat) (S : Nat → Prop) (x : Bk) (l : List Bk) (h : Rq H (x :: l) w S) (y0 y1 : Int) : Calls Tryz.prog 149 #[.pointer (some ⟨H, 0, none⟩), .int .i64 0, .agg #[.int .i64 y0, .int .i64 y1]] w fun e w' => e = .returned (.bool true) ∧ Rq H (⟨y0, y1⟩ :: l) w' S ∧ GrowS S S w w' := by
 obtain ⟨fi, c, m, cap, ao, v, h, hl⟩ := h
 have hlen : (x :: l).length = c := by rw [hl, ringL_len]
 have hcm := h.cm
 have hc : 0 < c := by simp at hlen; omega
 have hf : fi < m := by rcases h.fm with h | h <;> omega
 refine (rqset_yes w H S 8 fi c m cap ao v h 0 (by omega) y0 y1).mono ?_
 rintro e w' ⟨rfl, r, g⟩
 refine ⟨rfl, ⟨fi, c, m, cap, ao, _, r, ?_⟩, g⟩
 rw [ringL_set (α := Bk) ⟨y0, y1⟩ hf hcm hc, ← hl]
 rfl
theorem rq_pop (w : World) (H : Nat) (S : Nat → Prop) (x : Bk) (l : List Bk) (h : Rq H (x :: l) w S) : Calls Tryz.prog 150 #[.pointer (some ⟨H, 0, none⟩)] w fun e w' => e = .returned (.tuple #[.agg #[.int .i64 x.at_, .int .i64 x.n], .bool true]) ∧ Rq H l w' S ∧ GrowS S S w w' := by
 obtain ⟨fi, c, m, cap, ao, v, h, hl⟩ := h
 have hlen : (x :: l).length = c := by rw [hl, ringL_len]
 have hcm := h.cm
 have hc : 0 < c := by simp at hlen; omega
 have hf : fi < m := by rcases h.fm with h | h <;> omega
 obtain ⟨c, rfl⟩ : ∃ c', c = c' + 1 := ⟨c - 1, by omega⟩
 rw [ringL_cons hf] at hl
 cases hl
 refine (rqpop_yes w H S 8 fi c m cap ao v h).mono ?_
 rintro e w' ⟨rfl, r, g⟩
 exact ⟨rfl, ⟨_, c, m, cap, ao, _, r, (ringL_gone zBk hf (by omega)).symm⟩, g⟩
end Go.Proofs.YtchbehnkkcjdgaaGreat
