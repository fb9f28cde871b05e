/- The document's ring. -/
import Derived.Test.YtigmflobiiifeaaOwnS
import Derived.Test.YtigmflobiiifeaaRead
import Derived.Deep.CutRange
import Derived.Deep.CutBlock
namespace Go.Proofs.Ytigmflobiiifeaa
open Go.ChangeShapes Go.WideShapes Go.ChangeAt Go.RowKit
set_option linter.unusedVariables false

/-- The list's row, in blocks of R. -/
def RowI (w : World) (R : Nat → Prop) (l : List Int) (ao : Option Addr) (cap : Nat) : Prop := (ao = none ∧ l = [] ∧ cap = 0) ∨ ∃ b off, ao = some ⟨b, off, none⟩ ∧ R b ∧ b < w.heap.size ∧ l.length ≤ cap ∧ ∀ i (hi : i < l.length), w.cell? ⟨b, off + i, none⟩ = some (.int .i64 l[i])
theorem RowI.keep {w w' : World} {R : Nat → Prop} {l : List Int} {ao : Option Addr} {cap : Nat} (h : RowI w R l ao cap) (hs : ∀ b, R b → b < w.heap.size → w'.heap[b]? = w.heap[b]?) (hz : w.heap.size ≤ w'.heap.size) : RowI w' R l ao cap := by
  rcases h with h | ⟨b, off, h1, h2, h3, h4, h5⟩
  · exact .inl h
  · exact .inr ⟨b, off, h1, h2, by omega, h4, fun i hi => (World.cell?_of_block (w := w) (hs b h2 h3)).trans (h5 i hi)⟩
theorem RowI.mono {w : World} {R R' : Nat → Prop} {l : List Int} {ao : Option Addr} {cap : Nat} (h : RowI w R l ao cap) (hR : ∀ b, R b → R' b) : RowI w R' l ao cap := by
  rcases h with h | ⟨b, off, h1, h2, h3, h4, h5⟩
  · exact .inl h
  · exact .inr ⟨b, off, h1, hR b h2, h3, h4, h5⟩
theorem RowI.fits {w : World} {R : Nat → Prop} {l : List Int} {ao : Option Addr} {cap : Nat} (h : RowI w R l ao cap) : l.length ≤ cap := by
  rcases h with ⟨_, rfl, _⟩ | ⟨b, off, _, _, _, h4, _⟩
  · simp
  · exact h4
theorem RowI.lies {w Y : World} {R : Nat → Prop} {l : List Int} {ao : Option Addr} {cap : Nat} (h : RowI w R l ao cap) (hb : Below w.heap.size w Y) : Lies Y 0 w.heap.size (.slice ao l.length cap) l.length 1 (l.flatMap intCells) := by
  rcases h with ⟨h1, h2, h3⟩ | ⟨b, off, rfl, _, h3, h4, h5⟩
  · subst h1 h2 h3
    exact ⟨_, _, rfl, rfl, fun _ => ⟨rfl, rfl⟩, .inl rfl⟩
  · have hfl : (l.flatMap intCells).length = l.length := by rw [flat_len intCells 1 (fun _ => rfl)]; omega
    refine ⟨_, _, rfl, by omega, (fun e => by cases e), .inr ⟨b, off, rfl, Nat.zero_le _, h3, fun k u hu => ?_⟩⟩
    have hk : k < l.length := by
      rcases Nat.lt_or_ge k l.length with h | h
      · exact h
      · rw [List.getElem?_eq_none (by omega)] at hu; cases hu
    have f := flat_at intCells 1 (fun _ => rfl) l k 0 _ (List.getElem?_eq_getElem hk) (by omega)
    rw [show k * 1 + 0 = k by omega, hu] at f
    rw [World.cell?_of_block (w := w) (hb.block b h3), h5 k hk, f]; rfl
theorem RowI.of_owns {w : World} {base n e : Nat} {R : Nat → Prop} {l : List Int} {ao : Option Addr} {cap : Nat} (h : w.ownsRow base e 1 (.slice ao n cap) n (l.flatMap intCells)) (hn : n = l.length) (hR : ∀ b, base ≤ b → b < w.heap.size → R b) : RowI w R l ao cap := by
  rcases h.2 with ⟨h1, h2⟩ | ⟨g, cap', cur, hv, hb, hg, h1, h2, h3, h4⟩
  · cases h1
    exact .inl ⟨rfl, List.eq_nil_of_length_eq_zero (by omega), rfl⟩
  · cases hv
    refine .inr ⟨g, 0, rfl, hR g hb (lt_of_block hg), lt_of_block hg, by omega, fun i hi => ?_⟩
    have a0 := flat_at intCells 1 (fun _ => rfl) l i 0 _ (List.getElem?_eq_getElem hi) (by omega)
    rw [← h4, List.getElem?_take_of_lt (by omega)] at a0
    rw [Nat.zero_add]
    exact cell_in hg (by simpa [intCells] using a0)
theorem RowI.tail {w : World} {R : Nat → Prop} {x : Int} {l : List Int} {b off cap : Nat} (h : RowI w R (x :: l) (some ⟨b, off, none⟩) cap) : RowI w R l (some ⟨b, off + 1, none⟩) (cap - 1) := by
  rcases h with ⟨h0, _⟩ | ⟨b', off', h1, h2, h3, h4, h5⟩
  · cases h0
  · cases h1
    refine .inr ⟨b, off + 1, rfl, h2, h3, by simp at h4; omega, fun i hi => ?_⟩
    have := h5 (i + 1) (by simp; omega)
    rw [show off + 1 + i = off + (i + 1) by omega]
    simpa using this
theorem RowI.at {w : World} {R : Nat → Prop} {l : List Int} {ao : Option Addr} {cap : Nat} (h : RowI w R l ao cap) {i : Nat} (hi : i < l.length) : ∃ b off, ao = some ⟨b, off, none⟩ ∧ w.cell? ⟨b, off + i, none⟩ = some (.int .i64 l[i]) := by
  rcases h with ⟨_, h0, _⟩ | ⟨b, off, h1, _, _, _, h5⟩
  · subst h0; exact absurd hi (Nat.not_lt_zero _)
  · exact ⟨b, off, h1, h5 i hi⟩

/-- The document's ring in memory: its blocks are R. -/
structure RRg (w : World) (rb : Nat) (R : Nat → Prop) (n : Int) (l : List Int) : Prop where
  is : ∃ ao cap, w.heap[rb]? = some (.cells #[.int .i64 n, .slice ao l.length cap] 36 (0, 0)) ∧ RowI w (fun b => R b ∧ b ≠ rb) l ao cap
  own : R rb
  lt : ∀ k, R k → k < w.heap.size
theorem RRg.keep {w w' : World} {rb : Nat} {R : Nat → Prop} {n : Int} {l : List Int} (h : RRg w rb R n l) (hs : ∀ k, R k → w'.heap[k]? = w.heap[k]?) (hz : w.heap.size ≤ w'.heap.size) : RRg w' rb R n l := by
  obtain ⟨ao, cap, h1, h2⟩ := h.is
  exact ⟨⟨ao, cap, (hs rb h.own).trans h1, h2.keep (fun b hb _ => hs b hb.1) hz⟩, h.own, fun k hk => Nat.lt_of_lt_of_le (h.lt k hk) hz⟩
theorem RRg.later {w w' : World} {rb : Nat} {R : Nat → Prop} {n : Int} {l : List Int} (h : RRg w rb R n l) (hb : Below w.heap.size w w') : RRg w' rb R n l := h.keep (fun k hk => hb.block k (h.lt k hk)) hb.size
/-- What a ring tells and becomes. -/
def pushV {α : Type} (n : Int) (l : List α) (x : α) : List α := if (l.length : Int) < n then l ++ [x] else l
def freeV {α : Type} (n : Int) (l : List α) : Bool := decide ((l.length : Int) < n)
theorem pushV_yes {α : Type} {n : Int} {l : List α} {x : α} (h : (l.length : Int) < n) : pushV n l x = l ++ [x] ∧ freeV n l = true := ⟨if_pos h, decide_eq_true h⟩
theorem pushV_no {α : Type} {n : Int} {l : List α} {x : α} (h : ¬ (l.length : Int) < n) : pushV n l x = l ∧ freeV n l = false := ⟨if_neg h, decide_eq_false h⟩
def popV {α : Type} (z : α) (l : List α) : α := l.headD z
def anyV {α : Type} (l : List α) : Bool := !l.isEmpty
def inL (l : List Int) (i : Int) : Bool := decide (0 ≤ i) && decide (i < (l.length : Int))
def atL (l : List Int) (i : Int) : Int := if 0 ≤ i then l.getD i.toNat 0 else 0
def setL (l : List Int) (i x : Int) : List Int := if 0 ≤ i then l.set i.toNat x else l
theorem pushV_len {α : Type} (n : Int) (l : List α) (x : α) (h : (l.length : Int) ≤ n) : ((pushV n l x).length : Int) ≤ n ∧ (pushV n l x).length ≤ l.length + 1 := by
  unfold pushV; split <;> simp <;> omega
theorem setL_len (l : List Int) (i x : Int) : (setL l i x).length = l.length := by unfold setL; split <;> simp
/-- Blocks of one's own: the old box and what is new. -/
def NewS (rb lo hi : Nat) (k : Nat) : Prop := k = rb ∨ (lo ≤ k ∧ k < hi)
theorem RRg.set {w Y : World} {rb : Nat} {R : Nat → Prop} {n : Int} {l l' : List Int} {ao : Option Addr} {cap m : Nat} {u : Value} (h : RRg w rb R n l) (hb : Below w.heap.size w Y) (hY : Y.heap[rb]? = some (.cells #[.int .i64 n, u] 36 (0, 0))) (hr : RowI Y (fun b => w.heap.size ≤ b) l' ao cap) (hm : m = l'.length) :
    RRg (Y.setCell ⟨rb, 1, none⟩ (.slice ao m cap)) rb (NewS rb w.heap.size Y.heap.size) n l' ∧ GrowS R (NewS rb w.heap.size Y.heap.size) w (Y.setCell ⟨rb, 1, none⟩ (.slice ao m cap)) := by
  subst hm
  have hlt := h.lt rb h.own
  have hB : But rb Y (Y.setCell ⟨rb, 1, none⟩ (.slice ao l'.length cap)) := (But.refl rb Y).set 1 _
  have hz : (Y.setCell ⟨rb, 1, none⟩ (.slice ao l'.length cap)).heap.size = Y.heap.size := by simp
  refine ⟨⟨⟨ao, cap, ?_, ?_⟩, .inl rfl, fun k hk => ?_⟩, ⟨hB.os.trans hb.os, hB.tape.trans hb.tape, hB.output.trans hb.output, Nat.le_trans hb.size hB.size, fun k hk hS => ?_, fun k hk => ?_⟩⟩
  · rw [set_at hY]; rfl
  · refine (hr.keep (fun b hb1 hb2 => hB.block b hb2 (by omega)) hB.size).elim .inl fun ⟨b, off, a1, a2, a3, a4⟩ => .inr ⟨b, off, a1, ⟨.inr ⟨a2, by omega⟩, by omega⟩, a3, a4⟩
  · rw [hz]
    rcases hk with rfl | hk
    · exact Nat.lt_of_lt_of_le hlt hb.size
    · exact hk.2
  · exact (hB.block k (Nat.lt_of_lt_of_le hk hb.size) (fun e => hS (e ▸ h.own))).trans (hb.block k hk)
  · rcases hk with rfl | hk
    · exact .inl h.own
    · exact .inr hk.1
theorem ints_one (l : List Int) : ∀ u ∈ l.flatMap intCells, u.oneCell' = true := flat_one intCells (fun x u hu => in_one x u hu) l
set_option maxRecDepth 100000 in
set_option maxHeartbeats 2000000 in
theorem rrnew_any (room : Int) (w : World) : Calls Try.prog 8 #[.int .i64 room] w fun e w' => ∃ R, e = .returned (.pointer (some ⟨w.heap.size, 0, none⟩)) ∧ RRg w' w.heap.size R (min (max room 0) 4096) [] ∧ (∀ k, R k → w.heap.size ≤ k) ∧ Below w.heap.size w w' := by
  obtain ⟨now, hnow⟩ : ∃ now, now = min (max room 0) 4096 := ⟨_, rfl⟩
  rw [← hnow]
  rcases (show (room < 0 ∧ now = 0) ∨ (0 ≤ room ∧ room ≤ 4096 ∧ now = room) ∨ (4096 < room ∧ now = 4096) by omega) with ⟨g1, g3⟩ | ⟨g1, g2, g3⟩ | ⟨g1, g3⟩
  all_goals
    have G3 := Lib.hid g3
    clear hnow g3
    go_enter Try.func8, Try.ntmps8
    go_wp2_with fail
    go_ret
    rw [G3.out]
    exact ⟨fun k => k = w.heap.size, rfl, ⟨⟨none, 0, heap_alloc_new _ _, .inl ⟨rfl, rfl, rfl⟩⟩, rfl, fun k hk => by rw [hk]; simp⟩, fun k hk => by rw [hk]; exact Nat.le_refl _, below1 _ _⟩
set_option maxRecDepth 100000 in
set_option maxHeartbeats 2000000 in
theorem rrat_any (w : World) (rb : Nat) (R : Nat → Prop) (n : Int) (l : List Int) (h : RRg w rb R n l) (i : Int) :
    Calls Try.prog 17 #[.pointer (some ⟨rb, 0, none⟩), .int .i64 i] w fun e w' => e = .returned (.tuple #[.int .i64 (atL l i), .bool (inL l i)]) ∧ w' = w := by
  obtain ⟨ao, cap, h1, h2⟩ := h.is
  have b1 : w.cell? ⟨rb, 1, none⟩ = some (.slice ao l.length cap) := cell_in h1 rfl
  obtain ⟨m, hm⟩ : ∃ m, m = l.length := ⟨_, rfl⟩
  rw [← hm] at b1
  have HI : Hid (∀ a b, a = decide (0 ≤ i) → b = decide (i < (m : Int)) → inL l i = (a && b)) := Lib.hid (fun a b e1 e2 => by rw [e1, e2, hm]; rfl)
  have HA : Hid (¬ (0 ≤ i ∧ i < (m : Int)) → atL l i = 0) := Lib.hid (fun hn => by
    unfold atL; split
    · have : l.length ≤ i.toNat := by omega
      simp [List.getElem?_eq_none this]
    · rfl)
  clear h h1
  by_cases h0 : i < 0
  · have t0 : decide (i < 0) = true := decide_eq_true h0
    have HX := Lib.hid (HA.out (by omega))
    have HY := Lib.hid (HI.out false _ (decide_eq_false (by omega)).symm rfl)
    clear h2 hm
    go_enter Try.func17, Try.ntmps17
    go_wp2
    go_ret2
    rw [HX.out, HY.out]
    exact ⟨rfl, rfl⟩
  have t0 : decide (i < 0) = false := decide_eq_false h0
  by_cases h3 : i < (m : Int)
  · have t1 : decide ((m : Int) ≤ i) = false := decide_eq_false (by omega)
    obtain ⟨k, rfl⟩ : ∃ k : Nat, i = k := ⟨i.toNat, by omega⟩
    have hk : k < l.length := by omega
    obtain ⟨b, off, rfl, c0⟩ := h2.at hk
    have c1 : (0 : Int) ≤ (k : Int) := by omega
    obtain ⟨v, hv⟩ : ∃ v, v = l[k] := ⟨_, rfl⟩
    rw [← hv] at c0
    have HX : Hid (atL l k = v) := Lib.hid (by unfold atL; rw [if_pos c1, hv]; simp [hk])
    have HY := Lib.hid (HI.out true true (decide_eq_true c1).symm (decide_eq_true h3).symm)
    clear h2 hm hv hk
    go_enter Try.func17, Try.ntmps17
    go_wp2
    go_ret2
    rw [HX.out, HY.out]
    exact ⟨rfl, rfl⟩
  · have t1 : decide ((m : Int) ≤ i) = true := decide_eq_true (by omega)
    have HX := Lib.hid (HA.out (by omega))
    have HY := Lib.hid (HI.out true false (decide_eq_true (by omega)).symm (decide_eq_false h3).symm)
    clear h2 hm
    go_enter Try.func17, Try.ntmps17
    go_wp2
    go_ret2
    rw [HX.out, HY.out]
    exact ⟨rfl, rfl⟩
theorem RowI.none_left {w : World} {R : Nat → Prop} {l : List Int} {b off cap c : Nat} (h : RowI w R l (some ⟨b, off, none⟩) cap) (hb : ∃ x, x ∈ l) (off' : Nat) : RowI w R [] (some ⟨b, off', none⟩) c := by
  rcases h with ⟨h0, _⟩ | ⟨b', off'', h1, h2, h3, h4, h5⟩
  · cases h0
  · cases h1
    exact .inr ⟨b, off', rfl, h2, h3, Nat.zero_le _, fun i hi => absurd hi (Nat.not_lt_zero _)⟩
theorem RRg.cut {w : World} {rb : Nat} {R : Nat → Prop} {n : Int} {l l' : List Int} {ao : Option Addr} {cap : Nat} {u : Value} (h : RRg w rb R n l) (hY : w.heap[rb]? = some (.cells #[.int .i64 n, u] 36 (0, 0))) (hr : RowI w (fun b => R b ∧ b ≠ rb) l' ao cap) {m : Nat} (hm : m = l'.length) :
    RRg (w.setCell ⟨rb, 1, none⟩ (.slice ao m cap)) rb R n l' ∧ GrowS R R w (w.setCell ⟨rb, 1, none⟩ (.slice ao m cap)) := by
  subst hm
  have hB : But rb w (w.setCell ⟨rb, 1, none⟩ (.slice ao l'.length cap)) := (But.refl rb w).set 1 _
  exact ⟨⟨⟨ao, cap, by rw [set_at hY]; rfl, hr.keep (fun b hb1 hb2 => hB.block b hb2 hb1.2) hB.size⟩, h.own, fun k hk => Nat.lt_of_lt_of_le (h.lt k hk) hB.size⟩, ⟨hB.os, hB.tape, hB.output, hB.size, fun k hk hS => hB.block k hk (fun e => hS (e ▸ h.own)), fun k hk => .inl hk⟩⟩
set_option maxRecDepth 100000 in
set_option maxHeartbeats 2000000 in
theorem rrpop_any (w : World) (rb : Nat) (R : Nat → Prop) (n : Int) (l : List Int) (h : RRg w rb R n l) :
    Calls Try.prog 12 #[.pointer (some ⟨rb, 0, none⟩)] w fun e w' => e = .returned (.tuple #[.int .i64 (popV 0 l), .bool (anyV l)]) ∧ RRg w' rb R n l.tail ∧ GrowS R R w w' := by
  obtain ⟨ao, cap, h1, h2⟩ := h.is
  have b1 : w.cell? ⟨rb, 1, none⟩ = some (.slice ao l.length cap) := cell_in h1 rfl
  have b2 : w.frozen? ⟨rb, 1, none⟩ = false := free_in h1 1
  have H := Lib.hid h
  have H1 := Lib.hid h1
  rcases l with _ | ⟨x, l⟩
  · clear h h1 h2
    rw [show ([] : List Int).length = 0 by rfl] at b1
    go_enter Try.func12, Try.ntmps12
    go_wp2
    go_ret2
    exact ⟨rfl, H.out, GrowS.of_below (Below.refl _ _)⟩
  · obtain ⟨b, off, rfl, c0⟩ := h2.at (i := 0) (by simp)
    rw [List.length_cons] at b1
    rw [show off + 0 = off by omega] at c0
    have c1 : w.cell? ⟨b, off, none⟩ = some (.int .i64 x) := c0
    have H2 := Lib.hid h2
    have l1 := h2.fits
    rw [List.length_cons] at l1
    obtain ⟨m, hm⟩ : ∃ m, m = l.length := ⟨_, rfl⟩
    rw [← hm] at b1 l1
    have HM := Lib.hid hm
    have t0 : (((m + 1 : Nat) : Int) == 0) = false := by simp; omega
    have t1 : (1 : Int) ≤ ((m + 1 : Nat) : Int) := by omega
    have t2 : (0 : Int) < ((m + 1 : Nat) : Int) := by omega
    have t3 : ((m + 1 : Nat) : Int) ≤ (cap : Int) := by omega
    clear h h1 h2 hm c0
    by_cases hc : cap = 1
    · subst hc
      obtain rfl : m = 0 := by omega
      have HL : Hid (l = []) := Lib.hid (List.eq_nil_of_length_eq_zero (by have := HM.out; omega))
      go_enter Try.func12, Try.ntmps12
      go_wp2
      go_ret2
      exact ⟨rfl, RRg.cut (l' := l) H.out H1.out (by have hh := H2.out.none_left (c := 0) ⟨x, by simp⟩ off; rw [HL.out]; exact hh) (by rw [HL.out]; rfl)⟩
    · go_enter Try.func12, Try.ntmps12
      go_wp2
      go_ret2
      exact ⟨rfl, RRg.cut (l' := l) H.out H1.out H2.out.tail (by have := HM.out; omega)⟩
theorem Try.infoInt14 : (Try.prog.info? 3).map (fun i => (i.zero, i.size, i.bytes)) = some (some (.int .i64 0), 1, 8) := by kernel_rfl
theorem own_new {w : World} (Y : World) (Z : Nat) (h : Y.heap[Z]? = some (.cells #[] 3 (0, 0))) (hZ : w.heap.size ≤ Z) : Y.ownsRow w.heap.size 3 1 (.slice (some ⟨Z, 0, none⟩) 0 0) 0 [] :=
  ⟨rfl, .inr ⟨_, 0, #[], rfl, hZ, h, Nat.le_refl _, Nat.zero_le _, rfl, rfl⟩⟩
set_option maxRecDepth 100000 in
set_option maxHeartbeats 2000000 in
theorem rrpush_any (w : World) (rb : Nat) (R : Nat → Prop) (n : Int) (l : List Int) (h : RRg w rb R n l) (hn : n ≤ 4096) (x : Int) :
    Calls Try.prog 10 #[.pointer (some ⟨rb, 0, none⟩), .int .i64 x] w fun e w' => ∃ R', e = .returned (.bool (freeV n l)) ∧ RRg w' rb R' n (pushV n l x) ∧ GrowS R R' w w' := by
  obtain ⟨ao, cap, h1, h2⟩ := h.is
  have b0 : w.cell? ⟨rb, 0, none⟩ = some (.int .i64 n) := cell_in h1 rfl
  have b1 : w.cell? ⟨rb, 1, none⟩ = some (.slice ao l.length cap) := cell_in h1 rfl
  have H := Lib.hid h
  have H1 := Lib.hid h1
  have H2 := Lib.hid h2
  obtain ⟨m, hm⟩ : ∃ m, m = l.length := ⟨_, rfl⟩
  rw [← hm] at b1
  have HM := Lib.hid hm
  by_cases hlt : (m : Int) < n
  · have t0 : decide (n ≤ (m : Int)) = false := decide_eq_false (by omega)
    have HD := Lib.hid (pushV_yes (x := x) (show (l.length : Int) < n by omega))
    obtain ⟨i0, hi, hz0, hz1, hz2⟩ := info_parts Try.infoInt14
    have HI := Lib.hid hi
    have hrb := lt_of_block h1
    have KQ : Hid (∀ Y, Below w.heap.size w Y → Y.cell? ⟨rb, 1, none⟩ = some (.slice ao m cap) ∧ Y.frozen? ⟨rb, 1, none⟩ = false) := Lib.hid (fun Y hY => by
      have := (hY.block rb hrb).trans H1.out
      rw [← HM.out] at this
      exact ⟨cell_in this rfl, free_in this 1⟩)
    have HL : Hid (∀ Y, Below w.heap.size w Y → Lies Y 0 w.heap.size (.slice ao m cap) m 1 (l.flatMap intCells)) := Lib.hid (fun Y hY => by rw [HM.out]; exact H2.out.lies hY)
    clear h h1 h2 hm hi
    go_enter Try.func10, Try.ntmps10
    have HA : Hid (Below w.heap.size w (w.alloc (.cells #[] 3)).drew) := Lib.hid (below1 _ _).drew
    have HO : Hid ((w.alloc (.cells #[] 3)).drew.ownsRow w.heap.size 3 1 (.slice (some ⟨w.heap.size, 0, none⟩) 0 0) 0 []) := Lib.hid (own_new _ _ (heap_alloc_new _ _) (Nat.le_refl _))
    obtain ⟨k1, k2⟩ := KQ.out _ HA.out
    go_wp2_with fail
    go_region
    go_wp2_with (first
      | (refine wpList_append_lie (by rfl) (.tmp 16) (.tmp 20) 34 (by rfl) w.heap.size 3 i0 _ 1 8 Try.underlying34 HI.out hz0 hz1 hz2 rfl (by omega) (.slice (some ⟨w.heap.size, 0, none⟩) 0 0) 0 [] (by rfl) HO.out (.slice ao m cap) 0 w.heap.size m (l.flatMap intCells) (by rfl) (HL.out _ HA.out) (ints_one _) m (by omega) (by unfold maxLen; omega) (by omega) (by simp) ?_
         intro ao1 cap1 w5 hown5 hgrow5
         have hb5 : Below w.heap.size w w5 := HA.out.grown hgrow5 HA.out.size (fun k hk => by cases hk; exact Nat.le_refl _)
         obtain ⟨z0, z1⟩ := KQ.out _ hb5
         have HB5 := Lib.hid hb5
         have HO5 := Lib.hid hown5
         clear hb5 hown5 hgrow5)
      | (refine wpList_append_lie (by rfl) (.tmp 21) (.tmp 23) 34 (by rfl) w.heap.size 3 i0 _ 1 8 Try.underlying34 HI.out hz0 hz1 hz2 rfl (by omega) (.slice ao1 m cap1) m _ (by rfl) (owns_later HO5.out (below1 _ _)) _ 0 _ 1 [.int .i64 x] (by rfl) ((one_lies (heap_alloc_new _ _) rfl).wider (Nat.zero_le _) (Nat.le_refl _)) (by intro u hu; simp at hu; subst hu; rfl) (m + 1) (by omega) (by unfold maxLen; omega) (by omega) (by have := HB5.out.size; simp; omega) ?_
         intro ao2 cap2 w6 hown6 hgrow6
         have hb6 : Below w.heap.size w w6 := (b_alloc HB5.out (Nat.le_refl _) _).grown hgrow6 (by have := HB5.out.size; simp; omega) (fun k hk => (owns_block HO5.out k hk).1)
         obtain ⟨y0, y1⟩ := KQ.out _ hb6
         have HB6 := Lib.hid hb6
         have HO6 := Lib.hid hown6
         clear hb6 hown6 hgrow6)
      | fail "no arm")
    go_ret
    rw [HD.out.1, HD.out.2]
    obtain ⟨f1, f2⟩ := RRg.set (m := m + 1) (l' := l ++ [x]) H.out HB6.out ((HB6.out.block rb hrb).trans H1.out) (RowI.of_owns (n := m + 1) (by have hh := HO6.out; simpa [intCells] using hh) (by simp; exact HM.out) (fun b h1 _ => h1)) (by simp; exact HM.out)
    exact ⟨_, rfl, f1, f2⟩
  · have t0 : decide (n ≤ (m : Int)) = true := decide_eq_true (by omega)
    have HD := Lib.hid (pushV_no (x := x) (show ¬ (l.length : Int) < n by omega))
    clear h h1 h2 hm
    go_enter Try.func10, Try.ntmps10
    go_wp2_with fail
    go_region
    go_wp2
    go_ret
    rw [HD.out.1, HD.out.2]
    exact ⟨R, rfl, H.out.later (Below.refl _ _).drew, GrowS.of_below (Below.refl _ _).drew⟩
theorem RowI.put {Y : World} {base e m k : Nat} {l : List Int} {g cap : Nat} {x : Int} (h : Y.ownsRow base e 1 (.slice (some ⟨g, 0, none⟩) m cap) m (l.flatMap intCells)) (hm : m = l.length) (hk : k < m) : RowI (Y.setCell ⟨g, k, none⟩ (.int .i64 x)) (fun b => base ≤ b) (l.set k x) (some ⟨g, 0, none⟩) cap := by
  rcases h.2 with ⟨h1, h2⟩ | ⟨g', cap', cur, hv, hb, hg, h1, h2, h3, h4⟩
  · cases h1
  · cases hv
    have hs := set_at (j := k) (u := .int .i64 x) hg
    refine .inr ⟨g, 0, rfl, hb, lt_of_block hs, by simp; omega, fun i hi => ?_⟩
    have hi' : i < l.length := by simpa using hi
    by_cases e : i = k
    · subst e
      refine cell_in hs ?_
      rw [Nat.zero_add, Array.getElem?_setIfInBounds_self_of_lt (by omega)]
      simp
    · have a0 := flat_at intCells 1 (fun _ => rfl) l i 0 _ (List.getElem?_eq_getElem hi') (by omega)
      rw [← h4, List.getElem?_take_of_lt (by omega)] at a0
      refine cell_in hs ?_
      rw [Nat.zero_add, List.getElem_set_ne (by omega)]
      rw [Array.getElem?_setIfInBounds_ne (by omega)]
      simpa [intCells] using a0
set_option maxRecDepth 100000 in
set_option maxHeartbeats 2000000 in
theorem rrset_any (w : World) (rb : Nat) (R : Nat → Prop) (n : Int) (l : List Int) (h : RRg w rb R n l) (hn : n ≤ 4096) (hl : (l.length : Int) ≤ n) (i x : Int) :
    Calls Try.prog 14 #[.pointer (some ⟨rb, 0, none⟩), .int .i64 i, .int .i64 x] w fun e w' => ∃ R', e = .returned (.bool (inL l i)) ∧ RRg w' rb R' n (setL l i x) ∧ GrowS R R' w w' := by
  obtain ⟨ao, cap, h1, h2⟩ := h.is
  have b1 : w.cell? ⟨rb, 1, none⟩ = some (.slice ao l.length cap) := cell_in h1 rfl
  have H := Lib.hid h
  have H1 := Lib.hid h1
  have H2 := Lib.hid h2
  obtain ⟨m, hm⟩ : ∃ m, m = l.length := ⟨_, rfl⟩
  rw [← hm] at b1 hl
  have HM := Lib.hid hm
  have HI0 : Hid (∀ a b, a = decide (0 ≤ i) → b = decide (i < (m : Int)) → inL l i = (a && b)) := Lib.hid (fun a b e1 e2 => by rw [e1, e2, hm]; rfl)
  have HS : Hid (¬ (0 ≤ i ∧ i < (m : Int)) → setL l i x = l) := Lib.hid (fun hn => by
    unfold setL; split
    · exact List.set_eq_of_length_le (by omega)
    · rfl)
  by_cases h0 : i < 0
  · have t0 : decide (i < 0) = true := decide_eq_true h0
    have HX := Lib.hid (HS.out (by omega))
    have HY := Lib.hid (HI0.out false _ (decide_eq_false (by omega)).symm rfl)
    clear h h1 h2 hm
    go_enter Try.func14, Try.ntmps14
    go_wp2
    go_ret
    rw [HX.out, HY.out]
    first | exact ⟨R, rfl, H.out, GrowS.of_below (Below.refl _ _)⟩ | exact ⟨rfl, R, H.out, GrowS.of_below (Below.refl _ _)⟩
  have t0 : decide (i < 0) = false := decide_eq_false h0
  by_cases h3 : i < (m : Int)
  · have t1 : decide ((m : Int) ≤ i) = false := decide_eq_false (by omega)
    obtain ⟨k, rfl⟩ : ∃ k : Nat, i = k := ⟨i.toNat, by omega⟩
    have c1 : (0 : Int) ≤ (k : Int) := by omega
    have HX : Hid (setL l k x = l.set k x) := Lib.hid (by unfold setL; rw [if_pos c1]; simp)
    have HY := Lib.hid (HI0.out true true (decide_eq_true c1).symm (decide_eq_true h3).symm)
    have hk : k < m := by omega
    obtain ⟨i0, hi, hz0, hz1, hz2⟩ := info_parts Try.infoInt14
    have HI := Lib.hid hi
    have hrb := lt_of_block h1
    have KQ : Hid (∀ Y, Below w.heap.size w Y → Y.cell? ⟨rb, 1, none⟩ = some (.slice ao m cap) ∧ Y.frozen? ⟨rb, 1, none⟩ = false) := Lib.hid (fun Y hY => by
      have := (hY.block rb hrb).trans H1.out
      rw [← HM.out] at this
      exact ⟨cell_in this rfl, free_in this 1⟩)
    have HL : Hid (∀ Y, Below w.heap.size w Y → Lies Y 0 w.heap.size (.slice ao m cap) m 1 (l.flatMap intCells)) := Lib.hid (fun Y hY => by rw [HM.out]; exact H2.out.lies hY)
    have HA : Hid (Below w.heap.size w (w.alloc (.cells #[] 3))) := Lib.hid (below1 _ _)
    have HO : Hid ((w.alloc (.cells #[] 3)).ownsRow w.heap.size 3 1 (.slice (some ⟨w.heap.size, 0, none⟩) 0 0) 0 []) := Lib.hid (own_new _ _ (heap_alloc_new _ _) (Nat.le_refl _))
    obtain ⟨k1, k2⟩ := KQ.out _ HA.out
    clear h h1 h2 hm hi
    go_enter Try.func14, Try.ntmps14
    go_wp2_with (first
      | (refine wpList_append_lie (by rfl) (.tmp 19) (.tmp 23) 34 (by rfl) w.heap.size 3 i0 _ 1 8 Try.underlying34 HI.out hz0 hz1 hz2 rfl (by omega) (.slice (some ⟨w.heap.size, 0, none⟩) 0 0) 0 [] (by rfl) HO.out (.slice ao m cap) 0 w.heap.size m (l.flatMap intCells) (by rfl) (HL.out _ HA.out) (ints_one _) m (by omega) (by unfold maxLen; omega) (by omega) (by simp) ?_
         intro ao1 cap1 w5 hown5 hgrow5
         have hb5 : Below w.heap.size w w5 := HA.out.grown hgrow5 HA.out.size (fun k hk => by cases hk; exact Nat.le_refl _)
         obtain ⟨g, rfl, hg, cs, hgc, q0⟩ : ∃ g, ao1 = some ⟨g, 0, none⟩ ∧ w.heap.size ≤ g ∧ ∃ cs, w5.heap[g]? = some (.cells cs 3 (0, 0)) ∧ ∃ u, w5.cell? ⟨g, k, none⟩ = some u := by
           rcases hown5.2 with ⟨e1, e2⟩ | ⟨g, cap', cur, hv, hb, hg, e1, e2, e3, e4⟩
           · cases e1; exact absurd hk (by have := e2; omega)
           · cases hv
             exact ⟨g, rfl, hb, cur, hg, _, cell_in hg (Array.getElem?_eq_getElem (by omega))⟩
         obtain ⟨u, q0⟩ := q0
         have q1 : w5.frozen? ⟨g, k, none⟩ = false := free_in hgc k
         obtain ⟨z0, z1⟩ := KQ.out _ hb5
         have HB5 := Lib.hid hb5
         have HO5 := Lib.hid hown5
         have hgr : rb ≠ g := by omega
         clear hb5 hown5 hgrow5 hgc)
      | fail "no arm")
    go_ret
    rw [HX.out, HY.out]
    have hb1 : Below w.heap.size w (w5.setCell ⟨g, k, none⟩ (.int .i64 x)) := HB5.out.setCell (p := ⟨g, k, none⟩) hg _
    have hlen : m = (l.set k x).length := by simp; exact HM.out
    obtain ⟨f1, f2⟩ := RRg.set (m := m) (l' := l.set k x) H.out hb1 ((hb1.block rb hrb).trans H1.out) (RowI.put (by have hh := HO5.out; simpa using hh) HM.out hk) hlen
    first | exact ⟨_, rfl, f1, f2⟩ | exact ⟨rfl, _, f1, f2⟩
  · have t1 : decide ((m : Int) ≤ i) = true := decide_eq_true (by omega)
    have HX := Lib.hid (HS.out (by omega))
    have HY := Lib.hid (HI0.out true false (decide_eq_true (by omega)).symm (decide_eq_false h3).symm)
    clear h h1 h2 hm
    go_enter Try.func14, Try.ntmps14
    go_wp2
    go_ret
    rw [HX.out, HY.out]
    first | exact ⟨R, rfl, H.out, GrowS.of_below (Below.refl _ _)⟩ | exact ⟨rfl, R, H.out, GrowS.of_below (Below.refl _ _)⟩
set_option maxRecDepth 100000 in
set_option maxHeartbeats 4000000 in
theorem ints14_any (w : World) (a b : Option Addr) (c d m : Nat) (l : List Int) (hm : l.length = m) (hsm : m ≤ 4096) (ha : Lies w 0 w.heap.size (.slice a m c) m 1 (l.flatMap intCells)) (hb : Lies w 0 w.heap.size (.slice b m d) m 1 (l.flatMap intCells)) :
    Calls Try.prog 20 #[.slice a m c, .slice b m d] w fun e w' => e = .returned (.bool true) ∧ Below w.heap.size w w' := by
  have KC : Hid (∀ Y, Below w.heap.size w Y → ∀ k, k < m → ∃ ab ao bb bo v, a = some ⟨ab, ao, none⟩ ∧ b = some ⟨bb, bo, none⟩ ∧ Y.cell? ⟨ab, ao + k, none⟩ = some (.int .i64 v) ∧ Y.cell? ⟨bb, bo + k, none⟩ = some (.int .i64 v)) := Lib.hid (fun Y hY k hk => by
    obtain ⟨a1, c1, e1, _, _, h1⟩ := ha.keep (SameIn.of_below hY (Nat.le_refl _))
    obtain ⟨b1, d1, e2, _, _, h2⟩ := hb.keep (SameIn.of_below hY (Nat.le_refl _))
    cases e1; cases e2
    have f := flat_at intCells 1 (fun _ => rfl) l k 0 _ (List.getElem?_eq_getElem (by omega)) (by omega)
    rw [show k * 1 + 0 = k by omega] at f
    rcases h1 with h1 | ⟨ab, ao, rfl, _, _, h1⟩
    · omega
    rcases h2 with h2 | ⟨bb, bo, rfl, _, _, h2⟩
    · omega
    exact ⟨ab, ao, bb, bo, _, rfl, rfl, h1 k _ f, h2 k _ f⟩)
  clear ha hb
  go_enter Try.func20, Try.ntmps20
  go_wp2_with fail
  go_loopw [5] (fun s wr => ∃ k : Nat, k ≤ m ∧ s = .int .i64 k ∧ Hid (Below w.heap.size w wr)) (fun s _ => m - (intOf s).toNat)
  case atStart => exact ⟨0, Nat.zero_le _, rfl, Lib.hid (Below.refl _ _)⟩
  case round =>
    obtain ⟨k, hk, rfl, HB⟩ := hrel
    by_cases hlt : k < m
    · have l0 : decide ((k : Int) < (m : Int)) = true := decide_eq_true (by omega)
      have l1 : (0 : Int) ≤ (k : Int) := by omega
      have l2 : (k : Int) < (m : Int) := by omega
      obtain ⟨ab, ao, bb, bo, v, rfl, rfl, q0, q1⟩ := KC.out wr HB.out k hlt
      go_wp2_with fail
      go_region
      go_wp2_with fail
      go_roundw
      case rel => exact ⟨k + 1, by omega, by go_num, Lib.hid HB.out.drew⟩
      case measure => simp [intOf]; omega
    · have l0 : decide ((k : Int) < (m : Int)) = false := decide_eq_false (by omega)
      go_wp2_with fail
      go_ret
      exact ⟨rfl, HB.out⟩
end Go.Proofs.Ytigmflobiiifeaa
