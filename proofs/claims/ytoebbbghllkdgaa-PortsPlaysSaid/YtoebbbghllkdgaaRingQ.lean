/- The program's ring: all of it, its slots. -/
import Derived.Test.YtoebbbghllkdgaaRingP
import Derived.Laws.CopyOwn
namespace Go.Proofs.Ytoebbbghllkdgaa
open Go.ChangeShapes Go.WideShapes Go.ChangeAt Go.RowKit
set_option linter.unusedVariables false

theorem RowF.congr {α : Type} {emb : α → Value} {t : TypeId} {w : World} {C n : Nat} {v v' : Nat → α} (h : RowF emb t w C n v) (hv : ∀ j, j < n → v j = v' j) : RowF emb t w C n v' := by
  obtain ⟨cur, h1, h2, h3⟩ := h
  exact ⟨cur, h1, h2, fun i hi => by rw [h3 i hi, hv i hi]⟩
/-- f up to k, z from there on. -/
def partF {α : Type} (f : Nat → α) (z : α) (k : Nat) : Nat → α := fun j => if j < k then f j else z
theorem partF_next {α : Type} (f : Nat → α) (z : α) (k : Nat) : updF (partF f z k) k (f k) = partF f z (k + 1) := by
  funext j
  unfold updF partF
  by_cases h : j = k
  · subst h; simp
  · rw [if_neg h]
    by_cases h1 : j < k
    · rw [if_pos h1, if_pos (by omega)]
    · rw [if_neg h1, if_neg (by omega)]
theorem RowF.made {α : Type} {emb : α → Value} {t : TypeId} {w : World} {B G n : Nat} {z : α} (h1 : (emb z).cells = #[emb z]) (h : w.ownsRow B t 1 (.slice (some ⟨G, 0, none⟩) n n) n (madeCells (emb z).cells (n * 1)).toList) : RowF emb t w G n (fun _ => z) ∧ B ≤ G := by
  rcases h.2 with ⟨h0, _⟩ | ⟨G', cap', cur, hv, hb, hg, e1, e2, e3, e4⟩
  · cases h0
  · cases hv
    refine ⟨⟨cur, hg, by omega, fun i hi => ?_⟩, hb⟩
    have hx : ((madeCells (emb z).cells (n * 1)).toList)[i]? = some (emb z) := by
      rw [h1]
      simp [madeCells, Nat.mod_one, hi]
    rw [← e4, List.getElem?_take_of_lt (by omega)] at hx
    simpa using hx
theorem But.setCells (X : Nat) : ∀ (vs : List Value) (o : Nat) (w : World), But X w (w.setCells X o vs)
  | [], _, w => But.refl X w
  | u :: r, o, w => ((But.refl X w).set o u).trans (But.setCells X r (o + 1) _)
theorem RowF.fill {α : Type} {emb : α → Value} {t : TypeId} {G m : Nat} (z : α) : ∀ (k o : Nat) (v : Nat → α) (w : World), RowF emb t w G m v → o + k ≤ m → RowF emb t (w.setCells G o (List.replicate k (emb z))) G m (fun j => if o ≤ j ∧ j < o + k then z else v j)
  | 0, o, v, w, h, _ => h.congr fun j hj => by rw [if_neg (by omega)]
  | k + 1, o, v, w, h, ho => by
    refine (RowF.fill z k (o + 1) _ _ (h.set (i := o) (by omega) z) (by omega)).congr fun j hj => ?_
    unfold updF
    by_cases e : j = o
    · subst e; rw [if_neg (by omega), if_pos rfl, if_pos (by omega)]
    · rw [if_neg e]
      by_cases e2 : o + 1 ≤ j ∧ j < o + 1 + k
      · rw [if_pos e2, if_pos (by omega)]
      · rw [if_neg e2, if_neg (by omega)]
section
variable {α : Type} {emb : α → Value} {tR tE : TypeId} {w : World} {H : Nat} {S : Nat → Prop} {n : Int} {fi c m cap : Nat} {ao : Option Addr} {v : Nat → α}
theorem RgAt.len (h : RgAt emb tR tE w H S n fi c m cap ao v) {c' : Nat} (hc : c' ≤ m) : RgAt emb tR tE (w.setCell ⟨H, 2, none⟩ (.int .i64 c')) H S n fi c' m cap ao v ∧ GrowS S S w (w.setCell ⟨H, 2, none⟩ (.int .i64 c')) := by
  have hB : But H w (w.setCell ⟨H, 2, none⟩ (.int .i64 c')) := (But.refl H w).set 2 _
  have hz : (w.setCell ⟨H, 2, none⟩ (.int .i64 c')).heap.size = w.heap.size := by simp
  refine ⟨{ h with box := by rw [set_at h.box]; rfl, cm := hc, row := fun hm => ?_, lt := fun k hk => by rw [hz]; exact h.lt k hk }, ⟨hB.os, hB.tape, hB.output, hB.size, fun k hk hS => hB.block k hk (fun e => hS (e ▸ h.own)), fun k hk => .inl hk⟩⟩
  obtain ⟨G, h1, h2, h3, h4⟩ := h.row hm
  exact ⟨G, h1, h2, h3, h4.same (hB.block G (h.lt G h2) h3)⟩
theorem RgAt.first (h : RgAt emb tR tE w H S n fi c m cap ao v) {f' : Nat} (hf : f' < m ∨ (m = 0 ∧ f' = 0)) : RgAt emb tR tE (w.setCell ⟨H, 1, none⟩ (.int .i64 f')) H S n f' c m cap ao v ∧ GrowS S S w (w.setCell ⟨H, 1, none⟩ (.int .i64 f')) := by
  have hB : But H w (w.setCell ⟨H, 1, none⟩ (.int .i64 f')) := (But.refl H w).set 1 _
  have hz : (w.setCell ⟨H, 1, none⟩ (.int .i64 f')).heap.size = w.heap.size := by simp
  refine ⟨{ h with box := by rw [set_at h.box]; rfl, fm := ?_, row := fun hm => ?_, lt := fun k hk => by rw [hz]; exact h.lt k hk }, ⟨hB.os, hB.tape, hB.output, hB.size, fun k hk hS => hB.block k hk (fun e => hS (e ▸ h.own)), fun k hk => .inl hk⟩⟩
  · rcases hf with hf | hf
    · exact .inl hf
    · rcases h.fm with h1 | h1
      · omega
      · exact .inr ⟨hf.1, hf.2, h1.2.2⟩
  · obtain ⟨G, h1, h2, h3, h4⟩ := h.row hm
    exact ⟨G, h1, h2, h3, h4.same (hB.block G (h.lt G h2) h3)⟩
/-- The slots are others. -/
theorem RgAt.slots {A : World} {G M : Nat} {v' : Nat → α} (h : RgAt emb tR tE w H S n fi c m cap ao v) (hb : Below w.heap.size w A) (hG : w.heap.size ≤ G) (hr : RowF emb tE A G M v') (hc : c ≤ M) (hM : 0 < M) (hn : (M : Int) ≤ n) :
    RgAt emb tR tE ((A.setCell ⟨H, 1, none⟩ (.int .i64 0)).setCell ⟨H, 3, none⟩ (.slice (some ⟨G, 0, none⟩) M M)) H (fun k => S k ∨ k = G) n 0 c M M (some ⟨G, 0, none⟩) v' ∧ GrowS S (fun k => S k ∨ k = G) w ((A.setCell ⟨H, 1, none⟩ (.int .i64 0)).setCell ⟨H, 3, none⟩ (.slice (some ⟨G, 0, none⟩) M M)) := by
  have hH := h.lt H h.own
  have hbA := (hb.block H hH).trans h.box
  have hB : But H A ((A.setCell ⟨H, 1, none⟩ (.int .i64 0)).setCell ⟨H, 3, none⟩ (.slice (some ⟨G, 0, none⟩) M M)) := ((But.refl H A).set 1 _).set 3 _
  have hz : ((A.setCell ⟨H, 1, none⟩ (.int .i64 0)).setCell ⟨H, 3, none⟩ (.slice (some ⟨G, 0, none⟩) M M)).heap.size = A.heap.size := by simp
  have hGA := hr.lt
  refine ⟨⟨by rw [set_at (set_at hbA)]; rfl, h.sm, hc, hn, Nat.le_refl _, .inl hM, fun _ => ⟨G, rfl, .inr rfl, by omega, hr.same (hB.block G hGA (by omega))⟩, .inl h.own, fun k hk => ?_⟩, ⟨hB.os.trans hb.os, hB.tape.trans hb.tape, hB.output.trans hb.output, by rw [hz]; exact hb.size, fun k hk hS => ?_, fun k hk => ?_⟩⟩
  · rw [hz]
    rcases hk with hk | rfl
    · exact Nat.lt_of_lt_of_le (h.lt k hk) hb.size
    · exact hGA
  · exact (hB.block k (Nat.lt_of_lt_of_le hk hb.size) (fun e => hS (e ▸ h.own))).trans (hb.block k hk)
  · rcases hk with hk | rfl
    · exact .inl hk
    · exact .inr hG
end
theorem Try.infoIntQ : (Try.prog.info? 3).map (fun i => (i.zero, i.size, i.bytes)) = some (some (.int .i64 0), 1, 8) := by kernel_rfl
theorem Try.infoStrQ : (Try.prog.info? 9).map (fun i => (i.zero, i.size, i.bytes)) = some (some (.string ⟨#[]⟩), 1, 16) := by kernel_rfl
theorem same_cell {w : World} {H j : Nat} {cs : Array Value} {t : TypeId} {u : Value} (h : w.heap[H]? = some (.cells cs t (0, 0))) (hu : cs[j]? = some u) : Below w.heap.size w (w.setCell ⟨H, j, none⟩ u) ∧ (w.setCell ⟨H, j, none⟩ u).heap[H]? = some (.cells cs t (0, 0)) := by
  have hB : But H w (w.setCell ⟨H, j, none⟩ u) := (But.refl H w).set j _
  have hs : (w.setCell ⟨H, j, none⟩ u).heap[H]? = some (.cells cs t (0, 0)) := by
    rw [set_at h]
    congr 2
    apply Array.ext_getElem?
    intro i
    rw [Array.getElem?_setIfInBounds]
    split
    · rename_i e
      subst e
      split
      · exact hu.symm
      · rename_i h0
        rw [Array.getElem?_eq_none (by omega)] at hu
        cases hu
    · rfl
  refine ⟨⟨hB.os, hB.tape, hB.output, hB.size, fun k hk => ?_⟩, hs⟩
  by_cases e : k = H
  · subst e; rw [hs, h]
  · exact hB.block k hk e
theorem copy_i {A : World} {G G2 M c : Nat} {u f : Nat → Int} (hG : RowF (fun x => Value.int .i64 x) 3 A G M u) (h2 : RowF (fun x => Value.int .i64 x) 3 A G2 c f) (hc : c ≤ M) :
    ∃ A', (Builtin.copy_ #[46, 46] 3 #[.slice (some ⟨G, 0, none⟩) M M, .slice (some ⟨G2, 0, none⟩) c c]).run Try.prog A = .ok (.int .i64 c) A' ∧ RowF (fun x => Value.int .i64 x) 3 A' G M (fun j => if j < c then f j else u j) ∧ ∀ B w, B ≤ G → Below B w A → Below B w A' := by
  obtain ⟨cur, g1, g2, g3⟩ := hG
  have hl : ((List.range c).map fun j => (Value.int .i64 (f j))).length = c := by simp
  have h := run_copy_row (P := Try.prog) A 46 46 3 3 G 0 M M ⟨G2, 0, none⟩ c c cur 3 ((List.range c).map fun j => (Value.int .i64 (f j))) Try.underlying46 (by have := Try.infoIntQ; cases hq : Try.prog.info? 3 with | none => rw [hq] at this; cases this | some i => rw [hq] at this; simp at this; simp [this.2.1]) g1 (by rw [hl]; exact (Nat.min_eq_left hc).symm)
    (fun j x hj => by
      rw [add_at, Nat.zero_add]
      have hjc : j < c := by
        rcases Nat.lt_or_ge j c with h | h
        · exact h
        · rw [List.getElem?_eq_none (by rw [hl]; exact h)] at hj; cases hj
      rw [(h2.at_ hjc).1]
      simpa [hjc] using hj) (by rw [hl]; omega) (by intro x hx; obtain ⟨j, _, rfl⟩ := List.mem_map.1 hx; rfl)
  refine ⟨_, h.trans (by rw [hl]; rfl), ?_, fun B w hB hb => below_setRow hb hB _⟩
  refine ⟨_, setRow_heap A G cur _ 3 _ g1, by simp [hl]; omega, fun i hi => ?_⟩
  have h3 := g3 i hi
  simp only [List.take_zero, List.nil_append, Nat.zero_add, List.getElem?_toArray]
  by_cases e : i < c
  · rw [if_pos e, List.getElem?_append_left (by rw [hl]; exact e)]
    simp [e]
  · rw [if_neg e, List.getElem?_append_right (by rw [hl]; omega), hl, List.getElem?_drop, show c + (i - c) = i by omega]
    simpa using h3
set_option maxRecDepth 100000 in
set_option maxHeartbeats 4000000 in
theorem all_i (w : World) (H : Nat) (S : Nat → Prop) (n : Int) (fi c m cap : Nat) (ao : Option Addr) (v : Nat → Int) (h : RgAt (fun x => Value.int .i64 x) 80 3 w H S n fi c m cap ao v) : Calls Try.prog 53 #[.pointer (some ⟨H, 0, none⟩)] w fun e w' => ∃ G, e = .returned (.slice (some ⟨G, 0, none⟩) c c) ∧ w.heap.size ≤ G ∧ RowF (fun x => Value.int .i64 x) 3 w' G c (fun j => v ((fi + j) % m)) ∧ Below w.heap.size w w' := by
  have hcm := h.cm; have hn := h.mn; have hs := h.sm
  have HL := Lib.hid (len_box_i w H _ _ _ _ h.box)
  have HQ := Lib.hid h
  obtain ⟨f, hf⟩ : ∃ f : Nat → Int, f = fun j => v ((fi + j) % m) := ⟨_, rfl⟩
  have HA : Hid (∀ W : World, Below w.heap.size w W → ∀ i : Nat, i < c → Calls Try.prog 51 #[.pointer (some ⟨H, 0, none⟩), .int .i64 i] W fun e w' => e = .returned (.tuple #[.int .i64 (f i), .bool true]) ∧ ∃ d, w' = W.drewN d) := Lib.hid (fun W hW i hi => by rw [hf]; exact at_yes_i W H S n fi c m cap ao v (h.later hW) i hi)
  obtain ⟨i0, hi, hz0, hz1, hz2⟩ := info_parts Try.infoIntQ
  have HI := Lib.hid hi
  obtain ⟨G, hGe⟩ : ∃ G, G = w.heap.size := ⟨_, rfl⟩
  have HGE := Lib.hid hGe
  rw [← hf]
  clear h hi hf hGe
  go_enter Try.func53, Try.ntmps53
  go_wp2_with (first
    | (refine wpList_make_full _ (by rfl) (.tmp 6) (.tmp 6) 46 (by rfl) w.heap.size 3 i0 _ 1 Try.underlying46 HI.out hz0 hz1 _ _ c c c (by rfl) (by rfl) rfl rfl (by rw [hz2]; omega) (by simp [maxLen]; omega) (Nat.le_refl _) ?_
       intro w2 hown2 hgrow2
       have HB2 : Hid (Below w.heap.size w w2) := Lib.hid ⟨hgrow2.os, hgrow2.tape, hgrow2.output, hgrow2.size, fun k hk => hgrow2.block k hk (by simp)⟩
       have HR2 := Lib.hid (RowF.made (emb := (fun x => Value.int .i64 x)) rfl hown2).1
       rw [← HGE.out] at HR2 ⊢
       clear hown2 hgrow2)
    | (go_at_call 47; refine HL.out.mono ?_; rintro e w3 ⟨rfl, hw3⟩; rw [hw3]; clear hw3)
    | fail "no arm")
  go_loopw [10] (fun s wr => ∃ k : Nat, k ≤ c ∧ s = .int .i64 k ∧ Hid (RowF (fun x => Value.int .i64 x) 3 wr G c (partF f 0 k)) ∧ Hid (Below w.heap.size w wr)) (fun s _ => c - (intOf s).toNat)
  case atStart => exact ⟨0, Nat.zero_le _, rfl, Lib.hid (HR2.out.congr fun j hj => rfl), HB2⟩
  case round =>
    obtain ⟨k, hk, rfl, HR, HB⟩ := hrel
    by_cases hlt : k < c
    · have l0 : decide ((k : Int) < (c : Int)) = true := decide_eq_true (by omega)
      have l1 : (0 : Int) ≤ (k : Int) := by omega
      have l2 : (k : Int) < (c : Int) := by omega
      go_wp2_with (first
        | (go_at_call 51
           refine (HA.out _ HB.out k hlt).mono ?_
           rintro e w5 ⟨rfl, d, hw5⟩
           have HR5 : Hid (RowF (fun x => Value.int .i64 x) 3 w5 G c (partF f 0 k)) := Lib.hid (by rw [hw5]; exact HR.out.same rfl)
           have HB5 : Hid (Below w.heap.size w w5) := Lib.hid (by rw [hw5]; exact below_drewR d HB.out)
           obtain ⟨q0, q1⟩ := HR5.out.at_ hlt
           clear hw5)
        | fail "no arm")
      go_roundw
      case rel => exact ⟨k + 1, by omega, by go_num, Lib.hid (by have hh := HR5.out.set hlt (f k); rw [partF_next] at hh; exact hh), Lib.hid (HB5.out.setCell (p := ⟨G, k, none⟩) (Nat.le_of_eq HGE.out.symm) _)⟩
      case measure => simp [intOf]; omega
    · have l0 : decide ((k : Int) < (c : Int)) = false := decide_eq_false (by omega)
      have HKC : Hid (k = c) := Lib.hid (by omega)
      go_wp2_with fail
      go_ret
      exact ⟨G, rfl, Nat.le_of_eq HGE.out.symm, HR.out.congr fun j hj => by unfold partF; rw [if_pos (by have := HKC.out; omega)], HB.out⟩
def rowObj_i (M : Nat) : Obj := .cells (madeCells (Value.int .i64 0).cells (M * 1)) 3
theorem rowObj_row_i {W : World} {G M : Nat} (h : W.heap[G]? = some (rowObj_i M)) : RowF (fun x => Value.int .i64 x) 3 W G M (fun _ => 0) :=
  ⟨_, h, by simp [madeCells], fun i hi => by simp [madeCells, Value.cells, Nat.mod_one, hi]⟩
theorem run_make_i (M : Nat) (hM : M ≤ 4096) (W : World) : (Instr.makeSlice 46 (.int .i64 (M : Int)) (.int .i64 (M : Int))).run Try.prog W = .ok (.slice (some ⟨W.heap.size, 0, none⟩) M M) (W.alloc (rowObj_i M)) := by
  obtain ⟨i0, hi0, hz0, hz1, hz2⟩ := info_parts Try.infoIntQ
  have h := run_make (P := Try.prog) W 46 3 i0 _ Try.underlying46 hi0 hz0 .i64 .i64 (M : Int) (M : Int) (by omega) (by omega) (by rw [hz2]; omega) (by omega)
  rw [h, hz1]
  rfl
def rowObj_s (M : Nat) : Obj := .cells (madeCells (Value.string ⟨#[]⟩).cells (M * 1)) 9
theorem rowObj_row_s {W : World} {G M : Nat} (h : W.heap[G]? = some (rowObj_s M)) : RowF (fun x => Value.string x) 9 W G M (fun _ => ⟨#[]⟩) :=
  ⟨_, h, by simp [madeCells], fun i hi => by simp [madeCells, Value.cells, Nat.mod_one, hi]⟩
end Go.Proofs.Ytoebbbghllkdgaa
