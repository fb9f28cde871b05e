/- A heap is made. -/
import Derived.Test.YtnenbgdonkgkfaaGreatHeapG
import Derived.Shelf.Bits.Mul64
import Derived.Laws.CopyOwn
import Derived.OwnWalk
namespace Go.Proofs.YtnenbgdonkgkfaaGreat
open Go.ChangeShapes Go.WideShapes Go.ChangeAt Go.RowKit
set_option linter.unusedVariables false
set_option linter.unusedSimpArgs false

set_option maxRecDepth 100000 in
set_option maxHeartbeats 2000000 in
theorem mul64_any (y : Nat) (hy : y ≤ 1024) (w : World) :
    Calls Tryz.prog 93 #[.int .u64 1, .int .u64 y] w fun e w' => e = .returned (.tuple #[.int .u64 0, .int .u64 y]) ∧ w' = w := by
  have m1 : bits .and .u64 1 4294967295 = 1 := by kernel_rfl
  have m0 : bits .and .u64 0 4294967295 = 0 := by kernel_rfl
  have y0 : y % 4294967296 = y := Nat.mod_eq_of_lt (by omega)
  have y1 : y / 4294967296 = 0 := Nat.div_eq_of_lt (by omega)
  have w0 : IntKind.u64.wrap (0 : Int) = 0 := by kernel_rfl
  have wy : IntKind.u64.wrap (y : Int) = (y : Int) := Mul64.wrapN y (by omega)
  go_enter Tryz.func93, Tryz.ntmps93
  go_wp2
  simp only [Mul64.maskN y (by omega), Mul64.divN, y0, y1, m1, Int.one_mul, wy, Int.natCast_zero, Int.mul_zero, Int.zero_mul, w0, Int.add_zero, Int.zero_add, Int.zero_ediv, m0]
  go_ret2
  exact ⟨rfl, rfl⟩
set_option maxRecDepth 100000 in
set_option maxHeartbeats 2000000 in
theorem mul_any (y : Nat) (hy : y ≤ 1024) (w : World) :
    Calls Tryz.prog 85 #[.int .u64 1, .int .u64 y] w fun e w' => e = .returned (.tuple #[.int .u64 0, .int .u64 y]) ∧ w' = w := by
  go_enter Tryz.func85, Tryz.ntmps85
  go_wp2_with (go_at_call 93; refine (mul64_any y hy _).mono ?_; rintro e w3 ⟨rfl, rfl⟩)
  go_ret2
  exact ⟨rfl, rfl⟩
theorem Tryz.infoInt' : (Tryz.prog.info? 3).map (·.size) = some 1 := by kernel_rfl
/-- The row of where, so far. -/
def ones (k room : Nat) : List Value := List.replicate k (.int .i64 (-1)) ++ List.replicate (room - k) (.int .i64 0)
theorem ones_len {k room : Nat} (h : k ≤ room) : (ones k room).length = room := by simp [ones]; omega
theorem ones_none (room : Nat) : List.replicate room (Value.int .i64 0) = ones 0 room := by simp [ones]
theorem ones_at {k room j : Nat} {u : Value} (h : (List.replicate k (Value.int .i64 (-1)))[j]? = some u) : (ones k room)[j]? = some u := by
  have hj : j < k := by
    rcases Nat.lt_or_ge j k with h1 | h1
    · exact h1
    · rw [List.getElem?_eq_none (by simpa using h1)] at h; cases h
  unfold ones
  rw [List.getElem?_append_left (by simpa using hj)]
  exact h
theorem ones_splice {k m room : Nat} (h : k + m ≤ room) : Go.splice (ones k room) k (List.replicate m (.int .i64 (-1))) = ones (k + m) room := by
  unfold Go.splice ones
  rw [List.take_append, List.drop_append]
  simp only [List.length_replicate, List.take_replicate, List.drop_replicate, Nat.sub_self, Nat.min_self, List.take_zero, List.append_nil]
  rw [show k - (k + m) = 0 by omega, show k + m - k = m by omega, show room - k - m = room - (k + m) by omega]
  simp [← List.replicate_append_replicate]
theorem ones_wher {w : World} {G room : Nat} (h : CellsAt w G 3 (ones room room)) : WherAt w G room (fun _ => -1) :=
  ⟨_, h, by simp [ones], fun i hi => by simp [ones, hi]⟩
theorem copy_ones {A : World} {G S k room m sLen sCap dCap : Nat} (hC : CellsAt A G 3 (ones k room)) (hsrc : ∀ j u, (List.replicate m (Value.int .i64 (-1)))[j]? = some u → A.cell? ⟨S, j, none⟩ = some u) (hm : m = min sLen (room - k)) (hk : k + m ≤ room) :
    ∃ A', (Builtin.copy_ #[100, 100] 3 #[.slice (some ⟨G, k, none⟩) (room - k) dCap, .slice (some ⟨S, 0, none⟩) sLen sCap]).run Tryz.prog A = .ok (.int .i64 m) A' ∧ CellsAt A' G 3 (ones (k + m) room) ∧ ∀ B w, B ≤ G → Below B w A → Below B w A' := by
  have hl : (List.replicate m (Value.int .i64 (-1))).length = m := List.length_replicate
  have h := run_copy_row (P := Tryz.prog) A 100 100 3 3 G k (room - k) dCap ⟨S, 0, none⟩ sLen sCap (ones k room).toArray 3 (List.replicate m (Value.int .i64 (-1))) Tryz.underlying100 Tryz.infoInt' hC (by rw [hl]; exact hm)
    (fun j v hj => by rw [add_at, Nat.zero_add]; exact hsrc j v hj) (by rw [hl, List.size_toArray, ones_len (by omega)]; exact hk) (by intro v hv; rw [List.eq_of_mem_replicate hv]; rfl)
  refine ⟨_, h.trans (by rw [hl]; rfl), ?_, fun B w hB hb => below_setRow hb hB _⟩
  have h2 := setRow_heap A G (ones k room).toArray ((ones k room).take k ++ List.replicate m (Value.int .i64 (-1)) ++ (ones k room).drop (k + m)).toArray 3 _ hC
  unfold CellsAt
  rw [← ones_splice hk]
  unfold Go.splice
  rw [hl, ← List.append_assoc]
  simpa using h2
set_option maxRecDepth 100000 in
set_option maxHeartbeats 4000000 in
/-- slices.Repeat of one -1. -/
theorem repeat_any (S room : Nat) (hr : room ≤ 1024) (w : World) (hS : w.heap[S]? = some (.cells #[.int .i64 (-1)] 3 (0, 0))) :
    Calls Tryz.prog 73 #[.slice (some ⟨S, 0, none⟩) 1 1, .int .i64 room] w fun e w' => e = .returned (.slice (some ⟨w.heap.size, 0, none⟩) room room) ∧ WherAt w' w.heap.size room (fun _ => -1) ∧ Below w.heap.size w w' := by
  have k0 : w.cell? ⟨S, 0, none⟩ = some (.int .i64 (-1)) := cell_in hS rfl
  have r0 : decide ((room : Int) < 0) = false := decide_eq_false (by omega)
  have r1 : ¬ (room : Int) < 0 := by omega
  have r2 : decide ((9223372036854775807 : Int) < (room : Int)) = false := decide_eq_false (by omega)
  have r3 : IntKind.u64.wrap (room : Int) = (room : Int) := Mul64.wrapN room (by omega)
  obtain ⟨i0, hi0, hz0, hz1, hz2⟩ := info_parts Tryz.infoInt
  obtain ⟨w2, hrun, hown, hgrow⟩ := run_make_full (P := Tryz.prog) (w := w) w.heap.size 100 3 i0 _ 1 Tryz.underlying100 hi0 hz0 hz1 .i64 .i64 room (by rw [hz2]; omega) (by simp [maxLen]; omega) (Nat.le_refl _)
  have hb2 : Below w.heap.size w w2 := ⟨hgrow.os, hgrow.tape, hgrow.output, hgrow.size, fun k hk => hgrow.block k hk (by simp)⟩
  have hC2 : CellsAt w2 w.heap.size 3 (ones 0 room) := by
    have := CellsAt.of_own hown (by rw [made_cells _ rfl]; simp)
    rw [Nat.mul_one, made_cells _ rfl, ones_none] at this
    exact this
  have hS2 := (hb2.block S (lt_of_block hS)).trans hS
  obtain ⟨w4, hcopy, hC4, hB4⟩ := copy_ones (S := S) (m := min 1 room) (sLen := 1) (sCap := 1) (dCap := room) hC2 (fun j u hj => by
    rcases Nat.eq_zero_or_pos j with h | h
    · subst h
      rw [List.getElem?_replicate] at hj
      split at hj
      · cases hj; exact cell_in hS2 rfl
      · cases hj
    · rw [List.getElem?_eq_none (by simp; omega)] at hj; cases hj) (by omega) (by omega)
  rw [Nat.sub_zero] at hcopy
  rw [Nat.zero_add] at hC4
  have HC4 := Lib.hid hC4
  have HB4 := Lib.hid (hB4 _ _ (Nat.le_refl _) hb2)
  obtain ⟨G, hG⟩ : ∃ G, G = w.heap.size := ⟨_, rfl⟩
  rw [← hG] at HC4 hrun hcopy HB4 ⊢
  have HG := Lib.hid hG
  clear hS hi0 hz0 hz1 hz2 hown hgrow hb2 hC2 hG hS2 hC4 hB4
  obtain ⟨k1, hk1⟩ : ∃ k, k = min 1 room := ⟨_, rfl⟩
  rw [← hk1] at HC4 hcopy
  have hk2 : k1 ≤ room ∧ (room ≠ 0 → 1 ≤ k1) := by omega
  have HK2 := Lib.hid hk2
  clear hk1 hk2
  go_enter Tryz.func73, Tryz.ntmps73
  go_wp2_with (go_at_call 85; refine (mul_any room hr _).mono ?_; rintro e w3 ⟨rfl, hw3⟩; rw [hw3]; clear hw3)
  go_loopw [8] (fun s wr => ∃ k : Nat, k ≤ room ∧ (room ≠ 0 → 1 ≤ k) ∧ s = .int .i64 k ∧ Hid (CellsAt wr G 3 (ones k room)) ∧ Hid (Below G w wr)) (fun s _ => room - (intOf s).toNat)
  case atStart => exact ⟨k1, HK2.out.1, HK2.out.2, rfl, HC4, HB4⟩
  case round =>
    obtain ⟨k, hk, hk1, rfl, HCk, HBk⟩ := hrel
    by_cases hlt : k < room
    · have l0 : decide ((k : Int) < (room : Int)) = true := decide_eq_true (by omega)
      have l1 : (k : Int) ≤ (room : Int) := by omega
      have l2 : (0 : Int) ≤ (k : Int) := by omega
      have l3 : k ≤ room := hk
      obtain ⟨m, hm⟩ : ∃ m, m = min k (room - k) := ⟨_, rfl⟩
      obtain ⟨w5, hcopy5, hC5, hB5⟩ := copy_ones (A := wr.drew) (S := G) (m := m) (sLen := k) (sCap := room) (dCap := room - k) (k := k) (room := room) (G := G) HCk.out (fun j u hj => (CellsAt.cell HCk.out (ones_at (by
        rw [List.getElem?_replicate] at hj ⊢
        split at hj
        · rw [if_pos (by omega)]; exact hj
        · cases hj))).1) hm (by omega)
      have HC5 := Lib.hid hC5
      have HB5 := Lib.hid (hB5 _ _ (Nat.le_refl _) HBk.out.drew)
      have m0 : (k : Int) + (m : Int) ≤ 1024 := by omega
      have m3 : (0 : Int) ≤ (m : Int) := by omega
      have m1 : 1 ≤ m := by omega
      have m2 : k + m ≤ room := by omega
      clear hC5 hB5 hm
      go_wp2_with fail
      go_region
      go_wp2_with fail
      go_roundw
      case rel => exact ⟨k + m, m2, by omega, by go_num, HC5, HB5⟩
      case measure => simp [intOf]; omega
    · have l0 : decide ((k : Int) < (room : Int)) = false := decide_eq_false (by omega)
      have hkr : k = room := by omega
      have HE := Lib.hid hkr
      clear hkr
      go_wp2_with fail
      go_ret
      have hC := HCk.out
      rw [HE.out] at hC
      exact ⟨rfl, ones_wher hC, HBk.out⟩
theorem Tryz.infoEn : (Tryz.prog.info? 97).map (fun i => (i.zero, i.size, i.bytes)) = some (some (.agg #[.int .i64 0, .int .i64 0]), 2, 16) := by kernel_rfl
theorem Tryz.sizeOrder : (Tryz.prog.info? 102).map (·.size) = some 2 := by kernel_rfl
/-- A row of who, made. -/
def whoObj (room : Nat) : Obj := .cells (madeCells (Value.agg #[.int .i64 0, .int .i64 0]).cells (room * 2)) 97
theorem who_made {w : World} {G room : Nat} (h : w.heap[G]? = some (whoObj room)) : WhoAt w G room (fun _ => (0, 0)) := by
  refine ⟨_, h, by simp [madeCells], fun i hi => ?_⟩
  simp only [madeCells, Value.cells]
  constructor
  · simp [show i * 2 < room * 2 by omega]
  · simp [show i * 2 + 1 < room * 2 by omega, show (i * 2 + 1) % 2 = 1 by omega]
theorem run_make_who (room : Nat) (hr : room ≤ 1024) (W : World) : (Instr.makeSlice 99 (.int .i64 0) (.int .i64 (room : Int))).run Tryz.prog W = .ok (.slice (some ⟨W.heap.size, 0, none⟩) 0 room) (W.alloc (whoObj room)) := by
  obtain ⟨i0, hi0, hz0, hz1, hz2⟩ := info_parts Tryz.infoEn
  have h := run_make (P := Tryz.prog) W 99 97 i0 _ Tryz.underlying99 hi0 hz0 .i64 .i64 0 (room : Int) (by omega) (by omega) (by rw [hz2]; omega) (by omega)
  rw [h, hz1]
  rfl
theorem order_end {w3 : World} {a X room : Nat} {x : Nat → Int} (s1 s2 : Value) (hb : w3.heap[a]? = some (.cells #[.slice none 0 0, .slice none 0 0] 102 (0, 0))) (hX : WherAt w3 X room x) (h2 : X ≠ a) :
    ((w3.setCell ⟨a, 0, none⟩ s1).setCell ⟨a, 1, none⟩ s2).heap[a]? = some (.cells #[s1, s2] 102 (0, 0)) ∧ WherAt ((w3.setCell ⟨a, 0, none⟩ s1).setCell ⟨a, 1, none⟩ s2) X room x ∧ (∀ B, B ≠ a → ((w3.setCell ⟨a, 0, none⟩ s1).setCell ⟨a, 1, none⟩ s2).heap[B]? = w3.heap[B]?) :=
  ⟨by rw [set_at (set_at hb)]; rfl, hX.same (by rw [set_other _ _ _ h2, set_other _ _ _ h2]), fun B hB => by rw [set_other _ _ _ hB, set_other _ _ _ hB]⟩
set_option maxRecDepth 100000 in
set_option maxHeartbeats 4000000 in
theorem newOrder_any (room : Nat) (hr : room ≤ 1024) (w : World) :
    Calls Tryz.prog 61 #[.int .i64 room] w fun e w' => ∃ W X, e = .returned (.agg #[.slice (some ⟨W, 0, none⟩) 0 room, .slice (some ⟨X, 0, none⟩) room room]) ∧ w.heap.size ≤ W ∧ w.heap.size ≤ X ∧ W ≠ X ∧ WhoAt w' W room (fun _ => (0, 0)) ∧ WherAt w' X room (fun _ => -1) ∧ Below w.heap.size w w' := by
  have hmk := run_make_who room hr
  have HRP := Lib.hid (fun S W hS => repeat_any S room hr W hS)
  obtain ⟨V, hV⟩ : ∃ V, V = w.alloc (.cells #[.slice none 0 0, .slice none 0 0] 102) := ⟨_, rfl⟩
  have HV := Lib.hid hV
  have hbv : V.heap[w.heap.size]? = some (.cells #[.slice none 0 0, .slice none 0 0] 102 (0, 0)) := by rw [hV]; exact heap_alloc_new _ _
  have HBV := Lib.hid hbv
  have KB : Hid (∀ A, Below V.heap.size V A → A.cell? ⟨w.heap.size, 0, none⟩ = some (.slice none 0 0) ∧ A.cell? ⟨w.heap.size, 1, none⟩ = some (.slice none 0 0) ∧ A.frozen? ⟨w.heap.size, 0, none⟩ = false ∧ A.frozen? ⟨w.heap.size, 1, none⟩ = false ∧ w.heap.size < A.heap.size) := Lib.hid (fun A hA => by
    have h1 := (hA.block _ (lt_of_block hbv)).trans hbv
    exact ⟨cell_in h1 rfl, cell_in h1 rfl, free_in h1 _, free_in h1 _, lt_of_block h1⟩)
  clear hV hbv
  go_enter Tryz.func61, Tryz.ntmps61
  go_wp2_with fail
  rw [← HV.out]
  go_region_held3 (fun X => True)
    (first | trivial | fail "no")
    (first | (go_at_call 73; refine (HRP.out _ _ (by first | (show (World.alloc _ _).heap[_]? = _; rw [heap_at, if_pos (by simp)]; done) | (show (World.alloc _ _).heap[_]? = _; rw [heap_at, if_neg (by simp)]; show (World.alloc _ _).heap[_]? = _; rw [heap_at, if_pos (by simp)]; done))).mono ?_; rintro e w3 ⟨rfl, hw3, hb3⟩; have hb5 : Below V.heap.size V w3 := Below.trans (by repeat first | exact Below.refl _ _ | refine b_alloc ?_ (Nat.le_refl _) _ | refine Below.drew ?_) (hb3.mono (by simp <;> omega)); obtain ⟨q0, q1, q2, q3, q4⟩ := KB.out _ hb5) | fail "no arm")
  · have hv : w.heap.size < V.heap.size := lt_of_block HBV.out
    simp only [World.size_alloc, heap_drew] at hw3
    obtain ⟨r0, r1, r2⟩ := order_end (.slice (some ⟨V.heap.size, 0, none⟩) 0 room) (.slice (some ⟨V.heap.size + 1 + 1, 0, none⟩) room room) ((hb5.block _ hv).trans HBV.out) hw3 (by omega)
    have hwho : w3.heap[V.heap.size]? = some (whoObj room) := (hb3.block _ (by simp; omega)).trans (by rw [heap_drew, heap_at, if_neg (by simp), heap_at, if_pos rfl])
    have HR0 := Lib.hid r0
    have hBV2 : Below w.heap.size w V := by rw [HV.out]; exact below1 _ _
    go_wp2
    refine bodyPost_ret (results_cell_row (P := Tryz.prog) rfl _ _ w.heap.size _ _ (0, 0) _ rfl HR0.out Tryz.underlying102 rfl Tryz.sizeOrder) rfl ?_
    exact ⟨_, _, rfl, by omega, by omega, by omega, who_made ((r2 _ (by omega)).trans hwho), r1, ((hBV2.trans (hb5.mono (by omega))).setCell (Nat.le_refl _) _).setCell (Nat.le_refl _) _⟩
  · have hv : w.heap.size < V.heap.size := lt_of_block HBV.out
    simp only [World.size_alloc, heap_drew] at hw3
    obtain ⟨r0, r1, r2⟩ := order_end (.slice (some ⟨V.heap.size + 1, 0, none⟩) 0 room) (.slice (some ⟨V.heap.size + 1 + 1, 0, none⟩) room room) ((hb5.block _ hv).trans HBV.out) hw3 (by omega)
    have hwho : w3.heap[V.heap.size + 1]? = some (whoObj room) := (hb3.block _ (by simp)).trans (by rw [heap_drew, heap_at, if_pos (by simp)])
    have HR0 := Lib.hid r0
    have hBV2 : Below w.heap.size w V := by rw [HV.out]; exact below1 _ _
    go_wp2
    refine bodyPost_ret (results_cell_row (P := Tryz.prog) rfl _ _ w.heap.size _ _ (0, 0) _ rfl HR0.out Tryz.underlying102 rfl Tryz.sizeOrder) rfl ?_
    exact ⟨_, _, rfl, by omega, by omega, by omega, who_made ((r2 _ (by omega)).trans hwho), r1, ((hBV2.trans (hb5.mono (by omega))).setCell (Nat.le_refl _) _).setCell (Nat.le_refl _) _⟩
  · have hv : w.heap.size < V.heap.size := lt_of_block HBV.out
    simp only [World.size_alloc, heap_drew] at hw3
    obtain ⟨r0, r1, r2⟩ := order_end (.slice (some ⟨w3.heap.size, 0, none⟩) 0 room) (.slice (some ⟨V.heap.size + 1, 0, none⟩) room room) ((hb5.block _ hv).trans HBV.out) hw3 (by omega)
    have hxl := hw3.lt
    have hwho := heap_alloc_new ((w3.setCell ⟨w.heap.size, 0, none⟩ (.slice (some ⟨w3.heap.size, 0, none⟩) 0 room)).setCell ⟨w.heap.size, 1, none⟩ (.slice (some ⟨V.heap.size + 1, 0, none⟩) room room)) (whoObj room)
    rw [World.size_setCell, World.size_setCell] at hwho
    have hl : ∀ k, k < w3.heap.size → (((w3.setCell ⟨w.heap.size, 0, none⟩ (.slice (some ⟨w3.heap.size, 0, none⟩) 0 room)).setCell ⟨w.heap.size, 1, none⟩ (.slice (some ⟨V.heap.size + 1, 0, none⟩) room room)).alloc (whoObj room)).heap[k]? = ((w3.setCell ⟨w.heap.size, 0, none⟩ (.slice (some ⟨w3.heap.size, 0, none⟩) 0 room)).setCell ⟨w.heap.size, 1, none⟩ (.slice (some ⟨V.heap.size + 1, 0, none⟩) room room)).heap[k]? := fun k hk => Below.heap_alloc _ _ _ (by simpa using hk)
    have HR0 := Lib.hid ((hl _ q4).trans r0)
    have hBV2 : Below w.heap.size w V := by rw [HV.out]; exact below1 _ _
    have hX2 := r1.same (hl _ hxl)
    have HX2 := Lib.hid hX2
    have HWH := Lib.hid (who_made hwho)
    clear hl hX2 hwho r0 r1 r2
    go_wp2
    refine bodyPost_ret (results_cell_row (P := Tryz.prog) rfl _ _ w.heap.size _ _ (0, 0) _ rfl HR0.out Tryz.underlying102 rfl Tryz.sizeOrder) rfl ?_
    exact ⟨_, _, rfl, by omega, by omega, by omega, HWH.out, HX2.out, b_alloc (((hBV2.trans (hb5.mono (by omega))).setCell (Nat.le_refl _) _).setCell (Nat.le_refl _) _) (Nat.le_refl _) _⟩
set_option maxRecDepth 100000 in
set_option maxHeartbeats 4000000 in
/-- A heap that none is in. -/
theorem hnew_any (room : Int) (w : World) :
    Calls Tryz.prog 42 #[.int .i64 room] w fun e w' => ∃ hi H W X, e = .returned (.pointer (some ⟨H, 0, none⟩)) ∧ HpD w' w.heap.size hi H W X (min (max room 0) 1024).toNat 0 (fun _ => none) ∧ Below w.heap.size w w' := by
  obtain ⟨r, hr⟩ : ∃ r : Nat, r = (min (max room 0) 1024).toNat := ⟨_, rfl⟩
  have hr1 : r ≤ 1024 := by omega
  have hr2 : min (max room 0) 1024 = (r : Int) := by omega
  have HN := Lib.hid (newOrder_any r hr1 w)
  rw [← hr]
  clear hr
  go_enter Tryz.func42, Tryz.ntmps42
  go_wp2_with (go_at_call 61; refine HN.out.mono ?_; rintro e w3 ⟨W, X, rfl, hW, hX, hWX, hwho, hwhr, hb3⟩)
  go_ret
  have l1 := hwho.lt
  have l2 := hwhr.lt
  refine ⟨w3.heap.size + 1, w3.heap.size, W, X, rfl, ⟨fun _ => (0, 0), fun _ => -1, ⟨heap_alloc_new _ _, hwho.same (Below.heap_alloc _ _ _ l1), hwhr.same (Below.heap_alloc _ _ _ l2), ⟨by omega, by omega, hWX⟩, ⟨hb3.size, hW, hX, by omega, by omega, by omega⟩, by simp, hr1⟩, ⟨Nat.zero_le _, fun i hi => by omega, fun id _ => .inl ⟨rfl, rfl⟩, fun _ _ => rfl⟩, fun i h0 h1 => by omega⟩, b_alloc hb3 (Nat.le_refl _) _⟩
end Go.Proofs.YtnenbgdonkgkfaaGreat
