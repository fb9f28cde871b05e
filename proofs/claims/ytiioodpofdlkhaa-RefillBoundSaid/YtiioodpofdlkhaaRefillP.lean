/- The program's refilled budget in memory; made, none, first, left, due, began, lay, use. -/
import Derived.Test.YtiioodpofdlkhaaRefillC
import Derived.Test.YtiioodpofdlkhaaOff
import Derived.Test.YtiioodpofdlkhaaNum
import Derived.BigQuiet
import Derived.BigRegion
namespace Go.Proofs.Ytiioodpofdlkhaa
open Go.ChangeShapes Go.WideShapes Go.ChangeAt Go.RowKit
set_option linter.unusedVariables false

/-- What a budget has in memory: its box H and its live chunks. -/
structure RfB (w : World) (H : Nat) (s : Sv) (st now f : Int) (sp : Bool) (la : Option Addr) (lc : Nat) (lv : List Bk) : Prop where
  box : w.heap[H]? = some (.cells #[.slice la lv.length lc, .bool s.re, .int .i64 s.c, .int .i64 s.t, .int .i64 st, .int .i64 now, .int .i64 f, .bool sp] 46 (0, 0))
  l : ORow w 36 2 (.slice la lv.length lc) lv.length (lv.flatMap Bk.cells)
/-- Its blocks. -/
def Rfl (H : Nat) (la : Option Addr) : Nat → Prop := fun k => k = H ∨ ob la = some k
section
variable {w w' : World} {H : Nat} {s : Sv} {st now f now' f' : Int} {sp sp' : Bool} {la : Option Addr} {lc : Nat} {lv : List Bk}
theorem RfB.ll (h : RfB w H s st now f sp la lc lv) : ∀ g, ob la = some g → g < w.heap.size ∧ g ≠ H := fun g hg => by
  have h1 := h.l.kind g (by rw [own_ob]; exact hg)
  obtain ⟨cs, hc⟩ := h1
  refine ⟨lt_of_block hc, fun e => ?_⟩
  subst e
  have := h.box
  rw [hc] at this
  simp at this
theorem RfB.lt (h : RfB w H s st now f sp la lc lv) : ∀ k, Rfl H la k → k < w.heap.size := by
  rintro k (rfl | hk)
  · exact lt_of_block h.box
  · exact (h.ll k hk).1
theorem RfB.hold (h : RfB w H s st now f sp la lc lv) (hs : ∀ k, Rfl H la k → w'.heap[k]? = w.heap[k]?) : RfB w' H s st now f sp la lc lv :=
  ⟨(hs H (.inl rfl)).trans h.box, h.l.hold (fun g hg => hs g (.inr (by rwa [own_ob] at hg)))⟩
theorem RfB.later (h : RfB w H s st now f sp la lc lv) (hb : Below w.heap.size w w') : RfB w' H s st now f sp la lc lv := h.hold fun k hk => hb.block k (h.lt k hk)
theorem RfB.drew (h : RfB w H s st now f sp la lc lv) : RfB w.drew H s st now f sp la lc lv := h.later (Below.refl _ _).drew
/-- Another box, the same row. -/
theorem RfB.boxed (h : RfB w H s st now f sp la lc lv) (hb : w'.heap[H]? = some (.cells #[.slice la lv.length lc, .bool s.re, .int .i64 s.c, .int .i64 s.t, .int .i64 st, .int .i64 now', .int .i64 f', .bool sp'] 46 (0, 0))) (hs : ∀ k, k < w.heap.size → k ≠ H → w'.heap[k]? = w.heap[k]?) : RfB w' H s st now' f' sp' la lc lv :=
  ⟨hb, h.l.hold (fun g hg => by rw [own_ob] at hg; exact hs g (h.ll g hg).1 (h.ll g hg).2)⟩
theorem RfB.c0 (h : RfB w H s st now f sp la lc lv) : w.cell? ⟨H, 0, none⟩ = some (.slice la lv.length lc) := cell_in h.box rfl
theorem RfB.c2 (h : RfB w H s st now f sp la lc lv) : w.cell? ⟨H, 2, none⟩ = some (.int .i64 s.c) := cell_in h.box rfl
theorem RfB.c3 (h : RfB w H s st now f sp la lc lv) : w.cell? ⟨H, 3, none⟩ = some (.int .i64 s.t) := cell_in h.box rfl
theorem RfB.c4 (h : RfB w H s st now f sp la lc lv) : w.cell? ⟨H, 4, none⟩ = some (.int .i64 st) := cell_in h.box rfl
theorem RfB.c5 (h : RfB w H s st now f sp la lc lv) : w.cell? ⟨H, 5, none⟩ = some (.int .i64 now) := cell_in h.box rfl
theorem RfB.c6 (h : RfB w H s st now f sp la lc lv) : w.cell? ⟨H, 6, none⟩ = some (.int .i64 f) := cell_in h.box rfl
theorem RfB.c7 (h : RfB w H s st now f sp la lc lv) : w.cell? ⟨H, 7, none⟩ = some (.bool sp) := cell_in h.box rfl
theorem RfB.fz (h : RfB w H s st now f sp la lc lv) (j : Nat) : w.frozen? ⟨H, j, none⟩ = false := free_in h.box j
end
theorem bk_one (x : Bk) : ∀ u ∈ x.cells, u.oneCell' = true := by intro u hu; simp [Bk.cells] at hu; rcases hu with h | h <;> subst h <;> rfl
theorem set2r {w : World} {X : Nat} {T : TypeId} {cs : Array Value} (h : w.heap[X]? = some (.cells cs T (0, 0))) (hs : cs.size = 2) (v0 v1 : Value) :
    ((w.setCell ⟨X, 0, none⟩ v0).setCell ⟨X, 1, none⟩ v1).heap[X]? = some (.cells #[v0, v1] T (0, 0)) := by
  have h3 := set_at (j := 1) (u := v1) (set_at (j := 0) (u := v0) h)
  rw [h3]
  match cs, hs with
  | ⟨[a, b]⟩, _ => rfl
theorem Try.sizeRck : (Try.prog.info? 36).map (·.size) = some 2 := by kernel_rfl
theorem Try.infoRck : (Try.prog.info? 36).map (fun i => (i.zero, i.size, i.bytes)) = some (some (.agg #[.int .i64 0, .int .i64 0]), 2, 16) := by kernel_rfl
set_option maxRecDepth 100000 in
set_option maxHeartbeats 4000000 in
theorem rmade_yes (w : World) (H : Nat) (t : Int) (b3 : w.cell? ⟨H, 3, none⟩ = some (.int .i64 t)) (ht : 1 ≤ t) : Calls Try.prog 19 #[.pointer (some ⟨H, 0, none⟩)] w fun e w' => e = .returned (.bool true) ∧ w' = w := by
  have t0 : decide (0 < t) = true := decide_eq_true (by omega)
  go_enter Try.func19, Try.ntmps19
  go_wp2
  go_ret
  exact ⟨rfl, rfl⟩
set_option maxRecDepth 100000 in
set_option maxHeartbeats 4000000 in
theorem rmade_nil (w : World) : Calls Try.prog 19 #[.pointer none] w fun e w' => e = .returned (.bool false) ∧ w' = w := by
  go_enter Try.func19, Try.ntmps19
  go_wp2
  go_ret
  exact ⟨rfl, rfl⟩
set_option maxRecDepth 100000 in
set_option maxHeartbeats 4000000 in
theorem rmade_zero (w : World) (H : Nat) (b3 : w.cell? ⟨H, 3, none⟩ = some (.int .i64 0)) : Calls Try.prog 19 #[.pointer (some ⟨H, 0, none⟩)] w fun e w' => e = .returned (.bool false) ∧ w' = w := by
  go_enter Try.func19, Try.ntmps19
  go_wp2
  go_ret
  exact ⟨rfl, rfl⟩
set_option maxRecDepth 100000 in
set_option maxHeartbeats 4000000 in
theorem rdue_any (w : World) (H : Nat) (t x : Int) (b3 : w.cell? ⟨H, 3, none⟩ = some (.int .i64 t)) (ht : 1 ≤ t ∧ t ≤ 1000) (hx : 0 ≤ x ∧ x ≤ 4611687117939015680) : Calls Try.prog 27 #[.pointer (some ⟨H, 0, none⟩), .int .i64 x] w fun e w' => e = .returned (.int .i64 (x + t)) ∧ w' = w := by
  have H1 := Lib.hid (show max x 0 = x ∧ min t (9223372036854775807 - x) = t by omega)
  have e2 : IntKind.i64.wrap (9223372036854775807 - x) = 9223372036854775807 - x := IntWalk.i64_in _ (by omega)
  go_enter Try.func27, Try.ntmps27
  go_wp2
  all_goals
    go_ret
    first | exact ⟨rfl, rfl⟩ | (refine ⟨?_, rfl⟩; congr 2; omega)
set_option maxRecDepth 100000 in
set_option maxHeartbeats 4000000 in
theorem rnone_any (w : World) (H n c : Nat) (a : Option Addr) (b0 : w.cell? ⟨H, 0, none⟩ = some (.slice a n c)) : Calls Try.prog 23 #[.pointer (some ⟨H, 0, none⟩)] w fun e w' => e = .returned (.bool (decide (n = 0))) ∧ w' = w := by
  have t0 : ((n : Int) == 0) = decide (n = 0) := by
    rw [Bool.eq_iff_iff]; simp
  go_enter Try.func23, Try.ntmps23
  go_wp2
  go_ret
  exact ⟨rfl, rfl⟩
/-- A row's first one. -/
theorem rrow_head {w : World} {a : Option Addr} {n c : Nat} {x : Bk} {l : List Bk} (h : ORow w 36 2 (.slice a n c) n ((x :: l).flatMap Bk.cells)) (hn : 0 < n) : ∃ g off, a = some ⟨g, off, none⟩ ∧ w.cell? ⟨g, off, none⟩ = some (.int .i64 x.at_) ∧ w.cell? ⟨g, off + 1, none⟩ = some (.int .i64 x.n) ∧ (∀ j, w.frozen? ⟨g, j, none⟩ = false) := by
  obtain ⟨g, off, rfl, hc, hf, _⟩ := h.at_ hn
  exact ⟨g, off, rfl, hc 0 _ (by simp [Bk.cells]), hc 1 _ (by simp [Bk.cells]), hf⟩
set_option maxRecDepth 100000 in
set_option maxHeartbeats 4000000 in
theorem rfirst_any (w : World) (H n c g off : Nat) (x0 x1 : Int) (b0 : w.cell? ⟨H, 0, none⟩ = some (.slice (some ⟨g, off, none⟩) n c)) (hn : 0 < n) (g0 : w.cell? ⟨g, off, none⟩ = some (.int .i64 x0)) (g1 : w.cell? ⟨g, off + 1, none⟩ = some (.int .i64 x1)) :
    Calls Try.prog 28 #[.pointer (some ⟨H, 0, none⟩)] w fun e w' => e = .returned (.agg #[.int .i64 x0, .int .i64 x1]) ∧ Below w.heap.size w w' := by
  have l1 : (0 : Int) < (n : Int) := by omega
  obtain ⟨V, hV⟩ : ∃ V, V = w.alloc (.cells #[.int .i64 0, .int .i64 0] 36) := ⟨_, rfl⟩
  obtain ⟨E, hE⟩ : ∃ E, E = w.heap.size := ⟨_, rfl⟩
  have hbV : Below w.heap.size w V := by rw [hV]; exact below1 _ _
  have hEV : V.heap[E]? = some (.cells #[.int .i64 0, .int .i64 0] 36 (0, 0)) := by rw [hV, hE]; exact heap_alloc_new _ _
  have k0 : V.cell? ⟨E, 0, none⟩ = some (.int .i64 0) := cell_in hEV rfl
  have k1 : V.cell? ⟨E, 1, none⟩ = some (.int .i64 0) := cell_in hEV rfl
  have y0 := free_in hEV 0
  have y1 := free_in hEV 1
  have b0' : V.cell? ⟨H, 0, none⟩ = some (.slice (some ⟨g, off, none⟩) n c) := by rw [hV]; exact Lib.cell?_alloc_some _ b0
  have g0' : V.cell? ⟨g, off, none⟩ = some (.int .i64 x0) := by rw [hV]; exact Lib.cell?_alloc_some _ g0
  have g1' : V.cell? ⟨g, off + 1, none⟩ = some (.int .i64 x1) := by rw [hV]; exact Lib.cell?_alloc_some _ g1
  have HV := Lib.hid hV
  have HE := Lib.hid hE
  have HEV := Lib.hid hEV
  have HBV := Lib.hid hbV
  clear hV hE hEV hbV b0 g0 g1
  go_enter Try.func28, Try.ntmps28
  go_upto_region 1 with fail
  rw [← HV.out, ← HE.out]
  go_wp2
  have hX := set2r HEV.out rfl (.int .i64 x0) (.int .i64 x1)
  refine bodyPost_ret (results_cell_row (P := Try.prog) rfl _ _ E _ _ (0, 0) _ rfl hX Try.underlying36 rfl Try.sizeRck) rfl ?_
  exact ⟨rfl, (HBV.out.setCell (p := ⟨E, 0, none⟩) (by rw [HE.out]; exact Nat.le_refl _) _).setCell (p := ⟨E, 1, none⟩) (by rw [HE.out]; exact Nat.le_refl _) _⟩
theorem rfirst_ck (w : World) (H : Nat) (s : Sv) (st now f : Int) (sp : Bool) (la : Option Addr) (lc : Nat) (x : Bk) (l : List Bk) (h : RfB w H s st now f sp la lc (x :: l)) : Calls Try.prog 28 #[.pointer (some ⟨H, 0, none⟩)] w fun e w' => e = .returned (.agg #[.int .i64 x.at_, .int .i64 x.n]) ∧ Below w.heap.size w w' := by
  obtain ⟨g, off, rfl, g0, g1, _⟩ := rrow_head h.l (by simp)
  exact rfirst_any w H _ lc g off _ _ h.c0 (by simp) g0 g1
theorem sumB_next {lv : List Bk} {k : Nat} {x : Bk} (h : lv[k]? = some x) : sumB (lv.take (k + 1)) = sumB (lv.take k) + x.n := by
  rw [List.take_add_one, h, sumB_append]; simp [sumB]
theorem sumB_part (lv : List Bk) (h : ∀ x ∈ lv, 1 ≤ x.n) (k : Nat) : 0 ≤ sumB (lv.take k) ∧ sumB (lv.take k) ≤ sumB lv := by
  have e : sumB lv = sumB (lv.take k) + sumB (lv.drop k) := by rw [← sumB_append, List.take_append_drop]
  have h1 := sumB_len (lv.take k) (fun x hx => h x (List.mem_of_mem_take hx))
  have h2 := sumB_len (lv.drop k) (fun x hx => h x (List.mem_of_mem_drop hx))
  omega
set_option maxRecDepth 100000 in
set_option maxHeartbeats 4000000 in
theorem left_ck (w : World) (H : Nat) (s : Sv) (st now f : Int) (sp : Bool) (la : Option Addr) (lc : Nat) (lv : List Bk) (h : RfB w H s st now f sp la lc lv) (h1 : ∀ x ∈ lv, 1 ≤ x.n) (h2 : sumB lv ≤ 1000) :
    Calls Try.prog 21 #[.pointer (some ⟨H, 0, none⟩)] w fun e w' => e = .returned (.int .i64 (sumB lv)) ∧ Below w.heap.size w w' := by
  have b0 := h.c0
  obtain ⟨n, hn⟩ : ∃ n, n = lv.length := ⟨_, rfl⟩
  have hl := h.l.lies (lo := 0) (hi := w.heap.size) (fun g hg => ⟨Nat.zero_le _, h.l.lt g hg⟩)
  have hlen := sumB_len lv h1
  rw [← hn] at b0 hl hlen
  have hn2 : n ≤ 1000 := by omega
  have HR : Hid (∀ Y, Below w.heap.size w Y → ∀ (i : Nat) (x : Bk), lv[i]? = some x → ∃ g off, la = some ⟨g, off, none⟩ ∧ Y.cell? ⟨g, off + i * 2, none⟩ = some (.int .i64 x.at_) ∧ Y.cell? ⟨g, off + i * 2 + 1, none⟩ = some (.int .i64 x.n)) := Lib.hid (fun Y hY i x hx => by
    obtain ⟨hi, rfl⟩ := List.getElem?_eq_some_iff.1 hx
    obtain ⟨g, off, e, z0, z1, _⟩ := bks_read hn.symm hl Y hY i (by rw [hn]; exact hi)
    exact ⟨g, off, e, z0, z1⟩)
  have HS := Lib.hid (sumB_part lv h1)
  have H1 := Lib.hid h1
  have HN := Lib.hid hn
  have H2 := Lib.hid h2
  clear h hl hn h1 h2 hlen
  go_enter Try.func21, Try.ntmps21
  go_wp2
  go_loopw [3, 11] (fun m i wr => ∃ k : Nat, k ≤ n ∧ m = .int .i64 (sumB (lv.take k)) ∧ i = .int .i64 k ∧ Hid (Below w.heap.size w wr)) (fun _ i _ => n - (intOf i).toNat)
  case atStart => exact ⟨0, by omega, rfl, rfl, Lib.hid (Below.refl _ _)⟩
  case round =>
    obtain ⟨k, hk, rfl, rfl, HB⟩ := hrel
    by_cases hlt : k < n
    · have tk : decide ((k : Int) < (n : Int)) = true := by simpa using hlt
      obtain ⟨x, hx2⟩ : ∃ x, lv[k]? = some x := ⟨_, List.getElem?_eq_getElem (by rw [← HN.out]; exact hlt)⟩
      obtain ⟨g, off, rfl, z0, z1⟩ := HR.out wr HB.out k x hx2
      have HM := Lib.hid (sumB_next hx2)
      have q1 := HS.out k
      have q2 := HS.out (k + 1)
      have q3 := H1.out x (List.mem_of_getElem? hx2)
      rw [HM.out] at q2
      have q4 := H2.out
      clear hx2
      obtain ⟨y, hy⟩ : ∃ y, y = sumB (lv.take k) := ⟨_, rfl⟩
      rw [← hy] at q1 q2 HM
      have l0 : (0 : Int) ≤ (k : Int) := by omega
      have l1 : (k : Int) < (n : Int) := by omega
      obtain ⟨x0, x1⟩ := x
      dsimp only at z0 z1 q2 q3 HM
      have S2 : IntKind.i64.wrap (y + x1) = y + x1 := IntWalk.i64_in _ (by omega)
      rw [← hy]
      have HB2 := Lib.hid (fun (o : Obj) => b_alloc HB.out (Nat.le_refl _) o)
      clear hy q1 q2 q3 q4
      go_wp2_with fail
      all_goals go_roundw
      case rel => exact ⟨k + 1, by omega, by rw [HM.out], by go_num, Lib.hid (HB2.out _)⟩
      case measure => simp [intOf]; omega
    · have tk : decide ((k : Int) < (n : Int)) = false := by simp; omega
      have HE : Hid (sumB (lv.take k) = sumB lv) := Lib.hid (by rw [List.take_of_length_le (show lv.length ≤ k by rw [← HN.out]; omega)])
      go_wp2_with fail
      go_ret
      exact ⟨ret_int HE.out, HB.out⟩
end Go.Proofs.Ytiioodpofdlkhaa
