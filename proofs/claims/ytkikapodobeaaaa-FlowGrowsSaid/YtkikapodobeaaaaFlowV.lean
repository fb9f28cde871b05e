/- What must come: who leads into one. -/
import Derived.Test.YtkikapodobeaaaaFlowU
namespace Go.Proofs.Ytkikapodobeaaaa
open Go.ChangeShapes Go.WideShapes Go.ChangeAt Go.RowKit
set_option linter.unusedVariables false
attribute [local go_sem ↓] Go.wp_at_zero Go.wp_at_succ

def ptN : Pt := ⟨[], [], [], 0, 0, 0⟩
def ptD : Pt := ⟨[], [], [2, 3], 0, 0, 0⟩
def sysK : Cf := ⟨0, 0, [], [ptN, ptD, ptN, ptN], [⟨false, 0, 1, 0⟩]⟩
def pvN : Pv := ⟨.slice none 0 0, .slice none 0 0, .slice none 0 0, 0, 0, 0⟩
def pvD (g : Nat) : Pv := ⟨.slice none 0 0, .slice none 0 0, .slice (some ⟨g, 0, none⟩) 2 2, 0, 0, 0⟩
theorem fewK : Few sysK := ⟨by decide, by decide, by decide, by intro p hp; simp [sysK] at hp; rcases hp with rfl | rfl | rfl | rfl <;> decide⟩
theorem cutK {s : List Bool} (h : CutOf sysK [3] s) : s = [true, true, true, true] := by
  have l3 : Leads sysK [3] 3 := .of (by simp) (by decide)
  have l2 : Leads sysK [3] 2 := .on (b := 3) (by decide) l3
  have l1 : Leads sysK [3] 1 := .on (b := 3) (by decide) l3
  have l0 : Leads sysK [3] 0 := .on (b := 1) (by decide) l1
  refine h.same ⟨rfl, fun i => ?_⟩
  constructor
  · intro hi
    have hlt : i < 4 := (List.getElem?_eq_some_iff.1 hi).1
    rcases (show i = 0 ∨ i = 1 ∨ i = 2 ∨ i = 3 by omega) with rfl | rfl | rfl | rfl
    · exact l0
    · exact l1
    · exact l2
    · exact l3
  · intro hl
    have := hl.has
    have hn : sysK.ps.length = 4 := rfl
    rw [hn] at this
    rcases (show i = 0 ∨ i = 1 ∨ i = 2 ∨ i = 3 by omega) with rfl | rfl | rfl | rfl <;> rfl
theorem leadsK : Leads sysK [3] 0 := .on (b := 1) (by decide) (.on (b := 3) (by decide) (.of (by simp) (by decide)))
theorem leadsK' : ¬ Leads sysK [2] 3 := by
  intro h
  have := Leads.in_list (S := fun i => i ≠ 3) (l := [2]) (c := sysK) (fun i hi _ => by simp at hi; omega) (fun a b he _ => by
    rintro rfl
    have hb := (isE_has he).2
    have hn : sysK.ps.length = 4 := rfl
    rw [hn] at hb
    rcases (show b = 0 ∨ b = 1 ∨ b = 2 ∨ b = 3 by omega) with rfl | rfl | rfl | rfl <;> exact absurd he (by decide)) h
  exact this rfl
theorem edgesK : (edgesI sysK).length = 4 := by rw [edgesI_is]; decide
theorem Try.infoPtK : (Try.prog.info? 69).map (fun i => (i.zero, i.size, i.bytes)) = some (some (.agg #[.slice none 0 0, .slice none 0 0, .slice none 0 0, .int .u8 0, .int .u8 0, .int .u8 0]), 6, 80) := by kernel_rfl
def arrK (d : Value) : Array Value := #[.slice none 0 0, .slice none 0 0, .slice none 0 0, .int .u8 0, .int .u8 0, .int .u8 0, .slice none 0 0, .slice none 0 0, d, .int .u8 0, .int .u8 0, .int .u8 0, .slice none 0 0, .slice none 0 0, .slice none 0 0, .int .u8 0, .int .u8 0, .int .u8 0, .slice none 0 0, .slice none 0 0, .slice none 0 0, .int .u8 0, .int .u8 0, .int .u8 0]
theorem madeK : (madeCells (Value.agg #[.slice none 0 0, .slice none 0 0, .slice none 0 0, .int .u8 0, .int .u8 0, .int .u8 0]).cells (4 * 6)).toList = (arrK (.slice none 0 0)).toList := by kernel_rfl
theorem rowK {w : World} {b n sz : Nat} {cs : Array Value} {t : TypeId} (h : w.heap[b]? = some (.cells cs t (0, 0))) (hs : cs.size = n * sz) : Lies w 0 w.heap.size (.slice (some ⟨b, 0, none⟩) n n) n sz cs.toList :=
  ⟨_, _, rfl, by simpa using hs, (fun e => by cases e), .inr ⟨b, 0, rfl, Nat.zero_le _, lt_of_block h, fun k u hu => cell_in h (by rw [Nat.zero_add]; simpa using hu)⟩⟩
theorem nilK (w : World) (hi sz : Nat) : Lies w 0 hi (.slice none 0 0) 0 sz [] := ⟨none, 0, rfl, by simp, fun _ => ⟨rfl, rfl⟩, .inl rfl⟩
/-- The system in memory. -/
structure SysK (W : World) (gp gc gd gb : Nat) : Prop where
  p : W.heap[gp]? = some (.cells (arrK (.slice (some ⟨gd, 0, none⟩) 2 2)) 69 (0, 0))
  c : W.heap[gc]? = some (.cells #[.bool false, .int .i64 0, .int .i64 1, .int .i64 0] 58 (0, 0))
  d : W.heap[gd]? = some (.cells #[.int .i64 2, .int .i64 3] 3 (0, 0))
  b : W.heap[gb]? = some (.cells #[.int .i64 0, .int .i64 0, .slice none 0 0, .slice (some ⟨gp, 0, none⟩) 4 4, .slice (some ⟨gc, 0, none⟩) 1 1] 35 (0, 0))
theorem SysK.later {W X : World} {gp gc gd gb : Nat} (h : SysK W gp gc gd gb) (hb : Below W.heap.size W X) : SysK X gp gc gd gb :=
  ⟨(hb.block _ (lt_of_block h.p)).trans h.p, (hb.block _ (lt_of_block h.c)).trans h.c, (hb.block _ (lt_of_block h.d)).trans h.d, (hb.block _ (lt_of_block h.b)).trans h.b⟩
theorem SysK.sys {W : World} {gp gc gd gb : Nat} (h : SysK W gp gc gd gb) : SysL W W.heap.size sysK [pvN, pvD gd, pvN, pvN] none (some ⟨gp, 0, none⟩) (some ⟨gc, 0, none⟩) 0 4 1 := by
  have hN : PtLies W 0 W.heap.size pvN ptN := ⟨nilK _ _ _, nilK _ _ _, nilK _ _ _, rfl, rfl, rfl⟩
  have hD : PtLies W 0 W.heap.size (pvD gd) ptD := ⟨nilK _ _ _, nilK _ _ _, rowK (n := 2) (sz := 1) h.d rfl, rfl, rfl, rfl⟩
  exact ⟨nilK _ _ _, rowK (n := 4) (sz := 6) h.p rfl, .cons hN (.cons hD (.cons hN (.cons hN .nil))), rowK (n := 1) (sz := 4) h.c rfl⟩
theorem SysK.cells {W : World} {gp gc gd gb : Nat} (h : SysK W gp gc gd gb) : W.cell? ⟨gb, 0, none⟩ = some (.int .i64 0) ∧ W.cell? ⟨gb, 1, none⟩ = some (.int .i64 0) ∧ W.cell? ⟨gb, 2, none⟩ = some (.slice none 0 0) ∧ W.cell? ⟨gb, 3, none⟩ = some (.slice (some ⟨gp, 0, none⟩) 4 4) ∧ W.cell? ⟨gb, 4, none⟩ = some (.slice (some ⟨gc, 0, none⟩) 1 1) :=
  ⟨cell_in h.b rfl, cell_in h.b rfl, cell_in h.b rfl, cell_in h.b rfl, cell_in h.b rfl⟩
theorem intoK (W : World) (gp gc gd gb gl : Nat) (h : SysK W gp gc gd gb) (hl : W.heap[gl]? = some (.cells #[.int .i64 3] 3 (0, 0))) :
    Calls Try.prog 15 #[.agg #[.int .i64 0, .int .i64 0, .slice none 0 0, .slice (some ⟨gp, 0, none⟩) 4 4, .slice (some ⟨gc, 0, none⟩) 1 1], .slice (some ⟨gl, 0, none⟩) 1 1] W fun e w' => ∃ (a : Option Addr) (cap : Nat), e = .returned (.slice a 4 cap) ∧ Below W.heap.size W w' := by
  refine (into_sys fewK h.sys (Nat.le_refl _) (some ⟨gl, 0, none⟩) 1 1 gl (gl + 1) [3] rfl (one_lies (cs := #[.int .i64 3]) hl rfl) (lt_of_block hl) (by omega)).mono ?_
  rintro e w' ⟨a, cap, s, rfl, _, hc, hb⟩
  rw [cutK hc]
  exact ⟨a, cap, rfl, hb⟩
theorem reachK (W : World) (gp gc gd gb : Nat) (h : SysK W gp gc gd gb) :
    Calls Try.prog 19 #[.agg #[.int .i64 0, .int .i64 0, .slice none 0 0, .slice (some ⟨gp, 0, none⟩) 4 4, .slice (some ⟨gc, 0, none⟩) 1 1], .int .i64 0, .int .i64 3] W fun e w' => e = .returned (.bool true) ∧ Below W.heap.size W w' := by
  refine (reaches_sys fewK h.sys (Nat.le_refl _) 0 3).mono ?_
  rintro e w' ⟨b, rfl, hb, hw⟩
  exact ⟨by rw [hb.2 leadsK], hw⟩
theorem reachK' (W : World) (gp gc gd gb : Nat) (h : SysK W gp gc gd gb) :
    Calls Try.prog 19 #[.agg #[.int .i64 0, .int .i64 0, .slice none 0 0, .slice (some ⟨gp, 0, none⟩) 4 4, .slice (some ⟨gc, 0, none⟩) 1 1], .int .i64 3, .int .i64 2] W fun e w' => e = .returned (.bool false) ∧ Below W.heap.size W w' := by
  refine (reaches_sys fewK h.sys (Nat.le_refl _) 3 2).mono ?_
  rintro e w' ⟨b, rfl, hb, hw⟩
  refine ⟨?_, hw⟩
  cases b with
  | false => rfl
  | true => exact absurd (hb.1 rfl) leadsK'
theorem edgeK (W : World) (gp gc gd gb : Nat) (h : SysK W gp gc gd gb) :
    Calls Try.prog 9 #[.agg #[.int .i64 0, .int .i64 0, .slice none 0 0, .slice (some ⟨gp, 0, none⟩) 4 4, .slice (some ⟨gc, 0, none⟩) 1 1]] W fun e w' => ∃ (a : Option Addr) (cap : Nat), e = .returned (.slice a 4 cap) ∧ Below W.heap.size W w' := by
  refine (edges_sys fewK h.sys (Nat.le_refl _)).mono ?_
  rintro e w' ⟨a, cap, rfl, _, hb⟩
  rw [edgesK]
  exact ⟨a, cap, rfl, hb⟩
set_option maxRecDepth 100000 in
set_option maxHeartbeats 4000000 in
theorem knows7_any (w : World) : Calls Try.prog 8 #[] w fun e w' => e = .returned (.bool true) ∧ Below w.heap.size w w' := by
  obtain ⟨i0, hi0, hz0, hz1, hz2⟩ := info_parts Try.infoPtK
  have HI := Lib.hid hi0; clear hi0
  obtain ⟨w2, hr, hown, hgrow⟩ := run_make_full (P := Try.prog) w w.heap.size 32 69 i0 _ 6 Try.underlying32 HI.out hz0 hz1 .i64 .i64 4 (by rw [hz2]; omega) (by simp [maxLen]) (Nat.le_refl _)
  have hr1 : (Instr.makeSlice 32 (.int .i64 4) (.int .i64 4)).run Try.prog w = .ok (.slice (some ⟨w.heap.size, 0, none⟩) 4 4) w2 := hr
  rw [madeK] at hown
  have hblk : w2.heap[w.heap.size]? = some (.cells (arrK (.slice none 0 0)) 69 (0, 0)) := by
    rcases hown.2 with ⟨h, _⟩ | ⟨g, cap, cur, hv, h1, h2, h3, h4, h5, h6⟩
    · cases h
    · cases hv
      have e : cur = arrK (.slice none 0 0) := by
        rw [List.take_of_length_le (by simp [h5])] at h6
        exact Array.toList_inj.1 h6
      rw [← e]; exact h2
  have hb2 : Below w.heap.size w w2 := ⟨hgrow.os, hgrow.tape, hgrow.output, hgrow.size, fun b hb => hgrow.block b hb (by simp)⟩
  have hlt := lt_of_block hblk
  obtain ⟨U, hU⟩ : ∃ U, U = ((w2.alloc (.cells #[.bool false, .int .i64 0, .int .i64 1, .int .i64 0] 58)).alloc (.cells #[.int .i64 0, .int .i64 0, .slice none 0 0, .slice (some ⟨w.heap.size, 0, none⟩) 4 4, .slice (some ⟨w2.heap.size, 0, none⟩) 1 1] 35)).alloc (.cells #[.int .i64 2, .int .i64 3] 3) := ⟨_, rfl⟩
  have hbU : Below w2.heap.size w2 U := by rw [hU]; exact ((below1 _ _).alloc (by simp) _).alloc (by simp; omega) _
  have hUb := (hbU.block _ hlt).trans hblk
  have hU1 : U.heap[w2.heap.size]? = some (.cells #[.bool false, .int .i64 0, .int .i64 1, .int .i64 0] 58 (0, 0)) := by rw [hU, heap_at, if_neg (by simp; omega), heap_at, if_neg (by simp), heap_at, if_pos rfl]
  have hU2 : U.heap[w2.heap.size + 1]? = some (.cells #[.int .i64 0, .int .i64 0, .slice none 0 0, .slice (some ⟨w.heap.size, 0, none⟩) 4 4, .slice (some ⟨w2.heap.size, 0, none⟩) 1 1] 35 (0, 0)) := by rw [hU, heap_at, if_neg (by simp), heap_at, if_pos (by simp)]
  have hU3 : U.heap[w2.heap.size + 1 + 1]? = some (.cells #[.int .i64 2, .int .i64 3] 3 (0, 0)) := by rw [hU, heap_at, if_pos (by simp)]
  have c8 : U.cell? ⟨w.heap.size, 8, none⟩ = some (.slice none 0 0) := cell_in hUb rfl
  have f8 : U.frozen? ⟨w.heap.size, 8, none⟩ = false := free_in hUb 8
  obtain ⟨W, hW⟩ : ∃ W, W = U.setCell ⟨w.heap.size, 8, none⟩ (.slice (some ⟨w2.heap.size + 1 + 1, 0, none⟩) 2 2) := ⟨_, rfl⟩
  have hbs : But w.heap.size U W := by rw [hW]; exact (But.refl _ _).set 8 _
  have hS : SysK W w.heap.size w2.heap.size (w2.heap.size + 1 + 1) (w2.heap.size + 1) := by
    refine ⟨?_, hbs.at hU1 (by omega), hbs.at hU3 (by omega), hbs.at hU2 (by omega)⟩
    have := set_at (u := .slice (some ⟨w2.heap.size + 1 + 1, 0, none⟩) 2 2) (j := 8) hUb
    rw [hW]; exact this
  have hbW : Below w.heap.size w W := ((hb2.trans (hbU.mono hb2.size))).trans (hbs.below (Nat.le_refl _) (by have := hb2.size; have := hbU.size; omega))
  have hS2 := hS.later (below1 W (.cells #[.int .i64 3] 3))
  obtain ⟨z0, z1, z2, z3, z4⟩ := hS.cells
  have hWs : w2.heap.size + 3 ≤ W.heap.size := by rw [hW, hU]; simp
  have HI1 := Lib.hid (intoK (W.alloc (.cells #[.int .i64 3] 3)) _ _ _ _ (w2.heap.size + 1 + 1 + 1) hS2 (by rw [heap_at, if_pos (by rw [hW, hU]; simp)]))
  have HS2 := Lib.hid hS2; have HBW := Lib.hid hbW
  have KC : Hid (∀ X : World, SysK X w.heap.size w2.heap.size (w2.heap.size + 1 + 1) (w2.heap.size + 1) → X.cell? ⟨w2.heap.size + 1, 0, none⟩ = some (.int .i64 0) ∧ X.cell? ⟨w2.heap.size + 1, 1, none⟩ = some (.int .i64 0) ∧ X.cell? ⟨w2.heap.size + 1, 2, none⟩ = some (.slice none 0 0) ∧ X.cell? ⟨w2.heap.size + 1, 3, none⟩ = some (.slice (some ⟨w.heap.size, 0, none⟩) 4 4) ∧ X.cell? ⟨w2.heap.size + 1, 4, none⟩ = some (.slice (some ⟨w2.heap.size, 0, none⟩) 1 1)) := Lib.hid (fun X h => h.cells)
  have HU := Lib.hid hU; have HW := Lib.hid hW
  have hlW : w2.heap.size + 1 < W.heap.size := by omega
  clear hr hown hgrow hblk hb2 hU hW hbU hUb hU1 hU2 hU3 hbs hS hbW hS2 hWs
  rw [HU.out] at c8 f8
  rw [HW.out, HU.out] at z0 z1 z2 z3 z4
  go_enter Try.func8, Try.ntmps8
  go_wp2_with (first
    | (go_at_call 9; refine (edgeK _ _ _ _ _ hk3).mono ?_; rintro e w6 ⟨a6, c6, rfl, hb6⟩)
    | (go_at_call 19; have _z := hk2; refine (reachK' _ _ _ _ _ hk2).mono ?_; rintro e w5 ⟨rfl, hb5⟩; have hk3 := hk2.later hb5; obtain ⟨x0, x1, x2, x3, x4⟩ := KC.out _ hk3)
    | (go_at_call 19; refine (reachK _ _ _ _ _ hk1).mono ?_; rintro e w4 ⟨rfl, hb4⟩; have hk2 := hk1.later hb4; obtain ⟨x0, x1, x2, x3, x4⟩ := KC.out _ hk2)
    | (go_at_call 15; rw [← HU.out, ← HW.out]; refine HI1.out.mono ?_; rintro e w3 ⟨a3, c3, rfl, hb3⟩; have hk1 := HS2.out.later hb3; obtain ⟨x0, x1, x2, x3, x4⟩ := KC.out _ hk1))
  go_ret
  refine ⟨rfl, ?_⟩
  have h3 := (HBW.out.alloc HBW.out.size (.cells #[.int .i64 3] 3))
  have h4 := h3.trans (hb3.mono h3.size)
  have h5 := h4.trans (hb4.mono h4.size)
  have h6 := h5.trans (hb5.mono h5.size)
  exact h6.trans (hb6.mono h6.size)
end Go.Proofs.Ytkikapodobeaaaa
