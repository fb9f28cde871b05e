/- What is told of one window, one partition, one channel. -/
import Derived.Test.YtiojmekoemlmkaaValidB
import Derived.Test.YtiojmekoemlmkaaMemB
import Derived.Test.YtiojmekoemlmkaaValidM
import Derived.Test.YtiojmekoemlmkaaConfO
import Derived.Test.YtiojmekoemlmkaaFrameC
import Derived.Test.YtiojmekoemlmkaaReadA
namespace Go.Proofs.Ytiojmekoemlmkaa
open Go.ChangeShapes Go.WideShapes Go.ChangeAt Go.RowKit
set_option linter.unusedVariables false

def TellPost (be : Nat) (w : World) (r : Bool) (u : Int) (e : Ending) (w' : World) : Prop :=
  e = .returned (.int .i64 (if r then 0 else 21)) ∧ (∃ v : Int, w'.heap[be]? = some (.cells #[.int .i64 v] 3 (0, 0)) ∧ (r = true → v = u)) ∧ But be w w'
theorem tell_no {be : Nat} {w w' : World} {a u : Int} {r : Bool} (hr : r = false) (h : w'.heap[be]? = some (.cells #[.int .i64 a] 3 (0, 0))) (hb : But be w w') : TellPost be w r u (.returned (.int .i64 21)) w' := by
  subst hr; exact ⟨rfl, ⟨a, h, fun h => by cases h⟩, hb⟩
theorem tell_yes {be : Nat} {w w' : World} {u : Int} {r : Bool} (hr : r = true) (h : w'.heap[be]? = some (.cells #[.int .i64 u] 3 (0, 0))) (hb : But be w w') : TellPost be w r u (.returned (.int .i64 0)) w' := by
  subst hr; exact ⟨rfl, ⟨u, h, fun _ => rfl⟩, hb⟩
set_option maxRecDepth 100000 in
set_option maxHeartbeats 4000000 in
theorem winTell_any (fr mg : Int) (wa pa ca : Option Addr) (wn wc pn pc cn cc : Nat) (bc be k : Nat) (a : Int) (x : Wn) (w : World) (lo hi : Nat) (ws : List Wn)
    (hbc : w.heap[bc]? = some (.cells #[.int .i64 fr, .int .i64 mg, .slice wa wn wc, .slice pa pn pc, .slice ca cn cc] 36 (0, 0)))
    (hbe : w.heap[be]? = some (.cells #[.int .i64 a] 3 (0, 0))) (hwn : ws.length = wn) (hws : Lies w lo hi (.slice wa wn wc) wn 3 (ws.flatMap Wn.cells)) (hhi : hi ≤ w.heap.size)
    (hx : ws[k]? = some x) (hin : x.In) (f1 : 1 ≤ fr) (f2 : fr ≤ 256) (a0 : 0 ≤ a) (a1 : a ≤ fr) :
    Calls Try.prog 46 #[.int .i64 k, .pointer (some ⟨bc, 0, none⟩), .pointer (some ⟨be, 0, none⟩)] w (TellPost be w (okWn fr a pn x) (x.at_ + x.len)) := by
  have y0 : w.cell? ⟨be, 0, none⟩ = some (.int .i64 a) := cell_in hbe rfl
  have y1 : w.cell? ⟨bc, 0, none⟩ = some (.int .i64 fr) := cell_in hbc rfl
  have y2 : w.cell? ⟨bc, 1, none⟩ = some (.int .i64 mg) := cell_in hbc rfl
  have y3 : w.cell? ⟨bc, 2, none⟩ = some (.slice wa wn wc) := cell_in hbc rfl
  have y4 : w.cell? ⟨bc, 3, none⟩ = some (.slice pa pn pc) := cell_in hbc rfl
  have y5 : w.cell? ⟨bc, 4, none⟩ = some (.slice ca cn cc) := cell_in hbc rfl
  have hlt : k < wn := by rw [← hwn]; exact (List.getElem?_eq_some_iff.1 hx).1
  obtain ⟨a2, c2, e2, _, _, hc⟩ := hws
  cases e2
  rcases hc with h0 | ⟨b, off, rfl, hb1, hb2, hc⟩
  · omega
  obtain ⟨s0, s1, s2⟩ := Lies.wn hc hx
  have l0 : (0 : Int) ≤ (k : Int) := by omega
  have l1 : (k : Int) < (wn : Int) := by omega
  obtain ⟨⟨i1, i2⟩, ⟨i3, i4⟩, ⟨i5, i6⟩⟩ := hin
  obtain ⟨x0, x1, x2⟩ := x
  simp only at s0 s1 s2 i1 i2 i3 i4 i5 i6
  have hbl := lt_of_block hbe
  have hcl := lt_of_block hbc
  have hfz := free_in hbe 0
  have HBE := Lib.hid hbe
  have hne : be ≠ w.heap.size := by omega
  have hne2 : ¬ w.heap.size = be := by omega
  have hne3 : bc ≠ w.heap.size := by omega
  have p0 : ∀ o, (w.alloc o).cell? ⟨be, 0, none⟩ = some (.int .i64 a) := fun o => by rw [World.cell?_alloc_lt _ _ _ hbl]; exact y0
  have p1 : ∀ o, (w.alloc o).cell? ⟨bc, 0, none⟩ = some (.int .i64 fr) := fun o => by rw [World.cell?_alloc_lt _ _ _ hcl]; exact y1
  have p2 : ∀ o, (w.alloc o).cell? ⟨bc, 1, none⟩ = some (.int .i64 mg) := fun o => by rw [World.cell?_alloc_lt _ _ _ hcl]; exact y2
  have p3 : ∀ o, (w.alloc o).cell? ⟨bc, 2, none⟩ = some (.slice (some ⟨b, off, none⟩) wn wc) := fun o => by rw [World.cell?_alloc_lt _ _ _ hcl]; exact y3
  have p4 : ∀ o, (w.alloc o).cell? ⟨bc, 3, none⟩ = some (.slice pa pn pc) := fun o => by rw [World.cell?_alloc_lt _ _ _ hcl]; exact y4
  have p5 : ∀ o, (w.alloc o).cell? ⟨bc, 4, none⟩ = some (.slice ca cn cc) := fun o => by rw [World.cell?_alloc_lt _ _ _ hcl]; exact y5
  clear hbc hbe hx hc hwn
  rcases (show x0 < a ∨ (a ≤ x0 ∧ x1 < 1) ∨ (a ≤ x0 ∧ 1 ≤ x1 ∧ fr - x0 < x1) ∨ (a ≤ x0 ∧ 1 ≤ x1 ∧ x1 ≤ fr - x0) from by omega) with h | ⟨h, h2⟩ | ⟨h, h2, h3⟩ | ⟨h, h2, h3⟩
  · have t0 : decide (x0 < a) = true := by simpa using h
    have HR : Hid (okWn fr a pn ⟨x0, x1, x2⟩ = false) := Lib.hid (by unfold okWn; simp; omega)
    go_enter Try.func46, Try.ntmps46
    go_wp2_with fail
    go_ret
    exact tell_no HR.out ((heap_at _ _ _).trans ((if_neg hne).trans HBE.out)) ((But.refl _ _).alloc _)
  · have t0 : decide (x0 < a) = false := by simpa using h
    have t1 : decide (x1 < 1) = true := by simpa using h2
    have HR : Hid (okWn fr a pn ⟨x0, x1, x2⟩ = false) := Lib.hid (by unfold okWn; simp; omega)
    go_enter Try.func46, Try.ntmps46
    go_wp2_with fail
    go_ret
    exact tell_no HR.out ((heap_at _ _ _).trans ((if_neg hne).trans HBE.out)) ((But.refl _ _).alloc _)
  · have t0 : decide (x0 < a) = false := by simpa using h
    have t1 : decide (x1 < 1) = false := by simpa using h2
    have s1 : IntKind.i64.wrap (fr - x0) = fr - x0 := IntWalk.i64_in _ (by omega)
    have t2 : decide (fr - x0 < x1) = true := by simpa using h3
    have HR : Hid (okWn fr a pn ⟨x0, x1, x2⟩ = false) := Lib.hid (by unfold okWn; simp; omega)
    go_enter Try.func46, Try.ntmps46
    go_wp2_with fail
    go_ret
    exact tell_no HR.out ((heap_at _ _ _).trans ((if_neg hne).trans HBE.out)) ((But.refl _ _).alloc _)
  · have t0 : decide (x0 < a) = false := by simpa using h
    have t1 : decide (x1 < 1) = false := by simpa using h2
    have s1 : IntKind.i64.wrap (fr - x0) = fr - x0 := IntWalk.i64_in _ (by omega)
    have s2 : IntKind.i64.wrap (x0 + x1) = x0 + x1 := IntWalk.i64_in _ (by omega)
    have t2 : decide (fr - x0 < x1) = false := by simpa using h3
    have CH := Lib.hid (fun W => has_any fr mg x2 (some ⟨b, off, none⟩) pa ca wn wc pn pc cn cc W)
    cases hp : hasB pn x2 with
    | false =>
      have HR : Hid (okWn fr a pn ⟨x0, x1, x2⟩ = false) := Lib.hid (by have := hasB_false hp; unfold okWn; simp; omega)
      have HP := Lib.hid hp; clear hp
      go_enter Try.func46, Try.ntmps46
      go_wp2_with (first | (go_at_call 47; refine (CH.out _).mono ?_; rintro e w2 ⟨rfl, hb2⟩; rw [HP.out]))
      go_ret
      exact tell_no HR.out ((hb2.block _ (by simp; omega)).trans ((heap_at _ _ _).trans ((if_neg hne).trans HBE.out))) (((But.refl _ _).alloc _).trans (But.of_below hb2))
    | true =>
      have HR : Hid (okWn fr a pn ⟨x0, x1, x2⟩ = true) := Lib.hid (by have := hasB_true hp; unfold okWn; simp; omega)
      have HP := Lib.hid hp; clear hp
      go_enter Try.func46, Try.ntmps46
      go_wp2_with (first | (go_at_call 47; refine (CH.out _).mono ?_; rintro e w2 ⟨rfl, hb2⟩; rw [HP.out]; have q0 := (hb2.cell (p := ⟨w.heap.size, 0, none⟩) (by simp)).trans (cell_in (heap_alloc_new _ _) rfl); have q1 := (hb2.cell (p := ⟨w.heap.size, 1, none⟩) (by simp)).trans (cell_in (heap_alloc_new _ _) rfl); have qb := (hb2.block be (by simp; omega)).trans ((heap_at _ _ _).trans ((if_neg hne).trans HBE.out)); have qf := free_in qb 0; have qc := cell_in qb (j := 0) rfl; have QB := Lib.hid qb; clear qb))
      go_ret
      exact tell_yes HR.out (by rw [set_at QB.out]; rfl) ((((But.refl _ _).alloc _).trans (But.of_below hb2)).set _ _)
end Go.Proofs.Ytiojmekoemlmkaa
