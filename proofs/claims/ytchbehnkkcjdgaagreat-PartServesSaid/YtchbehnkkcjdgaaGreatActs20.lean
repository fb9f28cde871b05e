/- Acts of a partition, where they lie; light. -/
import Derived.Test.YtchbehnkkcjdgaaGreatTaskC
namespace Go.Proofs.YtchbehnkkcjdgaaGreat
open Go.ChangeShapes Go.WideShapes Go.ChangeAt Go.RowKit
set_option linter.unusedVariables false
structure Ad where
 kind : Int
 s : Int
 k : Int
 task : Int
 arr : Int
 work : Int
 done : Int
 ov : Value
 ops : List Wn
def Ad.cells (a : Ad) : List Value := [.int .i64 a.kind, .int .i64 a.s, .int .i64 a.k, .int .i64 a.task, .int .i64 a.arr, .int .i64 a.work, .int .i64 a.done, a.ov]
def Ad.Ok (W : World) (a : Ad) : Prop := Lies W 0 W.heap.size a.ov a.ops.length 3 (a.ops.flatMap Wn.cells)
def adAt (l : List Ad) (i : Nat) : Ad := l.getD i ⟨0, 0, 0, 0, 0, 0, 0, .slice none 0 0, []⟩
theorem adAt_eq {l : List Ad} {i : Nat} (h : i < l.length) : adAt l i = l[i] := by unfold adAt; rw [List.getD_eq_getElem?_getD, List.getElem?_eq_getElem h]; rfl
/-- Its fields, where it lies. -/
theorem acts20_read {w : World} {a : Option Addr} {n c : Nat} {l : List Ad} (hn : l.length = n) (hl : Lies w 0 w.heap.size (.slice a n c) n 8 (l.flatMap Ad.cells)) (ho : ∀ x ∈ l, x.Ok w) : ∀ Y, Below w.heap.size w Y → ∀ i, i < n → ∃ b off oa oc, a = some ⟨b, off, none⟩ ∧ (Y.cell? ⟨b, off + i * 8, none⟩ = some (.int .i64 (adAt l i).kind) ∧ Y.cell? ⟨b, off + i * 8 + 1, none⟩ = some (.int .i64 (adAt l i).s) ∧ Y.cell? ⟨b, off + i * 8 + 2, none⟩ = some (.int .i64 (adAt l i).k) ∧ Y.cell? ⟨b, off + i * 8 + 3, none⟩ = some (.int .i64 (adAt l i).task) ∧ Y.cell? ⟨b, off + i * 8 + 4, none⟩ = some (.int .i64 (adAt l i).arr) ∧ Y.cell? ⟨b, off + i * 8 + 5, none⟩ = some (.int .i64 (adAt l i).work) ∧ Y.cell? ⟨b, off + i * 8 + 6, none⟩ = some (.int .i64 (adAt l i).done) ∧ Y.cell? ⟨b, off + i * 8 + 7, none⟩ = some (.slice oa (adAt l i).ops.length oc)) ∧ b < w.heap.size ∧ Lies w 0 w.heap.size (.slice oa (adAt l i).ops.length oc) (adAt l i).ops.length 3 ((adAt l i).ops.flatMap Wn.cells) := by
 intro Y hY i hi
 have hil : i < l.length := by omega
 have hx : l[i]? = some (adAt l i) := by rw [adAt_eq hil]; exact List.getElem?_eq_getElem hil
 have hok : (adAt l i).Ok w := ho _ (by rw [adAt_eq hil]; exact List.getElem_mem hil)
 obtain ⟨oa, oc, eo, _⟩ := id hok
 obtain ⟨a', c', e, _, _, hc⟩ := hl.keep (SameIn.of_below hY (Nat.le_refl _))
 cases e
 rcases hc with h0 | ⟨b, off, rfl, _, hb, hc⟩
 ·omega
 ·refine ⟨b, off, oa, oc, rfl, ⟨hc _ _ (flat_at Ad.cells 8 (fun _ => rfl) l i 0 _ hx (by omega)), hc _ _ (flat_at Ad.cells 8 (fun _ => rfl) l i 1 _ hx (by omega)), hc _ _ (flat_at Ad.cells 8 (fun _ => rfl) l i 2 _ hx (by omega)), hc _ _ (flat_at Ad.cells 8 (fun _ => rfl) l i 3 _ hx (by omega)), hc _ _ (flat_at Ad.cells 8 (fun _ => rfl) l i 4 _ hx (by omega)), hc _ _ (flat_at Ad.cells 8 (fun _ => rfl) l i 5 _ hx (by omega)), hc _ _ (flat_at Ad.cells 8 (fun _ => rfl) l i 6 _ hx (by omega)), ?_⟩, hb, ?_⟩
  ·rw [← eo]
   exact hc _ _ (flat_at Ad.cells 8 (fun _ => rfl) l i 7 _ hx (by omega))
  ·rw [← eo]; exact hok
def lightP (l : List Ad) : Bool := decide (l.length ≤ 150) && l.all (fun x => decide (x.ops.length ≤ 70))
theorem lightP_many {l : List Ad} (h : 150 < l.length) : lightP l = false := by unfold lightP; rw [decide_eq_false (by omega)]; rfl
theorem lightP_long {l : List Ad} {i : Nat} (hi : i < l.length) (h : 70 < (adAt l i).ops.length) : lightP l = false := by
 unfold lightP
 rw [Bool.and_eq_false_iff]
 right
 rw [List.all_eq_false]
 exact ⟨l[i], List.getElem_mem hi, by rw [← adAt_eq hi]; simp; omega⟩
theorem lightP_yes {l : List Ad} (h1 : l.length ≤ 150) (h : ∀ i, i < l.length → (adAt l i).ops.length ≤ 70) : lightP l = true := by
 unfold lightP
 rw [decide_eq_true h1, Bool.true_and, List.all_eq_true]
 intro x hx
 obtain ⟨i, hi, rfl⟩ := List.getElem_of_mem hx
 have := h i hi
 rw [adAt_eq hi] at this
 exact decide_eq_true this
theorem lightP_bd {l : List Ad} (h : lightP l = true) : l.length ≤ 150 ∧ ∀ i, i < l.length → (adAt l i).ops.length ≤ 70 := by
 unfold lightP at h
 rw [Bool.and_eq_true, List.all_eq_true] at h
 refine ⟨of_decide_eq_true h.1, fun i hi => ?_⟩
 rw [adAt_eq hi]
 exact of_decide_eq_true (h.2 _ (List.getElem_mem hi))
set_option maxRecDepth 100000 in
set_option maxHeartbeats 8000000 in
theorem light20_any (w : World) (a : Option Addr) (n c : Nat) (l : List Ad) (hn : l.length = n) (hl : Lies w 0 w.heap.size (.slice a n c) n 8 (l.flatMap Ad.cells)) (ho : ∀ x ∈ l, x.Ok w) :
 Calls Tryz.prog 8 #[.slice a n c] w fun e w' => e = .returned (.bool (lightP l)) ∧ Below w.heap.size w w' := by
 have KA := Lib.hid (acts20_read hn hl ho)
 have HNN := Lib.hid hn
 clear hn hl ho
 go_enter Tryz.func8, Tryz.ntmps8
 go_wp2_with fail
 go_loopw [3] (fun s wr => ∃ k : Nat, k ≤ n ∧ k ≤ 150 ∧ s = .int .i64 k ∧ Hid (∀ i, i < k → (adAt l i).ops.length ≤ 70) ∧ Hid (Below w.heap.size w wr)) (fun s _ => n - (intOf s).toNat)
 case atStart => exact ⟨0, Nat.zero_le _, by omega, rfl, Lib.hid (fun i hi => by omega), Lib.hid (Below.refl _ _)⟩
 case round =>
  obtain ⟨k, hk, hk2, rfl, HA, HB⟩ := hrel
  by_cases hlt : k < n
  ·have d0 : decide ((k : Int) < (n : Int)) = true := decide_eq_true (by omega)
   have d1 : (0 : Int) ≤ (k : Int) := by omega
   have d2 : (k : Int) < (n : Int) := by omega
   by_cases h150 : k < 150
   ·have d3 : decide ((k : Int) < 150) = true := decide_eq_true (by omega)
    obtain ⟨b, off, oa, oc, rfl, ⟨_, _, _, _, _, _, _, k6⟩, hb, _⟩ := KA.out wr HB.out k hlt
    obtain ⟨m, hm⟩ : ∃ m, m = (adAt l k).ops.length := ⟨_, rfl⟩
    rw [← hm] at k6
    have HM := Lib.hid hm
    clear hm hb
    by_cases h70 : 70 < m
    ·have d4 : decide ((70 : Int) < (m : Int)) = true := decide_eq_true (by omega)
     have HL : Hid (lightP l = false) := Lib.hid (lightP_long (i := k) (by have := HNN.out; omega) (by have := HM.out; omega))
     go_wp2_with fail
     go_ret
     exact ⟨by rw [HL.out]; first | done | rfl, HB.out⟩
    ·have d4 : decide ((70 : Int) < (m : Int)) = false := decide_eq_false (by omega)
     go_wp2_with fail
     go_roundw
     case rel => exact ⟨k + 1, by omega, by omega, by go_num, Lib.hid (fun i hi => by
      by_cases e : i = k
      ·subst e; have := HM.out; omega
      ·exact HA.out i (by omega)), HB⟩
     case measure => simp [intOf]; omega
   ·have d3 : decide ((k : Int) < 150) = false := decide_eq_false (by omega)
    have d4 : decide ((n : Int) ≤ 150) = false := decide_eq_false (by omega)
    have HL : Hid (lightP l = false) := Lib.hid (lightP_many (by have := HNN.out; omega))
    go_wp2_with fail
    go_ret
    exact ⟨by rw [HL.out]; first | done | rfl, HB.out⟩
  ·have d0 : decide ((k : Int) < (n : Int)) = false := decide_eq_false (by omega)
   have hkn : k = n := by omega
   subst hkn
   by_cases h150 : k ≤ 150
   ·have d4 : decide ((k : Int) ≤ 150) = true := decide_eq_true (by omega)
    have HL : Hid (lightP l = true) := Lib.hid (lightP_yes (by have := HNN.out; omega) (fun i hi => HA.out i (by have := HNN.out; omega)))
    go_wp2_with fail
    go_ret
    exact ⟨by rw [HL.out]; first | done | rfl, HB.out⟩
   ·have d4 : decide ((k : Int) ≤ 150) = false := decide_eq_false (by omega)
    have HL : Hid (lightP l = false) := Lib.hid (lightP_many (by have := HNN.out; omega))
    go_wp2_with fail
    go_ret
    exact ⟨by rw [HL.out]; first | done | rfl, HB.out⟩
end Go.Proofs.YtchbehnkkcjdgaaGreat
