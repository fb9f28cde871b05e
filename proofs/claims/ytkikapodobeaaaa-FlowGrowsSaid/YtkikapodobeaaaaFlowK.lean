/- The edges, rising: rising, Edges. -/
import Derived.Test.YtkikapodobeaaaaFlowB
import Derived.Test.YtkikapodobeaaaaFlowJ
namespace Go.Proofs.Ytkikapodobeaaaa
open Go.ChangeShapes Go.WideShapes Go.ChangeAt Go.RowKit Go.Maps Go.Sort
set_option linter.unusedVariables false
attribute [local go_sem ↓] Go.wp_at_zero Go.wp_at_succ

theorem sorted_same : ∀ {l m : List (Int × Int)}, l.Pairwise (fun x y => ltE x y = true) → m.Pairwise (fun x y => ltE x y = true) → (∀ e, e ∈ l ↔ e ∈ m) → l = m
  | [], [], _, _, _ => rfl
  | [], y :: m, _, _, h => by have := (h y).2 (by simp); simp at this
  | x :: l, [], _, _, h => by have := (h x).1 (by simp); simp at this
  | x :: l, y :: m, h1, h2, h => by
    rw [List.pairwise_cons] at h1 h2
    have irr : ∀ z : Int × Int, ltE z z = false := fun z => by simp [ltE]
    have asy : ∀ a b : Int × Int, ltE a b = true → ltE b a = true → False := fun a b p q => by simp [ltE] at p q; omega
    have e : x = y := by
      rcases List.mem_cons.1 ((h x).1 (by simp)) with hx | hx
      · exact hx
      · rcases List.mem_cons.1 ((h y).2 (by simp)) with hy | hy
        · exact hy.symm
        · exact (asy _ _ (h2.1 _ hx) (h1.1 _ hy)).elim
    subst e
    rw [sorted_same h1.2 h2.2 (fun z => ?_)]
    constructor
    · intro hz
      rcases List.mem_cons.1 ((h z).1 (List.mem_cons_of_mem _ hz)) with rfl | hz'
      · have := h1.1 _ hz; rw [irr] at this; cases this
      · exact hz'
    · intro hz
      rcases List.mem_cons.1 ((h z).2 (List.mem_cons_of_mem _ hz)) with rfl | hz'
      · have := h2.1 _ hz; rw [irr] at this; cases this
      · exact hz'
theorem sortV_strict {ss : List (Int × Int)} (h : ss.Nodup) : (sortV ss).Pairwise (fun x y => ltE x y = true) := by
  have hs : (sortV ss).Pairwise (fun x y => (!(ltOf cmpE) y x) = true) := by
    unfold sortV
    apply List.pairwise_mergeSort
    · intro a b c h1 h2
      rw [lt_cmpE] at *
      simp [ltE] at *
      omega
    · intro a b
      rw [lt_cmpE]
      simp [ltE]
      omega
  have hn : (sortV ss).Pairwise (fun x y => x ≠ y) := (List.mergeSort_perm ss _).nodup_iff.2 h
  refine (hs.and hn).imp fun {a b} h => ?_
  obtain ⟨h1, h2⟩ := h
  rw [lt_cmpE] at h1
  obtain ⟨a1, a2⟩ := a
  obtain ⟨b1, b2⟩ := b
  simp only [ne_eq, Prod.mk.injEq] at h2
  simp [ltE] at h1 ⊢
  omega
/-- The edges of a system, as ints. -/
def edgesI (c : Cf) : List (Int × Int) := (edgesV c).map fun e => ((e.1 : Int), (e.2 : Int))
theorem edgesI_mem {c : Cf} {e : Int × Int} : e ∈ edgesI c ↔ isE c e.1 e.2 = true := by
  unfold edgesI
  rw [List.mem_map]
  constructor
  · rintro ⟨⟨a, b⟩, h, rfl⟩; exact edges_mem.1 h
  · intro h
    have q := isE_has h
    refine ⟨(e.1.toNat, e.2.toNat), edges_mem.2 ?_, ?_⟩
    · rw [show ((e.1.toNat : Nat) : Int) = e.1 by omega, show ((e.2.toNat : Nat) : Int) = e.2 by omega]; exact h
    · exact Prod.ext (by simp; omega) (by simp; omega)
theorem edgesI_strict (c : Cf) : (edgesI c).Pairwise (fun x y => ltE x y = true) := by
  unfold edgesI edgesV
  rw [List.pairwise_map, List.pairwise_flatMap]
  constructor
  · intro a _
    rw [List.pairwise_map]
    refine ((List.pairwise_lt_range (n := c.ps.length)).filter _).imp fun {x y} h => ?_
    simp [ltE]; omega
  · refine (List.pairwise_lt_range (n := c.ps.length)).imp fun {x y} h => ?_
    intro p hp q hq
    obtain ⟨u, _, rfl⟩ := List.mem_map.1 hp
    obtain ⟨v, _, rfl⟩ := List.mem_map.1 hq
    simp [ltE]; omega
theorem edges_sorted {c : Cf} {ss : List (Int × Int)} (h1 : ss.Nodup) (h2 : ∀ e, e ∈ ss ↔ isE c e.1 e.2 = true) : sortV ss = edgesI c :=
  sorted_same (sortV_strict h1) (edgesI_strict c) fun e => by
    rw [edgesI_mem, ← h2 e]
    exact (List.mergeSort_perm ss _).mem_iff
set_option maxRecDepth 100000 in
set_option maxHeartbeats 4000000 in
theorem sorted_any (Bm b nn : Nat) (P : Int × Int → Prop) (w : World) (hm : w.cell? ⟨Bm, 0, none⟩ = some (.map (some b))) (hBm : Bm < w.heap.size) (hS : SetP w b nn P) (hN : nn * 16 ≤ 140737488355328) :
    Calls Try.prog 36 #[.func (.func 50) #[] #[.pointer (some ⟨Bm, 0, none⟩)], .func (.func 38) #[] #[]] w fun e w' => ∃ (a : Option Addr) (cap : Nat) (ss : List (Int × Int)), e = .returned (.slice a ss.length cap) ∧ ss.Nodup ∧ (∀ e ∈ ss, EIn e) ∧ (∀ e, EIn e → (e ∈ ss ↔ P e)) ∧ w'.ownsRow w.heap.size 41 2 (.slice a ss.length cap) ss.length ((sortV ss).flatMap eC) ∧ Below w.heap.size w w' := by
  obtain ⟨S, hSE, hSP⟩ := hS
  have hc := collectE_any Bm b nn S w hm hBm hSE hN
  have HSP := Lib.hid hSP
  clear hSP hSE
  go_enter Try.func36, Try.ntmps36
  go_wp2_with (first
    | (go_at_call 49; refine (sortE_any _ _ _ _ HO.out hlen).mono ?_; rintro e w2 ⟨rfl, hown2, hb2⟩)
    | (go_at_call 48; refine hc.mono ?_; rintro e w1 ⟨v, ss, rfl, ⟨hA, hAn⟩, hown, hb1⟩; obtain ⟨⟨a, cap, rfl⟩, _⟩ := owns_slice hown; have hlen : ss.length < 4611686018427387904 := (by omega); clear hAn; have HO := Lib.hid hown; have HA := Lib.hid hA; clear hown hA))
  go_ret
  exact ⟨a, cap, ss, rfl, HA.out.1, HA.out.2.1, fun e he => (HA.out.2.2 e he).trans (HSP.out e he), hown2, hb1.trans hb2⟩
set_option maxRecDepth 100000 in
set_option maxHeartbeats 4000000 in
theorem rising_any (b nn : Nat) (P : Int × Int → Prop) (w : World) (hS : SetP w b nn P) (hN : nn * 16 ≤ 140737488355328) :
    Calls Try.prog 25 #[.map (some b)] w fun e w' => ∃ (a : Option Addr) (cap : Nat) (ss : List (Int × Int)), e = .returned (.slice a ss.length cap) ∧ ss.Nodup ∧ (∀ e ∈ ss, EIn e) ∧ (∀ e, EIn e → (e ∈ ss ↔ P e)) ∧ w'.ownsRow w.heap.size 41 2 (.slice a ss.length cap) ss.length ((sortV ss).flatMap eC) ∧ Below w.heap.size w w' := by
  have hk := keysMade_any (some b) w
  obtain ⟨V, hV⟩ : ∃ V, V = w.alloc (.cells #[.map (some b)] 71) := ⟨_, rfl⟩
  have B1 : Below w.heap.size w V := by rw [hV]; exact below1 _ _
  have hvs : V.heap.size = w.heap.size + 1 := by rw [hV]; simp
  have hcl : V.cell? ⟨w.heap.size, 0, none⟩ = some (.map (some b)) := by rw [hV]; exact cell_in (heap_alloc_new _ _) rfl
  have hso := sorted_any w.heap.size b nn P V hcl (by omega) (hS.later B1) hN
  rw [← hV] at hk
  have HB1 := Lib.hid B1; have HV := Lib.hid hvs
  clear hV hvs hcl B1
  go_enter Try.func25, Try.ntmps25
  go_wp2_with (first
    | (go_at_call 36; refine hso.mono ?_; rintro e w2 ⟨a, cap, ss, rfl, q1, q2, q3, hown2, hb2⟩)
    | (go_at_call 37; refine hk.mono ?_; rintro e w1 ⟨rfl, rfl⟩))
  go_ret
  exact ⟨a, cap, ss, rfl, q1, q2, q3, owns_base hown2 (by rw [HV.out]; omega), HB1.out.trans (hb2.mono HB1.out.size)⟩
end Go.Proofs.Ytkikapodobeaaaa
