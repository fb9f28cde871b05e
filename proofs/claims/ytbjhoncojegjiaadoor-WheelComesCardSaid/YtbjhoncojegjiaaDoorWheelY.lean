/- The program's wheel, all contracts. -/
import Derived.Test.YtbjhoncojegjiaaDoorWheelX
namespace Go.Proofs.YtbjhoncojegjiaaDoor
open Go.ChangeShapes Go.WideShapes Go.ChangeAt Go.RowKit
set_option linter.unusedVariables false

theorem mem_goL {x : Nat → Int} {t : Int} : ∀ (K : Nat) (j : Int), j ∈ goL x t K ↔ ∃ i : Nat, i < K ∧ j = i ∧ x i = t
  | 0, j => ⟨fun h => by simp [goL] at h, fun ⟨i, h, _⟩ => by omega⟩
  | K + 1, j => by
    by_cases e : x K = t
    · rw [goL_yes e, List.mem_append, mem_goL K j]
      constructor
      · rintro (⟨i, h1, h2, h3⟩ | h)
        · exact ⟨i, by omega, h2, h3⟩
        · exact ⟨K, by omega, by simpa using h, e⟩
      · rintro ⟨i, h1, h2, h3⟩
        by_cases e2 : i = K
        · subst e2; exact .inr (by simp [h2])
        · exact .inl ⟨i, by omega, h2, h3⟩
    · rw [goL_no e, mem_goL K j]
      constructor
      · rintro ⟨i, h1, h2, h3⟩; exact ⟨i, by omega, h2, h3⟩
      · rintro ⟨i, h1, h2, h3⟩
        by_cases e2 : i = K
        · subst e2; exact absurd h3 e
        · exact ⟨i, by omega, h2, h3⟩
theorem goL_up (x : Nat → Int) (t : Int) : ∀ K, (goL x t K).Pairwise (· < ·)
  | 0 => List.Pairwise.nil
  | K + 1 => by
    by_cases e : x K = t
    · rw [goL_yes e, List.pairwise_append]
      refine ⟨goL_up x t K, by simp, fun a ha b hb => ?_⟩
      obtain ⟨i, h1, h2, _⟩ := (mem_goL K a).1 ha
      simp at hb
      omega
    · rw [goL_no e]; exact goL_up x t K
theorem sort_goL {x : Nat → Int} {t : Int} {C : List Nat} (hn : C.Nodup) (hC : ∀ i, i ∈ C ↔ i < 256 ∧ x i = t) : ((nI C).mergeSort fun a b => decide (a ≤ b)) = goL x t 256 := by
  have hp : (nI C).Perm (goL x t 256) := by
    refine (List.perm_ext_iff_of_nodup ?_ ?_).2 fun j => ?_
    · unfold nI
      exact List.Pairwise.map _ (fun a b h e => h (by omega)) hn
    · exact (goL_up x t 256).imp (fun h e => by omega)
    · rw [mem_goL]
      unfold nI
      rw [List.mem_map]
      constructor
      · rintro ⟨i, h1, rfl⟩
        obtain ⟨h2, h3⟩ := (hC i).1 h1
        exact ⟨i, h2, rfl, h3⟩
      · rintro ⟨i, h1, rfl, h3⟩
        exact ⟨i, (hC i).2 ⟨h1, h3⟩, rfl⟩
  refine List.Perm.eq_of_pairwise (le := fun a b => (decide (a ≤ b)) = true) ?_ ?_ ?_ ((List.mergeSort_perm _ _).trans hp)
  · intro a b _ _ h1 h2
    simp only [decide_eq_true_eq] at h1 h2
    omega
  · exact List.pairwise_mergeSort (le := fun a b => decide (a ≤ b)) (fun a b c h1 h2 => by simp only [decide_eq_true_eq] at *; omega) (fun a b => by simp; omega) _
  · exact (goL_up x t 256).imp (fun h => by simp; omega)
set_option maxHeartbeats 1000000 in
theorem goP_any (w : World) (H : Nat) (S : Nat → Prop) (now : Int) (x : Nat → Int) (h : WhP w H S now x) (hlt : now < 4611686018427387904) :
    Calls Tryd.prog 16 #[.pointer (some ⟨H, 0, none⟩)] w fun e w' => ∃ S' ao cap, e = .returned (.slice ao (goL x (now + 1) 256).length cap) ∧ Lies w' w.heap.size w'.heap.size (.slice ao (goL x (now + 1) 256).length cap) (goL x (now + 1) 256).length 1 ((goL x (now + 1) 256).flatMap intCells) ∧ WhP w' H S' (now + 1) (goX x (now + 1) 256) ∧ GrowS S S' w w' := by
  obtain ⟨n0, y, sl, L, rfl, hn2, rfl, hm, hl, hx, hT, h8, h9⟩ := h
  have hcl := cntV_le x 256
  refine (goW_any w H n0 (n0 + 1) rfl _ y sl L hm hl (by omega) (by omega) hT h8).mono ?_
  rintro e w' ⟨y', sl', L', C, ao, cp, rfl, hrow, hm', hmid, hg⟩
  obtain ⟨hl', hy', hC⟩ := hmid.done
  rw [show ((n0 : Int) + 1) = ((n0 + 1 : Nat) : Int) by omega]
  obtain ⟨n, hn⟩ : ∃ n, n = n0 + 1 := ⟨_, rfl⟩
  rw [← hn] at hm' hl' hy' hC hmid ⊢
  have hxy : ∀ i, i < 256 → (x i = (n : Int) ↔ y i = (n : Int)) := fun i hi => by rcases hx i hi with ⟨h1, h2⟩ | ⟨h1, h2⟩ <;> omega
  have hs := sort_goL (x := x) (t := n) hmid.cno (fun i => by rw [hC i]; exact ⟨fun ⟨a, b⟩ => ⟨a, (hxy i a).2 b⟩, fun ⟨a, b⟩ => ⟨a, (hxy i a).1 b⟩⟩)
  have hlen : C.length = (goL x n 256).length := by rw [← hs, List.length_mergeSort, nI_len]
  rw [hs, hlen] at hrow
  rw [hlen] at hm'
  have hcg := cntV_go (x := x) (t := n) (by omega) 256 (Nat.le_refl _)
  refine ⟨_, ao, cp, by rw [hlen], ?_, ⟨n, y', sl', L', rfl, by omega, rfl, ?_, hl', fun i hi => ?_, tb_grow hT h8 h9 hg, h8, tb_own hT h8 h9 hg⟩, hg⟩
  · have := Lies.of_owns hrow
    rwa [show (goL x (n : Int) 256).flatMap intCells = (goL x (n : Int) 256).map (Value.int .i64) by
      induction goL x (n : Int) 256 with
      | nil => rfl
      | cons a l ih => rw [List.flatMap_cons, ih]; rfl]
  · rw [show ((cntV (goX x (n : Int) 256) 256 : Nat) : Int) = ((cntV x 256 : Nat) : Int) - ((goL x (n : Int) 256).length : Nat) by omega]; exact hm'
  · rw [hy' i]
    unfold goX
    by_cases h1 : x i = (n : Int)
    · rw [if_pos ⟨hi, (hxy i hi).1 h1⟩, if_pos ⟨hi, h1⟩]; exact .inl ⟨rfl, rfl⟩
    · rw [if_neg (fun h => h1 ((hxy i hi).2 h.2)), if_neg (fun h => h1 h.2)]; exact hx i hi
set_option maxRecDepth 100000 in
set_option maxHeartbeats 1000000 in
theorem goEndP_any (w : World) (H : Nat) (S : Nat → Prop) (x : Nat → Int) (h : WhP w H S 4611686018427387904 x) :
    Calls Tryd.prog 16 #[.pointer (some ⟨H, 0, none⟩)] w fun e w' => ∃ S' ao cap, e = .returned (.slice ao 0 cap) ∧ NilCap ao cap ∧ WhP w' H S' 4611686018427387904 x ∧ GrowS S S' w w' := by
  have HH := Lib.hid h
  obtain ⟨n, y, sl, L, hnn, hn2, rfl, hm, _, _, hT, _⟩ := h
  obtain ⟨V, hV⟩ : ∃ V, V = w.alloc (.cells #[.pointer (some ⟨H, 0, none⟩)] 24) := ⟨_, rfl⟩
  have hb : Below w.heap.size w V := by rw [hV]; exact below1 _ _
  have hmV := hm.later hb
  obtain ⟨c0, _⟩ := hmV.c.now_
  rw [← hnn] at c0
  have kb : V.cell? ⟨w.heap.size, 0, none⟩ = some (.pointer (some ⟨H, 0, none⟩)) := cell_in (by rw [hV]; exact heap_alloc_new _ _) rfl
  have HMI := Lib.hid hmV.c.madeIs
  have HV := Lib.hid hV
  have HEND : Hid (WhP V H (WOwn H sl) 4611686018427387904 x) := Lib.hid (HH.out.later (fun k hk => hb.block k (hm.lt k hk)) (hT.later hb))
  have HG := Lib.hid (GrowS.of_below (S := WOwn H sl) hb)
  clear hnn hn2 hm hT hV hb hmV
  go_enter Tryd.func16, Tryd.ntmps16
  go_upto_region 1 with fail
  rw [← HV.out]
  go_wp2_with (go_at_call 27; refine HMI.out.mono ?_; rintro e w3 ⟨rfl, hw3⟩; rw [hw3]; clear hw3)
  go_ret
  exact ⟨_, _, _, rfl, fun _ => rfl, HEND.out, HG.out⟩
/-- All contracts of the wheel. -/
def wheelOk : WheelOk where
  Wh := WhP
  T := TbOk
  tlater h hb := h.later hb
  tbut := fun {w a b} hT ha hb Y Y' h hY => hY.same (h.block _ hY.lt (by have := hT.lt; omega) (by have := hT.lt; omega))
  tt := fun ⟨_, _, _, _, _, _, _, _, _, _, h, _⟩ => h
  keep h hs _ hT := h.later hs hT
  lt := fun ⟨_, _, _, _, _, _, hS, hm, _⟩ k hk => hm.lt k (hS ▸ hk)
  congr := fun ⟨n, y, sl, L, h1, h2, h3, h4, h5, h6, h7⟩ hxy => ⟨n, y, sl, L, h1, h2, h3, by rw [← cntV_congr 256 hxy]; exact h4, h5, fun i hi => by rw [← hxy i hi]; exact h6 i hi, h7⟩
  new := newP_any
  set := setP_any
  cancel := cancelW_any
  when := fun w H S now x id ⟨n, y, sl, L, _, _, _, hm, _, hx, _⟩ => by
    obtain ⟨hA, hB⟩ := yV_wh hx id
    rw [hA, hB]
    exact (whenW_any hm.c id).mono (by rintro e w' ⟨rfl, rfl⟩; exact ⟨rfl, Below.refl _ _⟩)
  go := fun w H S now x h hlt => goP_any w H S now x h hlt
  goEnd := goEndP_any
  nowV := fun w H S now x ⟨n, y, sl, L, h1, _, _, hm, _⟩ => by
    rw [h1]
    exact (nowW_any hm.c).mono (by rintro e w' ⟨rfl, rfl⟩; exact ⟨rfl, Below.refl _ _⟩)
  len := fun w H S now x ⟨n, y, sl, L, _, _, _, hm, _⟩ => (lenW_any hm.c).mono (by rintro e w' ⟨rfl, rfl⟩; exact ⟨rfl, Below.refl _ _⟩)
end Go.Proofs.YtbjhoncojegjiaaDoor
