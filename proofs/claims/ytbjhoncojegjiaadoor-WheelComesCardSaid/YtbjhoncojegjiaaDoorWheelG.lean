/- The document's wheel: on by a tick; a new one. -/
import Derived.Test.YtbjhoncojegjiaaDoorWheelR
namespace Go.Proofs.YtbjhoncojegjiaaDoor
open Go.ChangeShapes Go.WideShapes Go.ChangeAt Go.RowKit
set_option linter.unusedVariables false

/-- Those that come at t, of the first n. -/
def goL (x : Nat → Int) (t : Int) : Nat → List Int
  | 0 => []
  | k + 1 => goL x t k ++ if x k = t then [(k : Int)] else []
def goX (x : Nat → Int) (t : Int) (k : Nat) : Nat → Int := fun j => if j < k ∧ x j = t then -1 else x j
theorem goL_len (x : Nat → Int) (t : Int) : ∀ k, (goL x t k).length ≤ k
  | 0 => Nat.le_refl _
  | k + 1 => by have := goL_len x t k; unfold goL; rw [List.length_append]; split <;> simp <;> omega
theorem goL_yes {x : Nat → Int} {t : Int} {k : Nat} (h : x k = t) : goL x t (k + 1) = goL x t k ++ [(k : Int)] := by rw [goL, if_pos h]
theorem goL_no {x : Nat → Int} {t : Int} {k : Nat} (h : ¬ x k = t) : goL x t (k + 1) = goL x t k := by rw [goL, if_neg h, List.append_nil]
theorem goX_zero (x : Nat → Int) (t : Int) : goX x t 0 = x := by funext j; simp [goX]
theorem goX_yes {x : Nat → Int} {t : Int} {k : Nat} (h : x k = t) : updR (goX x t k) k (-1) = goX x t (k + 1) := by
  funext j
  by_cases e : j = k
  · subst e; rw [updR_at]; simp [goX, h]
  · rw [updR_ne _ _ e]
    unfold goX
    by_cases h1 : j < k ∧ x j = t
    · rw [if_pos h1, if_pos ⟨by omega, h1.2⟩]
    · rw [if_neg h1, if_neg (fun h2 => h1 ⟨by omega, h2.2⟩)]
theorem goX_no {x : Nat → Int} {t : Int} {k : Nat} (h : ¬ x k = t) : goX x t (k + 1) = goX x t k := by
  funext j
  unfold goX
  by_cases e : j = k
  · subst e; rw [if_neg (fun h2 => h h2.2), if_neg (fun h2 => h h2.2)]
  · by_cases h1 : j < k ∧ x j = t
    · rw [if_pos h1, if_pos ⟨by omega, h1.2⟩]
    · rw [if_neg h1, if_neg (fun h2 => h1 ⟨by omega, h2.2⟩)]
theorem goX_at (x : Nat → Int) (t : Int) (k : Nat) : goX x t k k = x k := by unfold goX; rw [if_neg (fun h => Nat.lt_irrefl _ h.1)]
theorem owns_set {w : World} {base n cap X : Nat} {ao : Option Addr} {xs : List Value} {j : Nat} {u : Value} (hX : X < base) (h : w.ownsRow base 3 1 (.slice ao n cap) n xs) : (w.setCell ⟨X, j, none⟩ u).ownsRow base 3 1 (.slice ao n cap) n xs := by
  refine ⟨h.1, ?_⟩
  rcases h.2 with h2 | ⟨g, c, cur, hv, hb, hg, h3⟩
  · exact .inl h2
  · exact .inr ⟨g, c, cur, hv, hb, (Below.heap_setCell _ _ _ _ (by show g ≠ X; omega)).trans hg, h3⟩
set_option maxRecDepth 100000 in
set_option maxHeartbeats 2000000 in
theorem rgo_end (w : World) (rb G : Nat) (x : Nat → Int) (h : RWh w rb G 4611686018427387904 x) :
    Calls Tryd.prog 17 #[.pointer (some ⟨rb, 0, none⟩)] w fun e w' => e = .returned (.slice none 0 0) ∧ w' = w := by
  obtain ⟨cap, hb⟩ := h.box
  have b0 : w.cell? ⟨rb, 0, none⟩ = some (.int .i64 4611686018427387904) := cell_in hb rfl
  clear hb h
  go_enter Tryd.func17, Tryd.ntmps17
  go_wp2
  go_ret
  exact ⟨rfl, rfl⟩
set_option maxRecDepth 100000 in
set_option maxHeartbeats 4000000 in
theorem rgo_any (w : World) (rb G : Nat) (now : Int) (x : Nat → Int) (h : RWh w rb G now x) (h0 : 0 ≤ now) (h1 : now < 4611686018427387904) :
    Calls Tryd.prog 17 #[.pointer (some ⟨rb, 0, none⟩)] w fun e w' => ∃ ao cap, e = .returned (.slice ao (goL x (now + 1) 256).length cap) ∧ w'.ownsRow w.heap.size 3 1 (.slice ao (goL x (now + 1) 256).length cap) (goL x (now + 1) 256).length ((goL x (now + 1) 256).flatMap intCells) ∧ RWh w' rb G (now + 1) (goX x (now + 1) 256) ∧ But2 rb G w w' := by
  obtain ⟨cap, hb⟩ := h.box
  have b0 : w.cell? ⟨rb, 0, none⟩ = some (.int .i64 now) := cell_in hb rfl
  have b1 : w.frozen? ⟨rb, 0, none⟩ = false := free_in hb 0
  have hrl := h.lt
  obtain ⟨t, ht⟩ : ∃ t, t = now + 1 := ⟨_, rfl⟩
  have t1 : ((now == 4611686018427387904) : Bool) = false := by simp; omega
  have t2 : decide (now = 4611686018427387904) = false := decide_eq_false (by omega)
  obtain ⟨Y, hY⟩ : ∃ Y, Y = w.setCell ⟨rb, 0, none⟩ (.int .i64 (now + 1)) := ⟨_, rfl⟩
  have HSY : Hid (RWh Y rb G t (goX x t 0)) := Lib.hid (by rw [hY, goX_zero, ht]; exact ⟨⟨cap, by rw [set_at hb]; rfl⟩, h.row.same (Below.heap_setCell _ _ _ _ h.ne.symm), h.ne⟩)
  have HBY : Hid (But2 rb G w Y) := Lib.hid (by rw [hY]; exact (But2.refl _).set1 _ _)
  have HY := Lib.hid hY
  have HT := Lib.hid ht
  have hne := h.ne
  obtain ⟨i0, hi, hz0, hz1, hz2⟩ := info_parts Tryd.infoInt
  have HI := Lib.hid hi
  rw [← ht]
  clear hb h hY ht hi
  go_enter Tryd.func17, Tryd.ntmps17
  go_wp2_with fail
  rw [← HY.out]
  go_loopw [3, 4] (fun s3 s4 wr => ∃ (k : Nat) (ao : Option Addr) (cp n : Nat), k ≤ 256 ∧ n ≤ k ∧ s3 = .slice ao n cp ∧ s4 = .int .i64 k ∧ Hid (n = (goL x t k).length) ∧ Hid (wr.ownsRow w.heap.size 3 1 (.slice ao n cp) n ((goL x t k).flatMap intCells)) ∧ Hid (RWh wr rb G t (goX x t k)) ∧ Hid (But2 rb G w wr)) (fun _ s _ => 256 - (intOf s).toNat)
  case atStart => exact ⟨0, none, 0, 0, Nat.zero_le _, Nat.le_refl _, rfl, rfl, Lib.hid rfl, Lib.hid (World.ownsRow_nil _ _ _ _), HSY, HBY⟩
  case round =>
    clear HSY HBY
    obtain ⟨k, ao, cp, n, hk, hnk, rfl, rfl, HN, HO, HS, HB⟩ := hrel
    by_cases hlt : k < 256
    · have l0 : decide ((k : Int) < 256) = true := decide_eq_true (by omega)
      have l1 : (0 : Int) ≤ (k : Int) := by omega
      have l2 : (k : Int) < 256 := by omega
      obtain ⟨⟨cq, hq⟩, hr, _⟩ := HS.out
      have c0 : wr.cell? ⟨rb, 0, none⟩ = some (.int .i64 t) := cell_in hq rfl
      have c1 : wr.cell? ⟨rb, 1, none⟩ = some (.slice (some ⟨G, 0, none⟩) 256 cq) := cell_in hq rfl
      have c2 := (hr.at_ hlt).1
      rw [goX_at] at c2
      obtain ⟨v, hv⟩ : ∃ v, v = x k := ⟨_, rfl⟩
      rw [← hv] at c2
      have HV := Lib.hid hv
      clear hv hq hr
      by_cases he : v = t
      · have e1 : (v == t) = true := by simpa using he
        have HE := Lib.hid he
        clear he
        go_wp2_with fail
        go_region
        obtain ⟨V, hV⟩ : ∃ V, V = wr.drew := ⟨_, rfl⟩
        have HOV : Hid (V.ownsRow w.heap.size 3 1 (.slice ao n cp) n ((goL x t k).flatMap intCells)) := Lib.hid (by rw [hV]; exact owns_later HO.out (Below.refl _ _).drew)
        have HSV : Hid (RWh V rb G t (goX x t k)) := Lib.hid (by rw [hV]; exact HS.out.later (Below.refl _ _).drew)
        have HBV : Hid (But2 rb G w V) := Lib.hid (by rw [hV]; exact HB.out.drew)
        have HZV : Hid (w.heap.size ≤ V.heap.size) := Lib.hid HBV.out.size
        rw [← hV]
        clear hV c0 c1 c2
        go_wp2_with (first
          | (refine wpList_append_lie (by rfl) (.tmp 33) (.tmp 35) 30 (by rfl) w.heap.size 3 i0 _ 1 8 Tryd.underlying30 HI.out hz0 hz1 hz2 rfl (by omega) (.slice ao n cp) n ((goL x t k).flatMap intCells) (by rfl) (owns_later HOV.out (below1 _ _)) (.slice (some ⟨V.heap.size, 0, none⟩) 1 1) V.heap.size (V.heap.size + 1) 1 [.int .i64 (k : Int)] (by rfl) (one_lies (heap_alloc_new _ _) rfl) (in_one _) (n + 1) rfl (by simp only [maxLen]; omega) (by omega) (by have := HZV.out; simp; omega) ?_
             intro ao' cp' w6 hown6 hgrow6
             have hb6 : Below w.heap.size V w6 := ((below1 V (.cells #[.int .i64 (k : Int)] 3)).mono HZV.out).trans ((Below.refl w.heap.size _).grown hgrow6 (by have := HZV.out; simp; omega) (fun k hk => (owns_block HOV.out k hk).1))
             have hs6 : RWh w6 rb G t (goX x t k) := HSV.out.keep (hb6.block _ hrl.1) (hb6.block _ hrl.2)
             obtain ⟨⟨cs, y0⟩, y1, _⟩ := hs6
             have y2 : w6.cell? ⟨rb, 1, none⟩ = some (.slice (some ⟨G, 0, none⟩) 256 cs) := cell_in y0 rfl
             obtain ⟨y3, y4⟩ := y1.at_ hlt
             have HB6 : Hid (But2 rb G w w6) := Lib.hid (HBV.out.then hb6)
             have HO6 := Lib.hid hown6
             have Y0 := Lib.hid y0
             have Y1 := Lib.hid y1
             clear hown6 hgrow6 y0 y1 hb6)
          | go_in)
        go_roundw
        case rel =>
          have hxk : x k = t := by rw [← HV.out]; exact HE.out
          refine ⟨k + 1, ao', cp', n + 1, by omega, by omega, rfl, by go_num, Lib.hid (by rw [goL_yes hxk, List.length_append, ← HN.out]; rfl), Lib.hid ?_, Lib.hid ?_, Lib.hid (HB6.out.set2 _ _)⟩
          · rw [goL_yes hxk, List.flatMap_append]
            exact (owns_set (by have := hrl.2; omega) HO6.out)
          · rw [← goX_yes hxk]
            exact ⟨⟨cs, (Below.heap_setCell _ _ _ _ hne).trans Y0.out⟩, Y1.out.set hlt (-1), hne⟩
        case measure => simp [intOf]; omega
      · have e1 : (v == t) = false := by simpa using he
        have HE := Lib.hid he
        go_wp2_with fail
        go_region
        go_wp2_with fail
        go_roundw
        case rel =>
          have hxk : ¬ x k = t := by rw [← HV.out]; exact HE.out
          exact ⟨k + 1, ao, cp, n, by omega, by omega, rfl, by go_num, Lib.hid (by rw [goL_no hxk]; exact HN.out), Lib.hid (by rw [goL_no hxk]; exact owns_later HO.out (Below.refl _ _).drew), Lib.hid (by rw [goX_no hxk]; exact HS.out.later (Below.refl _ _).drew), Lib.hid HB.out.drew⟩
        case measure => simp [intOf]; omega
    · have l0 : decide ((k : Int) < 256) = false := decide_eq_false (by omega)
      have HE : Hid (k = 256) := Lib.hid (by omega)
      go_wp2_with fail
      go_ret
      have e1 := HE.out
      have e2 := HN.out
      rw [e1] at e2
      have e3 := HO.out
      have e4 := HS.out
      rw [e1] at e3 e4
      rw [← e2]
      exact ⟨ao, cp, rfl, e3, e4, HB.out⟩
end Go.Proofs.YtbjhoncojegjiaaDoor
