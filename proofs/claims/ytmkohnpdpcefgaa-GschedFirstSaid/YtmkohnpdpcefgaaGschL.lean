/- Who gets a tick: what must come. -/
import Derived.Test.YtmkohnpdpcefgaaGschK
import Derived.Deep.CutRange
import Derived.Deep.CutBlock
namespace Go.Proofs.Ytmkohnpdpcefgaa
open Go.ChangeShapes Go.WideShapes Go.ChangeAt Go.RowKit
set_option linter.unusedVariables false

theorem bools_lie {w : World} {b n : Nat} {cs : Array Value} {rs : List Bool} (h : w.heap[b]? = some (.cells cs 4 (0, 0))) (hc : cs.toList = rs.flatMap boolCells) (hn : cs.size = n) : Lies w 0 w.heap.size (.slice (some ⟨b, 0, none⟩) n n) n 1 (rs.flatMap boolCells) := by
  have := row_lies (n := n) (sz := 1) h (by omega)
  rwa [hc] at this
/-- A choice that is told outright. -/
theorem cho_mk (x y z : Int) : choA (x, y, z) = .agg #[.int .i64 x, .int .i64 y, .int .i64 z] := rfl
set_option maxRecDepth 100000 in
set_option maxHeartbeats 4000000 in
theorem knows24_any (w : World) : Calls Try.prog 7 #[] w fun e w' => e = .returned (.bool true) ∧ Below w.heap.size w w' := by
  obtain ⟨i0, hi0, hz0, hz1, hz2⟩ := info_parts Try.infoPt_conf
  have HI := Lib.hid hi0; clear hi0
  obtain ⟨F3, hF3⟩ := Classical.axiomOfChoice (fun W : World => run_make_full (P := Try.prog) W 0 33 70 i0 _ 6 Try.underlying33 HI.out hz0 hz1 .i64 .i64 3 (by rw [hz2]; omega) (by simp [maxLen]) (Nat.zero_le _))
  have hr1 : ∀ W : World, (Instr.makeSlice 33 (.int .i64 3) (.int .i64 3)).run Try.prog W = .ok (.slice (some ⟨W.heap.size, 0, none⟩) 3 3) (F3 W) := fun W => (hF3 W).1
  have HO1 := Lib.hid (fun W => (hF3 W).2)
  clear hF3 hz0 hz1 hz2
  go_enter Try.func7, Try.ntmps7
  go_upto_region 2 with fail
  obtain ⟨W1, hW1⟩ : ∃ W1, W1 = w.alloc (.cells #[.int .i64 0, .int .i64 2, .int .i64 0] 66) := ⟨_, rfl⟩
  have hs1 : W1.heap.size = w.heap.size + 1 := by rw [hW1]; simp
  have hb1 : Below w.heap.size w W1 := by rw [hW1]; exact below1 _ _
  have hA1 : W1.heap[w.heap.size]? = some (.cells #[.int .i64 0, .int .i64 2, .int .i64 0] 66 (0, 0)) := by rw [hW1]; exact heap_alloc_new _ _
  rw [← hW1]
  try simp only [← hW1]
  obtain ⟨hown, hgrow⟩ := HO1.out W1
  rw [made3] at hown
  obtain ⟨W2, hW2⟩ : ∃ W2, W2 = F3 W1 := ⟨_, rfl⟩
  rw [← hW2] at hown hgrow
  rw [← hW2]
  rw [hs1] at hown
  have hz2 := hgrow.size
  have hb2 : Below w.heap.size w W2 := (hb1.grown hgrow (by omega) (fun k hk => by cases hk))
  have hA2 : W2.heap[w.heap.size]? = _ := (hgrow.block w.heap.size (by omega) (by simp)).trans hA1
  obtain ⟨W3, hW3⟩ : ∃ W3, W3 = W2.alloc (.cells #[.int .i64 4, .int .i64 0, .slice (some ⟨w.heap.size, 0, none⟩) 1 1, .slice (some ⟨w.heap.size + 1, 0, none⟩) 3 3, .slice none 0 0] 36) := ⟨_, rfl⟩
  have hb3 : Below W2.heap.size W2 W3 := by rw [hW3]; exact below1 _ _
  have hs3 : W3.heap.size = W2.heap.size + 1 := by rw [hW3]; simp
  have hs3' := hs3
  have hC3 : W3.heap[W2.heap.size]? = some (.cells #[.int .i64 4, .int .i64 0, .slice (some ⟨w.heap.size, 0, none⟩) 1 1, .slice (some ⟨w.heap.size + 1, 0, none⟩) 3 3, .slice none 0 0] 36 (0, 0)) := by rw [hW3]; exact heap_alloc_new _ _
  rw [← hW3]
  have hown3 := owns_later hown hb3
  have hlt2 : w.heap.size + 1 < W2.heap.size := (owns_own hown (w.heap.size + 1) rfl).2
  have hb4 := below1 W3 (.cells #[.int .i64 2, .int .i64 1] 3)
  have hown4 := owns_later hown3 hb4
  have hD4 := heap_alloc_new W3 (.cells #[.int .i64 2, .int .i64 1] 3)
  obtain ⟨W4, hW4⟩ : ∃ W4, W4 = W3.alloc (.cells #[.int .i64 2, .int .i64 1] 3) := ⟨_, rfl⟩
  rw [← hW4] at hb4 hown4 hD4
  rw [hs3] at hD4
  have hst := (hown4.stored 2 (.slice (some ⟨W2.heap.size + 1, 0, none⟩) 2 2)).1
  have hBu : But (w.heap.size + 1) W4 (W4.setCell ⟨w.heap.size + 1, 2, none⟩ (.slice (some ⟨W2.heap.size + 1, 0, none⟩) 2 2)) := (But.refl _ _).set 2 _
  obtain ⟨W5, hW5⟩ : ∃ W5, W5 = W4.setCell ⟨w.heap.size + 1, 2, none⟩ (.slice (some ⟨W2.heap.size + 1, 0, none⟩) 2 2) := ⟨_, rfl⟩
  rw [← hW5] at hst hBu
  have hs4 : W4.heap.size = W3.heap.size + 1 := by rw [hW4]; simp
  have hs5 : W5.heap.size = W4.heap.size := by rw [hW5]; simp
  have hb5 : Below w.heap.size w W5 := ((hb2.trans (hb3.mono hb2.size)).trans (hb4.mono (by omega))).trans (hBu.below (Nat.le_succ _) (by omega))
  have kC3 : W3.cell? ⟨W2.heap.size, 3, none⟩ = some (.slice (some ⟨w.heap.size + 1, 0, none⟩) 3 3) := cell_in hC3 rfl
  have kC4 : W4.cell? ⟨W2.heap.size, 3, none⟩ = some (.slice (some ⟨w.heap.size + 1, 0, none⟩) 3 3) := (hb4.cell (p := ⟨W2.heap.size, 3, none⟩) (by show W2.heap.size < _; omega)).trans kC3
  have kB4 : W4.cell? ⟨w.heap.size + 1, 2, none⟩ = some (.slice none 0 0) := (hown4.cellAt 2 (by omega)).trans rfl
  have fB4 : W4.frozen? ⟨w.heap.size + 1, 2, none⟩ = false := hown4.frozenAt 2
  have hC5 : W5.heap[W2.heap.size]? = some (.cells #[.int .i64 4, .int .i64 0, .slice (some ⟨w.heap.size, 0, none⟩) 1 1, .slice (some ⟨w.heap.size + 1, 0, none⟩) 3 3, .slice none 0 0] 36 (0, 0)) := (hBu.block W2.heap.size (by omega) (by omega)).trans ((hb4.block W2.heap.size (by omega)).trans hC3)
  have hA5 : W5.heap[w.heap.size]? = some (.cells #[.int .i64 0, .int .i64 2, .int .i64 0] 66 (0, 0)) := (hBu.block w.heap.size (by omega) (by omega)).trans ((hb4.block w.heap.size (by omega)).trans ((hb3.block w.heap.size (by omega)).trans hA2))
  have hD5 : W5.heap[W2.heap.size + 1]? = some (.cells #[.int .i64 2, .int .i64 1] 3 (0, 0)) := (hBu.block (W2.heap.size + 1) (by omega) (by omega)).trans hD4
  have kc0 := cell_in hC5 (j := 0) rfl
  have kc1 := cell_in hC5 (j := 1) rfl
  have kc2 := cell_in hC5 (j := 2) rfl
  have kc3 := cell_in hC5 (j := 3) rfl
  have kc4 := cell_in hC5 (j := 4) rfl
  have hsys : SysL W5 W5.heap.size cK24 [⟨.slice none 0 0, .slice none 0 0, .slice (some ⟨W2.heap.size + 1, 0, none⟩) 2 2, 0, 0, 0⟩, noPv, noPv] (some ⟨w.heap.size, 0, none⟩) (some ⟨w.heap.size + 1, 0, none⟩) none 1 3 0 :=
    ⟨row_lies hA5 rfl, (Lies.of_owns hst).wider (Nat.zero_le _) (Nat.le_refl _), .cons ⟨lies_nil _ _ _, lies_nil _ _ _, row_lies hD5 rfl, rfl, rfl, rfl⟩ (noPts_lie _ _ 2), lies_nil _ _ _⟩
  have CN := Lib.hid (gnew_yes cK24_few hsys (Nat.le_refl _) (by intro x hx; simp [cK24] at hx; subst hx; refine ⟨⟨?_, ?_⟩, ⟨?_, ?_⟩, ⟨?_, ?_⟩⟩ <;> decide) cK24_ok 4 rfl)
  have HB5 := Lib.hid hb5
  have HW4 := Lib.hid hW4
  have HW5 := Lib.hid hW5
  have hM : Try.prog.eqGuardType Try.prog.depth 54 = false := by kernel_rfl
  have e1 : ∀ W : World, _ := fun W => eqInCho 1 0 2 1 0 2 W
  have e2 : ∀ W : World, _ := fun W => eqInCho 0 0 0 0 0 0 W
  have e3 : ∀ W : World, _ := fun W => eqInCho 4 (-1) (-1) 4 (-1) (-1) W
  simp only [eqCho_self] at e1 e2 e3
  have KA := Lib.hid (fun (s B : Nat) (W : World) (h : ScAt W B s 4 cK24) => gat_any h cK24_ok 0 (by decide) (by decide))
  have KB := Lib.hid (fun (s B : Nat) (W : World) (h : ScAt W B s 4 cK24) => gat_any h cK24_ok 5 (by decide) (by decide))
  have KC := Lib.hid (fun (s B : Nat) (W : World) (h : ScAt W B s 4 cK24) => gat_any h cK24_ok 3 (by decide) (by decide))
  have KD := Lib.hid (fun (s B : Nat) (W : World) (h : ScAt W B s 4 cK24) => gdonees_any h cK24_ok 0)
  rw [hW4] at kC4 kB4 fB4
  have HS3 := Lib.hid hs3
  clear hs1 hs3' hs4 hs5 hz2 hlt2 hown hgrow hW1 hb1 hA1 hW2 hA2 hW3 hb3 hC3 hown3 hb4 hown4 hD4 hW4 hst hBu hW5 hb5 hC5 hA5 hD5 hsys hb2 HO1
  go_upto_region 3 with fail
  rw [← HW4.out, ← HW5.out]
  go_upto_region 4 with (first
    | (go_at_call 8; refine CN.out.mono ?_; rintro e w6 ⟨s, rfl, hs6, hb6⟩; have HS := Lib.hid hs6; have HB6 := Lib.hid (HB5.out.trans (hb6.mono HB5.out.size)); clear hs6 hb6))
  clear kc0 kc1 kc2 kc3 kc4 kC3 kC4 kB4 fB4
  go_wp2_with (first
    | (go_at_call 11; refine (KD.out s _ _ (HS9.out)).mono ?_; rintro e w10 ⟨da, dn, dc, rfl, hdn, _, hb10⟩; have hdn2 : dn = 2 := (by rw [← hdn, cK24_d]; rfl); subst hdn2; have HB10 := Lib.hid (HB9.out.trans (hb10.mono HB9.out.size)); clear hdn hb10)
    | (go_at_call 14; have _z := HB8; refine (KC.out s _ _ HS8.out none 0 0 0 [] rfl (lies_nil _ _ _) (Nat.zero_le _)).mono ?_; rintro e w9 ⟨rfl, hb9⟩; rw [cK24_c, cho_mk]; have HB9 := Lib.hid (HB8.out.trans (hb9.mono HB8.out.size)); have HS9 := Lib.hid (HS8.out.later hb9); clear hb9)
    | (go_at_call 14; have _z := HB7; refine (KB.out s _ _ (HS7.out.later (below1 _ _)) (some ⟨w7.heap.size, 0, none⟩) 1 1 _ [true] rfl (bools_lie (heap_alloc_new _ _) rfl rfl) (Nat.le_refl _)).mono ?_; rintro e w8 ⟨rfl, hb8'⟩; have hb8 := (below1 w7 _).trans (hb8'.mono (below1 w7 _).size); rw [cK24_b, cho_mk]; have HB8 := Lib.hid (HB7.out.trans (hb8.mono HB7.out.size)); have HS8 := Lib.hid (HS7.out.later hb8); clear hb8 hb8')
    | (go_at_call 14; refine (KA.out s _ _ (HS.out.later (below1 _ _)) (some ⟨w6.heap.size, 0, none⟩) 3 3 _ [false, true, true] rfl (bools_lie (heap_alloc_new _ _) rfl rfl) (Nat.le_refl _)).mono ?_; rintro e w7 ⟨rfl, hb7'⟩; have hb7 := (below1 w6 _).trans (hb7'.mono (below1 w6 _).size); rw [cK24_a, cho_mk]; have HB7 := Lib.hid (HB6.out.trans (hb7.mono HB6.out.size)); have HS7 := Lib.hid (HS.out.later hb7); clear hb7 hb7'))
  go_ret
  exact ⟨rfl, HB10.out⟩
end Go.Proofs.Ytmkohnpdpcefgaa
