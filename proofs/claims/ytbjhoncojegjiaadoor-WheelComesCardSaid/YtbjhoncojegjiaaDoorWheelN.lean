/- The document's wheel: a new one; two lists of ints. -/
import Derived.Test.YtbjhoncojegjiaaDoorWheelG
namespace Go.Proofs.YtbjhoncojegjiaaDoor
open Go.ChangeShapes Go.WideShapes Go.ChangeAt Go.RowKit
set_option linter.unusedVariables false

theorem RowAt.congr {w : World} {G n : Nat} {x y : Nat → Int} (h : RowAt w G n x) (hxy : ∀ i, i < n → x i = y i) : RowAt w G n y := by
  obtain ⟨cur, h1, h2, h3⟩ := h
  exact ⟨cur, h1, h2, fun i hi => by rw [← hxy i hi]; exact h3 i hi⟩
set_option maxRecDepth 100000 in
set_option maxHeartbeats 4000000 in
theorem rnewW_any (start : Int) (w : World) :
    Calls Tryd.prog 9 #[.int .i64 start] w fun e w' => ∃ G, e = .returned (.pointer (some ⟨w.heap.size, 0, none⟩)) ∧ w.heap.size < G ∧ RWh w' w.heap.size G (min (max start 0) 4611686018427387904) (fun _ => -1) ∧ Below w.heap.size w w' := by
  obtain ⟨now, hnow⟩ : ∃ now, now = min (max start 0) 4611686018427387904 := ⟨_, rfl⟩
  obtain ⟨V, hV⟩ : ∃ V, V = w.alloc (.cells #[.int .i64 now, .slice none 0 0] 32) := ⟨_, rfl⟩
  have HBX : Hid (V.heap[w.heap.size]? = some (.cells #[.int .i64 now, .slice none 0 0] 32 (0, 0))) := Lib.hid (by rw [hV]; exact heap_alloc_new _ _)
  have HBV : Hid (Below w.heap.size w V) := Lib.hid (by rw [hV]; exact below1 _ _)
  have HV := Lib.hid hV
  obtain ⟨i0, hi, hz0, hz1, hz2⟩ := info_parts Tryd.infoInt
  have HI := Lib.hid hi
  have HZV : Hid (V.heap.size = w.heap.size + 1) := Lib.hid (by rw [hV]; simp)
  rw [← hnow]
  clear hV hi
  rcases (show (start < 0 ∧ now = 0) ∨ (0 ≤ start ∧ start ≤ 4611686018427387904 ∧ now = start) ∨ (4611686018427387904 < start ∧ now = 4611686018427387904) by omega) with ⟨g1, g3⟩ | ⟨g1, g2, g3⟩ | ⟨g1, g3⟩
  all_goals
    have HVC := Lib.hid (show w.alloc (.cells #[.int .i64 _, .slice none 0 0] 32) = V from by rw [HV.out, g3])
    have G3 := Lib.hid g3
    clear hnow g3
    go_enter Tryd.func9, Tryd.ntmps9
    go_wp2_with fail
    rw [HVC.out]
    clear HVC
    go_loopw [4] (fun s wr => ∃ (k : Nat) (ao : Option Addr) (cp : Nat), k ≤ 256 ∧ s = .int .i64 k ∧ Hid (wr.heap[w.heap.size]? = some (.cells #[.int .i64 now, .slice ao k cp] 32 (0, 0))) ∧ Hid (wr.ownsRow (w.heap.size + 1) 3 1 (.slice ao k cp) k ((List.replicate k (-1 : Int)).flatMap intCells)) ∧ Hid (Below w.heap.size w wr) ∧ Hid (w.heap.size < wr.heap.size)) (fun s _ => 256 - (intOf s).toNat)
    case atStart => exact ⟨0, none, 0, Nat.zero_le _, rfl, HBX, Lib.hid (World.ownsRow_nil _ _ _ _), HBV, Lib.hid (lt_of_block HBX.out)⟩
    case round =>
      clear HBX HBV
      obtain ⟨k, ao, cp, hk, rfl, HX, HO, HB, HZ⟩ := hrel
      by_cases hlt : k < 256
      · have l0 : decide ((k : Int) < 256) = true := decide_eq_true (by omega)
        have c1 : wr.cell? ⟨w.heap.size, 1, none⟩ = some (.slice ao k cp) := cell_in HX.out rfl
        have u0 : w.heap.size < wr.heap.size := HZ.out
        go_wp2_with (first
          | (refine wpList_append_lie (by rfl) (.tmp 18) (.tmp 19) 30 (by rfl) (w.heap.size + 1) 3 i0 _ 1 8 Tryd.underlying30 HI.out hz0 hz1 hz2 rfl (by omega) (.slice ao k cp) k ((List.replicate k (-1 : Int)).flatMap intCells) (by rfl) (owns_later HO.out (below1 _ _)) (.slice (some ⟨wr.heap.size, 0, none⟩) 1 1) wr.heap.size (wr.heap.size + 1) 1 [.int .i64 (-1)] (by rfl) (one_lies (heap_alloc_new _ _) rfl) (in_one _) (k + 1) rfl (by simp only [maxLen]; omega) (by omega) (by have := HZ.out; simp; omega) ?_
             intro ao' cp' w6 hown6 hgrow6
             have hb6 : Below (w.heap.size + 1) wr w6 := ((below1 wr (.cells #[.int .i64 (-1)] 3)).mono HZ.out).trans ((Below.refl (w.heap.size + 1) _).grown hgrow6 (by have := HZ.out; simp; omega) (fun k hk => (owns_block HO.out k hk).1))
             have hx6 := (hb6.block _ (Nat.lt_succ_self _)).trans HX.out
             have y0 : w6.cell? ⟨w.heap.size, 1, none⟩ = some (.slice ao k cp) := cell_in hx6 rfl
             have y1 : w6.frozen? ⟨w.heap.size, 1, none⟩ = false := free_in hx6 1
             have HX6 := Lib.hid hx6
             have HO6 := Lib.hid hown6
             have HB6 := Lib.hid hb6
             clear hown6 hgrow6 hx6 hb6)
          | go_in)
        go_roundw
        case rel =>
          refine ⟨k + 1, ao', cp', by omega, by go_num, Lib.hid (by rw [set_at HX6.out]; rfl), Lib.hid ?_, Lib.hid ((HB.out.trans (HB6.out.mono (Nat.le_succ _))).setCell (Nat.le_refl _) _), Lib.hid (by have := HB6.out.size; have := HZ.out; simp; omega)⟩
          rw [List.replicate_succ', List.flatMap_append]
          exact owns_set (Nat.lt_succ_self _) HO6.out
        case measure => simp [intOf]; omega
      · have l0 : decide ((k : Int) < 256) = false := decide_eq_false (by omega)
        have HE : Hid (k = 256) := Lib.hid (by omega)
        go_wp2_with fail
        go_ret
        have e1 := HE.out
        subst e1
        obtain ⟨G, rfl, hG, hrow⟩ := RowAt.of_owns HO.out (by simp) (by omega)
        exact ⟨G, rfl, by omega, ⟨⟨cp, HX.out⟩, hrow.congr (fun i hi => by show (List.replicate 256 (-1 : Int)).getD i 0 = -1; rw [List.getD_eq_getElem?_getD, List.getElem?_replicate, if_pos hi]; rfl), by omega⟩, HB.out⟩
set_option maxRecDepth 100000 in
set_option maxHeartbeats 4000000 in
theorem ints13_any (w : World) (ga gb : Option Addr) (n ca cb : Nat) (la lb : List Int) (ha : Lies w 0 w.heap.size (.slice ga n ca) n 1 (la.flatMap intCells)) (hb : Lies w 0 w.heap.size (.slice gb n cb) n 1 (lb.flatMap intCells)) (hab : la = lb) (hn : la.length = n) (hsm : n ≤ 4096) :
    Calls Tryd.prog 15 #[.slice ga n ca, .slice gb n cb] w fun e w' => e = .returned (.bool true) ∧ Below w.heap.size w w' := by
  subst hab
  have KC : Hid (∀ Y, Below w.heap.size w Y → ∀ k, k < n → ∃ b off b' off' v, ga = some ⟨b, off, none⟩ ∧ gb = some ⟨b', off', none⟩ ∧ Y.cell? ⟨b, off + k, none⟩ = some (.int .i64 v) ∧ Y.cell? ⟨b', off' + k, none⟩ = some (.int .i64 v)) := Lib.hid (fun Y hY k hk => by
    obtain ⟨a1, c1, e1, _, _, h1⟩ := ha.keep (SameIn.of_below hY (Nat.le_refl _))
    obtain ⟨a2, c2, e2, _, _, h2⟩ := hb.keep (SameIn.of_below hY (Nat.le_refl _))
    cases e1
    cases e2
    rcases h1 with h0 | ⟨b, off, rfl, _, _, h1⟩
    · omega
    rcases h2 with h0 | ⟨b', off', rfl, _, _, h2⟩
    · omega
    have hx : la[k]? = some la[k] := List.getElem?_eq_getElem (by omega)
    have f := flat_at intCells 1 (fun _ => rfl) la k 0 _ hx (by omega)
    have f1 := h1 _ _ f
    have f2 := h2 _ _ f
    rw [show k * 1 + 0 = k by omega] at f1 f2
    exact ⟨b, off, b', off', _, rfl, rfl, f1, f2⟩)
  clear ha hb hn
  go_enter Tryd.func15, Tryd.ntmps15
  go_wp2_with fail
  go_loopw [5] (fun s wr => ∃ k : Nat, k ≤ n ∧ s = .int .i64 k ∧ Hid (Below w.heap.size w wr)) (fun s _ => n - (intOf s).toNat)
  case atStart => exact ⟨0, Nat.zero_le _, rfl, Lib.hid (Below.refl _ _)⟩
  case round =>
    obtain ⟨k, hk, rfl, HB⟩ := hrel
    by_cases hlt : k < n
    · have l0 : decide ((k : Int) < (n : Int)) = true := decide_eq_true (by omega)
      have l1 : (0 : Int) ≤ (k : Int) := by omega
      have l2 : (k : Int) < (n : Int) := by omega
      obtain ⟨b, off, b', off', v, rfl, rfl, q0, q1⟩ := KC.out wr HB.out k hlt
      go_wp2_with fail
      go_region
      go_wp2_with fail
      go_roundw
      case rel => exact ⟨k + 1, by omega, by go_num, Lib.hid HB.out.drew⟩
      case measure => simp [intOf]; omega
    · have l0 : decide ((k : Int) < (n : Int)) = false := decide_eq_false (by omega)
      go_wp2_with fail
      go_ret
      exact ⟨rfl, HB.out⟩
end Go.Proofs.YtbjhoncojegjiaaDoor
