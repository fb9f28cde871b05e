/- What a table of jobs must know. -/
import Derived.Test.YtnenbgdonkgkfaaGreatTaskJ
import Derived.Deep.CutRange
import Derived.Deep.CutBlock
namespace Go.Proofs.YtnenbgdonkgkfaaGreat
open Go.ChangeShapes Go.WideShapes Go.ChangeAt Go.RowKit
set_option linter.unusedVariables false

def kts : List Tk := [⟨true, 9, 9, 4, 1, 3⟩]
def kops : List Wn := [⟨7, 0, 0⟩]
def kj1 : Js := putT kts false (fun _ => none) 0 0 2 0 kops
def kj2 : Js := runT kts false kj1 0
def kj3 : Js := riseT kts kj2
def kj4 : Js := runT kts true kj3 0
set_option maxRecDepth 100000 in
set_option maxHeartbeats 8000000 in
theorem knows19_of (O : TasksOk) (w : World) : Calls Tryz.prog 6 #[] w fun e w' => e = .returned (.bool true) ∧ Below w.heap.size w w' := by
  have hN := O.new (w.alloc (.cells #[.bool true, .int .i64 9, .int .i64 9, .int .i64 4, .int .i64 1, .int .i64 3] 56)) (some ⟨w.heap.size, 0, none⟩) 1 1 kts rfl ((one_lies (heap_alloc_new _ _) rfl).wider (Nat.zero_le _) (by simp)) (by intro x hx; rw [List.mem_singleton.1 hx]; simp [Tk.In, I64])
  have HN := Lib.hid (hN.mono (fun e w' h => And.intro (h.1 (by rfl)) h.2.2))
  have HB0 : Hid (Below w.heap.size w (w.alloc (.cells #[.bool true, .int .i64 9, .int .i64 9, .int .i64 4, .int .i64 1, .int .i64 3] 56))) := Lib.hid (below1 _ _)
  have E1 := Lib.hid (show errT kts false (fun _ => none) 0 0 2 0 1 = 0 from by rfl)
  have E2 := Lib.hid (show fkV kts false kj1 = 0 ∧ fdV kts false kj1 = 4 ∧ foV kts false kj1 = true from ⟨by rfl, by rfl, by rfl⟩)
  have E3 := Lib.hid (show opT kts kj1 0 = ⟨7, 0, 0⟩ ∧ outT kts false kj1 0 = 3 from ⟨by rfl, by rfl⟩)
  have E4 := Lib.hid (show riseL kts kj2 = [] from by rfl)
  have E5 := Lib.hid (show outT kts true kj3 0 = 1 from by rfl)
  have E6 := Lib.hid (show cntT kj4 kts.length = 0 from by rfl)
  have E7 := Lib.hid (show falV kts true kj4 = true from by rfl)
  clear hN
  go_enter Tryz.func6, Tryz.ntmps6
  go_wp2_with (first
    | (go_at_call 24; have _z := hb10; refine (O.fall _ H S7 kts true kj4 ((O.own _ _ _ _).later h7.out hb10.out)).mono ?_; rintro e w11 ⟨S11, rfl, h11, g11⟩; rw [E7.out]; have hg11 := Lib.hid ((GrowS.of_below hb10.out).trans g11); clear h11 g11)
    | (go_at_call 18; have _z := hb9; refine (O.high _ H S7 kts true kj4 ((O.own _ _ _ _).later h7.out hb9.out)).mono ?_; rintro e w10 ⟨rfl, b10⟩; have hb10 := Lib.hid (hb9.out.trans (b10.mono hb9.out.size)); clear b10)
    | (go_at_call 16; have _z := h7; refine (O.len _ H S7 kts true kj4 ((O.own _ _ _ _).later h7.out (below1 _ _))).mono ?_; rintro e w9 ⟨rfl, b9⟩; rw [E6.out]; have hb9 := Lib.hid ((below1 w7 _).trans (b9.mono (below1 w7 _).size)); clear b9)
    | (go_at_call 23; refine (num19_any _ _).mono ?_; rintro e w20 ⟨rfl, hw20⟩; rw [hw20]; clear hw20)
    | (go_at_call 21; have _z := h6; refine (O.run _ H S6 kts true kj3 0 h6.out).mono ?_; rintro e w7 ⟨S7, rfl, h7', g7'⟩; rw [E5.out]; have h7 := Lib.hid h7'; have g7 := Lib.hid (g7'.step g6.out.1 g6.out.2); have x7 : (w7.alloc (.cells #[.int .i64 (opT kts kj3 0).at_, .int .i64 (opT kts kj3 0).len, .int .i64 (opT kts kj3 0).part] 60)).cell? ⟨w5.heap.size, 0, none⟩ = some (.int .i64 7) := cell_in ((Below.heap_alloc _ _ _ (by have := lt_of_block k6.out; have := g7'.size; omega)).trans ((g7'.block _ (lt_of_block k6.out) (g6n.out)).trans k6.out)) rfl; clear h7' g7')
    | (go_at_call 22; have _z := h5; refine (O.rise _ H S5 kts false kj2 ((O.own _ _ _ _).later h5.out (below1 _ _))).mono ?_; rintro e w6 ⟨S6, ao6, cap6, rfl, l6', h6', g6'⟩; rw [E4.out]; have h6 := Lib.hid h6'; have g6 := Lib.hid (g6'.step (g5.out.1.alloc g5.out.1.size _) g5.out.2); have n5 : ¬ S5 w5.heap.size := fun hs => Nat.lt_irrefl _ ((O.own _ _ _ _).lt h5.out _ hs); have g6n := Lib.hid (g6'.not (by simp) n5); have k6 := Lib.hid ((g6'.block w5.heap.size (by simp) n5).trans (heap_alloc_new w5 (.cells #[.int .i64 7, .int .i64 0, .int .i64 0] 60))); clear l6' h6' g6' n5)
    | (go_at_call 21; have _z := h4; refine (O.run _ H S4 kts false kj1 0 ((O.own _ _ _ _).later h4.out b4.out)).mono ?_; rintro e w5 ⟨S5, rfl, h5', g5'⟩; rw [E3.out.2, E3.out.1]; have h5 := Lib.hid h5'; have g5 := Lib.hid (g5'.step (g4.out.1.trans (b4.out.mono g4.out.1.size)) g4.out.2); clear h5' g5')
    | (go_at_call 10; have _z := h4; refine (O.first _ H S4 kts false kj1 h4.out).mono ?_; rintro e w44 ⟨rfl, b4'⟩; rw [E2.out.1, E2.out.2.1, E2.out.2.2]; have b4 := Lib.hid b4'; clear b4')
    | (go_at_call 20; have _z := h3; refine (O.put _ H S3 kts false (fun _ => none) 0 0 2 0 (some ⟨w3.heap.size, 0, none⟩) 1 1 kops ((O.own _ _ _ _).later h3.out (below1 _ _)) rfl ((one_lies (heap_alloc_new w3 (.cells #[.int .i64 7, .int .i64 0, .int .i64 0] 60)) rfl).wider (Nat.zero_le _) (by simp))).mono ?_; rintro e w4 ⟨S4, rfl, h4', g4'⟩; rw [E1.out]; have h4 := Lib.hid h4'; have g4 := Lib.hid (g4'.step (g3.out.1.alloc g3.out.1.size _) g3.out.2); clear h4' g4')
    | (go_at_call 19; refine HN.out.mono ?_; rintro e w3 ⟨⟨H, S3, rfl, h3', s3'⟩, b3'⟩; have h3 := Lib.hid h3'; have g3 := Lib.hid (And.intro (HB0.out.trans (b3'.mono HB0.out.size)) (fun k hk => Nat.le_trans HB0.out.size (s3' k hk))); clear h3' s3' b3')
    | fail "no arm")
  go_ret
  exact ⟨rfl, (hg11.out.step g7.out.1 g7.out.2).1⟩
end Go.Proofs.YtnenbgdonkgkfaaGreat
