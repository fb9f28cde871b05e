/- A supply in memory, and what it is asked: how little, where, how long, how much of a frame. -/
import Derived.Test.YtdbbdlobahalkaaSupplyT
namespace Go.Proofs.Ytdbbdlobahalkaa
open Go.ChangeShapes Go.WideShapes Go.ChangeAt Go.RowKit
set_option linter.unusedVariables false

/-- A supply in memory: block g, its rows in block R. -/
structure SupL (w : World) (lo hi g R F : Nat) (f : Int → Bool) : Prop where
  blk : w.heap[g]? = some (.cells #[.slice (some ⟨R, 0, none⟩) F F, .int .i64 (cnt f 0 F)] 122 (0, 0))
  row : CellsAt w R 135 (rowsOf f F F)
  g1 : lo ≤ g
  g2 : g < hi
  r1 : lo ≤ R
  r2 : R < hi
  f1 : 1 ≤ F
  f2 : F ≤ 256
  ag : Again f F
theorem SupL.keep {w w' : World} {lo hi g R F : Nat} {f : Int → Bool} (h : SupL w lo hi g R F f) (hs : SameIn w w' lo hi) : SupL w' lo hi g R F f :=
  { h with blk := (hs g h.g1 h.g2).trans h.blk, row := h.row.keep hs h.r1 h.r2 }
/-- What is told of n ticks: none below 0, of no more than 2^50. -/
def heldN (n : Int) : Nat := (min (max n 0) 1125899906842624).toNat
theorem heldN_bd (n : Int) : heldN n ≤ 1125899906842624 := by unfold heldN; omega
theorem heldN_of {n : Int} (h0 : 0 ≤ n) (h1 : n ≤ 1125899906842624) : ((heldN n : Nat) : Int) = n := by unfold heldN; omega
set_option maxRecDepth 100000 in
theorem held_any (n : Int) (w : World) :
    Calls Try.prog 84 #[.int .i64 n] w fun e w' => e = .returned (.int .i64 (heldN n)) ∧ w = w' := by
  obtain ⟨k, hk⟩ : ∃ k : Int, k = heldN n := ⟨_, rfl⟩
  rw [← hk]
  rcases (show (n < 0 ∧ k = 0) ∨ (0 ≤ n ∧ n ≤ 1125899906842624 ∧ k = n) ∨ (0 ≤ n ∧ 1125899906842624 < n ∧ k = 1125899906842624) by unfold heldN at hk; omega) with ⟨e1, e2⟩ | ⟨e1, e2, e3⟩ | ⟨e1, e2, e3⟩
  all_goals
    ((first | subst e2 | subst e3)
     clear hk
     go_enter Try.func84, Try.ntmps84
     go_wp2_with fail
     go_ret
     exact ⟨rfl, rfl⟩)
set_option maxRecDepth 100000 in
set_option maxHeartbeats 1000000 in
theorem tabLeast_any {w : World} {R F : Nat} {f : Int → Bool} (h : CellsAt w R 135 (rowsOf f F F)) (f1 : 1 ≤ F) (f2 : F ≤ 256) (ag : Again f F) (n : Nat) (hn : n ≤ 1125899906842624) :
    Calls Try.prog 83 #[.agg #[.slice (some ⟨R, 0, none⟩) F F, .int .i64 (cnt f 0 F)], .int .i64 n] w fun e w' => e = .returned (.int .i64 (leastV f F n)) ∧ Below w.heap.size w w' := by
  have hm : n % F < F := Nat.mod_lt _ f1
  have HE := Lib.hid (leastV_split ag f1 n)
  have b1 : cnt f 0 F ≤ F := off_le
  have b2 := leastV_bd (f := f) (F := F) (n % F)
  have y0 := (h.cell (rowsOf_at hm).1).1
  have hRw := h.lt
  have b3 : n / F * cnt f 0 F ≤ n := Nat.le_trans (Nat.mul_le_mul_left _ b1) (Nat.div_mul_le_self _ _)
  have b4 : n / F ≤ n := Nat.div_le_self n F
  have e1 : (n : Int) / (F : Int) = ((n / F : Nat) : Int) := (Int.natCast_ediv n F).symm
  have e2 : (n : Int) % (F : Int) = ((n % F : Nat) : Int) := (Int.natCast_emod n F).symm
  clear h
  generalize cnt f 0 F = O at *
  generalize leastV f F (n % F) = a at *
  generalize leastV f F n = z at *
  generalize n / F = q at *
  generalize n % F = r at *
  have s0 : IntKind.i64.wrap (q : Int) = q := IntWalk.i64_in _ (by omega)
  have s1 : IntKind.i64.wrap ((q : Int) * (O : Int)) = ((q * O : Nat) : Int) := by rw [← Int.natCast_mul]; exact IntWalk.i64_in _ (by omega)
  have nz : ((F : Int) == 0) = false := by simp; omega
  have nz1 : ¬ F = 0 := by omega
  have nz2 : ¬ (F : Int) = 0 := by omega
  have nz3 : (F == 0) = false := by simp; omega
  go_enter Try.func83, Try.ntmps83
  go_wp2_with fail
  go_quiet (fail)
  go_wp2_with fail
  go_ret
  exact ⟨ret_i (by rw [HE.out]; omega), below_drewN _ (below1 _ _)⟩
theorem worstV_mod {f : Int → Bool} {F : Nat} (ag : Again f F) (f1 : 1 ≤ F) (n : Nat) : worstV f F n = worstV f F (n % F) := by
  have key : ∀ i : Nat, i < F → cnt f (i : Int) n = n / F * cnt f 0 F + cnt f (i : Int) (n % F) := fun i hi => by
    rw [cnt_split ag (i : Int) n, Int.emod_eq_of_lt (by omega) (by omega)]
  obtain ⟨h1, h2, h3⟩ := worstV_is (f := f) f1 (n % F)
  refine worstV_eq f1 ?_ (fun j hj => ?_)
  · rw [key _ h1, h2, ← leastV_split ag f1 n]
  · have := h3 j hj
    rw [key _ (by omega), leastV_split ag f1 n]
    omega
theorem worstV_lt {f : Int → Bool} {F : Nat} (f1 : 1 ≤ F) (n : Nat) : worstV f F n < F := (worstV_is f1 n).1
section
variable {w : World} {lo hi g R F : Nat} {f : Int → Bool}
theorem sMade_any (h : SupL w lo hi g R F f) :
    Calls Try.prog 82 #[.pointer (some ⟨g, 0, none⟩)] w fun e w' => e = .returned (.bool true) ∧ w = w' := by
  have c0 := cell_in (j := 0) h.blk rfl
  have c1 := cell_in (j := 1) h.blk rfl
  have hF : decide (0 < F) = true := decide_eq_true h.f1
  clear h
  go_enter Try.func82, Try.ntmps82
  go_wp2_with fail
  go_ret
  exact ⟨rfl, rfl⟩
theorem SupL.says (h : SupL w lo hi g R F f) (hhi : hi ≤ w.heap.size) (W : World) (hb : Below w.heap.size w W) : Below w.heap.size w W ∧ W.cell? ⟨g, 0, none⟩ = some (.slice (some ⟨R, 0, none⟩) F F) ∧ W.cell? ⟨g, 1, none⟩ = some (.int .i64 (cnt f 0 F)) :=
  ⟨hb, cell_in (h.keep (SameIn.of_below hb hhi)).blk rfl, cell_in (h.keep (SameIn.of_below hb hhi)).blk rfl⟩
set_option maxRecDepth 100000 in
set_option maxHeartbeats 1000000 in
theorem sLeast_any (h : SupL w lo hi g R F f) (hhi : hi ≤ w.heap.size) (n : Int) :
    Calls Try.prog 62 #[.pointer (some ⟨g, 0, none⟩), .int .i64 n] w fun e w' => e = .returned (.int .i64 (leastV f F (heldN n))) ∧ Below w.heap.size w w' := by
  have H := Lib.hid h
  have KS := Lib.hid (h.says hhi)
  have CH := Lib.hid (fun (W : World) => held_any n W)
  have CT := Lib.hid (fun (W : World) (hb : Below w.heap.size w W) => tabLeast_any (h.keep (SameIn.of_below hb hhi)).row h.f1 h.f2 h.ag (heldN n) (heldN_bd n))
  have y := h.says hhi w (Below.refl _ _)
  obtain ⟨_, y0, y1⟩ := y
  have hgw : g < w.heap.size := by have := h.g2; omega
  clear h
  generalize leastV f F (heldN n) = z at CT ⊢
  generalize heldN n = k at *
  generalize cnt f 0 F = O at *
  go_enter Try.func62, Try.ntmps62
  go_wp2_with (first | (go_at_call 82; refine (sMade_any H.out).mono ?_; rintro e w' ⟨rfl, rfl⟩))
  go_region_held3 (fun W => Below w.heap.size w W ∧ W.cell? ⟨g, 0, none⟩ = some (.slice (some ⟨R, 0, none⟩) F F) ∧ W.cell? ⟨g, 1, none⟩ = some (.int .i64 O))
    (first | exact KS.out _ ((Below.refl _ _).drew) | exact KS.out _ (by assumption))
    (first
      | (go_at_call 84; refine (CH.out _).mono ?_; rintro e w' ⟨rfl, rfl⟩)
      | (go_at_call 83; refine (CT.out _ (by go_split_ands; assumption)).mono ?_; rintro e w2 ⟨rfl, hb5⟩; have hbn : Below w.heap.size w w2 := (by go_split_ands; exact bel_then (by assumption) (Nat.le_refl _) hb5)))
  go_wp2_with fail
  go_ret
  exact ⟨rfl, by assumption⟩
end
end Go.Proofs.Ytdbbdlobahalkaa
