/- A ring that nobody made. -/
import Derived.Test.YtigmflobiiifeaaRingV
import Derived.Test.YtigmflobiiifeaaLawFourteenD
namespace Go.Proofs.Ytigmflobiiifeaa
open Go.ChangeShapes Go.WideShapes Go.ChangeAt Go.RowKit
set_option linter.unusedVariables false

def NoR (w : World) (p : Option Addr) : Prop := p = none ∨ ∃ H, p = some ⟨H, 0, none⟩ ∧ w.heap[H]? = some (.cells zc14 51 (0, 0))
theorem NoR.later {w w' : World} {p : Option Addr} (h : NoR w p) (hb : Below w.heap.size w w') : NoR w' p := by
  rcases h with h | ⟨H, h1, h2⟩
  · exact .inl h
  · exact .inr ⟨H, h1, (hb.block H (lt_of_block h2)).trans h2⟩
theorem no_len {w : World} {p : Option Addr} (h : NoR w p) : Hid (Calls Try.prog 18 #[.pointer p] w fun e w' => e = .returned (.int .i64 0) ∧ w' = w) := Lib.hid (by
  rcases h with rfl | ⟨H, rfl, h2⟩
  · exact len_nil_i w
  · exact len_box_i w H 0 0 0 _ h2)
theorem no_room {w : World} {p : Option Addr} (h : NoR w p) : Hid (Calls Try.prog 19 #[.pointer p] w fun e w' => e = .returned (.int .i64 0) ∧ w' = w) := Lib.hid (by
  rcases h with rfl | ⟨H, rfl, h2⟩
  · exact room_nil_i w
  · exact room_box_i w H 0 0 0 _ h2)
theorem no_has {w : World} {p : Option Addr} (h : NoR w p) (i : Int) : Hid (Calls Try.prog 29 #[.pointer p, .int .i64 i] w fun e w' => e = .returned (.bool false) ∧ w' = w) := Lib.hid (by
  have := has_i w p 0 i (no_len h)
  rw [show hasV 0 i = false by unfold hasV; by_cases h0 : 0 ≤ i <;> simp [h0]] at this
  exact this)
set_option maxRecDepth 100000 in
set_option maxHeartbeats 4000000 in
theorem no_all (w : World) (p : Option Addr) (h : NoR w p) : Calls Try.prog 21 #[.pointer p] w fun e w' => ∃ ao cap, e = .returned (.slice ao 0 cap) ∧ Below w.heap.size w w' := by
  have HL := no_len h
  have hmk := run_make_i 0 (by omega)
  rw [show ((0 : Nat) : Int) = 0 from rfl] at hmk
  have HB := Lib.hid (below1 w (rowObj_i 0))
  clear h
  go_enter Try.func21, Try.ntmps21
  go_wp2_with (first
    | (go_at_call 18; refine HL.out.mono ?_; rintro e w3 ⟨rfl, hw3⟩; rw [hw3]; clear hw3)
    | fail "no arm")
  go_loopw [10] (fun s wr => s = .int .i64 0 ∧ Hid (Below w.heap.size w wr)) (fun s _ => 0)
  case atStart => exact ⟨rfl, HB⟩
  case round =>
    obtain ⟨rfl, HW⟩ := hrel
    go_wp2_with fail
    go_ret
    exact ⟨_, _, rfl, HW.out⟩
set_option maxRecDepth 100000 in
set_option maxHeartbeats 4000000 in
theorem no_clear (w : World) (p : Option Addr) (h : NoR w p) : Calls Try.prog 15 #[.pointer p] w fun e w' => e = .returned (.tuple #[]) ∧ Below w.heap.size w w' := by
  rcases h with rfl | ⟨H, rfl, h2⟩
  · go_enter Try.func15, Try.ntmps15
    go_wp2_with fail
    ((try simp only [Exit.inBlock, Exit.then]); refine bodyPost_ret (results_none rfl _ _ _) rfl ?_)
    exact ⟨rfl, Below.refl _ _⟩
  · have hcl : ∀ ty, (Builtin.clear_ #[34] ty #[.slice none 0 0]).run Try.prog w = .ok (.tuple #[]) w := fun ty => by simp [Builtin.clear_, run_underlying Try.underlying34]
    have b3 : w.cell? ⟨H, 3, none⟩ = some (.slice none 0 0) := cell_in h2 rfl
    have p1 : w.cell? ⟨H, 1, none⟩ = some (.int .i64 0) := cell_in h2 rfl
    have p2 : w.cell? ⟨H, 2, none⟩ = some (.int .i64 0) := cell_in h2 rfl
    have p3 : w.frozen? ⟨H, 1, none⟩ = false := free_in h2 _
    have p4 : w.frozen? ⟨H, 2, none⟩ = false := free_in h2 _
    obtain ⟨r1, r2⟩ := same_cell (j := 1) (u := .int .i64 0) h2 rfl
    obtain ⟨s1, s2⟩ := same_cell (j := 2) (u := .int .i64 0) r2 rfl
    have HB := Lib.hid (r1.trans (s1.mono r1.size))
    clear h2 r1 r2 s1 s2
    go_enter Try.func15, Try.ntmps15
    go_wp2_with (simp only [hcl])
    go_end0
    exact ⟨rfl, HB.out⟩
/-- The program's. -/
def ringNo : RingNo where
  No := NoR
  later := fun h hb => h.later hb
  nil := fun w => .inl rfl
  zero := fun w H h => .inr ⟨H, rfl, h⟩
  push := fun w p x h => (push_no_i w p 0 x (no_len h) (no_room h)).mono (by rintro e w' ⟨rfl, rfl⟩; exact ⟨rfl, Below.refl _ _⟩)
  pop := fun w p h => (pop_no_i w p (Lib.hid (at_no_i w p 0 (no_has h 0)))).mono (by rintro e w' ⟨rfl, rfl⟩; exact ⟨rfl, Below.refl _ _⟩)
  at' := fun w p i h => (at_no_i w p i (no_has h i)).mono (by rintro e w' ⟨rfl, rfl⟩; exact ⟨rfl, Below.refl _ _⟩)
  set := fun w p i x h => (set_no_i w p i x (no_has h i)).mono (by rintro e w' ⟨rfl, rfl⟩; exact ⟨rfl, Below.refl _ _⟩)
  len := fun w p h => (no_len h).out.mono (by rintro e w' ⟨rfl, rfl⟩; exact ⟨rfl, Below.refl _ _⟩)
  room := fun w p h => (no_room h).out.mono (by rintro e w' ⟨rfl, rfl⟩; exact ⟨rfl, Below.refl _ _⟩)
  clear := no_clear
  all := no_all
end Go.Proofs.Ytigmflobiiifeaa
