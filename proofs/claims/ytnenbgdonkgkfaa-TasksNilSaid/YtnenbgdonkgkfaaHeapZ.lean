/- No heap, and one that nobody made. -/
import Derived.Test.YtnenbgdonkgkfaaHeapA
namespace Go.Proofs.Ytnenbgdonkgkfaa
open Go.ChangeShapes Go.WideShapes Go.ChangeAt Go.RowKit
set_option linter.unusedVariables false

def NoHp (w : World) (p : Option Addr) : Prop := p = none ∨ ∃ B, p = some ⟨B, 0, none⟩ ∧ w.heap[B]? = some (.cells #[.slice none 0 0, .slice none 0 0] 92 (0, 0))
theorem NoHp.later {w w' : World} {p : Option Addr} (h : NoHp w p) (hb : Below w.heap.size w w') : NoHp w' p := by
  rcases h with rfl | ⟨B, rfl, h⟩
  · exact .inl rfl
  · exact .inr ⟨B, rfl, (hb.block B (lt_of_block h)).trans h⟩
set_option maxRecDepth 100000 in
set_option maxHeartbeats 2000000 in
theorem isNumber_nil (w : World) (p : Option Addr) (h : NoHp w p) (id : Int) :
    Calls Try.prog 42 #[.pointer p, .int .i64 id] w fun e w' => e = .returned (.bool false) ∧ w' = w := by
  rcases h with rfl | ⟨B, rfl, hb⟩
  · go_enter Try.func42, Try.ntmps42
    go_wp2
    go_ret
    exact ⟨rfl, rfl⟩
  · have b0 : w.cell? ⟨B, 0, none⟩ = some (.slice none 0 0) := cell_in hb rfl
    have b1 : w.cell? ⟨B, 1, none⟩ = some (.slice none 0 0) := cell_in hb rfl
    clear hb
    by_cases h0 : 0 ≤ id
    · have t0 : decide (0 ≤ id) = true := decide_eq_true h0
      have t1 : decide (id < 0) = false := decide_eq_false (by omega)
      go_enter Try.func42, Try.ntmps42
      go_wp2
      go_ret
      exact ⟨rfl, rfl⟩
    · have t0 : decide (0 ≤ id) = false := decide_eq_false h0
      go_enter Try.func42, Try.ntmps42
      go_wp2
      go_ret
      exact ⟨rfl, rfl⟩
set_option maxRecDepth 100000 in
set_option maxHeartbeats 2000000 in
theorem place_nil (w : World) (p : Option Addr) (h : NoHp w p) (id : Int) :
    Calls Try.prog 43 #[.pointer p, .int .i64 id] w fun e w' => e = .returned (.tuple #[.int .i64 0, .bool false]) ∧ w' = w := by
  have HC := Lib.hid (isNumber_nil w p h id)
  clear h
  go_enter Try.func43, Try.ntmps43
  go_wp2_with (go_at_call 42; refine HC.out.mono ?_; rintro e w3 ⟨rfl, hw3⟩; rw [hw3]; clear hw3)
  ((try simp only [Exit.inBlock, Exit.then]); refine bodyPost_ret (results_tmp2 rfl _ _ _) rfl ?_)
  exact ⟨rfl, rfl⟩
set_option maxRecDepth 100000 in
set_option maxHeartbeats 2000000 in
theorem put_nil (w : World) (p : Option Addr) (h : NoHp w p) (id due : Int) :
    Calls Try.prog 25 #[.pointer p, .int .i64 id, .int .i64 due] w fun e w' => e = .returned (.int .i64 1) ∧ w' = w := by
  have HC := Lib.hid (isNumber_nil w p h id)
  clear h
  go_enter Try.func25, Try.ntmps25
  go_wp2_with (go_at_call 42; refine HC.out.mono ?_; rintro e w3 ⟨rfl, hw3⟩; rw [hw3]; clear hw3)
  go_ret
  exact ⟨rfl, rfl⟩
set_option maxRecDepth 100000 in
set_option maxHeartbeats 2000000 in
theorem change_nil (w : World) (p : Option Addr) (h : NoHp w p) (id due : Int) :
    Calls Try.prog 31 #[.pointer p, .int .i64 id, .int .i64 due] w fun e w' => e = .returned (.int .i64 1) ∧ w' = w := by
  have HC := Lib.hid (isNumber_nil w p h id)
  clear h
  go_enter Try.func31, Try.ntmps31
  go_wp2_with (go_at_call 42; refine HC.out.mono ?_; rintro e w3 ⟨rfl, hw3⟩; rw [hw3]; clear hw3)
  go_ret
  exact ⟨rfl, rfl⟩
set_option maxRecDepth 100000 in
set_option maxHeartbeats 2000000 in
theorem remove_nil (w : World) (p : Option Addr) (h : NoHp w p) (id : Int) :
    Calls Try.prog 58 #[.pointer p, .int .i64 id] w fun e w' => e = .returned (.bool false) ∧ w' = w := by
  have HC := Lib.hid (place_nil w p h id)
  clear h
  go_enter Try.func58, Try.ntmps58
  go_wp2_with (go_at_call 43; refine HC.out.mono ?_; rintro e w3 ⟨rfl, hw3⟩; rw [hw3]; clear hw3)
  go_ret
  exact ⟨rfl, rfl⟩
set_option maxRecDepth 100000 in
set_option maxHeartbeats 2000000 in
theorem due_nil (w : World) (p : Option Addr) (h : NoHp w p) (id : Int) :
    Calls Try.prog 41 #[.pointer p, .int .i64 id] w fun e w' => e = .returned (.tuple #[.int .i64 0, .bool false]) ∧ w' = w := by
  have HC := Lib.hid (place_nil w p h id)
  clear h
  go_enter Try.func41, Try.ntmps41
  go_wp2_with (go_at_call 43; refine HC.out.mono ?_; rintro e w3 ⟨rfl, hw3⟩; rw [hw3]; clear hw3)
  ((try simp only [Exit.inBlock, Exit.then]); refine bodyPost_ret (results_tmp2 rfl _ _ _) rfl ?_)
  exact ⟨rfl, rfl⟩
set_option maxRecDepth 100000 in
set_option maxHeartbeats 2000000 in
theorem len_nil (w : World) (p : Option Addr) (h : NoHp w p) :
    Calls Try.prog 38 #[.pointer p] w fun e w' => e = .returned (.int .i64 0) ∧ w' = w := by
  rcases h with rfl | ⟨B, rfl, hb⟩
  · go_enter Try.func38, Try.ntmps38
    go_wp2
    go_ret
    exact ⟨rfl, rfl⟩
  · have b0 : w.cell? ⟨B, 0, none⟩ = some (.slice none 0 0) := cell_in hb rfl
    clear hb
    go_enter Try.func38, Try.ntmps38
    go_wp2
    go_ret
    exact ⟨rfl, rfl⟩
set_option maxRecDepth 100000 in
set_option maxHeartbeats 2000000 in
theorem first_nil (w : World) (p : Option Addr) (h : NoHp w p) :
    Calls Try.prog 34 #[.pointer p] w fun e w' => e = .returned (.tuple #[.int .i64 0, .int .i64 0, .bool false]) ∧ w' = w := by
  have HC := Lib.hid (len_nil w p h)
  clear h
  go_enter Try.func34, Try.ntmps34
  go_wp2_with (go_at_call 38; refine HC.out.mono ?_; rintro e w3 ⟨rfl, hw3⟩; rw [hw3]; clear hw3)
  ((try simp only [Exit.inBlock, Exit.then]); refine bodyPost_ret (results_tmp3 rfl _ _ _) rfl ?_)
  exact ⟨rfl, rfl⟩
open Go.Sort Go.Shelf Go.Lib in
attribute [local go_sem] Oper.semAt_some in
set_option maxRecDepth 100000 in
set_option maxHeartbeats 1000000 in
theorem values0_stops (F : Fence) (nn : Nat) (h10 : F.fn 61) (hro : F.round = none) (hn : 1 ≤ nn) (Bm : Nat) (w0 : World) (hm : w0.heap[Bm]? = some (.cells #[.slice none 0 0] 87 (0, 0))) :
    SeqStopsK F nn Try.prog 61 #[.pointer (some ⟨Bm, 0, none⟩)] (fun x : En => #[.agg #[.int .i64 x.1, .int .i64 x.2]]) (KeepB w0.heap.size) (fun ss => ss = []) (fun _ => True) 0 w0 := by
  intro l J Jx W hW hJ _ hY h0
  have q0 : W.cell? ⟨Bm, 0, none⟩ = some (.slice none 0 0) := cell_in ((hW.block _ (lt_of_block hm)).trans hm) rfl
  clear hm
  refine callsIn_of_wp Try.func61 rfl h10 ?_ hro
  simp only [Try.ntmps61, List.size_toArray, List.length_cons, List.length_nil, Nat.reduceAdd, Nat.reduceSub, Array.replicate_succ, Array.replicate_zero, List.push_toArray, List.append_toArray, List.nil_append, List.cons_append]
  gi_wp2
  gi_loopw [7] (fun s wr => s = .int .i64 0 ∧ J [] wr) (fun s _ => 0)
  case atStart => exact ⟨rfl, h0⟩
  case round =>
    obtain ⟨rfl, hJk⟩ := hrel
    gi_wp2
    go_end0
    exact ⟨⟨_, rfl⟩, .inl ⟨_, rfl, hJk⟩⟩
theorem collect0_any (Bm : Nat) (w : World) (hm : w.heap[Bm]? = some (.cells #[.slice none 0 0] 87 (0, 0))) :
    Calls Try.prog 59 #[.func (.func 61) #[] #[.pointer (some ⟨Bm, 0, none⟩)]] w fun e w' => ∃ (v : Value) (ss : List En), e = .returned v ∧ ss = [] ∧ w'.ownsRow w.heap.size 94 2 v ss.length (ss.flatMap enC) ∧ Below w.heap.size w w' :=
  (callsIn_wide (n := 3)).1 (collectE_in Fence.wide 3 trivial trivial rfl (by omega) _ _ trivial (enters_of Try.func61 (by kernel_rfl) rfl) _ 0 (by unfold maxLen; omega) (by omega) w (values0_stops Fence.wide _ trivial rfl (by omega) Bm w hm))
set_option maxRecDepth 100000 in
set_option maxHeartbeats 2000000 in
theorem sorted0_any (Bm : Nat) (w : World) (hm : w.heap[Bm]? = some (.cells #[.slice none 0 0] 87 (0, 0))) :
    Calls Try.prog 46 #[.func (.func 61) #[] #[.pointer (some ⟨Bm, 0, none⟩)], .func (.func 48) #[] #[]] w fun e w' => ∃ v, e = .returned v ∧ w'.ownsRow w.heap.size 94 2 v 0 (([] : List En).flatMap enC) ∧ Below w.heap.size w w' := by
  have HC := Lib.hid (collect0_any Bm w hm)
  clear hm
  go_enter Try.func46, Try.ntmps46
  go_wp2_with (first
    | (go_at_call 60; refine (sortEn_any v3 w.heap.size [] _ ho3.out (by simp)).mono ?_; rintro e w4 ⟨rfl, ho4, hb4⟩)
    | (go_at_call 59; refine HC.out.mono ?_; rintro e w3 ⟨v3, ss, rfl, rfl, ho3', hb3⟩; have ho3 := Lib.hid ho3'; clear ho3')
    | fail "no arm")
  go_ret
  exact ⟨_, rfl, by simpa [sortH] using ho4, hb3.trans hb4⟩
set_option maxRecDepth 100000 in
set_option maxHeartbeats 2000000 in
theorem all_nil (w : World) (p : Option Addr) (h : NoHp w p) :
    Calls Try.prog 30 #[.pointer p] w fun e w' => ∃ ao cp, e = .returned (.slice ao 0 cp) ∧ Below w.heap.size w w' := by
  rcases h with rfl | ⟨B, rfl, hb⟩
  · go_enter Try.func30, Try.ntmps30
    go_wp2
    go_ret
    exact ⟨_, _, rfl, Below.refl _ _⟩
  · have b0 : w.cell? ⟨B, 0, none⟩ = some (.slice none 0 0) := cell_in hb rfl
    obtain ⟨V, hV⟩ : ∃ V, V = w.alloc (.cells #[.slice none 0 0] 87) := ⟨_, rfl⟩
    have HBV : Hid (Below w.heap.size w V) := Lib.hid (by rw [hV]; exact below1 _ _)
    have HS := Lib.hid (sorted0_any w.heap.size V (by rw [hV]; exact heap_alloc_new _ _))
    have HV := Lib.hid hV
    obtain ⟨i0, hi0, hz0, hz1, hz2⟩ := info_parts Try.infoInt
    have hmk : ∀ W : World, (Instr.makeSlice 41 (.int .i64 0) (.int .i64 0)).run Try.prog W = .ok (.slice (some ⟨W.heap.size, 0, none⟩) 0 0) (W.alloc (numObj 0)) := fun W => by
      have := run_make (P := Try.prog) W 41 3 i0 _ Try.underlying41 hi0 hz0 .i64 .i64 0 0 (by omega) (by omega) (by rw [hz2]; omega) (by omega)
      rw [this, hz1]
      simp [numObj]
    clear hb hV hi0 hz0 hz1 hz2
    go_enter Try.func30, Try.ntmps30
    go_wp2_with (first
      | (go_at_call 46; refine HS.out.mono ?_; rintro e w3 ⟨v3, rfl, ho3', hb3'⟩; obtain ⟨ao, cap, rfl, _⟩ := owns_en ho3' rfl; have hb3 := Lib.hid hb3'; clear ho3' hb3')
      | (go_at_call 47; refine (valuesMade_any _ _ _ _).mono ?_; rintro e w2 ⟨rfl, hw2⟩; rw [← HV.out] at hw2; rw [hw2]; clear hw2)
      | fail "no arm")
    go_loopw [21] (fun s wr => s = .int .i64 0 ∧ Hid (Below w.heap.size w wr)) (fun _ _ => 0)
    case atStart => exact ⟨rfl, Lib.hid (b_alloc (HBV.out.trans (hb3.out.mono HBV.out.size)) (Nat.le_refl _) _)⟩
    case round =>
      obtain ⟨rfl, HB⟩ := hrel
      go_wp2
      go_ret
      exact ⟨_, _, rfl, HB.out⟩
end Go.Proofs.Ytnenbgdonkgkfaa
