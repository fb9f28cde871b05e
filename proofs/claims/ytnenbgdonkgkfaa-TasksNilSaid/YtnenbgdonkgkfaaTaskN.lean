/- No table of jobs, and one that nobody made. -/
import Derived.Test.YtnenbgdonkgkfaaTaskC
import Derived.Deep.CutRange
import Derived.Deep.CutBlock
import Derived.Test.YtnenbgdonkgkfaaHeapZ
import Derived.BigQuiet
namespace Go.Proofs.Ytnenbgdonkgkfaa
open Go.ChangeShapes Go.WideShapes Go.ChangeAt Go.RowKit
set_option linter.unusedVariables false

def NoTb (w : World) (p : Option Addr) : Prop := p = none ∨ ∃ B, p = some ⟨B, 0, none⟩ ∧ w.heap[B]? = some (.cells #[.slice none 0 0, .pointer none, .bool false] 59 (0, 0))
theorem NoTb.later {w w' : World} {p : Option Addr} (h : NoTb w p) (hb : Below w.heap.size w w') : NoTb w' p := by
  rcases h with h | ⟨B, h, h2⟩
  · exact .inl h
  · exact .inr ⟨B, h, (hb.block B (lt_of_block h2)).trans h2⟩
theorem Try.sizeTOpN : (Try.prog.info? 49).map (·.size) = some 3 := by kernel_rfl
theorem Try.sizeTJobN : (Try.prog.info? 39).map (·.size) = some 5 := by kernel_rfl
theorem results_pairN {P : Program} {fn : Func} {p u : Tmp} {ty : TypeId} (h : fn.results = #[.cell p ty, .tmp u]) (tmps : Array Value) (w : World) (g : Nat) (t : TypeId) (cs : Array Value) (fr : Nat × Nat) (d : TypeDesc) (x : Value)
    (hp : tmps.getD p undef = .pointer (some ⟨g, 0, none⟩)) (hx : tmps.getD u undef = x) (hg : w.heap[g]? = some (.cells cs t fr))
    (hu : P.underlying ty = some d) (hd : (match d with | .struct _ | .array _ _ => true | _ => false) = true) (hi : (P.info? ty).map (·.size) = some cs.size) :
    (results fn tmps).run P w = .ok (.tuple #[.agg cs, x]) w := by
  rw [results_cell_tmp h, hp, hx]
  simp [asAddr, run_loadVar_row w g t ty cs fr d hg hu hd hi, Result.andThen]
theorem set3n {w : World} {X : Nat} {T : TypeId} {cs : Array Value} (h : w.heap[X]? = some (.cells cs T (0, 0))) (hs : cs.size = 3) (v0 v1 v2 : Value) :
    (((w.setCell ⟨X, 0, none⟩ v0).setCell ⟨X, 1, none⟩ v1).setCell ⟨X, 2, none⟩ v2).heap[X]? = some (.cells #[v0, v1, v2] T (0, 0)) := by
  have h3 := set_at (j := 2) (u := v2) (set_at (j := 1) (u := v1) (set_at (j := 0) (u := v0) h))
  rw [h3]
  match cs, hs with
  | ⟨[a, b, c]⟩, _ => rfl
set_option maxRecDepth 100000 in
set_option maxHeartbeats 4000000 in
theorem nmade (w : World) (p : Option Addr) (h : NoTb w p) :
    Calls Try.prog 27 #[.pointer p] w fun e w' => e = .returned (.bool false) ∧ w' = w := by
  rcases h with rfl | ⟨B, rfl, hB⟩
  · go_enter Try.func27, Try.ntmps27
    go_wp2_with fail
    go_ret
    exact ⟨rfl, rfl⟩
  · have c0 : w.cell? ⟨B, 0, none⟩ = some (.slice none 0 0) := cell_in hB rfl
    have c1 : w.cell? ⟨B, 1, none⟩ = some (.pointer none) := cell_in hB rfl
    have c2 : w.cell? ⟨B, 2, none⟩ = some (.bool false) := cell_in hB rfl
    clear hB
    go_enter Try.func27, Try.ntmps27
    go_wp2_with fail
    go_ret
    exact ⟨rfl, rfl⟩
set_option maxRecDepth 100000 in
set_option maxHeartbeats 4000000 in
theorem nhas (w : World) (p : Option Addr) (h : NoTb w p) (id : Int) :
    Calls Try.prog 21 #[.pointer p, .int .i64 id] w fun e w' => e = .returned (.bool false) ∧ w' = w := by
  rcases h with rfl | ⟨B, rfl, hB⟩
  · go_enter Try.func21, Try.ntmps21
    go_wp2_with fail
    all_goals (go_ret; first | exact ⟨rfl, rfl⟩ | (refine ⟨?_, rfl⟩; rw [show decide (id < 0) = false from decide_eq_false (by omega)]; rfl))
  · have c0 : w.cell? ⟨B, 0, none⟩ = some (.slice none 0 0) := cell_in hB rfl
    have c1 : w.cell? ⟨B, 1, none⟩ = some (.pointer none) := cell_in hB rfl
    have c2 : w.cell? ⟨B, 2, none⟩ = some (.bool false) := cell_in hB rfl
    clear hB
    go_enter Try.func21, Try.ntmps21
    go_wp2_with fail
    all_goals (go_ret; first | exact ⟨rfl, rfl⟩ | (refine ⟨?_, rfl⟩; rw [show decide (id < 0) = false from decide_eq_false (by omega)]; rfl))
set_option maxRecDepth 100000 in
set_option maxHeartbeats 4000000 in
theorem nthere (w : World) (p : Option Addr) (h : NoTb w p) (id : Int) :
    Calls Try.prog 23 #[.pointer p, .int .i64 id] w fun e w' => e = .returned (.bool false) ∧ w' = w := by
  have HD := Lib.hid (due_nil w none (.inl rfl) id)
  rcases h with rfl | ⟨B, rfl, hB⟩
  · go_enter Try.func23, Try.ntmps23
    go_wp2_with (first | (go_at_call 41; refine HD.out.mono ?_; rintro e w3 ⟨rfl, hw3⟩; rw [hw3]; clear hw3) | fail "no arm")
    go_ret
    exact ⟨rfl, rfl⟩
  · have c0 : w.cell? ⟨B, 0, none⟩ = some (.slice none 0 0) := cell_in hB rfl
    have c1 : w.cell? ⟨B, 1, none⟩ = some (.pointer none) := cell_in hB rfl
    have c2 : w.cell? ⟨B, 2, none⟩ = some (.bool false) := cell_in hB rfl
    clear hB
    go_enter Try.func23, Try.ntmps23
    go_wp2_with (first | (go_at_call 41; refine HD.out.mono ?_; rintro e w3 ⟨rfl, hw3⟩; rw [hw3]; clear hw3) | fail "no arm")
    go_ret
    exact ⟨rfl, rfl⟩
set_option maxRecDepth 100000 in
set_option maxHeartbeats 4000000 in
theorem nhigh (w : World) (p : Option Addr) (h : NoTb w p) :
    Calls Try.prog 15 #[.pointer p] w fun e w' => e = .returned (.bool false) ∧ w' = w := by
  rcases h with rfl | ⟨B, rfl, hB⟩
  · go_enter Try.func15, Try.ntmps15
    go_wp2_with fail
    go_ret
    exact ⟨rfl, rfl⟩
  · have c0 : w.cell? ⟨B, 0, none⟩ = some (.slice none 0 0) := cell_in hB rfl
    have c1 : w.cell? ⟨B, 1, none⟩ = some (.pointer none) := cell_in hB rfl
    have c2 : w.cell? ⟨B, 2, none⟩ = some (.bool false) := cell_in hB rfl
    clear hB
    go_enter Try.func15, Try.ntmps15
    go_wp2_with fail
    go_ret
    exact ⟨rfl, rfl⟩
set_option maxRecDepth 100000 in
set_option maxHeartbeats 4000000 in
theorem nlen (w : World) (p : Option Addr) (h : NoTb w p) :
    Calls Try.prog 19 #[.pointer p] w fun e w' => e = .returned (.int .i64 0) ∧ w' = w := by
  have HD := Lib.hid (len_nil w none (.inl rfl))
  rcases h with rfl | ⟨B, rfl, hB⟩
  · go_enter Try.func19, Try.ntmps19
    go_wp2_with (first | (go_at_call 38; refine HD.out.mono ?_; rintro e w3 ⟨rfl, hw3⟩; rw [hw3]; clear hw3) | fail "no arm")
    go_ret
    exact ⟨rfl, rfl⟩
  · have c0 : w.cell? ⟨B, 0, none⟩ = some (.slice none 0 0) := cell_in hB rfl
    have c1 : w.cell? ⟨B, 1, none⟩ = some (.pointer none) := cell_in hB rfl
    have c2 : w.cell? ⟨B, 2, none⟩ = some (.bool false) := cell_in hB rfl
    clear hB
    go_enter Try.func19, Try.ntmps19
    go_wp2_with (first | (go_at_call 38; refine HD.out.mono ?_; rintro e w3 ⟨rfl, hw3⟩; rw [hw3]; clear hw3) | fail "no arm")
    go_ret
    exact ⟨rfl, rfl⟩
set_option maxRecDepth 100000 in
set_option maxHeartbeats 4000000 in
theorem nfirst (w : World) (p : Option Addr) (h : NoTb w p) :
    Calls Try.prog 14 #[.pointer p] w fun e w' => e = .returned (.tuple #[.int .i64 0, .int .i64 0, .bool false]) ∧ w' = w := by
  have HD := Lib.hid (first_nil w none (.inl rfl))
  rcases h with rfl | ⟨B, rfl, hB⟩
  · go_enter Try.func14, Try.ntmps14
    go_wp2_with (first | (go_at_call 34; refine HD.out.mono ?_; rintro e w3 ⟨rfl, hw3⟩; rw [hw3]; clear hw3) | fail "no arm")
    ((try simp only [Exit.inBlock, Exit.then]); refine bodyPost_ret (results_tmp3 rfl _ _ _) rfl ?_)
    exact ⟨rfl, rfl⟩
  · have c0 : w.cell? ⟨B, 0, none⟩ = some (.slice none 0 0) := cell_in hB rfl
    have c1 : w.cell? ⟨B, 1, none⟩ = some (.pointer none) := cell_in hB rfl
    have c2 : w.cell? ⟨B, 2, none⟩ = some (.bool false) := cell_in hB rfl
    clear hB
    go_enter Try.func14, Try.ntmps14
    go_wp2_with (first | (go_at_call 34; refine HD.out.mono ?_; rintro e w3 ⟨rfl, hw3⟩; rw [hw3]; clear hw3) | fail "no arm")
    ((try simp only [Exit.inBlock, Exit.then]); refine bodyPost_ret (results_tmp3 rfl _ _ _) rfl ?_)
    exact ⟨rfl, rfl⟩
set_option maxRecDepth 100000 in
set_option maxHeartbeats 4000000 in
theorem nfall (w : World) (p : Option Addr) (h : NoTb w p) :
    Calls Try.prog 12 #[.pointer p] w fun e w' => e = .returned (.bool false) ∧ w' = w := by
  have HD := Lib.hid (nhigh w p h)
  rcases h with rfl | ⟨B, rfl, hB⟩
  · go_enter Try.func12, Try.ntmps12
    go_wp2_with (first | (go_at_call 15; refine HD.out.mono ?_; rintro e w3 ⟨rfl, hw3⟩; rw [hw3]; clear hw3) | fail "no arm")
    go_ret
    exact ⟨rfl, rfl⟩
  · have c0 : w.cell? ⟨B, 0, none⟩ = some (.slice none 0 0) := cell_in hB rfl
    have c1 : w.cell? ⟨B, 1, none⟩ = some (.pointer none) := cell_in hB rfl
    have c2 : w.cell? ⟨B, 2, none⟩ = some (.bool false) := cell_in hB rfl
    clear hB
    go_enter Try.func12, Try.ntmps12
    go_wp2_with (first | (go_at_call 15; refine HD.out.mono ?_; rintro e w3 ⟨rfl, hw3⟩; rw [hw3]; clear hw3) | fail "no arm")
    go_ret
    exact ⟨rfl, rfl⟩
set_option maxRecDepth 100000 in
set_option maxHeartbeats 4000000 in
theorem nclear (w : World) (p : Option Addr) (h : NoTb w p) :
    Calls Try.prog 18 #[.pointer p] w fun e w' => e = .returned (.tuple #[]) ∧ w' = w := by
  have HD := Lib.hid (nmade w p h)
  rcases h with rfl | ⟨B, rfl, hB⟩
  · go_enter Try.func18, Try.ntmps18
    go_wp2_with (first | (go_at_call 27; refine HD.out.mono ?_; rintro e w3 ⟨rfl, hw3⟩; rw [hw3]; clear hw3) | fail "no arm")
    go_end0
    exact ⟨rfl, rfl⟩
  · have c0 : w.cell? ⟨B, 0, none⟩ = some (.slice none 0 0) := cell_in hB rfl
    have c1 : w.cell? ⟨B, 1, none⟩ = some (.pointer none) := cell_in hB rfl
    have c2 : w.cell? ⟨B, 2, none⟩ = some (.bool false) := cell_in hB rfl
    clear hB
    go_enter Try.func18, Try.ntmps18
    go_wp2_with (first | (go_at_call 27; refine HD.out.mono ?_; rintro e w3 ⟨rfl, hw3⟩; rw [hw3]; clear hw3) | fail "no arm")
    go_end0
    exact ⟨rfl, rfl⟩
set_option maxRecDepth 100000 in
set_option maxHeartbeats 4000000 in
theorem nrise (w : World) (p : Option Addr) (h : NoTb w p) :
    Calls Try.prog 11 #[.pointer p] w fun e w' => e = .returned (.slice none 0 0) ∧ w' = w := by
  have HD := Lib.hid (nmade w p h)
  rcases h with rfl | ⟨B, rfl, hB⟩
  · go_enter Try.func11, Try.ntmps11
    go_wp2_with (first | (go_at_call 27; refine HD.out.mono ?_; rintro e w3 ⟨rfl, hw3⟩; rw [hw3]; clear hw3) | fail "no arm")
    go_ret
    exact ⟨rfl, rfl⟩
  · have c0 : w.cell? ⟨B, 0, none⟩ = some (.slice none 0 0) := cell_in hB rfl
    have c1 : w.cell? ⟨B, 1, none⟩ = some (.pointer none) := cell_in hB rfl
    have c2 : w.cell? ⟨B, 2, none⟩ = some (.bool false) := cell_in hB rfl
    clear hB
    go_enter Try.func11, Try.ntmps11
    go_wp2_with (first | (go_at_call 27; refine HD.out.mono ?_; rintro e w3 ⟨rfl, hw3⟩; rw [hw3]; clear hw3) | fail "no arm")
    go_ret
    exact ⟨rfl, rfl⟩
set_option maxRecDepth 100000 in
set_option maxHeartbeats 4000000 in
theorem ndrop (w : World) (p : Option Addr) (h : NoTb w p) (fid : Nat) (fr : Array Value) :
    Calls Try.prog 28 #[.pointer p, .func (.func fid) #[] fr] w fun e w' => e = .returned (.slice none 0 0) ∧ w' = w := by
  rcases h with rfl | ⟨B, rfl, hB⟩
  · go_enter Try.func28, Try.ntmps28
    go_wp2_with fail
    go_ret
    exact ⟨rfl, rfl⟩
  · have c0 : w.cell? ⟨B, 0, none⟩ = some (.slice none 0 0) := cell_in hB rfl
    clear hB
    go_enter Try.func28, Try.ntmps28
    go_wp2_with fail
    go_loopw [5, 14] (fun s5 s14 wr => s5 = .slice none 0 0 ∧ s14 = .int .i64 0 ∧ wr = w) (fun _ _ _ => 0)
    case atStart => exact ⟨rfl, rfl, rfl⟩
    case round =>
      obtain ⟨rfl, rfl, rfl⟩ := hrel
      go_wp2_with fail
      go_ret
      exact ⟨rfl, rfl⟩
set_option maxRecDepth 100000 in
set_option maxHeartbeats 4000000 in
theorem nmissed (w : World) (p : Option Addr) (h : NoTb w p) (now : Int) :
    Calls Try.prog 13 #[.pointer p, .int .i64 now] w fun e w' => e = .returned (.slice none 0 0) ∧ Below w.heap.size w w' := by
  have HD := Lib.hid (ndrop (w.alloc (.cells #[.int .i64 now] 3)) p (h.later (below1 _ _)) 32 #[.pointer (some ⟨w.heap.size, 0, none⟩)])
  have HB : Hid (Below w.heap.size w (w.alloc (.cells #[.int .i64 now] 3))) := Lib.hid (below1 _ _)
  clear h
  go_enter Try.func13, Try.ntmps13
  go_wp2_with (first | (go_at_call 28; refine HD.out.mono ?_; rintro e w3 ⟨rfl, hw3⟩; rw [hw3]; clear hw3) | fail "no arm")
  go_ret
  exact ⟨rfl, HB.out⟩
set_option maxRecDepth 100000 in
set_option maxHeartbeats 4000000 in
theorem nput (w : World) (p : Option Addr) (h : NoTb w p) (t arr work done : Int) (v : Value) :
    Calls Try.prog 9 #[.pointer p, .agg #[.int .i64 t, .int .i64 arr, .int .i64 work, .int .i64 done, v]] w fun e w' => e = .returned (.int .i64 1) ∧ Below w.heap.size w w' := by
  have HD := Lib.hid (nhas (w.alloc (.cells #[.int .i64 t, .int .i64 arr, .int .i64 work, .int .i64 done, v] 39)) p (h.later (below1 _ _)) t)
  have HB : Hid (Below w.heap.size w (w.alloc (.cells #[.int .i64 t, .int .i64 arr, .int .i64 work, .int .i64 done, v] 39))) := Lib.hid (below1 _ _)
  clear h
  go_enter Try.func9, Try.ntmps9
  go_wp2_with (first | (go_at_call 21; refine HD.out.mono ?_; rintro e w3 ⟨rfl, hw3⟩; rw [hw3]; clear hw3) | fail "no arm")
  go_ret
  exact ⟨rfl, HB.out⟩
set_option maxRecDepth 100000 in
set_option maxHeartbeats 4000000 in
theorem nrun (w : World) (p : Option Addr) (h : NoTb w p) (t : Int) :
    Calls Try.prog 17 #[.pointer p, .int .i64 t] w fun e w' => e = .returned (.tuple #[.agg #[.int .i64 0, .int .i64 0, .int .i64 0], .int .i64 4]) ∧ Below w.heap.size w w' := by
  obtain ⟨V, hV⟩ : ∃ V, V = w.alloc (.cells #[.int .i64 0, .int .i64 0, .int .i64 0] 49) := ⟨_, rfl⟩
  obtain ⟨E, hE⟩ : ∃ E, E = w.heap.size := ⟨_, rfl⟩
  have hbV : Hid (Below w.heap.size w V) := Lib.hid (by rw [hV]; exact below1 _ _)
  have HEV : Hid (V.heap[E]? = some (.cells #[.int .i64 0, .int .i64 0, .int .i64 0] 49 (0, 0))) := Lib.hid (by rw [hV, hE]; exact heap_alloc_new _ _)
  have HD := Lib.hid (nthere V p (h.later hbV.out) t)
  have r0 := cell_in (j := 0) HEV.out rfl
  have q0 := free_in HEV.out 0
  have r1 := cell_in (j := 1) HEV.out rfl
  have q1 := free_in HEV.out 1
  have r2 := cell_in (j := 2) HEV.out rfl
  have q2 := free_in HEV.out 2
  have HV := Lib.hid hV
  have HE := Lib.hid hE
  clear h hV hE
  go_enter Try.func17, Try.ntmps17
  go_upto_region 1 with fail
  rw [← HV.out, ← HE.out]
  go_wp2_with (first | (go_at_call 23; refine HD.out.mono ?_; rintro e w3 ⟨rfl, hw3⟩; rw [hw3]; clear hw3) | fail "no arm")
  have hX := set3n HEV.out rfl (.int .i64 0) (.int .i64 0) (.int .i64 0)
  have hB5 : But E V (((V.setCell ⟨E, 0, none⟩ (.int .i64 0)).setCell ⟨E, 1, none⟩ (.int .i64 0)).setCell ⟨E, 2, none⟩ (.int .i64 0)) := ((((But.refl _ _).set 0 _).set 1 _).set 2 _)
  refine bodyPost_ret (results_pairN (P := Try.prog) rfl _ _ E _ _ (0, 0) _ _ rfl rfl hX Try.underlying49 rfl Try.sizeTOpN) rfl ?_
  exact ⟨rfl, hbV.out.trans (hB5.below (by have := HE.out; omega) hbV.out.size)⟩
set_option maxRecDepth 100000 in
set_option maxHeartbeats 4000000 in
theorem nget (w : World) (p : Option Addr) (h : NoTb w p) (t : Int) :
    Calls Try.prog 16 #[.pointer p, .int .i64 t] w fun e w' => e = .returned (.tuple #[.agg #[.int .i64 0, .int .i64 0, .int .i64 0, .int .i64 0, .slice none 0 0], .bool false]) ∧ Below w.heap.size w w' := by
  obtain ⟨V, hV⟩ : ∃ V, V = w.alloc (.cells #[.int .i64 0, .int .i64 0, .int .i64 0, .int .i64 0, .slice none 0 0] 39) := ⟨_, rfl⟩
  obtain ⟨E, hE⟩ : ∃ E, E = w.heap.size := ⟨_, rfl⟩
  have hbV : Hid (Below w.heap.size w V) := Lib.hid (by rw [hV]; exact below1 _ _)
  have HEV : Hid (V.heap[E]? = some (.cells #[.int .i64 0, .int .i64 0, .int .i64 0, .int .i64 0, .slice none 0 0] 39 (0, 0))) := Lib.hid (by rw [hV, hE]; exact heap_alloc_new _ _)
  have HD := Lib.hid (nthere V p (h.later hbV.out) t)
  have r0 := cell_in (j := 0) HEV.out rfl
  have q0 := free_in HEV.out 0
  have r1 := cell_in (j := 1) HEV.out rfl
  have q1 := free_in HEV.out 1
  have r2 := cell_in (j := 2) HEV.out rfl
  have q2 := free_in HEV.out 2
  have r3 := cell_in (j := 3) HEV.out rfl
  have q3 := free_in HEV.out 3
  have r4 := cell_in (j := 4) HEV.out rfl
  have q4 := free_in HEV.out 4
  have HV := Lib.hid hV
  have HE := Lib.hid hE
  clear h hV hE
  go_enter Try.func16, Try.ntmps16
  go_upto_region 1 with fail
  rw [← HV.out, ← HE.out]
  go_wp2_with (first | (go_at_call 23; refine HD.out.mono ?_; rintro e w3 ⟨rfl, hw3⟩; rw [hw3]; clear hw3) | fail "no arm")
  have hX := set5 HEV.out rfl (.int .i64 0) (.int .i64 0) (.int .i64 0) (.int .i64 0) (.slice none 0 0)
  have hB5 : But E V (((((V.setCell ⟨E, 0, none⟩ (.int .i64 0)).setCell ⟨E, 1, none⟩ (.int .i64 0)).setCell ⟨E, 2, none⟩ (.int .i64 0)).setCell ⟨E, 3, none⟩ (.int .i64 0)).setCell ⟨E, 4, none⟩ (.slice none 0 0)) := ((((((But.refl _ _).set 0 _).set 1 _).set 2 _).set 3 _).set 4 _)
  refine bodyPost_ret (results_pairN (P := Try.prog) rfl _ _ E _ _ (0, 0) _ _ rfl rfl hX Try.underlying39 rfl Try.sizeTJobN) rfl ?_
  exact ⟨rfl, hbV.out.trans (hB5.below (by have := HE.out; omega) hbV.out.size)⟩
end Go.Proofs.Ytnenbgdonkgkfaa
