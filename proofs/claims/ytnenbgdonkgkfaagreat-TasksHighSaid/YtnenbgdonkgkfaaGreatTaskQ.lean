/- The program's table of jobs: what a seat, a job tells; a job's tick; a job apart; a job gone. -/
import Derived.Test.YtnenbgdonkgkfaaGreatTaskP
import Derived.Deep.CutRange
import Derived.Deep.CutBlock
namespace Go.Proofs.YtnenbgdonkgkfaaGreat
open Go.ChangeShapes Go.WideShapes Go.ChangeAt Go.RowKit
set_option linter.unusedVariables false

theorem set3t {w : World} {X : Nat} {T : TypeId} {cs : Array Value} (h : w.heap[X]? = some (.cells cs T (0, 0))) (hs : cs.size = 3) (v0 v1 v2 : Value) :
    (((w.setCell ⟨X, 0, none⟩ v0).setCell ⟨X, 1, none⟩ v1).setCell ⟨X, 2, none⟩ v2).heap[X]? = some (.cells #[v0, v1, v2] T (0, 0)) := by
  have h3 := set_at (j := 2) (u := v2) (set_at (j := 1) (u := v1) (set_at (j := 0) (u := v0) h))
  rw [h3]
  match cs, hs with
  | ⟨[a, b, c]⟩, _ => rfl
theorem Tryz.sizeTOp : (Tryz.prog.info? 60).map (·.size) = some 3 := by kernel_rfl
theorem Tryz.sizeTJob : (Tryz.prog.info? 40).map (·.size) = some 5 := by kernel_rfl
theorem Tryz.infoTOp : (Tryz.prog.info? 60).map (fun i => (i.zero, i.size, i.bytes)) = some (some (.agg #[.int .i64 0, .int .i64 0, .int .i64 0]), 3, 24) := by kernel_rfl
set_option maxRecDepth 100000 in
set_option maxHeartbeats 4000000 in
theorem tdue_any (w : World) (G o : Nat) (arr d v : Int) (hm : Bool) (b1 : w.cell? ⟨G, o + 1, none⟩ = some (.int .i64 arr)) (b7 : w.cell? ⟨G, o + 7, none⟩ = some (.int .i64 d)) (b8 : w.cell? ⟨G, o + 8, none⟩ = some (.int .i64 v)) (h1 : 0 ≤ arr ∧ arr ≤ 4611686018427387904) (h2 : 0 ≤ d ∧ d ≤ 1000) (h3 : 0 ≤ v ∧ v ≤ 1000) :
    Calls Tryz.prog 46 #[.pointer (some ⟨G, o, none⟩), .bool hm] w fun e w' => e = .returned (.int .i64 (arr + (if hm = true then d else v))) ∧ ∃ n, w' = w.drewN n := by
  cases hm with
  | true =>
    have HD := Lib.hid (tdead_any w G o arr d b1 b7 h1 h2)
    clear b1 b7 b8 h1 h2 h3
    go_enter Tryz.func46, Tryz.ntmps46
    go_wp2_with (go_at_call 55; refine HD.out.mono ?_; rintro e w3 ⟨rfl, n3, rfl⟩)
    go_ret
    exact ⟨rfl, _, rfl⟩
  | false =>
    have e1 : IntKind.i64.wrap (arr + v) = arr + v := IntWalk.i64_in _ (by omega)
    go_enter Tryz.func46, Tryz.ntmps46
    go_wp2_with fail
    go_quiet (fail)
    go_wp2_with fail
    go_ret
    exact ⟨rfl, _, rfl⟩
set_option maxRecDepth 100000 in
set_option maxHeartbeats 4000000 in
theorem tspent_any (w : World) (G o : Nat) (done lo top : Int) (hm : Bool) (b3 : w.cell? ⟨G, o + 3, none⟩ = some (.int .i64 done)) (b9 : w.cell? ⟨G, o + 9, none⟩ = some (.int .i64 lo)) (b10 : w.cell? ⟨G, o + 10, none⟩ = some (.int .i64 top)) :
    Calls Tryz.prog 66 #[.pointer (some ⟨G, o, none⟩), .bool hm] w fun e w' => e = .returned (.bool (decide ((if hm = true then top else lo) ≤ done))) ∧ ∃ n, w' = w.drewN n := by
  cases hm with
  | true =>
    go_enter Tryz.func66, Tryz.ntmps66
    go_wp2_with fail
    go_quiet (fail)
    go_wp2_with fail
    go_ret
    exact ⟨rfl, _, rfl⟩
  | false =>
    go_enter Tryz.func66, Tryz.ntmps66
    go_wp2_with fail
    go_quiet (fail)
    go_wp2_with fail
    go_ret
    exact ⟨rfl, _, rfl⟩
set_option maxRecDepth 100000 in
set_option maxHeartbeats 4000000 in
theorem trises_any (w : World) (G o : Nat) (lo top : Int) (th hm : Bool) (b5 : w.cell? ⟨G, o + 5, none⟩ = some (.bool th)) (b9 : w.cell? ⟨G, o + 9, none⟩ = some (.int .i64 lo)) (b10 : w.cell? ⟨G, o + 10, none⟩ = some (.int .i64 top)) :
    Calls Tryz.prog 67 #[.pointer (some ⟨G, o, none⟩), .bool hm] w fun e w' => e = .returned (.bool (!hm && (th && decide (lo < top)))) ∧ ∃ n, w' = w.drewN n := by
  by_cases hl : lo < top
  · have d0 : decide (lo < top) = true := decide_eq_true hl
    cases hm <;> cases th <;>
    ( go_enter Tryz.func67, Tryz.ntmps67
      go_wp2_with fail
      try go_quiet (fail)
      try go_wp2_with fail
      go_ret
      first | exact ⟨rfl, _, rfl⟩ | exact ⟨rfl, 0, rfl⟩ | exact ⟨by simp [d0], _, rfl⟩ | exact ⟨by simp [d0], 0, rfl⟩)
  · have d0 : decide (lo < top) = false := decide_eq_false hl
    cases hm <;> cases th <;>
    ( go_enter Tryz.func67, Tryz.ntmps67
      go_wp2_with fail
      try go_quiet (fail)
      try go_wp2_with fail
      go_ret
      first | exact ⟨rfl, _, rfl⟩ | exact ⟨rfl, 0, rfl⟩ | exact ⟨by simp [d0], _, rfl⟩ | exact ⟨by simp [d0], 0, rfl⟩)
set_option maxRecDepth 100000 in
set_option maxHeartbeats 4000000 in
theorem tended_any (w : World) (G o : Nat) (work done : Int) (b2 : w.cell? ⟨G, o + 2, none⟩ = some (.int .i64 work)) (b3 : w.cell? ⟨G, o + 3, none⟩ = some (.int .i64 done)) :
    Calls Tryz.prog 65 #[.pointer (some ⟨G, o, none⟩)] w fun e w' => e = .returned (.bool (decide (work ≤ done))) ∧ ∃ n, w' = w.drewN n := by
  go_enter Tryz.func65, Tryz.ntmps65
  go_wp2_with fail
  go_quiet (fail)
  go_wp2_with fail
  go_ret
  exact ⟨rfl, _, rfl⟩
def rightV (arr work done : Int) (n : Nat) : Bool := decide (0 ≤ arr ∧ arr ≤ 4611686018427387904 ∧ 1 ≤ work ∧ work ≤ 1048576 ∧ done = 0 ∧ n ≤ 64)
set_option maxRecDepth 100000 in
set_option maxHeartbeats 4000000 in
theorem tright_any (w : World) (G o : Nat) (arr work done : Int) (a : Option Addr) (n c : Nat) (b1 : w.cell? ⟨G, o + 1, none⟩ = some (.int .i64 arr)) (b2 : w.cell? ⟨G, o + 2, none⟩ = some (.int .i64 work)) (b3 : w.cell? ⟨G, o + 3, none⟩ = some (.int .i64 done)) (b4 : w.cell? ⟨G, o + 4, none⟩ = some (.slice a n c)) :
    Calls Tryz.prog 44 #[.pointer (some ⟨G, o, none⟩)] w fun e w' => e = .returned (.bool (rightV arr work done n)) ∧ w' = w := by
  by_cases h0 : 0 ≤ arr
  · have d0 : decide (0 ≤ arr) = true := decide_eq_true h0
    by_cases h1 : arr ≤ 4611686018427387904
    · have d1 : decide (arr ≤ 4611686018427387904) = true := decide_eq_true h1
      by_cases h2 : 1 ≤ work
      · have d2 : decide (1 ≤ work) = true := decide_eq_true h2
        by_cases h3 : work ≤ 1048576
        · have d3 : decide (work ≤ 1048576) = true := decide_eq_true h3
          by_cases h4 : done = 0
          · subst h4
            by_cases h5 : n ≤ 64
            · have d5 : decide ((n : Int) ≤ 64) = true := decide_eq_true (by omega)
              have HR := Lib.hid (show rightV arr work 0 n = true from decide_eq_true ⟨h0, h1, h2, h3, rfl, h5⟩)
              go_enter Tryz.func44, Tryz.ntmps44
              go_wp2
              go_ret
              exact ⟨by rw [HR.out]; first | done | rfl, rfl⟩
            · have d5 : decide ((n : Int) ≤ 64) = false := decide_eq_false (by omega)
              have HR := Lib.hid (show rightV arr work 0 n = false from decide_eq_false (fun h => h5 h.2.2.2.2.2))
              go_enter Tryz.func44, Tryz.ntmps44
              go_wp2
              go_ret
              exact ⟨by rw [HR.out]; first | done | rfl, rfl⟩
          · have d4 : (done == 0) = false := by simpa using h4
            have HR := Lib.hid (show rightV arr work done n = false from decide_eq_false (fun h => h4 h.2.2.2.2.1))
            go_enter Tryz.func44, Tryz.ntmps44
            go_wp2
            go_ret
            exact ⟨by rw [HR.out]; first | done | rfl, rfl⟩
        · have d3 : decide (work ≤ 1048576) = false := decide_eq_false h3
          have HR := Lib.hid (show rightV arr work done n = false from decide_eq_false (fun h => h3 h.2.2.2.1))
          go_enter Tryz.func44, Tryz.ntmps44
          go_wp2
          go_ret
          exact ⟨by rw [HR.out]; first | done | rfl, rfl⟩
      · have d2 : decide (1 ≤ work) = false := decide_eq_false h2
        have HR := Lib.hid (show rightV arr work done n = false from decide_eq_false (fun h => h2 h.2.2.1))
        go_enter Tryz.func44, Tryz.ntmps44
        go_wp2
        go_ret
        exact ⟨by rw [HR.out]; first | done | rfl, rfl⟩
    · have d1 : decide (arr ≤ 4611686018427387904) = false := decide_eq_false h1
      have HR := Lib.hid (show rightV arr work done n = false from decide_eq_false (fun h => h1 h.2.1))
      go_enter Tryz.func44, Tryz.ntmps44
      go_wp2
      go_ret
      exact ⟨by rw [HR.out]; first | done | rfl, rfl⟩
  · have d0 : decide (0 ≤ arr) = false := decide_eq_false h0
    have HR := Lib.hid (show rightV arr work done n = false from decide_eq_false (fun h => h0 h.1))
    go_enter Tryz.func44, Tryz.ntmps44
    go_wp2
    go_ret
    exact ⟨by rw [HR.out]; first | done | rfl, rfl⟩
set_option maxRecDepth 100000 in
set_option maxHeartbeats 4000000 in
/-- A job with ops of its own. -/
theorem tapart_any (w : World) (B o : Nat) (t arr work done : Int) (a : Option Addr) (n c lo hi : Nat) (cs : List Value) (b0 : w.cell? ⟨B, o, none⟩ = some (.int .i64 t)) (b1 : w.cell? ⟨B, o + 1, none⟩ = some (.int .i64 arr)) (b2 : w.cell? ⟨B, o + 2, none⟩ = some (.int .i64 work)) (b3 : w.cell? ⟨B, o + 3, none⟩ = some (.int .i64 done)) (b4 : w.cell? ⟨B, o + 4, none⟩ = some (.slice a n c))
    (hl : Lies w lo hi (.slice a n c) n 3 cs) (hone : ∀ u ∈ cs, u.oneCell' = true) (hhi : hi ≤ w.heap.size) (hs : n ≤ 64) :
    Calls Tryz.prog 39 #[.pointer (some ⟨B, o, none⟩)] w fun e w' => ∃ ao cap, e = .returned (.agg #[.int .i64 t, .int .i64 arr, .int .i64 work, .int .i64 done, .slice ao n cap]) ∧ w'.ownsRow (w.heap.size + 2) 60 3 (.slice ao n cap) n cs ∧ Below w.heap.size w w' := by
  obtain ⟨i0, hi0, hz0, hz1, hz2⟩ := info_parts Tryz.infoTOp
  have HI := Lib.hid hi0
  have HL := Lib.hid hl
  have HN := Lib.hid hone
  have hB : B < w.heap.size := by
    rcases Nat.lt_or_ge B w.heap.size with g | g
    · exact g
    · exfalso
      unfold World.cell? at b0
      rw [Array.getElem?_eq_none g] at b0
      cases b0
  obtain ⟨V, hV⟩ : ∃ V, V = (w.alloc (.cells #[.int .i64 0, .int .i64 0, .int .i64 0, .int .i64 0, .slice none 0 0] 40)).alloc (.cells #[.int .i64 t, .int .i64 arr, .int .i64 work, .int .i64 done, .slice a n c] 40) := ⟨_, rfl⟩
  have B0 : Hid (Below w.heap.size w V) := Lib.hid (by rw [hV]; exact b_alloc (below1 _ _) (Nat.le_refl _) _)
  have s1 : Hid (V.heap[w.heap.size]? = some (.cells #[.int .i64 0, .int .i64 0, .int .i64 0, .int .i64 0, .slice none 0 0] 40 (0, 0))) := Lib.hid (by rw [hV]; simp only [heap_at, World.size_alloc]; simp)
  have s2 : Hid (V.heap[w.heap.size + 1]? = some (.cells #[.int .i64 t, .int .i64 arr, .int .i64 work, .int .i64 done, .slice a n c] 40 (0, 0))) := Lib.hid (by rw [hV]; simp only [heap_at, World.size_alloc]; simp)
  have z2 : Hid (V.heap.size = w.heap.size + 2) := Lib.hid (by rw [hV]; simp)
  have y4 : V.cell? ⟨B, o + 4, none⟩ = some (.slice a n c) := by
    unfold World.cell? at b4 ⊢
    rw [B0.out.block B hB]; exact b4
  have HV := Lib.hid hV
  clear hi0 hl hone
  go_enter Tryz.func39, Tryz.ntmps39
  go_upto_region 2 with fail
  rw [← HV.out]
  clear b0 b1 b2 b3 b4 hV
  go_wp2_with (first
    | (refine wpList_append_lie (by rfl) (.const (.slice none 0 0)) (.tmp 10) 38 (by rfl) V.heap.size 60 i0 _ 3 24 Tryz.underlying38 HI.out hz0 hz1 hz2 rfl (by omega) (.slice none 0 0) 0 [] (by rfl) (World.ownsRow_nil _ _ _ _) (.slice a n c) lo hi n cs (by rfl) (HL.out.keep (SameIn.of_below B0.out hhi)) HN.out n (by omega) (by simp [maxLen]; omega) (by omega) (Nat.le_refl _) ?_
       intro ao cap w5 hown hgrow
       have hk : ∀ k, k < V.heap.size → w5.heap[k]? = V.heap[k]? := fun k hk => hgrow.block k hk (by simp [Value.ownBlock])
       have x1 : w5.heap[w.heap.size]? = some (.cells #[.int .i64 0, .int .i64 0, .int .i64 0, .int .i64 0, .slice none 0 0] 40 (0, 0)) := (hk _ (lt_of_block s1.out)).trans s1.out
       have x2 : w5.heap[w.heap.size + 1]? = some (.cells #[.int .i64 t, .int .i64 arr, .int .i64 work, .int .i64 done, .slice a n c] 40 (0, 0)) := (hk _ (lt_of_block s2.out)).trans s2.out
       have X1 := Lib.hid x1
       have X2 := Lib.hid x2
       have B5 : Hid (Below w.heap.size w w5) := Lib.hid (B0.out.grown hgrow B0.out.size (fun k hk => by simp [Value.ownBlock] at hk))
       have O5 := Lib.hid hown
       have r0 := cell_in (j := 0) x1 rfl
       have r1 := cell_in (j := 1) x1 rfl
       have r2 := cell_in (j := 2) x1 rfl
       have r3 := cell_in (j := 3) x1 rfl
       have r4 := cell_in (j := 4) x1 rfl
       have q0 := free_in x1 0
       have q1 := free_in x1 1
       have q2 := free_in x1 2
       have q3 := free_in x1 3
       have q4 := free_in x1 4
       have t0 := cell_in (j := 0) x2 rfl
       have t1 := cell_in (j := 1) x2 rfl
       have t2 := cell_in (j := 2) x2 rfl
       have t3 := cell_in (j := 3) x2 rfl
       have t4 := cell_in (j := 4) x2 rfl
       have u4 := free_in x2 4
       clear x1 x2 hown hgrow hk)
    | fail "no arm")
  have x1 := (Below.heap_setCell w5 ⟨w.heap.size + 1, 4, none⟩ (.slice ao n cap) w.heap.size (by simp)).trans X1.out
  have hX := set5 x1 rfl (.int .i64 t) (.int .i64 arr) (.int .i64 work) (.int .i64 done) (.slice ao n cap)
  refine bodyPost_ret (results_cell_row (P := Tryz.prog) rfl _ _ w.heap.size _ _ (0, 0) _ rfl hX Tryz.underlying40 rfl Tryz.sizeTJob) rfl ?_
  have hb1 : But (w.heap.size + 1) w5 (w5.setCell ⟨w.heap.size + 1, 4, none⟩ (.slice ao n cap)) := (But.refl _ _).set 4 _
  have hb5 : But w.heap.size (w5.setCell ⟨w.heap.size + 1, 4, none⟩ (.slice ao n cap)) ((((((w5.setCell ⟨w.heap.size + 1, 4, none⟩ (.slice ao n cap)).setCell ⟨w.heap.size, 0, none⟩ (.int .i64 t)).setCell ⟨w.heap.size, 1, none⟩ (.int .i64 arr)).setCell ⟨w.heap.size, 2, none⟩ (.int .i64 work)).setCell ⟨w.heap.size, 3, none⟩ (.int .i64 done)).setCell ⟨w.heap.size, 4, none⟩ (.slice ao n cap)) := (((((But.refl _ _).set 0 _).set 1 _).set 2 _).set 3 _).set 4 _
  refine ⟨ao, cap, rfl, ?_, below5 (B5.out.setCell (by show w.heap.size ≤ w.heap.size + 1; omega) _) (Nat.le_refl _) _ _ _ _ _⟩
  have ho := O5.out
  rw [z2.out, List.nil_append] at ho
  have ho2 := owns_hold ho ⟨hb1.size, fun g hg => hb1.block g (owns_own ho g hg).2 (by have := (owns_own ho g hg).1; omega)⟩
  exact owns_hold ho2 ⟨hb5.size, fun g hg => hb5.block g (owns_own ho2 g hg).2 (by have := (owns_own ho2 g hg).1; omega)⟩
end Go.Proofs.YtnenbgdonkgkfaaGreat
