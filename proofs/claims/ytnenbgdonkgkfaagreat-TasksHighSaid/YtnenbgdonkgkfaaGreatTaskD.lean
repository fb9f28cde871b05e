/- Lists and jobs that are the same; high mode's jobs. -/
import Derived.Test.YtnenbgdonkgkfaaGreatTaskRr
import Derived.Test.YtnenbgdonkgkfaaGreatTaskJ
namespace Go.Proofs.YtnenbgdonkgkfaaGreat
open Go.ChangeShapes Go.WideShapes Go.ChangeAt Go.RowKit
set_option linter.unusedVariables false

theorem ints_cells {w : World} {lo hi : Nat} {a : Option Addr} {n c : Nat} {l : List Int} (hn : l.length = n) (hl : Lies w lo hi (.slice a n c) n 1 (l.flatMap intCells)) : ∀ i (hi' : i < n), ∃ b off, a = some ⟨b, off, none⟩ ∧ w.cell? ⟨b, off + i, none⟩ = some (.int .i64 (l.getD i 0)) := by
  intro i hi'
  have hil : i < l.length := by omega
  obtain ⟨a', c', e, _, _, hc⟩ := hl
  cases e
  rcases hc with h0 | ⟨b, off, rfl, _, _, hc⟩
  · omega
  · have hx : l[i]? = some (l.getD i 0) := by rw [List.getD_eq_getElem?_getD, List.getElem?_eq_getElem hil]; rfl
    have := hc _ _ (flat_at intCells 1 (fun _ => rfl) l i 0 _ hx (by omega))
    exact ⟨b, off, rfl, by simpa using this⟩
set_option maxRecDepth 100000 in
set_option maxHeartbeats 8000000 in
theorem ints_any (w : World) (a a' : Option Addr) (n c c' lo hi lo' hi' : Nat) (l : List Int) (hn : l.length = n) (hl : Lies w lo hi (.slice a n c) n 1 (l.flatMap intCells)) (hl' : Lies w lo' hi' (.slice a' n c') n 1 (l.flatMap intCells)) (hs : n ≤ 100) :
    Calls Tryz.prog 29 #[.slice a n c, .slice a' n c'] w fun e w' => e = .returned (.bool true) ∧ Below w.heap.size w w' := by
  have KA := Lib.hid (ints_cells hn hl)
  have KB := Lib.hid (ints_cells hn hl')
  have f0 : ((n : Int) != (n : Int)) = false := by simp
  clear hn hl hl'
  go_enter Tryz.func29, Tryz.ntmps29
  go_wp2_with fail
  go_loopw [5] (fun s wr => ∃ k : Nat, k ≤ n ∧ s = .int .i64 k ∧ Hid (∃ d, wr = w.drewN d)) (fun s _ => n - (intOf s).toNat)
  case atStart => exact ⟨0, Nat.zero_le _, rfl, Lib.hid ⟨0, rfl⟩⟩
  case round =>
    obtain ⟨k, hk, rfl, HB⟩ := hrel
    by_cases hlt : k < n
    · have d0 : decide ((k : Int) < (n : Int)) = true := decide_eq_true (by omega)
      have d1 : (0 : Int) ≤ (k : Int) := by omega
      have d2 : (k : Int) < (n : Int) := by omega
      obtain ⟨b, off, rfl, x0⟩ := KA.out k hlt
      obtain ⟨b', off', rfl, x1⟩ := KB.out k hlt
      obtain ⟨x, hx⟩ : ∃ x, x = l.getD k 0 := ⟨_, rfl⟩
      rw [← hx] at x0 x1
      have f1 : (x != x) = false := by simp
      obtain ⟨d, hd⟩ := HB.out
      have z0 : wr.cell? ⟨b, off + k, none⟩ = some (.int .i64 x) := by rw [hd]; simpa using x0
      have z1 : wr.cell? ⟨b', off' + k, none⟩ = some (.int .i64 x) := by rw [hd]; simpa using x1
      clear hx hd x0 x1
      go_wp2_with fail
      go_quiet (fail)
      go_wp2_with fail
      go_roundw
      case rel => exact ⟨k + 1, by omega, by go_num, Lib.hid (by obtain ⟨d, hd⟩ := HB.out; exact ⟨d + nq, by rw [hd, World.drewN_drewN]⟩)⟩
      case measure => simp [intOf]; omega
    · have d0 : decide ((k : Int) < (n : Int)) = false := decide_eq_false (by omega)
      go_wp2_with fail
      go_ret
      obtain ⟨d, hd⟩ := HB.out
      exact ⟨rfl, by rw [hd]; exact below_drewR _ (Below.refl _ _)⟩
set_option maxRecDepth 100000 in
set_option maxHeartbeats 8000000 in
theorem same19_any (w : World) (t arr work done : Int) (a a' : Option Addr) (n c c' lo hi lo' hi' : Nat) (l : List Wn) (hn : l.length = n) (hl : Lies w lo hi (.slice a n c) n 3 (l.flatMap Wn.cells)) (hh : hi ≤ w.heap.size) (hl' : Lies w lo' hi' (.slice a' n c') n 3 (l.flatMap Wn.cells)) (hh' : hi' ≤ w.heap.size) (hs : n ≤ 100) :
    Calls Tryz.prog 14 #[.agg #[.int .i64 t, .int .i64 arr, .int .i64 work, .int .i64 done, .slice a n c], .agg #[.int .i64 t, .int .i64 arr, .int .i64 work, .int .i64 done, .slice a' n c']] w fun e w' => e = .returned (.bool true) ∧ Below w.heap.size w w' := by
  have KA := Lib.hid (ops_read hn hl)
  have KB := Lib.hid (ops_read hn hl')
  obtain ⟨V, hV⟩ : ∃ V, V = (w.alloc (.cells #[.int .i64 t, .int .i64 arr, .int .i64 work, .int .i64 done, .slice a n c] 33)).alloc (.cells #[.int .i64 t, .int .i64 arr, .int .i64 work, .int .i64 done, .slice a' n c'] 33) := ⟨_, rfl⟩
  obtain ⟨E, hE⟩ : ∃ E, E = w.heap.size := ⟨_, rfl⟩
  have hbV : Below w.heap.size w V := by rw [hV]; exact b_alloc (below1 _ _) (Nat.le_refl _) _
  have h0 : V.heap[E]? = some (.cells #[.int .i64 t, .int .i64 arr, .int .i64 work, .int .i64 done, .slice a n c] 33 (0, 0)) := by rw [hV, hE]; simp only [heap_at, World.size_alloc]; simp
  have h1 : V.heap[E + 1]? = some (.cells #[.int .i64 t, .int .i64 arr, .int .i64 work, .int .i64 done, .slice a' n c'] 33 (0, 0)) := by rw [hV, hE]; simp only [heap_at, World.size_alloc]; simp
  have KS : Hid (∀ d, (V.drewN d).cell? ⟨E, 4, none⟩ = some (.slice a n c) ∧ (V.drewN d).cell? ⟨E + 1, 4, none⟩ = some (.slice a' n c')) := Lib.hid (fun d => ⟨cell_in h0 rfl, cell_in h1 rfl⟩)
  have HBV := Lib.hid hbV
  have HV := Lib.hid hV
  have HE := Lib.hid hE
  have c0 : V.cell? ⟨E, 0, none⟩ = some (.int .i64 t) := cell_in h0 rfl
  have c1 : V.cell? ⟨E, 1, none⟩ = some (.int .i64 arr) := cell_in h0 rfl
  have c2 : V.cell? ⟨E, 2, none⟩ = some (.int .i64 work) := cell_in h0 rfl
  have c3 : V.cell? ⟨E, 3, none⟩ = some (.int .i64 done) := cell_in h0 rfl
  have c4 : V.cell? ⟨E, 4, none⟩ = some (.slice a n c) := cell_in h0 rfl
  have b0 : V.cell? ⟨E + 1, 0, none⟩ = some (.int .i64 t) := cell_in h1 rfl
  have b1 : V.cell? ⟨E + 1, 1, none⟩ = some (.int .i64 arr) := cell_in h1 rfl
  have b2 : V.cell? ⟨E + 1, 2, none⟩ = some (.int .i64 work) := cell_in h1 rfl
  have b3 : V.cell? ⟨E + 1, 3, none⟩ = some (.int .i64 done) := cell_in h1 rfl
  have b4 : V.cell? ⟨E + 1, 4, none⟩ = some (.slice a' n c') := cell_in h1 rfl
  have hM : Tryz.prog.eqGuardType Tryz.prog.depth 70 = false := by kernel_rfl
  clear hn hl hl' hV hE hbV h0 h1
  go_enter Tryz.func14, Tryz.ntmps14
  go_upto_region 1 with fail
  rw [← HV.out, ← HE.out]
  go_wp2_with fail
  go_loopw [5] (fun s wr => ∃ k : Nat, k ≤ n ∧ s = .int .i64 k ∧ Hid (∃ d, wr = V.drewN d)) (fun s _ => n - (intOf s).toNat)
  case atStart => exact ⟨0, Nat.zero_le _, rfl, Lib.hid ⟨0, rfl⟩⟩
  case round =>
    clear c0 c1 c2 c3 c4 b0 b1 b2 b3 b4
    obtain ⟨k, hk, rfl, HB⟩ := hrel
    have y4 : wr.cell? ⟨E, 4, none⟩ = some (.slice a n c) := by obtain ⟨d, hd⟩ := HB.out; rw [hd]; exact (KS.out d).1
    have y5 : wr.cell? ⟨E + 1, 4, none⟩ = some (.slice a' n c') := by obtain ⟨d, hd⟩ := HB.out; rw [hd]; exact (KS.out d).2
    by_cases hlt : k < n
    · have d0 : decide ((k : Int) < (n : Int)) = true := decide_eq_true (by omega)
      have d1 : (0 : Int) ≤ (k : Int) := by omega
      have d2 : (k : Int) < (n : Int) := by omega
      obtain ⟨b, off, x0, x1, x2, rfl, _, hb, hx, hc⟩ := KA.out k hlt
      obtain ⟨b', off', z0, z1, z2, rfl, _, hb', hz, hc'⟩ := KB.out k hlt
      rw [hx] at hz
      cases hz
      have hk1 : wr.heap[b]? = w.heap[b]? := by obtain ⟨d, hd⟩ := HB.out; rw [hd]; exact HBV.out.block b (by omega)
      have hk2 : wr.heap[b']? = w.heap[b']? := by obtain ⟨d, hd⟩ := HB.out; rw [hd]; exact HBV.out.block b' (by omega)
      obtain ⟨u0, u1, u2⟩ := hc wr hk1
      obtain ⟨v0, v1, v2⟩ := hc' wr hk2
      have hEq := eqInROp x0 x1 x2
      clear hb hx hc hb' hc' hk1 hk2
      go_wp2_with fail
      go_quiet (fail)
      go_wp2_with fail
      go_roundw
      case rel => exact ⟨k + 1, by omega, by go_num, Lib.hid (by obtain ⟨d, hd⟩ := HB.out; exact ⟨d + nq, by rw [hd, World.drewN_drewN]⟩)⟩
      case measure => simp [intOf]; omega
    · have d0 : decide ((k : Int) < (n : Int)) = false := decide_eq_false (by omega)
      go_wp2_with fail
      go_ret
      obtain ⟨d, hd⟩ := HB.out
      exact ⟨rfl, by rw [hd]; exact below_drewR _ HBV.out⟩
/-- In high mode all jobs are of high tasks. -/
def HiOk (ts : List Tk) (hm : Bool) (js : Js) : Prop := hm = true → ∀ k j, js k = some j → (tkAt ts k).hi = true
theorem HiOk.put {ts : List Tk} {hm : Bool} {js : Js} (h : HiOk ts hm js) (t arr work done : Int) (ops : List Wn) : HiOk ts hm (putT ts hm js t arr work done ops) := by
  intro e k j hj
  by_cases he : errT ts hm js t arr work done ops.length = 0
  · rw [put_yes he] at hj
    by_cases c : k = t.toNat
    · subst c
      have := (err_zero he).2.2
      cases hh : (tkAt ts t.toNat).hi with
      | true => rfl
      | false => exact absurd ⟨e, hh⟩ this
    · rw [upd_ne _ _ c] at hj; exact h e k j hj
  · rw [put_no he] at hj; exact h e k j hj
theorem HiOk.run {ts : List Tk} {hm : Bool} {js : Js} (h : HiOk ts hm js) (t : Int) : HiOk ts hm (runT ts hm js t) := by
  intro e k j hj
  cases ht : thereT ts js t with
  | false => rw [(there_no (hi := hm) ht).2.2] at hj; exact h e k j hj
  | true =>
    obtain ⟨q, x, rfl, hq, hx⟩ := there_nat ht
    rw [run_yes hq hx] at hj
    by_cases c : k = q
    · subst c; exact h e k x hx
    · split at hj
      · rw [upd_ne _ _ c] at hj; exact h e k j hj
      · rw [upd_ne _ _ c] at hj; exact h e k j hj
theorem HiOk.rise {ts : List Tk} {js : Js} (ho : JsOk ts js) : HiOk ts true (riseT ts js) := by
  intro _ k j hj
  obtain ⟨h1, h2⟩ := rem_sub hj
  have := h2 (ho.lt h1)
  unfold lowP at this
  simpa using this
theorem HiOk.fall {ts : List Tk} {hm : Bool} {js : Js} (h : HiOk ts hm js) : HiOk ts (falH ts hm js) js := by
  intro e k j hj
  unfold falH at e
  rw [Bool.and_eq_true] at e
  exact h e.1 k j hj
theorem HiOk.miss {ts : List Tk} {hm : Bool} {js : Js} (h : HiOk ts hm js) (now : Int) : HiOk ts hm (misT ts js now) := fun e k j hj => h e k j (rem_sub hj).1
end Go.Proofs.YtnenbgdonkgkfaaGreat
