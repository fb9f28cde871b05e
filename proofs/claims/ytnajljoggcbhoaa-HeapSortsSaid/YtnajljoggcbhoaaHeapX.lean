/- HeapSorts: what was put is popped by when it is due. -/
import Derived.Test.YtnajljoggcbhoaaHeapK
import Derived.Test.YtnajljoggcbhoaaCells
namespace Go.Proofs.Ytnajljoggcbhoaa
open Go.ChangeShapes Go.WideShapes Go.ChangeAt Go.RowKit
set_option linter.unusedVariables false

/-- The sorted list of what a heap holds. -/
theorem HpD.list {w : World} {lo hi H W X room n : Nat} {D : Nat → Option Int} (h : HpD w lo hi H W X room n D) : ∃ R : List En, Rep R D ∧ R.length = n := by
  obtain ⟨f, x, _, hG, _⟩ := h
  have hlt : ∀ a b, (!(ltOf cmpH) b a) = true ↔ ¬ ltH b a := fun a b => by rw [lt_cmpH]; simp
  have hp : ((rowH n f).mergeSort (fun x y => !(ltOf cmpH) y x)).Perm (rowH n f) := List.mergeSort_perm _ _
  have hs : ((rowH n f).mergeSort (fun x y => !(ltOf cmpH) y x)).Pairwise (fun a b => (!(ltOf cmpH) b a) = true) := List.pairwise_mergeSort (le := fun x y => !(ltOf cmpH) y x)
      (fun a b c h1 h2 => (hlt a c).2 (ltH.le_trans ((hlt a b).1 h1) ((hlt b c).1 h2)))
      (fun a b => by
        rw [Bool.or_eq_true, hlt, hlt]
        by_cases hc : ltH b a
        · exact .inr hc.asymm
        · exact .inl hc) _
  refine ⟨(rowH n f).mergeSort (fun x y => !(ltOf cmpH) y x), ⟨?_, fun id d => ?_⟩, ?_⟩
  · have hnd : ((rowH n f).mergeSort (fun x y => !(ltOf cmpH) y x)).Pairwise (fun a b => a ≠ b) := (hp.nodup_iff).2 (row_nodup hG)
    refine (hs.and hnd).imp fun {a b} hab => ?_
    have h1 := (hlt a b).1 hab.1
    rcases Decidable.em (ltH a b) with h2 | h2
    · exact h2
    · exact absurd (eq_of_not h2 h1) hab.2
  · rw [hp.mem_iff]; exact mem_row hG id d
  · rw [hp.length_eq]; simp [rowH]
/-- Which of n numbers are in, and when they are due. -/
def Dm (g : Nat → Int) (met : Nat → Bool) (n : Nat) : Nat → Option Int := fun j => if j < n ∧ met j = false then some (g j) else none
theorem Dm_zero (g : Nat → Int) : Dm g (fun _ => false) 0 = fun _ => none := by funext j; simp [Dm]
theorem Dm_put (g : Nat → Int) (i : Nat) : upd (Dm g (fun _ => false) i) i (some (g i)) = Dm g (fun _ => false) (i + 1) := by
  funext j
  by_cases h : j = i
  · subst h; rw [upd_at]; simp [Dm]
  · rw [upd_ne _ _ h]
    simp only [Dm, and_true]
    by_cases h1 : j < i
    · rw [if_pos h1, if_pos (by omega)]
    · rw [if_neg h1, if_neg (by omega)]
theorem Dm_change (g : Nat → Int) (k n : Nat) (hk : k < n) (c : Int) : upd (Dm g (fun _ => false) n) k (some c) = Dm (upd g k c) (fun _ => false) n := by
  funext j
  by_cases h : j = k
  · subst h; rw [upd_at]; simp [Dm, hk, upd_at]
  · rw [upd_ne _ _ h]; simp only [Dm, upd_ne _ _ h]
theorem Dm_meet (g : Nat → Int) (met : Nat → Bool) (n k : Nat) : upd (Dm g met n) k none = Dm g (fun j => if j = k then true else met j) n := by
  funext j
  by_cases h : j = k
  · subst h; rw [upd_at]; simp [Dm]
  · rw [upd_ne _ _ h]; simp [Dm, h]
theorem Dm_some {g : Nat → Int} {met : Nat → Bool} {n k : Nat} {d : Int} (h : Dm g met n k = some d) : k < n ∧ met k = false ∧ g k = d := by
  unfold Dm at h
  split at h
  · rename_i hk; exact ⟨hk.1, hk.2, Option.some.inj h⟩
  · cases h
/-- A row of ints, made by append. -/
def NowAt (Y : World) (B : Nat) (ao : Option Addr) (n : Nat) (g : Nat → Int) : Prop := n = 0 ∨ ∃ G, ao = some ⟨G, 0, none⟩ ∧ B ≤ G ∧ ∃ cur, Y.heap[G]? = some (.cells cur 3 (0, 0)) ∧ n ≤ cur.size ∧ ∀ i, i < n → cur[i]? = some (.int .i64 (g i))
theorem NowAt.keep {Y Y' : World} {B : Nat} {ao : Option Addr} {n : Nat} {g : Nat → Int} (h : NowAt Y B ao n g) (hs : SameIn Y Y' B Y.heap.size) : NowAt Y' B ao n g := by
  rcases h with h | ⟨G, h1, h2, cur, h3, h4⟩
  · exact .inl h
  · exact .inr ⟨G, h1, h2, cur, (hs G h2 (lt_of_block h3)).trans h3, h4⟩
theorem NowAt.of_owns {Y : World} {B : Nat} {ao : Option Addr} {cap n : Nat} {l : List Int} (h : Y.ownsRow B 3 1 (.slice ao n cap) n (l.flatMap intCells)) (hn : n = l.length) : NowAt Y B ao n (fun j => l.getD j 0) := by
  rcases h.2 with ⟨_, h2⟩ | ⟨G, cap', cur, hv, hb, hg, h1, h2, h3, h4⟩
  · exact .inl h2
  · cases hv
    refine .inr ⟨G, rfl, hb, cur, hg, by omega, fun i hi => ?_⟩
    have hx : l[i]? = some l[i] := List.getElem?_eq_getElem (by omega)
    have a0 := flat_at intCells 1 (fun _ => rfl) l i 0 _ hx (by omega)
    rw [← h4, List.getElem?_take_of_lt (by omega)] at a0
    rw [show i * 1 + 0 = i by omega] at a0
    show cur[i]? = some (.int .i64 (l.getD i 0))
    rw [List.getD_eq_getElem?_getD, hx]
    simpa [intCells] using a0
theorem rem12 (n : Int) (N : Nat) (h1 : 1 ≤ N) (h2 : N ≤ 200) : ∃ k : Nat, k < N ∧ ((wrap64 (n.tmod N + N)).tmod N = k) := by
  have a := Int.tmod_lt_of_pos n (show (0 : Int) < N by omega)
  have b := Int.lt_tmod_of_pos n (show (0 : Int) < N by omega)
  have hp : 0 ≤ n.tmod N + N := by omega
  rw [IntWalk.wrap64_in (n.tmod N + N) ⟨by omega, by omega⟩]
  refine ⟨((n.tmod N + N).tmod N).toNat, ?_, ?_⟩
  · have := Int.tmod_lt_of_pos (n.tmod N + N) (show (0 : Int) < N by omega)
    have := Int.tmod_nonneg N hp
    omega
  · have := Int.tmod_nonneg N hp
    omega
theorem ints_read {w : World} {a : Option Addr} {n c : Nat} {l : List Int} (hn : l.length = n) (hl : Lies w 0 w.heap.size (.slice a n c) n 1 (l.flatMap intCells)) : ∀ Y, Below w.heap.size w Y → ∀ i, i < n → ∃ b off x, a = some ⟨b, off, none⟩ ∧ l[i]? = some x ∧ Y.cell? ⟨b, off + i, none⟩ = some (.int .i64 x) ∧ b < w.heap.size := by
  intro Y hY i hi
  obtain ⟨a', c', e, _, _, hc⟩ := hl.keep (SameIn.of_below hY (Nat.le_refl _))
  cases e
  rcases hc with h0 | ⟨b, off, rfl, _, hb, hc⟩
  · omega
  · have hx : l[i]? = some l[i] := List.getElem?_eq_getElem (by omega)
    have a0 := flat_at intCells 1 (fun _ => rfl) l i 0 _ hx (by omega)
    have := hc _ _ a0
    rw [show i * 1 + 0 = i by omega] at this
    exact ⟨b, off, _, rfl, hx, this, hb⟩
set_option maxRecDepth 100000 in
set_option maxHeartbeats 4000000 in
theorem HeapSorts_big (a0 : Option Addr) (n0 c0 : Nat) (a1 : Option Addr) (n1 c1 : Nat) (w : World) (h : 200 < n0 ∨ 200 < n1) :
    Calls Try.prog 4 #[.slice a0 n0 c0, .slice a1 n1 c1] w fun e w' => e = .returned (.bool true) ∧ Below w.heap.size w w' := by
  have HK := Lib.hid (knows12_any w)
  by_cases h0 : 200 < n0
  · have t0 : decide ((200 : Int) < (n0 : Int)) = true := decide_eq_true (by omega)
    clear h
    go_enter Try.func4, Try.ntmps4
    go_wp2_with (go_at_call 6; refine HK.out.mono ?_; rintro e w3 ⟨rfl, hb3⟩)
    go_ret
    exact ⟨rfl, hb3⟩
  · have t0 : decide ((200 : Int) < (n0 : Int)) = false := decide_eq_false (by omega)
    have t1 : decide ((200 : Int) < (n1 : Int)) = true := decide_eq_true (by omega)
    clear h
    go_enter Try.func4, Try.ntmps4
    go_wp2_with (go_at_call 6; refine HK.out.mono ?_; rintro e w3 ⟨rfl, hb3⟩)
    go_ret
    exact ⟨rfl, hb3⟩
end Go.Proofs.Ytnajljoggcbhoaa
