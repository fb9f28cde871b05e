/- Who gets a tick: the program's calls. -/
import Derived.Test.YtmkohnpdpcefgaaGschN
import Derived.Test.YtmkohnpdpcefgaaValidL
import Derived.Test.YtmkohnpdpcefgaaReadAct14
import Derived.BigQuiet
namespace Go.Proofs.Ytmkohnpdpcefgaa
open Go.ChangeShapes Go.WideShapes Go.ChangeAt Go.RowKit
set_option linter.unusedVariables false

/-- Who is ready, in memory: a bool's cell. -/
theorem rdy_cell {w : World} {lo hi : Nat} {ra : Option Addr} {rn rc : Nat} {rs : List Bool} (hn : rs.length = rn) (hl : Lies w lo hi (.slice ra rn rc) rn 1 (rs.flatMap boolCells)) {k : Nat} (hk : k < rn) :
    ∃ b off, ra = some ⟨b, off, none⟩ ∧ (lo ≤ b ∧ b < hi) ∧ w.cell? ⟨b, off + k, none⟩ = some (.bool (rdyV rs (k : Int))) := by
  obtain ⟨a2, c2, ee, _, _, hc⟩ := hl
  cases ee
  rcases hc with h0 | ⟨b, off, rfl, h1, h2, hc⟩
  · omega
  · have hx : rs[k]? = some (rs[k]'(by omega)) := List.getElem?_eq_getElem (by omega)
    have e := flat_at boolCells 1 (fun _ => rfl) rs k 0 _ hx (by omega)
    simp only [Nat.mul_one, Nat.add_zero] at e
    exact ⟨b, off, rfl, ⟨h1, h2⟩, by rw [rdyV_at hx]; exact hc k _ (by rw [e]; rfl)⟩
set_option maxRecDepth 100000 in
set_option maxHeartbeats 4000000 in
theorem gready_any (k : Nat) (ra : Option Addr) (rn rc : Nat) (w : World) (lo hi : Nat) (rs : List Bool) (hn : rs.length = rn) (hl : Lies w lo hi (.slice ra rn rc) rn 1 (rs.flatMap boolCells)) :
    Calls Try.prog 42 #[.int .i64 k, .slice ra rn rc] w fun e w' => e = .returned (.bool (rdyV rs (k : Int))) ∧ Below w.heap.size w w' := by
  by_cases hk : k < rn
  · obtain ⟨b, off, rfl, _, hc⟩ := rdy_cell hn hl hk
    obtain ⟨r, hr⟩ : ∃ r, r = rdyV rs (k : Int) := ⟨_, rfl⟩
    rw [← hr] at hc ⊢
    have t0 : decide ((k : Int) < (rn : Int)) = true := decide_eq_true (by omega)
    have l0 : (0 : Int) ≤ (k : Int) := by omega
    have l1 : (k : Int) < (rn : Int) := by omega
    clear hr hl hn
    go_enter Try.func42, Try.ntmps42
    go_wp2
    go_ret
    exact ⟨rfl, Below.refl _ _⟩
  · have t0 : decide ((k : Int) < (rn : Int)) = false := decide_eq_false (by omega)
    rw [rdyV_out (by omega)]
    clear hl hn
    go_enter Try.func42, Try.ntmps42
    go_wp2
    go_ret
    exact ⟨rfl, Below.refl _ _⟩
/-- Of a system, in memory. -/
def ScAt (w : World) (B s F : Nat) (c : Cf) : Prop :=
  ∃ g t la lc, B ≤ s ∧ w.heap[s]? = some (.cells #[.pointer (some ⟨g, 0, none⟩)] 62 (0, 0)) ∧ SyAt w B g t (c.ps.map (·.ds)) ∧ Tab w B w.heap.size t F c.margin la c.ws.length lc c.ws
theorem ScAt.later {w w' : World} {B s F : Nat} {c : Cf} (h : ScAt w B s F c) (hb : Below w.heap.size w w') : ScAt w' B s F c :=
  let ⟨g, t, la, lc, h1, h2, h3, h4⟩ := h
  ⟨g, t, la, lc, h1, (hb.block s (lt_of_block h2)).trans h2, h3.later hb, (h4.keep hb (Nat.le_refl _)).wider (Nat.le_refl _) hb.size⟩
set_option maxRecDepth 100000 in
theorem gmade_any (s g : Nat) (w : World) (hc : w.cell? ⟨s, 0, none⟩ = some (.pointer (some ⟨g, 0, none⟩))) :
    Calls Try.prog 23 #[.pointer (some ⟨s, 0, none⟩)] w fun e w' => e = .returned (.bool true) ∧ Below w.heap.size w w' := by
  go_enter Try.func23, Try.ntmps23
  go_wp2
  go_ret
  exact ⟨rfl, Below.refl _ _⟩
set_option maxRecDepth 100000 in
theorem gmade_none (w : World) : Calls Try.prog 23 #[.pointer none] w fun e w' => e = .returned (.bool false) ∧ Below w.heap.size w w' := by
  go_enter Try.func23, Try.ntmps23
  go_wp2
  go_ret
  exact ⟨rfl, Below.refl _ _⟩
set_option maxRecDepth 100000 in
theorem gmade_zero (s : Nat) (w : World) (hc : w.cell? ⟨s, 0, none⟩ = some (.pointer none)) :
    Calls Try.prog 23 #[.pointer (some ⟨s, 0, none⟩)] w fun e w' => e = .returned (.bool false) ∧ Below w.heap.size w w' := by
  go_enter Try.func23, Try.ntmps23
  go_wp2
  go_ret
  exact ⟨rfl, Below.refl _ _⟩
set_option maxRecDepth 100000 in
theorem ghas_any (g : Nat) (n : Nat) (da : Option Addr) (dc : Nat) (p : Int) (w : World) (hc : w.cell? ⟨g, 1, none⟩ = some (.slice da n dc)) :
    Calls Try.prog 24 #[.pointer (some ⟨g, 0, none⟩), .int .i64 p] w fun e w' => e = .returned (.bool (decide (0 ≤ p ∧ p < (n : Int)))) ∧ Below w.heap.size w w' := by
  by_cases h0 : 0 ≤ p
  · by_cases h1 : p < (n : Int)
    · have t1 : decide (p < (n : Int)) = true := decide_eq_true h1
      have t0 : decide (0 ≤ p) = true := decide_eq_true h0
      rw [decide_eq_true (And.intro h0 h1)]
      go_enter Try.func24, Try.ntmps24
      go_wp2
      go_ret
      exact ⟨rfl, Below.refl _ _⟩
    · have t1 : decide (p < (n : Int)) = false := decide_eq_false h1
      have t0 : decide (0 ≤ p) = true := decide_eq_true h0
      rw [decide_eq_false (fun h => h1 h.2)]
      go_enter Try.func24, Try.ntmps24
      go_wp2
      go_ret
      exact ⟨rfl, Below.refl _ _⟩
  · have t0 : decide (0 ≤ p) = false := decide_eq_false h0
    rw [decide_eq_false (fun h => h0 h.1)]
    go_enter Try.func24, Try.ntmps24
    go_wp2
    go_ret
    exact ⟨rfl, Below.refl _ _⟩
end Go.Proofs.Ytmkohnpdpcefgaa
