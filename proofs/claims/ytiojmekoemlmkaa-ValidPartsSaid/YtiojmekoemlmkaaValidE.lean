/- The looks at all windows, all partitions, all channels: as they are made, and what they find. -/
import Derived.Test.YtiojmekoemlmkaaValidD
namespace Go.Proofs.Ytiojmekoemlmkaa
open Go.ChangeShapes Go.WideShapes Go.ChangeAt Go.RowKit
set_option linter.unusedVariables false

/-! ### What is told, in lists -/
/-- Where the next window may begin, behind the first k ones. -/
def endW : Int → List Wn → Nat → Int
  | a, _, 0 => a
  | a, [], _ + 1 => a
  | _, x :: l, k + 1 => endW (x.at_ + x.len) l k
def errsW (F : Int) (pn : Nat) : Int → List Wn → List Int
  | _, [] => []
  | a, x :: l => (if okWn F a pn x then 0 else 21) :: errsW F pn (x.at_ + x.len) l
theorem errsW_len {F : Int} {pn : Nat} : ∀ {a : Int} {l : List Wn}, (errsW F pn a l).length = l.length
  | a, [] => rfl
  | a, x :: l => by unfold errsW; rw [List.length_cons, errsW_len, List.length_cons]
theorem errsW_at {F : Int} {pn : Nat} : ∀ {a : Int} {l : List Wn} {k : Nat}, (errsW F pn a l)[k]? = l[k]?.map fun x => if okWn F (endW a l k) pn x then (0 : Int) else 21
  | a, [], k => by simp [errsW]
  | a, x :: l, 0 => rfl
  | a, x :: l, k + 1 => by
    unfold errsW
    rw [List.getElem?_cons_succ, List.getElem?_cons_succ, errsW_at]
    rfl
theorem endW_next : ∀ {a : Int} {l : List Wn} {k : Nat} {x : Wn}, l[k]? = some x → endW a l (k + 1) = x.at_ + x.len
  | a, [], k, x, h => by simp at h
  | a, y :: l, 0, x, h => by simp at h; subst h; cases l <;> rfl
  | a, y :: l, k + 1, x, h => by
    show endW (y.at_ + y.len) l (k + 1) = _
    exact endW_next (by simpa using h)
theorem endW_in {F : Int} {pn : Nat} : ∀ {a : Int} {l : List Wn} {k : Nat}, 0 ≤ a → a ≤ F → (∀ (i : Nat) (x : Int), i < k → (errsW F pn a l)[i]? = some x → x = 0) → 0 ≤ endW a l k ∧ endW a l k ≤ F
  | a, l, 0, h0, h1, _ => by cases l <;> exact ⟨h0, h1⟩
  | a, [], k + 1, h0, h1, _ => ⟨h0, h1⟩
  | a, x :: l, k + 1, h0, h1, h => by
    have h2 := h 0 _ (by omega) rfl
    have hx : okWn F a pn x = true := by
      by_cases g : okWn F a pn x = true
      · exact g
      · rw [if_neg g] at h2; omega
    have hx' : a ≤ x.at_ ∧ x.at_ < F ∧ 1 ≤ x.len ∧ x.len ≤ F - x.at_ ∧ 0 ≤ x.part ∧ x.part < (pn : Int) := of_decide_eq_true hx
    exact endW_in (F := F) (pn := pn) (a := x.at_ + x.len) (l := l) (k := k) (by omega) (by omega) (fun i y hi hy => h (i + 1) y (by omega) (by unfold errsW; simpa using hy))
theorem fst_errsW {F : Int} {pn : Nat} : ∀ {a : Int} {l : List Wn} {i : Nat}, fstV (eachL (errsW F pn a l) i) = match badW F pn a l i with
    | none => (0, 0)
    | some k => (21, (k : Int))
  | a, [], i => rfl
  | a, x :: l, i => by
    unfold errsW eachL fstV badW
    by_cases h : okWn F a pn x = true
    · rw [if_pos h, if_pos rfl, if_pos h]; exact fst_errsW
    · rw [if_neg h, if_neg h]; rfl
def errsP (pn : Nat) : List Pt → Nat → List Int
  | [], _ => []
  | p :: l, i => tellP pn i p :: errsP pn l (i + 1)
theorem errsP_len {pn : Nat} : ∀ {l : List Pt} {i : Nat}, (errsP pn l i).length = l.length
  | [], i => rfl
  | x :: l, i => by unfold errsP; rw [List.length_cons, errsP_len, List.length_cons]
theorem errsP_at {pn : Nat} : ∀ {l : List Pt} {i k : Nat}, (errsP pn l i)[k]? = l[k]?.map fun x => tellP pn (i + k) x
  | [], i, k => by simp [errsP]
  | x :: l, i, 0 => by simp [errsP]
  | x :: l, i, k + 1 => by
    unfold errsP
    rw [List.getElem?_cons_succ, List.getElem?_cons_succ, errsP_at, show i + 1 + k = i + (k + 1) by omega]
theorem fst_errsP {pn : Nat} : ∀ {l : List Pt} {i : Nat}, fstV (eachL (errsP pn l i) i) = match badP pn l i with
    | none => (0, 0)
    | some x => (x.1, (x.2 : Int))
  | [], i => rfl
  | x :: l, i => by
    unfold errsP eachL fstV badP tellP
    by_cases h : okPt pn i x = true
    · rw [if_pos h, if_pos rfl, if_pos h]; exact fst_errsP
    · have h2 : errPt pn i x ≠ 0 := by unfold errPt; split <;> omega
      rw [if_neg h, if_neg h2, if_neg h]
def errsC (pn : Nat) (l : List Ch) : List Int := l.map (tellC pn)
theorem fst_errsC {pn : Nat} : ∀ {l : List Ch} {i : Nat}, fstV (eachL (errsC pn l) i) = match badC pn l i with
    | none => (0, 0)
    | some k => (25, (k : Int))
  | [], i => rfl
  | x :: l, i => by
    unfold errsC
    rw [List.map_cons]
    unfold eachL fstV badC tellC
    by_cases h : okCh pn x = true
    · rw [if_pos h, if_pos rfl, if_pos h]; exact fst_errsC
    · rw [if_neg h, if_neg h]; rfl

/-! ### As they are made -/
def cfgA (fr mg : Int) (wa : Option Addr) (wn wc : Nat) (pa : Option Addr) (pn pc : Nat) (ca : Option Addr) (cn cc : Nat) : Array Value := #[.int .i64 fr, .int .i64 mg, .slice wa wn wc, .slice pa pn pc, .slice ca cn cc]
/-- A look at all windows, its own end at be. -/
def WinAt (w : World) (lo hi be : Nat) (v : Value) (fr mg : Int) (wa : Option Addr) (wn wc : Nat) (pa : Option Addr) (pn pc : Nat) (ca : Option Addr) (cn cc : Nat) : Prop :=
  ∃ bc, (lo ≤ bc ∧ bc < be ∧ be < hi) ∧ EachAt w (be + 1) hi v wn (.func (.func 46) #[] #[.pointer (some ⟨bc, 0, none⟩), .pointer (some ⟨be, 0, none⟩)]) ∧
    w.heap[bc]? = some (.cells #[.int .i64 fr, .int .i64 mg, .slice wa wn wc, .slice pa pn pc, .slice ca cn cc] 36 (0, 0)) ∧ w.heap[be]? = some (.cells #[.int .i64 0] 3 (0, 0))
theorem WinAt.keep {w w' : World} {lo hi be : Nat} {v : Value} {fr mg : Int} {wa : Option Addr} {wn wc : Nat} {pa : Option Addr} {pn pc : Nat} {ca : Option Addr} {cn cc : Nat} (h : WinAt w lo hi be v fr mg wa wn wc pa pn pc ca cn cc) (hs : SameIn w w' lo hi) : WinAt w' lo hi be v fr mg wa wn wc pa pn pc ca cn cc := by
  obtain ⟨bc, ⟨h1, h2, h3⟩, he, hc, hb⟩ := h
  exact ⟨bc, ⟨h1, h2, h3⟩, he.keep (fun b g1 g2 => hs b (by omega) g2), (hs bc h1 (by omega)).trans hc, (hs be (by omega) h3).trans hb⟩
/-- A look at all of parts. -/
def partAt (w : World) (lo hi : Nat) (v : Value) (fr mg : Int) (wa : Option Addr) (wn wc : Nat) (pa : Option Addr) (pn pc : Nat) (ca : Option Addr) (cn cc : Nat) : Prop :=
  ∃ bc, (lo ≤ bc ∧ bc < hi) ∧ EachAt w lo hi v pn (.func (.func 48) #[] #[.pointer (some ⟨bc, 0, none⟩)]) ∧
    w.heap[bc]? = some (.cells #[.int .i64 fr, .int .i64 mg, .slice wa wn wc, .slice pa pn pc, .slice ca cn cc] 36 (0, 0))
theorem partAt.keep {w w' : World} {lo hi : Nat} {v : Value} {fr mg : Int} {wa : Option Addr} {wn wc : Nat} {pa : Option Addr} {pn pc : Nat} {ca : Option Addr} {cn cc : Nat} (h : partAt w lo hi v fr mg wa wn wc pa pn pc ca cn cc) (hs : SameIn w w' lo hi) : partAt w' lo hi v fr mg wa wn wc pa pn pc ca cn cc := by
  obtain ⟨bc, ⟨h1, h2⟩, he, hc⟩ := h
  exact ⟨bc, ⟨h1, h2⟩, he.keep hs, (hs bc h1 h2).trans hc⟩
theorem part_made (fr mg : Int) (wa pa ca : Option Addr) (wn wc pn pc cn cc : Nat) (w : World) :
    Calls Try.prog 25 #[.agg #[.int .i64 fr, .int .i64 mg, .slice wa wn wc, .slice pa pn pc, .slice ca cn cc]] w fun e w' => ∃ v, e = .returned v ∧ partAt w' w.heap.size w'.heap.size v fr mg wa wn wc pa pn pc ca cn cc ∧ Below w.heap.size w w' := by
  go_enter Try.func25, Try.ntmps25
  go_wp2_with (first | (go_at_call 45; refine (each_any _ _ _ _).mono ?_; rintro e w2 ⟨v, rfl, he, hb⟩))
  go_ret
  have hz := hb.size
  simp at hz
  refine ⟨_, rfl, ⟨w.heap.size, ⟨by omega, by omega⟩, he.wider (by simp) (Nat.le_refl _), (hb.block _ (by simp)).trans (heap_alloc_new _ _)⟩, (below1 _ _).trans (hb.mono (by simp))⟩
/-- A look at all of channels. -/
def chanAt (w : World) (lo hi : Nat) (v : Value) (fr mg : Int) (wa : Option Addr) (wn wc : Nat) (pa : Option Addr) (pn pc : Nat) (ca : Option Addr) (cn cc : Nat) : Prop :=
  ∃ bc, (lo ≤ bc ∧ bc < hi) ∧ EachAt w lo hi v cn (.func (.func 51) #[] #[.pointer (some ⟨bc, 0, none⟩)]) ∧
    w.heap[bc]? = some (.cells #[.int .i64 fr, .int .i64 mg, .slice wa wn wc, .slice pa pn pc, .slice ca cn cc] 36 (0, 0))
theorem chanAt.keep {w w' : World} {lo hi : Nat} {v : Value} {fr mg : Int} {wa : Option Addr} {wn wc : Nat} {pa : Option Addr} {pn pc : Nat} {ca : Option Addr} {cn cc : Nat} (h : chanAt w lo hi v fr mg wa wn wc pa pn pc ca cn cc) (hs : SameIn w w' lo hi) : chanAt w' lo hi v fr mg wa wn wc pa pn pc ca cn cc := by
  obtain ⟨bc, ⟨h1, h2⟩, he, hc⟩ := h
  exact ⟨bc, ⟨h1, h2⟩, he.keep hs, (hs bc h1 h2).trans hc⟩
theorem chan_made (fr mg : Int) (wa pa ca : Option Addr) (wn wc pn pc cn cc : Nat) (w : World) :
    Calls Try.prog 26 #[.agg #[.int .i64 fr, .int .i64 mg, .slice wa wn wc, .slice pa pn pc, .slice ca cn cc]] w fun e w' => ∃ v, e = .returned v ∧ chanAt w' w.heap.size w'.heap.size v fr mg wa wn wc pa pn pc ca cn cc ∧ Below w.heap.size w w' := by
  go_enter Try.func26, Try.ntmps26
  go_wp2_with (first | (go_at_call 45; refine (each_any _ _ _ _).mono ?_; rintro e w2 ⟨v, rfl, he, hb⟩))
  go_ret
  have hz := hb.size
  simp at hz
  refine ⟨_, rfl, ⟨w.heap.size, ⟨by omega, by omega⟩, he.wider (by simp) (Nat.le_refl _), (hb.block _ (by simp)).trans (heap_alloc_new _ _)⟩, (below1 _ _).trans (hb.mono (by simp))⟩
set_option maxRecDepth 100000 in
theorem win_made (fr mg : Int) (wa pa ca : Option Addr) (wn wc pn pc cn cc : Nat) (w : World) :
    Calls Try.prog 24 #[.agg #[.int .i64 fr, .int .i64 mg, .slice wa wn wc, .slice pa pn pc, .slice ca cn cc]] w fun e w' => ∃ v be, e = .returned v ∧ WinAt w' w.heap.size w'.heap.size be v fr mg wa wn wc pa pn pc ca cn cc ∧ Below w.heap.size w w' := by
  go_enter Try.func24, Try.ntmps24
  go_wp2_with (first | (go_at_call 45; refine (each_any _ _ _ _).mono ?_; rintro e w2 ⟨v, rfl, he, hb⟩))
  go_ret
  have hz := hb.size
  simp at hz
  refine ⟨_, w.heap.size + 1, rfl, ⟨w.heap.size, ⟨by omega, by omega, by omega⟩, he.wider (by simp) (Nat.le_refl _), (hb.block _ (by simp; omega)).trans ?_, (hb.block _ (by simp)).trans ?_⟩, ?_⟩
  · rw [heap_at, if_neg (by simp)]; exact heap_alloc_new _ _
  · rw [heap_at, if_pos (by simp)]
  · exact (b_alloc (below1 _ _) (Nat.le_refl _) _).trans (hb.mono (by simp; omega))
end Go.Proofs.Ytiojmekoemlmkaa
