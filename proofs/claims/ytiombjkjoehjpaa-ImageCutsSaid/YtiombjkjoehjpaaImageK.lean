/- A reader of systems in memory: truth, magic, fields. -/
import Derived.Test.YtiombjkjoehjpaaImageJ
namespace Go.Proofs.Ytiombjkjoehjpaa
open Go.ChangeShapes Go.WideShapes Go.ChangeAt Go.RowKit
set_option linter.unusedVariables false

theorem RdS.c0 {w : World} {X Y : Nat} {s : Option (List Int)} (h : RdS w X Y s) : w.cell? ⟨Y, 0, none⟩ = some (.pointer (some ⟨X, 0, none⟩)) := by
  obtain ⟨e, wr, l, h1, _⟩ := h; exact cell_in h1 rfl
theorem RdS.c1 {w : World} {X Y : Nat} {s : Option (List Int)} (h : RdS w X Y s) : ∃ wr, w.cell? ⟨Y, 1, none⟩ = some (.bool wr) := by
  obtain ⟨e, wr, l, h1, _⟩ := h; exact ⟨wr, cell_in h1 rfl⟩
theorem RdS.f1 {w : World} {X Y : Nat} {s : Option (List Int)} (h : RdS w X Y s) : w.frozen? ⟨Y, 1, none⟩ = false := by
  obtain ⟨e, wr, l, h1, _⟩ := h; exact free_in h1 1
set_option maxRecDepth 100000 in
theorem gTruth_any (X Y : Nat) (w : World) (s : Option (List Int)) (h : RdS w X Y s) :
    Calls Try.prog 79 #[.pointer (some ⟨Y, 0, none⟩)] w fun r w' => ∃ b s', r = .returned (.bool b) ∧ RdS w' X Y s' ∧ Got s rdFlag b s' ∧ ButL [X, Y] w w' := by
  have c0 := h.c0
  have HR := Lib.hid h
  clear h
  go_enter Try.func79, Try.ntmps79
  go_wp2_with (first
    | (go_at_call 72
       refine (gGet_any X Y w s 1 HR.out (by omega) (by omega)).mono ?_
       rintro e w1 ⟨n, s1, rfl, b0, b1, hr1, hg1, hb1⟩
       obtain ⟨wv, kc⟩ := hr1.c1
       have kf := hr1.f1
       have HR1 := Lib.hid hr1
       have HG1 := Lib.hid hg1
       have HB1 := Lib.hid hb1
       clear hr1 hg1 hb1))
  all_goals
    go_ret
    first
      | exact ⟨_, _, rfl, HR1.out.wrong, HG1.out.flag_no (by simp_all; omega) (by simp_all; omega) _, HB1.out.set (by simp) 1 _⟩
      | exact ⟨_, _, rfl, HR1.out, HG1.out.flag (by simp_all; omega), HB1.out⟩
set_option maxRecDepth 100000 in
theorem gMagic_any (X Y : Nat) (w : World) (s : Option (List Int)) (h : RdS w X Y s) :
    Calls Try.prog 49 #[.pointer (some ⟨Y, 0, none⟩)] w fun r w' => ∃ s', r = .returned (.tuple #[]) ∧ RdS w' X Y s' ∧ Got s rdMagic () s' ∧ ButL [X, Y] w w' := by
  have c0 := h.c0
  have HR := Lib.hid h
  clear h
  go_enter Try.func49, Try.ntmps49
  go_wp2_with (first
    | (go_at_call 72
       refine (gGet_any X Y w s 4 HR.out (by omega) (by omega)).mono ?_
       rintro e w1 ⟨n, s1, rfl, b0, b1, hr1, hg1, hb1⟩
       obtain ⟨wv, kc⟩ := hr1.c1
       have kf := hr1.f1
       have HR1 := Lib.hid hr1
       have HG1 := Lib.hid hg1
       have HB1 := Lib.hid hb1
       clear hr1 hg1 hb1))
  all_goals
    (first | go_end0 | refine bodyPost_ret (results_none rfl _ _ _) rfl ?_)
    first
      | exact ⟨_, rfl, HR1.out.wrong, HG1.out.magic_no (by simp_all [magicV]), HB1.out.set (by simp) 1 _⟩
      | exact ⟨_, rfl, HR1.out, HG1.out.magic (by simp_all [magicV]), HB1.out⟩
/-- Numbers read one after the other, all of one size. -/
def Gots : Option (List Int) → Nat → List Int → Option (List Int) → Prop
  | s, _, [], s' => s' = s
  | s, z, x :: xs, s' => ∃ s1, Got s (rdN z) x s1 ∧ Gots s1 z xs s'
theorem Gots.snoc {z : Nat} {x : Int} {s1 s2 : Option (List Int)} (k : Got s1 (rdN z) x s2) : ∀ {xs : List Int} {s : Option (List Int)}, Gots s z xs s1 → Gots s z (xs ++ [x]) s2
  | [], s, h => by
    have h' : s1 = s := h
    subst h'
    exact ⟨s2, k, rfl⟩
  | y :: xs, s, ⟨s3, h1, h2⟩ => ⟨s3, h1, Gots.snoc k h2⟩
/-- Cells from one on, set. -/
def setFrom (cs : Array Value) (j : Nat) : List Int → Array Value
  | [] => cs
  | x :: xs => setFrom (cs.setIfInBounds j (.int .i64 x)) (j + 1) xs
theorem setFrom_size : ∀ (xs : List Int) (cs : Array Value) (j : Nat), (setFrom cs j xs).size = cs.size
  | [], _, _ => rfl
  | x :: xs, cs, j => by rw [setFrom, setFrom_size xs]; simp
theorem setFrom_snoc (x : Int) : ∀ (xs : List Int) (cs : Array Value) (j : Nat), setFrom cs j (xs ++ [x]) = (setFrom cs j xs).setIfInBounds (j + xs.length) (.int .i64 x)
  | [], _, _ => rfl
  | y :: xs, cs, j => by
    rw [List.cons_append, setFrom, setFrom, setFrom_snoc x xs, List.length_cons]
    congr 1
    omega
def ptrs (B j0 m : Nat) : List Value := (List.range m).map fun i => .pointer (some ⟨B, j0 + i, none⟩)
theorem ptrs_at {B j0 m k : Nat} (h : k < m) : (ptrs B j0 m)[k]? = some (.pointer (some ⟨B, j0 + k, none⟩)) := by simp [ptrs, h]
set_option maxRecDepth 100000 in
set_option maxHeartbeats 2000000 in
theorem gFields_any (X Y R B z m j0 : Nat) (w : World) (s : Option (List Int)) {cr cs : Array Value} {tr T : TypeId} (h : RdS w X Y s) (s1 : 1 ≤ z) (s7 : z ≤ 7) (hm : m ≤ 100)
    (hR : w.heap[R]? = some (.cells cr tr (0, 0))) (hc : cr.toList = ptrs B j0 m) (hB : w.heap[B]? = some (.cells cs T (0, 0))) (hsz : j0 + m ≤ cs.size) (hYB : Y < B) (hYR : Y < R) (hRB : R ≠ B) :
    Calls Try.prog 50 #[.pointer (some ⟨Y, 0, none⟩), .int .i64 (z : Int), .slice (some ⟨R, 0, none⟩) m m] w fun r w' => ∃ xs s', r = .returned (.tuple #[]) ∧ xs.length = m ∧ RdS w' X Y s' ∧ Gots s z xs s' ∧ w'.heap[B]? = some (.cells (setFrom cs j0 xs) T (0, 0)) ∧ ButL [X, Y, B] w w' := by
  have H0 := Lib.hid h
  have HC := Lib.hid hc
  have HBL := Lib.hid hB
  have HRL := Lib.hid hR
  clear h hc hB hR
  go_enter Try.func50, Try.ntmps50
  go_wp2_with fail
  go_loopw [10] (fun i wr => ∃ (k : Nat) (xs : List Int) (s' : Option (List Int)), k ≤ m ∧ i = .int .i64 k ∧ Hid (xs.length = k) ∧ Hid (RdS wr X Y s') ∧ Hid (Gots s z xs s') ∧ Hid (wr.heap[B]? = some (.cells (setFrom cs j0 xs) T (0, 0))) ∧ Hid (ButL [X, Y, B] w wr)) (fun i _ => m - (intOf i).toNat)
  case atStart => exact ⟨0, [], s, by omega, rfl, Lib.hid rfl, H0, Lib.hid rfl, HBL, Lib.hid (ButL.refl _ _)⟩
  case round =>
    obtain ⟨k, xs, s2, hk, rfl, HXL, HR, HG, HB, HBT⟩ := hrel
    by_cases hlt : k < m
    · have tk : decide ((k : Int) < (m : Int)) = true := by simpa using hlt
      have hXY := HR.out.lt
      have hBw : B < wr.heap.size := lt_of_block HB.out
      have kr := HBT.out.at HRL.out (by simp; omega)
      have q0 : wr.cell? ⟨R, k, none⟩ = some (.pointer (some ⟨B, j0 + k, none⟩)) := cell_in kr (by rw [← Array.getElem?_toList, HC.out]; exact ptrs_at hlt)
      have c0 := HR.out.c0
      have l0 : (0 : Int) ≤ (k : Int) := by omega
      have l1 : (k : Int) < (m : Int) := by omega
      clear kr
      go_wp2_with (first
        | (go_at_call 72
           refine (gGet_any X Y _ s2 z HR.out s1 s7).mono ?_
           rintro e w1 ⟨n, s3, rfl, b0, b1, hr1, hg1, hb1⟩
           have hb9 : w1.heap[B]? = some (.cells (setFrom cs j0 xs) T (0, 0)) := hb1.at HB.out (by simp; omega)
           have HB9 := Lib.hid hb9
           have f0 : w1.frozen? ⟨B, j0 + k, none⟩ = false := free_in hb9 _
           obtain ⟨u, hu⟩ : ∃ u, (setFrom cs j0 xs)[j0 + k]? = some u := ⟨_, Array.getElem?_eq_getElem (by rw [setFrom_size]; omega)⟩
           have k0 : w1.cell? ⟨B, j0 + k, none⟩ = some u := cell_in hb9 hu
           have HR1 := Lib.hid hr1
           have HG1 := Lib.hid hg1
           have HB1 := Lib.hid hb1
           clear hr1 hg1 hb1 hb9 hu))
      go_roundw
      case rel =>
        refine ⟨k + 1, xs ++ [n], s3, by omega, by go_num, Lib.hid (by rw [List.length_append, HXL.out]; rfl), Lib.hid (HR1.out.set hYB _ _), Lib.hid (Gots.snoc HG1.out HG.out), Lib.hid ?_, Lib.hid ((HBT.out.trans (HB1.out.more (by simp; omega))).set (by simp) _ _)⟩
        rw [setFrom_snoc, HXL.out]
        exact set_at HB9.out
      case measure => simp [intOf]; omega
    · have tk : decide ((k : Int) < (m : Int)) = false := by simp; omega
      have hkm : k = m := by omega
      go_wp2_with fail
      (first | go_end0 | refine bodyPost_ret (results_none rfl _ _ _) rfl ?_)
      exact ⟨xs, s2, rfl, by rw [HXL.out]; exact hkm, HR.out, HG.out, HB.out, HBT.out⟩
end Go.Proofs.Ytiombjkjoehjpaa
