/- A whole system as bytes, or why not. -/
import Derived.Test.YtiombjkjoehjpaaImageG
import Derived.Test.YtiombjkjoehjpaaSysA
namespace Go.Proofs.Ytiombjkjoehjpaa
open Go.ChangeShapes Go.WideShapes Go.ChangeAt Go.RowKit
set_option linter.unusedVariables false

theorem szL_flat {α : Type} (f : α → List Fl) (m : Nat) : ∀ (l : List α), (∀ x ∈ l, szL (f x) ≤ m) → szL (l.flatMap f) ≤ l.length * m
  | [], _ => by simp [szL]
  | x :: l, h => by
    have h1 := h x (by simp)
    have h2 := szL_flat f m l fun y hy => h y (by simp [hy])
    rw [List.flatMap_cons, szL_append, List.length_cons, Nat.add_mul]
    omega
theorem szL_many {α : Type} (f : α → List Fl) (m k : Nat) (l : List α) (hk : l.length ≤ k) (h : ∀ x ∈ l, szL (f x) ≤ m) : szL (manyF f l) ≤ 1 + k * m := by
  have h1 := szL_flat f m l h
  have h2 := Nat.mul_le_mul_right m hk
  show 1 + szL (l.flatMap f) ≤ _
  omega
theorem fit_many {α : Type} {f : α → List Fl} {l : List α} (h : fitL (manyF f l) = true) : l.length ≤ 255 ∧ ∀ x ∈ l, fitL (f x) = true := by
  unfold manyF at h
  rw [fitL_cons, Bool.and_eq_true, fitsB_iff] at h
  refine ⟨by have := h.1.2; simp at this; omega, fun x hx => ?_⟩
  have h2 := h.2
  simp only [fitL, List.all_flatMap, List.all_eq_true] at h2 ⊢
  exact h2 x hx
theorem szL_pt (k : Nat) (p : Pt) (h1 : p.ts.length ≤ k) (h2 : p.ss.length ≤ k) (h3 : p.ds.length ≤ k) : szL (ptF p) ≤ 6 + k * 17 := by
  have a1 := szL_many tkF 11 k p.ts h1 (fun _ _ => by simp [tkF, szL])
  have a2 := szL_many svF 5 k p.ss h2 (fun _ _ => by simp [svF, szL])
  have a3 := szL_many (fun d => [((1, d) : Fl)]) 1 k p.ds h3 (fun _ _ => by simp [szL])
  unfold ptF
  rw [szL_append, szL_append, szL_append]
  simp only [szL] at *
  omega
theorem szL_cf (k : Nat) (c : Cf) (h1 : c.ws.length ≤ k) (h2 : c.ps.length ≤ k) (h3 : c.cs.length ≤ k) (h4 : ∀ p ∈ c.ps, p.ts.length ≤ k ∧ p.ss.length ≤ k ∧ p.ds.length ≤ k) : szL (cfF c) ≤ 11 + k * 10 + k * (6 + k * 17) := by
  have a1 := szL_many wnF 5 k c.ws h1 (fun _ _ => by simp [wnF, szL])
  have a2 := szL_many ptF (6 + k * 17) k c.ps h2 (fun p hp => szL_pt k p (h4 p hp).1 (h4 p hp).2.1 (h4 p hp).2.2)
  have a3 := szL_many chF 5 k c.cs h3 (fun _ _ => by simp [chF, szL])
  unfold cfF
  rw [szL_append, szL_append, szL_append, szL_append]
  simp only [szL] at *
  omega
theorem fit_pt {p : Pt} (h : fitL (ptF p) = true) : p.ts.length ≤ 255 ∧ p.ss.length ≤ 255 ∧ p.ds.length ≤ 255 := by
  unfold ptF at h
  rw [fitL_append, fitL_append, fitL_append] at h
  simp only [Bool.and_eq_true] at h
  exact ⟨(fit_many h.1).1, (fit_many h.2.1).1, (fit_many h.2.2.1).1⟩
theorem fit_cf {c : Cf} (h : fitL (cfF c) = true) : c.ws.length ≤ 255 ∧ c.ps.length ≤ 255 ∧ c.cs.length ≤ 255 ∧ ∀ p ∈ c.ps, p.ts.length ≤ 255 ∧ p.ss.length ≤ 255 ∧ p.ds.length ≤ 255 := by
  unfold cfF at h
  rw [fitL_append, fitL_append, fitL_append, fitL_append] at h
  simp only [Bool.and_eq_true] at h
  exact ⟨(fit_many h.2.2.1).1, (fit_many h.2.2.2.1).1, (fit_many h.2.2.2.2).1, fun p hp => fit_pt ((fit_many h.2.2.2.1).2 p hp)⟩
theorem fit_small {c : Cf} (h : fitL (cfF c) = true) : szL (cfF c) ≤ 2000000 := by
  obtain ⟨h1, h2, h3, h4⟩ := fit_cf h
  have := szL_cf 255 c h1 h2 h3 h4
  omega
/-- Not very many of all. -/
def Mid (c : Cf) : Prop := c.ws.length ≤ 2097152 ∧ c.ps.length ≤ 2097152 ∧ c.cs.length ≤ 2097152 ∧ ∀ p ∈ c.ps, (p.ts.length ≤ 2097152 ∧ p.ss.length ≤ 2097152 ∧ p.ds.length ≤ 2097152) ∧ Act8 p.a0 ∧ Act8 p.a1 ∧ Act8 p.a2
theorem Mid.fair {c : Cf} (h : Mid c) : FairC c := by
  obtain ⟨h1, h2, h3, h4⟩ := h
  refine ⟨by omega, by omega, by omega, fun p hp => ?_⟩
  obtain ⟨⟨g1, g2, g3⟩, g4⟩ := h4 p hp
  exact ⟨by omega, by omega, by omega, g4⟩
theorem Mid.room {c : Cf} (h : Mid c) : Room (some []) (cfF c) := by
  obtain ⟨h1, h2, h3, h4⟩ := h
  have := szL_cf 2097152 c h1 h2 h3 fun p hp => (h4 p hp).1
  refine Room.all fun fs e => ?_
  cases e
  rw [show szL [] = 0 from rfl]
  omega
/-- Whatever fits of these, from the beginning on, is no longer than that. -/
def Pre (m : Nat) (l : List Fl) : Prop := ∀ k, fitL (l.take k) = true → szL (l.take k) ≤ m
theorem szL_take_le (l : List Fl) (k : Nat) : szL (l.take k) ≤ szL l := by
  have h2 : szL l = szL (l.take k) + szL (l.drop k) := by rw [← szL_append, List.take_append_drop]
  omega
theorem fit_take_of {l : List Fl} (k : Nat) (h : fitL l = true) : fitL (l.take k) = true := by
  rw [← List.take_append_drop k l, fitL_append, Bool.and_eq_true] at h; exact h.1
theorem Pre.of {m : Nat} {l : List Fl} (h : szL l ≤ m) : Pre m l := fun k _ => Nat.le_trans (szL_take_le l k) h
theorem Pre.app {m n : Nat} {a b : List Fl} (ha : Pre m a) (hb : Pre n b) : Pre (m + n) (a ++ b) := by
  intro k hk
  rcases Nat.le_total k a.length with g | g
  · rw [List.take_append_of_le_length g] at hk ⊢
    exact Nat.le_trans (ha k hk) (Nat.le_add_right _ _)
  · obtain ⟨j, rfl⟩ : ∃ j, k = a.length + j := ⟨k - a.length, by omega⟩
    rw [List.take_length_add_append] at hk ⊢
    rw [fitL_append, Bool.and_eq_true] at hk
    have h1 := ha a.length (by rw [List.take_length]; exact hk.1)
    have h2 := hb j hk.2
    rw [List.take_length] at h1
    rw [szL_append]
    omega
theorem Pre.flat {α : Type} {f : α → List Fl} {m : Nat} : ∀ (l : List α), (∀ x ∈ l, Pre m (f x)) → Pre (l.length * m) (l.flatMap f)
  | [], _ => Pre.of (by simp [szL])
  | x :: l, h => by
    rw [List.flatMap_cons, List.length_cons, Nat.add_mul, Nat.one_mul, Nat.add_comm]
    exact (h x (by simp)).app (Pre.flat l fun y hy => h y (by simp [hy]))
theorem Pre.mono {m n : Nat} {l : List Fl} (h : Pre m l) (hn : m ≤ n) : Pre n l := fun k hk => Nat.le_trans (h k hk) hn
theorem Pre.many {α : Type} {f : α → List Fl} {m : Nat} (l : List α) (h : ∀ x ∈ l, Pre m (f x)) : Pre (1 + 255 * m) (manyF f l) := by
  by_cases hl : l.length ≤ 255
  · have h1 : Pre (1 + l.length * m) (manyF f l) := Pre.app (a := [((1, (l.length : Int)) : Fl)]) (Pre.of (by simp [szL])) (Pre.flat l h)
    exact h1.mono (by have := Nat.mul_le_mul_right m hl; omega)
  · intro k hk
    cases k with
    | zero => simp [szL]
    | succ k =>
      exfalso
      unfold manyF at hk
      rw [List.take_succ_cons, fitL_cons, Bool.and_eq_true, fitsB_iff] at hk
      have := hk.1.2
      simp at this
      omega
theorem Pre.part (p : Pt) : Pre 5000 (ptF p) := by
  have a1 := Pre.many (f := tkF) (m := 11) p.ts (fun _ _ => Pre.of (by simp [tkF, szL]))
  have a2 := Pre.many (f := svF) (m := 5) p.ss (fun _ _ => Pre.of (by simp [svF, szL]))
  have a3 := Pre.many (f := fun d => [((1, d) : Fl)]) (m := 1) p.ds (fun _ _ => Pre.of (by simp [szL]))
  have a4 : Pre 3 [((1, p.a0) : Fl), (1, p.a1), (1, p.a2)] := Pre.of (by simp [szL])
  exact (a1.app (a2.app (a3.app a4))).mono (by omega)
theorem Pre.conf (c : Cf) : Pre 1300000 (cfF c) := by
  have a1 := Pre.many (f := wnF) (m := 5) c.ws (fun _ _ => Pre.of (by simp [wnF, szL]))
  have a2 := Pre.many (f := ptF) (m := 5000) c.ps (fun p _ => Pre.part p)
  have a3 := Pre.many (f := chF) (m := 5) c.cs (fun _ _ => Pre.of (by simp [chF, szL]))
  have a4 : Pre 4 [((4, magicV) : Fl)] := Pre.of (by simp [szL])
  have a5 : Pre 4 [((2, c.frame) : Fl), (2, c.margin)] := Pre.of (by simp [szL])
  exact (a4.app (a5.app (a1.app (a2.app a3)))).mono (by omega)
theorem room_conf (c : Cf) : Room (some []) (cfF c) := by
  intro fs e k hk
  cases e
  have := Pre.conf c k hk
  rw [show szL [] = 0 from rfl]
  omega
/-- A system as bytes, and why not. -/
def encV (c : Cf) : List Int × Int := if fitL (cfF c) then (if szL (cfF c) ≤ 16384 then (encB (cfF c), 0) else ([], 11)) else ([], 2)
theorem encV_no {c : Cf} (h : fitL (cfF c) = false) : encV c = ([], 2) := by simp [encV, h]
theorem encV_big {c : Cf} (h : fitL (cfF c) = true) (h2 : ¬ szL (cfF c) ≤ 16384) : encV c = ([], 11) := by simp [encV, h, h2]
theorem encV_yes {c : Cf} (h : fitL (cfF c) = true) (h2 : szL (cfF c) ≤ 16384) : encV c = (encB (cfF c), 0) := by simp [encV, h, h2]
theorem lies_none' {w : World} {lo hi sz : Nat} : Lies w lo hi (.slice none 0 0) 0 sz [] := ⟨none, 0, rfl, by simp, fun e => ⟨rfl, rfl⟩, .inl rfl⟩
theorem WrS.new {w : World} {X : Nat} (h : w.heap[X]? = some (.cells #[.int .i64 0, .pointer none, .int .i64 0] 63 (0, 0))) : WrS w X (some []) :=
  ⟨0, 0, none, h, rfl, rfl, (fun f hf => by cases hf), rfl⟩
set_option maxRecDepth 100000 in
set_option maxHeartbeats 2000000 in
theorem encode_cap {w : World} {hi : Nat} {c : Cf} {pvs : List Pv} {wa pa ca : Option Addr} {wc pc cc : Nat} (f : FairC c) (h : SysL w hi c pvs wa pa ca wc pc cc) (hh : hi ≤ w.heap.size) :
    Calls Try.prog 9 #[.agg #[.int .i64 c.frame, .int .i64 c.margin, .slice wa c.ws.length wc, .slice pa c.ps.length pc, .slice ca c.cs.length cc]] w fun e w' => ∃ a n cp, e = .returned (.tuple #[.slice a n cp, .int .i64 (encV c).2]) ∧ (encV c).1.length = n ∧ n ≤ cp ∧ Lies w' w.heap.size w'.heap.size (.slice a n cp) n 1 (bts (encV c).1) ∧ Below w.heap.size w w' := by
  obtain ⟨fr, mg, ws, ps, cs⟩ := c
  have HFC := Lib.hid f
  have HRM := Lib.hid (room_conf ⟨fr, mg, ws, ps, cs⟩)
  have HS := Lib.hid h
  clear h f
  cases hfit : fitL (cfF ⟨fr, mg, ws, ps, cs⟩) with
  | false =>
    have HP : Hid (putS (some []) (cfF ⟨fr, mg, ws, ps, cs⟩) = none) := Lib.hid (putS_no hfit)
    have HE := Lib.hid (encV_no hfit)
    clear hfit
    go_enter Try.func9, Try.ntmps9
    go_wp2_with (first
      | (go_at_call 19
         refine (wConfig_any (w.heap.size + 1) (some []) wa pa ca _ wc _ pc _ cc fr mg _ 0 hi ws ps cs pvs (WrS.new (heap_new_at (by simp))) rfl rfl rfl (HS.out.l1.keep (SameIn.of_below ((below1 w _).alloc (by simp) _) hh)) (HS.out.l2.keep (SameIn.of_below ((below1 w _).alloc (by simp) _) hh)) (HS.out.l3.keep (SameIn.of_below ((below1 w _).alloc (by simp) _) hh)) (HS.out.l4.keep (SameIn.of_below ((below1 w _).alloc (by simp) _) hh)) (by omega) (by simp; omega) HFC.out HRM.out).mono ?_
         rintro e w1 ⟨rfl, hw1, hb1⟩
         rw [HP.out] at hw1
         have kX : w1.cell? ⟨w.heap.size + 1, 0, none⟩ = some (.int .i64 2) := hw1.err
         have HB1 : Hid (Below w.heap.size w w1) := Lib.hid ((((below1 w _).alloc (by simp) _)).trans (hb1.below (by omega) (by simp; omega)))
         clear hw1 hb1)
      | (go_at_call 20; refine (wErr_any (w.heap.size + 1) _ 2 kX).mono ?_; rintro e w' ⟨rfl, rfl⟩))
    go_ret2
    refine ⟨none, 0, 0, by rw [HE.out]; rfl, by rw [HE.out]; rfl, Nat.le_refl _, by rw [HE.out]; exact lies_none', HB1.out⟩
  | true =>
    have HP : Hid (putS (some []) (cfF ⟨fr, mg, ws, ps, cs⟩) = some (cfF ⟨fr, mg, ws, ps, cs⟩)) := Lib.hid (putS_yes hfit)
    have HSM := Lib.hid (fit_small hfit)
    have HEB : Hid (¬ szL (cfF ⟨fr, mg, ws, ps, cs⟩) ≤ 16384 → encV ⟨fr, mg, ws, ps, cs⟩ = ([], 11)) := Lib.hid (encV_big hfit)
    have HEY : Hid (szL (cfF ⟨fr, mg, ws, ps, cs⟩) ≤ 16384 → encV ⟨fr, mg, ws, ps, cs⟩ = (encB (cfF ⟨fr, mg, ws, ps, cs⟩), 0)) := Lib.hid (encV_yes hfit)
    clear hfit
    by_cases hsz : szL (cfF ⟨fr, mg, ws, ps, cs⟩) ≤ 16384
    all_goals
      first
        | have tsz : decide (((szL (cfF ⟨fr, mg, ws, ps, cs⟩) : Nat) : Int) > 16384) = false := by simp; omega
        | have tsz : decide (((szL (cfF ⟨fr, mg, ws, ps, cs⟩) : Nat) : Int) > 16384) = true := by simp; omega
      go_enter Try.func9, Try.ntmps9
      go_wp2_with (first
        | (go_at_call 19
           refine (wConfig_any (w.heap.size + 1) (some []) wa pa ca _ wc _ pc _ cc fr mg _ 0 hi ws ps cs pvs (WrS.new (heap_new_at (by simp))) rfl rfl rfl (HS.out.l1.keep (SameIn.of_below ((below1 w _).alloc (by simp) _) hh)) (HS.out.l2.keep (SameIn.of_below ((below1 w _).alloc (by simp) _) hh)) (HS.out.l3.keep (SameIn.of_below ((below1 w _).alloc (by simp) _) hh)) (HS.out.l4.keep (SameIn.of_below ((below1 w _).alloc (by simp) _) hh)) (by omega) (by simp; omega) HFC.out HRM.out).mono ?_
           rintro e w1 ⟨rfl, hw1, hb1⟩
           rw [HP.out] at hw1
           have kX : w1.cell? ⟨w.heap.size + 1, 0, none⟩ = some (.int .i64 0) := hw1.err
           have HB1 : Hid (Below w.heap.size w w1) := Lib.hid ((((below1 w _).alloc (by simp) _)).trans (hb1.below (by omega) (by simp; omega)))
           have HW1 := Lib.hid hw1
           clear hw1 hb1)
        | (go_at_call 20; refine (wErr_any (w.heap.size + 1) _ 0 kX).mono ?_; rintro e w' ⟨rfl, rfl⟩)
        | (go_at_call 21; refine (bytes_any (w.heap.size + 1) _ _ HW1.out (by have := HSM.out; omega)).mono ?_; rintro e w2 ⟨rfl, hown, hb2⟩))
      go_ret2
    · refine ⟨some ⟨w1.heap.size, 0, none⟩, szL (cfF ⟨fr, mg, ws, ps, cs⟩), szL (cfF ⟨fr, mg, ws, ps, cs⟩), by rw [HEY.out hsz]; rfl, by rw [HEY.out hsz]; exact szL_enc _, Nat.le_refl _, by rw [HEY.out hsz]; exact (Lies.of_owns hown).wider HB1.out.size (Nat.le_refl _), HB1.out.trans (hb2.mono HB1.out.size)⟩
    · refine ⟨none, 0, 0, by rw [HEB.out hsz]; rfl, by rw [HEB.out hsz]; rfl, Nat.le_refl _, by rw [HEB.out hsz]; exact lies_none', HB1.out.trans (hb2.mono HB1.out.size)⟩
theorem encode_fair {w : World} {hi : Nat} {c : Cf} {pvs : List Pv} {wa pa ca : Option Addr} {wc pc cc : Nat} (f : FairC c) (h : SysL w hi c pvs wa pa ca wc pc cc) (hh : hi ≤ w.heap.size) :
    Calls Try.prog 9 #[.agg #[.int .i64 c.frame, .int .i64 c.margin, .slice wa c.ws.length wc, .slice pa c.ps.length pc, .slice ca c.cs.length cc]] w fun e w' => ∃ a n cp, e = .returned (.tuple #[.slice a n cp, .int .i64 (encV c).2]) ∧ (encV c).1.length = n ∧ Lies w' w.heap.size w'.heap.size (.slice a n cp) n 1 (bts (encV c).1) ∧ Below w.heap.size w w' :=
  (encode_cap f h hh).mono fun e w' h => by obtain ⟨a, n, cp, h1, h2, _, h3⟩ := h; exact ⟨a, n, cp, h1, h2, h3⟩
theorem encode_sys {w : World} {hi : Nat} {c : Cf} {pvs : List Pv} {wa pa ca : Option Addr} {wc pc cc : Nat} (f : Mid c) (h : SysL w hi c pvs wa pa ca wc pc cc) (hh : hi ≤ w.heap.size) :
    Calls Try.prog 9 #[.agg #[.int .i64 c.frame, .int .i64 c.margin, .slice wa c.ws.length wc, .slice pa c.ps.length pc, .slice ca c.cs.length cc]] w fun e w' => ∃ a n cp, e = .returned (.tuple #[.slice a n cp, .int .i64 (encV c).2]) ∧ (encV c).1.length = n ∧ Lies w' w.heap.size w'.heap.size (.slice a n cp) n 1 (bts (encV c).1) ∧ Below w.heap.size w w' :=
  encode_fair f.fair h hh
end Go.Proofs.Ytiombjkjoehjpaa
