/- What is asked of the program's budget; do, knows. -/
import Derived.Test.YtoofkeeoolgpdaaTwo
import Derived.Test.YtoofkeeoolgpdaaChunkM
import Derived.Test.YtoofkeeoolgpdaaRead
import Derived.Deep.CutRange
import Derived.Deep.CutBlock
namespace Go.Proofs.Ytoofkeeoolgpdaa
open Go.ChangeShapes Go.WideShapes Go.ChangeAt Go.RowKit
set_option linter.unusedVariables false

/-- The contracts of a budget of the server s: b is what it has. Its own blocks are S. -/
structure ChunkOk where
  Bg : Nat → Sv → Bd → World → (Nat → Prop) → Prop
  own : ∀ (H : Nat) (s : Sv) (b : Bd), OwnP (Bg H s b)
  bd : ∀ {w : World} {H : Nat} {S : Nat → Prop} {s : Sv} {b : Bd}, Bg H s b w S → okSv s = true ∧ BdOk s.c s.t 1099511627776 b
  new_yes : ∀ (re : Bool) (c t : Int) (w : World), okSv ⟨re, c, t⟩ = true → Calls Try.prog 8 #[.agg #[.bool re, .int .i64 c, .int .i64 t]] w fun e w' => ∃ H S, e = .returned (.pointer (some ⟨H, 0, none⟩)) ∧ Bg H ⟨re, c, t⟩ (resetB c) w' S ∧ (∀ k, S k → w.heap.size ≤ k) ∧ Below w.heap.size w w'
  new_no : ∀ (re : Bool) (c t : Int) (w : World), okSv ⟨re, c, t⟩ = false → Calls Try.prog 8 #[.agg #[.bool re, .int .i64 c, .int .i64 t]] w fun e w' => e = .returned (.pointer none) ∧ Below w.heap.size w w'
  go : ∀ (w : World) (H : Nat) (S : Nat → Prop) (s : Sv) (b : Bd) (now : Int) (busy : Bool), 0 ≤ now → now ≤ 1099511627776 → Bg H s b w S → Calls Try.prog 10 #[.pointer (some ⟨H, 0, none⟩), .int .i64 now, .bool busy] w fun e w' => ∃ S', e = .returned (.tuple #[]) ∧ Bg H s (goB b now busy) w' S' ∧ GrowS S S' w w'
  use : ∀ (w : World) (H : Nat) (S : Nat → Prop) (s : Sv) (b : Bd), Bg H s b w S → Calls Try.prog 12 #[.pointer (some ⟨H, 0, none⟩)] w fun e w' => ∃ S', e = .returned (.bool (useOk b)) ∧ Bg H s (useB s.t b) w' S' ∧ GrowS S S' w w'
  done_ : ∀ (w : World) (H : Nat) (S : Nat → Prop) (s : Sv) (b : Bd), Bg H s b w S → Calls Try.prog 14 #[.pointer (some ⟨H, 0, none⟩)] w fun e w' => ∃ S', e = .returned (.tuple #[]) ∧ Bg H s (doneB s.t b) w' S' ∧ GrowS S S' w w'
  stop : ∀ (w : World) (H : Nat) (S : Nat → Prop) (s : Sv) (b : Bd), Bg H s b w S → Calls Try.prog 16 #[.pointer (some ⟨H, 0, none⟩)] w fun e w' => ∃ S', e = .returned (.tuple #[]) ∧ Bg H s (stopB (doneB s.t b) true) w' S' ∧ GrowS S S' w w'
  resume : ∀ (w : World) (H : Nat) (S : Nat → Prop) (s : Sv) (b : Bd), Bg H s b w S → Calls Try.prog 17 #[.pointer (some ⟨H, 0, none⟩)] w fun e w' => ∃ S', e = .returned (.tuple #[]) ∧ Bg H s (stopB b false) w' S' ∧ GrowS S S' w w'
  reset : ∀ (w : World) (H : Nat) (S : Nat → Prop) (s : Sv) (b : Bd), Bg H s b w S → Calls Try.prog 18 #[.pointer (some ⟨H, 0, none⟩)] w fun e w' => ∃ S', e = .returned (.tuple #[]) ∧ Bg H s (resetB s.c) w' S' ∧ GrowS S S' w w'
  due : ∀ (w : World) (H : Nat) (S : Nat → Prop) (s : Sv) (b : Bd), Bg H s b w S → Calls Try.prog 26 #[.pointer (some ⟨H, 0, none⟩)] w fun e w' => e = .returned (.tuple #[.int .i64 (dueV s.t b), .bool (useOk b)]) ∧ Below w.heap.size w w'
  free : ∀ (w : World) (H : Nat) (S : Nat → Prop) (s : Sv) (b : Bd), Bg H s b w S → Calls Try.prog 22 #[.pointer (some ⟨H, 0, none⟩)] w fun e w' => e = .returned (.int .i64 b.free) ∧ Below w.heap.size w w'
  live : ∀ (w : World) (H : Nat) (S : Nat → Prop) (s : Sv) (b : Bd), Bg H s b w S → Calls Try.prog 23 #[.pointer (some ⟨H, 0, none⟩)] w fun e w' => ∃ ao cap, e = .returned (.slice ao b.live.length cap) ∧ Lies w' w.heap.size w'.heap.size (.slice ao b.live.length cap) b.live.length 3 (b.live.flatMap Wn.cells) ∧ Below w.heap.size w w'
  backs : ∀ (w : World) (H : Nat) (S : Nat → Prop) (s : Sv) (b : Bd), Bg H s b w S → Calls Try.prog 24 #[.pointer (some ⟨H, 0, none⟩)] w fun e w' => ∃ ao cap, e = .returned (.slice ao b.backs.length cap) ∧ Lies w' w.heap.size w'.heap.size (.slice ao b.backs.length cap) b.backs.length 2 (b.backs.flatMap Bk.cells) ∧ Below w.heap.size w w'
def cutN (n : Int) : Int := min (max n 0) 1000
theorem cutN_bd (n : Int) : 0 ≤ cutN n ∧ cutN n ≤ 1000 := by unfold cutN; omega
def isGo (k : Int) : Bool := decide (0 ≤ k) && decide (k ≤ 2)
def nowN (k n now : Int) : Int := if isGo k = true then now + cutN n else now
def actB (T k n now : Int) (b : Bd) : Bd := if isGo k = true then goB b (now + cutN n) (decide (k < 2)) else if k = 5 then doneB T b else if k = 6 then stopB (doneB T b) true else if k = 7 then stopB b false else b
theorem nowN_bd (k n now : Int) : now ≤ nowN k n now ∧ nowN k n now ≤ now + 1000 := by have := cutN_bd n; unfold nowN; split <;> omega
theorem act_go {T k n now : Int} {b : Bd} (h : isGo k = true) : nowN k n now = now + cutN n ∧ actB T k n now b = goB b (now + cutN n) (decide (k < 2)) := ⟨if_pos h, if_pos h⟩
theorem act_no {T k n now : Int} {b : Bd} (h : isGo k = false) : nowN k n now = now ∧ actB T k n now b = (if k = 5 then doneB T b else if k = 6 then stopB (doneB T b) true else if k = 7 then stopB b false else b) := ⟨if_neg (by simp [h]), if_neg (by simp [h])⟩
/-- Two numbers each, in a row. -/
theorem bks_read {w : World} {a : Option Addr} {n c : Nat} {l : List Bk} (hn : l.length = n) (hl : Lies w 0 w.heap.size (.slice a n c) n 2 (l.flatMap Bk.cells)) : ∀ Y, Below w.heap.size w Y → ∀ i (hi : i < n), ∃ b off, a = some ⟨b, off, none⟩ ∧ Y.cell? ⟨b, off + i * 2, none⟩ = some (.int .i64 (l[i]'(by omega)).at_) ∧ Y.cell? ⟨b, off + i * 2 + 1, none⟩ = some (.int .i64 (l[i]'(by omega)).n) ∧ b < w.heap.size := by
  intro Y hY i hi
  obtain ⟨a', c', e, _, _, hc⟩ := hl.keep (SameIn.of_below hY (Nat.le_refl _))
  cases e
  rcases hc with h0 | ⟨b, off, rfl, _, hb, hc⟩
  · omega
  · have hx : l[i]? = some l[i] := List.getElem?_eq_getElem (by omega)
    have f0 := hc _ _ (flat_at Bk.cells 2 (fun _ => rfl) l i 0 _ hx (by omega))
    have f1 := hc _ _ (flat_at Bk.cells 2 (fun _ => rfl) l i 1 _ hx (by omega))
    exact ⟨b, off, rfl, f0, f1, hb⟩
set_option maxRecDepth 100000 in
set_option maxHeartbeats 8000000 in
theorem do17_of (O : ChunkOk) (w : World) (H : Nat) (S : Nat → Prop) (s : Sv) (b : Bd) (k n now : Int) (h0 : 0 ≤ now) (h1 : now + 1000 ≤ 1099511627776) (h : O.Bg H s b w S) : Calls Try.prog 21 #[.pointer (some ⟨H, 0, none⟩), .agg #[.int .i64 k, .int .i64 n], .int .i64 now] w fun e w' => ∃ S', e = .returned (.int .i64 (nowN k n now)) ∧ O.Bg H s (actB s.t k n now b) w' S' ∧ GrowS S S' w w' := by
  obtain ⟨V, hV⟩ : ∃ V, V = w.alloc (.cells #[.int .i64 k, .int .i64 n] 32) := ⟨_, rfl⟩
  obtain ⟨E, hE⟩ : ∃ E, E = w.heap.size := ⟨_, rfl⟩
  have hbV : Below w.heap.size w V := by rw [hV]; exact below1 _ _
  have hEV : V.heap[E]? = some (.cells #[.int .i64 k, .int .i64 n] 32 (0, 0)) := by rw [hV, hE]; exact heap_alloc_new _ _
  have k0 : V.cell? ⟨E, 0, none⟩ = some (.int .i64 k) := cell_in hEV rfl
  have k1 : V.cell? ⟨E, 1, none⟩ = some (.int .i64 n) := cell_in hEV rfl
  have HB : Hid (O.Bg H s b V S) := Lib.hid ((O.own _ _ _).later h hbV)
  have HG : Hid (GrowS S S w V) := Lib.hid (GrowS.of_below hbV)
  have HV := Lib.hid hV
  have HE := Lib.hid hE
  clear hV hE hEV hbV h
  go_enter Try.func21, Try.ntmps21
  go_upto_region 1 with fail
  rw [← HV.out, ← HE.out]
  by_cases q0 : k = 0
  · subst q0
    go_upto_region 5 with fail
    have HA := Lib.hid (act_go (T := s.t) (k := 0) (n := n) (now := now) (b := b) (by rfl))
    go_cut [2] from 13 to 18 (fun s2 wx => s2 = .int .i64 (now + cutN n) ∧ wx = V)
    case first =>
      obtain ⟨cn, hcn⟩ : ∃ cn, cn = cutN n := ⟨_, rfl⟩
      have HCN := Lib.hid hcn
      rcases (show (n < 0 ∧ cn = 0) ∨ (0 ≤ n ∧ n ≤ 1000 ∧ cn = n) ∨ (0 ≤ n ∧ 1000 < n ∧ cn = 1000) by unfold cutN at hcn; omega) with ⟨g1, g3⟩ | ⟨g1, g2, g3⟩ | ⟨g1, g2, g3⟩
      all_goals
        clear hcn
        have G3 := Lib.hid g3
        clear g3
        go_wp2_with fail
        go_meet
        case rel => exact ⟨by rw [← HCN.out, G3.out]; try go_num, rfl⟩
    case rest =>
      obtain ⟨rfl, hwc⟩ := hcut
      subst hwc
      go_wp2_with (go_at_call 10; refine (O.go _ H S s b (now + cutN n) (decide ((0 : Int) < 2)) (by have := cutN_bd n; omega) (by have := cutN_bd n; omega) HB.out).mono ?_; rintro e w3 ⟨S3, rfl, h3, g3⟩)
      go_ret
      rw [HA.out.1, HA.out.2]
      first | exact ⟨S3, rfl, h3, HG.out.trans g3⟩ | exact ⟨rfl, S3, h3, HG.out.trans g3⟩
  have f0 : (k == 0) = false := by simpa using q0
  by_cases q1 : k = 1
  · subst q1
    go_upto_region 5 with fail
    have HA := Lib.hid (act_go (T := s.t) (k := 1) (n := n) (now := now) (b := b) (by rfl))
    go_cut [2] from 13 to 18 (fun s2 wx => s2 = .int .i64 (now + cutN n) ∧ wx = V)
    case first =>
      obtain ⟨cn, hcn⟩ : ∃ cn, cn = cutN n := ⟨_, rfl⟩
      have HCN := Lib.hid hcn
      rcases (show (n < 0 ∧ cn = 0) ∨ (0 ≤ n ∧ n ≤ 1000 ∧ cn = n) ∨ (0 ≤ n ∧ 1000 < n ∧ cn = 1000) by unfold cutN at hcn; omega) with ⟨g1, g3⟩ | ⟨g1, g2, g3⟩ | ⟨g1, g2, g3⟩
      all_goals
        clear hcn
        have G3 := Lib.hid g3
        clear g3
        go_wp2_with fail
        go_meet
        case rel => exact ⟨by rw [← HCN.out, G3.out]; try go_num, rfl⟩
    case rest =>
      obtain ⟨rfl, hwc⟩ := hcut
      subst hwc
      go_wp2_with (go_at_call 10; refine (O.go _ H S s b (now + cutN n) (decide ((1 : Int) < 2)) (by have := cutN_bd n; omega) (by have := cutN_bd n; omega) HB.out).mono ?_; rintro e w3 ⟨S3, rfl, h3, g3⟩)
      go_ret
      rw [HA.out.1, HA.out.2]
      first | exact ⟨S3, rfl, h3, HG.out.trans g3⟩ | exact ⟨rfl, S3, h3, HG.out.trans g3⟩
  have f1 : (k == 1) = false := by simpa using q1
  by_cases q2 : k = 2
  · subst q2
    go_upto_region 5 with fail
    have HA := Lib.hid (act_go (T := s.t) (k := 2) (n := n) (now := now) (b := b) (by rfl))
    go_cut [2] from 13 to 18 (fun s2 wx => s2 = .int .i64 (now + cutN n) ∧ wx = V)
    case first =>
      obtain ⟨cn, hcn⟩ : ∃ cn, cn = cutN n := ⟨_, rfl⟩
      have HCN := Lib.hid hcn
      rcases (show (n < 0 ∧ cn = 0) ∨ (0 ≤ n ∧ n ≤ 1000 ∧ cn = n) ∨ (0 ≤ n ∧ 1000 < n ∧ cn = 1000) by unfold cutN at hcn; omega) with ⟨g1, g3⟩ | ⟨g1, g2, g3⟩ | ⟨g1, g2, g3⟩
      all_goals
        clear hcn
        have G3 := Lib.hid g3
        clear g3
        go_wp2_with fail
        go_meet
        case rel => exact ⟨by rw [← HCN.out, G3.out]; try go_num, rfl⟩
    case rest =>
      obtain ⟨rfl, hwc⟩ := hcut
      subst hwc
      go_wp2_with (go_at_call 10; refine (O.go _ H S s b (now + cutN n) (decide ((2 : Int) < 2)) (by have := cutN_bd n; omega) (by have := cutN_bd n; omega) HB.out).mono ?_; rintro e w3 ⟨S3, rfl, h3, g3⟩)
      go_ret
      rw [HA.out.1, HA.out.2]
      first | exact ⟨S3, rfl, h3, HG.out.trans g3⟩ | exact ⟨rfl, S3, h3, HG.out.trans g3⟩
  have f2 : (k == 2) = false := by simpa using q2
  by_cases q5 : k = 5
  · subst q5
    have HA := Lib.hid (act_no (T := s.t) (k := 5) (n := n) (now := now) (b := b) (by rfl))
    go_wp2_with (go_at_call 14; refine (O.done_ _ H S s b HB.out).mono ?_; rintro e w3 ⟨S3, rfl, h3, g3⟩)
    go_ret
    rw [HA.out.1, HA.out.2]
    first | exact ⟨S3, rfl, h3, HG.out.trans g3⟩ | exact ⟨rfl, S3, h3, HG.out.trans g3⟩
  have f5 : (k == 5) = false := by simpa using q5
  by_cases q6 : k = 6
  · subst q6
    have HA := Lib.hid (act_no (T := s.t) (k := 6) (n := n) (now := now) (b := b) (by rfl))
    go_wp2_with (go_at_call 16; refine (O.stop _ H S s b HB.out).mono ?_; rintro e w3 ⟨S3, rfl, h3, g3⟩)
    go_ret
    rw [HA.out.1, HA.out.2]
    first | exact ⟨S3, rfl, h3, HG.out.trans g3⟩ | exact ⟨rfl, S3, h3, HG.out.trans g3⟩
  have f6 : (k == 6) = false := by simpa using q6
  by_cases q7 : k = 7
  · subst q7
    have HA := Lib.hid (act_no (T := s.t) (k := 7) (n := n) (now := now) (b := b) (by rfl))
    go_wp2_with (go_at_call 17; refine (O.resume _ H S s b HB.out).mono ?_; rintro e w3 ⟨S3, rfl, h3, g3⟩)
    go_ret
    rw [HA.out.1, HA.out.2]
    first | exact ⟨S3, rfl, h3, HG.out.trans g3⟩ | exact ⟨rfl, S3, h3, HG.out.trans g3⟩
  have f7 : (k == 7) = false := by simpa using q7
  have hg : isGo k = false := by
    cases h : isGo k with
    | false => rfl
    | true => simp only [isGo, Bool.and_eq_true, decide_eq_true_eq] at h; omega
  have HA := Lib.hid (act_no (T := s.t) (n := n) (now := now) (b := b) hg)
  rw [if_neg q5, if_neg q6, if_neg q7] at HA
  clear hg
  go_wp2_with fail
  go_ret
  rw [HA.out.1, HA.out.2]
  first | exact ⟨S, rfl, HB.out, HG.out⟩ | exact ⟨rfl, S, HB.out, HG.out⟩
set_option maxRecDepth 100000 in
set_option maxHeartbeats 8000000 in
theorem knows17_of (O : ChunkOk) (w : World) : Calls Try.prog 7 #[] w fun e w' => e = .returned (.bool true) ∧ Below w.heap.size w w' := by
  have HN := Lib.hid (O.new_yes false 3 10 w (by decide))
  obtain ⟨sv, hsv⟩ : ∃ sv : Sv, sv = ⟨false, 3, 10⟩ := ⟨_, rfl⟩
  rw [← hsv] at HN
  have E4 := Lib.hid (show goB (resetB 3) 5 true = ⟨0, [⟨5, 3, 0⟩], [], false⟩ from rfl)
  have E5 := Lib.hid (show useB sv.t ⟨0, [⟨5, 3, 0⟩], [], false⟩ = ⟨0, [⟨5, 2, 1⟩], [], false⟩ by rw [hsv]; rfl)
  have E6 := Lib.hid (show dueV sv.t ⟨0, [⟨5, 2, 1⟩], [], false⟩ = 15 ∧ useOk ⟨0, [⟨5, 2, 1⟩], [], false⟩ = true by rw [hsv]; exact ⟨rfl, rfl⟩)
  have E7 := Lib.hid (show doneB sv.t ⟨0, [⟨5, 2, 1⟩], [], false⟩ = ⟨2, [], [⟨15, 1⟩], false⟩ by rw [hsv]; rfl)
  clear hsv
  go_enter Try.func7, Try.ntmps7
  go_wp2_with (first
    | (go_at_call 22; have _z := hb8; refine (O.free _ H S7 sv ⟨2, [], [⟨15, 1⟩], false⟩ ((O.own _ _ _).later h7.out hb8.out)).mono ?_; rintro e w9 ⟨rfl, b9⟩; have hb9 := Lib.hid (hb8.out.trans (b9.mono hb8.out.size)); obtain ⟨y0, y1⟩ := KB.out _ b9; clear b9)
    | (go_at_call 24; have _z := h7; refine (O.backs _ H S7 sv ⟨2, [], [⟨15, 1⟩], false⟩ h7.out).mono ?_; rintro e w8 ⟨ao, cap, rfl, l8', b8⟩; have l8 := l8'.wider (Nat.zero_le _) (Nat.le_refl _); have hb8 := Lib.hid b8; obtain ⟨bb, off, rfl, _, _, _⟩ := bks_read (l := [⟨15, 1⟩]) rfl l8 w8 (Below.refl _ _) 0 (by simp); have KB : Hid (∀ Y, Below w8.heap.size w8 Y → Y.cell? ⟨bb, off, none⟩ = some (.int .i64 15) ∧ Y.cell? ⟨bb, off + 1, none⟩ = some (.int .i64 1)) := Lib.hid (fun Y hY => by
         obtain ⟨b2, o2, e2, z0, z1, _⟩ := bks_read (l := [⟨15, 1⟩]) rfl l8 Y hY 0 (by simp)
         cases e2
         exact ⟨by simpa using z0, by simpa using z1⟩)
       clear l8 l8' b8)
    | (go_at_call 14; have _z := hb6; refine (O.done_ _ H S5 sv ⟨0, [⟨5, 2, 1⟩], [], false⟩ ((O.own _ _ _).later h5.out hb6.out)).mono ?_; rintro e w7 ⟨S7, rfl, h7', g7'⟩; rw [E7.out] at h7'; have h7 := Lib.hid h7'; have g7 := Lib.hid (g7'.step (g5.out.1.trans (hb6.out.mono g5.out.1.size)) g5.out.2); clear h7' g7')
    | (go_at_call 26; have _z := h5; refine (O.due _ H S5 sv ⟨0, [⟨5, 2, 1⟩], [], false⟩ h5.out).mono ?_; rintro e w6 ⟨rfl, b6⟩; rw [E6.out.1, E6.out.2]; have hb6 := Lib.hid b6; clear b6)
    | (go_at_call 12; have _z := h4; refine (O.use _ H S4 sv ⟨0, [⟨5, 3, 0⟩], [], false⟩ h4.out).mono ?_; rintro e w5 ⟨S5, rfl, h5', g5'⟩; rw [E5.out] at h5'; have h5 := Lib.hid h5'; have g5 := Lib.hid (g5'.step g4.out.1 g4.out.2); clear h5' g5')
    | (go_at_call 10; have _z := h3; refine (O.go _ H S3 sv (resetB 3) 5 true (by decide) (by decide) h3.out).mono ?_; rintro e w4 ⟨S4, rfl, h4', g4'⟩; rw [E4.out] at h4'; have h4 := Lib.hid h4'; have g4 := Lib.hid (g4'.step g3.out.1 g3.out.2); clear h4' g4')
    | (go_at_call 8; refine HN.out.mono ?_; rintro e w3 ⟨H, S3, rfl, h3', s3', b3'⟩; have h3 := Lib.hid h3'; have g3 := Lib.hid (And.intro b3' s3'); clear h3' s3' b3')
    | fail "no arm")
  go_ret
  exact ⟨rfl, g7.out.1.trans (hb9.out.mono g7.out.1.size)⟩
end Go.Proofs.Ytoofkeeoolgpdaa
