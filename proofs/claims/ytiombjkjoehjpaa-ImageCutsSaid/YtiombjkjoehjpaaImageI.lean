/- A reader of numbers in memory: what is left; Read, Get, Err, Left. -/
import Derived.Test.YtiombjkjoehjpaaImageG
import Derived.Lib.SliceRun
namespace Go.Proofs.Ytiombjkjoehjpaa
open Go.ChangeShapes Go.WideShapes Go.ChangeAt Go.RowKit
set_option linter.unusedVariables false

/-- A reader in memory: block X; the bytes lie below it. -/
def Rx (w : World) (X : Nat) (e : Int) (l : List Int) : Prop := ∃ (a : Option Addr) (n c : Nat), w.heap[X]? = some (.cells #[.int .i64 e, .bool true, .slice a n c] 129 (0, 0)) ∧ l.length = n ∧ n ≤ c ∧ n ≤ 4611686018427387904 ∧ Bytes l ∧ Lies w 0 X (.slice a n c) n 1 (bts l)
theorem Rx.lt {w : World} {X : Nat} {e : Int} {l : List Int} (h : Rx w X e l) : X < w.heap.size := by obtain ⟨a, n, c, h, _⟩ := h; exact lt_of_block h
theorem Rx.keep {w w' : World} {X : Nat} {e : Int} {l : List Int} (h : Rx w X e l) (hs : SameIn w w' 0 (X + 1)) : Rx w' X e l := by
  obtain ⟨a, n, c, h1, h2, h3, h4, h5, h6⟩ := h
  exact ⟨a, n, c, (hs X (by omega) (by omega)).trans h1, h2, h3, h4, h5, h6.keep fun b hb1 hb2 => hs b hb1 (by omega)⟩
/-- What Get answers, the error behind it, and what is left. -/
def getV (e : Int) (l : List Int) (s : Nat) : Int × Int × List Int := if e = 0 then (if l.length < s then (0, 11, l) else (getL (l.take s), 0, l.drop s)) else (0, e, l)
theorem ret_bo {x y : Bool} (h : x = y) : Ending.returned (.bool x) = .returned (.bool y) := by rw [h]
theorem or_byte (a x : Int) (a0 : 0 ≤ a) (a1 : a < 281474976710656) (x0 : 0 ≤ x) (x1 : x < 256) : bits BinOp.or IntKind.i64 (a * 256) x = 256 * a + x := by
  obtain ⟨m, rfl⟩ := Int.eq_ofNat_of_zero_le a0
  obtain ⟨y, rfl⟩ := Int.eq_ofNat_of_zero_le x0
  have h := Nat.shiftLeft_add_eq_or_of_lt (i := 8) (b := y) (by omega) m
  rw [Nat.shiftLeft_eq] at h
  have e1 : BitVec.ofInt 64 ((m : Int) * 256) = BitVec.ofNat 64 (m * 256) := by
    rw [← BitVec.ofInt_natCast]; simp
  have e2 : BitVec.ofInt 64 (y : Int) = BitVec.ofNat 64 y := BitVec.ofInt_natCast ..
  have e3 : (BitVec.ofNat 64 (m * 256) ||| BitVec.ofNat 64 y).toNat = m * 256 + y := by
    rw [BitVec.toNat_or, BitVec.toNat_ofNat, BitVec.toNat_ofNat, Nat.mod_eq_of_lt (by omega), Nat.mod_eq_of_lt (by omega)]
    simpa using h.symm
  show IntKind.i64.wrap ((BitVec.ofInt 64 ((m : Int) * 256) ||| BitVec.ofInt 64 (y : Int)).toNat : Int) = _
  rw [e1, e2, e3, IntWalk.i64_in _ (by omega)]
  omega
theorem getL_take {l : List Int} {k : Nat} {x : Int} (h : l[k]? = some x) : getL (l.take (k + 1)) = 256 * getL (l.take k) + x := by
  rw [List.take_add_one, h]; simp [getL]
theorem bts_at {l : List Int} {k : Nat} {x : Int} (h : l[k]? = some x) : (bts l)[k]? = some (.int .u8 x) := by simp [bts, h]
theorem bts_drop (l : List Int) (s : Nat) : bts (l.drop s) = (bts l).drop s := by simp [bts]
theorem Bytes.drop {l : List Int} (h : Bytes l) (s : Nat) : Bytes (l.drop s) := fun x hx => h x (List.mem_of_mem_drop hx)
theorem Bytes.take {l : List Int} (h : Bytes l) (s : Nat) : Bytes (l.take s) := fun x hx => h x (List.mem_of_mem_take hx)

theorem rErr_any (X : Nat) (w : World) (e : Int) (l : List Int) (h : Rx w X e l) :
    Calls Try.prog 28 #[.pointer (some ⟨X, 0, none⟩)] w fun r w' => r = .returned (.int .i64 e) ∧ w = w' := by
  obtain ⟨a, n, c, h, _⟩ := h
  have c0 : w.cell? ⟨X, 0, none⟩ = some (.int .i64 e) := cell_in h rfl
  have c1 : w.cell? ⟨X, 1, none⟩ = some (.bool true) := cell_in h rfl
  go_enter Try.func28, Try.ntmps28
  go_wp2_with fail
  go_ret
  exact ⟨rfl, rfl⟩
theorem rLeft_any (X : Nat) (w : World) (e : Int) (l : List Int) (h : Rx w X e l) :
    Calls Try.prog 29 #[.pointer (some ⟨X, 0, none⟩)] w fun r w' => r = .returned (.int .i64 (if e = 0 then (l.length : Int) else 0)) ∧ w = w' := by
  obtain ⟨a, n, c, h, hn, _⟩ := h
  have c0 : w.cell? ⟨X, 0, none⟩ = some (.int .i64 e) := cell_in h rfl
  have c2 : w.cell? ⟨X, 2, none⟩ = some (.slice a n c) := cell_in h rfl
  by_cases he : e = 0
  · have t : (e != 0) = false := by simp [he]
    go_enter Try.func29, Try.ntmps29
    go_wp2_with (first | (go_at_call 57; refine (failed_any X _ _ c0).mono ?_; rintro e w' ⟨rfl, rfl⟩))
    go_ret
    first | exact ⟨by rw [if_pos he, hn]; rfl, rfl⟩ | exact ⟨by rw [hn]; rfl, rfl⟩ | exact ⟨rfl, rfl⟩
  · have t : (e != 0) = true := by simp [he]
    go_enter Try.func29, Try.ntmps29
    go_wp2_with (first | (go_at_call 57; refine (failed_any X _ _ c0).mono ?_; rintro e w' ⟨rfl, rfl⟩))
    go_ret
    first | exact ⟨rfl, rfl⟩ | exact ⟨by rw [if_neg he]; rfl, rfl⟩
set_option maxRecDepth 100000 in
set_option maxHeartbeats 2000000 in
theorem rNext_any (X : Nat) (w : World) (l : List Int) (s : Nat) (h : Rx w X 0 l) (s1 : 1 ≤ s) (s7 : s ≤ 7) (hs : s ≤ l.length) :
    Calls Try.prog 81 #[.pointer (some ⟨X, 0, none⟩), .int .i64 (s : Int)] w fun r w' => r = .returned (.int .i64 (getL (l.take s))) ∧ Rx w' X 0 (l.drop s) ∧ But X w w' := by
  obtain ⟨a, n, c, h, hn, hnc, hc4, hby, hl⟩ := h
  have c2 : w.cell? ⟨X, 2, none⟩ = some (.slice a n c) := cell_in h rfl
  have f2 : w.frozen? ⟨X, 2, none⟩ = false := free_in h 2
  obtain ⟨a2, c3, e2, hlen, _, hc⟩ := hl
  cases e2
  rcases hc with h0 | ⟨b, off, rfl, hb1, hb2, hc⟩
  · omega
  have HC := Lib.hid hc
  have HB := Lib.hid h
  have HBY := Lib.hid hby
  have HN := Lib.hid hn
  have HLE := Lib.hid hlen
  have i1 : (0 : Int) ≤ (s : Int) := by omega
  have i2 : (s : Int) ≤ (n : Int) := by omega
  have i3 : (s : Int) ≤ (c : Int) := by omega
  clear hc h hby hn hlen
  go_enter Try.func81, Try.ntmps81
  go_wp2_with fail
  go_loopw [5, 15] (fun acc i wr => ∃ k : Nat, k ≤ s ∧ i = .int .i64 k ∧ acc = .int .i64 (getL (l.take k)) ∧ wr = w) (fun _ i _ => s - (intOf i).toNat)
  case atStart => exact ⟨0, by omega, rfl, rfl, rfl⟩
  case round =>
    obtain ⟨k, hk, rfl, rfl, rfl⟩ := hrel
    by_cases hlt : k < s
    · have tk : decide ((k : Int) < (s : Int)) = true := by simpa using hlt
      obtain ⟨x, hx⟩ : ∃ x, l[k]? = some x := ⟨_, List.getElem?_eq_getElem (by omega)⟩
      have s0 : wr.cell? ⟨b, off + k, none⟩ = some (.int .u8 x) := HC.out k _ (bts_at hx)
      have l0 : (0 : Int) ≤ (k : Int) := by omega
      have l1 : (k : Int) < (s : Int) := by omega
      have hxb := HBY.out x (List.mem_of_getElem? hx)
      have hgb := getL_bd (l.take k) (HBY.out.take k)
      have HG := Lib.hid (getL_take hx)
      rw [List.length_take, Nat.min_eq_left (by omega)] at hgb
      have hg7 : getL (l.take k) < 281474976710656 := Int.lt_of_lt_of_le hgb.2 (by
        rcases (by omega : k = 0 ∨ k = 1 ∨ k = 2 ∨ k = 3 ∨ k = 4 ∨ k = 5 ∨ k = 6) with rfl | rfl | rfl | rfl | rfl | rfl | rfl <;> decide)
      obtain ⟨hg0, _⟩ := hgb
      obtain ⟨x0, x1⟩ := hxb
      have HO := Lib.hid (or_byte (getL (l.take k)) x hg0 hg7 x0 x1)
      clear hx
      go_wp2_with fail
      go_roundw
      case rel => exact ⟨k + 1, by omega, by go_num, by rw [HO.out, HG.out], by first | rfl | trivial⟩
      case measure => simp [intOf]; omega
    · have tk : decide ((k : Int) < (s : Int)) = false := by simp; omega
      have hks : k = s := by omega
      subst hks
      go_wp2_with fail
      all_goals
        go_ret
        refine ⟨rfl, ⟨_, n - k, _, set_at (j := 2) HB.out, by rw [List.length_drop, HN.out], by omega, by omega, HBY.out.drop k, ⟨_, _, rfl, by rw [bts_drop, List.length_drop, HLE.out]; omega, (fun h => by cases h), ?_⟩⟩, (But.refl _ _).set 2 _⟩
        first
          | exact .inl (by omega)
          | (refine .inr ⟨b, off + k, rfl, by omega, by omega, fun j u hu => ?_⟩
             rw [bts_drop, List.getElem?_drop] at hu
             have h9 := HC.out (k + j) u hu
             rw [← Nat.add_assoc] at h9
             exact ((Below.refl _ _).setCell (p := ⟨X, 2, none⟩) (B := X) (Nat.le_refl _) _).cell (p := ⟨b, off + k + j, none⟩) hb2 |>.trans h9)
theorem fail_no (X : Nat) (w : World) (e x : Int) (hc : w.cell? ⟨X, 0, none⟩ = some (.int .i64 e)) (he : ¬ e = 0) :
    Calls Try.prog 62 #[.pointer (some ⟨X, 0, none⟩), .int .i64 x] w fun r w' => r = .returned (.tuple #[]) ∧ w = w' := by
  have t : (e != 0) = true := by simp [he]
  go_enter Try.func62, Try.ntmps62
  go_wp2_with (first | (go_at_call 57; refine (failed_any X _ _ hc).mono ?_; rintro e w' ⟨rfl, rfl⟩))
  (first | go_end0 | refine bodyPost_ret (results_none rfl _ _ _) rfl ?_)
  exact ⟨rfl, rfl⟩
def hasB (e : Int) (l : List Int) (s : Nat) : Bool := decide (e = 0 ∧ s ≤ l.length)
def hasW (w : World) (X : Nat) (e : Int) (l : List Int) (s : Nat) : World := if e = 0 ∧ l.length < s then w.setCell ⟨X, 0, none⟩ (.int .i64 11) else w
set_option maxRecDepth 100000 in
set_option maxHeartbeats 2000000 in
theorem rHas_any (X : Nat) (w : World) (e : Int) (l : List Int) (s : Nat) (h : Rx w X e l) (s1 : 1 ≤ s) (s7 : s ≤ 7) :
    Calls Try.prog 80 #[.pointer (some ⟨X, 0, none⟩), .int .i64 (s : Int), .int .i64 1] w fun r w' => r = .returned (.bool (hasB e l s)) ∧ w' = hasW w X e l s := by
  obtain ⟨a, n, c, h, hn, hnc, hc4, hby, hl⟩ := h
  have c0 : w.cell? ⟨X, 0, none⟩ = some (.int .i64 e) := cell_in h rfl
  have c1 : w.cell? ⟨X, 1, none⟩ = some (.bool true) := cell_in h rfl
  have c2 : w.cell? ⟨X, 2, none⟩ = some (.slice a n c) := cell_in h rfl
  have f0 : w.frozen? ⟨X, 0, none⟩ = false := free_in h 0
  have HN := Lib.hid hn
  have z1 : (s : Int) ≠ 0 := by omega
  have z2 : ¬ (s : Int) = 0 := z1
  have z3 : ((s : Int) == 0) = false := by simp; omega
  have z4 : decide ((s : Int) = 0) = false := by simp; omega
  have hd2 := Nat.div_le_self n s
  have n3 : IntKind.i64.wrap (Int.tdiv (n : Int) (s : Int)) = (n : Int) / (s : Int) := by rw [Int.tdiv_eq_ediv_of_nonneg (by omega), ← Int.natCast_ediv]; exact IntWalk.i64_in _ ⟨Int.le_trans (by decide) (Int.natCast_nonneg _), Int.le_trans (Int.ofNat_le.2 hd2) (by omega)⟩
  have cs : (w.setCell ⟨X, 0, none⟩ (.int .i64 11)).cell? ⟨X, 0, none⟩ = some (.int .i64 11) := cell_in (set_at (j := 0) h) rfl
  clear h hby hl hn
  by_cases he : e = 0
  · subst he
    by_cases hs : n < s
    · have hd : (n : Int) / (s : Int) = 0 := by rw [← Int.natCast_ediv, Nat.div_eq_of_lt hs]; rfl
      rw [hd] at n3
      go_enter Try.func80, Try.ntmps80
      go_wp2_with (first
        | (go_at_call 61; refine (isSize_any _ _ (by omega) (by omega)).mono ?_; rintro e w' ⟨rfl, rfl⟩)
        | (go_at_call 57; refine (failed_any X _ 11 cs).mono ?_; rintro e w' ⟨rfl, rfl⟩)
        | (go_at_call 62; refine (fail_any X _ _ c0 f0).mono ?_; rintro e w' ⟨rfl, rfl⟩))
      go_ret
      exact ⟨ret_bo (by simp [hasB, HN.out]; omega), by simp [hasW, HN.out, hs]⟩
    · have hd : 1 ≤ n / s := (Nat.one_le_div_iff (by omega)).2 (by omega)
      have hd1 : 1 ≤ (n : Int) / (s : Int) := by rw [← Int.natCast_ediv]; exact Int.ofNat_le.2 hd
      have t1 : decide ((n : Int) / (s : Int) < 1) = false := by simp; exact hd1
      have t2 : decide (1 > (n : Int) / (s : Int)) = false := t1
      go_enter Try.func80, Try.ntmps80
      go_wp2_with (first
        | (go_at_call 61; refine (isSize_any _ _ (by omega) (by omega)).mono ?_; rintro e w' ⟨rfl, rfl⟩)
        | (go_at_call 57; refine (failed_any X _ 0 c0).mono ?_; rintro e w' ⟨rfl, rfl⟩))
      go_ret
      exact ⟨ret_bo (by simp [hasB, HN.out]; omega), by simp [hasW, HN.out, hs]⟩
  · have t : (e != 0) = true := by simp [he]
    have HE : Hid (hasB e l s = false ∧ hasW w X e l s = w) := Lib.hid ⟨by simp [hasB, he], by simp [hasW, he]⟩
    go_enter Try.func80, Try.ntmps80
    go_wp2_with (first
      | (go_at_call 61; refine (isSize_any _ _ (by omega) (by omega)).mono ?_; rintro e w' ⟨rfl, rfl⟩)
      | (go_at_call 62; refine (fail_no X _ _ _ c0 he).mono ?_; rintro e w' ⟨rfl, rfl⟩)
      | (go_at_call 57; refine (failed_any X _ _ c0).mono ?_; rintro e w' ⟨rfl, rfl⟩))
    all_goals
      go_ret
      exact ⟨ret_bo (by rw [HE.out.1]), by rw [HE.out.2]⟩
theorem Rx.failed {w : World} {X : Nat} {l : List Int} (h : Rx w X 0 l) (x : Int) : Rx (w.setCell ⟨X, 0, none⟩ (.int .i64 x)) X x l := by
  obtain ⟨a, n, c, h, hn, hnc, hc4, hby, hl⟩ := h
  exact ⟨a, n, c, set_at (j := 0) h, hn, hnc, hc4, hby, hl.keep (SameIn.of_below ((Below.refl _ _).setCell (p := ⟨X, 0, none⟩) (B := X) (Nat.le_refl _) _) (Nat.le_refl _))⟩
set_option maxRecDepth 100000 in
theorem rGet_any (X : Nat) (w : World) (e : Int) (l : List Int) (s : Nat) (h : Rx w X e l) (s1 : 1 ≤ s) (s7 : s ≤ 7) :
    Calls Try.prog 72 #[.pointer (some ⟨X, 0, none⟩), .int .i64 (s : Int)] w fun r w' => r = .returned (.int .i64 (getV e l s).1) ∧ Rx w' X (getV e l s).2.1 (getV e l s).2.2 ∧ But X w w' := by
  have CH := Lib.hid (rHas_any X w e l s h s1 s7)
  have HR := Lib.hid h
  by_cases he : e = 0
  · subst he
    by_cases hs : l.length < s
    · have HV : Hid (getV 0 l s = (0, 11, l)) := Lib.hid (by simp [getV, hs])
      have HB : Hid (hasB 0 l s = false) := Lib.hid (by simp [hasB]; omega)
      have HW : Hid (hasW w X 0 l s = w.setCell ⟨X, 0, none⟩ (.int .i64 11)) := Lib.hid (by simp [hasW, hs])
      clear h
      go_enter Try.func72, Try.ntmps72
      go_wp2_with (first | (go_at_call 80; refine CH.out.mono ?_; rintro e w' ⟨rfl, rfl⟩; rw [HB.out, HW.out]))
      go_ret
      rw [HV.out]
      exact ⟨rfl, HR.out.failed 11, (But.refl _ _).set 0 _⟩
    · have HV : Hid (getV 0 l s = (getL (l.take s), 0, l.drop s)) := Lib.hid (by simp [getV, hs])
      have HB : Hid (hasB 0 l s = true) := Lib.hid (by simp [hasB]; omega)
      have HW : Hid (hasW w X 0 l s = w) := Lib.hid (by simp [hasW, hs])
      have CN := Lib.hid (rNext_any X w l s h s1 s7 (by omega))
      clear h
      go_enter Try.func72, Try.ntmps72
      go_wp2_with (first
        | (go_at_call 80; refine CH.out.mono ?_; rintro e w' ⟨rfl, rfl⟩; rw [HB.out, HW.out])
        | (go_at_call 81; refine CN.out.mono ?_; rintro e w2 ⟨rfl, hr2, hb2⟩))
      go_ret
      rw [HV.out]
      exact ⟨rfl, hr2, hb2⟩
  · have HV : Hid (getV e l s = (0, e, l)) := Lib.hid (by simp [getV, he])
    have HB : Hid (hasB e l s = false) := Lib.hid (by simp [hasB, he])
    have HW : Hid (hasW w X e l s = w) := Lib.hid (by simp [hasW, he])
    clear h
    go_enter Try.func72, Try.ntmps72
    go_wp2_with (first | (go_at_call 80; refine CH.out.mono ?_; rintro e w' ⟨rfl, rfl⟩; rw [HB.out, HW.out]))
    go_ret
    rw [HV.out]
    exact ⟨rfl, HR.out, But.refl _ _⟩
theorem bts_one (l : List Int) : ∀ u ∈ bts l, u.oneCell' = true := by
  intro u hu
  obtain ⟨x, _, rfl⟩ := List.mem_map.1 hu
  rfl
set_option maxRecDepth 100000 in
set_option maxHeartbeats 2000000 in
theorem clone8_any (a : Option Addr) (n c : Nat) (w : World) (lo hi : Nat) (l : List Int) (hn : l.length = n) (hl : Lies w lo hi (.slice a n c) n 1 (bts l)) (hhi : hi ≤ w.heap.size) (hnb : n ≤ 1073741824) :
    Calls Try.prog 48 #[.slice a n c] w fun r w' => ∃ a' c', r = .returned (.slice a' n c') ∧ n ≤ c' ∧ Lies w' w.heap.size w'.heap.size (.slice a' n c') n 1 (bts l) ∧ Below w.heap.size w w' := by
  obtain ⟨i0, hi0, hz0, hz1, hz2⟩ := info_parts Try.infoU8
  have HI := Lib.hid hi0
  have HL := Lib.hid hl
  have HN := Lib.hid hn
  have H1 := Lib.hid (bts_one l)
  cases a with
  | none =>
    have hn0 : n = 0 ∧ c = 0 := by
      obtain ⟨a2, c2, e2, _, h0, _⟩ := hl
      cases e2
      exact h0 rfl
    obtain ⟨rfl, rfl⟩ := hn0
    clear hl hi0 hn
    have hq : ∀ W : World, (binOp .eql 29 (.slice none 0 0) (.slice none 0 0)).run Try.prog W = .ok (.bool true) W := fun W => Lib.run_eql_slice_nil W _ _ _ _ _ _ _ Try.underlying29
    go_enter Try.func48, Try.ntmps48
    go_wp2_with fail
    go_ret
    have : l = [] := List.eq_nil_of_length_eq_zero HN.out
    subst this
    exact ⟨none, 0, rfl, Nat.le_refl _, ⟨none, 0, rfl, rfl, fun _ => ⟨rfl, rfl⟩, .inl rfl⟩, Below.refl _ _⟩
  | some ad =>
    clear hl hi0 hn
    have hq : ∀ W : World, (binOp .eql 29 (.slice (some ad) n c) (.slice none 0 0)).run Try.prog W = .ok (.bool false) W := fun W => Lib.run_eql_slice_nil W _ _ _ _ _ _ _ Try.underlying29
    go_enter Try.func48, Try.ntmps48
    go_wp2_with (first
      | (refine wpList_append_lie (by rfl) (.tmp 5) (.tmp 6) 29 (by rfl) w.heap.size 5 i0 _ 1 1 Try.underlying29 HI.out hz0 hz1 hz2 rfl (by omega) (.slice (some ⟨w.heap.size, 0, none⟩) 0 0) 0 [] (by rfl) ((fresh_none 1).owns (heap_alloc_new w _) (Nat.le_refl _)) (.slice (some ad) n c) lo hi n _ (by rfl) (HL.out.keep (SameIn.of_below (below1 _ _) hhi)) H1.out n (by omega) (by simp [maxLen]; omega) (by omega) (by simp) ?_
         intro ao cap' w3 hown hgrow))
    go_ret
    have hb3 : Below w.heap.size w w3 := (below1 w _).grown hgrow (by simp) (fun k hk => by simp [Value.ownBlock] at hk; omega)
    have hcp : n ≤ cap' := by
      rcases hown.2 with ⟨h, h2⟩ | ⟨g, cap, cur, h, _, _, h2, _⟩
      · omega
      · cases h; exact h2
    exact ⟨ao, cap', rfl, hcp, Lies.of_owns hown, hb3⟩
set_option maxRecDepth 100000 in
theorem read_any (a : Option Addr) (n c : Nat) (w : World) (lo hi : Nat) (l : List Int) (hn : l.length = n) (hby : Bytes l) (hl : Lies w lo hi (.slice a n c) n 1 (bts l)) (hhi : hi ≤ w.heap.size) (hnb : n ≤ 1073741824) :
    Calls Try.prog 26 #[.slice a n c] w fun r w' => ∃ X, r = .returned (.pointer (some ⟨X, 0, none⟩)) ∧ w.heap.size ≤ X ∧ X + 1 = w'.heap.size ∧ Rx w' X 0 l ∧ Below w.heap.size w w' := by
  have CC := Lib.hid (clone8_any a n c w lo hi l hn hl hhi hnb)
  have HN := Lib.hid hn
  have HBY := Lib.hid hby
  clear hn hby hl
  go_enter Try.func26, Try.ntmps26
  go_wp2_with (first | (go_at_call 48; refine CC.out.mono ?_; rintro e w2 ⟨a', c', rfl, hnc, hl2, hb2⟩))
  go_ret
  refine ⟨w2.heap.size, rfl, hb2.size, by simp, ⟨a', n, c', heap_new_at rfl, HN.out, hnc, by omega, HBY.out, ?_⟩, hb2.alloc hb2.size _⟩
  exact (hl2.keep (SameIn.of_below (below1 _ _) (Nat.le_refl _))).wider (Nat.zero_le _) (Nat.le_refl _)
end Go.Proofs.Ytiombjkjoehjpaa
