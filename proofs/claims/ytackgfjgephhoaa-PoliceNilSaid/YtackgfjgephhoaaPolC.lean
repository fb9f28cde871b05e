/- What is asked of the program's police; own, knows. -/
import Derived.Test.YtackgfjgephhoaaPolN
import Derived.Test.YtackgfjgephhoaaRead
namespace Go.Proofs.Ytackgfjgephhoaa
open Go.ChangeShapes Go.WideShapes Go.ChangeAt Go.RowKit
set_option linter.unusedVariables false

/-- The contracts of a police: of the tasks ts; la tells when each was accepted last (-1: never); hi: are low ones dropped. Its own blocks are S. -/
structure PoliceOk where
  Pl : Nat → List Tk → List Int → Bool → World → (Nat → Prop) → Prop
  own : ∀ (H : Nat) (ts : List Tk) (la : List Int) (hi : Bool), OwnP (Pl H ts la hi)
  bd : ∀ {w : World} {H : Nat} {S : Nat → Prop} {ts : List Tk} {la : List Int} {hi : Bool}, Pl H ts la hi w S → ts.length ≤ 6 ∧ (∀ x ∈ ts, okTk x = true) ∧ LaOk ts la
  new : ∀ (w : World) (a : Option Addr) (n c : Nat) (ts : List Tk), ts.length = n → Lies w 0 w.heap.size (.slice a n c) n 6 (ts.flatMap Tk.cells) → (∀ x ∈ ts, x.In) → Calls Try.prog 19 #[.slice a n c] w fun e w' => (okN ts = true → ∃ H S, e = .returned (.pointer (some ⟨H, 0, none⟩)) ∧ Pl H ts (List.replicate n (-1)) false w' S ∧ ∀ k, S k → w.heap.size ≤ k) ∧ (okN ts = false → e = .returned (.pointer none)) ∧ Below w.heap.size w w'
  take : ∀ (w : World) (H : Nat) (S : Nat → Prop) (ts : List Tk) (la : List Int) (hi : Bool) (t now : Int), Pl H ts la hi w S → Calls Try.prog 10 #[.pointer (some ⟨H, 0, none⟩), .int .i64 t, .int .i64 now] w fun e w' => ∃ S', e = .returned (.int .i64 (errP ts la hi t now)) ∧ Pl H ts (takL ts la hi t now) hi w' S' ∧ GrowS S S' w w'
  may : ∀ (w : World) (H : Nat) (S : Nat → Prop) (ts : List Tk) (la : List Int) (hi : Bool) (t now : Int), Pl H ts la hi w S → Calls Try.prog 12 #[.pointer (some ⟨H, 0, none⟩), .int .i64 t, .int .i64 now] w fun e w' => e = .returned (.int .i64 (errP ts la hi t now)) ∧ Below w.heap.size w w'
  last : ∀ (w : World) (H : Nat) (S : Nat → Prop) (ts : List Tk) (la : List Int) (hi : Bool) (t : Int), Pl H ts la hi w S → Calls Try.prog 15 #[.pointer (some ⟨H, 0, none⟩), .int .i64 t] w fun e w' => e = .returned (.tuple #[.int .i64 (lastV ts la t), .bool (wasV ts la t)]) ∧ Below w.heap.size w w'
  drop : ∀ (w : World) (H : Nat) (S : Nat → Prop) (ts : List Tk) (la : List Int) (hi : Bool) (b : Bool), Pl H ts la hi w S → Calls Try.prog 14 #[.pointer (some ⟨H, 0, none⟩), .bool b] w fun e w' => ∃ S', e = .returned (.tuple #[]) ∧ Pl H ts la b w' S' ∧ GrowS S S' w w'
  dropped : ∀ (w : World) (H : Nat) (S : Nat → Prop) (ts : List Tk) (la : List Int) (hi : Bool) (t : Int), Pl H ts la hi w S → Calls Try.prog 16 #[.pointer (some ⟨H, 0, none⟩), .int .i64 t] w fun e w' => e = .returned (.bool (dropV ts hi t)) ∧ Below w.heap.size w w'
theorem Try.infoCt16 : (Try.prog.info? 45).map (fun i => (i.zero, i.size, i.bytes)) = some (some (.agg #[.bool false, .int .i64 0, .int .i64 0, .int .i64 0, .int .i64 0, .int .i64 0]), 6, 48) := by kernel_rfl
set_option maxRecDepth 100000 in
set_option maxHeartbeats 8000000 in
theorem num16_any (k : Int) (w : World) : Calls Try.prog 9 #[.int .i64 k] w fun e w' => e = .returned (.int .i64 k) ∧ w' = w := by
  go_enter Try.func9, Try.ntmps9
  go_wp2
  go_ret
  exact ⟨rfl, rfl⟩
set_option maxRecDepth 100000 in
set_option maxHeartbeats 8000000 in
theorem own16_of (O : PoliceOk) (w : World) (a : Option Addr) (n c : Nat) (ts : List Tk) (hn : ts.length = n) (hl : Lies w 0 w.heap.size (.slice a n c) n 6 (ts.flatMap Tk.cells)) (hin : ∀ x ∈ ts, x.In) (hsm : n ≤ 20) :
    Calls Try.prog 7 #[.slice a n c] w fun e w' => (okN ts = true → ∃ H S, e = .returned (.pointer (some ⟨H, 0, none⟩)) ∧ O.Pl H ts (List.replicate n (-1)) false w' S ∧ ∀ k, S k → w.heap.size ≤ k) ∧ (okN ts = false → e = .returned (.pointer none)) ∧ Below w.heap.size w w' := by
  have KA := Lib.hid (tks_read hn hl)
  have HNN := Lib.hid hn
  have HIN := Lib.hid hin
  obtain ⟨i0, hi, hz0, hz1, hz2⟩ := info_parts Try.infoCt16
  have HI := Lib.hid hi
  clear hl hn hin hi
  go_enter Try.func7, Try.ntmps7
  go_wp2_with fail
  go_loopw [3, 4] (fun s3 s4 wr => ∃ (k : Nat) (ao : Option Addr) (cap : Nat), k ≤ n ∧ s3 = .slice ao k cap ∧ s4 = .int .i64 k ∧ Hid (wr.ownsRow w.heap.size 45 6 (.slice ao k cap) k ((ts.take k).flatMap Tk.cells)) ∧ Hid (Below w.heap.size w wr)) (fun _ s _ => n - (intOf s).toNat)
  case atStart => exact ⟨0, none, 0, Nat.zero_le _, rfl, rfl, Lib.hid ⟨rfl, .inl ⟨rfl, rfl⟩⟩, Lib.hid (Below.refl _ _)⟩
  case round =>
    obtain ⟨k, ao, cap, hk, rfl, rfl, HO, HB⟩ := hrel
    by_cases hlt : k < n
    · have d0 : decide ((k : Int) < (n : Int)) = true := decide_eq_true (by omega)
      have d1 : (0 : Int) ≤ (k : Int) := by omega
      have d2 : (k : Int) < (n : Int) := by omega
      have hkL : k < ts.length := by have := HNN.out; omega
      obtain ⟨b, off, rfl, ⟨k0, k1, k2, k3, k4, k5⟩, hb⟩ := KA.out wr HB.out k hlt
      have HTK := Lib.hid (take_snoc hkL)
      obtain ⟨x, hx⟩ : ∃ x, x = tkAt ts k := ⟨_, rfl⟩
      rw [← hx] at k0 k1 k2 k3 k4 k5 HTK
      obtain ⟨x0, x1, x2, x3, x4, x5⟩ := x
      dsimp only at k0 k1 k2 k3 k4 k5
      obtain ⟨xs, hxs⟩ : ∃ xs, xs = (ts.take k).flatMap Tk.cells := ⟨_, rfl⟩
      rw [← hxs] at HO
      have HXS := Lib.hid hxs
      have HVB : Hid (Below wr.heap.size wr (wr.alloc (.cells #[.bool x0, .int .i64 x1, .int .i64 x2, .int .i64 x3, .int .i64 x4, .int .i64 x5] 45))) := Lib.hid (below1 _ _)
      have HV : Hid ((wr.alloc (.cells #[.bool x0, .int .i64 x1, .int .i64 x2, .int .i64 x3, .int .i64 x4, .int .i64 x5] 45)).ownsRow w.heap.size 45 6 (.slice ao k cap) k xs ∧ Lies (wr.alloc (.cells #[.bool x0, .int .i64 x1, .int .i64 x2, .int .i64 x3, .int .i64 x4, .int .i64 x5] 45)) wr.heap.size (wr.heap.size + 1) (.slice (some ⟨wr.heap.size, 0, none⟩) 1 1) 1 6 [.bool x0, .int .i64 x1, .int .i64 x2, .int .i64 x3, .int .i64 x4, .int .i64 x5] ∧ w.heap.size ≤ (wr.alloc (.cells #[.bool x0, .int .i64 x1, .int .i64 x2, .int .i64 x3, .int .i64 x4, .int .i64 x5] 45)).heap.size) := Lib.hid ⟨owns_later HO.out (below1 _ _), one_lies (heap_alloc_new _ _) rfl, by have := HB.out.size; simp; omega⟩
      clear hb hx hxs hkL
      go_wp2_with (first
        | (refine wpList_append_lie2 (by rfl) (.tmp 11) (.tmp 16) 49 (by rfl) w.heap.size 45 i0 _ 6 48 Try.underlying49 HI.out hz0 hz1 hz2 rfl (by omega) (.slice ao k cap) k xs (by rfl) HV.out.1 (.slice (some ⟨wr.heap.size, 0, none⟩) 1 1) wr.heap.size (wr.heap.size + 1) 1 [.bool x0, .int .i64 x1, .int .i64 x2, .int .i64 x3, .int .i64 x4, .int .i64 x5] (by rfl) HV.out.2.1 (tk_one ⟨x0, x1, x2, x3, x4, x5⟩) (k + 1) rfl (by simp only [maxLen]; omega) (by omega) HV.out.2.2 ?_
           intro ao2 cap2 w6 hown6' hgrow6' hob6'
           have hown6 := Lib.hid hown6'
           have hb6 : Hid (Below w.heap.size w w6) := Lib.hid ((HB.out.trans (HVB.out.mono HB.out.size)).grown hgrow6' (by have := HVB.out.size; have := HB.out.size; omega) (fun q hq => (owns_block HV.out.1 q hq).1))
           clear hown6' hgrow6' hob6')
        | fail "no arm")
      go_roundw
      case rel => exact ⟨k + 1, ao2, cap2, by omega, rfl, by go_num, Lib.hid (by
        have h6 := hown6.out
        rw [HXS.out] at h6
        rw [HTK.out, List.flatMap_append]
        simpa [tk_cells] using h6), hb6⟩
      case measure => simp [intOf]; omega
    · have d0 : decide ((k : Int) < (n : Int)) = false := decide_eq_false (by omega)
      have hkn : k = n := by omega
      subst hkn
      have hts : ts.take k = ts := List.take_of_length_le (by have := HNN.out; omega)
      have HL : Hid (Lies wr 0 wr.heap.size (.slice ao k cap) k 6 (ts.flatMap Tk.cells)) := Lib.hid (by
        have := Lies.of_owns HO.out
        rw [hts] at this
        exact this.wider (Nat.zero_le _) (Nat.le_refl _))
      clear hts
      cases hok : okN ts with
      | true =>
        have HOK := Lib.hid hok
        have hN := (O.new wr ao k cap ts HNN.out HL.out HIN.out).mono (fun e w' h => And.intro (h.1 hok) h.2.2)
        have HN := Lib.hid hN
        clear hN hok
        go_wp2_with (first
          | (go_at_call 19; refine HN.out.mono ?_; rintro e w5 ⟨⟨H, S, rfl, g1, g2⟩, g3⟩; have g1' := Lib.hid g1; have g2' := Lib.hid g2; have g3' := Lib.hid g3; clear g1 g2 g3)
          | fail "no arm")
        go_ret
        exact ⟨fun _ => ⟨H, S, rfl, g1'.out, fun j hj => Nat.le_trans HB.out.size (g2'.out j hj)⟩, fun h => (by rw [HOK.out] at h; cases h), HB.out.trans (g3'.out.mono HB.out.size)⟩
      | false =>
        have HOK := Lib.hid hok
        have hN := (O.new wr ao k cap ts HNN.out HL.out HIN.out).mono (fun e w' h => And.intro (h.2.1 hok) h.2.2)
        have HN := Lib.hid hN
        clear hN hok
        go_wp2_with (first
          | (go_at_call 19; refine HN.out.mono ?_; rintro e w5 ⟨rfl, g3⟩; have g3' := Lib.hid g3; clear g3)
          | fail "no arm")
        go_ret
        exact ⟨fun h => (by rw [HOK.out] at h; cases h), fun _ => rfl, HB.out.trans (g3'.out.mono HB.out.size)⟩
set_option maxRecDepth 100000 in
set_option maxHeartbeats 8000000 in
theorem knows16_of (O : PoliceOk) (w : World) : Calls Try.prog 6 #[] w fun e w' => e = .returned (.bool true) ∧ Below w.heap.size w w' := by
  have hN := O.new (w.alloc (.cells #[.bool false, .int .i64 10, .int .i64 10, .int .i64 10, .int .i64 1, .int .i64 1] 45)) (some ⟨w.heap.size, 0, none⟩) 1 1 ([⟨false, 10, 10, 10, 1, 1⟩] : List Tk) rfl ((one_lies (heap_alloc_new _ _) rfl).wider (Nat.zero_le _) (by simp)) (by intro x hx; rw [List.mem_singleton.1 hx]; simp [Tk.In, I64])
  have HN := Lib.hid (hN.mono (fun e w' h => And.intro (h.1 (by rfl)) h.2.2))
  have HB0 : Hid (Below w.heap.size w (w.alloc (.cells #[.bool false, .int .i64 10, .int .i64 10, .int .i64 10, .int .i64 1, .int .i64 1] 45))) := Lib.hid (below1 _ _)
  have E4 := Lib.hid (show errP ([⟨false, 10, 10, 10, 1, 1⟩] : List Tk) [-1] false 0 3 = 0 ∧ takL ([⟨false, 10, 10, 10, 1, 1⟩] : List Tk) [-1] false 0 3 = [3] from ⟨rfl, rfl⟩)
  have E5 := Lib.hid (show errP ([⟨false, 10, 10, 10, 1, 1⟩] : List Tk) [3] false 0 12 = 40 ∧ takL ([⟨false, 10, 10, 10, 1, 1⟩] : List Tk) [3] false 0 12 = [3] from ⟨rfl, rfl⟩)
  have E6 := Lib.hid (show errP ([⟨false, 10, 10, 10, 1, 1⟩] : List Tk) [3] false 0 13 = 0 ∧ takL ([⟨false, 10, 10, 10, 1, 1⟩] : List Tk) [3] false 0 13 = [13] from ⟨rfl, rfl⟩)
  have E8 := Lib.hid (show lastV ([⟨false, 10, 10, 10, 1, 1⟩] : List Tk) [13] 0 = 13 ∧ wasV ([⟨false, 10, 10, 10, 1, 1⟩] : List Tk) [13] 0 = true from ⟨rfl, rfl⟩)
  have E9 := Lib.hid (show dropV ([⟨false, 10, 10, 10, 1, 1⟩] : List Tk) true 0 = true from rfl)
  have E10 := Lib.hid (show errP ([⟨false, 10, 10, 10, 1, 1⟩] : List Tk) [13] true 0 99 = 42 from rfl)
  clear hN
  go_enter Try.func6, Try.ntmps6
  go_wp2_with (first
    | (go_at_call 12; have _z := hb9; refine (O.may _ H S7 ([⟨false, 10, 10, 10, 1, 1⟩] : List Tk) [13] true 0 99 ((O.own _ _ _ _).later h7.out hb9.out)).mono ?_; rintro e w10 ⟨rfl, b10⟩; rw [E10.out]; have hb10 := Lib.hid (hb9.out.trans (b10.mono hb9.out.size)); clear b10)
    | (go_at_call 16; have _z := hb8; refine (O.dropped _ H S7 ([⟨false, 10, 10, 10, 1, 1⟩] : List Tk) [13] true 0 ((O.own _ _ _ _).later h7.out hb8.out)).mono ?_; rintro e w9 ⟨rfl, b9⟩; rw [E9.out]; have hb9 := Lib.hid (hb8.out.trans (b9.mono hb8.out.size)); clear b9)
    | (go_at_call 9; refine (num16_any _ _).mono ?_; rintro e w20 ⟨rfl, hw20⟩; rw [hw20]; clear hw20)
    | (go_at_call 15; have _z := h7; refine (O.last _ H S7 ([⟨false, 10, 10, 10, 1, 1⟩] : List Tk) [13] true 0 h7.out).mono ?_; rintro e w8 ⟨rfl, b8⟩; rw [E8.out.1, E8.out.2]; have hb8 := Lib.hid b8; clear b8)
    | (go_at_call 14; have _z := h6; refine (O.drop _ H S6 ([⟨false, 10, 10, 10, 1, 1⟩] : List Tk) [13] false true h6.out).mono ?_; rintro e w7 ⟨S7, rfl, h7', g7'⟩; have h7 := Lib.hid h7'; have g7 := Lib.hid (g7'.step g6.out.1 g6.out.2); clear h7' g7')
    | (go_at_call 10; have _z := h5; refine (O.take _ H S5 ([⟨false, 10, 10, 10, 1, 1⟩] : List Tk) [3] false 0 13 h5.out).mono ?_; rintro e w6 ⟨S6, rfl, h6', g6'⟩; rw [E6.out.2] at h6'; rw [E6.out.1]; have h6 := Lib.hid h6'; have g6 := Lib.hid (g6'.step g5.out.1 g5.out.2); clear h6' g6')
    | (go_at_call 10; have _z := h4; refine (O.take _ H S4 ([⟨false, 10, 10, 10, 1, 1⟩] : List Tk) [3] false 0 12 h4.out).mono ?_; rintro e w5 ⟨S5, rfl, h5', g5'⟩; rw [E5.out.2] at h5'; rw [E5.out.1]; have h5 := Lib.hid h5'; have g5 := Lib.hid (g5'.step g4.out.1 g4.out.2); clear h5' g5')
    | (go_at_call 10; have _z := h3; refine (O.take _ H S3 ([⟨false, 10, 10, 10, 1, 1⟩] : List Tk) [-1] false 0 3 h3.out).mono ?_; rintro e w4 ⟨S4, rfl, h4', g4'⟩; rw [E4.out.2] at h4'; rw [E4.out.1]; have h4 := Lib.hid h4'; have g4 := Lib.hid (g4'.step g3.out.1 g3.out.2); clear h4' g4')
    | (go_at_call 19; refine HN.out.mono ?_; rintro e w3 ⟨⟨H, S3, rfl, h3', s3'⟩, b3'⟩; have h3 := Lib.hid h3'; have g3 := Lib.hid (And.intro (HB0.out.trans (b3'.mono HB0.out.size)) (fun k hk => Nat.le_trans HB0.out.size (s3' k hk))); clear h3' s3' b3')
    | fail "no arm")
  go_ret
  exact ⟨rfl, g7.out.1.trans (hb10.out.mono g7.out.1.size)⟩
end Go.Proofs.Ytackgfjgephhoaa
