/- RingOrders, out of the contracts. -/
import Derived.Test.YtigmflobiiifeaaRingC
import Derived.Laws.BytesArg
import Derived.Test.YtigmflobiiifeaaReadAct14
namespace Go.Proofs.Ytigmflobiiifeaa
open Go.ChangeShapes Go.WideShapes Go.ChangeAt Go.RowKit
set_option linter.unusedVariables false

/-- The text of a number. -/
def txt (k : Nat) : ByteArray := strOfNums [(k : Int) % 256, (k : Int) / 256]
/-- What is in: from o to i. -/
def qL (o i : Nat) : List ByteArray := (List.range' o (i - o)).map txt
theorem qL_len (o i : Nat) : (qL o i).length = i - o := by simp [qL]
theorem qL_nil (o : Nat) : qL o o = [] := by simp [qL]
theorem qL_cons {o i : Nat} (h : o < i) : qL o i = txt o :: qL (o + 1) i := by
  unfold qL
  obtain ⟨d, rfl⟩ : ∃ d, i = o + 1 + d := ⟨i - (o + 1), by omega⟩
  rw [show o + 1 + d - o = d + 1 by omega, show o + 1 + d - (o + 1) = d by omega, List.range'_succ]
  rfl
theorem qL_snoc {o i : Nat} (h : o ≤ i) : qL o i ++ [txt i] = qL o (i + 1) := by
  unfold qL
  obtain ⟨d, rfl⟩ : ∃ d, i = o + d := ⟨i - o, by omega⟩
  rw [show o + d + 1 - o = d + 1 by omega, show o + d - o = d by omega, List.range'_concat]
  simp
theorem str_two (w : World) (b : Nat) (x y : Int) (h : w.heap[b]? = some (.cells #[.int .u8 x, .int .u8 y] 5 (0, 0))) :
    (convert 46 9 (.slice (some ⟨b, 0, none⟩) 2 2)).run Try.prog w = .ok (.string (strOfNums [x, y])) w := by
  refine run_convert_bytes_arg w 46 5 Try.underlying46 Try.underlying5 b 0 2 2 [x, y] rfl (fun i hi => ?_) 9 Try.underlying9
  rcases i with _ | _ | i
  · exact cell_in h rfl
  · exact cell_in h rfl
  · exact absurd hi (by omega)
set_option maxRecDepth 100000 in
set_option maxHeartbeats 8000000 in
theorem RingOrders_of (O : RingStr) (P : RingIntB) (room : Int) (a0 : Option Addr) (n0 c0 : Nat) (w : World) (l0 : List Bool) (hroom : I64 room) (hn0 : l0.length = n0) (hl0 : Lies w 0 w.heap.size (.slice a0 n0 c0) n0 1 (l0.flatMap boolCells)) (hi0 : ∀ x ∈ l0, True) :
    Calls Try.prog 4 #[.int .i64 room, .slice a0 n0 c0] w fun e w' => e = .returned (.bool true) ∧ Below w.heap.size w w' := by
  have HK := Lib.hid (knows14_of P w)
  by_cases hbig : 300 < n0
  · have t0 : decide ((300 : Int) < (n0 : Int)) = true := decide_eq_true (by omega)
    clear hbig hn0 hl0 hi0
    go_enter Try.func4, Try.ntmps4
    go_wp2_with (go_at_call 6; refine HK.out.mono ?_; rintro e w3 ⟨rfl, hb3⟩)
    go_ret
    exact ⟨rfl, hb3⟩
  have s0 : n0 ≤ 300 := by omega
  have t0 : decide ((300 : Int) < (n0 : Int)) = false := decide_eq_false (by omega)
  have KA : Hid (∀ Y, Below w.heap.size w Y → ∀ i, i < n0 → ∃ b off v, a0 = some ⟨b, off, none⟩ ∧ Y.cell? ⟨b, off + i, none⟩ = some (.bool v)) := Lib.hid (fun Y hY i hi => by
    obtain ⟨a', c', e, _, _, hc⟩ := hl0.keep (SameIn.of_below hY (Nat.le_refl _))
    cases e
    rcases hc with h0 | ⟨b, off, rfl, _, _, hc⟩
    · omega
    · have f := flat_at boolCells 1 (fun _ => rfl) l0 i 0 _ (List.getElem?_eq_getElem (by omega)) (by omega)
      rw [show i * 1 + 0 = i by omega] at f
      exact ⟨b, off, _, rfl, hc i _ f⟩)
  clear hbig hn0 hl0 hroom hi0
  go_enter Try.func4, Try.ntmps4
  go_wp2_with (first
    | (go_at_call 22; refine (O.new room _).mono ?_; rintro e w2 ⟨H, S, rfl, hh2', hs2', hb2'⟩; have hh2 := Lib.hid hh2'; have hs2 := Lib.hid hs2'; have hb2 := Lib.hid hb2'; clear hh2' hb2' hs2')
    | (go_at_call 6; refine HK.out.mono ?_; rintro e w1 ⟨rfl, hb1'⟩; have hb1 := Lib.hid hb1'; clear hb1')
    | fail "no arm")
  have HS2 : Hid (∀ k, S k → w.heap.size ≤ k) := Lib.hid (fun k hk => Nat.le_trans hb1.out.size (hs2.out k hk))
  have HB2 : Hid (Below w.heap.size w w2) := Lib.hid (hb1.out.trans (hb2.out.mono hb1.out.size))
  clear hs2 hb2 hb1
  go_loopw [6, 7, 8] (fun s6 s7 s8 wr => ∃ (k i o : Nat) (S : Nat → Prop), k ≤ n0 ∧ i ≤ k ∧ o ≤ i ∧ s6 = .int .i64 i ∧ s7 = .int .i64 o ∧ s8 = .int .i64 k ∧ Hid (O.Rg wr H S (roomV room) (qL o i)) ∧ Hid (∀ k, S k → w.heap.size ≤ k) ∧ Hid (Below w.heap.size w wr)) (fun _ _ s _ => n0 - (intOf s).toNat)
  case atStart => exact ⟨0, 0, 0, S, Nat.zero_le _, Nat.le_refl _, Nat.le_refl _, rfl, rfl, rfl, by rw [qL_nil]; exact hh2, HS2, HB2⟩
  case round =>
    clear hh2 HS2 HB2
    obtain ⟨k, i, o, S, hk, hik, hoi, rfl, rfl, rfl, HR, HS, HB⟩ := hrel
    by_cases hlt : k < n0
    · have d0 : decide ((k : Int) < (n0 : Int)) = true := decide_eq_true (by omega)
      have d1 : (0 : Int) ≤ (k : Int) := by omega
      have d2 : (k : Int) < (n0 : Int) := by omega
      obtain ⟨b, off, v, rfl, q0⟩ := KA.out wr HB.out k hlt
      cases v with
      | true =>
        have e1 : IntKind.i64.wrap ((i : Int).tdiv 256) = ((i / 256 : Nat) : Int) := by rw [Int.tdiv_eq_ediv_of_nonneg (by omega), IntWalk.i64_in _ (by omega)]; omega
        have cv := str_two (wr.alloc (.cells #[.int .u8 ((i : Int) % 256), .int .u8 ((i : Int) / 256)] 5)) wr.heap.size _ _ (heap_alloc_new _ _)
        have HR1 : Hid (O.Rg (wr.alloc (.cells #[.int .u8 ((i : Int) % 256), .int .u8 ((i : Int) / 256)] 5)) H S (roomV room) (qL o i)) := Lib.hid (O.later HR.out (below1 _ _))
        have HB1 : Hid (Below w.heap.size w (wr.alloc (.cells #[.int .u8 ((i : Int) % 256), .int .u8 ((i : Int) / 256)] 5))) := Lib.hid (b_alloc HB.out (Nat.le_refl _) _)
        by_cases hf : ((qL o i).length : Int) < roomV room
        · have HF := Lib.hid (pushV_yes (x := txt i) hf)
          have HQ := Lib.hid (qL_snoc hoi)
          clear hf
          go_wp2_with (go_at_call 23; refine (O.push _ H S _ (qL o i) (txt i) HR1.out).mono ?_; rintro e w3 ⟨S3, rfl, h3', g3'⟩; rw [HF.out.1, HQ.out] at h3'; rw [HF.out.2]; have h3 := Lib.hid h3'; have g3 := Lib.hid (g3'.step HB1.out HS.out); clear h3' g3')
          go_roundw
          case rel => exact ⟨k + 1, i + 1, o, S3, by omega, by omega, by omega, by go_num, rfl, by go_num, h3, Lib.hid g3.out.2, Lib.hid g3.out.1⟩
          case measure => simp [intOf]; omega
        · have HF := Lib.hid (pushV_no (x := txt i) hf)
          clear hf
          go_wp2_with (go_at_call 23; refine (O.push _ H S _ (qL o i) (txt i) HR1.out).mono ?_; rintro e w3 ⟨S3, rfl, h3', g3'⟩; rw [HF.out.1] at h3'; rw [HF.out.2]; have h3 := Lib.hid h3'; have g3 := Lib.hid (g3'.step HB1.out HS.out); clear h3' g3')
          go_roundw
          case rel => exact ⟨k + 1, i, o, S3, by omega, by omega, by omega, rfl, rfl, by go_num, h3, Lib.hid g3.out.2, Lib.hid g3.out.1⟩
          case measure => simp [intOf]; omega
      | false =>
        by_cases hoi2 : o < i
        · have e1 : IntKind.i64.wrap ((o : Int).tdiv 256) = ((o / 256 : Nat) : Int) := by rw [Int.tdiv_eq_ediv_of_nonneg (by omega), IntWalk.i64_in _ (by omega)]; omega
          have t1 : decide ((o : Int) < (i : Int)) = true := decide_eq_true (by omega)
          have HF : Hid (popV (⟨#[]⟩ : ByteArray) (qL o i) = strOfNums [(o : Int) % 256, (o : Int) / 256] ∧ anyV (qL o i) = true ∧ (qL o i).tail = qL (o + 1) i) := Lib.hid (by rw [qL_cons hoi2]; exact ⟨rfl, rfl, rfl⟩)
          go_wp2_with (go_at_call 24; refine (O.pop _ H S _ (qL o i) HR.out).mono ?_; rintro e w3 ⟨S3, rfl, h3', g3'⟩; rw [HF.out.2.2] at h3'; rw [HF.out.1, HF.out.2.1]; have h3 := Lib.hid h3'; have g3 := Lib.hid (g3'.step HB.out HS.out); have cv := str_two (w3.alloc (.cells #[.int .u8 ((o : Int) % 256), .int .u8 ((o : Int) / 256)] 5)) w3.heap.size _ _ (heap_alloc_new _ _); clear h3' g3')
          go_roundw
          case rel => exact ⟨k + 1, i, o + 1, S3, by omega, by omega, by omega, rfl, by go_num, by go_num, Lib.hid (O.later h3.out (below1 _ _)), Lib.hid g3.out.2, Lib.hid (b_alloc g3.out.1 (Nat.le_refl _) _)⟩
          case measure => simp [intOf]; omega
        · obtain rfl : o = i := by omega
          have t1 : decide ((o : Int) < (o : Int)) = false := decide_eq_false (by omega)
          have HF : Hid (popV (⟨#[]⟩ : ByteArray) (qL o o) = ⟨#[]⟩ ∧ anyV (qL o o) = false ∧ (qL o o).tail = qL o o) := Lib.hid (by rw [qL_nil]; exact ⟨rfl, rfl, rfl⟩)
          go_wp2_with (go_at_call 24; refine (O.pop _ H S _ (qL o o) HR.out).mono ?_; rintro e w3 ⟨S3, rfl, h3', g3'⟩; rw [HF.out.2.2] at h3'; rw [HF.out.1, HF.out.2.1]; have h3 := Lib.hid h3'; have g3 := Lib.hid (g3'.step HB.out HS.out); clear h3' g3')
          go_roundw
          case rel => exact ⟨k + 1, o, o, S3, by omega, by omega, by omega, rfl, rfl, by go_num, h3, Lib.hid g3.out.2, Lib.hid g3.out.1⟩
          case measure => simp [intOf]; omega
    · have d0 : decide ((k : Int) < (n0 : Int)) = false := decide_eq_false (by omega)
      have hbd := O.bd HR.out
      have hl := qL_len o i
      have hle : decide (((qL o i).length : Int) ≤ roomV room) = true := decide_eq_true hbd.2.2
      have HLN := Lib.hid hl
      have hw1 : IntKind.i64.wrap ((i : Int) - (o : Int)) = ((i - o : Nat) : Int) := by rw [IntWalk.i64_in _ (by omega)]; omega
      clear hbd hl
      go_wp2_with (first
        | (go_at_call 26; have _z := hl4; refine (O.room _ _ _ _ _ (O.later HR.out (hl3.out.trans (hl4.out.mono hl3.out.size)))).mono ?_; rintro e w5 ⟨rfl, hb5'⟩; have hl5 := Lib.hid hb5'; clear hb5')
        | (go_at_call 25; have _z := hl3; refine (O.len _ _ _ _ _ (O.later HR.out hl3.out)).mono ?_; rintro e w4 ⟨rfl, hb4'⟩; have hl4 := Lib.hid hb4'; clear hb4')
        | (go_at_call 25; refine (O.len _ _ _ _ _ HR.out).mono ?_; rintro e w3 ⟨rfl, hb3'⟩; have hl3 := Lib.hid hb3'; rw [HLN.out]; clear hb3')
        | fail "no arm")
      go_ret
      refine ⟨by first | rfl | exact congrArg (fun b => Ending.returned (Value.bool b)) hle, HB.out.trans ((hl3.out.trans ((hl4.out.trans (hl5.out.mono hl4.out.size)).mono hl3.out.size)).mono HB.out.size)⟩
end Go.Proofs.Ytigmflobiiifeaa
