/- A partition, the partitions, a whole system put into a writer in memory. -/
import Derived.Test.YtiombjkjoehjpaaImageD
import Derived.Test.YtiombjkjoehjpaaConfJ
namespace Go.Proofs.Ytiombjkjoehjpaa
open Go.ChangeShapes Go.WideShapes Go.ChangeAt Go.RowKit
set_option linter.unusedVariables false

def Act8 (x : Int) : Prop := 0 ≤ x ∧ x ≤ 255
def actsF (p : Pt) : List Fl := [(1, p.a0), (1, p.a1), (1, p.a2)]
/-- Few enough for 64 bits. -/
def Fair (p : Pt) : Prop := p.ts.length ≤ 4611686018427387904 ∧ p.ss.length ≤ 4611686018427387904 ∧ p.ds.length ≤ 4611686018427387904 ∧ Act8 p.a0 ∧ Act8 p.a1 ∧ Act8 p.a2
set_option maxRecDepth 100000 in
set_option maxHeartbeats 2000000 in
theorem wPart_any (X : Nat) (s : Option (List Fl)) (ta sa da : Option Addr) (tn tc sn sc dn dc : Nat) (x0 x1 x2 : Int) (w : World) (lo hi : Nat) (ts : List Tk) (ss : List Sv) (ds : List Int) (hw : WrS w X s)
    (ht : ts.length = tn) (hs : ss.length = sn) (hd : ds.length = dn) (lt : Lies w lo hi (.slice ta tn tc) tn 6 (ts.flatMap Tk.cells)) (ls : Lies w lo hi (.slice sa sn sc) sn 3 (ss.flatMap Sv.cells)) (ld : Lies w lo hi (.slice da dn dc) dn 1 (ds.flatMap intCells))
    (hX : X < lo ∨ hi ≤ X) (hhi : hi ≤ w.heap.size) (hf : Fair ⟨ts, ss, ds, x0, x1, x2⟩) (hr : Room s (ptF ⟨ts, ss, ds, x0, x1, x2⟩)) :
    Calls Try.prog 43 #[.agg #[.pointer (some ⟨X, 0, none⟩)], .agg #[.slice ta tn tc, .slice sa sn sc, .slice da dn dc, .int .u8 x0, .int .u8 x1, .int .u8 x2]] w fun e w' => e = .returned (.tuple #[]) ∧ WrS w' X (putS s (ptF ⟨ts, ss, ds, x0, x1, x2⟩)) ∧ But X w w' := by
  obtain ⟨b1, b2, b3, ⟨q0, r0⟩, ⟨q1, r1⟩, ⟨q2, r2⟩⟩ := hf
  simp only at b1 b2 b3 q0 r0 q1 r1 q2 r2
  rw [ht] at b1; rw [hs] at b2; rw [hd] at b3
  have u0 : IntKind.i64.wrap x0 = x0 := IntWalk.i64_in _ (by omega)
  have u1 : IntKind.i64.wrap x1 = x1 := IntWalk.i64_in _ (by omega)
  have u2 : IntKind.i64.wrap x2 = x2 := IntWalk.i64_in _ (by omega)
  have i0 : ∀ w, (Instr.index 56 (.agg #[.int .u8 x0, .int .u8 x1, .int .u8 x2]) (.int .i64 0)).run Try.prog w = .ok (.int .u8 x0) w := fun _ => by kernel_rfl
  have i1 : ∀ w, (Instr.index 56 (.agg #[.int .u8 x0, .int .u8 x1, .int .u8 x2]) (.int .i64 1)).run Try.prog w = .ok (.int .u8 x1) w := fun _ => by kernel_rfl
  have i2 : ∀ w, (Instr.index 56 (.agg #[.int .u8 x0, .int .u8 x1, .int .u8 x2]) (.int .i64 2)).run Try.prog w = .ok (.int .u8 x2) w := fun _ => by kernel_rfl
  have HX : X < w.heap.size := hw.lt
  have HF : Hid (ptF ⟨ts, ss, ds, x0, x1, x2⟩ = manyF tkF ts ++ (manyF svF ss ++ (manyF (fun d => [(1, d)]) ds ++ [(1, x0), (1, x1), (1, x2)]))) := Lib.hid rfl
  rw [HF.out] at hr
  have R1 := Lib.hid hr.left
  have R2 := Lib.hid hr.right.left
  have R3 := Lib.hid hr.right.right.left
  have R4 := Lib.hid hr.right.right.right
  have HLT := Lib.hid lt; have HLS := Lib.hid ls; have HLD := Lib.hid ld
  have HT := Lib.hid ht; have HS := Lib.hid hs; have HD := Lib.hid hd
  have HWS := Lib.hid hw
  clear hw ht hs hd lt ls ld hr
  go_enter Try.func43, Try.ntmps43
  go_wp2_with (first
    | (go_at_call 64
       refine (wTasks_any X s ta tn tc _ lo hi ts ((HWS.out.keep (below1 _ _)).keep (below1 _ _)) HT.out (HLT.out.keep (SameIn.of_below ((below1 w _).alloc (by simp) _) hhi)) hX (by simp; omega) b1 R1.out).mono ?_
       rintro e w1 ⟨rfl, hw1, hb1⟩
       have A1 : Hid (w1.heap[w.heap.size]? = _) := Lib.hid (hb1.at (at_alloc (heap_new_at rfl)) (show w.heap.size ≠ X by omega))
       have B1 : Hid (w1.heap[w.heap.size + 1]? = _) := Lib.hid (hb1.at (heap_new_at (by simp)) (show w.heap.size + 1 ≠ X by omega))
       have HB1 : Hid (But X w w1) := Lib.hid ((But.of_below ((below1 w _).alloc (by simp) _)).trans hb1)
       have p1 := cell_in (j := 0) A1.out rfl
       have p2 := cell_in (j := 1) B1.out rfl
       have HW1 := Lib.hid hw1
       clear hw1 hb1)
    | (go_at_call 66
       refine (wServers_any X _ sa sn sc _ lo hi ss HW1.out HS.out (HLS.out.keep (HB1.out.same hX hhi)) hX (Nat.le_trans hhi HB1.out.size) b2 R2.out).mono ?_
       rintro e w2 ⟨rfl, hw2, hb2⟩
       have A2 : Hid (w2.heap[w.heap.size]? = _) := Lib.hid (hb2.at A1.out (show w.heap.size ≠ X by omega))
       have B2 : Hid (w2.heap[w.heap.size + 1]? = _) := Lib.hid (hb2.at B1.out (show w.heap.size + 1 ≠ X by omega))
       have HB2 : Hid (But X w w2) := Lib.hid (HB1.out.trans hb2)
       have p3 := cell_in (j := 0) A2.out rfl
       have p4 := cell_in (j := 2) B2.out rfl
       have HW2 := Lib.hid hw2
       clear hw2 hb2)
    | (go_at_call 68
       refine (wDonees_any X _ da dn dc _ lo hi ds HW2.out HD.out (HLD.out.keep (HB2.out.same hX hhi)) hX (Nat.le_trans hhi HB2.out.size) b3 R3.out).mono ?_
       rintro e w3 ⟨rfl, hw3, hb3⟩
       have A3 : Hid (w3.heap[w.heap.size]? = _) := Lib.hid (hb3.at A2.out (show w.heap.size ≠ X by omega))
       have B3 : Hid (w3.heap[w.heap.size + 1]? = _) := Lib.hid (hb3.at B2.out (show w.heap.size + 1 ≠ X by omega))
       have HB3 : Hid (But X w w3) := Lib.hid (HB2.out.trans hb3)
       have p5 := cell_in (j := 3) B3.out rfl
       have p6 := cell_in (j := 4) B3.out rfl
       have p7 := cell_in (j := 5) B3.out rfl
       have HW3 := Lib.hid hw3
       clear hw3 hb3))
  go_loopw [20] (fun i wr => ∃ (k : Nat), k ≤ 3 ∧ i = .int .i64 k ∧ Hid (WrS wr X (putS (putS (putS (putS s (manyF tkF ts)) (manyF svF ss)) (manyF (fun d => [(1, d)]) ds)) (sized 1 ([x0, x1, x2].take k)))) ∧ Hid (But X w wr) ∧ Hid (wr.heap[w.heap.size]? = w3.heap[w.heap.size]?)) (fun i _ => 3 - (intOf i).toNat)
  case atStart => exact ⟨0, by omega, rfl, Lib.hid (by rw [show sized 1 ([x0, x1, x2].take 0) = [] from rfl, putS_nil]; exact HW3.out), HB3, Lib.hid rfl⟩
  case round =>
    obtain ⟨k, hk, rfl, HW, HBT, HKK⟩ := hrel
    have kb := cell_in (j := 0) (HKK.out.trans A3.out) rfl
    have hXr : X < wr.heap.size := HW.out.lt
    have HBX := Lib.hid (HKK.out.trans A3.out)
    have hbr : w.heap.size < wr.heap.size := lt_of_block HBX.out
    rcases (by omega : k = 0 ∨ k = 1 ∨ k = 2 ∨ k = 3) with rfl | rfl | rfl | rfl
    · have RX : Hid (Room (putS (putS (putS (putS s (manyF tkF ts)) (manyF svF ss)) (manyF (fun d => [(1, d)]) ds)) (sized 1 ([x0, x1, x2].take 0))) (sized 1 [x0])) := Lib.hid (by rw [show sized 1 ([x0, x1, x2].take 0) = [] from rfl, putS_nil]; have := R4.out; rw [show [((1 : Nat), x0), (1, x1), (1, x2)] = sized 1 [x0] ++ [(1, x1), (1, x2)] from rfl] at this; exact this.left)
      go_wp2_with (first
        | (go_at_call 39; refine (put_new X _ 1 [x0] wr.heap.size 1 _ (HW.out.keep (below1 _ _)) rfl (heap_new_at rfl) (by rfl) (by omega) (by omega) (by omega) RX.out).mono ?_; rintro e w4 ⟨rfl, hw4, hb4⟩))
      go_roundw
      case rel => exact ⟨1, by omega, by go_num, Lib.hid (by rw [show sized 1 ([x0, x1, x2].take 1) = sized 1 ([x0, x1, x2].take 0) ++ sized 1 [x0] from rfl, putS_append]; exact hw4), Lib.hid ((HBT.out.alloc _).trans hb4), Lib.hid ((hb4.at (at_alloc HBX.out) (show w.heap.size ≠ X by omega)).trans A3.out.symm)⟩
      case measure => simp [intOf]
    · have RX : Hid (Room (putS (putS (putS (putS s (manyF tkF ts)) (manyF svF ss)) (manyF (fun d => [(1, d)]) ds)) (sized 1 ([x0, x1, x2].take 1))) (sized 1 [x1])) := Lib.hid (by have := R4.out; rw [show [((1 : Nat), x0), (1, x1), (1, x2)] = sized 1 ([x0, x1, x2].take 1) ++ (sized 1 [x1] ++ [(1, x2)]) from rfl] at this; exact this.right.left)
      go_wp2_with (first
        | (go_at_call 39; refine (put_new X _ 1 [x1] wr.heap.size 1 _ (HW.out.keep (below1 _ _)) rfl (heap_new_at rfl) (by rfl) (by omega) (by omega) (by omega) RX.out).mono ?_; rintro e w4 ⟨rfl, hw4, hb4⟩))
      go_roundw
      case rel => exact ⟨2, by omega, by go_num, Lib.hid (by rw [show sized 1 ([x0, x1, x2].take 2) = sized 1 ([x0, x1, x2].take 1) ++ sized 1 [x1] from rfl, putS_append]; exact hw4), Lib.hid ((HBT.out.alloc _).trans hb4), Lib.hid ((hb4.at (at_alloc HBX.out) (show w.heap.size ≠ X by omega)).trans A3.out.symm)⟩
      case measure => simp [intOf]
    · have RX : Hid (Room (putS (putS (putS (putS s (manyF tkF ts)) (manyF svF ss)) (manyF (fun d => [(1, d)]) ds)) (sized 1 ([x0, x1, x2].take 2))) (sized 1 [x2])) := Lib.hid (by have := R4.out; rw [show [((1 : Nat), x0), (1, x1), (1, x2)] = sized 1 ([x0, x1, x2].take 2) ++ (sized 1 [x2]) from rfl] at this; exact this.right)
      go_wp2_with (first
        | (go_at_call 39; refine (put_new X _ 1 [x2] wr.heap.size 1 _ (HW.out.keep (below1 _ _)) rfl (heap_new_at rfl) (by rfl) (by omega) (by omega) (by omega) RX.out).mono ?_; rintro e w4 ⟨rfl, hw4, hb4⟩))
      go_roundw
      case rel => exact ⟨3, by omega, by go_num, Lib.hid (by rw [show sized 1 ([x0, x1, x2].take 3) = sized 1 ([x0, x1, x2].take 2) ++ sized 1 [x2] from rfl, putS_append]; exact hw4), Lib.hid ((HBT.out.alloc _).trans hb4), Lib.hid ((hb4.at (at_alloc HBX.out) (show w.heap.size ≠ X by omega)).trans A3.out.symm)⟩
      case measure => simp [intOf]
    · go_wp2_with fail
      (first | go_end0 | refine bodyPost_ret (results_none rfl _ _ _) rfl ?_)
      have h9 := HW.out
      rw [show sized 1 ([x0, x1, x2].take 3) = [(1, x0), (1, x1), (1, x2)] from rfl, ← putS_append, ← putS_append, ← putS_append, ← HF.out] at h9
      exact ⟨rfl, h9, HBT.out⟩
end Go.Proofs.Ytiombjkjoehjpaa
