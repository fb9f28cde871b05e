/- JournalWords. -/
import Derived.Test.YtebjgfdkmociaaaDoorJrnK
import Derived.Test.YtebjgfdkmociaaaDoorJrnO
import Derived.Test.YtebjgfdkmociaaaDoorJrnT
namespace Go.Proofs.YtebjgfdkmociaaaDoor
open Go.ChangeShapes Go.WideShapes Go.ChangeAt Go.RowKit
set_option linter.unusedVariables false

set_option maxRecDepth 100000 in
set_option maxHeartbeats 8000000 in
theorem JournalWords_walk (kind : Int) (a1 : Option Addr) (n1 c1 : Nat) (a2 : Option Addr) (n2 c2 : Nat) (w : World) (hT : WdOk w) (l1 l2 : List Ent) (hk : I64 kind) (hn1 : l1.length = n1) (hl1 : Lies w 0 w.heap.size (.slice a1 n1 c1) n1 4 (l1.flatMap Ent.cells)) (_hi1 : ∀ x ∈ l1, x.In) (hn2 : l2.length = n2) (hl2 : Lies w 0 w.heap.size (.slice a2 n2 c2) n2 4 (l2.flatMap Ent.cells)) (_hi2 : ∀ x ∈ l2, x.In) :
    Calls Tryd.prog 4 #[.int .i64 kind, .slice a1 n1 c1, .slice a2 n2 c2] w fun e w' => e = .returned (.bool true) ∧ Below w.heap.size w w' := by
  have HT := Lib.hid hT
  have HK := Lib.hid (fun (W : World) (hW : Below w.heap.size w W) => knows23_any W (HT.out.later hW))
  have HB0 : Hid (Below w.heap.size w w) := Lib.hid (Below.refl _ _)
  by_cases hb1 : 100 < n1
  · have t1 : decide ((100 : Int) < (n1 : Int)) = true := decide_eq_true (by omega)
    clear hl1 hl2 hn1 hn2 hb1 hT
    go_enter Tryd.func4, Tryd.ntmps4
    go_wp2_with (go_at_call 5; refine (HK.out _ HB0.out).mono ?_; rintro e w3 ⟨rfl, hb3⟩)
    go_ret
    exact ⟨rfl, hb3⟩
  have t1 : decide ((100 : Int) < (n1 : Int)) = false := decide_eq_false (by omega)
  by_cases hb2 : 100 < n2
  · have t2 : decide ((100 : Int) < (n2 : Int)) = true := decide_eq_true (by omega)
    clear hl1 hl2 hn1 hn2 hb1 hb2 hT
    go_enter Tryd.func4, Tryd.ntmps4
    go_wp2_with (go_at_call 5; refine (HK.out _ HB0.out).mono ?_; rintro e w3 ⟨rfl, hb3⟩)
    go_ret
    exact ⟨rfl, hb3⟩
  have t2 : decide ((100 : Int) < (n2 : Int)) = false := decide_eq_false (by omega)
  have s1 : n1 ≤ 100 := by omega
  have s2 : n2 ≤ 100 := by omega
  have HO1 : Hid (∀ W : World, Below w.heap.size w W → Calls Tryd.prog 9 #[.slice a1 n1 c1] W fun e w' => ∃ ao cap, e = .returned (.slice ao n1 cap) ∧ (Lies w' 0 w'.heap.size (.slice ao n1 cap) n1 4 (l1.flatMap Ent.cells) ∧ Below w.heap.size w w' ∧ Below W.heap.size W w')) := Lib.hid (fun W hW => (jowns_any a1 n1 c1 W l1 hn1 (by omega) ((hl1.keep (SameIn.of_below hW (Nat.le_refl _))).wider (Nat.zero_le _) hW.size)).mono (by
    rintro e w' ⟨ao, cap, rfl, q1, q2⟩
    exact ⟨ao, cap, rfl, (Lies.of_owns q1).wider (Nat.zero_le _) (Nat.le_refl _), hW.trans (q2.mono hW.size), q2⟩))
  have HO2 : Hid (∀ W : World, Below w.heap.size w W → Calls Tryd.prog 9 #[.slice a2 n2 c2] W fun e w' => ∃ ao cap, e = .returned (.slice ao n2 cap) ∧ (Lies w' 0 w'.heap.size (.slice ao n2 cap) n2 4 (l2.flatMap Ent.cells) ∧ Below w.heap.size w w' ∧ Below W.heap.size W w')) := Lib.hid (fun W hW => (jowns_any a2 n2 c2 W l2 hn2 (by omega) ((hl2.keep (SameIn.of_below hW (Nat.le_refl _))).wider (Nat.zero_le _) hW.size)).mono (by
    rintro e w' ⟨ao, cap, rfl, q1, q2⟩
    exact ⟨ao, cap, rfl, (Lies.of_owns q1).wider (Nat.zero_le _) (Nat.le_refl _), hW.trans (q2.mono hW.size), q2⟩))
  have KL : Hid (∀ (W W' : World) (v : Value) (n : Nat) (xs : List Value), Lies W 0 W.heap.size v n 4 xs → Below W.heap.size W W' → Lies W' 0 W'.heap.size v n 4 xs) := Lib.hid (fun W W' v n xs h hb => (h.keep (SameIn.of_below hb (Nat.le_refl _))).wider (Nat.zero_le _) hb.size)
  obtain ⟨sw, hsw⟩ : ∃ sw, wordV kind = sw := ⟨_, rfl⟩
  obtain ⟨sb, hsb⟩ : ∃ sb, decide (l1 = l2) = sb := ⟨_, rfl⟩
  have HJ : Hid (∀ W : World, Below w.heap.size w W → Calls Tryd.prog 18 #[.int .i64 kind] W fun e w' => e = .returned (.string sw) ∧ Below w.heap.size w w') := Lib.hid (fun W hW => (jword_any kind W (HT.out.later hW)).mono (by rintro e w' ⟨rfl, q⟩; exact ⟨by rw [hsw], hW.trans (q.mono hW.size)⟩))
  have HR : Hid (∀ W : World, Below w.heap.size w W → Calls Tryd.prog 19 #[.int .i64 kind] W fun e w' => e = .returned (.string sw) ∧ Below w.heap.size w w') := Lib.hid (fun W hW => (rword_any kind W).mono (by rintro e w' ⟨rfl, q⟩; exact ⟨by rw [hsw], hW.trans (q.mono hW.size)⟩))
  have HSJ : Hid (∀ (W : World) (b1 b2 : Option Addr) (d1 d2 : Nat), Below w.heap.size w W → Lies W 0 W.heap.size (.slice b1 n1 d1) n1 4 (l1.flatMap Ent.cells) → Lies W 0 W.heap.size (.slice b2 n2 d2) n2 4 (l2.flatMap Ent.cells) → Calls Tryd.prog 20 #[.slice b1 n1 d1, .slice b2 n2 d2] W fun e w' => e = .returned (.bool sb) ∧ Below w.heap.size w w') := Lib.hid (fun W b1 b2 d1 d2 hW q1 q2 => (jsame23_any b1 b2 n1 d1 n2 d2 W l1 l2 hn1 hn2 (by omega) q1 q2).mono (by rintro e w' ⟨rfl, q⟩; exact ⟨by rw [hsb], hW.trans (q.mono hW.size)⟩))
  have HSS : Hid (∀ (W : World) (b1 b2 : Option Addr) (d1 d2 : Nat), Below w.heap.size w W → Lies W 0 W.heap.size (.slice b1 n1 d1) n1 4 (l1.flatMap Ent.cells) → Lies W 0 W.heap.size (.slice b2 n1 d2) n1 4 (l1.flatMap Ent.cells) → Calls Tryd.prog 20 #[.slice b1 n1 d1, .slice b2 n1 d2] W fun e w' => e = .returned (.bool true) ∧ Below w.heap.size w w') := Lib.hid (fun W b1 b2 d1 d2 hW q1 q2 => (jsame23_any b1 b2 n1 d1 n1 d2 W l1 l1 hn1 hn1 (by omega) q1 q2).mono (by rintro e w' ⟨rfl, q⟩; exact ⟨by rw [decide_eq_true rfl], hW.trans (q.mono hW.size)⟩))
  have HSR : Hid (∀ W : World, Below w.heap.size w W → Calls Tryd.prog 13 #[.slice a1 n1 c1, .slice a2 n2 c2] W fun e w' => e = .returned (.bool sb) ∧ Below w.heap.size w w') := Lib.hid (fun W hW => (rsame23_any a1 a2 n1 c1 n2 c2 W l1 l2 hn1 hn2 (by omega) ((hl1.keep (SameIn.of_below hW (Nat.le_refl _))).wider (Nat.zero_le _) hW.size) ((hl2.keep (SameIn.of_below hW (Nat.le_refl _))).wider (Nat.zero_le _) hW.size)).mono (by rintro e w' ⟨rfl, q⟩; exact ⟨by rw [hsb], hW.trans (q.mono hW.size)⟩))
  clear hl1 hl2 hn1 hn2 hb1 hb2 hT hsw hsb
  go_enter Tryd.func4, Tryd.ntmps4
  go_upto_region 6 with (first
    | (go_at_call 16; refine (jOf_no _ _).mono ?_; rintro e w9 ⟨rfl, hw9⟩; rw [hw9]; clear hw9)
    | (go_at_call 15; refine (jAll_no _).mono ?_; rintro e w9 ⟨rfl, hw9⟩; rw [hw9]; clear hw9)
    | (go_at_call 12; refine (jLost_no _).mono ?_; rintro e w9 ⟨rfl, hw9⟩; rw [hw9]; clear hw9)
    | (go_at_call 11; refine (jLen_no _).mono ?_; rintro e w9 ⟨rfl, hw9⟩; rw [hw9]; clear hw9)
    | (go_at_call 8; refine (jAdd_no _ _).mono ?_; rintro e w9 ⟨rfl, hw9⟩; rw [hw9]; clear hw9)
    | (go_at_call 9; refine (HO1.out _ HB0.out).mono ?_; rintro e w1 ⟨ao1, cap1, rfl, q1⟩; have h1 := Lib.hid q1; clear q1)
    | fail "no arm")
  obtain ⟨U, hU⟩ : ∃ U, U = w1.alloc (.cells #[.int .i64 kind] 3) := ⟨_, rfl⟩
  have HU : Hid (Below w.heap.size w U) := Lib.hid (by rw [hU]; exact h1.out.2.1.alloc h1.out.2.1.size _)
  rw [← hU]
  clear hU
  go_wp2_with (first
    | (go_at_call 5; refine (HK.out _ k8.out).mono ?_; rintro e w9 ⟨rfl, q9⟩; have h9 := Lib.hid q9; clear q9)
    | (go_at_call 20; have _z := h7; refine (HSS.out _ _ _ _ _ h7.out.2.1 (KL.out _ _ _ _ _ h6.out.1 h7.out.2.2) h7.out.1).mono ?_; rintro e w8 ⟨rfl, q8⟩; have k8 := Lib.hid q8; clear q8)
    | (go_at_call 9; have _z := h6; refine (HO1.out _ h6.out.2.1).mono ?_; rintro e w7 ⟨ao7, cap7, rfl, q7⟩; have h7 := Lib.hid q7; clear q7)
    | (go_at_call 9; have _z := k5; refine (HO1.out _ k5.out).mono ?_; rintro e w6 ⟨ao6, cap6, rfl, q6⟩; have h6 := Lib.hid q6; clear q6)
    | (go_at_call 13; have _z := k4; refine (HSR.out _ k4.out).mono ?_; rintro e w5 ⟨rfl, q5⟩; have k5 := Lib.hid q5; clear q5)
    | (go_at_call 20; have _z := g3; refine (HSJ.out _ _ _ _ _ g3.out.2.1 (KL.out _ _ _ _ _ g2.out.1 g3.out.2.2) g3.out.1).mono ?_; rintro e w4 ⟨rfl, q4⟩; have k4 := Lib.hid q4; clear q4)
    | (go_at_call 9; have _z := g2; refine (HO2.out _ g2.out.2.1).mono ?_; rintro e w3 ⟨ao3, cap3, rfl, q3⟩; have g3 := Lib.hid q3; clear q3)
    | (go_at_call 9; have _z := k2; refine (HO1.out _ k2.out).mono ?_; rintro e wb ⟨ao2, cap2, rfl, q2⟩; have g2 := Lib.hid q2; clear q2)
    | (go_at_call 19; have _z := k1; refine (HR.out _ k1.out).mono ?_; rintro e wa ⟨rfl, q1⟩; have k2 := Lib.hid q1; clear q1)
    | (go_at_call 18; refine (HJ.out _ HU.out).mono ?_; rintro e wz ⟨rfl, q1⟩; have k1 := Lib.hid q1; clear q1)
    | fail "no arm")
  go_ret
  exact ⟨by simp, k8.out.trans (h9.out.mono k8.out.size)⟩
end Go.Proofs.YtebjgfdkmociaaaDoor
