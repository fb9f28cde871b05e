/- What the program's verdicts are asked to be; what must come; systems that are looked through soon. -/
import Derived.Test.YtdbbdlobahalkaaAdmitV
import Derived.Test.YtdbbdlobahalkaaBoundV
import Derived.Test.YtdbbdlobahalkaaCells
import Derived.Laws.StructEq
namespace Go.Proofs.Ytdbbdlobahalkaa
open Go.ChangeShapes Go.WideShapes Go.ChangeAt Go.RowKit
set_option linter.unusedVariables false
attribute [local go_sem ↓] Go.wp_at_zero Go.wp_at_succ

def eqVd (a b : Vd) : Bool := a.kind == b.kind && (a.part == b.part && (a.high == b.high && a.t == b.t))
theorem eqVd_iff (a b : Vd) : eqVd a b = true ↔ a = b := by
  obtain ⟨a0, a1, a2, a3⟩ := a
  obtain ⟨b0, b1, b2, b3⟩ := b
  simp [eqVd]
theorem eqVd_refl (a : Vd) : eqVd a a = true := (eqVd_iff a a).2 rfl
theorem eqInVd_admit (a0 a1 : Int) (a2 : Bool) (a3 b0 b1 : Int) (b2 : Bool) (b3 : Int) (w : World) : (Op.equalIn 10000 36 (.agg #[.int .i64 a0, .int .i64 a1, .bool a2, .int .i64 a3]) (.agg #[.int .i64 b0, .int .i64 b1, .bool b2, .int .i64 b3])).run Try.prog w = .ok (eqVd ⟨a0, a1, a2, a3⟩ ⟨b0, b1, b2, b3⟩) w := by
  have hp : Try.prog.stoodInHeld 36 = false := by kernel_rfl
  have ht : Try.prog.underlying 36 = some (.struct (Try.prog.fieldsOf 36)) := by simp [Program.fieldsOf, Try.underlying36]
  rw [show (10000 : Nat) = 9999 + 1 from rfl, run_equalIn_agg w 9999 _ _ _ ht hp]
  have rI := fun (a b : Int) => run_equalIn_int (P := Try.prog) w 9998 3 .i64 .i64 a b Try.underlying3
  have rB := fun (a b : Bool) => run_equalIn_bool' (P := Try.prog) w 9998 4 a b Try.underlying4
  simp [Op.eqFields, part, Program.fieldsOf, Try.underlying36, rI, rB]
  (repeat' split) <;> simp_all [eqVd]
def JudgeOk : Prop := ∀ (w : World) (hi : Nat) (c : Cf) (pvs : List Pv) (wa pa ca : Option Addr) (wc pc cc : Nat), Few c → SysL w hi c pvs wa pa ca wc pc cc → hi ≤ w.heap.size → (∀ x ∈ c.ws, x.In) → I64 c.frame → ∀ F : Nat, ((checkV c).1 = 0 → c.frame = (F : Int)) →
    Calls Try.prog 8 #[.agg #[.int .i64 c.frame, .int .i64 c.margin, .slice wa c.ws.length wc, .slice pa c.ps.length pc, .slice ca c.cs.length cc]] w fun e w' => e = .returned (.tuple #[.agg (judgeV c F).1.cells, .int .i64 (judgeV c F).2]) ∧ Below w.heap.size w w'
def SlackOk : Prop := ∀ (w : World) (hi : Nat) (c : Cf) (pvs : List Pv) (wa pa ca : Option Addr) (wc pc cc : Nat), Few c → SysL w hi c pvs wa pa ca wc pc cc → hi ≤ w.heap.size → (∀ x ∈ c.ws, x.In) → I64 c.frame → ∀ F : Nat, ((checkV c).1 = 0 → c.frame = (F : Int)) → ∀ (p t : Int) (high : Bool),
    Calls Try.prog 10 #[.agg #[.int .i64 c.frame, .int .i64 c.margin, .slice wa c.ws.length wc, .slice pa c.ps.length pc, .slice ca c.cs.length cc], .int .i64 p, .int .i64 t, .bool high] w fun e w' => e = .returned (.tuple #[.int .i64 (slackT c F p t high).1, .bool (slackT c F p t high).2]) ∧ Below w.heap.size w w'
theorem num11_any (x : Int) (w : World) : Calls Try.prog 9 #[.int .i64 x] w fun e w' => e = .returned (.int .i64 x) ∧ w = w' := by
  go_enter Try.func9, Try.ntmps9
  go_wp2
  go_ret
  exact ⟨rfl, rfl⟩
def nearB (c : Cf) : Bool := lightB c && (decide (0 ≤ (allV c).1) || decide ((allV c).2 ≤ 2000))
set_option maxRecDepth 100000 in
set_option maxHeartbeats 2000000 in
theorem near_sys {w : World} {hi : Nat} {c : Cf} {pvs : List Pv} {wa pa ca : Option Addr} {wc pc cc : Nat} (hF : I64 c.frame) (h : SysL w hi c pvs wa pa ca wc pc cc) (hh : hi ≤ w.heap.size) :
    Calls Try.prog 5 #[.agg #[.int .i64 c.frame, .int .i64 c.margin, .slice wa c.ws.length wc, .slice pa c.ps.length pc, .slice ca c.cs.length cc]] w fun e w' => e = .returned (.bool (nearB c)) ∧ Below w.heap.size w w' := by
  obtain ⟨V, hV⟩ : ∃ V, V = w.alloc (.cells #[.int .i64 c.frame, .int .i64 c.margin, .slice wa c.ws.length wc, .slice pa c.ps.length pc, .slice ca c.cs.length cc] 26) := ⟨_, rfl⟩
  have ks : ∀ W : World, Below V.heap.size V W → W.cell? ⟨w.heap.size, 0, none⟩ = some (.int .i64 c.frame) ∧ W.cell? ⟨w.heap.size, 1, none⟩ = some (.int .i64 c.margin) ∧ W.cell? ⟨w.heap.size, 2, none⟩ = some (.slice wa c.ws.length wc) ∧ W.cell? ⟨w.heap.size, 3, none⟩ = some (.slice pa c.ps.length pc) ∧ W.cell? ⟨w.heap.size, 4, none⟩ = some (.slice ca c.cs.length cc) := fun W g => by
    rw [hV] at g
    exact boxK5 _ _ _ _ _ _ _ W g
  have hBV : Below w.heap.size w V := by rw [hV]; exact below1 _ _
  have hVw : w.heap.size < V.heap.size := by rw [hV]; simp
  have HS := Lib.hid (fun (W : World) (g : Below V.heap.size V W) => And.intro (h.keep (SameIn.of_below (hBV.trans (g.mono (Nat.le_of_lt hVw))) hh)) (Nat.le_trans (Nat.le_trans hh (Nat.le_of_lt hVw)) g.size))
  have CL := Lib.hid (light_any c.frame c.margin wa pa ca c.ws.length wc c.ps.length pc c.cs.length cc V 0 hi c pvs rfl rfl rfl (HS.out V (Below.refl _ _)).1.l2 (HS.out V (Below.refl _ _)).1.l3 (HS.out V (Below.refl _ _)).2)
  have HV := Lib.hid hV; have HBV := Lib.hid hBV; have KS := Lib.hid ks; have HF := Lib.hid hF
  clear hV hBV ks h hF
  cases hl : lightB c with
  | false =>
    have HL := Lib.hid hl
    have HN : Hid (nearB c = false) := Lib.hid (by unfold nearB; rw [hl]; rfl)
    clear hl
    go_enter Try.func5, Try.ntmps5
    go_wp2_with (first
      | (go_at_call 12; rw [← HV.out]; refine CL.out.mono ?_; rintro e w1 ⟨rfl, hb1⟩; rw [HL.out]; have HB1 := Lib.hid hb1; clear hb1))
    go_ret
    exact ⟨ret_b HN.out.symm, HBV.out.trans (HB1.out.mono (Nat.le_of_lt hVw))⟩
  | true =>
    have HL := Lib.hid hl
    have HFW := Lib.hid (light_bounds hl)
    have HN : Hid (nearB c = (decide (0 ≤ (allV c).1) || decide ((allV c).2 ≤ 2000))) := Lib.hid (by unfold nearB; rw [hl]; rfl)
    have CA := Lib.hid (fun (W : World) (g : Below V.heap.size V W) => refAll_sys HFW.out HF.out (HS.out W g).1 (HS.out W g).2)
    clear hl
    generalize (allV c).1 = e3 at *
    generalize (allV c).2 = e4 at *
    rcases Int.lt_or_le e3 0 with g | g
    · have t1 : decide (0 ≤ e3) = false := by simp; omega
      rcases Int.lt_or_le 2000 e4 with g2 | g2
      · have t2 : decide (e4 ≤ 2000) = false := by simp; omega
        go_enter Try.func5, Try.ntmps5
        go_wp2_with (first
          | (go_at_call 12; rw [← HV.out]; refine CL.out.mono ?_; rintro e w1 ⟨rfl, hb1⟩; rw [HL.out]; have HB1 := Lib.hid hb1; obtain ⟨z0, z1, z2, z3, z4⟩ := KS.out _ hb1; clear hb1)
          | (go_at_call 16; refine (CA.out _ HB1.out).mono ?_; rintro e w2 ⟨rfl, hb2⟩; have HB2 := Lib.hid (bel_thenD HB1.out (Nat.le_refl _) hb2); clear hb2))
        go_ret
        exact ⟨ret_b (by rw [HN.out, t1, t2]; rfl), HBV.out.trans (HB2.out.mono (Nat.le_of_lt hVw))⟩
      · have t2 : decide (e4 ≤ 2000) = true := by simpa using g2
        go_enter Try.func5, Try.ntmps5
        go_wp2_with (first
          | (go_at_call 12; rw [← HV.out]; refine CL.out.mono ?_; rintro e w1 ⟨rfl, hb1⟩; rw [HL.out]; have HB1 := Lib.hid hb1; obtain ⟨z0, z1, z2, z3, z4⟩ := KS.out _ hb1; clear hb1)
          | (go_at_call 16; refine (CA.out _ HB1.out).mono ?_; rintro e w2 ⟨rfl, hb2⟩; have HB2 := Lib.hid (bel_thenD HB1.out (Nat.le_refl _) hb2); clear hb2))
        go_ret
        exact ⟨ret_b (by rw [HN.out, t1, t2]; rfl), HBV.out.trans (HB2.out.mono (Nat.le_of_lt hVw))⟩
    · have t1 : decide (0 ≤ e3) = true := by simpa using g
      go_enter Try.func5, Try.ntmps5
      go_wp2_with (first
        | (go_at_call 12; rw [← HV.out]; refine CL.out.mono ?_; rintro e w1 ⟨rfl, hb1⟩; rw [HL.out]; have HB1 := Lib.hid hb1; obtain ⟨z0, z1, z2, z3, z4⟩ := KS.out _ hb1; clear hb1)
        | (go_at_call 16; refine (CA.out _ HB1.out).mono ?_; rintro e w2 ⟨rfl, hb2⟩; have HB2 := Lib.hid (bel_thenD HB1.out (Nat.le_refl _) hb2); clear hb2))
      go_ret
      exact ⟨ret_b (by rw [HN.out, t1]; rfl), HBV.out.trans (HB2.out.mono (Nat.le_of_lt hVw))⟩
/-- The system that asks for too much, or not. -/
def oneC (lo : Int) : Cf := ⟨10, 1, [⟨2, 4, 0⟩], [⟨[⟨false, 10, 10, 10, lo, lo⟩], [], [], 0, 0, 0⟩], []⟩
theorem sure11 : (checkV (oneC 4)).1 = 0 ∧ (checkV (oneC 3)).1 = 0 ∧ (judgeV (oneC 4) 10).1.kind = 1 ∧ (judgeV (oneC 4) 10).1.part = 0 ∧ (judgeV (oneC 4) 10).1.high = false ∧ (judgeV (oneC 4) 10).1.t = 10 ∧ (judgeV (oneC 4) 10).2 = 0 ∧ (slackT (oneC 4) 10 0 10 false).1 = -1 ∧ (slackT (oneC 4) 10 0 10 false).2 = true ∧
    (judgeV (oneC 3) 10).1.kind = 0 ∧ (judgeV (oneC 3) 10).1.part = 0 ∧ (judgeV (oneC 3) 10).1.high = false ∧ (judgeV (oneC 3) 10).1.t = 0 ∧ (judgeV (oneC 3) 10).2 = 0 := by decide +kernel
end Go.Proofs.Ytdbbdlobahalkaa
