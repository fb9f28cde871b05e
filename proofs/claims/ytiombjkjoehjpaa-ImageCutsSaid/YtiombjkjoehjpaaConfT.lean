/- Equal lists, partition by partition, field by field: plain facts; the walks of the library's slices.Equal. -/
import Derived.Test.YtiombjkjoehjpaaConfJ
import Derived.Deep.RegionHeld3
import Derived.Laws.StructEq
import Derived.ChangeKeysEq
namespace Go.Proofs.Ytiombjkjoehjpaa
open Go.ChangeShapes Go.WideShapes Go.ChangeAt Go.RowKit
set_option linter.unusedVariables false
attribute [local go_sem ↓] Go.wp_at_zero Go.wp_at_succ

def eqL {α : Type} (f : α → α → Bool) : List α → List α → Bool
  | [], [] => true
  | x :: xs, y :: ys => f x y && eqL f xs ys
  | _, _ => false
theorem eqL_len {α : Type} (f : α → α → Bool) : ∀ (xs ys : List α), xs.length ≠ ys.length → eqL f xs ys = false
  | [], [], h => by simp at h
  | [], _ :: _, _ => rfl
  | _ :: _, [], _ => rfl
  | x :: xs, y :: ys, h => by
    have := eqL_len f xs ys (by simpa using h)
    simp [eqL, this]
theorem eqL_at {α : Type} (f : α → α → Bool) : ∀ (xs ys : List α) (i : Nat) (x y : α), xs[i]? = some x → ys[i]? = some y → f x y = false → eqL f xs ys = false
  | [], _, i, x, y, h, _, _ => by simp at h
  | _ :: _, [], i, x, y, _, h, _ => by simp at h
  | a :: xs, b :: ys, 0, x, y, h1, h2, h => by
    simp at h1 h2; subst h1; subst h2; simp [eqL, h]
  | a :: xs, b :: ys, i + 1, x, y, h1, h2, h => by
    have := eqL_at f xs ys i x y (by simpa using h1) (by simpa using h2) h
    simp [eqL, this]
theorem eqL_all {α : Type} (f : α → α → Bool) : ∀ (xs ys : List α), xs.length = ys.length → (∀ (i : Nat) (x y : α), xs[i]? = some x → ys[i]? = some y → f x y = true) → eqL f xs ys = true
  | [], [], _, _ => rfl
  | [], _ :: _, h, _ => by simp at h
  | _ :: _, [], h, _ => by simp at h
  | a :: xs, b :: ys, h, g => by
    have h0 := g 0 a b rfl rfl
    have := eqL_all f xs ys (by simpa using h) fun i x y h1 h2 => g (i + 1) x y (by simpa using h1) (by simpa using h2)
    simp [eqL, h0, this]
theorem eqL_refl {α : Type} (f : α → α → Bool) (hf : ∀ x, f x x = true) (xs : List α) : eqL f xs xs = true := eqL_all f xs xs rfl fun i x y h1 h2 => by rw [h1] at h2; injection h2 with h; subst h; exact hf x
def eqTk (a b : Tk) : Bool := a.hi == b.hi && (a.t == b.t && (a.d == b.d && (a.v == b.v && (a.lo == b.lo && a.top == b.top))))
def eqSv (a b : Sv) : Bool := a.re == b.re && (a.c == b.c && a.t == b.t)
def eqWn (a b : Wn) : Bool := a.at_ == b.at_ && (a.len == b.len && a.part == b.part)
def eqCh (a b : Ch) : Bool := a.queue == b.queue && (a.from_ == b.from_ && (a.to == b.to && a.size == b.size))
def eqPt (a b : Pt) : Bool := eqL eqTk a.ts b.ts && (eqL eqSv a.ss b.ss && (eqL (fun x y => x == y) a.ds b.ds && (a.a0 == b.a0 && (a.a1 == b.a1 && a.a2 == b.a2))))
def eqCf (a b : Cf) : Bool := a.frame == b.frame && (a.margin == b.margin && (eqL eqWn a.ws b.ws && (eqL eqPt a.ps b.ps && eqL eqCh a.cs b.cs)))
theorem eqPt_refl (a : Pt) : eqPt a a = true := by
  simp [eqPt, eqL_refl eqTk (fun x => by simp [eqTk]), eqL_refl eqSv (fun x => by simp [eqSv]), eqL_refl (fun (x y : Int) => x == y) (fun x => by simp)]
theorem eqCf_refl (a : Cf) : eqCf a a = true := by
  simp [eqCf, eqL_refl eqWn (fun x => by simp [eqWn]), eqL_refl eqPt eqPt_refl, eqL_refl eqCh (fun x => by simp [eqCh])]

theorem eqInTk_conf (a0 : Bool) (a1 : Int) (a2 : Int) (a3 : Int) (a4 : Int) (a5 : Int) (b0 : Bool) (b1 : Int) (b2 : Int) (b3 : Int) (b4 : Int) (b5 : Int) (w : World) : (Op.equalIn 10000 120 (.agg #[.bool a0, .int .i64 a1, .int .i64 a2, .int .i64 a3, .int .i64 a4, .int .i64 a5]) (.agg #[.bool b0, .int .i64 b1, .int .i64 b2, .int .i64 b3, .int .i64 b4, .int .i64 b5])).run Try.prog w = .ok (eqTk ⟨a0, a1, a2, a3, a4, a5⟩ ⟨b0, b1, b2, b3, b4, b5⟩) w := by
  have hp : Try.prog.stoodInHeld 120 = false := by kernel_rfl
  have ht : Try.prog.underlying 120 = some (.struct (Try.prog.fieldsOf 120)) := by simp [Program.fieldsOf, Try.underlying120]
  rw [show (10000 : Nat) = 9999 + 1 from rfl, run_equalIn_agg w 9999 _ _ _ ht hp]
  have rI := fun (a b : Int) => run_equalIn_int (P := Try.prog) w 9998 3 .i64 .i64 a b Try.underlying3
  have rB := fun (a b : Bool) => run_equalIn_bool' (P := Try.prog) w 9998 4 a b Try.underlying4
  simp [Op.eqFields, part, Program.fieldsOf, Try.underlying120, rI, rB]
  (repeat' split) <;> simp_all [eqTk]
theorem eqInSv_conf (a0 : Bool) (a1 : Int) (a2 : Int) (b0 : Bool) (b1 : Int) (b2 : Int) (w : World) : (Op.equalIn 10000 123 (.agg #[.bool a0, .int .i64 a1, .int .i64 a2]) (.agg #[.bool b0, .int .i64 b1, .int .i64 b2])).run Try.prog w = .ok (eqSv ⟨a0, a1, a2⟩ ⟨b0, b1, b2⟩) w := by
  have hp : Try.prog.stoodInHeld 123 = false := by kernel_rfl
  have ht : Try.prog.underlying 123 = some (.struct (Try.prog.fieldsOf 123)) := by simp [Program.fieldsOf, Try.underlying123]
  rw [show (10000 : Nat) = 9999 + 1 from rfl, run_equalIn_agg w 9999 _ _ _ ht hp]
  have rI := fun (a b : Int) => run_equalIn_int (P := Try.prog) w 9998 3 .i64 .i64 a b Try.underlying3
  have rB := fun (a b : Bool) => run_equalIn_bool' (P := Try.prog) w 9998 4 a b Try.underlying4
  simp [Op.eqFields, part, Program.fieldsOf, Try.underlying123, rI, rB]
  (repeat' split) <;> simp_all [eqSv]
theorem eqInWn_conf (a0 : Int) (a1 : Int) (a2 : Int) (b0 : Int) (b1 : Int) (b2 : Int) (w : World) : (Op.equalIn 10000 71 (.agg #[.int .i64 a0, .int .i64 a1, .int .i64 a2]) (.agg #[.int .i64 b0, .int .i64 b1, .int .i64 b2])).run Try.prog w = .ok (eqWn ⟨a0, a1, a2⟩ ⟨b0, b1, b2⟩) w := by
  have hp : Try.prog.stoodInHeld 71 = false := by kernel_rfl
  have ht : Try.prog.underlying 71 = some (.struct (Try.prog.fieldsOf 71)) := by simp [Program.fieldsOf, Try.underlying71]
  rw [show (10000 : Nat) = 9999 + 1 from rfl, run_equalIn_agg w 9999 _ _ _ ht hp]
  have rI := fun (a b : Int) => run_equalIn_int (P := Try.prog) w 9998 3 .i64 .i64 a b Try.underlying3
  simp [Op.eqFields, part, Program.fieldsOf, Try.underlying71, rI]
  (repeat' split) <;> simp_all [eqWn]
theorem eqInCh_conf (a0 : Bool) (a1 : Int) (a2 : Int) (a3 : Int) (b0 : Bool) (b1 : Int) (b2 : Int) (b3 : Int) (w : World) : (Op.equalIn 10000 79 (.agg #[.bool a0, .int .i64 a1, .int .i64 a2, .int .i64 a3]) (.agg #[.bool b0, .int .i64 b1, .int .i64 b2, .int .i64 b3])).run Try.prog w = .ok (eqCh ⟨a0, a1, a2, a3⟩ ⟨b0, b1, b2, b3⟩) w := by
  have hp : Try.prog.stoodInHeld 79 = false := by kernel_rfl
  have ht : Try.prog.underlying 79 = some (.struct (Try.prog.fieldsOf 79)) := by simp [Program.fieldsOf, Try.underlying79]
  rw [show (10000 : Nat) = 9999 + 1 from rfl, run_equalIn_agg w 9999 _ _ _ ht hp]
  have rI := fun (a b : Int) => run_equalIn_int (P := Try.prog) w 9998 3 .i64 .i64 a b Try.underlying3
  have rB := fun (a b : Bool) => run_equalIn_bool' (P := Try.prog) w 9998 4 a b Try.underlying4
  simp [Op.eqFields, part, Program.fieldsOf, Try.underlying79, rI, rB]
  (repeat' split) <;> simp_all [eqCh]
theorem eqInTk_parcloseref03 (a0 : Bool) (a1 : Int) (a2 : Int) (a3 : Int) (a4 : Int) (a5 : Int) (b0 : Bool) (b1 : Int) (b2 : Int) (b3 : Int) (b4 : Int) (b5 : Int) (w : World) : (Op.equalIn 10000 121 (.agg #[.bool a0, .int .i64 a1, .int .i64 a2, .int .i64 a3, .int .i64 a4, .int .i64 a5]) (.agg #[.bool b0, .int .i64 b1, .int .i64 b2, .int .i64 b3, .int .i64 b4, .int .i64 b5])).run Try.prog w = .ok (eqTk ⟨a0, a1, a2, a3, a4, a5⟩ ⟨b0, b1, b2, b3, b4, b5⟩) w := by
  have hp : Try.prog.stoodInHeld 121 = false := by kernel_rfl
  have ht : Try.prog.underlying 121 = some (.struct (Try.prog.fieldsOf 121)) := by simp [Program.fieldsOf, Try.underlying121]
  rw [show (10000 : Nat) = 9999 + 1 from rfl, run_equalIn_agg w 9999 _ _ _ ht hp]
  have rI := fun (a b : Int) => run_equalIn_int (P := Try.prog) w 9998 3 .i64 .i64 a b Try.underlying3
  have rB := fun (a b : Bool) => run_equalIn_bool' (P := Try.prog) w 9998 4 a b Try.underlying4
  simp [Op.eqFields, part, Program.fieldsOf, Try.underlying121, rI, rB]
  (repeat' split) <;> simp_all [eqTk]
theorem eqInSv_parcloseref03 (a0 : Bool) (a1 : Int) (a2 : Int) (b0 : Bool) (b1 : Int) (b2 : Int) (w : World) : (Op.equalIn 10000 124 (.agg #[.bool a0, .int .i64 a1, .int .i64 a2]) (.agg #[.bool b0, .int .i64 b1, .int .i64 b2])).run Try.prog w = .ok (eqSv ⟨a0, a1, a2⟩ ⟨b0, b1, b2⟩) w := by
  have hp : Try.prog.stoodInHeld 124 = false := by kernel_rfl
  have ht : Try.prog.underlying 124 = some (.struct (Try.prog.fieldsOf 124)) := by simp [Program.fieldsOf, Try.underlying124]
  rw [show (10000 : Nat) = 9999 + 1 from rfl, run_equalIn_agg w 9999 _ _ _ ht hp]
  have rI := fun (a b : Int) => run_equalIn_int (P := Try.prog) w 9998 3 .i64 .i64 a b Try.underlying3
  have rB := fun (a b : Bool) => run_equalIn_bool' (P := Try.prog) w 9998 4 a b Try.underlying4
  simp [Op.eqFields, part, Program.fieldsOf, Try.underlying124, rI, rB]
  (repeat' split) <;> simp_all [eqSv]
theorem eqInWn_parcloseref03 (a0 : Int) (a1 : Int) (a2 : Int) (b0 : Int) (b1 : Int) (b2 : Int) (w : World) : (Op.equalIn 10000 72 (.agg #[.int .i64 a0, .int .i64 a1, .int .i64 a2]) (.agg #[.int .i64 b0, .int .i64 b1, .int .i64 b2])).run Try.prog w = .ok (eqWn ⟨a0, a1, a2⟩ ⟨b0, b1, b2⟩) w := by
  have hp : Try.prog.stoodInHeld 72 = false := by kernel_rfl
  have ht : Try.prog.underlying 72 = some (.struct (Try.prog.fieldsOf 72)) := by simp [Program.fieldsOf, Try.underlying72]
  rw [show (10000 : Nat) = 9999 + 1 from rfl, run_equalIn_agg w 9999 _ _ _ ht hp]
  have rI := fun (a b : Int) => run_equalIn_int (P := Try.prog) w 9998 3 .i64 .i64 a b Try.underlying3
  simp [Op.eqFields, part, Program.fieldsOf, Try.underlying72, rI]
  (repeat' split) <;> simp_all [eqWn]
theorem eqInCh_parcloseref03 (a0 : Bool) (a1 : Int) (a2 : Int) (a3 : Int) (b0 : Bool) (b1 : Int) (b2 : Int) (b3 : Int) (w : World) : (Op.equalIn 10000 80 (.agg #[.bool a0, .int .i64 a1, .int .i64 a2, .int .i64 a3]) (.agg #[.bool b0, .int .i64 b1, .int .i64 b2, .int .i64 b3])).run Try.prog w = .ok (eqCh ⟨a0, a1, a2, a3⟩ ⟨b0, b1, b2, b3⟩) w := by
  have hp : Try.prog.stoodInHeld 80 = false := by kernel_rfl
  have ht : Try.prog.underlying 80 = some (.struct (Try.prog.fieldsOf 80)) := by simp [Program.fieldsOf, Try.underlying80]
  rw [show (10000 : Nat) = 9999 + 1 from rfl, run_equalIn_agg w 9999 _ _ _ ht hp]
  have rI := fun (a b : Int) => run_equalIn_int (P := Try.prog) w 9998 3 .i64 .i64 a b Try.underlying3
  have rB := fun (a b : Bool) => run_equalIn_bool' (P := Try.prog) w 9998 4 a b Try.underlying4
  simp [Op.eqFields, part, Program.fieldsOf, Try.underlying80, rI, rB]
  (repeat' split) <;> simp_all [eqCh]
theorem eqInActs (a0 a1 a2 b0 b1 b2 : Int) (w : World) : (Op.equalIn 10000 56 (.agg #[.int .u8 a0, .int .u8 a1, .int .u8 a2]) (.agg #[.int .u8 b0, .int .u8 b1, .int .u8 b2])).run Try.prog w = .ok (a0 == b0 && (a1 == b1 && a2 == b2)) w := by
  obtain ⟨i8, h8, _, _, _⟩ := info_parts (P := Try.prog) (e := 5) (z := .int .u8 0) (size := 1) (bytes := 1) (by kernel_rfl)
  have c8 : Try.prog.cellsOf 5 = 1 := by kernel_rfl
  have r8 := fun (a b : Int) => run_equalIn_int (P := Try.prog) w 9998 5 .u8 .u8 a b Try.underlying5
  rw [show (10000 : Nat) = 9999 + 1 from rfl, run_equalIn_array w 9999 _ _ Try.underlying56 h8, c8]
  simp [Op.eqItems, List.range, List.range.loop, part, r8]
  (repeat' split) <;> simp_all
end Go.Proofs.Ytiombjkjoehjpaa
