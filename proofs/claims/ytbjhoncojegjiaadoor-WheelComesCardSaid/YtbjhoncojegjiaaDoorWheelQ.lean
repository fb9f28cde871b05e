/- The program's wheel: the timers that leave a slot. -/
import Derived.Test.YtbjhoncojegjiaaDoorWheelK
import Derived.Test.YtbjhoncojegjiaaDoorWheelP
import Derived.Test.YtbjhoncojegjiaaDoorTaken
import Derived.Shelf.Abstract
import Derived.Shelf.RegionOpen
import Derived.WalkKit
import Derived.OwnWalkIn
import Derived.TacticsInMore
import Derived.LoopNIn
import Derived.LoopIn
namespace Go.Proofs.YtbjhoncojegjiaaDoor
open Go.RowKit Go.Shelf
set_option linter.unusedVariables false
attribute [local go_sem] Oper.semAt_some

/-- How many are in a slot. -/
def lenAt (H K : Nat) (W : World) : Nat := match W.cell? ⟨H, K, none⟩ with
  | some (.slice _ n _) => n
  | _ => 0
theorem lenAt_of {H K n : Nat} {W : World} {ao : Option Addr} {cp : Nat} (h : W.cell? ⟨H, K, none⟩ = some (.slice ao n cp)) : lenAt H K W = n := by unfold lenAt; rw [h]
set_option maxRecDepth 100000 in
set_option maxHeartbeats 2000000 in
theorem leaves_in (n : Nat) (hn : 2 ≤ n) (l sb H K : Nat) (Bk : World → Prop) (I : List Nat → World → Prop) (I' : Nat → List Nat → World → Prop)
    (hbox : ∀ i W, I i W → W.cell? ⟨sb, 0, none⟩ = some (.pointer (some ⟨H, K, none⟩)))
    (hlen : ∀ i W, I i W → ∃ ao cp, W.cell? ⟨H, K, none⟩ = some (.slice ao i.length cp))
    (htake : ∀ (l : List Nat) (x : Nat) W, I (l ++ [x]) W → Calls Tryd.prog 37 #[.pointer (some ⟨H, K, none⟩)] W fun e W' => e = .returned (.int .i64 x) ∧ I' x l W' ∧ KeepsOthers W W')
    (hBk : ∀ A B, KeepsOthers A B → Bk A → Bk B)
    (hY : ∀ x i W1, I' x i W1 → Bk W1 → YieldAt Fence.wide (n - 1) Tryd.prog l #[.int .i64 x] W1 fun e W' => e = .returned (.bool true) ∧ I i W' ∧ Bk W')
    (i0 : List Nat) (W : World) (h0 : I i0 W) (hb : Bk W) :
    CallsIn Fence.wide n Tryd.prog 36 #[.func (.yield l) #[] #[], .pointer (some ⟨sb, 0, none⟩)] W fun e W' => (∃ v, e = .returned v) ∧ I [] W' ∧ Bk W' := by
  refine callsIn_of_wp Tryd.func36 rfl trivial ?_ rfl
  simp only [Tryd.ntmps36, List.size_toArray, List.length_cons, List.length_nil, Nat.reduceAdd, Nat.reduceSub, Array.replicate_succ, Array.replicate_zero, List.push_toArray, List.append_toArray, List.nil_append, List.cons_append]
  gi_wp2
  gi_loopw [13] (fun _ wr => ∃ i, I i wr ∧ Bk wr) (fun _ wr => lenAt H K wr)
  case atStart => exact ⟨i0, h0, hb⟩
  case round =>
    obtain ⟨i, hi, hbk⟩ := hrel
    have c0 := hbox i _ hi
    obtain ⟨ao, cp, c1⟩ := hlen i _ hi
    rcases List.eq_nil_or_concat i with rfl | ⟨l', x, rfl⟩
    · have c2 : wr.cell? ⟨H, K, none⟩ = some (.slice ao 0 cp) := c1
      clear c1
      gi_wp2
      refine ⟨trivial, ?_⟩
      gi_wp2
      refine ⟨fun _ h => (by cases h), ?_⟩
      gi_wp2
      go_end0
      exact ⟨⟨_, rfl⟩, hi, hbk⟩
    · obtain ⟨m, hm⟩ : ∃ m, m = l'.length := ⟨_, rfl⟩
      have c2 : wr.cell? ⟨H, K, none⟩ = some (.slice ao (m + 1) cp) := by rw [hm]; simpa using c1
      have t0 : decide ((0 : Int) < (m : Int) + 1) = true := decide_eq_true (by omega)
      have HM := Lib.hid hm
      have HC := Lib.hid c2
      have HT := Lib.hid (htake l' x _ (by simpa using hi))
      have HBK := Lib.hid hbk
      clear c1 hm
      gi_wp2
      refine ⟨trivial, (fun _ => by omega), ?_⟩
      gi_at_call 37
      refine (callsIn_wide.2 HT.out).mono ?_
      rintro e w3 ⟨rfl, hi3, hk3⟩
      obtain ⟨fn, tmps, assign, body, hy, hR⟩ := hY x l' w3 hi3 (hBk _ _ hk3 HBK.out)
      gi_wp2
      refine ⟨(fun _ => by omega), hR.mono ?_⟩
      rintro e w4 ⟨rfl, hi4, hb4⟩
      gi_wp2
      go_roundw
      case rel => exact ⟨l', hi4, hb4⟩
      case measure =>
        obtain ⟨ao4, cp4, h4⟩ := hlen _ _ hi4
        rw [lenAt_of h4, lenAt_of HC.out, HM.out]
        omega
end Go.Proofs.YtbjhoncojegjiaaDoor
