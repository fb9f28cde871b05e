/- The program's budget: end; what is back: the closure, IndexFunc, DeleteFunc, takeBack. -/
import Derived.Test.YtoofkeeoolgpdaaChunkQ
import Derived.Deep.RegionLaw
import Derived.Deep.RegionHeld3
namespace Go.Proofs.Ytoofkeeoolgpdaa
open Go.ChangeShapes Go.WideShapes Go.ChangeAt Go.RowKit
set_option linter.unusedVariables false

theorem grow_but {S : Nat → Prop} {H : Nat} {w w' : World} (h : But H w w') (hH : S H) : GrowS S S w w' := ⟨h.os, h.tape, h.output, h.size, fun k hk hn => h.block k hk (fun e => hn (e ▸ hH)), fun k hk => .inl hk⟩
theorem CkB.drew {w : World} {H : Nat} {s : Sv} {f : Int} {st : Bool} {la ea : Option Addr} {lc ec : Nat} {lv en : List Wn} (h : CkB w H s f st la lc lv ea ec en) : CkB w.drew H s f st la lc lv ea ec en := h.later (Below.refl _ _).drew
/-- What ended, with one more if it was used. -/
def endL (x : Wn) (en : List Wn) : List Wn := if 0 < x.part then en ++ [x] else en
set_option maxRecDepth 100000 in
set_option maxHeartbeats 4000000 in
theorem end_ck (w : World) (H : Nat) (s : Sv) (f : Int) (st : Bool) (la ea : Option Addr) (lc ec : Nat) (lv en : List Wn) (h : CkB w H s f st la lc lv ea ec en) (hl : en.length ≤ 1000) (x : Wn) (hf : 0 ≤ f ∧ f ≤ 1000) (hx : 0 ≤ x.len ∧ x.len ≤ 1000) :
    Calls Try.prog 35 #[.pointer (some ⟨H, 0, none⟩), .agg #[.int .i64 x.at_, .int .i64 x.len, .int .i64 x.part]] w fun e w' => e = .returned (.tuple #[]) ∧ ∃ ea' ec', CkB w' H s (f + x.len) st la lc lv ea' ec' (endL x en) ∧ GrowS (Bl H la ea) (Bl H la ea') w w' := by
  obtain ⟨x0, x1, x2⟩ := x
  dsimp only at hx
  obtain ⟨i0, hi, hz0, hz1, hz2⟩ := info_parts Try.infoChk
  have HI := Lib.hid hi
  obtain ⟨V, hV⟩ : ∃ V, V = w.alloc (.cells #[.int .i64 x0, .int .i64 x1, .int .i64 x2] 45) := ⟨_, rfl⟩
  obtain ⟨E, hE⟩ : ∃ E, E = w.heap.size := ⟨_, rfl⟩
  have hbV : Below w.heap.size w V := by rw [hV]; exact below1 _ _
  have hEV : V.heap[E]? = some (.cells #[.int .i64 x0, .int .i64 x1, .int .i64 x2] 45 (0, 0)) := by rw [hV, hE]; exact heap_alloc_new _ _
  have hkV := h.later hbV
  have b4 := hkV.c4
  have f4 := hkV.fz 4
  have k1 : V.cell? ⟨E, 1, none⟩ = some (.int .i64 x1) := cell_in hEV rfl
  have hEH : E ≠ H := fun e => by have := lt_of_block h.box; omega
  have hHE : H ≠ E := fun e => hEH e.symm
  have e1 : IntKind.i64.wrap (f + x1) = f + x1 := IntWalk.i64_in _ (by omega)
  have HV := Lib.hid hV
  have HE := Lib.hid hE
  have HEV := Lib.hid hEV
  have HBV := Lib.hid hbV
  have HKV := Lib.hid hkV
  have HH := Lib.hid h
  clear hV hE hEV hbV hkV h hi
  go_enter Try.func35, Try.ntmps35
  go_upto_region 1 with fail
  rw [← HV.out, ← HE.out]
  go_region
  obtain ⟨U, hU⟩ : ∃ U, U = (V.setCell ⟨H, 4, none⟩ (.int .i64 (f + x1))).drew := ⟨_, rfl⟩
  have hBH : But H V U := by rw [hU]; exact ((But.refl H V).set 4 _).drew
  have hkU : CkB U H s (f + x1) st la lc lv ea ec en := HKV.out.boxed (by rw [hU]; exact set_at HKV.out.box) (fun k hk hn => hBH.block k hk hn)
  have hEU := hBH.at HEV.out hEH
  have b6 := hkU.c6
  obtain ⟨m, hm⟩ : ∃ m, m = en.length := ⟨_, rfl⟩
  rw [← hm] at b6 hl
  have z0 : U.cell? ⟨E, 0, none⟩ = some (.int .i64 x0) := cell_in hEU rfl
  have z1 : U.cell? ⟨E, 1, none⟩ = some (.int .i64 x1) := cell_in hEU rfl
  have z2 : U.cell? ⟨E, 2, none⟩ = some (.int .i64 x2) := cell_in hEU rfl
  have HU := Lib.hid hU
  have HKU := Lib.hid hkU
  have HBH := Lib.hid hBH
  have HM := Lib.hid hm
  rw [← HU.out]
  clear hU hkU hBH hEU hm
  by_cases q : 0 < x2
  · have t0 : decide (0 < x2) = true := decide_eq_true q
    go_upto_region 3 with fail
    have hca : ∀ o, (U.alloc o).cell? ⟨H, 6, none⟩ = some (.slice ea m ec) := fun o => Lib.cell?_alloc_some _ b6
    have hXB : Below U.heap.size U (U.alloc (.cells #[.int .i64 x0, .int .i64 x1, .int .i64 x2] 45)).drew := (below1 _ _).drew
    have hlo := HKU.out.e.later hXB
    rw [← HM.out] at hlo
    have HA : Hid (ORow (U.alloc (.cells #[.int .i64 x0, .int .i64 x1, .int .i64 x2] 45)).drew 45 3 (.slice ea m ec) m (en.flatMap Wn.cells) ∧ Lies (U.alloc (.cells #[.int .i64 x0, .int .i64 x1, .int .i64 x2] 45)).drew U.heap.size (U.heap.size + 1) (.slice (some ⟨U.heap.size, 0, none⟩) 1 1) 1 3 [.int .i64 x0, .int .i64 x1, .int .i64 x2]) := Lib.hid ⟨hlo, one_lies (heap_alloc_new U _) rfl⟩
    have HXB := Lib.hid hXB
    clear hXB hlo
    go_region_law ((refine step_append_off (by rfl) (.tmp 20) (.tmp 22) 42 (by rfl) 45 i0 _ 3 24 Try.underlying42 HI.out hz0 hz1 hz2 rfl (by omega) (.slice ea m ec) m (en.flatMap Wn.cells) (by rfl) HA.out.1 (.slice (some ⟨U.heap.size, 0, none⟩) 1 1) U.heap.size (U.heap.size + 1) 1 [.int .i64 x0, .int .i64 x1, .int .i64 x2] (by rfl) HA.out.2 (wn_one ⟨x0, x1, x2⟩) (by omega) (by simp only [maxLen]; omega) (by omega) ?_
                    intro ao cap w6 hown6 hgrow6 hob6
                    have HO6 := Lib.hid hown6
                    rw [HM.out] at hown6 hgrow6 hob6
                    have hk := HKU.out.grew_e (en' := en ++ [⟨x0, x1, x2⟩]) (f' := 0) HXB.out (by simpa [Wn.cells] using hown6) hgrow6 (by simpa using hob6)
                    rw [show (en ++ [(⟨x0, x1, x2⟩ : Wn)]).length = m + 1 by rw [HM.out]; simp] at hk
                    obtain ⟨u, hu⟩ := Option.isSome_iff_exists.1 hk.1
                    have hfz := hk.2.1
                    have HK := Lib.hid hk.2.2
                    clear hk hown6 hgrow6 hob6 HO6))
    all_goals
      go_wp2_with fail
      go_end0
      have e : endL ⟨x0, x1, x2⟩ en = en ++ [⟨x0, x1, x2⟩] := if_pos q
      rw [e]
      exact ⟨rfl, ao, cap, HK.out.1, ((GrowS.of_below HBV.out).trans (grow_but HBH.out (.inl rfl))).trans HK.out.2⟩
  · have t0 : decide (0 < x2) = false := decide_eq_false q
    go_wp2_with fail
    go_end0
    have e : endL ⟨x0, x1, x2⟩ en = en := if_neg (show ¬ 0 < x2 by omega)
    rw [e]
    exact ⟨rfl, ea, ⟨ec, HKU.out⟩, (GrowS.of_below HBV.out).trans (grow_but HBH.out (.inl rfl))⟩

/-! ### what is back -/
theorem below_drewO {B : Nat} {a w : World} (n : Nat) (h : Below B a w) : Below B a (w.drewN n) := ⟨h.os, h.tape, h.output, h.size, h.block⟩
/-- Is it back by now? -/
def bkB (t now : Int) (x : Wn) : Bool := decide (x.at_ + t ≤ now)
set_option maxRecDepth 100000 in
set_option maxHeartbeats 4000000 in
theorem back_any (w : World) (H E1 E2 : Nat) (t now : Int) (x : Wn) (b3 : w.cell? ⟨H, 3, none⟩ = some (.int .i64 t)) (bn : w.cell? ⟨E1, 0, none⟩ = some (.int .i64 now)) (bb : w.cell? ⟨E2, 0, none⟩ = some (.pointer (some ⟨H, 0, none⟩))) (ht : 1 ≤ t ∧ t ≤ 1000) (hn : 0 ≤ now ∧ now ≤ 1099511627776) (hx : 0 ≤ x.at_ ∧ x.at_ ≤ 1099511627776) :
    Calls Try.prog 41 #[.agg #[.int .i64 x.at_, .int .i64 x.len, .int .i64 x.part], .pointer (some ⟨E1, 0, none⟩), .pointer (some ⟨E2, 0, none⟩)] w fun e w' => e = .returned (.bool (bkB t now x)) ∧ Below w.heap.size w w' := by
  obtain ⟨x0, x1, x2⟩ := x
  dsimp only at hx
  obtain ⟨V, hV⟩ : ∃ V, V = w.alloc (.cells #[.int .i64 x0, .int .i64 x1, .int .i64 x2] 45) := ⟨_, rfl⟩
  obtain ⟨E, hE⟩ : ∃ E, E = w.heap.size := ⟨_, rfl⟩
  have hbV : Below w.heap.size w V := by rw [hV]; exact below1 _ _
  have hEV : V.heap[E]? = some (.cells #[.int .i64 x0, .int .i64 x1, .int .i64 x2] 45 (0, 0)) := by rw [hV, hE]; exact heap_alloc_new _ _
  have c3 : V.cell? ⟨H, 3, none⟩ = some (.int .i64 t) := by rw [hV]; exact Lib.cell?_alloc_some _ b3
  have cn : V.cell? ⟨E1, 0, none⟩ = some (.int .i64 now) := by rw [hV]; exact Lib.cell?_alloc_some _ bn
  have cb : V.cell? ⟨E2, 0, none⟩ = some (.pointer (some ⟨H, 0, none⟩)) := by rw [hV]; exact Lib.cell?_alloc_some _ bb
  have z0 : V.cell? ⟨E, 0, none⟩ = some (.int .i64 x0) := cell_in hEV rfl
  have HV := Lib.hid hV
  have HE := Lib.hid hE
  have HBV := Lib.hid hbV
  clear hV hE hEV hbV b3 bn bb
  by_cases q : x0 ≤ now
  · have t0 : decide (x0 ≤ now) = true := decide_eq_true q
    have hr : bkB t now ⟨x0, x1, x2⟩ = decide (t ≤ now - x0) := by
      unfold bkB; dsimp only; rw [decide_eq_decide]; omega
    rw [hr]
    go_enter Try.func41, Try.ntmps41
    go_upto_region 1 with fail
    rw [← HV.out, ← HE.out]
    go_quiet (fail)
    go_wp2_with fail
    go_ret
    exact ⟨rfl, below_drewO _ HBV.out⟩
  · have t0 : decide (x0 ≤ now) = false := decide_eq_false q
    have hr : bkB t now ⟨x0, x1, x2⟩ = false := decide_eq_false (by dsimp only; omega)
    rw [hr]
    go_enter Try.func41, Try.ntmps41
    go_upto_region 1 with fail
    rw [← HV.out, ← HE.out]
    go_quiet (fail)
    go_wp2_with fail
    go_ret
    exact ⟨rfl, below_drewO _ HBV.out⟩
end Go.Proofs.Ytoofkeeoolgpdaa
