/- What must come of a check. -/
import Derived.Test.YtiojmekoemlmkaaValidH
import Derived.Test.YtiojmekoemlmkaaValidJ
namespace Go.Proofs.Ytiojmekoemlmkaa
open Go.ChangeShapes Go.WideShapes Go.ChangeAt Go.RowKit
set_option linter.unusedVariables false

theorem num6_any (x : Int) (w : World) : Calls Try.prog 11 #[.int .i64 x] w fun e w' => e = .returned (.int .i64 x) ∧ Below w.heap.size w w' := by
  go_enter Try.func11, Try.ntmps11
  go_wp2
  go_ret
  exact ⟨rfl, Below.refl _ _⟩
theorem check_any (fr mg : Int) (wa pa ca : Option Addr) (wn wc pn pc cn cc : Nat) (w : World) (hi : Nat) (c : Cf) (pvs : List Pv) (hfr : c.frame = fr) (hmg : c.margin = mg) (hwn : c.ws.length = wn) (hpn : c.ps.length = pn) (hcn : c.cs.length = cn) (f : Few c) (h : SysL w hi c pvs wa pa ca wc pc cc) (hh : hi ≤ w.heap.size) (hin : ∀ x ∈ c.ws, x.In) (r1 r2 : Int) (hr : checkV c = (r1, r2)) :
    Calls Try.prog 8 #[.agg #[.int .i64 fr, .int .i64 mg, .slice wa wn wc, .slice pa pn pc, .slice ca cn cc]] w fun e w' => e = .returned (.tuple #[.int .i64 r1, .int .i64 r2]) ∧ Below w.heap.size w w' := by
  subst hfr; subst hmg; subst hwn; subst hpn; subst hcn
  refine (check_sys f h hh hin).mono ?_
  rintro e w' ⟨rfl, hb⟩
  rw [hr]
  exact ⟨rfl, hb⟩
def noPv : Pv := ⟨.slice none 0 0, .slice none 0 0, .slice none 0 0, 0, 0, 0⟩
theorem lies_nil (w : World) (hi sz : Nat) : Lies w 0 hi (.slice none 0 0) 0 sz [] := ⟨none, 0, rfl, by simp, fun _ => ⟨rfl, rfl⟩, .inl rfl⟩
theorem noPt_lies (w : World) (hi : Nat) : PtLies w 0 hi noPv noPt := ⟨lies_nil _ _ _, lies_nil _ _ _, lies_nil _ _ _, rfl, rfl, rfl⟩
theorem noPts_lie (w : World) (hi : Nat) : ∀ n, AllLie w 0 hi (List.replicate n noPv) (List.replicate n noPt)
  | 0 => .nil
  | n + 1 => .cons (noPt_lies w hi) (noPts_lie w hi n)
def sysA : Cf := ⟨0, 0, [], [], []⟩
def sysB : Cf := ⟨9, 0, [⟨0, 2, 0⟩, ⟨1, 2, 0⟩], [noPt], []⟩
def sysC : Cf := ⟨9, 0, [], [noPt, noPt], []⟩
theorem checkA : checkV sysA = (20, 0) := by decide
theorem checkB : checkV sysB = (21, 1) := by decide
theorem checkC : checkV sysC = (0, 0) := by decide
theorem fewA : Few sysA := ⟨by decide, by decide, by decide, by intro p hp; cases hp⟩
theorem fewB' : Few sysB := ⟨by decide, by decide, by decide, by intro p hp; simp [sysB] at hp; subst hp; decide⟩
theorem fewC : Few sysC := ⟨by decide, by decide, by decide, by intro p hp; simp [sysC] at hp; subst hp; decide⟩
theorem row_lies {w : World} {b n sz : Nat} {cs : Array Value} {t : TypeId} (h : w.heap[b]? = some (.cells cs t (0, 0))) (hs : cs.size = n * sz) : Lies w 0 w.heap.size (.slice (some ⟨b, 0, none⟩) n n) n sz cs.toList :=
  ⟨_, _, rfl, by simpa using hs, (fun e => by cases e), .inr ⟨b, 0, rfl, Nat.zero_le _, lt_of_block h, fun k u hu => cell_in h (by rw [Nat.zero_add]; simpa using hu)⟩⟩
theorem made1 : (madeCells (Value.agg #[.slice none 0 0, .slice none 0 0, .slice none 0 0, .int .u8 0, .int .u8 0, .int .u8 0]).cells (1 * 6)).toList = [noPv].flatMap Pv.cells := by kernel_rfl
theorem made2 : (madeCells (Value.agg #[.slice none 0 0, .slice none 0 0, .slice none 0 0, .int .u8 0, .int .u8 0, .int .u8 0]).cells (2 * 6)).toList = [noPv, noPv].flatMap Pv.cells := by kernel_rfl
set_option maxRecDepth 100000 in
set_option maxHeartbeats 4000000 in
theorem knows6_any (w : World) : Calls Try.prog 7 #[] w fun e w' => e = .returned (.bool true) ∧ Below w.heap.size w w' := by
  obtain ⟨i0, hi0, hz0, hz1, hz2⟩ := info_parts Try.infoPt_conf
  have HI := Lib.hid hi0; clear hi0
  have CA := Lib.hid (fun W => check_any 0 0 none none none 0 0 0 0 0 0 W 0 sysA [] rfl rfl rfl rfl rfl fewA ⟨lies_nil _ _ _, lies_nil _ _ _, .nil, lies_nil _ _ _⟩ (Nat.zero_le _) (by intro x hx; cases hx) 20 0 checkA)
  have CB := Lib.hid (fun W g1 g2 (h : SysL W W.heap.size sysB [noPv] (some ⟨g1, 0, none⟩) (some ⟨g2, 0, none⟩) none 2 1 0) => check_any 9 0 (some ⟨g1, 0, none⟩) (some ⟨g2, 0, none⟩) none 2 2 1 1 0 0 W W.heap.size sysB [noPv] rfl rfl rfl rfl rfl fewB' h (Nat.le_refl _) (by intro x hx; simp [sysB] at hx; rcases hx with rfl | rfl <;> (refine ⟨⟨?_, ?_⟩, ⟨?_, ?_⟩, ⟨?_, ?_⟩⟩ <;> decide)) 21 1 checkB)
  have CC := Lib.hid (fun W g2 (h : SysL W W.heap.size sysC [noPv, noPv] none (some ⟨g2, 0, none⟩) none 0 2 0) => check_any 9 0 none (some ⟨g2, 0, none⟩) none 0 0 2 2 0 0 W W.heap.size sysC [noPv, noPv] rfl rfl rfl rfl rfl fewC h (Nat.le_refl _) (by intro x hx; cases hx) 0 0 checkC)
  obtain ⟨F1, hF1⟩ := Classical.axiomOfChoice (fun W : World => run_make_full (P := Try.prog) W 0 33 55 i0 _ 6 Try.underlying33 HI.out hz0 hz1 .i64 .i64 1 (by rw [hz2]; omega) (by simp [maxLen]) (Nat.zero_le _))
  have hr1 : ∀ W : World, (Instr.makeSlice 33 (.int .i64 1) (.int .i64 1)).run Try.prog W = .ok (.slice (some ⟨W.heap.size, 0, none⟩) 1 1) (F1 W) := fun W => (hF1 W).1
  have HO1 := Lib.hid (fun W => (hF1 W).2)
  clear hF1
  obtain ⟨F2, hF2⟩ := Classical.axiomOfChoice (fun W : World => run_make_full (P := Try.prog) W 0 33 55 i0 _ 6 Try.underlying33 HI.out hz0 hz1 .i64 .i64 2 (by rw [hz2]; omega) (by simp [maxLen]) (Nat.zero_le _))
  have hr2 : ∀ W : World, (Instr.makeSlice 33 (.int .i64 2) (.int .i64 2)).run Try.prog W = .ok (.slice (some ⟨W.heap.size, 0, none⟩) 2 2) (F2 W) := fun W => (hF2 W).1
  have HO2 := Lib.hid (fun W => (hF2 W).2)
  clear hF2
  go_enter Try.func7, Try.ntmps7
  go_wp2_with fail
  refine Calls.mono (CA.out _) ?_
  rintro e w1 ⟨rfl, hb1⟩
  go_wp2_with fail
  obtain ⟨hown, hgrow⟩ := HO1.out (w1.alloc (.cells #[.int .i64 0, .int .i64 2, .int .i64 0, .int .i64 1, .int .i64 2, .int .i64 0] 62))
  rw [made1] at hown
  have hq : (F1 (w1.alloc (.cells #[.int .i64 0, .int .i64 2, .int .i64 0, .int .i64 1, .int .i64 2, .int .i64 0] 62))).heap[w1.heap.size]? = some (.cells #[.int .i64 0, .int .i64 2, .int .i64 0, .int .i64 1, .int .i64 2, .int .i64 0] 62 (0, 0)) := (hgrow.block _ (by simp) (by simp)).trans (heap_alloc_new _ _)
  have hb2 : Below w.heap.size w (F1 (w1.alloc (.cells #[.int .i64 0, .int .i64 2, .int .i64 0, .int .i64 1, .int .i64 2, .int .i64 0] 62))) := (b_alloc hb1 (Nat.le_refl _) _).grown hgrow (b_alloc hb1 (Nat.le_refl _) _).size (fun k hk => by cases hk)
  obtain ⟨w2, hw2⟩ : ∃ w2, w2 = F1 (w1.alloc (.cells #[.int .i64 0, .int .i64 2, .int .i64 0, .int .i64 1, .int .i64 2, .int .i64 0] 62)) := ⟨_, rfl⟩
  rw [← hw2] at hown hgrow hq hb2
  rw [← hw2]
  have hl1 : Lies w2 0 w2.heap.size (.slice (some ⟨w1.heap.size + 1, 0, none⟩) 1 1) 1 6 ([noPv].flatMap Pv.cells) := by simpa using (Lies.of_owns hown)
  have hs1 : SysL w2 w2.heap.size sysB [noPv] (some ⟨w1.heap.size, 0, none⟩) (some ⟨w1.heap.size + 1, 0, none⟩) none 2 1 0 := ⟨row_lies hq rfl, hl1, noPts_lie _ _ 1, lies_nil _ _ _⟩
  clear hown hgrow hq hw2
  refine Calls.mono (CB.out _ _ _ hs1) ?_
  rintro e w3 ⟨rfl, hb3⟩
  go_wp2_with fail
  obtain ⟨hown2, hgrow2⟩ := HO2.out w3
  rw [made2] at hown2
  have hb4 : Below w.heap.size w (F2 w3) := (hb2.trans (hb3.mono hb2.size)).grown hgrow2 (hb2.trans (hb3.mono hb2.size)).size (fun k hk => by cases hk)
  have hs2 : SysL (F2 w3) (F2 w3).heap.size sysC [noPv, noPv] none (some ⟨w3.heap.size, 0, none⟩) none 0 2 0 := ⟨lies_nil _ _ _, Lies.of_owns hown2, noPts_lie _ _ 2, lies_nil _ _ _⟩
  refine Calls.mono (CC.out _ _ hs2) ?_
  rintro e w5 ⟨rfl, hb5⟩
  go_wp2_with (first
    | (go_at_call 11; have _z := h7; refine (num6_any _ _).mono ?_; rintro e w8 ⟨rfl, h8⟩)
    | (go_at_call 11; have _z := h6; refine (num6_any _ _).mono ?_; rintro e w7 ⟨rfl, h7⟩)
    | (go_at_call 11; refine (num6_any _ _).mono ?_; rintro e w6 ⟨rfl, h6⟩))
  go_ret
  exact ⟨rfl, hb4.trans (((hb5.trans (h6.mono hb5.size)).trans ((h7.trans (h8.mono h7.size)).mono (hb5.trans (h6.mono hb5.size)).size)).mono hb4.size)⟩
end Go.Proofs.Ytiojmekoemlmkaa
