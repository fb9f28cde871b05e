/- Bytes as a system, or why not. -/
import Derived.Test.YtiombjkjoehjpaaImageQ
namespace Go.Proofs.Ytiombjkjoehjpaa
open Go.ChangeShapes Go.WideShapes Go.ChangeAt Go.RowKit
set_option linter.unusedVariables false

theorem results_pair_row {P : Program} {fn : Func} {p u : Tmp} {ty : TypeId} (h : fn.results = #[.cell p ty, .tmp u]) (tmps : Array Value) (w : World) (g : Nat) (t : TypeId) (cs : Array Value) (fr : Nat × Nat) (d : TypeDesc) (x : Value)
    (hp : tmps.getD p undef = .pointer (some ⟨g, 0, none⟩)) (hx : tmps.getD u undef = x) (hg : w.heap[g]? = some (.cells cs t fr))
    (hu : P.underlying ty = some d) (hd : (match d with | .struct _ | .array _ _ => true | _ => false) = true) (hi : (P.info? ty).map (·.size) = some cs.size) :
    (results fn tmps).run P w = .ok (.tuple #[.agg cs, x]) w := by
  rw [results_cell_tmp h, hp, hx]
  simp [asAddr, run_loadVar_row w g t ty cs fr d hg hu hd hi, Result.andThen]
def zeroC : Cf := ⟨0, 0, [], [], []⟩
def decW (l : List Int) : Cf × Int := if l.length > 16384 then (zeroC, 11) else match decV l with
  | none => (zeroC, 10)
  | some c => (c, 0)
theorem decW_big {l : List Int} (h : l.length > 16384) : decW l = (zeroC, 11) := by simp [decW, h]
theorem decW_no {l : List Int} (h : ¬ l.length > 16384) (h2 : decV l = none) : decW l = (zeroC, 10) := by simp [decW, h, h2]
theorem decW_yes {l : List Int} {c : Cf} (h : ¬ l.length > 16384) (h2 : decV l = some c) : decW l = (c, 0) := by simp [decW, h, h2]
theorem decW_few (l : List Int) (hf : ∀ c, decV l = some c → Fewc c) : Fewc (decW l).1 := by
  unfold decW
  split
  · exact ⟨by simp [zeroC], by simp [zeroC], by simp [zeroC], by simp [zeroC]⟩
  · split
    · exact ⟨by simp [zeroC], by simp [zeroC], by simp [zeroC], by simp [zeroC]⟩
    · exact hf _ (by assumption)
theorem sys_zero (w : World) (hi : Nat) : SysL w hi zeroC [] none none none 0 0 0 := ⟨⟨none, 0, rfl, rfl, fun _ => ⟨rfl, rfl⟩, .inl rfl⟩, ⟨none, 0, rfl, rfl, fun _ => ⟨rfl, rfl⟩, .inl rfl⟩, .nil, ⟨none, 0, rfl, rfl, fun _ => ⟨rfl, rfl⟩, .inl rfl⟩⟩
theorem Got.none {l : List Int} {c : Cf} (h : Got (some l) rdImg c none) : decV l = Option.none := by
  rw [decV_img]
  unfold Got at h
  simp only at h
  cases hr : rdImg l with
  | none => rfl
  | some z => rw [hr] at h; obtain ⟨z1, z2⟩ := z; simp at h
theorem Got.left {l r : List Int} {c : Cf} (h : Got (some l) rdImg c (some r)) (hr : r ≠ []) : decV l = Option.none := by
  rw [decV_img]
  unfold Got at h
  simp only at h
  cases hq : rdImg l with
  | none => rfl
  | some z =>
    rw [hq] at h; obtain ⟨z1, z2⟩ := z
    simp at h
    obtain ⟨_, rfl⟩ := h
    cases r with
    | nil => exact absurd rfl hr
    | cons a b => rfl
theorem Got.all {l : List Int} {c : Cf} (h : Got (some l) rdImg c (some [])) : decV l = some c := by
  rw [decV_img]
  unfold Got at h
  simp only at h
  cases hq : rdImg l with
  | none => rw [hq] at h; simp at h
  | some z =>
    rw [hq] at h; obtain ⟨z1, z2⟩ := z
    simp at h
    obtain ⟨rfl, rfl⟩ := h
    rfl
theorem img_no {l ll : List Int} {s2 : Option (List Int)} {c : Cf} {e : Int} {wv : Bool} (hs : match s2 with
  | Option.none => e ≠ 0 ∨ wv = true
  | some l' => e = 0 ∧ wv = false ∧ ll = l') (hg : Got (some l) rdImg c s2) (hb : wv = true ∨ e ≠ 0 ∨ 0 < ll.length) : decV l = Option.none := by
  cases s2 with
  | none => exact hg.none
  | some r =>
    obtain ⟨h1, h2, h3⟩ := hs
    subst h3
    refine hg.left ?_
    rintro rfl
    rcases hb with h | h | h
    · rw [h2] at h; cases h
    · exact h h1
    · simp at h
theorem img_yes {l ll : List Int} {s2 : Option (List Int)} {c : Cf} {e : Int} {wv : Bool} (hs : match s2 with
  | Option.none => e ≠ 0 ∨ wv = true
  | some l' => e = 0 ∧ wv = false ∧ ll = l') (hg : Got (some l) rdImg c s2) (h1 : ¬ wv = true) (h2 : e = 0) (h3 : ¬ 0 < ll.length) : decV l = some c := by
  cases s2 with
  | none => rcases hs with h | h; exact absurd h2 h; exact absurd h h1
  | some r =>
    obtain ⟨_, _, h4⟩ := hs
    subst h4
    have : ll = [] := List.eq_nil_of_length_eq_zero (by omega)
    subst this
    exact hg.all
theorem zero_few : Fewc zeroC := ⟨by simp [zeroC], by simp [zeroC], by simp [zeroC], by simp [zeroC]⟩
set_option maxRecDepth 100000 in
set_option maxHeartbeats 4000000 in
theorem decode_sys (a : Option Addr) (n c : Nat) (w : World) (lo hi : Nat) (l : List Int) (hn : l.length = n) (hby : Bytes l) (hl : Lies w lo hi (.slice a n c) n 1 (bts l)) (hhi : hi ≤ w.heap.size) :
    Calls Try.prog 13 #[.slice a n c] w fun r w' => ∃ vs wa pa ca wc pc cc, r = .returned (.tuple #[.agg #[.int .i64 (decW l).1.frame, .int .i64 (decW l).1.margin, .slice wa (decW l).1.ws.length wc, .slice pa (decW l).1.ps.length pc, .slice ca (decW l).1.cs.length cc], .int .i64 (decW l).2]) ∧ SysL w' w'.heap.size (decW l).1 vs wa pa ca wc pc cc ∧ Fewc (decW l).1 ∧ Below w.heap.size w w' := by
  have HN := Lib.hid hn
  have HBY := Lib.hid hby
  have HL := Lib.hid hl
  clear hl hby
  by_cases hbig : n > 16384
  · have t1 : decide ((n : Int) > 16384) = true := by simp; omega
    have HV := Lib.hid (decW_big (l := l) (by rw [hn]; exact hbig))
    clear hn
    go_enter Try.func13, Try.ntmps13
    go_wp2_with fail
    have kb : (w.alloc (.cells #[.int .i64 0, .int .i64 0, .slice none 0 0, .slice none 0 0, .slice none 0 0] 37 (0, 0))).heap[w.heap.size]? = some (.cells #[.int .i64 0, .int .i64 0, .slice none 0 0, .slice none 0 0, .slice none 0 0] 37 (0, 0)) := heap_new_at rfl
    refine bodyPost_ret (results_pair_row (P := Try.prog) rfl _ _ w.heap.size _ _ (0, 0) _ _ rfl rfl kb Try.underlying37 rfl Try.sizeConf_conf) rfl ?_
    rw [HV.out]
    exact ⟨[], none, none, none, 0, 0, 0, rfl, sys_zero _ _, ⟨by simp [zeroC], by simp [zeroC], by simp [zeroC], by simp [zeroC]⟩, below1 _ _⟩
  · have t1 : decide ((n : Int) > 16384) = false := by simp; omega
    have CR := Lib.hid (fun (W : World) (hW : Below w.heap.size w W) => read_any a n c W lo hi l HN.out HBY.out (HL.out.keep (SameIn.of_below hW hhi)) (Nat.le_trans hhi hW.size) (by omega))
    clear hn
    go_enter Try.func13, Try.ntmps13
    go_wp2_with (first
      | (go_at_call 26
         refine (CR.out _ (below1 _ _)).mono ?_
         rintro e w1 ⟨X, rfl, hX1, hX2, hrx, hb1⟩
         have HB1 := Lib.hid ((below1 w _).trans (hb1.mono (by simp)))
         have hw1 : w.heap.size < w1.heap.size := by simp at hX1; omega
         have kz := (hb1.block w.heap.size (by simp)).trans (heap_new_at (w := w) rfl)
         have HKZ := Lib.hid kz
         have HRX := Lib.hid hrx
         have hXlt : w.heap.size < X := by simp at hX1; omega
         clear hb1 hrx hX1 kz)
      | (go_at_call 27
         refine (gConfig_any X w1.heap.size _ (some l) ⟨0, false, l, heap_new_at rfl, HRX.out.keep (SameIn.of_below (below1 _ _) (by omega)), by omega, rfl, rfl, rfl⟩).mono ?_
         rintro e w2 ⟨cc, vs, wa, pa, ca, wc, pc, xc, s2, rfl, hsys, hfew, hrd, hgot, hbt⟩
         obtain ⟨e, wv, ll, hY, hRx, hXY, hs⟩ := hrd
         have HS := Lib.hid hs
         have HSYS := Lib.hid hsys
         have HFEW := Lib.hid hfew
         have HGOT := Lib.hid hgot
         have HBT := Lib.hid hbt
         have hYw := lt_of_block hY
         have HYK := Lib.hid hY
         have c0 := cell_in (j := 0) hY rfl
         have c1 := cell_in (j := 1) hY rfl
         have CE := Lib.hid (fun (o : Obj) => rErr_any X (w2.alloc o) e ll (hRx.keep (SameIn.of_below (below1 _ _) (by omega))))
         have CL := Lib.hid (fun (o : Obj) => rLeft_any X (w2.alloc o) e ll (hRx.keep (SameIn.of_below (below1 _ _) (by omega))))
         have kz := hbt.at (at_alloc HKZ.out) (show w.heap.size ∉ [X, w1.heap.size] by simp; omega)
         have z0 := cell_in (j := 0) kz rfl
         have z1 := cell_in (j := 1) kz rfl
         have z2 := cell_in (j := 2) kz rfl
         have z3 := cell_in (j := 3) kz rfl
         have z4 := cell_in (j := 4) kz rfl
         have y0 := free_in kz 0
         have y1 := free_in kz 1
         have y2 := free_in kz 2
         have y3 := free_in kz 3
         have y4 := free_in kz 4
         have hw2 : w.heap.size < w2.heap.size := lt_of_block kz
         have HKZ2 := Lib.hid kz
         clear hs hsys hfew hgot hbt hY hRx kz)
      | (go_at_call 28; refine (CE.out _).mono ?_; rintro e3 w3 ⟨rfl, rfl⟩)
      | (go_at_call 29; refine (CL.out _).mono ?_; rintro e3 w3 ⟨rfl, rfl⟩))
    all_goals
      have hn16 : ¬ l.length > 16384 := by rw [HN.out]; exact hbig
      have hbw : Below w.heap.size w w2 := (HB1.out.alloc (by omega) _).trans (HBT.out.below (B := w.heap.size) (by simp; omega) (by simp; omega))
      first
        | (have HV : decW l = (zeroC, 10) := decW_no hn16 (img_no HS.out HGOT.out (by first | exact .inl (by assumption) | exact .inr (.inl (fun h => absurd h (by assumption))) | exact .inr (.inr (by assumption))))
           have hX := at_alloc (p := .cells #[.int .i64 cc.frame, .int .i64 cc.margin, .slice wa cc.ws.length wc, .slice pa cc.ps.length pc, .slice ca cc.cs.length xc] 37 (0, 0)) (set5 HKZ2.out rfl (.int .i64 0) (.int .i64 0) (.slice none 0 0) (.slice none 0 0) (.slice none 0 0))
           refine bodyPost_ret (results_pair_row (P := Try.prog) rfl _ _ w.heap.size _ _ (0, 0) _ _ rfl rfl hX Try.underlying37 rfl Try.sizeConf_conf) rfl ?_
           rw [HV]
           exact ⟨[], none, none, none, 0, 0, 0, rfl, sys_zero _ _, zero_few, (below5 hbw (Nat.le_refl _) _ _ _ _ _).alloc (by simp; omega) _⟩)
        | (have HV : decW l = (cc, 0) := decW_yes hn16 (img_yes HS.out HGOT.out (by assumption) (by assumption) (by assumption))
           have hX := at_alloc (p := .cells #[.int .i64 cc.frame, .int .i64 cc.margin, .slice wa cc.ws.length wc, .slice pa cc.ps.length pc, .slice ca cc.cs.length xc] 37 (0, 0)) (set5 HKZ2.out rfl (.int .i64 cc.frame) (.int .i64 cc.margin) (.slice wa cc.ws.length wc) (.slice pa cc.ps.length pc) (.slice ca cc.cs.length xc))
           refine bodyPost_ret (results_pair_row (P := Try.prog) rfl _ _ w.heap.size _ _ (0, 0) _ _ rfl rfl hX Try.underlying37 rfl Try.sizeConf_conf) rfl ?_
           rw [HV]
           refine ⟨vs, wa, pa, ca, wc, pc, xc, rfl, HSYS.out _ (fun b h1 h2 => ?_) (by simp [World.setCell]), HFEW.out, (below5 hbw (Nat.le_refl _) _ _ _ _ _).alloc (by simp; omega) _⟩
           simp at h1
           rw [Below.heap_alloc _ _ _ (by simp [World.setCell]; exact h2), Below.heap_setCell _ _ _ _ (by simp; omega), Below.heap_setCell _ _ _ _ (by simp; omega), Below.heap_setCell _ _ _ _ (by simp; omega), Below.heap_setCell _ _ _ _ (by simp; omega), Below.heap_setCell _ _ _ _ (by simp; omega)])
end Go.Proofs.Ytiombjkjoehjpaa
