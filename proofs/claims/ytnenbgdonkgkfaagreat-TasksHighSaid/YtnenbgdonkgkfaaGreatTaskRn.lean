/- The document's table of jobs: New, First, Len, Get, Fall, Rise, Missed, Clear. -/
import Derived.Test.YtnenbgdonkgkfaaGreatTaskR
import Derived.Test.YtnenbgdonkgkfaaGreatBuild
import Derived.Lib.SliceRun
namespace Go.Proofs.YtnenbgdonkgkfaaGreat
open Go.ChangeShapes Go.WideShapes Go.ChangeAt Go.RowKit
set_option linter.unusedVariables false

theorem Tryz.infoRTk : (Tryz.prog.info? 54).map (fun i => (i.zero, i.size, i.bytes)) = some (some (.agg #[.bool false, .int .i64 0, .int .i64 0, .int .i64 0, .int .i64 0, .int .i64 0]), 6, 48) := by kernel_rfl
theorem Tryz.infoRInt : (Tryz.prog.info? 3).map (fun i => (i.zero, i.size, i.bytes)) = some (some (.int .i64 0), 1, 8) := by kernel_rfl
theorem Tryz.sizeRJob : (Tryz.prog.info? 33).map (·.size) = some 5 := by kernel_rfl
theorem Tryz.sizeROp : (Tryz.prog.info? 70).map (·.size) = some 3 := by kernel_rfl
def refC (a : Option Addr) (n c : Nat) : Array Value := #[.slice a n c, .int .i64 0, .int .i64 0, .int .i64 0, .int .i64 0, .slice none 0 0, .int .i64 0, .int .i64 0, .int .i64 0, .int .i64 0, .slice none 0 0, .int .i64 0, .int .i64 0, .int .i64 0, .int .i64 0, .slice none 0 0, .int .i64 0, .int .i64 0, .int .i64 0, .int .i64 0, .slice none 0 0, .int .i64 0, .int .i64 0, .int .i64 0, .int .i64 0, .slice none 0 0, .int .i64 0, .int .i64 0, .int .i64 0, .int .i64 0, .slice none 0 0, .bool false, .bool false, .bool false, .bool false, .bool false, .bool false, .bool false]
set_option maxRecDepth 100000 in
theorem built_ref19 (a : Option Addr) (n c : Nat) : Tryz.prog.built 51 [(0, .slice a n c)] = some (refC a n c) := by kernel_rfl
theorem results_pairR {P : Program} {fn : Func} {p u : Tmp} {ty : TypeId} (h : fn.results = #[.cell p ty, .tmp u]) (tmps : Array Value) (w : World) (g : Nat) (t : TypeId) (cs : Array Value) (fr : Nat × Nat) (d : TypeDesc) (x : Value)
    (hp : tmps.getD p undef = .pointer (some ⟨g, 0, none⟩)) (hx : tmps.getD u undef = x) (hg : w.heap[g]? = some (.cells cs t fr))
    (hu : P.underlying ty = some d) (hd : (match d with | .struct _ | .array _ _ => true | _ => false) = true) (hi : (P.info? ty).map (·.size) = some cs.size) :
    (results fn tmps).run P w = .ok (.tuple #[.agg cs, x]) w := by
  rw [results_cell_tmp h, hp, hx]
  simp [asAddr, run_loadVar_row w g t ty cs fr d hg hu hd hi, Result.andThen]
theorem refC_at (a : Option Addr) (n c : Nat) : (refC a n c).size = 38 ∧ (refC a n c)[0]? = some (.slice a n c) ∧ (∀ k, k < 6 → (refC a n c)[1 + k * 5]? = some (.int .i64 0) ∧ (refC a n c)[1 + k * 5 + 1]? = some (.int .i64 0) ∧ (refC a n c)[1 + k * 5 + 2]? = some (.int .i64 0) ∧ (refC a n c)[1 + k * 5 + 3]? = some (.int .i64 0) ∧ (refC a n c)[1 + k * 5 + 4]? = some (.slice none 0 0)) ∧ (∀ k, k < 6 → (refC a n c)[31 + k]? = some (.bool false)) ∧ (refC a n c)[37]? = some (.bool false) := by
  refine ⟨rfl, rfl, fun k hk => ?_, fun k hk => ?_, rfl⟩
  · match k, hk with
    | 0, _ => exact ⟨rfl, rfl, rfl, rfl, rfl⟩
    | 1, _ => exact ⟨rfl, rfl, rfl, rfl, rfl⟩
    | 2, _ => exact ⟨rfl, rfl, rfl, rfl, rfl⟩
    | 3, _ => exact ⟨rfl, rfl, rfl, rfl, rfl⟩
    | 4, _ => exact ⟨rfl, rfl, rfl, rfl, rfl⟩
    | 5, _ => exact ⟨rfl, rfl, rfl, rfl, rfl⟩
  · match k, hk with
    | 0, _ => rfl
    | 1, _ => rfl
    | 2, _ => rfl
    | 3, _ => rfl
    | 4, _ => rfl
    | 5, _ => rfl
set_option maxRecDepth 100000 in
set_option maxHeartbeats 8000000 in
theorem rtnew_any (W0 w : World) (a : Option Addr) (n c : Nat) (ts : List Tk) (hn : ts.length = n) (hl : Lies w 0 w.heap.size (.slice a n c) n 6 (ts.flatMap Tk.cells)) :
    Calls Tryz.prog 8 #[.slice a n c] w fun e w' => (okN ts = true → ∃ rb R, e = .returned (.pointer (some ⟨rb, 0, none⟩)) ∧ TrG W0 rb ts false (fun _ => none) w' R ∧ ∀ k, R k → w.heap.size ≤ k) ∧ (okN ts = false → e = .returned (.pointer none)) ∧ Below w.heap.size w w' := by
  by_cases hbig : 6 < n
  · have t0 : decide ((6 : Int) < (n : Int)) = true := decide_eq_true (by omega)
    have HO : Hid (okN ts = false) := Lib.hid (by unfold okN; rw [decide_eq_false (by omega)]; rfl)
    clear hl hn
    go_enter Tryz.func8, Tryz.ntmps8
    go_wp2_with fail
    go_ret
    exact ⟨fun h => (by rw [HO.out] at h; cases h), fun _ => rfl, Below.refl _ _⟩
  have s0 : n ≤ 6 := by omega
  have t0 : decide ((6 : Int) < (n : Int)) = false := decide_eq_false (by omega)
  have KA := Lib.hid (tks_read hn hl)
  have HNN := Lib.hid hn
  have HL := Lib.hid hl
  obtain ⟨i0, hi, hz0, hz1, hz2⟩ := info_parts Tryz.infoRTk
  have HI := Lib.hid hi
  have HBU := Lib.hid built_ref19
  clear hl hn hbig hi
  go_enter Tryz.func8, Tryz.ntmps8
  go_wp2_with fail
  go_loopw [3] (fun s wr => ∃ (k : Nat), k ≤ n ∧ s = .int .i64 k ∧ Hid ((ts.take k).all okTk = true) ∧ Hid (Below w.heap.size w wr)) (fun s _ => n - (intOf s).toNat)
  case atStart => exact ⟨0, Nat.zero_le _, rfl, Lib.hid rfl, Lib.hid (Below.refl _ _)⟩
  case round =>
    obtain ⟨k, hk, rfl, HA, HB⟩ := hrel
    by_cases hlt : k < n
    · have d0 : decide ((k : Int) < (n : Int)) = true := decide_eq_true (by omega)
      have d1 : (0 : Int) ≤ (k : Int) := by omega
      have d2 : (k : Int) < (n : Int) := by omega
      have hkL : k < ts.length := by have := HNN.out; omega
      obtain ⟨b, off, rfl, ⟨k0, k1, k2, k3, k4, k5⟩, hb⟩ := KA.out wr HB.out k hlt
      have HTK := Lib.hid (take_snoc hkL)
      obtain ⟨x, hx⟩ : ∃ x, x = tkAt ts k := ⟨_, rfl⟩
      rw [← hx] at k0 k1 k2 k3 k4 k5 HTK
      have HX := Lib.hid hx
      clear hb hx
      obtain ⟨x0, x1, x2, x3, x4, x5⟩ := x
      dsimp only at k0 k1 k2 k3 k4 k5
      cases hok : okTk ⟨x0, x1, x2, x3, x4, x5⟩ with
      | false =>
        have HOK := Lib.hid hok
        have HNO : Hid (okN ts = false) := Lib.hid (by
          unfold okN
          rw [Bool.and_eq_false_iff]
          right
          rw [List.all_eq_false]
          exact ⟨ts[k], List.getElem_mem hkL, by rw [← tkAt_eq hkL, ← HX.out, hok]; simp⟩)
        clear hok hkL
        go_wp2_with (go_at_call 25; refine (refTask_any _ _ _ _ _ _ _).mono ?_; rintro e w5 ⟨rfl, hb5'⟩; rw [HOK.out]; have hb5 := Lib.hid hb5'; clear hb5')
        go_ret
        exact ⟨fun h => (by rw [HNO.out] at h; cases h), fun _ => rfl, HB.out.trans (hb5.out.mono HB.out.size)⟩
      | true =>
        have HOK := Lib.hid hok
        clear hok hkL
        go_wp2_with (go_at_call 25; refine (refTask_any _ _ _ _ _ _ _).mono ?_; rintro e w5 ⟨rfl, hb5'⟩; rw [HOK.out]; have hb5 := Lib.hid hb5'; clear hb5')
        go_roundw
        case rel =>
          refine ⟨k + 1, by omega, by go_num, Lib.hid ?_, Lib.hid (HB.out.trans (hb5.out.mono HB.out.size))⟩
          rw [HTK.out, List.all_append, HA.out]
          simp [HOK.out]
        case measure => simp [intOf]; omega
    · have d0 : decide ((k : Int) < (n : Int)) = false := decide_eq_false (by omega)
      have HKN : Hid (k = n) := Lib.hid (by omega)
      have HE0 : Hid ((wr.alloc (.cells #[] 54)).ownsRow wr.heap.size 54 6 (.slice (some ⟨wr.heap.size, 0, none⟩) 0 0) 0 []) := Lib.hid ⟨by simp, .inr ⟨wr.heap.size, 0, #[], rfl, Nat.le_refl _, heap_alloc_new _ _, Nat.le_refl _, by simp [maxLen], by simp, by simp⟩⟩
      have HLW : Hid (Lies (wr.alloc (.cells #[] 54)) 0 w.heap.size (.slice a n c) n 6 (ts.flatMap Tk.cells)) := Lib.hid (HL.out.keep (SameIn.of_below (HB.out.alloc HB.out.size _) (Nat.le_refl _)))
      have HB1 : Hid (Below w.heap.size w (wr.alloc (.cells #[] 54))) := Lib.hid (HB.out.alloc HB.out.size _)
      have hlw : wr.heap.size ≤ (wr.alloc (.cells #[] 54)).heap.size := by simp
      go_wp2_with (first
        | (refine wpList_append_lie2 (by rfl) (.tmp 19) (.tmp 20) 22 (by rfl) wr.heap.size 54 i0 _ 6 48 Tryz.underlying22 HI.out hz0 hz1 hz2 rfl (by omega) (.slice (some ⟨wr.heap.size, 0, none⟩) 0 0) 0 [] (by rfl) HE0.out (.slice a n c) 0 w.heap.size n (ts.flatMap Tk.cells) (by rfl) HLW.out (flat_one _ tk_one _) n (by omega) (by simp only [maxLen]; omega) (by omega) hlw ?_
           intro ao2 cap2 w6 hown6' hgrow6' hob6'
           have O6 := Lib.hid hown6'
           have B6 : Hid (Below w.heap.size w w6) := Lib.hid (HB1.out.grown hgrow6' (by have := HB1.out.size; have := HB.out.size; omega) (fun g hg => by have := (owns_own HE0.out g hg).1; have := HB.out.size; omega))
           have S6 : Hid (wr.heap.size ≤ w6.heap.size) := Lib.hid (by have := hgrow6'.size; omega)
           clear hown6' hgrow6' hob6')
        | (refine wpList_build3 (by rfl) 51 _ (by rfl) [(0, .slice ao2 n cap2)] (by rfl) _ (HBU.out _ _ _) ?_)
        | fail "no arm")
      go_ret
      have hkn := HKN.out
      have hnn := HNN.out
      subst hkn
      have ha := HA.out
      rw [List.take_of_length_le (by omega)] at ha
      have hok : okN ts = true := by unfold okN; rw [ha, decide_eq_true (by omega)]; rfl
      have hbb : Below w.heap.size w (w6.alloc (.cells (refC ao2 k cap2) 51)) := B6.out.alloc B6.out.size _
      have ho := O6.out
      rw [List.nil_append] at ho
      have hs6 := S6.out
      have hsw := HB.out.size
      refine ⟨fun _ => ⟨w6.heap.size, fun g => g = w6.heap.size ∨ (Value.slice ao2 k cap2).ownBlock = some g, rfl, ⟨ao2, cap2, fun _ => ⟨0, 0, 0, 0, .slice none 0 0⟩, ?_⟩, ?_⟩, fun h => (by rw [hok] at h; cases h), hbb⟩
      · obtain ⟨q1, q2, q3, q4, q5⟩ := refC_at ao2 k cap2
        subst hnn
        refine ⟨⟨_, heap_alloc_new _ _, q1, q2, q3, q4, q5⟩, ⟨owns_base (owns_later ho (below1 _ _)) (Nat.zero_le _), fun g hg => ⟨.inr hg, fun e => by have := (owns_own ho g hg).2; omega⟩⟩, .inl rfl, ?_, s0, JsOk.none ts, ?_, (fun _ _ h => by cases h)⟩
        · rintro g (rfl | hg)
          · simp
          · have := (owns_own ho g hg).2; simp; omega
        · intro x hx
          rw [List.all_eq_true] at ha
          exact ha x hx
      · rintro g (rfl | hg)
        · exact B6.out.size
        · have := (owns_own ho g hg).1; omega
def bV (o : Option Nat) : Int := match o with | none => -1 | some b => b
theorem best_hit {ts : List Tk} {hm : Bool} {js : Js} {k : Nat} (h : hasJ js k = true) : bestT ts hm js (k + 1) = (match bestT ts hm js k with | none => some k | some b => if dueT ts hm k (jbAt js k) < dueT ts hm b (jbAt js b) then some k else some b) := by
  show (if hasJ js k = true then _ else _) = _
  rw [if_pos h]
  rfl
theorem best_skip {ts : List Tk} {hm : Bool} {js : Js} {k : Nat} (h : hasJ js k = false) : bestT ts hm js (k + 1) = bestT ts hm js k := by
  show (if hasJ js k = true then _ else _) = _
  rw [if_neg (by rw [h]; simp)]
set_option maxRecDepth 100000 in
set_option maxHeartbeats 8000000 in
theorem rtfirst_any (W0 w : World) (rb : Nat) (R : Nat → Prop) (ts : List Tk) (hm : Bool) (js : Js) (h : TrG W0 rb ts hm js w R) :
    Calls Tryz.prog 11 #[.pointer (some ⟨rb, 0, none⟩)] w fun e w' => e = .returned (.tuple #[.int .i64 (fkV ts hm js), .int .i64 (fdV ts hm js), .bool (foV ts hm js)]) ∧ Below w.heap.size w w' := by
  obtain ⟨ao, c, f, h⟩ := h
  have HT := Lib.hid h
  obtain ⟨n, hn⟩ : ∃ n, n = ts.length := ⟨_, rfl⟩
  have HN := Lib.hid hn
  have n6 : n ≤ 6 := by rw [hn]; exact h.n6
  clear h hn
  go_enter Tryz.func11, Tryz.ntmps11
  go_wp2_with fail
  go_loopw [5, 6] (fun s5 s6 wr => ∃ (k : Nat) (b : Int), k ≤ n ∧ s6 = .int .i64 k ∧ s5 = .int .i64 b ∧ Hid (b = bV (bestT ts hm js k)) ∧ Hid (Below w.heap.size w wr)) (fun _ s _ => n - (intOf s).toNat)
  case atStart => exact ⟨0, -1, Nat.zero_le _, rfl, rfl, Lib.hid rfl, Lib.hid (Below.refl _ _)⟩
  case round =>
    obtain ⟨k, bst, hk, rfl, rfl, HBS, HB⟩ := hrel
    have HTR := Lib.hid (HT.out.later HB.out)
    have c0 := HTR.out.c0
    rw [← HN.out] at c0
    by_cases hlt : k < n
    · have d0 : decide ((k : Int) < (n : Int)) = true := decide_eq_true (by omega)
      have d1 : (0 : Int) ≤ (k : Int) := by omega
      have d2 : (k : Int) < 6 := by omega
      have y0 := HTR.out.is (k := k) (by omega)
      have HB0 : Hid (Below wr.heap.size wr wr) := Lib.hid (Below.refl _ _)
      cases hj : hasJ js k with
      | false =>
        rw [hj] at y0
        have HS := Lib.hid (best_skip (ts := ts) (hm := hm) hj)
        clear hj
        go_wp2_with fail
        go_roundw
        case rel => exact ⟨k + 1, bst, by omega, by go_num, rfl, Lib.hid (by rw [HS.out]; exact HBS.out), HB⟩
        case measure => simp [intOf]; omega
      | true =>
        rw [hj] at y0
        obtain ⟨j, hj1⟩ := hasJ_t hj
        have HS := Lib.hid (best_hit (ts := ts) (hm := hm) hj)
        have HJ := Lib.hid hj1
        clear hj hj1
        cases hb : bestT ts hm js k with
        | none =>
          have hb1 : bst = -1 := by rw [HBS.out, hb]; rfl
          subst hb1
          have HNX : Hid (bestT ts hm js (k + 1) = some k) := Lib.hid (by rw [HS.out, hb])
          clear hb
          go_wp2_with fail
          go_roundw
          case rel => exact ⟨k + 1, k, by omega, by go_num, rfl, Lib.hid (by rw [HNX.out]; rfl), HB⟩
          case measure => simp [intOf]; omega
        | some q =>
          obtain ⟨hq1, hq2, _⟩ := best_some hb
          obtain ⟨jq, hjq⟩ := hasJ_t hq2
          have hb1 : bst = (q : Int) := by rw [HBS.out, hb]; rfl
          subst hb1
          have f0 : decide ((q : Int) < 0) = false := decide_eq_false (by omega)
          have C1 := Lib.hid (fun Y (hY : Below wr.heap.size wr Y) => rdueT_any W0 Y rb R ts hm js ao c f (HTR.out.later hY) k j HJ.out)
          have C2 := Lib.hid (fun Y (hY : Below wr.heap.size wr Y) => rdueT_any W0 Y rb R ts hm js ao c f (HTR.out.later hY) q jq hjq)
          obtain ⟨x1, hx1⟩ : ∃ x1, x1 = dueT ts hm k j := ⟨_, rfl⟩
          obtain ⟨x2, hx2⟩ : ∃ x2, x2 = dueT ts hm q jq := ⟨_, rfl⟩
          rw [← hx1] at C1
          rw [← hx2] at C2
          have HNX : Hid (bestT ts hm js (k + 1) = if x1 < x2 then some k else some q) := Lib.hid (by
            rw [HS.out, hb, hx1, hx2]
            show (if dueT ts hm k (jbAt js k) < dueT ts hm q (jbAt js q) then some k else some q) = _
            rw [jbAt_some HJ.out, jbAt_some hjq])
          clear hb hq1 hq2 hjq hx1 hx2
          by_cases hx : x1 < x2
          · have f1 : decide (x1 < x2) = true := decide_eq_true hx
            rw [if_pos hx] at HNX
            clear hx
            go_wp2_with (first
              | (go_at_call 37; have _z := HB5; refine (C2.out _ HB5.out).mono ?_; rintro e w6 ⟨rfl, b6⟩; have HB6 := Lib.hid (HB5.out.trans (b6.mono HB5.out.size)); clear b6)
              | (go_at_call 37; refine (C1.out _ HB0.out).mono ?_; rintro e w5 ⟨rfl, b5⟩; have HB5 := Lib.hid b5; clear b5)
              | fail "no arm")
            go_roundw
            case rel => exact ⟨k + 1, k, by omega, by go_num, rfl, Lib.hid (by rw [HNX.out]; rfl), Lib.hid (HB.out.trans (HB6.out.mono HB.out.size))⟩
            case measure => simp [intOf]; omega
          · have f1 : decide (x1 < x2) = false := decide_eq_false hx
            rw [if_neg hx] at HNX
            clear hx
            go_wp2_with (first
              | (go_at_call 37; have _z := HB5; refine (C2.out _ HB5.out).mono ?_; rintro e w6 ⟨rfl, b6⟩; have HB6 := Lib.hid (HB5.out.trans (b6.mono HB5.out.size)); clear b6)
              | (go_at_call 37; refine (C1.out _ HB0.out).mono ?_; rintro e w5 ⟨rfl, b5⟩; have HB5 := Lib.hid b5; clear b5)
              | fail "no arm")
            go_roundw
            case rel => exact ⟨k + 1, q, by omega, by go_num, rfl, Lib.hid (by rw [HNX.out]; rfl), Lib.hid (HB.out.trans (HB6.out.mono HB.out.size))⟩
            case measure => simp [intOf]; omega
    · have d0 : decide ((k : Int) < (n : Int)) = false := decide_eq_false (by omega)
      have hkn : k = n := by omega
      subst hkn
      have HV : Hid (∀ o, bestT ts hm js k = o → fkV ts hm js = (match o with | none => 0 | some b => (b : Int)) ∧ fdV ts hm js = (match o with | none => 0 | some b => dueT ts hm b (jbAt js b)) ∧ foV ts hm js = o.isSome) := Lib.hid (fun o ho => by
        rw [HN.out] at ho
        unfold fkV fdV foV
        rw [ho]; exact ⟨rfl, rfl, rfl⟩)
      have HB0 : Hid (Below wr.heap.size wr wr) := Lib.hid (Below.refl _ _)
      cases hb : bestT ts hm js k with
      | none =>
        have hb1 : bst = -1 := by rw [HBS.out, hb]; rfl
        subst hb1
        have HV1 := Lib.hid (HV.out _ hb)
        clear hb
        go_wp2_with fail
        ((try simp only [Exit.inBlock, Exit.then]); refine bodyPost_ret (results_tmp3 rfl _ _ _) rfl ?_)
        exact ⟨by rw [HV1.out.1, HV1.out.2.1, HV1.out.2.2]; rfl, HB.out⟩
      | some q =>
        obtain ⟨hq1, hq2, _⟩ := best_some hb
        obtain ⟨jq, hjq⟩ := hasJ_t hq2
        have hb1 : bst = (q : Int) := by rw [HBS.out, hb]; rfl
        subst hb1
        have f0 : decide ((q : Int) < 0) = false := decide_eq_false (by omega)
        have C2 := Lib.hid (rdueT_any W0 wr rb R ts hm js ao c f HTR.out q jq hjq)
        have HV1 := Lib.hid (HV.out _ hb)
        have HJQ := Lib.hid (jbAt_some hjq)
        clear hb hq1 hq2 hjq
        go_wp2_with (first
          | (go_at_call 37; refine C2.out.mono ?_; rintro e w6 ⟨rfl, b6⟩; have HB6 := Lib.hid (HB.out.trans (b6.mono HB.out.size)); clear b6)
          | fail "no arm")
        ((try simp only [Exit.inBlock, Exit.then]); refine bodyPost_ret (results_tmp3 rfl _ _ _) rfl ?_)
        exact ⟨by rw [HV1.out.1, HV1.out.2.1, HV1.out.2.2, HJQ.out]; rfl, HB6.out⟩
set_option maxRecDepth 100000 in
set_option maxHeartbeats 8000000 in
theorem rtlen_any (W0 w : World) (rb : Nat) (R : Nat → Prop) (ts : List Tk) (hm : Bool) (js : Js) (h : TrG W0 rb ts hm js w R) :
    Calls Tryz.prog 17 #[.pointer (some ⟨rb, 0, none⟩)] w fun e w' => e = .returned (.int .i64 (cntT js ts.length : Nat)) ∧ Below w.heap.size w w' := by
  obtain ⟨ao, c, f, h⟩ := h
  have HT := Lib.hid h
  obtain ⟨n, hn⟩ : ∃ n, n = ts.length := ⟨_, rfl⟩
  have HN := Lib.hid hn
  have n6 : n ≤ 6 := by rw [hn]; exact h.n6
  have c0 := h.c0
  rw [← hn] at c0
  rw [← hn]
  clear h hn
  go_enter Tryz.func17, Tryz.ntmps17
  go_wp2_with fail
  go_loopw [3, 4] (fun s3 s4 wr => ∃ (k : Nat) (b : Nat), k ≤ n ∧ b ≤ k ∧ s4 = .int .i64 k ∧ s3 = .int .i64 b ∧ Hid (b = cntT js k) ∧ wr = w) (fun _ s _ => n - (intOf s).toNat)
  case atStart => exact ⟨0, 0, Nat.zero_le _, Nat.le_refl _, rfl, rfl, Lib.hid rfl, rfl⟩
  case round =>
    obtain ⟨k, b, hk, hbk, rfl, rfl, HBS, rfl⟩ := hrel
    by_cases hlt : k < n
    · have d0 : decide ((k : Int) < (n : Int)) = true := decide_eq_true (by omega)
      have d1 : (0 : Int) ≤ (k : Int) := by omega
      have d2 : (k : Int) < 6 := by omega
      have y0 := HT.out.is (k := k) (by omega)
      cases hj : hasJ js k with
      | false =>
        rw [hj] at y0
        have HS : Hid (cntT js (k + 1) = cntT js k) := Lib.hid (by show cntT js k + _ = _; rw [if_neg (by rw [hj]; simp)]; rfl)
        clear hj
        go_wp2_with fail
        go_roundw
        case rel => exact ⟨k + 1, b, by omega, by omega, by go_num, rfl, Lib.hid (by rw [HS.out]; exact HBS.out), by first | rfl | trivial⟩
        case measure => simp [intOf]; omega
      | true =>
        rw [hj] at y0
        have HS : Hid (cntT js (k + 1) = cntT js k + 1) := Lib.hid (by show cntT js k + _ = _; rw [if_pos hj])
        clear hj
        go_wp2_with fail
        go_roundw
        case rel => exact ⟨k + 1, b + 1, by omega, by omega, by go_num, by go_num, Lib.hid (by rw [HS.out, HBS.out]), by first | rfl | trivial⟩
        case measure => simp [intOf]; omega
    · have d0 : decide ((k : Int) < (n : Int)) = false := decide_eq_false (by omega)
      have hkn : k = n := by omega
      subst hkn
      go_wp2_with fail
      go_ret
      exact ⟨by rw [← HBS.out]; first | done | rfl, Below.refl _ _⟩
set_option maxRecDepth 100000 in
set_option maxHeartbeats 4000000 in
theorem rtfall_any (W0 w : World) (rb : Nat) (R : Nat → Prop) (ts : List Tk) (hm : Bool) (js : Js) (h : TrG W0 rb ts hm js w R) :
    Calls Tryz.prog 31 #[.pointer (some ⟨rb, 0, none⟩)] w fun e w' => ∃ R', e = .returned (.bool (falV ts hm js)) ∧ TrG W0 rb ts (falH ts hm js) js w' R' ∧ GrowS R R' w w' := by
  have HP := Lib.hid h
  have HL := Lib.hid (rtlen_any W0 w rb R ts hm js h)
  obtain ⟨ao, c, f, h⟩ := h
  have c37 := h.c37
  have HT := Lib.hid h
  clear h
  cases hm with
  | false =>
    go_enter Tryz.func31, Tryz.ntmps31
    go_wp2_with fail
    go_ret
    exact ⟨R, rfl, HP.out, GrowS.of_below (Below.refl _ _)⟩
  | true =>
    obtain ⟨m, hc⟩ : ∃ m, m = cntT js ts.length := ⟨_, rfl⟩
    rw [← hc] at HL
    by_cases h0 : m = 0
    · subst h0
      have HF : Hid (falV ts true js = true ∧ falH ts true js = false) := Lib.hid (by unfold falH; have : falV ts true js = true := (by unfold falV; rw [← hc]; rfl); rw [this]; exact ⟨rfl, rfl⟩)
      clear hc
      go_enter Tryz.func31, Tryz.ntmps31
      go_wp2_with (first
        | (go_at_call 17; refine HL.out.mono ?_; rintro e w4 ⟨rfl, b4⟩; have HB4 := Lib.hid b4; have y2 := (HT.out.later b4).c37; have f2 := (HT.out.later b4).fz 37; clear b4)
        | fail "no arm")
      go_ret
      obtain ⟨h5, g5⟩ := (HT.out.later HB4.out).setH false
      exact ⟨R, by rw [HF.out.1]; first | done | rfl, by rw [HF.out.2]; exact ⟨ao, c, f, h5⟩, (GrowS.of_below HB4.out).trans g5⟩
    · have t0 : decide (0 < (m : Int)) = true := decide_eq_true (by omega)
      have HF : Hid (falV ts true js = false ∧ falH ts true js = true) := Lib.hid (by unfold falH; have : falV ts true js = false := (by unfold falV; rw [← hc, decide_eq_false h0]; rfl); rw [this]; exact ⟨rfl, rfl⟩)
      clear hc
      go_enter Tryz.func31, Tryz.ntmps31
      go_wp2_with (first
        | (go_at_call 17; refine HL.out.mono ?_; rintro e w4 ⟨rfl, b4⟩; have HB4 := Lib.hid b4; clear b4)
        | fail "no arm")
      go_ret
      exact ⟨R, by rw [HF.out.1]; first | done | rfl, by rw [HF.out.2]; exact (tr_own _ _ _ _ _).later HP.out HB4.out, GrowS.of_below HB4.out⟩
end Go.Proofs.YtnenbgdonkgkfaaGreat
