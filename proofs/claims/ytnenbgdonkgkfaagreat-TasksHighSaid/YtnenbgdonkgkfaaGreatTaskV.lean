/- The program's table of jobs: Get, Run, Missed, Clear. -/
import Derived.Test.YtnenbgdonkgkfaaGreatTaskU
namespace Go.Proofs.YtnenbgdonkgkfaaGreat
open Go.ChangeShapes Go.WideShapes Go.ChangeAt Go.RowKit
set_option linter.unusedVariables false

theorem growS_new {S : Nat → Prop} {E : Nat} {w a b : World} (g : GrowS S S w a) (h : But E a b) (hE : w.heap.size ≤ E) : GrowS S S w b :=
  ⟨h.os.trans g.os, h.tape.trans g.tape, h.output.trans g.output, Nat.le_trans g.size h.size, fun k hk hs => (h.block k (Nat.lt_of_lt_of_le hk g.size) (by omega)).trans (g.block k hk hs), fun k hk => .inl hk⟩
theorem upd_upd {α : Type} (f : Nat → α) (k : Nat) (a b : α) : upd (upd f k a) k b = upd f k b := by
  funext i
  by_cases e : i = k
  · subst e; rw [upd_at, upd_at]
  · rw [upd_ne _ _ e, upd_ne _ _ e, upd_ne _ _ e]
theorem upd_self {α : Type} (f : Nat → α) (k : Nat) : upd f k (f k) = f := by
  funext i
  by_cases e : i = k
  · subst e; rw [upd_at]
  · rw [upd_ne _ _ e]
theorem lies_any {w : World} {e sz n c : Nat} {a : Option Addr} {xs : List Value} (h : ORow w e sz (.slice a n c) n xs) : Lies w 0 w.heap.size (.slice a n c) n sz xs := h.lies (fun g hg => ⟨Nat.zero_le _, h.lt g hg⟩)
theorem wn_flat (l : List Wn) : ∀ u ∈ l.flatMap Wn.cells, u.oneCell' = true := flat_one _ wn_one _
set_option maxRecDepth 100000 in
set_option maxHeartbeats 4000000 in
theorem tget_any (w : World) (T : Nat) (S : Nat → Prop) (ts : List Tk) (hm : Bool) (js : Js) (h : TbP T ts hm js w S) (t : Int) :
    Calls Tryz.prog 12 #[.pointer (some ⟨T, 0, none⟩), .int .i64 t] w fun e w' => ∃ ao cap, e = .returned (.tuple #[.agg #[.int .i64 (getT ts js t), .int .i64 (getJ ts js t).arr, .int .i64 (getJ ts js t).work, .int .i64 (getJ ts js t).done, .slice ao (getJ ts js t).ops.length cap], .bool (thereT ts js t)]) ∧ Lies w' w.heap.size w'.heap.size (.slice ao (getJ ts js t).ops.length cap) (getJ ts js t).ops.length 3 ((getJ ts js t).ops.flatMap Wn.cells) ∧ Below w.heap.size w w' := by
  obtain ⟨_, G, lo, hi, H, W, X, m, f, h⟩ := h
  obtain ⟨V, hV⟩ : ∃ V, V = w.alloc (.cells #[.int .i64 0, .int .i64 0, .int .i64 0, .int .i64 0, .slice none 0 0] 40) := ⟨_, rfl⟩
  obtain ⟨E, hE⟩ : ∃ E, E = w.heap.size := ⟨_, rfl⟩
  have hbV : Hid (Below w.heap.size w V) := Lib.hid (by rw [hV]; exact below1 _ _)
  have hEV : V.heap[E]? = some (.cells #[.int .i64 0, .int .i64 0, .int .i64 0, .int .i64 0, .slice none 0 0] 40 (0, 0)) := by rw [hV, hE]; exact heap_alloc_new _ _
  have HEV := Lib.hid hEV
  have HT := Lib.hid (h.later hbV.out)
  have HTH := Lib.hid (tthere_any V T G lo hi H W X m S ts hm js _ f HT.out t)
  have HV := Lib.hid hV
  have HE := Lib.hid hE
  have r0 := cell_in (j := 0) hEV rfl
  have r1 := cell_in (j := 1) hEV rfl
  have r2 := cell_in (j := 2) hEV rfl
  have r3 := cell_in (j := 3) hEV rfl
  have r4 := cell_in (j := 4) hEV rfl
  have q0 := free_in hEV 0
  have q1 := free_in hEV 1
  have q2 := free_in hEV 2
  have q3 := free_in hEV 3
  have q4 := free_in hEV 4
  clear h hV hE hEV
  cases ht : thereT ts js t with
  | false =>
    obtain ⟨g1, g2⟩ := get_no ht
    have HF := Lib.hid ht
    rw [g1, g2]
    clear ht g1 g2
    go_enter Tryz.func12, Tryz.ntmps12
    go_upto_region 1 with fail
    rw [← HV.out, ← HE.out]
    go_wp2_with (first
      | (go_at_call 38; refine HTH.out.mono ?_; rintro e w3 ⟨rfl, hw3⟩; rw [hw3, HF.out]; clear hw3)
      | fail "no arm")
    have hX := set5 HEV.out rfl (.int .i64 0) (.int .i64 0) (.int .i64 0) (.int .i64 0) (.slice none 0 0)
    refine bodyPost_ret (results_pairT (P := Tryz.prog) rfl _ _ E _ _ (0, 0) _ _ rfl rfl hX Tryz.underlying40 rfl Tryz.sizeTJob) rfl ?_
    exact ⟨none, 0, rfl, ⟨none, 0, rfl, rfl, fun _ => ⟨rfl, rfl⟩, .inl rfl⟩, below5 hbV.out (by rw [HE.out]; exact Nat.le_refl _) _ _ _ _ _⟩
  | true =>
    obtain ⟨k, j, rfl, hk, hj⟩ := there_nat ht
    obtain ⟨g1, g2⟩ := get_yes hk hj
    have HF := Lib.hid ht
    rw [g1, g2]
    obtain ⟨oa, oc, a0, a1, a2, a3, a4, hr, eo⟩ := HT.out.jobAt hj
    have HA := Lib.hid (tapart_any V G (k * 11) k j.arr j.work j.done oa j.ops.length oc 0 V.heap.size _ a0 a1 a2 a3 a4 (lies_any hr) (wn_flat _) (Nat.le_refl _) (HT.out.ok.bd k j hj).2.2.2.2.2.2)
    have c0 := HT.out.c0
    obtain ⟨n, hn⟩ : ∃ n, n = ts.length := ⟨_, rfl⟩
    rw [← hn] at c0
    have d1 : (0 : Int) ≤ (k : Int) := by omega
    have d2 : (k : Int) < (n : Int) := by omega
    clear ht g1 g2 a0 a1 a2 a3 a4 hr eo hj hk hn
    go_enter Tryz.func12, Tryz.ntmps12
    go_upto_region 1 with fail
    rw [← HV.out, ← HE.out]
    go_wp2_with (first
      | (go_at_call 38; refine HTH.out.mono ?_; rintro e w3 ⟨rfl, hw3⟩; rw [hw3, HF.out]; clear hw3)
      | (go_at_call 39; refine HA.out.mono ?_; rintro e w4 ⟨ao, cap, rfl, ho4, hb4⟩
         have X4 := Lib.hid ((hb4.block E (lt_of_block HEV.out)).trans HEV.out)
         have O4 := Lib.hid ho4
         have B4 := Lib.hid hb4
         have z0 := cell_in (j := 0) X4.out rfl
         have z1 := cell_in (j := 1) X4.out rfl
         have z2 := cell_in (j := 2) X4.out rfl
         have z3 := cell_in (j := 3) X4.out rfl
         have z4 := cell_in (j := 4) X4.out rfl
         have p0 := free_in X4.out 0
         have p1 := free_in X4.out 1
         have p2 := free_in X4.out 2
         have p3 := free_in X4.out 3
         have p4 := free_in X4.out 4
         clear ho4 hb4)
      | fail "no arm")
    have hX := set5 X4.out rfl (.int .i64 k) (.int .i64 j.arr) (.int .i64 j.work) (.int .i64 j.done) (.slice ao j.ops.length cap)
    refine bodyPost_ret (results_pairT (P := Tryz.prog) rfl _ _ E _ _ (0, 0) _ _ rfl rfl hX Tryz.underlying40 rfl Tryz.sizeTJob) rfl ?_
    have hB5 : But E w4 (((((w4.setCell ⟨E, 0, none⟩ (.int .i64 k)).setCell ⟨E, 1, none⟩ (.int .i64 j.arr)).setCell ⟨E, 2, none⟩ (.int .i64 j.work)).setCell ⟨E, 3, none⟩ (.int .i64 j.done)).setCell ⟨E, 4, none⟩ (.slice ao j.ops.length cap)) := (((((But.refl _ _).set 0 _).set 1 _).set 2 _).set 3 _).set 4 _
    have hz : E < V.heap.size := lt_of_block HEV.out
    have he := HE.out
    exact ⟨ao, cap, rfl, (Lies.of_owns (owns_hold O4.out ⟨hB5.size, fun g hg => hB5.block g (owns_own O4.out g hg).2 (by have := (owns_own O4.out g hg).1; omega)⟩)).wider (by omega) (Nat.le_refl _), below5 (hbV.out.trans (B4.out.mono hbV.out.size)) (by omega) _ _ _ _ _⟩
theorem seat_done (f : Nat → Jc) (ts : List Tk) (k : Nat) (d : Int) : ∀ i r, (if i = k ∧ r = 3 then .int .i64 d else seatV f ts i r) = seatV (upd f k ⟨(f k).task, (f k).arr, (f k).work, d, (f k).ops⟩) ts i r := by
  intro i r
  by_cases e : i = k
  · subst e
    match r with
    | 0 => simp [seatV, upd_at]
    | 1 => simp [seatV, upd_at]
    | 2 => simp [seatV, upd_at]
    | 3 => simp [seatV, upd_at]
    | 4 => simp [seatV, upd_at]
    | 5 => simp [seatV]
    | 6 => simp [seatV]
    | 7 => simp [seatV]
    | 8 => simp [seatV]
    | 9 => simp [seatV]
    | (m + 10) => simp [seatV]
  · have h2 : upd f k ⟨(f k).task, (f k).arr, (f k).work, d, (f k).ops⟩ i = f i := upd_ne _ _ e
    simp only [e, false_and, if_false]
    unfold seatV
    rw [h2]
/-- A tick of a task's job. -/
theorem TbD.tick {w : World} {T G lo hi H W X m : Nat} {S : Nat → Prop} {ts : List Tk} {hm : Bool} {js : Js} {D : Nat → Option Int} {f : Nat → Jc} (h : TbD w T G lo hi H W X m S ts hm js D f) {k : Nat} {j : Jb} (hj : js k = some j) (hd : j.done < j.work) :
    Calls Tryz.prog 47 #[.pointer (some ⟨G, k * 11, none⟩)] w fun e w' => ∃ f', e = .returned (.agg #[.int .i64 (opT ts js k).at_, .int .i64 (opT ts js k).len, .int .i64 (opT ts js k).part]) ∧ TbD w' T G lo hi H W X m S ts hm (upd js k (some { j with done := j.done + 1 })) D f' ∧ GrowS S S w w' := by
  have hk := h.ok.lt hj
  obtain ⟨oa, oc, a0, a1, a2, a3, a4, hr, eo⟩ := h.jobAt hj
  obtain ⟨e0, _, hg⟩ := h.jb k j hj
  have hb := h.ok.bd k j hj
  obtain ⟨d, hd'⟩ : ∃ d : Nat, j.done = (d : Int) := ⟨j.done.toNat, by omega⟩
  have hst := h.st
  obtain ⟨cur, h1, h2, h3⟩ := hst
  rw [hd'] at a3
  have hrun := trun_any w G (k * 11) d oa j.ops.length oc 0 w.heap.size j.ops cur _ h1 a3 a4 rfl (lies_any hr) (fun g hgg => (hg g (by rw [eo]; exact hgg)).2.2.1) (Nat.le_refl _) (by omega)
  refine hrun.mono ?_
  rintro e w' ⟨rfl, hB, hGx⟩
  refine ⟨upd f k ⟨(f k).task, (f k).arr, (f k).work, (d : Int) + 1, (f k).ops⟩, ?_, ?_⟩
  · rw [op_yes hk hj, hd', Int.toNat_natCast]
  · refine h.seat hB ?_ (by rw [cnt_same hj]; exact h.cnt) (h.ok.set hk ⟨hb.1, hb.2.1, hb.2.2.1, hb.2.2.2.1, by show 0 ≤ j.done + 1; omega, by show j.done + 1 ≤ j.work; omega, hb.2.2.2.2.2.2⟩) (fun i => ?_) (fun i x hx => ?_)
    · refine ((h.st.set (q := 3) hk (by omega) (.int .i64 ((d : Int) + 1))).same ?_).congr (fun i _ r _ => seat_done f ts k _ i r)
      rw [hGx, set_at h1]
    · rw [h.dd]
      by_cases e : i = k
      · subst e; rw [hasJ_some hj, hasJ_some (upd_at _ _ _)]
      · rw [hasJ_ne js _ e]
    · by_cases e : i = k
      · subst e
        rw [upd_at] at hx
        cases hx
        rw [upd_at]
        refine ⟨?_, j, hj, rfl, rfl⟩
        rw [e0, hd']
      · rw [upd_ne _ _ e] at hx
        rw [upd_ne _ _ e]
        exact ⟨(h.jb i x hx).1, x, hx, rfl, rfl⟩
theorem due_done (ts : List Tk) (hm : Bool) (k : Nat) (j : Jb) (d : Int) : dueT ts hm k { j with done := d } = dueT ts hm k j := rfl
theorem dm_done {ts : List Tk} {hm : Bool} {js : Js} {k : Nat} {j : Jb} (hj : js k = some j) (d : Int) : dmT ts hm (upd js k (some { j with done := d })) = dmT ts hm js := by
  rw [dm_upd, due_done]
  have : dmT ts hm js k = some (dueT ts hm k j) := by unfold dmT; rw [hj]; rfl
  rw [← this, upd_self]
set_option maxRecDepth 100000 in
set_option maxHeartbeats 4000000 in
theorem trunT_any (w : World) (T : Nat) (S : Nat → Prop) (ts : List Tk) (hm : Bool) (js : Js) (h : TbP T ts hm js w S) (t : Int) :
    Calls Tryz.prog 21 #[.pointer (some ⟨T, 0, none⟩), .int .i64 t] w fun e w' => ∃ S', e = .returned (.tuple #[.agg #[.int .i64 (opT ts js t).at_, .int .i64 (opT ts js t).len, .int .i64 (opT ts js t).part], .int .i64 (outT ts hm js t)]) ∧ TbP T ts hm (runT ts hm js t) w' S' ∧ GrowS S S' w w' := by
  have HP := Lib.hid h
  obtain ⟨hok, G, lo, hi, H, W, X, m, f, h⟩ := h
  obtain ⟨V, hV⟩ : ∃ V, V = w.alloc (.cells #[.int .i64 0, .int .i64 0, .int .i64 0] 60) := ⟨_, rfl⟩
  obtain ⟨E, hE⟩ : ∃ E, E = w.heap.size := ⟨_, rfl⟩
  have hbV : Hid (Below w.heap.size w V) := Lib.hid (by rw [hV]; exact below1 _ _)
  have hEV : V.heap[E]? = some (.cells #[.int .i64 0, .int .i64 0, .int .i64 0] 60 (0, 0)) := by rw [hV, hE]; exact heap_alloc_new _ _
  have HEV := Lib.hid hEV
  have HT := Lib.hid (h.later hbV.out)
  have HLT := Lib.hid h.lt
  have HTH := Lib.hid (tthere_any V T G lo hi H W X m S ts hm js _ f HT.out t)
  have HV := Lib.hid hV
  have HE := Lib.hid hE
  have r0 := cell_in (j := 0) hEV rfl
  have r1 := cell_in (j := 1) hEV rfl
  have r2 := cell_in (j := 2) hEV rfl
  have q0 := free_in hEV 0
  have q1 := free_in hEV 1
  have q2 := free_in hEV 2
  have HOK := Lib.hid hok
  clear h hV hE hEV hok
  cases ht : thereT ts js t with
  | false =>
    obtain ⟨g1, g2, g3⟩ := there_no (hi := hm) ht
    have HF := Lib.hid ht
    rw [g1, g2, g3]
    clear ht g1 g2 g3
    go_enter Tryz.func21, Tryz.ntmps21
    go_upto_region 1 with fail
    rw [← HV.out, ← HE.out]
    go_wp2_with (first
      | (go_at_call 38; refine HTH.out.mono ?_; rintro e w3 ⟨rfl, hw3⟩; rw [hw3, HF.out]; clear hw3)
      | fail "no arm")
    have hX := set3t HEV.out rfl (.int .i64 0) (.int .i64 0) (.int .i64 0)
    have hB5 : But E V (((V.setCell ⟨E, 0, none⟩ (.int .i64 0)).setCell ⟨E, 1, none⟩ (.int .i64 0)).setCell ⟨E, 2, none⟩ (.int .i64 0)) := (((But.refl _ _).set 0 _).set 1 _).set 2 _
    refine bodyPost_ret (results_pairT (P := Tryz.prog) rfl _ _ E _ _ (0, 0) _ _ rfl rfl hX Tryz.underlying60 rfl Tryz.sizeTOp) rfl ?_
    have hb5 : Below w.heap.size w (((V.setCell ⟨E, 0, none⟩ (.int .i64 0)).setCell ⟨E, 1, none⟩ (.int .i64 0)).setCell ⟨E, 2, none⟩ (.int .i64 0)) := hbV.out.trans (hB5.below (by have := HE.out; omega) hbV.out.size)
    exact ⟨S, rfl, (tb_own _ _ _ _).later HP.out hb5, GrowS.of_below hb5⟩
  | true =>
    obtain ⟨k, j, rfl, hk, hj⟩ := there_nat ht
    have HF := Lib.hid ht
    have hbd := HOK.out.bd k j hj
    have HO : Hid (outT ts hm js k = outW ts hm k { j with done := j.done + 1 } ∧ runT ts hm js k = stayT (outT ts hm js k) (upd js k (some { j with done := j.done + 1 })) (upd js k none)) := Lib.hid (by
      refine ⟨by rw [out_yes hk hj, outW_J (by omega)], ?_⟩
      rw [run_yes hk hj, out_yes hk hj]; rfl)
    have HR := Lib.hid (HT.out.tick hj (by omega))
    have HJ := Lib.hid hj
    obtain ⟨ov, hov⟩ : ∃ ov, ov = opT ts js k := ⟨_, rfl⟩
    rw [← hov] at HR ⊢
    obtain ⟨o, ho⟩ : ∃ o, o = outT ts hm js k := ⟨_, rfl⟩
    rw [← ho] at HO ⊢
    have c0 := HT.out.c0
    obtain ⟨n, hn⟩ : ∃ n, n = ts.length := ⟨_, rfl⟩
    rw [← hn] at c0
    have d1 : (0 : Int) ≤ (k : Int) := by omega
    have d2 : (k : Int) < (n : Int) := by omega
    clear ht hj hk hn hbd hov ho
    go_enter Tryz.func21, Tryz.ntmps21
    go_upto_region 1 with fail
    rw [← HV.out, ← HE.out]
    go_upto_region 4 with (first
      | (go_at_call 38; refine HTH.out.mono ?_; rintro e w3 ⟨rfl, hw3⟩; rw [hw3, HF.out]; clear hw3)
      | (go_at_call 47; refine HR.out.mono ?_; rintro e w3 ⟨f3, rfl, h3, g3⟩; have H3 := Lib.hid h3; have G3 := Lib.hid g3; clear h3 g3)
      | fail "no arm")
    obtain ⟨V4, hV4⟩ : ∃ V4, V4 = w3.alloc (.cells #[.int .i64 ov.at_, .int .i64 ov.len, .int .i64 ov.part] 60) := ⟨_, rfl⟩
    obtain ⟨E4, hE4⟩ : ∃ E4, E4 = w3.heap.size := ⟨_, rfl⟩
    rw [← hV4, ← hE4]
    have hb4 : Hid (Below w3.heap.size w3 V4) := Lib.hid (by rw [hV4]; exact below1 _ _)
    have KS : Hid (∀ Y : World, Y.heap[E4]? = V4.heap[E4]? → Y.cell? ⟨E4, 0, none⟩ = some (.int .i64 ov.at_) ∧ Y.cell? ⟨E4, 1, none⟩ = some (.int .i64 ov.len) ∧ Y.cell? ⟨E4, 2, none⟩ = some (.int .i64 ov.part)) := Lib.hid (fun Y hY => by
      have hEV4 : V4.heap[E4]? = some (.cells #[.int .i64 ov.at_, .int .i64 ov.len, .int .i64 ov.part] 60 (0, 0)) := by rw [hV4, hE4]; exact heap_alloc_new _ _
      exact ⟨cell_in (hY.trans hEV4) rfl, cell_in (hY.trans hEV4) rfl, cell_in (hY.trans hEV4) rfl⟩)
    have H4 := Lib.hid (H3.out.later hb4.out)
    have G4 : Hid (GrowS S S w V4) := Lib.hid (((GrowS.of_below hbV.out).trans G3.out).trans (GrowS.of_below hb4.out))
    have hzE : Hid (E < w3.heap.size ∧ ¬ S E ∧ ¬ S E4 ∧ E4 < V4.heap.size ∧ w.heap.size ≤ E ∧ E4 ≠ E) := Lib.hid ⟨by have := lt_of_block HEV.out; have := G3.out.size; omega, fun hs => by have := HLT.out E hs; have := HE.out; omega, fun hs => by have := HLT.out E4 hs; have := G3.out.size; have := hbV.out.size; omega, by rw [hV4, hE4]; simp, by have := HE.out; omega, by have := lt_of_block HEV.out; have := G3.out.size; omega⟩
    have X4 : Hid (V4.heap[E]? = some (.cells #[.int .i64 0, .int .i64 0, .int .i64 0] 60 (0, 0))) := Lib.hid ((hb4.out.block E hzE.out.1).trans ((G3.out.block E (lt_of_block HEV.out) hzE.out.2.1).trans HEV.out))
    obtain ⟨k0, k1, k2⟩ := KS.out V4 rfl
    clear hV4 hE4 r0 r1 r2 q0 q1 q2 c0
    go_region_held3 (fun Y => Y.cell? ⟨E4, 0, none⟩ = some (.int .i64 ov.at_) ∧ Y.cell? ⟨E4, 1, none⟩ = some (.int .i64 ov.len) ∧ Y.cell? ⟨E4, 2, none⟩ = some (.int .i64 ov.part))
      (first | exact KS.out _ (KX.out _ ((((But.refl _ _).set 0 _).set 1 _).set 2 _)) | exact KS.out _ K6.out | exact KS.out _ rfl | fail "no")
      (first
      | (go_at_call 48; refine (toutcome_any _ T G lo hi H W X m S ts hm _ _ f3 (H4.out.later (Below.refl _ _).drew) k _ (upd_at _ _ _)).mono ?_; rintro e w6 ⟨m6, f6, rfl, h6, g6⟩
         rw [← HO.out.1, upd_upd] at h6
         rw [← HO.out.1]
         have H6 := Lib.hid h6
         have G6 : Hid (GrowS S S V4 w6) := Lib.hid ((GrowS.of_below (Below.refl _ _).drew).trans g6)
         have K6 : Hid (w6.heap[E4]? = V4.heap[E4]?) := Lib.hid (G6.out.block E4 hzE.out.2.2.2.1 hzE.out.2.2.1)
         have KX : Hid (∀ Y, But E w6 Y → Y.heap[E4]? = V4.heap[E4]?) := Lib.hid (fun Y hY => (hY.block E4 (Nat.lt_of_lt_of_le hzE.out.2.2.2.1 G6.out.size) hzE.out.2.2.2.2.2).trans K6.out)
         have X6 : Hid (w6.heap[E]? = some (.cells #[.int .i64 0, .int .i64 0, .int .i64 0] 60 (0, 0))) := Lib.hid ((G6.out.block E (lt_of_block X4.out) hzE.out.2.1).trans X4.out)
         have r0 := cell_in (j := 0) X6.out rfl
         have r1 := cell_in (j := 1) X6.out rfl
         have r2 := cell_in (j := 2) X6.out rfl
         have q0 := free_in X6.out 0
         have q1 := free_in X6.out 1
         have q2 := free_in X6.out 2
         clear h6 g6)
      | fail "no arm")
    go_wp2_with fail
    have hX := set3t X6.out rfl (.int .i64 ov.at_) (.int .i64 ov.len) (.int .i64 ov.part)
    have hB7 : But E w6 (((w6.setCell ⟨E, 0, none⟩ (.int .i64 ov.at_)).setCell ⟨E, 1, none⟩ (.int .i64 ov.len)).setCell ⟨E, 2, none⟩ (.int .i64 ov.part)) := (((But.refl _ _).set 0 _).set 1 _).set 2 _
    refine bodyPost_ret (results_pairT (P := Tryz.prog) rfl _ _ E _ _ (0, 0) _ _ rfl rfl hX Tryz.underlying60 rfl Tryz.sizeTOp) rfl ?_
    refine ⟨S, rfl, ?_, growS_new (G4.out.trans G6.out) hB7 hzE.out.2.2.2.2.1⟩
    have hr := HOK.out.runOk (hi := hm) (k : Int)
    rw [HO.out.2] at hr ⊢
    refine ⟨hr, G, lo, hi, H, W, X, m6, f6, ?_⟩
    have h7 := H6.out.keep (fun g hg => hB7.block g (H6.out.lt g hg) (fun e => hzE.out.2.1 (e ▸ hg))) hB7.size
    have hD : stayT o (dmT ts hm js) (upd (dmT ts hm js) k none) = dmT ts hm (stayT o (upd js k (some { j with done := j.done + 1 })) (upd js k none)) := by
      unfold stayT
      split
      · rw [dm_done HJ.out]
      · rw [dm_rem]
    rw [← hD]
    exact h7
set_option maxRecDepth 100000 in
set_option maxHeartbeats 4000000 in
theorem tmissed_any (w : World) (T : Nat) (S : Nat → Prop) (ts : List Tk) (hm : Bool) (js : Js) (h : TbP T ts hm js w S) (now : Int) :
    Calls Tryz.prog 32 #[.pointer (some ⟨T, 0, none⟩), .int .i64 now] w fun e w' => ∃ S' ao cap, e = .returned (.slice ao (misL ts js now).length cap) ∧ Lies w' w.heap.size w'.heap.size (.slice ao (misL ts js now).length cap) (misL ts js now).length 1 ((misL ts js now).flatMap intCells) ∧ TbP T ts hm (misT ts js now) w' S' ∧ GrowS S S' w w' := by
  obtain ⟨hok, G, lo, hi, H, W, X, m, f, h⟩ := h
  obtain ⟨V, hV⟩ : ∃ V, V = w.alloc (.cells #[.int .i64 now] 3) := ⟨_, rfl⟩
  obtain ⟨E, hE⟩ : ∃ E, E = w.heap.size := ⟨_, rfl⟩
  have hbV : Hid (Below w.heap.size w V) := Lib.hid (by rw [hV]; exact below1 _ _)
  have hEV : V.heap[E]? = some (.cells #[.int .i64 now] 3 (0, 0)) := by rw [hV, hE]; exact heap_alloc_new _ _
  have HC := Lib.hid (tdrop_miss V T G lo hi H W X m S ts hm js _ f (h.later hbV.out) now E (cell_in hEV rfl) (lt_of_block hEV) (fun hs => by have := h.lt E hs; omega))
  have HV := Lib.hid hV
  have HE := Lib.hid hE
  have HOK := Lib.hid hok
  clear h hV hE hEV hok
  go_enter Tryz.func32, Tryz.ntmps32
  go_upto_region 1 with fail
  rw [← HV.out, ← HE.out]
  go_wp2_with (first
    | (go_at_call 50; refine HC.out.mono ?_; rintro e w3 ⟨m3, f3, ao, cap, rfl, l3, h3, g3⟩; have L3 := Lib.hid l3; have H3 := Lib.hid h3; have G3 := Lib.hid g3; clear l3 h3 g3)
    | fail "no arm")
  go_ret
  have hz := hbV.out.size
  refine ⟨S, ao, cap, rfl, L3.out.wider hz (Nat.le_refl _), ⟨HOK.out.remOk _ _, G, lo, hi, H, W, X, m3, f3, ?_⟩, (GrowS.of_below hbV.out).trans G3.out⟩
  have := H3.out
  rw [rem_dm] at this
  exact this
set_option maxRecDepth 100000 in
set_option maxHeartbeats 4000000 in
theorem tclear_any (w : World) (T : Nat) (S : Nat → Prop) (ts : List Tk) (hm : Bool) (js : Js) (h : TbP T ts hm js w S) :
    Calls Tryz.prog 34 #[.pointer (some ⟨T, 0, none⟩)] w fun e w' => ∃ S', e = .returned (.tuple #[]) ∧ TbP T ts false (fun _ => none) w' S' ∧ GrowS S S' w w' := by
  obtain ⟨hok, G, lo, hi, H, W, X, m, f, h⟩ := h
  have HM := Lib.hid (tmade_any w T G lo hi H W X m S ts hm js _ f h)
  have HC := Lib.hid (tdrop_clear w T G lo hi H W X m S ts hm js _ f h)
  have HJ := Lib.hid (rem_all hok)
  clear h hok
  go_enter Tryz.func34, Tryz.ntmps34
  go_wp2_with (first
    | (go_at_call 49; refine HM.out.mono ?_; rintro e w3 ⟨rfl, hw3⟩; rw [hw3]; clear hw3)
    | (go_at_call 50; refine HC.out.mono ?_; rintro e w4 ⟨m4, f4, ao, cap, rfl, l4, h4, g4⟩
       rw [rem_dm, HJ.out, dm_none ts hm, ← dm_none ts false] at h4
       have H4 := Lib.hid h4; have G4 := Lib.hid g4
       have c2 := h4.c2
       have f2 := free_in h4.box 2
       clear l4 h4 g4)
    | fail "no arm")
  go_end0
  obtain ⟨h5, g5⟩ := H4.out.mode false
  exact ⟨S, rfl, ⟨JsOk.none ts, G, lo, hi, H, W, X, m4, f4, h5⟩, G4.out.trans g5⟩
end Go.Proofs.YtnenbgdonkgkfaaGreat
