/- The program's table of jobs: a job's tick; a job gone; those gone of which a closure holds. -/
import Derived.Test.YtnenbgdonkgkfaaGreatTaskQ
import Derived.Test.YtnenbgdonkgkfaaGreatTks
import Derived.Lib.SliceRun
namespace Go.Proofs.YtnenbgdonkgkfaaGreat
open Go.ChangeShapes Go.WideShapes Go.ChangeAt Go.RowKit
set_option linter.unusedVariables false

theorem growS_then {S : Nat → Prop} {a b c : World} (g : GrowS S S a b) (h : Below a.heap.size b c) : GrowS S S a c :=
  ⟨h.os.trans g.os, h.tape.trans g.tape, h.output.trans g.output, Nat.le_trans g.size h.size, fun k hk hs => (h.block k hk).trans (g.block k hk hs), fun k hk => .inl hk⟩
set_option maxRecDepth 100000 in
set_option maxHeartbeats 4000000 in
/-- A tick of a job is done. -/
theorem trun_any (w : World) (G o d : Nat) (a : Option Addr) (n c lo hi : Nat) (ops : List Wn) (cur : Array Value) (ty : TypeId) (hG : w.heap[G]? = some (.cells cur ty (0, 0))) (b3 : w.cell? ⟨G, o + 3, none⟩ = some (.int .i64 d)) (b4 : w.cell? ⟨G, o + 4, none⟩ = some (.slice a n c))
    (hn : ops.length = n) (hl : Lies w lo hi (.slice a n c) n 3 (ops.flatMap Wn.cells)) (hg : ∀ g, (Value.slice a n c).ownBlock = some g → g ≠ G) (hhi : hi ≤ w.heap.size) (hd : d ≤ 2000000) :
    Calls Tryz.prog 47 #[.pointer (some ⟨G, o, none⟩)] w fun e w' => e = .returned (.agg #[.int .i64 (ops.getD d zWn).at_, .int .i64 (ops.getD d zWn).len, .int .i64 (ops.getD d zWn).part]) ∧ But G w w' ∧ w'.heap[G]? = some (.cells (cur.setIfInBounds (o + 3) (.int .i64 ((d : Int) + 1))) ty (0, 0)) := by
  have e1 : IntKind.i64.wrap ((d : Int) + 1) = (d : Int) + 1 := IntWalk.i64_in _ (by omega)
  have hGl := lt_of_block hG
  have KA := Lib.hid (ops_read hn hl)
  have HNN := Lib.hid hn
  obtain ⟨V, hV⟩ : ∃ V, V = w.alloc (.cells #[.int .i64 0, .int .i64 0, .int .i64 0] 60) := ⟨_, rfl⟩
  have hbV : Hid (Below w.heap.size w V) := Lib.hid (by rw [hV]; exact below1 _ _)
  have hEV : V.heap[w.heap.size]? = some (.cells #[.int .i64 0, .int .i64 0, .int .i64 0] 60 (0, 0)) := by rw [hV]; exact heap_alloc_new _ _
  have hGV : V.heap[G]? = some (.cells cur ty (0, 0)) := (hbV.out.block G hGl).trans hG
  have y3 : V.cell? ⟨G, o + 3, none⟩ = some (.int .i64 d) := by unfold World.cell? at b3 ⊢; rw [hbV.out.block G hGl]; exact b3
  have y4 : V.cell? ⟨G, o + 4, none⟩ = some (.slice a n c) := by unfold World.cell? at b4 ⊢; rw [hbV.out.block G hGl]; exact b4
  have f3 := free_in hGV (o + 3)
  obtain ⟨E, hE⟩ : ∃ E, E = w.heap.size := ⟨_, rfl⟩
  have hne : E ≠ G := by omega
  obtain ⟨V1, hV1⟩ : ∃ V1, V1 = V.setCell ⟨G, o + 3, none⟩ (.int .i64 ((d : Int) + 1)) := ⟨_, rfl⟩
  have hB1 : But G V V1 := by rw [hV1]; exact (But.refl _ _).set _ _
  have hG1 : Hid (V1.heap[G]? = some (.cells (cur.setIfInBounds (o + 3) (.int .i64 ((d : Int) + 1))) ty (0, 0))) := Lib.hid (by rw [hV1]; exact set_at hGV)
  have z4 : V1.cell? ⟨G, o + 4, none⟩ = some (.slice a n c) := by
    have yc : cur[o + 4]? = some (.slice a n c) := by simpa [World.cell?, hGV] using y4
    exact cell_in hG1.out (by rw [Array.getElem?_setIfInBounds, if_neg (by omega)]; exact yc)
  rw [← hE] at hEV
  have hE1 : V1.heap[E]? = some (.cells #[.int .i64 0, .int .i64 0, .int .i64 0] 60 (0, 0)) := (hB1.block E (lt_of_block hEV) hne).trans hEV
  have HE1 := Lib.hid hE1
  have r0 := cell_in (j := 0) hE1 rfl
  have r1 := cell_in (j := 1) hE1 rfl
  have r2 := cell_in (j := 2) hE1 rfl
  have q0 := free_in hE1 0
  have q1 := free_in hE1 1
  have q2 := free_in hE1 2
  have HB : Hid (But G w V1) := Lib.hid ((But.of_below hbV.out).trans hB1)
  have HV := Lib.hid hV
  have HV1 := Lib.hid hV1
  have HE := Lib.hid hE
  have HNE := Lib.hid hne
  have hfin : Hid (∀ u0 u1 u2, (((V1.setCell ⟨E, 0, none⟩ u0).setCell ⟨E, 1, none⟩ u1).setCell ⟨E, 2, none⟩ u2).heap[E]? = some (.cells #[u0, u1, u2] 60 (0, 0)) ∧ But G w (((V1.setCell ⟨E, 0, none⟩ u0).setCell ⟨E, 1, none⟩ u1).setCell ⟨E, 2, none⟩ u2) ∧ (((V1.setCell ⟨E, 0, none⟩ u0).setCell ⟨E, 1, none⟩ u1).setCell ⟨E, 2, none⟩ u2).heap[G]? = some (.cells (cur.setIfInBounds (o + 3) (.int .i64 ((d : Int) + 1))) ty (0, 0))) := Lib.hid (fun u0 u1 u2 => by
    have hBE : But E V1 (((V1.setCell ⟨E, 0, none⟩ u0).setCell ⟨E, 1, none⟩ u1).setCell ⟨E, 2, none⟩ u2) := (((But.refl _ _).set 0 _).set 1 _).set 2 _
    refine ⟨set3t HE1.out rfl _ _ _, ?_, (hBE.block G (lt_of_block hG1.out) (fun e => HNE.out e.symm)).trans hG1.out⟩
    exact ⟨hBE.os.trans HB.out.os, hBE.tape.trans HB.out.tape, hBE.output.trans HB.out.output, Nat.le_trans HB.out.size hBE.size, fun k hk hkg => (hBE.block k (Nat.lt_of_lt_of_le hk HB.out.size) (by have := HE.out; omega)).trans (HB.out.block k hk hkg)⟩)
  clear hV hV1 hE hne hB1 hGV hEV hE1 hn hl hG hbV hGl
  go_enter Tryz.func47, Tryz.ntmps47
  go_upto_region 1 with fail
  rw [← HV.out, ← HE.out]
  clear b3 b4
  go_upto_region 3 with fail
  rw [← HV1.out]
  clear y3 y4 f3
  by_cases hlt : d < n
  · have d0 : decide ((n : Int) ≤ (d : Int)) = false := decide_eq_false (by omega)
    have d1 : (0 : Int) ≤ (d : Int) := by omega
    have d2 : (d : Int) < (n : Int) := by omega
    obtain ⟨b, off, y0, y1, y2, rfl, hb1, hb, hy, hc⟩ := KA.out d hlt
    have hbG : b ≠ G := hg b rfl
    obtain ⟨k0, k1, k2⟩ := hc V1 (HB.out.block b (by omega) hbG)
    have HO : Hid (ops.getD d zWn = ⟨y0, y1, y2⟩) := Lib.hid (by rw [List.getD_eq_getElem?_getD, hy]; rfl)
    clear hb1 hb hy hc hbG
    go_wp2_with fail
    obtain ⟨x1, x2, x3⟩ := hfin.out (.int .i64 y0) (.int .i64 y1) (.int .i64 y2)
    refine bodyPost_ret (results_cell_row (P := Tryz.prog) rfl _ _ E _ _ (0, 0) _ rfl x1 Tryz.underlying60 rfl Tryz.sizeTOp) rfl ?_
    exact ⟨by rw [HO.out], x2, x3⟩
  · have d0 : decide ((n : Int) ≤ (d : Int)) = true := decide_eq_true (by omega)
    have HO : Hid (ops.getD d zWn = zWn) := Lib.hid (by rw [List.getD_eq_getElem?_getD, List.getElem?_eq_none (by have := HNN.out; omega)]; rfl)
    go_wp2_with fail
    obtain ⟨x1, x2, x3⟩ := hfin.out (.int .i64 0) (.int .i64 0) (.int .i64 0)
    refine bodyPost_ret (results_cell_row (P := Tryz.prog) rfl _ _ E _ _ (0, 0) _ rfl x1 Tryz.underlying60 rfl Tryz.sizeTOp) rfl ?_
    exact ⟨by rw [HO.out]; rfl, x2, x3⟩
theorem seat_z (f : Nat → Jc) (ts : List Tk) (k : Nat) (x : Jc) : ∀ i r, (if i = k ∧ r = 4 then x.ops else if i = k ∧ r = 3 then .int .i64 x.done else if i = k ∧ r = 2 then .int .i64 x.work else if i = k ∧ r = 1 then .int .i64 x.arr else if i = k ∧ r = 0 then .int .i64 x.task else seatV f ts i r) = seatV (upd f k x) ts i r := by
  intro i r
  by_cases e : i = k
  · subst e
    match r with
    | 0 => simp [seatV, upd_at]
    | 1 => simp [seatV, upd_at]
    | 2 => simp [seatV, upd_at]
    | 3 => simp [seatV, upd_at]
    | 4 => simp [seatV, upd_at]
    | 5 => simp [seatV]
    | 6 => simp [seatV]
    | 7 => simp [seatV]
    | 8 => simp [seatV]
    | 9 => simp [seatV]
    | (m + 10) => simp [seatV]
  · have h2 : upd f k x i = f i := upd_ne _ _ e
    simp only [e, false_and, if_false]
    unfold seatV
    rw [h2]
theorem SeatsC.job {w : World} {G n : Nat} {f : Nat → Jc} {ts : List Tk} (h : SeatsC w G n (seatV f ts)) {k : Nat} (hk : k < n) (x : Jc) : SeatsC (((((w.setCell ⟨G, k * 11, none⟩ (.int .i64 x.task)).setCell ⟨G, k * 11 + 1, none⟩ (.int .i64 x.arr)).setCell ⟨G, k * 11 + 2, none⟩ (.int .i64 x.work)).setCell ⟨G, k * 11 + 3, none⟩ (.int .i64 x.done)).setCell ⟨G, k * 11 + 4, none⟩ x.ops) G n (seatV (upd f k x) ts) :=
  (((((h.set (q := 0) hk (by omega) _).set (q := 1) hk (by omega) _).set (q := 2) hk (by omega) _).set (q := 3) hk (by omega) _).set (q := 4) hk (by omega) _).congr (fun i _ r _ => seat_z f ts k x i r)
theorem dd_rem {js : Js} {D : Nat → Option Int} (h : ∀ k, (D k).isSome = hasJ js k) (k : Nat) : ∀ i, ((upd D k none) i).isSome = hasJ (upd js k none) i := fun i => by
  by_cases e : i = k
  · subst e; rw [upd_at, hasJ_none (upd_at _ _ _)]; rfl
  · rw [upd_ne _ _ e, hasJ_ne js _ e]; exact h i
theorem rem_keeps {js : Js} {k : Nat} : ∀ i j, (upd js k none) i = some j → js i = some j := fun i j h => by
  by_cases e : i = k
  · subst e; rw [upd_at] at h; cases h
  · rwa [upd_ne _ _ e] at h
set_option maxRecDepth 100000 in
set_option maxHeartbeats 4000000 in
/-- A job is gone. -/
theorem tleave_any (w : World) (T G lo hi H W X m : Nat) (S : Nat → Prop) (ts : List Tk) (hm : Bool) (js : Js) (D : Nat → Option Int) (f : Nat → Jc) (h : TbD w T G lo hi H W X m S ts hm js D f) (k : Nat) (j : Jb) (hj : js k = some j) :
    Calls Tryz.prog 68 #[.pointer (some ⟨T, 0, none⟩), .int .i64 k] w fun e w' => ∃ m', e = .returned (.tuple #[]) ∧ TbD w' T G lo hi H W X m' S ts hm (upd js k none) (upd D k none) (upd f k Jc.z) ∧ GrowS S S w w' := by
  have hk := h.ok.lt hj
  have c1 := h.c1
  obtain ⟨d, hd⟩ : ∃ d, D k = some d := Option.isSome_iff_exists.1 (by rw [h.dd]; exact hasJ_some hj)
  have HR := Lib.hid (hremove_in w lo hi H W X ts.length m D h.hp k d hd)
  have HT := Lib.hid h
  have HJ := Lib.hid hj
  have d1 : (0 : Int) ≤ (k : Int) := by omega
  obtain ⟨n, hn⟩ : ∃ n, n = ts.length := ⟨_, rfl⟩
  have HN := Lib.hid hn
  have d2 : (k : Int) < (n : Int) := by omega
  clear h hd hj hk hn
  go_enter Tryz.func68, Tryz.ntmps68
  go_wp2_with (first
    | (go_at_call 75; refine HR.out.mono ?_; rintro e w3 ⟨m', rfl, hm', hp', hM'⟩
       obtain ⟨h3, g3⟩ := HT.out.heap hp' hM' (by have := HT.out.cnt; have := cnt_rem HJ.out ts.length (HT.out.ok.lt HJ.out); omega) (dd_rem HT.out.dd k) rem_keeps
       have H3 := Lib.hid h3
       have G3 := Lib.hid g3
       have c0 := h3.c0
       rw [← HN.out] at c0
       obtain ⟨s0, s1, s2, s3, s4, _⟩ := h3.seatAt (HT.out.ok.lt HJ.out)
       have q0 := h3.st.free (k * 11)
       have q1 := h3.st.free (k * 11 + 1)
       have q2 := h3.st.free (k * 11 + 2)
       have q3 := h3.st.free (k * 11 + 3)
       have q4 := h3.st.free (k * 11 + 4)
       clear hm' hp' hM' h3 g3)
    | fail "no arm")
  go_end0
  have hs := H3.out.st.job (HT.out.ok.lt HJ.out) Jc.z
  obtain ⟨h4, g4⟩ := H3.out.seat (js' := upd js k none) (f' := upd f k Jc.z) ((((((But.refl G w3).set _ _).set _ _).set _ _).set _ _).set _ _) hs H3.out.cnt H3.out.ok H3.out.dd (fun i j' hi => by
    have hne : i ≠ k := fun e => by subst e; rw [upd_at] at hi; cases hi
    rw [upd_ne _ _ hne]
    exact ⟨(H3.out.jb i j' hi).1, j', hi, rfl, rfl⟩)
  exact ⟨m', rfl, h4, G3.out.trans g4⟩
end Go.Proofs.YtnenbgdonkgkfaaGreat
