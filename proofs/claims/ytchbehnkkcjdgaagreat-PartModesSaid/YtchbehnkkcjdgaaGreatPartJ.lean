/- The program's partition: its jobs. -/
import Derived.Test.YtchbehnkkcjdgaaGreatPartMid
namespace Go.Proofs.YtchbehnkkcjdgaaGreat
open Go.ChangeShapes Go.WideShapes Go.ChangeAt Go.RowKit
set_option linter.unusedVariables false
set_option linter.unusedSimpArgs false

/-- The jobs of the first k tasks, by tasks. -/
def jobsL (js : Js) : Nat → List (Int × Jb)
  | 0 => []
  | k + 1 => jobsL js k ++ (if hasJ js k = true then [((k : Int), jbAt js k)] else [])
theorem jobsL_len (js : Js) : ∀ n, (jobsL js n).length ≤ n
  | 0 => Nat.le_refl _
  | n + 1 => by have := jobsL_len js n; unfold jobsL; rw [List.length_append]; split <;> simp <;> omega
theorem jobsL_past {ts : List Tk} {js : Js} (h : JsOk ts js) : ∀ n, ts.length ≤ n → jobsL js n = jobsL js ts.length
  | 0, hn => by rw [show ts.length = 0 by omega]
  | n + 1, hn => by
    by_cases e : ts.length = n + 1
    · rw [e]
    · have h1 := jobsL_past h n (by omega)
      show jobsL js n ++ (if hasJ js n = true then [((n : Int), jbAt js n)] else []) = _
      rw [h1, hasJ_none (h.out n (by omega)), if_neg (by simp), List.append_nil]
theorem jobsL_mem {js : Js} {t : Int} {j : Jb} : ∀ {n : Nat}, (t, j) ∈ jobsL js n → ∃ k : Nat, t = k ∧ k < n ∧ js k = some j
  | 0, h => by cases h
  | n + 1, h => by
    rcases List.mem_append.1 h with h | h
    · obtain ⟨k, a, b, c⟩ := jobsL_mem h
      exact ⟨k, a, by omega, c⟩
    · split at h
      · rename_i hj
        rw [List.mem_singleton] at h
        cases h
        obtain ⟨j, hj'⟩ := hasJ_t hj
        exact ⟨n, rfl, by omega, by rw [hj', jbAt_some hj']⟩
      · cases h
/-- A job's cells; ov is the row of its ops. -/
structure Jv where
  t : Int
  j : Jb
  ov : Value
def Jv.cells (v : Jv) : List Value := [.int .i64 v.t, .int .i64 v.j.arr, .int .i64 v.j.work, .int .i64 v.j.done, v.ov]
/-- A row of jobs, made since B. -/
def JRow (T : TypeId) (B : Nat) (l : List (Int × Jb)) (v : Value) (w : World) : Prop := ∃ (ao : Option Addr) (cap : Nat) (vs : List Jv), v = .slice ao vs.length cap ∧ w.ownsRow B T 5 (.slice ao vs.length cap) vs.length (vs.flatMap Jv.cells) ∧ vs.map (fun v => (v.t, v.j)) = l ∧ ∀ y ∈ vs, Lies w B w.heap.size y.ov y.j.ops.length 3 (y.j.ops.flatMap Wn.cells)
theorem Tryz.infoJb20 : (Tryz.prog.info? 66).map (fun i => (i.zero, i.size, i.bytes)) = some (some (.agg #[.int .i64 0, .int .i64 0, .int .i64 0, .int .i64 0, .slice none 0 0]), 5, 56) := by kernel_rfl
/-- The rows of ops of those so far: each in a stretch of its own, where the row itself is not. -/
def OpsAt (B : Nat) (w : World) (own : Option Nat) (vs : List Jv) : Prop := ∀ y ∈ vs, ∃ lo hi, B ≤ lo ∧ hi ≤ w.heap.size ∧ Lies w lo hi y.ov y.j.ops.length 3 (y.j.ops.flatMap Wn.cells) ∧ ∀ g, own = some g → g < lo ∨ hi ≤ g
theorem OpsAt.later {B : Nat} {w w' : World} {own : Option Nat} {vs : List Jv} (h : OpsAt B w own vs) (hb : Below w.heap.size w w') : OpsAt B w' own vs := fun y hy => by
  obtain ⟨lo, hi, a1, a2, a3, a4⟩ := h y hy
  exact ⟨lo, hi, a1, Nat.le_trans a2 hb.size, a3.keep (SameIn.of_below hb a2), a4⟩
theorem OpsAt.grown {B : Nat} {w w' : World} {own own' : Option Nat} {vs : List Jv} (h : OpsAt B w own vs) (hg : w.grownBy w' own) (ho : own' = own ∨ own' = some w.heap.size) : OpsAt B w' own' vs := fun y hy => by
  obtain ⟨lo, hi, a1, a2, a3, a4⟩ := h y hy
  refine ⟨lo, hi, a1, Nat.le_trans a2 hg.size, a3.keep (fun b h1 h2 => hg.block b (by omega) (fun e => by rcases a4 b e.symm with h3 | h3 <;> omega)), fun g hgg => ?_⟩
  rcases ho with e | e
  · exact a4 g (by rw [← e]; exact hgg)
  · rw [e] at hgg; cases hgg; exact .inr a2
theorem jv_snoc (vs : List Jv) (v : Jv) : (vs ++ [v]).flatMap Jv.cells = vs.flatMap Jv.cells ++ v.cells := by simp
set_option maxRecDepth 100000 in
set_option maxHeartbeats 8000000 in
theorem ball_any (w : World) (H : Nat) (S : Nat → Prop) (ts : List Tk) (ss : List Sv) (st : Int) (x : Px) (h : PgAt H ts ss st x w S) : Calls Tryz.prog 79 #[.pointer (some ⟨H, 0, none⟩)] w fun e w' => ∃ v, e = .returned v ∧ JRow 66 w.heap.size (jobsL x.js ts.length) v w' ∧ Below w.heap.size w w' := by
  obtain ⟨tbl, A, c0, hT, _, _, _⟩ := h.table
  have hbds := h.bds
  obtain ⟨i0, hi, hz0, hz1, hz2⟩ := info_parts Tryz.infoJb20
  have HI := Lib.hid hi
  have HGT : Hid (∀ (W : World), Below w.heap.size w W → ∀ k : Nat, k < 6 → (W.cell? ⟨H, 0, none⟩ = some (.pointer (some ⟨tbl, 0, none⟩))) ∧ Calls Tryz.prog 128 #[.pointer (some ⟨tbl, 0, none⟩), .int .i64 k] W fun e w' => ∃ ao cap, e = .returned (.tuple #[.agg #[.int .i64 (getT ts x.js k), .int .i64 (getJ ts x.js k).arr, .int .i64 (getJ ts x.js k).work, .int .i64 (getJ ts x.js k).done, .slice ao (getJ ts x.js k).ops.length cap], .bool (hasJ x.js k)]) ∧ Lies w' W.heap.size w'.heap.size (.slice ao (getJ ts x.js k).ops.length cap) (getJ ts x.js k).ops.length 3 ((getJ ts x.js k).ops.flatMap Wn.cells) ∧ Below W.heap.size W w') := Lib.hid (fun W hW k hk => by
    refine ⟨(World.cell?_of_block (hW.block H (by obtain ⟨_, _, _, _, hb, _⟩ := h.box; exact lt_of_block hb))).trans c0, ?_⟩
    refine (tasksOk.get W tbl A ts x.hi x.js k ((tasksOk.own _ _ _ _).later hT hW)).mono ?_
    rintro e w' ⟨ao, cap, rfl, q1, q2⟩
    have e1 : thereT ts x.js k = hasJ x.js k := by
      cases hh : hasJ x.js k with
      | true =>
        obtain ⟨j, hj⟩ := hasJ_t hh
        exact there_yes (hbds.2.2.1.lt hj) hj
      | false => unfold thereT; rw [Int.toNat_natCast, hh, Bool.and_false]
    rw [e1]
    exact ⟨ao, cap, rfl, q1, q2⟩)
  have HJJ : Hid (∀ k : Nat, hasJ x.js k = true → getT ts x.js k = k ∧ getJ ts x.js k = jbAt x.js k) := Lib.hid (fun k hh => by
    obtain ⟨j, hj⟩ := hasJ_t hh
    rw [jbAt_some hj]
    exact get_yes (hbds.2.2.1.lt hj) hj)
  have HOL : Hid (∀ k : Nat, (getJ ts x.js k).ops.length ≤ 64) := Lib.hid (fun k => by
    unfold getJ
    split
    · rename_i hh
      obtain ⟨k', j, e, hk', hj⟩ := there_nat hh
      rw [e, Int.toNat_natCast, jbAt_some hj]
      exact (hbds.2.2.1.bd k' j hj).2.2.2.2.2.2
    · simp)
  have HPA : Hid (jobsL x.js 6 = jobsL x.js ts.length) := Lib.hid (jobsL_past hbds.2.2.1 6 hbds.1)
  clear h hT hbds hi
  go_enter Tryz.func79, Tryz.ntmps79
  go_wp2_with fail
  go_loopw [3, 7] (fun s3 s7 wr => ∃ (k : Nat) (vs : List Jv) (n : Nat) (ao : Option Addr) (cap : Nat), k ≤ 6 ∧ n ≤ k ∧ s3 = .slice ao n cap ∧ s7 = .int .i64 k ∧ Hid (n = vs.length) ∧ Hid (wr.ownsRow w.heap.size 66 5 (.slice ao n cap) n (vs.flatMap Jv.cells)) ∧ Hid (vs.map (fun v => (v.t, v.j)) = jobsL x.js k) ∧ Hid (OpsAt w.heap.size wr (Value.slice ao n cap).ownBlock vs) ∧ Hid (Below w.heap.size w wr)) (fun _ s _ => 6 - (intOf s).toNat)
  case atStart => exact ⟨0, [], 0, none, 0, by omega, by omega, rfl, rfl, Lib.hid rfl, Lib.hid ⟨rfl, .inl ⟨rfl, rfl⟩⟩, Lib.hid rfl, Lib.hid (fun y hy => by cases hy), Lib.hid (Below.refl _ _)⟩
  case round =>
    obtain ⟨k, vs, n, ao, cap, hk, hn, rfl, rfl, HN, HO, HM, HOP, HB⟩ := hrel
    by_cases hlt : k < 6
    · have d0 : decide ((k : Int) < 6) = true := decide_eq_true (by omega)
      obtain ⟨b0, hget⟩ := HGT.out wr HB.out k hlt
      obtain ⟨jt, hjt⟩ : ∃ a, a = getT ts x.js k := ⟨_, rfl⟩
      obtain ⟨ja, hja⟩ : ∃ a, a = (getJ ts x.js k).arr := ⟨_, rfl⟩
      obtain ⟨jw, hjw⟩ : ∃ a, a = (getJ ts x.js k).work := ⟨_, rfl⟩
      obtain ⟨jd, hjd⟩ : ∃ a, a = (getJ ts x.js k).done := ⟨_, rfl⟩
      obtain ⟨jo, hjo⟩ : ∃ a, a = (getJ ts x.js k).ops := ⟨_, rfl⟩
      obtain ⟨m, hm⟩ : ∃ m, m = jo.length := ⟨_, rfl⟩
      rw [← hjt, ← hja, ← hjw, ← hjd, ← hjo, ← hm] at hget
      have HG := Lib.hid hget
      have HV : Hid (hasJ x.js k = true → jt = k ∧ jbAt x.js k = ⟨ja, jw, jd, jo⟩) := Lib.hid (fun hh => by
        obtain ⟨q1, q2⟩ := HJJ.out k hh
        rw [hja, hjw, hjd, hjo, hjt, q1, q2]
        exact ⟨rfl, rfl⟩)
      have HL : Hid (m = jo.length) := Lib.hid hm
      obtain ⟨bb, hbb⟩ : ∃ bb, bb = hasJ x.js k := ⟨_, rfl⟩
      have HNX : Hid (jobsL x.js (k + 1) = jobsL x.js k ++ (if bb = true then [((k : Int), jbAt x.js k)] else [])) := Lib.hid (by rw [hbb]; rfl)
      rw [← hbb] at HG HV
      clear hget hjt hja hjw hjd hjo hm hbb
      cases bb with
      | false =>
        rw [if_neg (by simp), List.append_nil] at HNX
        go_wp2_with (first
          | (go_at_call 128; refine HG.out.mono ?_; rintro e w5 ⟨ao5, cap5, rfl, hl5', hb5'⟩; have hb5 := Lib.hid hb5'; clear hl5' hb5')
          | fail "no arm")
        go_roundw
        case rel =>
          have hbA := hb5.out.trans ((below1 w5 (.cells #[.int .i64 jt, .int .i64 ja, .int .i64 jw, .int .i64 jd, .slice ao5 m cap5] 66)).mono hb5.out.size)
          exact ⟨k + 1, vs, n, ao, cap, by omega, by omega, rfl, by go_num, HN, Lib.hid (owns_later HO.out hbA), Lib.hid (by rw [HNX.out]; exact HM.out), Lib.hid (HOP.out.later hbA), Lib.hid (HB.out.trans (hbA.mono HB.out.size))⟩
        case measure => simp [intOf]; omega
      | true =>
        rw [if_pos rfl] at HNX
        go_wp2_with (first
          | (refine wpList_append_lie2 (by rfl) (.tmp 20) (.tmp 22) 89 (by rfl) w.heap.size 66 i0 _ 5 56 Tryz.underlying89 HI.out hz0 hz1 hz2 rfl (by omega) (.slice ao n cap) n (vs.flatMap Jv.cells) (by rfl) (owns_later HO.out HBA.out) (.slice (some ⟨w5.heap.size + 1, 0, none⟩) 1 1) (w5.heap.size + 1) (w5.heap.size + 2) 1 [.int .i64 jt, .int .i64 ja, .int .i64 jw, .int .i64 jd, .slice ao5 m cap5] (by rfl) HSR.out (by intro u hu; simp at hu; rcases hu with h | h | h | h | h <;> subst h <;> rfl) (n + 1) rfl (by simp only [maxLen]; omega) (by omega) (by have := HB.out.size; have := hb5.out.size; simp; omega) ?_
             intro ao6 cap6 w6 hown6' hgrow6' hob6'
             have hown6 := Lib.hid hown6'
             have hgr6 := Lib.hid hgrow6'
             have hob6 := Lib.hid hob6'
             clear hown6' hgrow6' hob6')
          | (go_at_call 128; refine HG.out.mono ?_; rintro e w5 ⟨ao5, cap5, rfl, hl5', hb5'⟩; have hb5 := Lib.hid hb5'; have hl5 := Lib.hid hl5'
             have HBA : Hid (Below wr.heap.size wr ((w5.alloc (.cells #[.int .i64 jt, .int .i64 ja, .int .i64 jw, .int .i64 jd, .slice ao5 m cap5] 66)).alloc (.cells #[.int .i64 jt, .int .i64 ja, .int .i64 jw, .int .i64 jd, .slice ao5 m cap5] 66))) := Lib.hid (hb5'.trans ((b_alloc (below1 w5 _) (Nat.le_refl _) _).mono hb5'.size))
             have HSR : Hid (Lies ((w5.alloc (.cells #[.int .i64 jt, .int .i64 ja, .int .i64 jw, .int .i64 jd, .slice ao5 m cap5] 66)).alloc (.cells #[.int .i64 jt, .int .i64 ja, .int .i64 jw, .int .i64 jd, .slice ao5 m cap5] 66)) (w5.heap.size + 1) (w5.heap.size + 2) (.slice (some ⟨w5.heap.size + 1, 0, none⟩) 1 1) 1 5 [.int .i64 jt, .int .i64 ja, .int .i64 jw, .int .i64 jd, .slice ao5 m cap5]) := Lib.hid (by
               have h1 := one_lies (cs := #[.int .i64 jt, .int .i64 ja, .int .i64 jw, .int .i64 jd, .slice ao5 m cap5]) (heap_alloc_new (w5.alloc (.cells #[.int .i64 jt, .int .i64 ja, .int .i64 jw, .int .i64 jd, .slice ao5 m cap5] 66)) (.cells #[.int .i64 jt, .int .i64 ja, .int .i64 jw, .int .i64 jd, .slice ao5 m cap5] 66)) rfl
               have e : (w5.alloc (.cells #[.int .i64 jt, .int .i64 ja, .int .i64 jw, .int .i64 jd, .slice ao5 m cap5] 66)).heap.size = w5.heap.size + 1 := by simp
               rw [e] at h1
               exact h1)
             clear hl5' hb5')
          | fail "no arm")
        go_roundw
        case rel => exact ⟨k + 1, vs ++ [⟨jt, ⟨ja, jw, jd, jo⟩, .slice ao5 m cap5⟩], n + 1, ao6, cap6, by omega, by omega, rfl, by go_num, Lib.hid (by rw [List.length_append, HN.out]; rfl), Lib.hid (by rw [jv_snoc]; exact hown6.out), Lib.hid (by
            obtain ⟨q1, q2⟩ := HV.out (by trivial)
            rw [HNX.out, List.map_append, HM.out, q2]
            simp [q1]), Lib.hid (by
            have h1 : OpsAt w.heap.size ((w5.alloc (.cells #[.int .i64 jt, .int .i64 ja, .int .i64 jw, .int .i64 jd, .slice ao5 m cap5] 66)).alloc (.cells #[.int .i64 jt, .int .i64 ja, .int .i64 jw, .int .i64 jd, .slice ao5 m cap5] 66)) (Value.slice ao n cap).ownBlock (vs ++ [⟨jt, ⟨ja, jw, jd, jo⟩, .slice ao5 m cap5⟩]) := fun y hy => by
              rcases List.mem_append.1 hy with hy | hy
              · exact HOP.out.later HBA.out y hy
              · rw [List.mem_singleton] at hy
                subst hy
                refine ⟨wr.heap.size, w5.heap.size, HB.out.size, by simp; omega, ?_, fun g hg => .inl (owns_own HO.out g hg).2⟩
                have hl := hl5.out.keep (SameIn.of_below (b_alloc (below1 w5 (.cells #[.int .i64 jt, .int .i64 ja, .int .i64 jw, .int .i64 jd, .slice ao5 m cap5] 66)) (Nat.le_refl _) (.cells #[.int .i64 jt, .int .i64 ja, .int .i64 jw, .int .i64 jd, .slice ao5 m cap5] 66)) (Nat.le_refl _))
                rw [HL.out] at hl ⊢
                exact hl
            exact h1.grown hgr6.out hob6.out), Lib.hid ((HB.out.trans (HBA.out.mono HB.out.size)).grown hgr6.out (by have := HBA.out.size; have := HB.out.size; omega) (fun q hq => (owns_own HO.out q hq).1))⟩
        case measure => simp [intOf]; omega
    · have d0 : decide ((k : Int) < 6) = false := decide_eq_false (by omega)
      have hk6 : k = 6 := by omega
      subst hk6
      have HF : Hid (JRow 66 w.heap.size (jobsL x.js ts.length) (.slice ao n cap) wr) := Lib.hid ⟨ao, cap, vs, by rw [HN.out], by rw [← HN.out]; exact HO.out, by rw [HM.out, HPA.out], fun y hy => by
        obtain ⟨lo, hi, a1, a2, a3, _⟩ := HOP.out y hy
        exact a3.wider a1 a2⟩
      go_wp2_with fail
      go_ret
      exact ⟨_, rfl, HF.out, HB.out⟩
set_option maxRecDepth 100000 in
set_option maxHeartbeats 8000000 in
theorem pjobs_any (w : World) (H : Nat) (S : Nat → Prop) (ts : List Tk) (ss : List Sv) (st : Int) (x : Px) (h : PgAt H ts ss st x w S) : Calls Tryz.prog 33 #[.pointer (some ⟨H, 0, none⟩)] w fun e w' => ∃ v, e = .returned v ∧ JRow 66 w.heap.size (jobsL x.js ts.length) v w' ∧ Below w.heap.size w w' := by
  have HM := Lib.hid (pmade_any w H S ts ss st x h)
  have HA := Lib.hid (ball_any w H S ts ss st x h)
  clear h
  go_enter Tryz.func33, Tryz.ntmps33
  go_wp2_with (first
    | (go_at_call 79; refine HA.out.mono ?_; rintro e w4 ⟨v4, rfl, h4', hb4'⟩; have h4 := Lib.hid h4'; have hb4 := Lib.hid hb4'; clear h4' hb4')
    | (go_at_call 67; refine HM.out.mono ?_; rintro e w3 ⟨rfl, hw3⟩; rw [hw3]; clear hw3)
    | fail "no arm")
  go_ret
  exact ⟨_, rfl, h4.out, hb4.out⟩
end Go.Proofs.YtchbehnkkcjdgaaGreat
