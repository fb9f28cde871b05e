/- Joined of PartX, PartY: The program's partition: Pick, runJob, Run. -/
import Derived.Test.YtchbehnkkcjdgaaGreatPartMid
namespace Go.Proofs.YtchbehnkkcjdgaaGreat
open Go.ChangeShapes Go.WideShapes Go.ChangeAt Go.RowKit
set_option linter.unusedVariables false
set_option linter.unusedSimpArgs false
theorem Tryz.sizeWh20 : (Tryz.prog.info? 52).map (·.size) = some 2 := by kernel_rfl
theorem Tryz.sizeOp20 : (Tryz.prog.info? 54).map (·.size) = some 3 := by kernel_rfl
theorem set3x {w : World} {X : Nat} {T : TypeId} {cs : Array Value} (h : w.heap[X]? = some (.cells cs T (0, 0))) (hs : cs.size = 3) (v0 v1 v2 : Value) :
 (((w.setCell ⟨X, 0, none⟩ v0).setCell ⟨X, 1, none⟩ v1).setCell ⟨X, 2, none⟩ v2).heap[X]? = some (.cells #[v0, v1, v2] T (0, 0)) := by
 rw [set_at (set_at (set_at h))]
 congr 2
 apply Array.ext
 ·simp [hs]
 ·intro i h1 h2
  simp at h2
  rcases (show i = 0 ∨ i = 1 ∨ i = 2 by omega) with e | e | e <;> subst e <;> simp [hs]
theorem pickT_next {ts : List Tk} {ss : List Sv} {x : Px} {k : Nat} {p : Pk} (h : p = pickT ts ss x k) : pickT ts ss x (k + 1) = if (x.ds k).dueOk && (!p.ok || decide ((x.ds k).bud.due (svAt ss k) < p.due)) then ⟨true, true, k, (x.ds k).bud.due (svAt ss k)⟩ else p := by rw [h]; rfl
theorem dueV_of {s : Sv} {d : Dk} (h : d.dueOk = true) : d.dueV s = d.bud.due s := by
 unfold Dk.dueOk at h
 simp only [Bool.and_eq_true] at h
 unfold Dk.dueV
 rw [if_pos h.1]
set_option maxRecDepth 100000 in
set_option maxHeartbeats 8000000 in
theorem ppick_any (w : World) (H : Nat) (S : Nat → Prop) (ts : List Tk) (ss : List Sv) (st : Int) (x : Px) (h : PgAt H ts ss st x w S) (hss : ss.length ≤ 3) : Calls Tryz.prog 28 #[.pointer (some ⟨H, 0, none⟩)] w fun e w' => e = .returned (.tuple #[.agg #[.bool (pickV ts ss x).sv, .int .i64 (pickV ts ss x).n], .bool (pickV ts ss x).ok]) ∧ Below w.heap.size w w' := by
 obtain ⟨E, hE⟩ : ∃ E, E = w.heap.size := ⟨_, rfl⟩
 obtain ⟨V, hV⟩ : ∃ V, V = w.alloc (.cells #[.bool false, .int .i64 0] 52) := ⟨_, rfl⟩
 have hbV : Below w.heap.size w V := by rw [hV]; exact below1 _ _
 have hEV : V.heap[E]? = some (.cells #[.bool false, .int .i64 0] 52 (0, 0)) := by rw [hV, hE]; exact heap_alloc_new _ _
 replace h := (pq_own H ts ss st x x.hi).later h hbV
 have HU := Lib.hid (pup_any V H S ts ss st x h)
 have HBV := Lib.hid hbV
 have HEV := Lib.hid hEV
 have HV := Lib.hid hV
 have HE := Lib.hid hE
 have r0 := cell_in (j := 0) hEV rfl
 have r1 := cell_in (j := 1) hEV rfl
 have s0 := free_in hEV 0
 have s1 := free_in hEV 1
 cases hup : x.up with
 | false =>
   have HP : Hid (pickV ts ss x = noPk) := Lib.hid (by unfold pickV; rw [hup]; rfl)
   rw [hup] at HU
   clear h hV hE hEV hbV hss
   go_enter Tryz.func28, Tryz.ntmps28
   go_upto_region 1 with fail
   rw [← HV.out, ← HE.out]
   go_wp2_with (first
    | (go_at_call 30; refine HU.out.mono ?_; rintro e w3 ⟨rfl, hw3⟩; rw [hw3]; clear hw3)
    | fail "no arm")
   refine bodyPost_ret (results_pairT (P := Tryz.prog) rfl _ _ E _ _ (0, 0) _ _ rfl rfl (set2q HEV.out rfl (.bool false) (.int .i64 0)) Tryz.underlying52 rfl Tryz.sizeWh20) rfl ?_
   rw [HP.out]
   exact ⟨rfl, (HBV.out.setCell (p := ⟨E, 0, none⟩) (Nat.le_of_eq HE.out.symm) _).setCell (p := ⟨E, 1, none⟩) (Nat.le_of_eq HE.out.symm) _⟩
 | true =>
   have HPV : Hid (pickV ts ss x = pickT ts ss x ss.length) := Lib.hid (by unfold pickV; rw [if_pos hup])
   rw [hup] at HU
   obtain ⟨tbl, A, c0, hT, _, hAH, _⟩ := h.table
   obtain ⟨tb0, pl0, ao0, cap0, hb0, hS0⟩ := h.box
   have HTF := Lib.hid (tasksOk.first V tbl A ts x.hi x.js hT)
   obtain ⟨n, hn⟩ : ∃ n, n = ss.length := ⟨_, rfl⟩
   have HN := Lib.hid hn
   have hn3 : n ≤ 3 := by omega
   have HH := Lib.hid h
   have HC2 : Hid (∀ W : World, Below V.heap.size V W → W.cell? ⟨H, 2, none⟩ = some (.slice ao0 n cap0)) := Lib.hid (fun W hW => by rw [hn]; exact (World.cell?_of_block (hW.block H (lt_of_block hb0))).trans (cell_in hb0 rfl))
   have HP0 : Hid (pickT ts ss x 0 = ⟨foV ts x.hi x.js, false, fkV ts x.hi x.js, fdV ts x.hi x.js⟩) := Lib.hid rfl
   clear h hV hE hEV hbV hT hb0 hss hn
   go_enter Tryz.func28, Tryz.ntmps28
   go_upto_region 1 with fail
   rw [← HV.out, ← HE.out]
   go_upto_region 5 with (first
    | (go_at_call 72; refine HTF.out.mono ?_; rintro e w3 ⟨rfl, hb3'⟩; have hb3 := Lib.hid hb3'; clear hb3')
    | (go_at_call 30; refine HU.out.mono ?_; rintro e w2 ⟨rfl, hw2⟩; rw [hw2]; clear hw2)
    | fail "no arm")
   obtain ⟨F, hF⟩ : ∃ F, F = w3.heap.size := ⟨_, rfl⟩
   obtain ⟨V3, hV3⟩ : ∃ V3, V3 = w3.alloc (.cells #[.bool false, .int .i64 (fkV ts x.hi x.js)] 52) := ⟨_, rfl⟩
   have hb4 : Below V.heap.size V V3 := by rw [hV3]; exact hb3.out.trans ((below1 _ _).mono hb3.out.size)
   have HB4 := Lib.hid (HBV.out.trans (hb4.mono HBV.out.size))
   have HVB := Lib.hid hb4
   have HF3 : Hid (V3.heap[F]? = some (.cells #[.bool false, .int .i64 (fkV ts x.hi x.js)] 52 (0, 0))) := Lib.hid (by rw [hV3, hF]; exact heap_alloc_new _ _)
   have HE3 := Lib.hid ((hb4.block E (lt_of_block HEV.out)).trans HEV.out)
   have HFZ : Hid (w.heap.size ≤ F) := Lib.hid (by have := HBV.out.size; have := hb3.out.size; omega)
   have HVF : Hid (V.heap.size ≤ F) := Lib.hid (by have := hb3.out.size; omega)
   have HFE : Hid (E ≠ F) := Lib.hid (by have := lt_of_block HEV.out; have := hb3.out.size; omega)
   have p2 := HC2.out V3 hb4
   rw [← hV3, ← hF]
   clear hV3 hF hb4
   go_wp2_with fail
   go_loopw [5, 6, 32] (fun s5 s6 s32 wr => ∃ k : Nat, k ≤ n ∧ s5 = .int .i64 (pickT ts ss x k).due ∧ s6 = .bool (pickT ts ss x k).ok ∧ s32 = .int .i64 k ∧ Hid (Below V.heap.size V wr) ∧ Hid (wr.heap[F]? = some (.cells #[.bool (pickT ts ss x k).sv, .int .i64 (pickT ts ss x k).n] 52 (0, 0))) ∧ Hid (wr.heap[E]? = some (.cells #[.bool false, .int .i64 0] 52 (0, 0)))) (fun _ _ s _ => n - (intOf s).toNat)
   case atStart => exact ⟨0, Nat.zero_le _, rfl, rfl, rfl, HVB, HF3, HE3⟩
   case round =>
    obtain ⟨k, hk, rfl, rfl, rfl, HB, HFF, HEE⟩ := hrel
    by_cases hlt : k < n
    ·have d0 : decide ((k : Int) < (n : Int)) = true := decide_eq_true (by omega)
     have d1 : (0 : Int) ≤ (k : Int) := by omega
     have d2 : (k : Int) < (n : Int) := by omega
     have hx := (pq_own H ts ss st x x.hi).later HH.out HB.out
     obtain ⟨G, B, R, A2, cap, c2, hc, hd, _, _, _, _⟩ := hx.desk (i := k) (by have := HN.out; omega)
     have HDU := Lib.hid (dskdue_any wr G (k * 3) B R (svAt ss k) st (x.ds k) A2 hd hc)
     rw [← HN.out] at c2
     obtain ⟨p, hp⟩ : ∃ p, p = pickT ts ss x k := ⟨_, rfl⟩
     have HNX := Lib.hid (pickT_next hp)
     rw [← hp] at HFF ⊢
     obtain ⟨po, ps, pn, pd⟩ := p
     clear hx hc hd hp
     dsimp only at HFF HNX ⊢
     cases hdk : (x.ds k).dueOk with
     | false =>
       rw [hdk] at HDU HNX
       rw [Bool.false_and, if_neg (by simp)] at HNX
       clear hdk
       go_wp2_with (first
        | (go_at_call 73; refine HDU.out.mono ?_; rintro e w9 ⟨rfl, hb9'⟩
           have hb9 := Lib.hid (HB.out.trans (hb9'.mono HB.out.size))
           have hE9 := Lib.hid ((hb9'.block E (lt_of_block HEE.out)).trans HEE.out)
           have hF9 := Lib.hid ((hb9'.block F (lt_of_block HFF.out)).trans HFF.out)
           have y0 := cell_in (j := 0) hF9.out rfl
           have y1 := cell_in (j := 1) hF9.out rfl
           have z0 := free_in hF9.out 0
           have z1 := free_in hF9.out 1
           clear hb9')
        | fail "no arm")
       go_roundw
       case rel => exact ⟨k + 1, by omega, by rw [HNX.out], by rw [HNX.out], by go_num, hb9, Lib.hid (by rw [HNX.out]; exact hF9.out), hE9⟩
       case measure => simp [intOf]; omega
     | true =>
       have e1 := dueV_of (s := svAt ss k) hdk
       rw [hdk, e1] at HDU
       rw [hdk, Bool.true_and] at HNX
       obtain ⟨dd, hdd⟩ : ∃ dd, dd = (x.ds k).bud.due (svAt ss k) := ⟨_, rfl⟩
       rw [← hdd] at HDU HNX
       clear hdk e1 hdd
       cases po with
       | false =>
         rw [if_pos (by simp)] at HNX
         go_wp2_with (first
          | (go_at_call 73; refine HDU.out.mono ?_; rintro e w9 ⟨rfl, hb9'⟩
             have hb9 := Lib.hid (HB.out.trans (hb9'.mono HB.out.size))
             have hE9 := Lib.hid ((hb9'.block E (lt_of_block HEE.out)).trans HEE.out)
             have hF9 := Lib.hid ((hb9'.block F (lt_of_block HFF.out)).trans HFF.out)
             have y0 := cell_in (j := 0) hF9.out rfl
             have y1 := cell_in (j := 1) hF9.out rfl
             have z0 := free_in hF9.out 0
             have z1 := free_in hF9.out 1
             clear hb9')
          | fail "no arm")
         go_roundw
         case rel => exact ⟨k + 1, by omega, by rw [HNX.out], by rw [HNX.out], by go_num, Lib.hid ((hb9.out.setCell (p := ⟨F, 0, none⟩) HVF.out _).setCell (p := ⟨F, 1, none⟩) HVF.out _), Lib.hid (by rw [HNX.out]; exact set2q hF9.out rfl _ _), Lib.hid (by rw [Below.heap_setCell _ ⟨F, 1, none⟩ _ E HFE.out, Below.heap_setCell _ ⟨F, 0, none⟩ _ E HFE.out]; exact hE9.out)⟩
         case measure => simp [intOf]; omega
       | true =>
         by_cases hl : dd < pd
         ·have t0 : decide (dd < pd) = true := decide_eq_true hl
          rw [if_pos (by rw [t0]; simp)] at HNX
          go_wp2_with (first
           | (go_at_call 73; refine HDU.out.mono ?_; rintro e w9 ⟨rfl, hb9'⟩
              have hb9 := Lib.hid (HB.out.trans (hb9'.mono HB.out.size))
              have hE9 := Lib.hid ((hb9'.block E (lt_of_block HEE.out)).trans HEE.out)
              have hF9 := Lib.hid ((hb9'.block F (lt_of_block HFF.out)).trans HFF.out)
              have y0 := cell_in (j := 0) hF9.out rfl
              have y1 := cell_in (j := 1) hF9.out rfl
              have z0 := free_in hF9.out 0
              have z1 := free_in hF9.out 1
              clear hb9')
           | fail "no arm")
          go_roundw
          case rel => exact ⟨k + 1, by omega, by rw [HNX.out], by rw [HNX.out], by go_num, Lib.hid ((hb9.out.setCell (p := ⟨F, 0, none⟩) HVF.out _).setCell (p := ⟨F, 1, none⟩) HVF.out _), Lib.hid (by rw [HNX.out]; exact set2q hF9.out rfl _ _), Lib.hid (by rw [Below.heap_setCell _ ⟨F, 1, none⟩ _ E HFE.out, Below.heap_setCell _ ⟨F, 0, none⟩ _ E HFE.out]; exact hE9.out)⟩
          case measure => simp [intOf]; omega
         ·have t0 : decide (dd < pd) = false := decide_eq_false hl
          rw [if_neg (by rw [t0]; simp)] at HNX
          go_wp2_with (first
           | (go_at_call 73; refine HDU.out.mono ?_; rintro e w9 ⟨rfl, hb9'⟩
              have hb9 := Lib.hid (HB.out.trans (hb9'.mono HB.out.size))
              have hE9 := Lib.hid ((hb9'.block E (lt_of_block HEE.out)).trans HEE.out)
              have hF9 := Lib.hid ((hb9'.block F (lt_of_block HFF.out)).trans HFF.out)
              have y0 := cell_in (j := 0) hF9.out rfl
              have y1 := cell_in (j := 1) hF9.out rfl
              have z0 := free_in hF9.out 0
              have z1 := free_in hF9.out 1
              clear hb9')
           | fail "no arm")
          go_roundw
          case rel => exact ⟨k + 1, by omega, by rw [HNX.out], by rw [HNX.out], by go_num, hb9, Lib.hid (by rw [HNX.out]; exact hF9.out), hE9⟩
          case measure => simp [intOf]; omega
    ·have d0 : decide ((k : Int) < (n : Int)) = false := decide_eq_false (by omega)
     have hkn : k = ss.length := by have := HN.out; omega
     obtain ⟨p, hp⟩ : ∃ p, p = pickT ts ss x k := ⟨_, rfl⟩
     have HPE : Hid (pickV ts ss x = p) := Lib.hid (by rw [HPV.out, hp, hkn])
     rw [← hp] at HFF ⊢
     obtain ⟨po, ps, pn, pd⟩ := p
     dsimp only at HFF ⊢
     have y0 := cell_in (j := 0) HFF.out rfl
     have y1 := cell_in (j := 1) HFF.out rfl
     have z0 := free_in HEE.out 0
     have z1 := free_in HEE.out 1
     have u0 := cell_in (j := 0) HEE.out rfl
     have u1 := cell_in (j := 1) HEE.out rfl
     clear hp hkn
     go_wp2_with fail
     refine bodyPost_ret (results_pairT (P := Tryz.prog) rfl _ _ E _ _ (0, 0) _ _ rfl rfl (set2q HEE.out rfl (.bool ps) (.int .i64 pn)) Tryz.underlying52 rfl Tryz.sizeWh20) rfl ?_
     rw [HPE.out]
     exact ⟨rfl, ((HBV.out.trans (HB.out.mono HBV.out.size)).setCell (p := ⟨E, 0, none⟩) (Nat.le_of_eq HE.out.symm) _).setCell (p := ⟨E, 1, none⟩) (Nat.le_of_eq HE.out.symm) _⟩
theorem EvRow.weak {B B' : Nat} {l : List Wn} {v : Value} {w : World} (h : EvRow B l v w) (hb : B' ≤ B) : EvRow B' l v w := by
 obtain ⟨ao, cap, e, h1, h2⟩ := h
 exact ⟨ao, cap, e, h1, h2.imp id (fun ⟨g, cap, cur, a1, a2, a3⟩ => ⟨g, cap, cur, a1, Nat.le_trans hb a2, a3⟩)⟩
theorem EvRow.nil (B : Nat) (w : World) : EvRow B [] (.slice none 0 0) w := ⟨none, 0, rfl, rfl, .inl ⟨rfl, rfl⟩⟩
theorem growE_new {S S' : Nat → Prop} {w W W' : World} {E : Nat} (g : GrowS S S' w W) (hE : w.heap.size ≤ E) (hB : But E W W') : GrowS S S' w W' :=
 ⟨hB.os.trans g.os, hB.tape.trans g.tape, hB.output.trans g.output, Nat.le_trans g.size hB.size, fun k hk hS => (hB.block k (Nat.lt_of_lt_of_le hk g.size) (by omega)).trans (g.block k hk hS), g.own⟩
set_option maxRecDepth 100000 in
set_option maxHeartbeats 8000000 in
theorem prunJ_any (w : World) (H : Nat) (S : Nat → Prop) (ts : List Tk) (ss : List Sv) (st : Int) (x : Px) (h : PgAt H ts ss st x w S) (hss : ss.length ≤ 3) (t : Int) : Calls Tryz.prog 56 #[.pointer (some ⟨H, 0, none⟩), .int .i64 t] w fun e w' => ∃ S' v, e = .returned (.tuple #[.agg #[.int .i64 (opT ts x.js t).at_, .int .i64 (opT ts x.js t).len, .int .i64 (opT ts x.js t).part], v]) ∧ EvRow w.heap.size (runJE ts x t) v w' ∧ PgAt H ts ss st (runJX ts ss x t) w' S' ∧ GrowS S S' w w' := by
 obtain ⟨E, hE⟩ : ∃ E, E = w.heap.size := ⟨_, rfl⟩
 obtain ⟨V, hV⟩ : ∃ V, V = w.alloc (.cells #[.int .i64 0, .int .i64 0, .int .i64 0] 54) := ⟨_, rfl⟩
 have hbV : Below w.heap.size w V := by rw [hV]; exact below1 _ _
 have hEV : V.heap[E]? = some (.cells #[.int .i64 0, .int .i64 0, .int .i64 0] 54 (0, 0)) := by rw [hV, hE]; exact heap_alloc_new _ _
 have hES : ¬ S E := fun hs => by have := (pq_own H ts ss st x x.hi).lt h E hs; omega
 replace h := (pq_own H ts ss st x x.hi).later h hbV
 have hgV : GrowS S S w V := GrowS.of_below hbV
 obtain ⟨tbl, A, c0, hT, hAS, hAH, hre⟩ := h.table
 obtain ⟨o0, ho0⟩ : ∃ o, o = (opT ts x.js t).at_ := ⟨_, rfl⟩
 obtain ⟨o1, ho1⟩ : ∃ o, o = (opT ts x.js t).len := ⟨_, rfl⟩
 obtain ⟨o2, ho2⟩ : ∃ o, o = (opT ts x.js t).part := ⟨_, rfl⟩
 obtain ⟨ou, hou⟩ : ∃ o, o = outT ts x.hi x.js t := ⟨_, rfl⟩
 have HR : Hid (Calls Tryz.prog 107 #[.pointer (some ⟨tbl, 0, none⟩), .int .i64 t] V fun e w' => e = .returned (.tuple #[.agg #[.int .i64 o0, .int .i64 o1, .int .i64 o2], .int .i64 ou]) ∧ ∃ S', PgAt H ts ss st (jobX ts x t) w' S' ∧ GrowS S S' w w' ∧ ¬ S' E ∧ w'.heap[E]? = V.heap[E]?) := Lib.hid ((tasksOk.run V tbl A ts x.hi x.js t hT).mono (by
  rintro e w' ⟨S', rfl, q1, q2⟩
  obtain ⟨S'', q3, q4⟩ := hre q1 q2
  rw [ho0, ho1, ho2, hou]
  exact ⟨rfl, S'', q3, hgV.trans q4, q4.not (lt_of_block hEV) hES, q4.block E (lt_of_block hEV) hES⟩))
 have HBV := Lib.hid hbV
 have HEV := Lib.hid hEV
 have HV := Lib.hid hV
 have HE := Lib.hid hE
 have HSS := Lib.hid hss
 have HO : Hid (ou = outT ts x.hi x.js t) := Lib.hid hou
 rw [← ho0, ← ho1, ← ho2]
 clear h hT hAS hAH hre hV hE hEV hbV hES hgV ho0 ho1 ho2 hou hss
 go_enter Tryz.func56, Tryz.ntmps56
 go_upto_region 1 with fail
 rw [← HV.out, ← HE.out]
 go_upto_region 2 with (first
  | (go_at_call 107; refine HR.out.mono ?_; rintro e w3 ⟨rfl, S3, h3', g3', n3', e3'⟩; have h3 := Lib.hid h3'; have g3 := Lib.hid g3'; have n3 := Lib.hid n3'; have e3 := Lib.hid e3'; clear h3' g3' n3' e3')
  | fail "no arm")
 obtain ⟨F, hF⟩ : ∃ F, F = w3.heap.size := ⟨_, rfl⟩
 obtain ⟨V3, hV3⟩ : ∃ V3, V3 = w3.alloc (.cells #[.int .i64 o0, .int .i64 o1, .int .i64 o2] 54) := ⟨_, rfl⟩
 have hb3 : Below w3.heap.size w3 V3 := by rw [hV3]; exact below1 _ _
 have HB3 := Lib.hid hb3
 have HFF : Hid (V3.heap[F]? = some (.cells #[.int .i64 o0, .int .i64 o1, .int .i64 o2] 54 (0, 0))) := Lib.hid (by rw [hV3, hF]; exact heap_alloc_new _ _)
 have hE3 := e3.out.trans HEV.out
 have HEE := Lib.hid ((hb3.block E (lt_of_block hE3)).trans hE3)
 have HFS : Hid (¬ S3 F) := Lib.hid (fun hs => by have := (pq_own H ts ss st (jobX ts x t) _).lt h3.out F hs; omega)
 have HES := n3
 have H3 := Lib.hid ((pq_own H ts ss st (jobX ts x t) _).later h3.out hb3)
 have G3 := g3
 have HZ3 : Hid (w.heap.size ≤ V3.heap.size) := Lib.hid (Nat.le_trans g3.out.size hb3.size)
 have HFE : Hid (F ≠ E) := Lib.hid (by have := lt_of_block hE3; omega)
 have k0 := cell_in (j := 0) HFF.out rfl
 have k1 := cell_in (j := 1) HFF.out rfl
 have k2 := cell_in (j := 2) HFF.out rfl
 have KF : Hid (∀ W : World, W.heap[F]? = V3.heap[F]? → W.cell? ⟨F, 0, none⟩ = some (.int .i64 o0) ∧ W.cell? ⟨F, 1, none⟩ = some (.int .i64 o1) ∧ W.cell? ⟨F, 2, none⟩ = some (.int .i64 o2)) := Lib.hid (fun W hW => ⟨(World.cell?_of_block hW).trans k0, (World.cell?_of_block hW).trans k1, (World.cell?_of_block hW).trans k2⟩)
 have KG : Hid (∀ W : World, W.heap[F]? = V3.heap[F]? → (((W.setCell ⟨E, 0, none⟩ (.int .i64 o0)).setCell ⟨E, 1, none⟩ (.int .i64 o1)).setCell ⟨E, 2, none⟩ (.int .i64 o2)).cell? ⟨F, 0, none⟩ = some (.int .i64 o0) ∧ (((W.setCell ⟨E, 0, none⟩ (.int .i64 o0)).setCell ⟨E, 1, none⟩ (.int .i64 o1)).setCell ⟨E, 2, none⟩ (.int .i64 o2)).cell? ⟨F, 1, none⟩ = some (.int .i64 o1) ∧ (((W.setCell ⟨E, 0, none⟩ (.int .i64 o0)).setCell ⟨E, 1, none⟩ (.int .i64 o1)).setCell ⟨E, 2, none⟩ (.int .i64 o2)).cell? ⟨F, 2, none⟩ = some (.int .i64 o2)) := Lib.hid (fun W hW => by
  have e : (((W.setCell ⟨E, 0, none⟩ (.int .i64 o0)).setCell ⟨E, 1, none⟩ (.int .i64 o1)).setCell ⟨E, 2, none⟩ (.int .i64 o2)).heap[F]? = V3.heap[F]? := by rw [Below.heap_setCell _ ⟨E, 2, none⟩ _ F HFE.out, Below.heap_setCell _ ⟨E, 1, none⟩ _ F HFE.out, Below.heap_setCell _ ⟨E, 0, none⟩ _ F HFE.out, hW]
  exact KF.out _ e)
 rw [← hV3, ← hF]
 clear hV3 hF hb3 hE3
 by_cases q1 : ou = 1
 ·have b1 : (ou == 1) = true := by simpa using q1
  have HJE : Hid (runJE ts x t = [⟨0, t, 0⟩] ++ setE ts (jobX ts x t)) := Lib.hid (by unfold runJE; rw [← HO.out, if_pos q1])
  have HJX : Hid (runJX ts ss x t = setX ts (jobX ts x t)) := Lib.hid (by unfold runJX; rw [← HO.out, if_pos q1])
  subst q1
  clear b1
  have HLV : Hid (∀ W : World, Below V3.heap.size V3 W → Calls Tryz.prog 108 #[.pointer (some ⟨H, 0, none⟩), .int .i64 0, .int .i64 t] W fun e w' => ∃ v, e = .returned v ∧ EvRow V3.heap.size (runJE ts x t) v w' ∧ w'.heap[F]? = V3.heap[F]? ∧ w'.heap[E]? = V3.heap[E]? ∧ V3.heap.size ≤ w'.heap.size ∧ ∃ S', PgAt H ts ss st (runJX ts ss x t) w' S' ∧ GrowS S S' w w' ∧ ¬ S' E) := Lib.hid (fun W hW => by
   refine (pleave_any W H S3 ts ss st (jobX ts x t) ((pq_own H ts ss st _ _).later H3.out hW) HSS.out 0 t).mono ?_
   rintro e w' ⟨S', v, rfl, q1, q2, q3⟩
   rw [HJE.out, HJX.out]
   exact ⟨v, rfl, q1.weak hW.size, (q3.block F (Nat.lt_of_lt_of_le (lt_of_block HFF.out) hW.size) HFS.out).trans (hW.block F (lt_of_block HFF.out)), (q3.block E (Nat.lt_of_lt_of_le (lt_of_block HEE.out) hW.size) HES.out).trans (hW.block E (lt_of_block HEE.out)), Nat.le_trans hW.size q3.size, S', q2, G3.out.trans ((GrowS.of_below (HB3.out.trans (hW.mono HB3.out.size))).trans q3), q3.not (Nat.lt_of_lt_of_le (lt_of_block HEE.out) hW.size) HES.out⟩)
  go_wp2_with fail
  go_region_held3 (fun W => W.cell? ⟨F, 0, none⟩ = some (.int .i64 o0) ∧ W.cell? ⟨F, 1, none⟩ = some (.int .i64 o1) ∧ W.cell? ⟨F, 2, none⟩ = some (.int .i64 o2))
   (first | exact KF.out _ (by rfl) | exact KF.out _ kf9.out | exact KG.out _ kf9.out | fail "no keep")
   (first
     | (go_at_call 108; refine (HLV.out _ (Below.refl _ _).drew).mono ?_; rintro e w9 ⟨v9, rfl, r9', kf9', ke9', z9, S9, h9', g9', n9'⟩
        have r9 := Lib.hid r9'; have kf9 := Lib.hid kf9'; have ke9 := Lib.hid (ke9'.trans HEE.out); have h9 := Lib.hid h9'; have g9 := Lib.hid g9'; have n9 := Lib.hid n9'; have Z9 := Lib.hid z9
        have u0 := cell_in (j := 0) ke9.out rfl
        have u1 := cell_in (j := 1) ke9.out rfl
        have u2 := cell_in (j := 2) ke9.out rfl
        have t0 := free_in ke9.out 0
        have t1 := free_in ke9.out 1
        have t2 := free_in ke9.out 2
        clear r9' kf9' ke9' h9' g9' n9' z9)
     | fail "no arm")
  go_wp2_with fail
  refine bodyPost_ret (results_pairT (P := Tryz.prog) rfl _ _ E _ _ (0, 0) _ _ rfl rfl (set3x ke9.out rfl (.int .i64 o0) (.int .i64 o1) (.int .i64 o2)) Tryz.underlying54 rfl Tryz.sizeOp20) rfl ?_
  have hB : But E w9 (((w9.setCell ⟨E, 0, none⟩ (.int .i64 o0)).setCell ⟨E, 1, none⟩ (.int .i64 o1)).setCell ⟨E, 2, none⟩ (.int .i64 o2)) := (((But.refl E w9).set 0 _).set 1 _).set 2 _
  have hEz := lt_of_block HEE.out
  exact ⟨S9, v9, rfl, (r9.out.hold hB.size (fun k h1 h2 => hB.block k h2 (by omega))).weak HZ3.out, (pq_own H ts ss st _ _).keep h9.out (fun k hk => hB.block k ((pq_own H ts ss st _ _).lt h9.out k hk) (fun e => n9.out (e ▸ hk))) hB.size, growE_new g9.out (Nat.le_of_eq HE.out.symm) hB⟩
 ·have b1 : (ou == 1) = false := by simpa using q1
  by_cases q2 : ou = 2
  ·have HJE : Hid (runJE ts x t = [⟨1, t, 0⟩] ++ setE ts (jobX ts x t)) := Lib.hid (by unfold runJE; rw [← HO.out, if_neg q1, if_pos q2])
   have HJX : Hid (runJX ts ss x t = setX ts (jobX ts x t)) := Lib.hid (by unfold runJX; rw [← HO.out, if_neg q1, if_pos q2])
   subst q2
   clear b1 q1
   have HLV : Hid (∀ W : World, Below V3.heap.size V3 W → Calls Tryz.prog 108 #[.pointer (some ⟨H, 0, none⟩), .int .i64 1, .int .i64 t] W fun e w' => ∃ v, e = .returned v ∧ EvRow V3.heap.size (runJE ts x t) v w' ∧ w'.heap[F]? = V3.heap[F]? ∧ w'.heap[E]? = V3.heap[E]? ∧ V3.heap.size ≤ w'.heap.size ∧ ∃ S', PgAt H ts ss st (runJX ts ss x t) w' S' ∧ GrowS S S' w w' ∧ ¬ S' E) := Lib.hid (fun W hW => by
    refine (pleave_any W H S3 ts ss st (jobX ts x t) ((pq_own H ts ss st _ _).later H3.out hW) HSS.out 1 t).mono ?_
    rintro e w' ⟨S', v, rfl, q1, q2, q3⟩
    rw [HJE.out, HJX.out]
    exact ⟨v, rfl, q1.weak hW.size, (q3.block F (Nat.lt_of_lt_of_le (lt_of_block HFF.out) hW.size) HFS.out).trans (hW.block F (lt_of_block HFF.out)), (q3.block E (Nat.lt_of_lt_of_le (lt_of_block HEE.out) hW.size) HES.out).trans (hW.block E (lt_of_block HEE.out)), Nat.le_trans hW.size q3.size, S', q2, G3.out.trans ((GrowS.of_below (HB3.out.trans (hW.mono HB3.out.size))).trans q3), q3.not (Nat.lt_of_lt_of_le (lt_of_block HEE.out) hW.size) HES.out⟩)
   go_wp2_with fail
   go_region_held3 (fun W => W.cell? ⟨F, 0, none⟩ = some (.int .i64 o0) ∧ W.cell? ⟨F, 1, none⟩ = some (.int .i64 o1) ∧ W.cell? ⟨F, 2, none⟩ = some (.int .i64 o2))
    (first | exact KF.out _ (by rfl) | exact KF.out _ kf9.out | exact KG.out _ kf9.out | fail "no keep")
    (first
      | (go_at_call 108; refine (HLV.out _ (Below.refl _ _).drew).mono ?_; rintro e w9 ⟨v9, rfl, r9', kf9', ke9', z9, S9, h9', g9', n9'⟩
         have r9 := Lib.hid r9'; have kf9 := Lib.hid kf9'; have ke9 := Lib.hid (ke9'.trans HEE.out); have h9 := Lib.hid h9'; have g9 := Lib.hid g9'; have n9 := Lib.hid n9'; have Z9 := Lib.hid z9
         have u0 := cell_in (j := 0) ke9.out rfl
         have u1 := cell_in (j := 1) ke9.out rfl
         have u2 := cell_in (j := 2) ke9.out rfl
         have t0 := free_in ke9.out 0
         have t1 := free_in ke9.out 1
         have t2 := free_in ke9.out 2
         clear r9' kf9' ke9' h9' g9' n9' z9)
      | fail "no arm")
   go_wp2_with fail
   refine bodyPost_ret (results_pairT (P := Tryz.prog) rfl _ _ E _ _ (0, 0) _ _ rfl rfl (set3x ke9.out rfl (.int .i64 o0) (.int .i64 o1) (.int .i64 o2)) Tryz.underlying54 rfl Tryz.sizeOp20) rfl ?_
   have hB : But E w9 (((w9.setCell ⟨E, 0, none⟩ (.int .i64 o0)).setCell ⟨E, 1, none⟩ (.int .i64 o1)).setCell ⟨E, 2, none⟩ (.int .i64 o2)) := (((But.refl E w9).set 0 _).set 1 _).set 2 _
   have hEz := lt_of_block HEE.out
   exact ⟨S9, v9, rfl, (r9.out.hold hB.size (fun k h1 h2 => hB.block k h2 (by omega))).weak HZ3.out, (pq_own H ts ss st _ _).keep h9.out (fun k hk => hB.block k ((pq_own H ts ss st _ _).lt h9.out k hk) (fun e => n9.out (e ▸ hk))) hB.size, growE_new g9.out (Nat.le_of_eq HE.out.symm) hB⟩
  ·have b2 : (ou == 2) = false := by simpa using q2
   by_cases q3 : ou = 3
   ·have HJE : Hid (runJE ts x t = risE ts (jobX ts x t)) := Lib.hid (by unfold runJE; rw [← HO.out, if_neg q1, if_neg q2, if_pos q3])
    have HJX : Hid (runJX ts ss x t = risX ts ss (jobX ts x t)) := Lib.hid (by unfold runJX; rw [← HO.out, if_neg q1, if_neg q2, if_pos q3])
    subst q3
    clear b1 b2 q1 q2
    have HLV : Hid (∀ W : World, Below V3.heap.size V3 W → Calls Tryz.prog 109 #[.pointer (some ⟨H, 0, none⟩)] W fun e w' => ∃ v, e = .returned v ∧ EvRow V3.heap.size (runJE ts x t) v w' ∧ w'.heap[F]? = V3.heap[F]? ∧ w'.heap[E]? = V3.heap[E]? ∧ V3.heap.size ≤ w'.heap.size ∧ ∃ S', PgAt H ts ss st (runJX ts ss x t) w' S' ∧ GrowS S S' w w' ∧ ¬ S' E) := Lib.hid (fun W hW => by
     refine (prise_any W H S3 ts ss st (jobX ts x t) ((pq_own H ts ss st _ _).later H3.out hW) HSS.out).mono ?_
     rintro e w' ⟨S', v, rfl, q1, q2, q3⟩
     rw [HJE.out, HJX.out]
     exact ⟨v, rfl, q1.weak hW.size, (q3.block F (Nat.lt_of_lt_of_le (lt_of_block HFF.out) hW.size) HFS.out).trans (hW.block F (lt_of_block HFF.out)), (q3.block E (Nat.lt_of_lt_of_le (lt_of_block HEE.out) hW.size) HES.out).trans (hW.block E (lt_of_block HEE.out)), Nat.le_trans hW.size q3.size, S', q2, G3.out.trans ((GrowS.of_below (HB3.out.trans (hW.mono HB3.out.size))).trans q3), q3.not (Nat.lt_of_lt_of_le (lt_of_block HEE.out) hW.size) HES.out⟩)
    go_wp2_with fail
    go_region_held3 (fun W => W.cell? ⟨F, 0, none⟩ = some (.int .i64 o0) ∧ W.cell? ⟨F, 1, none⟩ = some (.int .i64 o1) ∧ W.cell? ⟨F, 2, none⟩ = some (.int .i64 o2))
     (first | exact KF.out _ (by rfl) | exact KF.out _ kf9.out | exact KG.out _ kf9.out | fail "no keep")
     (first
       | (go_at_call 109; refine (HLV.out _ (Below.refl _ _).drew).mono ?_; rintro e w9 ⟨v9, rfl, r9', kf9', ke9', z9, S9, h9', g9', n9'⟩
          have r9 := Lib.hid r9'; have kf9 := Lib.hid kf9'; have ke9 := Lib.hid (ke9'.trans HEE.out); have h9 := Lib.hid h9'; have g9 := Lib.hid g9'; have n9 := Lib.hid n9'; have Z9 := Lib.hid z9
          have u0 := cell_in (j := 0) ke9.out rfl
          have u1 := cell_in (j := 1) ke9.out rfl
          have u2 := cell_in (j := 2) ke9.out rfl
          have t0 := free_in ke9.out 0
          have t1 := free_in ke9.out 1
          have t2 := free_in ke9.out 2
          clear r9' kf9' ke9' h9' g9' n9' z9)
       | fail "no arm")
    go_wp2_with fail
    refine bodyPost_ret (results_pairT (P := Tryz.prog) rfl _ _ E _ _ (0, 0) _ _ rfl rfl (set3x ke9.out rfl (.int .i64 o0) (.int .i64 o1) (.int .i64 o2)) Tryz.underlying54 rfl Tryz.sizeOp20) rfl ?_
    have hB : But E w9 (((w9.setCell ⟨E, 0, none⟩ (.int .i64 o0)).setCell ⟨E, 1, none⟩ (.int .i64 o1)).setCell ⟨E, 2, none⟩ (.int .i64 o2)) := (((But.refl E w9).set 0 _).set 1 _).set 2 _
    have hEz := lt_of_block HEE.out
    exact ⟨S9, v9, rfl, (r9.out.hold hB.size (fun k h1 h2 => hB.block k h2 (by omega))).weak HZ3.out, (pq_own H ts ss st _ _).keep h9.out (fun k hk => hB.block k ((pq_own H ts ss st _ _).lt h9.out k hk) (fun e => n9.out (e ▸ hk))) hB.size, growE_new g9.out (Nat.le_of_eq HE.out.symm) hB⟩
   ·have b3 : (ou == 3) = false := by simpa using q3
    have HJE : Hid (runJE ts x t = []) := Lib.hid (by unfold runJE; rw [← HO.out, if_neg q1, if_neg q2, if_neg q3])
    have HJX : Hid (runJX ts ss x t = jobX ts x t) := Lib.hid (by unfold runJX; rw [← HO.out, if_neg q1, if_neg q2, if_neg q3])
    have u0 := cell_in (j := 0) HEE.out rfl
    have u1 := cell_in (j := 1) HEE.out rfl
    have u2 := cell_in (j := 2) HEE.out rfl
    have t0 := free_in HEE.out 0
    have t1 := free_in HEE.out 1
    have t2 := free_in HEE.out 2
    go_wp2_with fail
    refine bodyPost_ret (results_pairT (P := Tryz.prog) rfl _ _ E _ _ (0, 0) _ _ rfl rfl (set3x HEE.out rfl (.int .i64 o0) (.int .i64 o1) (.int .i64 o2)) Tryz.underlying54 rfl Tryz.sizeOp20) rfl ?_
    have hB : But E V3 (((V3.setCell ⟨E, 0, none⟩ (.int .i64 o0)).setCell ⟨E, 1, none⟩ (.int .i64 o1)).setCell ⟨E, 2, none⟩ (.int .i64 o2)) := (((But.refl E V3).set 0 _).set 1 _).set 2 _
    rw [HJE.out, HJX.out]
    exact ⟨S3, _, rfl, EvRow.nil _ _, (pq_own H ts ss st _ _).keep H3.out (fun k hk => hB.block k ((pq_own H ts ss st _ _).lt H3.out k hk) (fun e => HES.out (e ▸ hk))) hB.size, growE_new (G3.out.trans (GrowS.of_below HB3.out)) (Nat.le_of_eq HE.out.symm) hB⟩
end Go.Proofs.YtchbehnkkcjdgaaGreat
namespace Go.Proofs.YtchbehnkkcjdgaaGreat
open Go.ChangeShapes Go.WideShapes Go.ChangeAt Go.RowKit
set_option linter.unusedVariables false
set_option linter.unusedSimpArgs false
theorem results_two {P : Program} {fn : Func} {p q u : Tmp} {t1 t2 : TypeId} (h : fn.results = #[.cell p t1, .cell q t2, .tmp u]) (tmps : Array Value) (w : World) (g g2 : Nat) (e1 e2 : TypeId) (cs cs2 : Array Value) (fr fr2 : Nat × Nat) (d d2 : TypeDesc) (x : Value)
 (hp : tmps.getD p undef = .pointer (some ⟨g, 0, none⟩)) (hq : tmps.getD q undef = .pointer (some ⟨g2, 0, none⟩)) (hx : tmps.getD u undef = x) (hg : w.heap[g]? = some (.cells cs e1 fr)) (hg2 : w.heap[g2]? = some (.cells cs2 e2 fr2))
 (hu : P.underlying t1 = some d) (hd : (match d with | .struct _ | .array _ _ => true | _ => false) = true) (hi : (P.info? t1).map (·.size) = some cs.size)
 (hu2 : P.underlying t2 = some d2) (hd2 : (match d2 with | .struct _ | .array _ _ => true | _ => false) = true) (hi2 : (P.info? t2).map (·.size) = some cs2.size) :
 (results fn tmps).run P w = .ok (.tuple #[.agg cs, .agg cs2, x]) w := by
 have e : (results fn tmps).run P w = ((asAddr (tmps.getD p undef)).run P w).andThen fun a w1 => ((loadVar t1 a).run P w1).andThen fun v w2 => ((asAddr (tmps.getD q undef)).run P w2).andThen fun a2 w3 => ((loadVar t2 a2).run P w3).andThen fun v2 w4 => .ok (.tuple #[v, v2, tmps.getD u undef]) w4 := by
  simp only [results, h]
  simp [Sem.run_bind, Result.andThen]
 rw [e, hp, hq, hx]
 simp [asAddr, run_loadVar_row w g e1 t1 cs fr d hg hu hd hi, run_loadVar_row w g2 e2 t2 cs2 fr2 d2 hg2 hu2 hd2 hi2, Result.andThen]
theorem EvRow.but {B E : Nat} {l : List Wn} {v : Value} {w w' : World} (h : EvRow B l v w) (hB : But E w w') (hE : E < B) : EvRow B l v w' := h.hold hB.size (fun k h1 h2 => hB.block k h2 (by omega))
theorem PgQ.but {H : Nat} {ts : List Tk} {ss : List Sv} {st : Int} {x : Px} {hp : Bool} {w w' : World} {S : Nat → Prop} {E : Nat} (h : PgQ H ts ss st x hp w S) (hB : But E w w') (hE : ¬ S E) : PgQ H ts ss st x hp w' S := (pq_own H ts ss st x hp).keep h (fun k hk => hB.block k ((pq_own H ts ss st x hp).lt h k hk) (fun e => hE (e ▸ hk))) hB.size
set_option maxRecDepth 100000 in
set_option maxHeartbeats 8000000 in
theorem prun_any (w : World) (H : Nat) (S : Nat → Prop) (ts : List Tk) (ss : List Sv) (st : Int) (x : Px) (h : PgAt H ts ss st x w S) (hss : ss.length ≤ 3) (hok : DsOk ss.length x.ds) (hpk : ∀ k : Nat, (pickV ts ss x).ok = true → (pickV ts ss x).sv = true → (pickV ts ss x).n = k → k < ss.length ∧ (x.ds k).busy = true) (hpn : (pickV ts ss x).sv = true → 0 ≤ (pickV ts ss x).n) (hno : (pickV ts ss x).ok = false → (pickV ts ss x).sv = false ∧ (pickV ts ss x).n = 0) :
 Calls Tryz.prog 16 #[.pointer (some ⟨H, 0, none⟩)] w fun e w' => ∃ S' v, e = .returned (.tuple #[.agg #[.bool (pickV ts ss x).sv, .int .i64 (pickV ts ss x).n], .agg #[.int .i64 (runO ts ss x).at_, .int .i64 (runO ts ss x).len, .int .i64 (runO ts ss x).part], v]) ∧ EvRow w.heap.size (runE ts ss x) v w' ∧ PgAt H ts ss st (runX ts ss x) w' S' ∧ GrowS S S' w w' := by
 obtain ⟨E, hE⟩ : ∃ E, E = w.heap.size := ⟨_, rfl⟩
 obtain ⟨E2, hE2⟩ : ∃ E2, E2 = w.heap.size + 1 := ⟨_, rfl⟩
 obtain ⟨V, hV⟩ : ∃ V, V = (w.alloc (.cells #[.bool false, .int .i64 0] 52)).alloc (.cells #[.int .i64 0, .int .i64 0, .int .i64 0] 54) := ⟨_, rfl⟩
 have hbV : Below w.heap.size w V := by rw [hV]; exact b_alloc (below1 _ _) (Nat.le_refl _) _
 have hEV : V.heap[E]? = some (.cells #[.bool false, .int .i64 0] 52 (0, 0)) := by
  rw [hV, hE]
  exact ((below1 (w.alloc (.cells #[.bool false, .int .i64 0] 52)) _).block _ (by simp)).trans (heap_alloc_new _ _)
 have hEV2 : V.heap[E2]? = some (.cells #[.int .i64 0, .int .i64 0, .int .i64 0] 54 (0, 0)) := by
  rw [hV, hE2]
  have := heap_alloc_new (w.alloc (.cells #[.bool false, .int .i64 0] 52)) (.cells #[.int .i64 0, .int .i64 0, .int .i64 0] 54)
  simpa using this
 have hES : ¬ S E := fun hs => by have := (pq_own H ts ss st x x.hi).lt h E hs; omega
 have hES2 : ¬ S E2 := fun hs => by have := (pq_own H ts ss st x x.hi).lt h E2 hs; omega
 replace h := (pq_own H ts ss st x x.hi).later h hbV
 have HGV : Hid (GrowS S S w V) := Lib.hid (GrowS.of_below hbV)
 have HP := Lib.hid (ppick_any V H S ts ss st x h hss)
 obtain ⟨p, hp⟩ : ∃ p, p = pickV ts ss x := ⟨_, rfl⟩
 rw [← hp] at HP hpk hpn hno
 have HBV := Lib.hid hbV
 have HEV := Lib.hid hEV
 have HEV2 := Lib.hid hEV2
 have HES := Lib.hid hES
 have HES2 := Lib.hid hES2
 have HEE : Hid (E ≠ E2) := Lib.hid (by omega)
 have HV := Lib.hid hV
 have HE := Lib.hid hE
 have HE2 := Lib.hid hE2
 have HH := Lib.hid h
 have HSS := Lib.hid hss
 have HPK := Lib.hid hpk
 have HDK := Lib.hid hok
 have HRO : Hid (runO ts ss x = if p.ok = true ∧ p.sv = false then opT ts x.js p.n else zWn) := Lib.hid (by rw [hp]; rfl)
 have HRE : Hid (runE ts ss x = if p.ok = true then (if p.sv = true then runSE x p.n.toNat else runJE ts x p.n) else []) := Lib.hid (by rw [hp]; rfl)
 have HRX : Hid (runX ts ss x = if p.ok = true then (if p.sv = true then runSX ss x p.n.toNat else runJX ts ss x p.n) else x) := Lib.hid (by rw [hp]; rfl)
 rw [← hp]
 obtain ⟨po, ps, pn, pd⟩ := p
 dsimp only at HP HRO HRE HRX hno hpn HPK ⊢
 have hw1 : (w.alloc (.cells #[.bool false, .int .i64 0] 52)).heap.size = E2 := by rw [hE2]; simp
 have HW1 := Lib.hid hw1
 have z0 := cell_in (j := 0) hEV rfl
 have z1 := cell_in (j := 1) hEV rfl
 have z2 := free_in hEV 0
 have z3 := free_in hEV 1
 have y0 := cell_in (j := 0) hEV2 rfl
 have y1 := cell_in (j := 1) hEV2 rfl
 have y2 := cell_in (j := 2) hEV2 rfl
 have y3 := free_in hEV2 0
 have y4 := free_in hEV2 1
 have y5 := free_in hEV2 2
 clear h hV hE hE2 hEV hEV2 hES hES2 hbV hss hok hp hpk hw1
 go_enter Tryz.func16, Tryz.ntmps16
 go_upto_region 1 with fail
 rw [← HV.out, ← HE2.out, ← HE.out]
 go_upto_region 2 with (first
  | (go_at_call 28; refine HP.out.mono ?_; rintro e w3 ⟨rfl, hb3'⟩; have hb3 := Lib.hid hb3'; clear hb3')
  | fail "no arm")
 obtain ⟨F, hF⟩ : ∃ F, F = w3.heap.size := ⟨_, rfl⟩
 obtain ⟨V3, hV3⟩ : ∃ V3, V3 = w3.alloc (.cells #[.bool ps, .int .i64 pn] 52) := ⟨_, rfl⟩
 have hb4 : Below V.heap.size V V3 := by rw [hV3]; exact hb3.out.trans ((below1 _ _).mono hb3.out.size)
 have HB4 := Lib.hid hb4
 have HFF : Hid (V3.heap[F]? = some (.cells #[.bool ps, .int .i64 pn] 52 (0, 0))) := Lib.hid (by rw [hV3, hF]; exact heap_alloc_new _ _)
 have HEE3 := Lib.hid ((hb4.block E (lt_of_block HEV.out)).trans HEV.out)
 have HEE4 := Lib.hid ((hb4.block E2 (lt_of_block HEV2.out)).trans HEV2.out)
 have H3 := Lib.hid ((pq_own H ts ss st x x.hi).later HH.out hb4)
 have G3 := Lib.hid (HGV.out.trans (GrowS.of_below (S := S) hb4))
 have HFE : Hid (F ≠ E ∧ F ≠ E2) := Lib.hid (by have := lt_of_block HEV.out; have := lt_of_block HEV2.out; have := hb3.out.size; omega)
 have HFS : Hid (¬ S F) := Lib.hid (fun hs => by have := (pq_own H ts ss st x x.hi).lt HH.out F hs; have := hb3.out.size; omega)
 have x0 := cell_in (j := 0) HFF.out rfl
 have x1 := cell_in (j := 1) HFF.out rfl
 have z0 := cell_in (j := 0) HEE3.out rfl
 have z1 := cell_in (j := 1) HEE3.out rfl
 have z2 := free_in HEE3.out 0
 have z3 := free_in HEE3.out 1
 have y0 := cell_in (j := 0) HEE4.out rfl
 have y1 := cell_in (j := 1) HEE4.out rfl
 have y2 := cell_in (j := 2) HEE4.out rfl
 have y3 := free_in HEE4.out 0
 have y4 := free_in HEE4.out 1
 have y5 := free_in HEE4.out 2
 have KF : Hid (∀ W : World, W.heap[F]? = V3.heap[F]? → W.cell? ⟨F, 0, none⟩ = some (.bool ps) ∧ W.cell? ⟨F, 1, none⟩ = some (.int .i64 pn)) := Lib.hid (fun W hW => ⟨(World.cell?_of_block hW).trans x0, (World.cell?_of_block hW).trans x1⟩)
 have KG : Hid (∀ (W : World) (u0 u1 u2 u3 u4 : Value), W.heap[F]? = V3.heap[F]? → (((((W.setCell ⟨E, 0, none⟩ u0).setCell ⟨E, 1, none⟩ u1).setCell ⟨E2, 0, none⟩ u2).setCell ⟨E2, 1, none⟩ u3).setCell ⟨E2, 2, none⟩ u4).heap[F]? = V3.heap[F]?) := Lib.hid (fun W u0 u1 u2 u3 u4 hW => by
  rw [Below.heap_setCell _ ⟨E2, 2, none⟩ _ F HFE.out.2, Below.heap_setCell _ ⟨E2, 1, none⟩ _ F HFE.out.2, Below.heap_setCell _ ⟨E2, 0, none⟩ _ F HFE.out.2, Below.heap_setCell _ ⟨E, 1, none⟩ _ F HFE.out.1, Below.heap_setCell _ ⟨E, 0, none⟩ _ F HFE.out.1, hW])
 have KG1 : Hid (∀ (W : World) (u0 u1 : Value), W.heap[F]? = V3.heap[F]? → ((W.setCell ⟨E, 0, none⟩ u0).setCell ⟨E, 1, none⟩ u1).heap[F]? = V3.heap[F]?) := Lib.hid (fun W u0 u1 hW => by
  rw [Below.heap_setCell _ ⟨E, 1, none⟩ _ F HFE.out.1, Below.heap_setCell _ ⟨E, 0, none⟩ _ F HFE.out.1, hW])
 have HEZ : Hid (w.heap.size ≤ E ∧ w.heap.size ≤ E2 ∧ E < V3.heap.size ∧ E2 < V3.heap.size) := Lib.hid ⟨Nat.le_of_eq HE.out.symm, by have := HE2.out; omega, lt_of_block HEE3.out, lt_of_block HEE4.out⟩
 have hE12 := HEE.out
 have hE21 : E2 ≠ E := fun e => HEE.out e.symm
 rw [← hV3, ← hF]
 clear hV3 hF hb4
 cases po with
 | false =>
   obtain ⟨h1, h2⟩ := hno rfl
   subst h1
   subst h2
   rw [if_neg (by simp)] at HRO HRE HRX
   clear hno hpn
   go_wp2_with fail
   have hE1 := HEE3.out
   have hB1 : But E V3 ((V3.setCell ⟨E, 0, none⟩ (.bool false)).setCell ⟨E, 1, none⟩ (.int .i64 0)) := ((But.refl E V3).set 0 _).set 1 _
   have hB2 : But E2 ((V3.setCell ⟨E, 0, none⟩ (.bool false)).setCell ⟨E, 1, none⟩ (.int .i64 0)) (((((V3.setCell ⟨E, 0, none⟩ (.bool false)).setCell ⟨E, 1, none⟩ (.int .i64 0)).setCell ⟨E2, 0, none⟩ (.int .i64 0)).setCell ⟨E2, 1, none⟩ (.int .i64 0)).setCell ⟨E2, 2, none⟩ (.int .i64 0)) := (((But.refl E2 _).set 0 _).set 1 _).set 2 _
   have m1 := (hB2.block E (by have := lt_of_block HEE3.out; simpa using this) HEE.out).trans (set2q HEE3.out rfl (.bool false) (.int .i64 0))
   have m2 := set3x ((hB1.block E2 (lt_of_block HEE4.out) (fun e => HEE.out e.symm)).trans HEE4.out) rfl (.int .i64 0) (.int .i64 0) (.int .i64 0)
   refine bodyPost_ret (results_two (P := Tryz.prog) rfl _ _ E E2 _ _ _ _ (0, 0) (0, 0) _ _ _ rfl rfl rfl m1 m2 Tryz.underlying52 rfl Tryz.sizeWh20 Tryz.underlying54 rfl Tryz.sizeOp20) rfl ?_
   rw [HRO.out, HRE.out, HRX.out]
   exact ⟨S, _, rfl, EvRow.nil _ _, (H3.out.but hB1 HES.out).but hB2 HES2.out, growE_new (growE_new G3.out HEZ.out.1 hB1) HEZ.out.2.1 hB2⟩
 | true =>
   cases ps with
   | true =>
     obtain ⟨k, rfl⟩ : ∃ k : Nat, pn = k := ⟨pn.toNat, by have := hpn rfl; omega⟩
     obtain ⟨q1, q2⟩ := HPK.out k rfl rfl rfl
     rw [if_neg (by simp)] at HRO
     rw [if_pos rfl, if_pos rfl, Int.toNat_natCast] at HRE HRX
     have HSR : Hid (∀ W : World, Below V3.heap.size V3 W → Calls Tryz.prog 55 #[.pointer (some ⟨H, 0, none⟩), .int .i64 k] W fun e w' => ∃ v, e = .returned v ∧ EvRow V3.heap.size (runSE x k) v w' ∧ w'.heap[F]? = V3.heap[F]? ∧ w'.heap[E]? = V3.heap[E]? ∧ w'.heap[E2]? = V3.heap[E2]? ∧ V3.heap.size ≤ w'.heap.size ∧ ∃ S', PgAt H ts ss st (runSX ss x k) w' S' ∧ GrowS S S' w w' ∧ ¬ S' E ∧ ¬ S' E2) := Lib.hid (fun W hW => by
      refine (prunS_any W H S ts ss st x ((pq_own H ts ss st _ _).later H3.out hW) k q1 (HDK.out k q1) q2).mono ?_
      rintro e w' ⟨S', v, rfl, k1, k2, k3⟩
      have a1 := lt_of_block HFF.out
      have a2 := lt_of_block HEE3.out
      have a3 := lt_of_block HEE4.out
      have a4 := hW.size
      exact ⟨v, rfl, k1.weak hW.size, (k3.block F (by omega) HFS.out).trans (hW.block F a1), (k3.block E (by omega) HES.out).trans (hW.block E a2), (k3.block E2 (by omega) HES2.out).trans (hW.block E2 a3), Nat.le_trans hW.size k3.size, S', k2, G3.out.trans ((GrowS.of_below hW).trans k3), k3.not (by omega) HES.out, k3.not (by omega) HES2.out⟩)
     clear hno hpn q1 q2
     have KS0 : Hid (V3.cell? ⟨F, 0, none⟩ = some (.bool true) ∧ V3.cell? ⟨F, 1, none⟩ = some (.int .i64 k)) := Lib.hid (KF.out V3 rfl)
     have KS1 : Hid (V3.drew.cell? ⟨F, 0, none⟩ = some (.bool true) ∧ V3.drew.cell? ⟨F, 1, none⟩ = some (.int .i64 k)) := Lib.hid (KF.out V3.drew rfl)
     go_upto_region 5 with fail
     go_region_held3 (fun W => W.cell? ⟨F, 0, none⟩ = some (.bool true) ∧ W.cell? ⟨F, 1, none⟩ = some (.int .i64 k))
      (first | with_reducible exact KS0.out | with_reducible exact KS1.out | with_reducible exact KF.out _ kf9.out | with_reducible exact KF.out _ (KG1.out _ _ _ kf9.out) | with_reducible exact KF.out _ (KG.out _ _ _ _ _ _ kf9.out) | fail "no keep")
      (first
        | (go_at_call 55; refine (HSR.out _ (Below.refl _ _).drew).mono ?_; rintro e w9 ⟨v9, rfl, r9', kf9', ke9', kd9', zz9, S9, h9', g9', n9', m9'⟩
           have r9 := Lib.hid r9'; have kf9 := Lib.hid kf9'; have ke9 := Lib.hid (ke9'.trans HEE3.out); have kd9 := Lib.hid (kd9'.trans HEE4.out); have h9 := Lib.hid h9'; have g9 := Lib.hid g9'; have n9 := Lib.hid (And.intro n9' m9')
           have z0 := cell_in (j := 0) ke9.out rfl
           have z1 := cell_in (j := 1) ke9.out rfl
           have z2 := free_in ke9.out 0
           have z3 := free_in ke9.out 1
           have y0 := cell_in (j := 0) kd9.out rfl
           have y1 := cell_in (j := 1) kd9.out rfl
           have y2 := cell_in (j := 2) kd9.out rfl
           have y3 := free_in kd9.out 0
           have y4 := free_in kd9.out 1
           have y5 := free_in kd9.out 2
           clear r9' kf9' ke9' kd9' h9' g9' n9' m9' zz9)
        | fail "no arm")
     go_wp2_with fail
     have hE1 := ke9.out
     have hB1 : But E w9 ((w9.setCell ⟨E, 0, none⟩ (.bool true)).setCell ⟨E, 1, none⟩ (.int .i64 k)) := ((But.refl E w9).set 0 _).set 1 _
     have hB2 : But E2 ((w9.setCell ⟨E, 0, none⟩ (.bool true)).setCell ⟨E, 1, none⟩ (.int .i64 k)) (((((w9.setCell ⟨E, 0, none⟩ (.bool true)).setCell ⟨E, 1, none⟩ (.int .i64 k)).setCell ⟨E2, 0, none⟩ (.int .i64 0)).setCell ⟨E2, 1, none⟩ (.int .i64 0)).setCell ⟨E2, 2, none⟩ (.int .i64 0)) := (((But.refl E2 _).set 0 _).set 1 _).set 2 _
     have m1 := (hB2.block E (by have := lt_of_block ke9.out; simpa using this) HEE.out).trans (set2q ke9.out rfl (.bool true) (.int .i64 k))
     have m2 := set3x ((hB1.block E2 (lt_of_block kd9.out) (fun e => HEE.out e.symm)).trans kd9.out) rfl (.int .i64 0) (.int .i64 0) (.int .i64 0)
     refine bodyPost_ret (results_two (P := Tryz.prog) rfl _ _ E E2 _ _ _ _ (0, 0) (0, 0) _ _ _ rfl rfl rfl m1 m2 Tryz.underlying52 rfl Tryz.sizeWh20 Tryz.underlying54 rfl Tryz.sizeOp20) rfl ?_
     rw [HRO.out, HRE.out, HRX.out]
     exact ⟨S9, v9, rfl, ((r9.out.but hB1 HEZ.out.2.2.1).but hB2 HEZ.out.2.2.2).weak (Nat.le_trans HBV.out.size HB4.out.size), (h9.out.but hB1 n9.out.1).but hB2 n9.out.2, growE_new (growE_new g9.out HEZ.out.1 hB1) HEZ.out.2.1 hB2⟩
   | false =>
     rw [if_pos ⟨rfl, rfl⟩] at HRO
     rw [if_pos rfl, if_neg (by simp)] at HRE HRX
     obtain ⟨o0, ho0⟩ : ∃ o, o = (opT ts x.js pn).at_ := ⟨_, rfl⟩
     obtain ⟨o1, ho1⟩ : ∃ o, o = (opT ts x.js pn).len := ⟨_, rfl⟩
     obtain ⟨o2, ho2⟩ : ∃ o, o = (opT ts x.js pn).part := ⟨_, rfl⟩
     have HOP : Hid ((runO ts ss x).at_ = o0 ∧ (runO ts ss x).len = o1 ∧ (runO ts ss x).part = o2) := Lib.hid (by rw [HRO.out, ho0, ho1, ho2]; exact ⟨rfl, rfl, rfl⟩)
     have HSR : Hid (Calls Tryz.prog 56 #[.pointer (some ⟨H, 0, none⟩), .int .i64 pn] V3 fun e w' => ∃ v, e = .returned (.tuple #[.agg #[.int .i64 o0, .int .i64 o1, .int .i64 o2], v]) ∧ EvRow V3.heap.size (runJE ts x pn) v w' ∧ w'.heap[F]? = V3.heap[F]? ∧ w'.heap[E]? = V3.heap[E]? ∧ w'.heap[E2]? = V3.heap[E2]? ∧ V3.heap.size ≤ w'.heap.size ∧ ∃ S', PgAt H ts ss st (runJX ts ss x pn) w' S' ∧ GrowS S S' w w' ∧ ¬ S' E ∧ ¬ S' E2) := Lib.hid (by
      refine (prunJ_any V3 H S ts ss st x H3.out HSS.out pn).mono ?_
      rintro e w' ⟨S', v, rfl, k1, k2, k3⟩
      rw [ho0, ho1, ho2]
      exact ⟨v, rfl, k1, k3.block F (lt_of_block HFF.out) HFS.out, k3.block E (lt_of_block HEE3.out) HES.out, k3.block E2 (lt_of_block HEE4.out) HES2.out, k3.size, S', k2, G3.out.trans k3, k3.not (lt_of_block HEE3.out) HES.out, k3.not (lt_of_block HEE4.out) HES2.out⟩)
     clear hno hpn ho0 ho1 ho2
     go_upto_region 7 with (first
      | (go_at_call 56; refine HSR.out.mono ?_; rintro e w9 ⟨v9, rfl, r9', kf9', ke9', kd9', zz9', S9, h9', g9', n9', m9'⟩
         have r9 := Lib.hid r9'; have kf9 := Lib.hid kf9'; have ke9 := Lib.hid (ke9'.trans HEE3.out); have kd9 := Lib.hid (kd9'.trans HEE4.out); have h9 := Lib.hid h9'; have g9 := Lib.hid g9'; have n9 := Lib.hid (And.intro n9' m9'); have zz9 := Lib.hid zz9'
         clear r9' kf9' ke9' kd9' h9' g9' n9' m9' zz9')
      | fail "no arm")
     obtain ⟨F7, hF7⟩ : ∃ F7, F7 = w9.heap.size := ⟨_, rfl⟩
     obtain ⟨V9, hV9⟩ : ∃ V9, V9 = w9.alloc (.cells #[.int .i64 o0, .int .i64 o1, .int .i64 o2] 54) := ⟨_, rfl⟩
     have hb9 : Below w9.heap.size w9 V9 := by rw [hV9]; exact below1 _ _
     have HB9 := Lib.hid hb9
     have hF9 : V9.heap[F7]? = some (.cells #[.int .i64 o0, .int .i64 o1, .int .i64 o2] 54 (0, 0)) := by rw [hV9, hF7]; exact heap_alloc_new _ _
     have e0 := (hb9.block F (by have := lt_of_block HFF.out; have := zz9.out; omega)).trans (kf9.out.trans HFF.out)
     have e1 := (hb9.block E (lt_of_block ke9.out)).trans ke9.out
     have e2 := (hb9.block E2 (lt_of_block kd9.out)).trans kd9.out
     have HE9 := Lib.hid e1
     have HD9 := Lib.hid e2
     have x0 := cell_in (j := 0) e0 rfl
     have x1 := cell_in (j := 1) e0 rfl
     have x2 := cell_in (j := 0) hF9 rfl
     have x3 := cell_in (j := 1) hF9 rfl
     have x4 := cell_in (j := 2) hF9 rfl
     have z0 := cell_in (j := 0) e1 rfl
     have z1 := cell_in (j := 1) e1 rfl
     have z2 := free_in e1 0
     have z3 := free_in e1 1
     have y0 := cell_in (j := 0) e2 rfl
     have y1 := cell_in (j := 1) e2 rfl
     have y2 := cell_in (j := 2) e2 rfl
     have y3 := free_in e2 0
     have y4 := free_in e2 1
     have y5 := free_in e2 2
     have HF7 : Hid (F7 ≠ E ∧ F7 ≠ E2) := Lib.hid (by have := lt_of_block ke9.out; have := lt_of_block kd9.out; omega)
     have KS : Hid (∀ W : World, W.heap[F]? = V9.heap[F]? → W.heap[F7]? = V9.heap[F7]? → W.cell? ⟨F, 0, none⟩ = some (.bool false) ∧ W.cell? ⟨F, 1, none⟩ = some (.int .i64 pn) ∧ W.cell? ⟨F7, 0, none⟩ = some (.int .i64 o0) ∧ W.cell? ⟨F7, 1, none⟩ = some (.int .i64 o1) ∧ W.cell? ⟨F7, 2, none⟩ = some (.int .i64 o2)) := Lib.hid (fun W hW hW2 => ⟨(World.cell?_of_block hW).trans x0, (World.cell?_of_block hW).trans x1, (World.cell?_of_block hW2).trans x2, (World.cell?_of_block hW2).trans x3, (World.cell?_of_block hW2).trans x4⟩)
     have KS0 : Hid (∀ W : World, W = V9 → W.cell? ⟨F, 0, none⟩ = some (.bool false) ∧ W.cell? ⟨F, 1, none⟩ = some (.int .i64 pn) ∧ W.cell? ⟨F7, 0, none⟩ = some (.int .i64 o0) ∧ W.cell? ⟨F7, 1, none⟩ = some (.int .i64 o1) ∧ W.cell? ⟨F7, 2, none⟩ = some (.int .i64 o2)) := Lib.hid (fun W hW => by subst hW; exact KS.out W rfl rfl)
     have KS1 : Hid (∀ W : World, W = V9.drew → W.cell? ⟨F, 0, none⟩ = some (.bool false) ∧ W.cell? ⟨F, 1, none⟩ = some (.int .i64 pn) ∧ W.cell? ⟨F7, 0, none⟩ = some (.int .i64 o0) ∧ W.cell? ⟨F7, 1, none⟩ = some (.int .i64 o1) ∧ W.cell? ⟨F7, 2, none⟩ = some (.int .i64 o2)) := Lib.hid (fun W hW => by subst hW; exact KS.out V9.drew rfl rfl)
     have KS2 : Hid (∀ (W : World) (u0 u1 : Value), W = V9 → ((W.setCell ⟨E, 0, none⟩ u0).setCell ⟨E, 1, none⟩ u1).drew.cell? ⟨F, 0, none⟩ = some (.bool false) ∧ ((W.setCell ⟨E, 0, none⟩ u0).setCell ⟨E, 1, none⟩ u1).drew.cell? ⟨F, 1, none⟩ = some (.int .i64 pn) ∧ ((W.setCell ⟨E, 0, none⟩ u0).setCell ⟨E, 1, none⟩ u1).drew.cell? ⟨F7, 0, none⟩ = some (.int .i64 o0) ∧ ((W.setCell ⟨E, 0, none⟩ u0).setCell ⟨E, 1, none⟩ u1).drew.cell? ⟨F7, 1, none⟩ = some (.int .i64 o1) ∧ ((W.setCell ⟨E, 0, none⟩ u0).setCell ⟨E, 1, none⟩ u1).drew.cell? ⟨F7, 2, none⟩ = some (.int .i64 o2)) := Lib.hid (fun W u0 u1 hW => by
      subst hW
      exact KS.out _ (by rw [show ∀ X : World, X.drew.heap = X.heap from fun _ => rfl, Below.heap_setCell _ ⟨E, 1, none⟩ _ F HFE.out.1, Below.heap_setCell _ ⟨E, 0, none⟩ _ F HFE.out.1]) (by rw [show ∀ X : World, X.drew.heap = X.heap from fun _ => rfl, Below.heap_setCell _ ⟨E, 1, none⟩ _ F7 HF7.out.1, Below.heap_setCell _ ⟨E, 0, none⟩ _ F7 HF7.out.1]))
     have KS3 : Hid (∀ (W : World) (u0 u1 u2 u3 u4 : Value), W = V9 → (((((W.setCell ⟨E, 0, none⟩ u0).setCell ⟨E, 1, none⟩ u1).setCell ⟨E2, 0, none⟩ u2).setCell ⟨E2, 1, none⟩ u3).setCell ⟨E2, 2, none⟩ u4).drew.cell? ⟨F, 0, none⟩ = some (.bool false) ∧ (((((W.setCell ⟨E, 0, none⟩ u0).setCell ⟨E, 1, none⟩ u1).setCell ⟨E2, 0, none⟩ u2).setCell ⟨E2, 1, none⟩ u3).setCell ⟨E2, 2, none⟩ u4).drew.cell? ⟨F, 1, none⟩ = some (.int .i64 pn) ∧ (((((W.setCell ⟨E, 0, none⟩ u0).setCell ⟨E, 1, none⟩ u1).setCell ⟨E2, 0, none⟩ u2).setCell ⟨E2, 1, none⟩ u3).setCell ⟨E2, 2, none⟩ u4).drew.cell? ⟨F7, 0, none⟩ = some (.int .i64 o0) ∧ (((((W.setCell ⟨E, 0, none⟩ u0).setCell ⟨E, 1, none⟩ u1).setCell ⟨E2, 0, none⟩ u2).setCell ⟨E2, 1, none⟩ u3).setCell ⟨E2, 2, none⟩ u4).drew.cell? ⟨F7, 1, none⟩ = some (.int .i64 o1) ∧ (((((W.setCell ⟨E, 0, none⟩ u0).setCell ⟨E, 1, none⟩ u1).setCell ⟨E2, 0, none⟩ u2).setCell ⟨E2, 1, none⟩ u3).setCell ⟨E2, 2, none⟩ u4).drew.cell? ⟨F7, 2, none⟩ = some (.int .i64 o2)) := Lib.hid (fun W u0 u1 u2 u3 u4 hW => by
      subst hW
      exact KS.out _ (by rw [show ∀ X : World, X.drew.heap = X.heap from fun _ => rfl, Below.heap_setCell _ ⟨E2, 2, none⟩ _ F HFE.out.2, Below.heap_setCell _ ⟨E2, 1, none⟩ _ F HFE.out.2, Below.heap_setCell _ ⟨E2, 0, none⟩ _ F HFE.out.2, Below.heap_setCell _ ⟨E, 1, none⟩ _ F HFE.out.1, Below.heap_setCell _ ⟨E, 0, none⟩ _ F HFE.out.1]) (by rw [show ∀ X : World, X.drew.heap = X.heap from fun _ => rfl, Below.heap_setCell _ ⟨E2, 2, none⟩ _ F7 HF7.out.2, Below.heap_setCell _ ⟨E2, 1, none⟩ _ F7 HF7.out.2, Below.heap_setCell _ ⟨E2, 0, none⟩ _ F7 HF7.out.2, Below.heap_setCell _ ⟨E, 1, none⟩ _ F7 HF7.out.1, Below.heap_setCell _ ⟨E, 0, none⟩ _ F7 HF7.out.1]))
     rw [← hV9, ← hF7]
     clear hV9 hF7 hb9 hF9 e0 e1 e2
     go_region_held3 (fun W => W.cell? ⟨F, 0, none⟩ = some (.bool false) ∧ W.cell? ⟨F, 1, none⟩ = some (.int .i64 pn) ∧ W.cell? ⟨F7, 0, none⟩ = some (.int .i64 o0) ∧ W.cell? ⟨F7, 1, none⟩ = some (.int .i64 o1) ∧ W.cell? ⟨F7, 2, none⟩ = some (.int .i64 o2))
      (first | with_reducible exact KS0.out _ rfl | with_reducible exact KS1.out _ rfl | with_reducible exact KS2.out _ _ _ rfl | with_reducible exact KS3.out _ _ _ _ _ _ rfl | fail "no keep")
      (fail)
     go_wp2_with fail
     have hE1 := HE9.out
     have hB1 : But E V9 ((V9.setCell ⟨E, 0, none⟩ (.bool false)).setCell ⟨E, 1, none⟩ (.int .i64 pn)) := ((But.refl E V9).set 0 _).set 1 _
     have hB2 : But E2 ((V9.setCell ⟨E, 0, none⟩ (.bool false)).setCell ⟨E, 1, none⟩ (.int .i64 pn)) (((((V9.setCell ⟨E, 0, none⟩ (.bool false)).setCell ⟨E, 1, none⟩ (.int .i64 pn)).setCell ⟨E2, 0, none⟩ (.int .i64 o0)).setCell ⟨E2, 1, none⟩ (.int .i64 o1)).setCell ⟨E2, 2, none⟩ (.int .i64 o2)) := (((But.refl E2 _).set 0 _).set 1 _).set 2 _
     have m1 := (hB2.block E (by have := lt_of_block HE9.out; simpa using this) HEE.out).trans (set2q HE9.out rfl (.bool false) (.int .i64 pn))
     have m2 := set3x ((hB1.block E2 (lt_of_block HD9.out) (fun e => HEE.out e.symm)).trans HD9.out) rfl (.int .i64 o0) (.int .i64 o1) (.int .i64 o2)
     refine bodyPost_ret (results_two (P := Tryz.prog) rfl _ _ E E2 _ _ _ _ (0, 0) (0, 0) _ _ _ rfl rfl rfl m1 m2 Tryz.underlying52 rfl Tryz.sizeWh20 Tryz.underlying54 rfl Tryz.sizeOp20) rfl ?_
     rw [HRE.out, HRX.out, HOP.out.1, HOP.out.2.1, HOP.out.2.2]
     have n9' := n9.out
     have hr9 := ((((r9.out.later HB9.out).but hB1 HEZ.out.2.2.1).but hB2 HEZ.out.2.2.2).weak (Nat.le_trans HBV.out.size HB4.out.size))
     have hp9 := ((((pq_own H ts ss st _ _).later h9.out HB9.out).but hB1 n9'.1).but hB2 n9'.2)
     have hg9 := growE_new (growE_new (g9.out.trans (GrowS.of_below HB9.out)) HEZ.out.1 hB1) HEZ.out.2.1 hB2
     exact ⟨S9, v9, rfl, hr9.later (Below.refl _ _).drew, (pq_own H ts ss st _ _).later hp9 (Below.refl _ _).drew, hg9.trans (GrowS.of_below (Below.refl _ _).drew)⟩
end Go.Proofs.YtchbehnkkcjdgaaGreat
