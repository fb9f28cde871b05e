/- The program's table of jobs: Rise, Put. -/
import Derived.Test.YtnenbgdonkgkfaaGreatTaskV
namespace Go.Proofs.YtnenbgdonkgkfaaGreat
open Go.ChangeShapes Go.WideShapes Go.ChangeAt Go.RowKit
set_option linter.unusedVariables false

/-- Of those that were told of so far, the new dues. -/
def chgT (R : List En) (i : Nat) (D1 D2 : Nat → Option Int) : Nat → Option Int := fun k => if k ∈ (R.take i).map Prod.fst then D2 k else D1 k
theorem chg_zero (R : List En) (D1 D2 : Nat → Option Int) : chgT R 0 D1 D2 = D1 := by funext k; simp [chgT]
theorem chg_step {R : List En} {i : Nat} (h : i < R.length) (D1 D2 : Nat → Option Int) : upd (chgT R i D1 D2) R[i].1 (D2 R[i].1) = chgT R (i + 1) D1 D2 := by
  funext k
  have ht : R.take (i + 1) = R.take i ++ [R[i]] := by rw [List.take_add_one, List.getElem?_eq_getElem h]; rfl
  by_cases e : k = R[i].1
  · subst e
    rw [upd_at]
    unfold chgT
    rw [if_pos (List.mem_map.2 ⟨R[i], by rw [ht]; exact List.mem_append_right _ (List.mem_singleton.2 rfl), rfl⟩)]
  · rw [upd_ne _ _ e]
    unfold chgT
    rw [ht]
    have : (k ∈ ((R.take i) ++ [R[i]]).map Prod.fst) ↔ (k ∈ (R.take i).map Prod.fst) := by
      rw [List.map_append, List.mem_append]
      simp [e]
    by_cases c : k ∈ (R.take i).map Prod.fst
    · rw [if_pos c, if_pos (this.2 c)]
    · rw [if_neg c, if_neg (fun c' => c (this.1 c'))]
theorem chg_all {R : List En} {D1 D2 : Nat → Option Int} (hR : Rep R D1) (h : ∀ k, D1 k = none → D2 k = none) : chgT R R.length D1 D2 = D2 := by
  funext k
  unfold chgT
  rw [List.take_length]
  cases e : D1 k with
  | none => rw [h k e]; simp
  | some d =>
    rw [if_pos (List.mem_map.2 ⟨(k, d), (hR.2 k d).2 e, rfl⟩)]
theorem chg_some {R : List En} {i : Nat} {D1 D2 : Nat → Option Int} {js : Js} (h1 : ∀ k, (D1 k).isSome = hasJ js k) (h2 : ∀ k, (D2 k).isSome = hasJ js k) (k : Nat) : (chgT R i D1 D2 k).isSome = hasJ js k := by
  unfold chgT
  split
  · exact h2 k
  · exact h1 k
theorem dm_some (ts : List Tk) (hm : Bool) (js : Js) (k : Nat) : (dmT ts hm js k).isSome = hasJ js k := by
  unfold dmT hasJ
  rw [Option.isSome_map]
set_option maxRecDepth 100000 in
set_option maxHeartbeats 8000000 in
theorem trise_any (w : World) (T : Nat) (S : Nat → Prop) (ts : List Tk) (hm : Bool) (js : Js) (h : TbP T ts hm js w S) :
    Calls Tryz.prog 22 #[.pointer (some ⟨T, 0, none⟩)] w fun e w' => ∃ S' ao cap, e = .returned (.slice ao (riseL ts js).length cap) ∧ Lies w' w.heap.size w'.heap.size (.slice ao (riseL ts js).length cap) (riseL ts js).length 1 ((riseL ts js).flatMap intCells) ∧ TbP T ts true (riseT ts js) w' S' ∧ GrowS S S' w w' := by
  obtain ⟨hok, G, lo, hi, H, W, X, m, f, h⟩ := h
  have HM := Lib.hid (tmade_any w T G lo hi H W X m S ts hm js _ f h)
  have c2 := h.c2
  have f2 := free_in h.box 2
  obtain ⟨h1, g1⟩ := h.mode true
  obtain ⟨V, hV⟩ : ∃ V, V = w.setCell ⟨T, 2, none⟩ (.bool true) := ⟨_, rfl⟩
  rw [← hV] at h1 g1
  have HC := Lib.hid (tdrop_rise V T G lo hi H W X m S ts true js _ f h1)
  have G1 := Lib.hid g1
  have HV := Lib.hid hV
  have HOK : Hid (JsOk ts (riseT ts js)) := Lib.hid (hok.remOk _ _)
  have HLT := Lib.hid h.lt
  have HZ : Hid (V.heap.size = w.heap.size) := Lib.hid (by rw [hV]; simp)
  obtain ⟨js1, hjs1⟩ : ∃ js1, js1 = riseT ts js := ⟨_, rfl⟩
  obtain ⟨L, hL⟩ : ∃ L, L = riseL ts js := ⟨_, rfl⟩
  have hd : remT (lowP ts) js ts.length (dmT ts hm js) = dmT ts hm js1 := by rw [rem_dm, hjs1]; rfl
  rw [hd] at HC
  rw [show remT (lowP ts) js ts.length js = js1 from hjs1.symm, show lisT (lowP ts) js ts.length = L from hL.symm] at HC
  rw [← hjs1] at HOK ⊢
  rw [← hL]
  obtain ⟨D1, hD1⟩ : ∃ D1, D1 = dmT ts hm js1 := ⟨_, rfl⟩
  rw [← hD1] at HC
  obtain ⟨D2, hD2⟩ : ∃ D2, D2 = dmT ts true js1 := ⟨_, rfl⟩
  have HD : Hid (D1 = dmT ts hm js1 ∧ D2 = dmT ts true js1) := Lib.hid ⟨hD1, hD2⟩
  have HD1 : Hid (∀ k, (D1 k).isSome = hasJ js1 k) := Lib.hid (by rw [hD1]; exact dm_some ts hm js1)
  have HD2 : Hid (∀ k, (D2 k).isSome = hasJ js1 k) := Lib.hid (by rw [hD2]; exact dm_some ts true js1)
  obtain ⟨n, hn⟩ : ∃ n, n = ts.length := ⟨_, rfl⟩
  have HN := Lib.hid hn
  clear h h1 g1 hV hok hjs1 hL hd hD1 hD2 hn
  go_enter Tryz.func22, Tryz.ntmps22
  go_upto_region 4 with (first
    | (go_at_call 49; refine HM.out.mono ?_; rintro e w3 ⟨rfl, hw3⟩; rw [hw3]; clear hw3)
    | fail "no arm")
  rw [← HV.out]
  clear c2 f2
  go_wp2_with (first
    | (go_at_call 52; refine HA.out.mono ?_; rintro e w4 ⟨Gr, y, rfl, hge, hw, hy, hb⟩
       have HW4 := Lib.hid hw; have HY := Lib.hid hy; have HB4 := Lib.hid hb; have HGE := Lib.hid hge
       clear hge hw hy hb)
    | (go_at_call 50; refine HC.out.mono ?_; rintro e w3 ⟨m3, f3, ao, cap, rfl, l3, h3, g3⟩
       have L3 := Lib.hid l3; have H3 := Lib.hid h3; have G3 := Lib.hid g3
       have c1 := h3.c1
       obtain ⟨R, hR, hRl⟩ := h3.hp.list
       obtain ⟨fx, xx, hx, hg, _⟩ := h3.hp
       have HA := Lib.hid (hall_any w3 lo hi H W X ts.length m3 fx xx D1 R hx hg hR)
       have HR := Lib.hid hR
       have HRL := Lib.hid hRl
       clear l3 h3 g3 hR hRl hx hg)
    | fail "no arm")
  have HT4 := Lib.hid (H3.out.later HB4.out)
  have hs3 : m3 ≤ 6 := by have := H3.out.cnt; have := cnt_le js1 ts.length; have := H3.out.n6; omega
  have KY : Hid (∀ Y, GrowS S S w4 Y → ∀ i (hi : i < m3), Y.cell? ⟨Gr, i, none⟩ = some (.int .i64 (y i))) := Lib.hid (fun Y hY i hi => by
    have := (HW4.out.at_ (i := i) hi).1
    unfold World.cell? at this ⊢
    rw [hY.block Gr HW4.out.lt (fun hs => by have := H3.out.lt Gr hs; have := HGE.out; omega)]
    exact this)
  go_loopw [20] (fun s wr => ∃ i : Nat, i ≤ m3 ∧ s = .int .i64 i ∧ Hid (TbD wr T G lo hi H W X m3 S ts true js1 (chgT R i D1 D2) f3) ∧ Hid (GrowS S S w4 wr)) (fun s _ => m3 - (intOf s).toNat)
  case atStart => exact ⟨0, Nat.zero_le _, rfl, by rw [chg_zero]; exact HT4, Lib.hid (GrowS.of_below (Below.refl _ _))⟩
  case round =>
    obtain ⟨i, hi', rfl, HT, HG⟩ := hrel
    by_cases hlt : i < m3
    · have d0 : decide ((i : Int) < (m3 : Int)) = true := decide_eq_true (by omega)
      have d1 : (0 : Int) ≤ (i : Int) := by omega
      have d2 : (i : Int) < (m3 : Int) := by omega
      have hiR : i < R.length := by have := HRL.out; omega
      have y0 := KY.out wr HG.out i hlt
      obtain ⟨k, hk⟩ : ∃ k, k = (R[i]).1 := ⟨_, rfl⟩
      rw [HY.out i hiR, ← hk] at y0
      have hjj : ∃ j, js1 k = some j := by
        have h1 := HD1.out k
        rw [hk, (HR.out.find hiR)] at h1
        rw [hk]
        exact hasJ_t h1.symm
      obtain ⟨j, hj⟩ := hjj
      have HJ := Lib.hid hj
      have hkt := HT.out.ok.lt hj
      have e1 : (0 : Int) ≤ (k : Int) := by omega
      have e2 : (k : Int) < (n : Int) := by have := HN.out; omega
      have KC : Hid (∀ Y, Below wr.heap.size wr Y → Y.cell? ⟨T, 0, none⟩ = some (.slice (some ⟨G, 0, none⟩) n n) ∧ Y.cell? ⟨T, 1, none⟩ = some (.pointer (some ⟨H, 0, none⟩)) ∧ Y.cell? ⟨T, 2, none⟩ = some (.bool true)) := Lib.hid (fun Y hY => by rw [HN.out]; exact ⟨(HT.out.later hY).c0, (HT.out.later hY).c1, (HT.out.later hY).c2⟩)
      have HST : Hid (upd (chgT R i D1 D2) k (some (dueT ts true k j)) = chgT R (i + 1) D1 D2) := Lib.hid (by
        have := chg_step hiR D1 D2
        rw [← hk] at this
        rw [← this, HD.out.2]
        unfold dmT
        rw [hj]; rfl)
      obtain ⟨d, hd⟩ : ∃ d, chgT R i D1 D2 k = some d := Option.isSome_iff_exists.1 (by rw [HT.out.dd]; exact hasJ_some hj)
      have HDK := Lib.hid hd
      obtain ⟨c0, c1', c2⟩ := KC.out wr (Below.refl _ _)
      clear hj hk hkt hd hiR
      go_wp2_with fail
      go_region_held3 (fun Y => Y.cell? ⟨T, 0, none⟩ = some (.slice (some ⟨G, 0, none⟩) n n) ∧ Y.cell? ⟨T, 1, none⟩ = some (.pointer (some ⟨H, 0, none⟩)) ∧ Y.cell? ⟨T, 2, none⟩ = some (.bool true))
        (first | exact K6.out | exact KC.out _ HB5.out | exact KC.out _ (by repeat first | exact Below.refl _ _ | refine Below.drew ?_ | refine below_drewM _ ?_) | fail "no")
        (first
        | (go_at_call 53; refine (hchange_in w5 lo hi H W X ts.length m3 _ (HT.out.later HB5.out).hp k (dueT ts true k j) d HDK.out).mono ?_; rintro e w6 ⟨rfl, hp6, hM6⟩
           obtain ⟨h6, g6⟩ := (HT.out.later HB5.out).heap (js' := js1) hp6 hM6 HT.out.cnt (by rw [HST.out]; exact chg_some HD1.out HD2.out) (fun _ _ h => h)
           rw [HST.out] at h6
           have H6 := Lib.hid h6
           have G6 : Hid (GrowS S S w4 w6) := Lib.hid ((HG.out.trans (GrowS.of_below HB5.out)).trans g6)
           have K6 : Hid (w6.cell? ⟨T, 0, none⟩ = some (.slice (some ⟨G, 0, none⟩) n n) ∧ w6.cell? ⟨T, 1, none⟩ = some (.pointer (some ⟨H, 0, none⟩)) ∧ w6.cell? ⟨T, 2, none⟩ = some (.bool true)) := Lib.hid (by rw [HN.out]; exact ⟨h6.c0, h6.c1, h6.c2⟩)
           clear hp6 hM6 h6 g6)
        | (go_at_call 46; refine ((HT.out.later (by repeat first | exact Below.refl _ _ | refine Below.drew ?_ | refine below_drewM _ ?_)).due HJ.out true).mono ?_; rintro e w5 ⟨rfl, n5, hw5⟩
           have HB5 : Hid (Below wr.heap.size wr w5) := Lib.hid (by rw [hw5]; repeat first | exact Below.refl _ _ | refine Below.drew ?_ | refine below_drewM _ ?_)
           clear hw5)
        | fail "no arm")
      go_wp2_with fail
      go_roundw
      case rel => exact ⟨i + 1, by omega, by go_num, H6, G6⟩
      case measure => simp [intOf]; omega
    · have d0 : decide ((i : Int) < (m3 : Int)) = false := decide_eq_false (by omega)
      have him : i = m3 := by omega
      have HIM := Lib.hid him
      clear him
      go_wp2_with fail
      go_ret
      have hz := HZ.out
      have him := HIM.out
      have hz3 := G3.out.size
      have hbb : ∀ b, V.heap.size ≤ b → b < w3.heap.size → wr.heap[b]? = w3.heap[b]? := fun b h1 h2 => by
        have ns : ¬ S b := fun hs => by have := HLT.out b hs; omega
        exact (HG.out.block b (Nat.lt_of_lt_of_le h2 HB4.out.size) ns).trans (HB4.out.block b h2)
      refine ⟨S, ao, cap, rfl, ?_, ⟨HOK.out, G, lo, hi, H, W, X, m3, f3, ?_⟩, ((G1.out.trans G3.out).trans (GrowS.of_below HB4.out)).trans HG.out⟩
      · have := (L3.out.keep (w' := wr) (fun b h1 h2 => hbb b h1 h2)).wider (Nat.le_of_eq hz.symm) (Nat.le_trans HB4.out.size HG.out.size)
        exact this
      · have h := HT.out
        rw [him, ← HRL.out, chg_all HR.out (fun k hk => by
          have h1 := HD1.out k
          rw [hk] at h1
          have h2 := HD2.out k
          rw [← h1] at h2
          simpa using h2), HD.out.2] at h
        rw [HRL.out] at h
        exact h
/-- A job is there. -/
theorem TbD.put {w w' : World} {T G lo hi H W X m : Nat} {S : Nat → Prop} {ts : List Tk} {hm : Bool} {js : Js} {D : Nat → Option Int} {f : Nat → Jc} (h : TbD w T G lo hi H W X m S ts hm js D f) {k : Nat} {j : Jb} {d : Int} (hk : k < ts.length) (hn : js k = none) (hp : HpD w' lo hi H W X ts.length (m + 1) (upd D k (some d))) (hM : Mv lo hi w w')
    (hb : 0 ≤ j.arr ∧ j.arr ≤ 4611686018427387904 ∧ 1 ≤ j.work ∧ j.work ≤ 1048576 ∧ 0 ≤ j.done ∧ j.done ≤ j.work ∧ j.ops.length ≤ 64) (hf : f k = ⟨k, j.arr, j.work, j.done, (f k).ops⟩) (hr : ORow w 60 3 (f k).ops j.ops.length (j.ops.flatMap Wn.cells)) (hg : ∀ g, (f k).ops.ownBlock = some g → ¬ S g) :
    TbD w' T G lo hi H W X (m + 1) (fun g => S g ∨ (f k).ops.ownBlock = some g) ts hm (upd js k (some j)) (upd D k (some d)) f ∧ GrowS S S w w' := by
  have hz := hM.below.size
  have hks : ∀ k, k < w.heap.size → ¬ (lo ≤ k ∧ k < hi) → w'.heap[k]? = w.heap[k]? := fun k hk hn => by
    rcases Nat.lt_or_ge k lo with g | g
    · exact hM.below.block k g
    · exact hM.above k (by omega) hk
  refine ⟨⟨(hks T (h.lt T h.own.1) h.tg.2.1).trans h.box, h.st.same (hks G (h.lt G h.own.2.1) h.tg.2.2), hp, by rw [cnt_put j hn _ hk, h.cnt], h.ok.set hk hb, fun i => ?_, fun i x hx => ?_, h.tg, ⟨.inl h.own.1, .inl h.own.2.1, fun g h1 h2 => .inl (h.own.2.2 g h1 h2)⟩, fun g hgg => ?_, h.n6, h.tk⟩,
    ⟨hM.below.os, hM.below.tape, hM.below.output, hz, fun k h1 h2 => hks k h1 (fun h3 => h2 (h.own.2.2 k h3.1 h3.2)), fun k hk => .inl hk⟩⟩
  · by_cases e : i = k
    · subst e; rw [upd_at, hasJ_some (upd_at _ _ _)]; rfl
    · rw [upd_ne _ _ e, hasJ_ne js _ e]; exact h.dd i
  · by_cases e : i = k
    · subst e
      rw [upd_at] at hx
      cases hx
      have hgo : ∀ g, (f i).ops.ownBlock = some g → g ≠ T ∧ g ≠ G ∧ ¬ (lo ≤ g ∧ g < hi) := fun g hgg => ⟨fun e => hg g hgg (e ▸ h.own.1), fun e => hg g hgg (e ▸ h.own.2.1), fun e => hg g hgg (h.own.2.2 g e.1 e.2)⟩
      exact ⟨hf, hr.hold (fun g hgg => hks g (hr.lt g hgg) (hgo g hgg).2.2), fun g hgg => ⟨.inr hgg, hgo g hgg⟩⟩
    · rw [upd_ne _ _ e] at hx
      obtain ⟨g1, g2, g3⟩ := h.jb i x hx
      exact ⟨g1, g2.hold (fun g hg => hks g (h.lt g (g3 g hg).1) (g3 g hg).2.2.2), fun g hg => ⟨.inl (g3 g hg).1, (g3 g hg).2⟩⟩
  · rcases hgg with hgg | hgg
    · exact Nat.lt_of_lt_of_le (h.lt g hgg) hz
    · exact Nat.lt_of_lt_of_le (hr.lt g hgg) hz
set_option maxRecDepth 100000 in
set_option maxHeartbeats 8000000 in
theorem tput_any (w : World) (T : Nat) (S : Nat → Prop) (ts : List Tk) (hm : Bool) (js : Js) (t arr work done : Int) (a : Option Addr) (n c : Nat) (ops : List Wn) (h : TbP T ts hm js w S) (hn : ops.length = n) (hl : Lies w 0 w.heap.size (.slice a n c) n 3 (ops.flatMap Wn.cells)) :
    Calls Tryz.prog 20 #[.pointer (some ⟨T, 0, none⟩), .agg #[.int .i64 t, .int .i64 arr, .int .i64 work, .int .i64 done, .slice a n c]] w fun e w' => ∃ S', e = .returned (.int .i64 (errT ts hm js t arr work done n)) ∧ TbP T ts hm (putT ts hm js t arr work done ops) w' S' ∧ GrowS S S' w w' := by
  have HP := Lib.hid h
  obtain ⟨hok, G, lo, hi, H, W, X, m, f, h⟩ := h
  obtain ⟨V, hV⟩ : ∃ V, V = w.alloc (.cells #[.int .i64 t, .int .i64 arr, .int .i64 work, .int .i64 done, .slice a n c] 40) := ⟨_, rfl⟩
  obtain ⟨E, hE⟩ : ∃ E, E = w.heap.size := ⟨_, rfl⟩
  have hbV : Hid (Below w.heap.size w V) := Lib.hid (by rw [hV]; exact below1 _ _)
  have hEV : Hid (V.heap[E]? = some (.cells #[.int .i64 t, .int .i64 arr, .int .i64 work, .int .i64 done, .slice a n c] 40 (0, 0))) := Lib.hid (by rw [hV, hE]; exact heap_alloc_new _ _)
  have HT := Lib.hid (h.later hbV.out)
  have HTH := Lib.hid (thas_any V T G lo hi H W X m S ts hm js _ f HT.out t)
  have HTR := Lib.hid (tright_any V E 0 arr work done a n c (cell_in hEV.out rfl) (cell_in hEV.out rfl) (cell_in hEV.out rfl) (cell_in hEV.out rfl))
  have b0 : V.cell? ⟨E, 0, none⟩ = some (.int .i64 t) := cell_in hEV.out rfl
  have HV := Lib.hid hV
  have HE := Lib.hid hE
  have HNN := Lib.hid hn
  have HLI := Lib.hid hl
  have HOK := Lib.hid hok
  have HSAME : Hid (∀ Y o, errT ts hm js t arr work done n = o → o ≠ 0 → Below w.heap.size w Y → ∃ S', Ending.returned (.int .i64 o) = .returned (.int .i64 (errT ts hm js t arr work done n)) ∧ TbP T ts hm (putT ts hm js t arr work done ops) Y S' ∧ GrowS S S' w Y) := Lib.hid (fun Y o ho hne hY => ⟨S, by rw [ho], by rw [put_no (by rw [hn, ho]; exact hne)]; exact (tb_own _ _ _ _).later HP.out hY, GrowS.of_below hY⟩)
  clear h hV hE hok hl hn
  cases hin : inT ts t with
  | false =>
    have HIN := Lib.hid hin
    have HER := Lib.hid (err_arg (ts := ts) (hi := hm) (js := js) (t := t) (arr := arr) (work := work) (done := done) (n := n) (fun h => by rw [hin] at h; exact absurd h.1 (by simp)))
    clear hin
    go_enter Tryz.func20, Tryz.ntmps20
    go_upto_region 1 with fail
    rw [← HV.out, ← HE.out]
    go_wp2_with (first
      | (go_at_call 43; refine HTH.out.mono ?_; rintro e w3 ⟨rfl, hw3⟩; rw [hw3, HIN.out]; clear hw3)
      | fail "no arm")
    go_ret
    exact HSAME.out V 1 HER.out (by omega) hbV.out
  | true =>
    have HIN := Lib.hid hin
    cases hrt : rightV arr work done n with
    | false =>
      have HRT := Lib.hid hrt
      have HER := Lib.hid (err_arg (ts := ts) (hi := hm) (js := js) (t := t) (arr := arr) (work := work) (done := done) (n := n) (fun h => by
        unfold rightV at hrt
        exact of_decide_eq_false hrt h.2))
      clear hin hrt
      go_enter Tryz.func20, Tryz.ntmps20
      go_upto_region 1 with fail
      rw [← HV.out, ← HE.out]
      go_wp2_with (first
        | (go_at_call 43; refine HTH.out.mono ?_; rintro e w3 ⟨rfl, hw3⟩; rw [hw3, HIN.out]; clear hw3)
        | (go_at_call 44; refine HTR.out.mono ?_; rintro e w3 ⟨rfl, hw3⟩; rw [hw3, HRT.out]; clear hw3)
        | fail "no arm")
      go_ret
      exact HSAME.out V 1 HER.out (by omega) hbV.out
    | true =>
      have HRT := Lib.hid hrt
      have hall : inT ts t = true ∧ 0 ≤ arr ∧ arr ≤ 4611686018427387904 ∧ 1 ≤ work ∧ work ≤ 1048576 ∧ done = 0 ∧ n ≤ 64 := ⟨hin, by unfold rightV at hrt; exact of_decide_eq_true hrt⟩
      obtain ⟨k, rfl, hk⟩ := inT_nat hin
      have HTT := Lib.hid (tthere_any V T G lo hi H W X m S ts hm js _ f HT.out (k : Int))
      cases hj : hasJ js k with
      | true =>
        have HF : Hid (thereT ts js (k : Int) = true) := Lib.hid (by unfold thereT; rw [hin, Int.toNat_natCast, hj]; rfl)
        have HER := Lib.hid (err_there (hi := hm) hall (by rw [Int.toNat_natCast]; exact hj))
        clear hin hrt hj hall hk
        go_enter Tryz.func20, Tryz.ntmps20
        go_upto_region 1 with fail
        rw [← HV.out, ← HE.out]
        go_wp2_with (first
          | (go_at_call 43; refine HTH.out.mono ?_; rintro e w3 ⟨rfl, hw3⟩; rw [hw3, HIN.out]; clear hw3)
          | (go_at_call 44; refine HTR.out.mono ?_; rintro e w3 ⟨rfl, hw3⟩; rw [hw3, HRT.out]; clear hw3)
          | (go_at_call 38; refine HTT.out.mono ?_; rintro e w3 ⟨rfl, hw3⟩; rw [hw3, HF.out]; clear hw3)
          | fail "no arm")
        go_ret
        exact HSAME.out V 4 HER.out (by omega) hbV.out
      | false =>
        have HF : Hid (thereT ts js (k : Int) = false) := Lib.hid (there_f (hasJ_f hj))
        have HJ := Lib.hid (hasJ_f hj)
        have HK := Lib.hid hk
        obtain ⟨q, hq⟩ : ∃ q, q = ts.length := ⟨_, rfl⟩
        have HQ := Lib.hid hq
        have d1 : (0 : Int) ≤ (k : Int) := by omega
        have d2 : (k : Int) < (q : Int) := by omega
        have c0 := HT.out.c0
        rw [← hq] at c0
        have c2 := HT.out.c2
        have s5 := (HT.out.seatAt hk).2.2.2.2.2.1
        obtain ⟨th, hth⟩ : ∃ th, th = (tkAt ts k).hi := ⟨_, rfl⟩
        rw [← hth] at s5
        by_cases hdr : hm = true ∧ th = false
        · have HER := Lib.hid (err_drop (ts := ts) (hi := hm) (js := js) hall (by rw [Int.toNat_natCast]; exact hj) (by rw [Int.toNat_natCast, ← hth]; exact hdr))
          obtain ⟨rfl, rfl⟩ := hdr
          clear hin hrt hj hall hk hq hth
          go_enter Tryz.func20, Tryz.ntmps20
          go_upto_region 1 with fail
          rw [← HV.out, ← HE.out]
          go_wp2_with (first
            | (go_at_call 43; refine HTH.out.mono ?_; rintro e w3 ⟨rfl, hw3⟩; rw [hw3, HIN.out]; clear hw3)
            | (go_at_call 44; refine HTR.out.mono ?_; rintro e w3 ⟨rfl, hw3⟩; rw [hw3, HRT.out]; clear hw3)
            | (go_at_call 38; refine HTT.out.mono ?_; rintro e w3 ⟨rfl, hw3⟩; rw [hw3, HF.out]; clear hw3)
            | fail "no arm")
          go_quiet (fail)
          go_wp2_with fail
          go_ret
          exact HSAME.out _ 42 HER.out (by omega) (by repeat first | exact hbV.out | refine Below.drew ?_ | refine below_drewM _ ?_)
        · have HER := Lib.hid (err_ok (ts := ts) (hi := hm) (js := js) hall (by rw [Int.toNat_natCast]; exact hj) (by rw [Int.toNat_natCast, ← hth]; exact hdr))
          have HALL := Lib.hid hall
          have KT : Hid (∀ Y, Below V.heap.size V Y → Y.cell? ⟨T, 0, none⟩ = some (.slice (some ⟨G, 0, none⟩) q q) ∧ Y.cell? ⟨E, 0, none⟩ = some (.int .i64 k)) := Lib.hid (fun Y hY => by rw [hq]; exact ⟨(HT.out.later hY).c0, cell_in ((hY.block E (lt_of_block hEV.out)).trans hEV.out) rfl⟩)
          have KA : Hid (∀ Y, Below V.heap.size V Y → Calls Tryz.prog 39 #[.pointer (some ⟨E, 0, none⟩)] Y fun e w' => ∃ ao cap, e = .returned (.agg #[.int .i64 k, .int .i64 arr, .int .i64 work, .int .i64 done, .slice ao n cap]) ∧ w'.ownsRow (Y.heap.size + 2) 60 3 (.slice ao n cap) n (ops.flatMap Wn.cells) ∧ Below Y.heap.size Y w') := Lib.hid (fun Y hY => by
            have hx := (hY.block E (lt_of_block hEV.out)).trans hEV.out
            have hbw : Below w.heap.size w Y := hbV.out.trans (hY.mono hbV.out.size)
            exact tapart_any Y E 0 k arr work done a n c 0 w.heap.size _ (cell_in hx rfl) (cell_in hx rfl) (cell_in hx rfl) (cell_in hx rfl) (cell_in hx rfl) (HLI.out.keep (SameIn.of_below hbw (Nat.le_refl _))) (wn_flat _) hbw.size HALL.out.2.2.2.2.2.2)
          have hEn : Hid (E ≠ T ∧ E ≠ G ∧ T ≠ G ∧ ¬ S E) := Lib.hid (by
            have hse : ¬ S E := fun hs => by
              have := (tb_own T ts hm js).lt HP.out E hs
              have := HE.out; omega
            exact ⟨fun e => hse (e ▸ HT.out.own.1), fun e => hse (e ▸ HT.out.own.2.1), HT.out.tg.1, hse⟩)
          clear hin hrt hj hall hk hq hth
          go_enter Tryz.func20, Tryz.ntmps20
          go_upto_region 1 with fail
          rw [← HV.out, ← HE.out]
          cases hm with
          | false =>
            go_upto_region 5 with (first
              | (go_at_call 43; refine HTH.out.mono ?_; rintro e w3 ⟨rfl, hw3⟩; rw [hw3, HIN.out]; clear hw3)
              | (go_at_call 44; refine HTR.out.mono ?_; rintro e w3 ⟨rfl, hw3⟩; rw [hw3, HRT.out]; clear hw3)
              | (go_at_call 38; refine HTT.out.mono ?_; rintro e w3 ⟨rfl, hw3⟩; rw [hw3, HF.out]; clear hw3)
              | fail "no arm")
            go_quiet (fail)
            go_upto_region 7 with fail
            go_region_held3 (fun Y => Y.cell? ⟨T, 0, none⟩ = some (.slice (some ⟨G, 0, none⟩) q q) ∧ Y.cell? ⟨E, 0, none⟩ = some (.int .i64 k))
              (first | exact KX.out _ ((((((But.refl _ _).set _ _).set _ _).set _ _).set _ _).set _ _) | exact KT.out _ HB6.out | exact KT.out _ (by repeat first | exact Below.refl _ _ | refine Below.drew ?_ | refine below_drewM _ ?_) | fail "no")
              (first
              | (go_at_call 39; refine (KA.out _ (by repeat first | exact Below.refl _ _ | refine Below.drew ?_ | refine below_drewM _ ?_)).mono ?_; rintro e w6 ⟨ao, cap, rfl, o6, b6⟩
                 have HB6 : Hid (Below V.heap.size V w6) := Lib.hid (Below.trans (by repeat first | exact Below.refl _ _ | refine Below.drew ?_ | refine below_drewM _ ?_) b6)
                 have O6 : Hid (w6.ownsRow (V.heap.size + 2) 60 3 (.slice ao n cap) n (ops.flatMap Wn.cells)) := Lib.hid o6
                 have H6 := Lib.hid (HT.out.later HB6.out)
                 obtain ⟨z0, z1, z2, z3, z4, _⟩ := H6.out.seatAt HK.out
                 have p0 := H6.out.st.free (k * 11)
                 have p1 := H6.out.st.free (k * 11 + 1)
                 have p2 := H6.out.st.free (k * 11 + 2)
                 have p3 := H6.out.st.free (k * 11 + 3)
                 have p4 := H6.out.st.free (k * 11 + 4)
                 have KX : Hid (∀ Y, But G w6 Y → Y.cell? ⟨T, 0, none⟩ = some (.slice (some ⟨G, 0, none⟩) q q) ∧ Y.cell? ⟨E, 0, none⟩ = some (.int .i64 k)) := Lib.hid (fun Y hY => by
                   rw [HQ.out]
                   have hE6 := (HB6.out.block E (lt_of_block hEV.out)).trans hEV.out
                   exact ⟨cell_in ((hY.block T (lt_of_block H6.out.box) hEn.out.2.2.1).trans H6.out.box) rfl, cell_in ((hY.block E (lt_of_block hE6) hEn.out.2.1).trans hE6) rfl⟩)
                 clear o6 b6)
              | fail "no arm")
            obtain ⟨V8, hV8⟩ : ∃ V8, V8 = ((((w6.setCell ⟨G, k * 11, none⟩ (.int .i64 k)).setCell ⟨G, k * 11 + 1, none⟩ (.int .i64 arr)).setCell ⟨G, k * 11 + 2, none⟩ (.int .i64 work)).setCell ⟨G, k * 11 + 3, none⟩ (.int .i64 done)).setCell ⟨G, k * 11 + 4, none⟩ (.slice ao n cap) := ⟨_, rfl⟩
            rw [← hV8]
            obtain ⟨f8, hf8⟩ : ∃ f8, f8 = upd f k (⟨k, arr, work, done, .slice ao n cap⟩ : Jc) := ⟨_, rfl⟩
            have hB8 : But G w6 V8 := by rw [hV8]; exact (((((But.refl _ _).set _ _).set _ _).set _ _).set _ _).set _ _
            have hs8 : SeatsC V8 G ts.length (seatV f8 ts) := by rw [hV8, hf8]; exact H6.out.st.job HK.out (⟨k, arr, work, done, .slice ao n cap⟩ : Jc)
            obtain ⟨h8, g8⟩ := H6.out.seat (js' := js) (f' := f8) hB8 hs8 H6.out.cnt H6.out.ok H6.out.dd (fun i x hx => by
              have hne : i ≠ k := fun e => by subst e; rw [HJ.out] at hx; cases hx
              rw [hf8, upd_ne _ _ hne]
              exact ⟨(H6.out.jb i x hx).1, x, hx, rfl, rfl⟩)
            have H8 := Lib.hid h8
            have G8 : Hid (GrowS S S w V8) := Lib.hid (((GrowS.of_below hbV.out).trans (GrowS.of_below HB6.out)).trans g8)
            have HF8 : Hid (f8 k = ⟨k, arr, work, done, .slice ao n cap⟩) := Lib.hid (by rw [hf8, upd_at])
            have hE6 := (HB6.out.block E (lt_of_block hEV.out)).trans hEV.out
            have hE8 : Hid (V8.heap[E]? = some (.cells #[.int .i64 k, .int .i64 arr, .int .i64 work, .int .i64 done, .slice a n c] 40 (0, 0))) := Lib.hid ((hB8.block E (lt_of_block hE6) hEn.out.2.1).trans hE6)
            have O8 : Hid (ORow V8 60 3 (.slice ao n cap) n (ops.flatMap Wn.cells)) := Lib.hid ((ORow.of_owns O6.out).hold (fun g hg => hB8.block g (owns_own O6.out g hg).2 (fun e => by have := (owns_own O6.out g hg).1; have := HT.out.st.lt; omega)))
            have HGO : Hid (∀ g, (Value.slice ao n cap).ownBlock = some g → ¬ S g ∧ w.heap.size ≤ g) := Lib.hid (fun g hg => by
              have h1 := (owns_own O6.out g hg).1
              have h2 := hbV.out.size
              exact ⟨fun hs => by have := (tb_own T ts _ js).lt HP.out g hs; omega, by omega⟩)
            have KC8 : Hid (∀ Y, Below V8.heap.size V8 Y → Y.cell? ⟨T, 0, none⟩ = some (.slice (some ⟨G, 0, none⟩) q q) ∧ Y.cell? ⟨T, 1, none⟩ = some (.pointer (some ⟨H, 0, none⟩)) ∧ Y.cell? ⟨T, 2, none⟩ = some (.bool false) ∧ Y.cell? ⟨E, 0, none⟩ = some (.int .i64 k)) := Lib.hid (fun Y hY => by
              rw [HQ.out]
              exact ⟨(H8.out.later hY).c0, (H8.out.later hY).c1, (H8.out.later hY).c2, cell_in ((hY.block E (lt_of_block hE8.out)).trans hE8.out) rfl⟩)
            have KD : Hid (∀ Y, Below V8.heap.size V8 Y → Calls Tryz.prog 46 #[.pointer (some ⟨G, k * 11, none⟩), .bool false] Y fun e w' => e = .returned (.int .i64 (dueT ts false k ⟨arr, work, done, ops⟩)) ∧ Below Y.heap.size Y w') := Lib.hid (fun Y hY => by
              obtain ⟨_, y1, _, _, _, _, y7, y8, _⟩ := (H8.out.later hY).seatAt HK.out
              rw [HF8.out] at y1
              have ht := okTk_bd HT.out.tk HK.out
              exact (tdue_any Y G (k * 11) arr (tkAt ts k).d (tkAt ts k).v false y1 y7 y8 ⟨HALL.out.2.1, HALL.out.2.2.1⟩ (by omega) (by omega)).mono (fun e w' h => ⟨h.1, by obtain ⟨n, hn⟩ := h.2; rw [hn]; exact below_drewM _ (Below.refl _ _)⟩))
            obtain ⟨u0, u1, u2, u3⟩ := KC8.out V8 (Below.refl _ _)
            clear hV8 hf8 hB8 hs8 h8 g8 hE6 z0 z1 z2 z3 z4 p0 p1 p2 p3 p4 c0 c2 s5 b0
            go_wp2_with fail
            go_region_held3 (fun Y => Y.cell? ⟨T, 0, none⟩ = some (.slice (some ⟨G, 0, none⟩) q q) ∧ Y.cell? ⟨T, 1, none⟩ = some (.pointer (some ⟨H, 0, none⟩)) ∧ Y.cell? ⟨T, 2, none⟩ = some (.bool false) ∧ Y.cell? ⟨E, 0, none⟩ = some (.int .i64 k))
              (first | exact K10.out | exact KC8.out _ HB9.out | exact KC8.out _ (by repeat first | exact Below.refl _ _ | refine Below.drew ?_ | refine below_drewM _ ?_) | fail "no")
              (first
              | (go_at_call 45; refine (hput_in w9 lo hi H W X ts.length m _ (H8.out.later HB9.out).hp k _ HK.out (by unfold dmT; rw [HJ.out]; rfl)).mono ?_; rintro e w10 ⟨rfl, hp10, hM10⟩
                 obtain ⟨h10, g10⟩ := (H8.out.later HB9.out).put (j := ⟨arr, work, done, ops⟩) HK.out HJ.out hp10 hM10 (by obtain ⟨_, y1, y2, y3, y4, y5, y6⟩ := HALL.out; exact ⟨y1, y2, y3, y4, by show 0 ≤ done; omega, by show done ≤ work; omega, by show ops.length ≤ 64; have := HNN.out; omega⟩) (by rw [HF8.out]) (by rw [HF8.out]; have := HNN.out; subst this; exact O8.out.later HB9.out) (fun g hg => by rw [HF8.out] at hg; exact (HGO.out g hg).1)
                 have H10 := Lib.hid h10
                 have G10 : Hid (GrowS S S w w10) := Lib.hid ((G8.out.trans (GrowS.of_below HB9.out)).trans g10)
                 have K10 : Hid (w10.cell? ⟨T, 0, none⟩ = some (.slice (some ⟨G, 0, none⟩) q q) ∧ w10.cell? ⟨T, 1, none⟩ = some (.pointer (some ⟨H, 0, none⟩)) ∧ w10.cell? ⟨T, 2, none⟩ = some (.bool false) ∧ w10.cell? ⟨E, 0, none⟩ = some (.int .i64 k)) := Lib.hid (by
                   rw [HQ.out]
                   have hE9 := (HB9.out.block E (lt_of_block hE8.out)).trans hE8.out
                   exact ⟨h10.c0, h10.c1, h10.c2, cell_in ((g10.block E (lt_of_block hE9) hEn.out.2.2.2).trans hE9) rfl⟩)
                 clear hp10 hM10 h10 g10)
              | (go_at_call 46; refine (KD.out _ (by repeat first | exact Below.refl _ _ | refine Below.drew ?_ | refine below_drewM _ ?_)).mono ?_; rintro e w9 ⟨rfl, hb9⟩
                 have HB9 : Hid (Below V8.heap.size V8 w9) := Lib.hid (Below.trans (by repeat first | exact Below.refl _ _ | refine Below.drew ?_ | refine below_drewM _ ?_) hb9)
                 clear hb9)
              | fail "no arm")
            go_wp2_with fail
            go_ret
            have hnn := HNN.out
            have hd0 := HALL.out.2.2.2.2.2.1
            refine ⟨(fun g => S g ∨ (f8 k).ops.ownBlock = some g), by rw [HER.out]; first | done | rfl, ?_, ⟨G10.out.os, G10.out.tape, G10.out.output, G10.out.size, G10.out.block, fun g hg => Or.elim hg .inl (fun e => .inr (by rw [HF8.out] at e; exact (HGO.out g e).2))⟩⟩
            have hpk := HOK.out.putOk (hi := false) (k : Int) arr work done ops
            rw [put_yes (by rw [hnn]; exact HER.out), Int.toNat_natCast] at hpk ⊢
            refine ⟨hpk, G, lo, hi, H, W, X, m + 1, f8, ?_⟩
            have h := H10.out
            rw [dm_upd]
            subst hd0
            exact h
          | true =>
            have hth1 : th = true := by cases th <;> simp_all
            subst hth1
            go_upto_region 5 with (first
              | (go_at_call 43; refine HTH.out.mono ?_; rintro e w3 ⟨rfl, hw3⟩; rw [hw3, HIN.out]; clear hw3)
              | (go_at_call 44; refine HTR.out.mono ?_; rintro e w3 ⟨rfl, hw3⟩; rw [hw3, HRT.out]; clear hw3)
              | (go_at_call 38; refine HTT.out.mono ?_; rintro e w3 ⟨rfl, hw3⟩; rw [hw3, HF.out]; clear hw3)
              | fail "no arm")
            go_quiet (fail)
            go_upto_region 7 with fail
            go_region_held3 (fun Y => Y.cell? ⟨T, 0, none⟩ = some (.slice (some ⟨G, 0, none⟩) q q) ∧ Y.cell? ⟨E, 0, none⟩ = some (.int .i64 k))
              (first | exact KX.out _ ((((((But.refl _ _).set _ _).set _ _).set _ _).set _ _).set _ _) | exact KT.out _ HB6.out | exact KT.out _ (by repeat first | exact Below.refl _ _ | refine Below.drew ?_ | refine below_drewM _ ?_) | fail "no")
              (first
              | (go_at_call 39; refine (KA.out _ (by repeat first | exact Below.refl _ _ | refine Below.drew ?_ | refine below_drewM _ ?_)).mono ?_; rintro e w6 ⟨ao, cap, rfl, o6, b6⟩
                 have HB6 : Hid (Below V.heap.size V w6) := Lib.hid (Below.trans (by repeat first | exact Below.refl _ _ | refine Below.drew ?_ | refine below_drewM _ ?_) b6)
                 have O6 : Hid (w6.ownsRow (V.heap.size + 2) 60 3 (.slice ao n cap) n (ops.flatMap Wn.cells)) := Lib.hid o6
                 have H6 := Lib.hid (HT.out.later HB6.out)
                 obtain ⟨z0, z1, z2, z3, z4, _⟩ := H6.out.seatAt HK.out
                 have p0 := H6.out.st.free (k * 11)
                 have p1 := H6.out.st.free (k * 11 + 1)
                 have p2 := H6.out.st.free (k * 11 + 2)
                 have p3 := H6.out.st.free (k * 11 + 3)
                 have p4 := H6.out.st.free (k * 11 + 4)
                 have KX : Hid (∀ Y, But G w6 Y → Y.cell? ⟨T, 0, none⟩ = some (.slice (some ⟨G, 0, none⟩) q q) ∧ Y.cell? ⟨E, 0, none⟩ = some (.int .i64 k)) := Lib.hid (fun Y hY => by
                   rw [HQ.out]
                   have hE6 := (HB6.out.block E (lt_of_block hEV.out)).trans hEV.out
                   exact ⟨cell_in ((hY.block T (lt_of_block H6.out.box) hEn.out.2.2.1).trans H6.out.box) rfl, cell_in ((hY.block E (lt_of_block hE6) hEn.out.2.1).trans hE6) rfl⟩)
                 clear o6 b6)
              | fail "no arm")
            obtain ⟨V8, hV8⟩ : ∃ V8, V8 = ((((w6.setCell ⟨G, k * 11, none⟩ (.int .i64 k)).setCell ⟨G, k * 11 + 1, none⟩ (.int .i64 arr)).setCell ⟨G, k * 11 + 2, none⟩ (.int .i64 work)).setCell ⟨G, k * 11 + 3, none⟩ (.int .i64 done)).setCell ⟨G, k * 11 + 4, none⟩ (.slice ao n cap) := ⟨_, rfl⟩
            rw [← hV8]
            obtain ⟨f8, hf8⟩ : ∃ f8, f8 = upd f k (⟨k, arr, work, done, .slice ao n cap⟩ : Jc) := ⟨_, rfl⟩
            have hB8 : But G w6 V8 := by rw [hV8]; exact (((((But.refl _ _).set _ _).set _ _).set _ _).set _ _).set _ _
            have hs8 : SeatsC V8 G ts.length (seatV f8 ts) := by rw [hV8, hf8]; exact H6.out.st.job HK.out (⟨k, arr, work, done, .slice ao n cap⟩ : Jc)
            obtain ⟨h8, g8⟩ := H6.out.seat (js' := js) (f' := f8) hB8 hs8 H6.out.cnt H6.out.ok H6.out.dd (fun i x hx => by
              have hne : i ≠ k := fun e => by subst e; rw [HJ.out] at hx; cases hx
              rw [hf8, upd_ne _ _ hne]
              exact ⟨(H6.out.jb i x hx).1, x, hx, rfl, rfl⟩)
            have H8 := Lib.hid h8
            have G8 : Hid (GrowS S S w V8) := Lib.hid (((GrowS.of_below hbV.out).trans (GrowS.of_below HB6.out)).trans g8)
            have HF8 : Hid (f8 k = ⟨k, arr, work, done, .slice ao n cap⟩) := Lib.hid (by rw [hf8, upd_at])
            have hE6 := (HB6.out.block E (lt_of_block hEV.out)).trans hEV.out
            have hE8 : Hid (V8.heap[E]? = some (.cells #[.int .i64 k, .int .i64 arr, .int .i64 work, .int .i64 done, .slice a n c] 40 (0, 0))) := Lib.hid ((hB8.block E (lt_of_block hE6) hEn.out.2.1).trans hE6)
            have O8 : Hid (ORow V8 60 3 (.slice ao n cap) n (ops.flatMap Wn.cells)) := Lib.hid ((ORow.of_owns O6.out).hold (fun g hg => hB8.block g (owns_own O6.out g hg).2 (fun e => by have := (owns_own O6.out g hg).1; have := HT.out.st.lt; omega)))
            have HGO : Hid (∀ g, (Value.slice ao n cap).ownBlock = some g → ¬ S g ∧ w.heap.size ≤ g) := Lib.hid (fun g hg => by
              have h1 := (owns_own O6.out g hg).1
              have h2 := hbV.out.size
              exact ⟨fun hs => by have := (tb_own T ts _ js).lt HP.out g hs; omega, by omega⟩)
            have KC8 : Hid (∀ Y, Below V8.heap.size V8 Y → Y.cell? ⟨T, 0, none⟩ = some (.slice (some ⟨G, 0, none⟩) q q) ∧ Y.cell? ⟨T, 1, none⟩ = some (.pointer (some ⟨H, 0, none⟩)) ∧ Y.cell? ⟨T, 2, none⟩ = some (.bool true) ∧ Y.cell? ⟨E, 0, none⟩ = some (.int .i64 k)) := Lib.hid (fun Y hY => by
              rw [HQ.out]
              exact ⟨(H8.out.later hY).c0, (H8.out.later hY).c1, (H8.out.later hY).c2, cell_in ((hY.block E (lt_of_block hE8.out)).trans hE8.out) rfl⟩)
            have KD : Hid (∀ Y, Below V8.heap.size V8 Y → Calls Tryz.prog 46 #[.pointer (some ⟨G, k * 11, none⟩), .bool true] Y fun e w' => e = .returned (.int .i64 (dueT ts true k ⟨arr, work, done, ops⟩)) ∧ Below Y.heap.size Y w') := Lib.hid (fun Y hY => by
              obtain ⟨_, y1, _, _, _, _, y7, y8, _⟩ := (H8.out.later hY).seatAt HK.out
              rw [HF8.out] at y1
              have ht := okTk_bd HT.out.tk HK.out
              exact (tdue_any Y G (k * 11) arr (tkAt ts k).d (tkAt ts k).v true y1 y7 y8 ⟨HALL.out.2.1, HALL.out.2.2.1⟩ (by omega) (by omega)).mono (fun e w' h => ⟨h.1, by obtain ⟨n, hn⟩ := h.2; rw [hn]; exact below_drewM _ (Below.refl _ _)⟩))
            obtain ⟨u0, u1, u2, u3⟩ := KC8.out V8 (Below.refl _ _)
            clear hV8 hf8 hB8 hs8 h8 g8 hE6 z0 z1 z2 z3 z4 p0 p1 p2 p3 p4 c0 c2 s5 b0
            go_wp2_with fail
            go_region_held3 (fun Y => Y.cell? ⟨T, 0, none⟩ = some (.slice (some ⟨G, 0, none⟩) q q) ∧ Y.cell? ⟨T, 1, none⟩ = some (.pointer (some ⟨H, 0, none⟩)) ∧ Y.cell? ⟨T, 2, none⟩ = some (.bool true) ∧ Y.cell? ⟨E, 0, none⟩ = some (.int .i64 k))
              (first | exact K10.out | exact KC8.out _ HB9.out | exact KC8.out _ (by repeat first | exact Below.refl _ _ | refine Below.drew ?_ | refine below_drewM _ ?_) | fail "no")
              (first
              | (go_at_call 45; refine (hput_in w9 lo hi H W X ts.length m _ (H8.out.later HB9.out).hp k _ HK.out (by unfold dmT; rw [HJ.out]; rfl)).mono ?_; rintro e w10 ⟨rfl, hp10, hM10⟩
                 obtain ⟨h10, g10⟩ := (H8.out.later HB9.out).put (j := ⟨arr, work, done, ops⟩) HK.out HJ.out hp10 hM10 (by obtain ⟨_, y1, y2, y3, y4, y5, y6⟩ := HALL.out; exact ⟨y1, y2, y3, y4, by show 0 ≤ done; omega, by show done ≤ work; omega, by show ops.length ≤ 64; have := HNN.out; omega⟩) (by rw [HF8.out]) (by rw [HF8.out]; have := HNN.out; subst this; exact O8.out.later HB9.out) (fun g hg => by rw [HF8.out] at hg; exact (HGO.out g hg).1)
                 have H10 := Lib.hid h10
                 have G10 : Hid (GrowS S S w w10) := Lib.hid ((G8.out.trans (GrowS.of_below HB9.out)).trans g10)
                 have K10 : Hid (w10.cell? ⟨T, 0, none⟩ = some (.slice (some ⟨G, 0, none⟩) q q) ∧ w10.cell? ⟨T, 1, none⟩ = some (.pointer (some ⟨H, 0, none⟩)) ∧ w10.cell? ⟨T, 2, none⟩ = some (.bool true) ∧ w10.cell? ⟨E, 0, none⟩ = some (.int .i64 k)) := Lib.hid (by
                   rw [HQ.out]
                   have hE9 := (HB9.out.block E (lt_of_block hE8.out)).trans hE8.out
                   exact ⟨h10.c0, h10.c1, h10.c2, cell_in ((g10.block E (lt_of_block hE9) hEn.out.2.2.2).trans hE9) rfl⟩)
                 clear hp10 hM10 h10 g10)
              | (go_at_call 46; refine (KD.out _ (by repeat first | exact Below.refl _ _ | refine Below.drew ?_ | refine below_drewM _ ?_)).mono ?_; rintro e w9 ⟨rfl, hb9⟩
                 have HB9 : Hid (Below V8.heap.size V8 w9) := Lib.hid (Below.trans (by repeat first | exact Below.refl _ _ | refine Below.drew ?_ | refine below_drewM _ ?_) hb9)
                 clear hb9)
              | fail "no arm")
            go_wp2_with fail
            go_ret
            have hnn := HNN.out
            have hd0 := HALL.out.2.2.2.2.2.1
            refine ⟨(fun g => S g ∨ (f8 k).ops.ownBlock = some g), by rw [HER.out]; first | done | rfl, ?_, ⟨G10.out.os, G10.out.tape, G10.out.output, G10.out.size, G10.out.block, fun g hg => Or.elim hg .inl (fun e => .inr (by rw [HF8.out] at e; exact (HGO.out g e).2))⟩⟩
            have hpk := HOK.out.putOk (hi := true) (k : Int) arr work done ops
            rw [put_yes (by rw [hnn]; exact HER.out), Int.toNat_natCast] at hpk ⊢
            refine ⟨hpk, G, lo, hi, H, W, X, m + 1, f8, ?_⟩
            have h := H10.out
            rw [dm_upd]
            subst hd0
            exact h
end Go.Proofs.YtnenbgdonkgkfaaGreat
