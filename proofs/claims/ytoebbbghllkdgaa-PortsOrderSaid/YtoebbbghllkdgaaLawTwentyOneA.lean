/- PortsOrder. -/
import Derived.Test.YtoebbbghllkdgaaPortO
import Derived.Test.YtoebbbghllkdgaaOff
namespace Go.Proofs.Ytoebbbghllkdgaa
open Go.ChangeShapes Go.WideShapes Go.ChangeAt Go.RowKit
set_option linter.unusedVariables false

/-- The function's own row of what must come. -/
def InAt (ao : Option Addr) (m cap : Nat) (l : List Int) : Own := fun w R => ORow w 3 1 (.slice ao m cap) m (l.flatMap intCells) ∧ ∀ k, R k ↔ (Value.slice ao m cap).ownBlock = some k
theorem in_own (ao : Option Addr) (m cap : Nat) (l : List Int) : OwnP (InAt ao m cap l) :=
  ⟨fun ⟨h1, h2⟩ hk hz => ⟨h1.hold (fun g hg => hk g ((h2 g).2 hg)), h2⟩, fun ⟨h1, h2⟩ k hk => h1.lt k ((h2 k).1 hk)⟩
theorem in_start (w : World) : InAt none 0 0 [] w (fun _ => False) := ⟨ORow.nil _ _ _, fun k => ⟨False.elim, fun h => by cases h⟩⟩
theorem in_more {w V w6 : World} {ao ao2 : Option Addr} {m cap cap2 : Nat} {l : List Int} {R : Nat → Prop} (x : Int) (h : InAt ao m cap l w R) (hb : Below w.heap.size w V) (h2 : ORow w6 3 1 (.slice ao2 (m + 1) cap2) (m + 1) (l.flatMap intCells ++ [.int .i64 x]))
    (hg : V.grownBy w6 (Value.slice ao m cap).ownBlock) (ho : (Value.slice ao2 (m + 1) cap2).ownBlock = (Value.slice ao m cap).ownBlock ∨ (Value.slice ao2 (m + 1) cap2).ownBlock = some V.heap.size) :
    InAt ao2 (m + 1) cap2 (l ++ [x]) w6 (fun k => (Value.slice ao2 (m + 1) cap2).ownBlock = some k) ∧ GrowS R (fun k => (Value.slice ao2 (m + 1) cap2).ownBlock = some k) w w6 := by
  refine ⟨⟨by rw [List.flatMap_append]; exact h2, fun _ => Iff.rfl⟩, ⟨hg.os.trans hb.os, hg.tape.trans hb.tape, hg.output.trans hb.output, Nat.le_trans hb.size hg.size, fun k hk hn => (hg.block k (Nat.lt_of_lt_of_le hk hb.size) (fun e => hn ((h.2 k).2 e.symm))).trans (hb.block k hk), fun k hk => ?_⟩⟩
  rcases ho with e | e
  · exact .inl ((h.2 k).2 (e ▸ hk))
  · have := e.symm.trans hk
    cases this
    exact .inr hb.size
set_option maxRecDepth 100000 in
set_option maxHeartbeats 16000000 in
theorem PortsOrder_walk (sz : Int) (a1 : Option Addr) (n1 c1 : Nat) (w : World) (l1 : List A5) (hsz : I64 sz) (hn1 : l1.length = n1) (hl1 : Lies w 0 w.heap.size (.slice a1 n1 c1) n1 5 (l1.flatMap A5.cells)) (hi1 : ∀ x ∈ l1, x.In) :
    Calls Try.prog 5 #[.int .i64 sz, .slice a1 n1 c1] w fun e w' => e = .returned (.bool true) ∧ Below w.heap.size w w' := by
  have HK := Lib.hid (knows21_any w)
  by_cases z1 : sz < 1
  · have t0 : decide (sz < 1) = true := decide_eq_true z1
    clear z1 hn1 hl1 hi1
    go_enter Try.func5, Try.ntmps5
    go_wp2_with (go_at_call 7; refine HK.out.mono ?_; rintro e w3 ⟨rfl, hb3⟩)
    go_ret
    exact ⟨rfl, hb3⟩
  have t0 : decide (sz < 1) = false := decide_eq_false z1
  by_cases z2 : 50 < sz
  · have t1 : decide (50 < sz) = true := decide_eq_true z2
    clear z1 z2 hn1 hl1 hi1
    go_enter Try.func5, Try.ntmps5
    go_wp2_with (go_at_call 7; refine HK.out.mono ?_; rintro e w3 ⟨rfl, hb3⟩)
    go_ret
    exact ⟨rfl, hb3⟩
  have t1 : decide (50 < sz) = false := decide_eq_false z2
  by_cases z3 : 200 < n1
  · have t2 : decide ((200 : Int) < (n1 : Int)) = true := decide_eq_true (by omega)
    clear z1 z2 z3 hn1 hl1 hi1
    go_enter Try.func5, Try.ntmps5
    go_wp2_with (go_at_call 7; refine HK.out.mono ?_; rintro e w3 ⟨rfl, hb3⟩)
    go_ret
    exact ⟨rfl, hb3⟩
  have t2 : decide ((200 : Int) < (n1 : Int)) = false := decide_eq_false (by omega)
  have hs1 : n1 ≤ 200 := by omega
  have KA := Lib.hid (acts21_read hn1 hl1)
  have HRM : Hid (roomV sz = sz) := Lib.hid (by unfold roomV; omega)
  have HZ : Hid (∀ x ∈ [oneQ sz], I64 x.size) := Lib.hid (by intro x hx; simp at hx; subst hx; exact hsz)
  have HER : Hid (wrE [oneQ sz] 0 0 = 0) := Lib.hid rfl
  have HS := Lib.hid (show 1 ≤ sz ∧ sz ≤ 50 by omega)
  obtain ⟨i0, hi0, hz0, hz1, hz2⟩ := info_parts Try.infoInt14
  have HI := Lib.hid hi0
  clear z1 z2 z3 hn1 hl1 hi1 hsz hi0
  go_enter Try.func5, Try.ntmps5
  go_wp2_with (first
    | (go_at_call 19; have _z := hb1; go_loud (refine (pnew_one sz _ _ (heap_alloc_new _ _)).mono ?_; rintro e w2 ⟨H, S, rfl, q1, q2, q3⟩; have q := Lib.hid (And.intro q1 (And.intro q2 ((below1 w1 (.cells #[.bool true, .int .i64 0, .int .i64 1, .int .i64 sz] 45)).trans (q3.mono (by simp))))); clear q1 q2 q3))
    | (go_at_call 7; refine HK.out.mono ?_; rintro e w1 ⟨rfl, hb1'⟩; have hb1 := Lib.hid hb1'; clear hb1')
    | fail "no arm")
  have HT3 : Hid (Both w w2 (PrO H [oneQ sz] (fun _ => Ps.new)) (InAt none 0 0 []) S (fun _ => False)) := Lib.hid (by
    have hw1 := hb1.out.size
    exact ⟨q.out.1, in_start w2, pro_own _ _ _, in_own _ _ _ _, fun _ _ h => h, fun k hk => by have := q.out.2.1 k hk; simp at this; omega, fun k hk => hk.elim, hb1.out.trans (q.out.2.2.mono hw1)⟩)
  clear q hb1
  go_loopw [6, 7, 8] (fun s6 s7 s8 wr => ∃ (k : Nat) (ao : Option Addr) (m cap : Nat) (l : List Int) (lost : Int) (st : Nat → Ps) (S R : Nat → Prop), k ≤ n1 ∧ s6 = .slice ao m cap ∧ s7 = .int .i64 lost ∧ s8 = .int .i64 k ∧ Hid (Both w wr (PrO H [oneQ sz] st) (InAt ao m cap l) S R ∧ (st 0).l = l ∧ (st 0).lost = lost ∧ l.length = m ∧ (m : Int) ≤ sz)) (fun _ _ s _ => n1 - (intOf s).toNat)
  case atStart => exact ⟨0, none, 0, 0, [], 0, _, _, _, Nat.zero_le _, rfl, rfl, rfl, Lib.hid ⟨HT3.out, rfl, rfl, rfl, by have := HS.out; simp; omega⟩⟩
  case round =>
    clear HT3
    obtain ⟨k, ao, m, cap, l, lost, st, S, R, hk, rfl, rfl, rfl, HT⟩ := hrel
    by_cases hlt : k < n1
    · have d0 : decide ((k : Int) < (n1 : Int)) = true := decide_eq_true (by omega)
      have d1 : (0 : Int) ≤ (k : Int) := by omega
      have d2 : (k : Int) < (n1 : Int) := by omega
      have hcb : ∃ b off, a1 = some ⟨b, off, none⟩ := by
        obtain ⟨b, off, e, _⟩ := KA.out wr HT.out.1.b k hlt
        exact ⟨b, off, e⟩
      obtain ⟨b, off, rfl⟩ := hcb
      obtain ⟨kd, hkd⟩ : ∃ x, x = (aAt l1 k).k := ⟨_, rfl⟩
      obtain ⟨v, hv⟩ : ∃ x, x = (aAt l1 k).v := ⟨_, rfl⟩
      have KV : Hid (∀ Y : World, Below w.heap.size w Y → Y.cell? ⟨b, off + k * 5, none⟩ = some (.int .i64 kd) ∧ Y.cell? ⟨b, off + k * 5 + 3, none⟩ = some (.int .i64 v)) := Lib.hid (fun Y hY => by
        obtain ⟨b', off', e, ⟨g0, _, _, g3, _⟩, _⟩ := KA.out Y hY k hlt
        cases e
        rw [hkd, hv]
        exact ⟨g0, g3⟩)
      obtain ⟨v0, v3⟩ := KV.out wr HT.out.1.b
      have IK : Hid (I64 (k : Int)) := Lib.hid (by unfold I64; omega)
      clear hkd hv
      by_cases q0 : kd ≤ 2
      · have f0 : decide (kd ≤ 2) = true := decide_eq_true q0
        clear q0
        by_cases q1 : (m : Int) < sz
        · have f1 : decide ((m : Int) < sz) = true := decide_eq_true q1
          have HPU : Hid ((wrS [oneQ sz] st 0 0 v k 0).l = l ++ [v] ∧ (wrS [oneQ sz] st 0 0 v k 0).lost = lost) := Lib.hid (by
            obtain ⟨_, g1, g2, g3, g4⟩ := HT.out
            show ((st 0).put (oneQ sz) v k).l = _ ∧ ((st 0).put (oneQ sz) v k).lost = _
            have hp := pushV_yes (n := roomV (oneQ sz).size) (l := (st 0).l) (x := v) (by rw [g1, g3]; show (m : Int) < roomV sz; rw [HRM.out]; exact q1)
            unfold Ps.put
            rw [if_pos (show (oneQ sz).queue = true from rfl)]
            show pushV _ _ _ = _ ∧ lostV _ _ = _
            rw [hp.1, hp.2, g1, g2]
            exact ⟨rfl, rfl⟩)
          have HQ1 := Lib.hid q1
          clear q1
          obtain ⟨xs, hxs⟩ : ∃ xs, xs = l.flatMap intCells := ⟨_, rfl⟩
          have HXS := Lib.hid hxs
          clear hxs
          have HM : Hid (m ≤ 50) := Lib.hid (by have := HS.out; have := HT.out.2.2.2.2; omega)
          have hm50 := HM.out
          go_wp2_with (first
            | (refine wpList_append_off (by rfl) (.tmp 58) (.tmp 64) 46 (by rfl) 3 i0 _ 1 8 Try.underlying46 HI.out hz0 hz1 hz2 rfl (by omega) (.slice ao m cap) m xs (by rfl) (by rw [HXS.out]; exact (tV.out.later (below1 _ _)).r.1) _ _ _ 1 [.int .i64 v] (by rfl) (one_lies (cs := #[.int .i64 v]) (heap_alloc_new _ _) rfl) (in_one v) (by omega) (by simp only [maxLen]; omega) (by omega) ?_
               intro ao2 cap2 w6 hown6' hgrow6' hob6'
               have t6 := Lib.hid (And.intro hown6' (And.intro hgrow6' hob6'))
               clear hown6' hgrow6' hob6')
            | (go_at_call 10; refine (num21_any _ _).mono ?_; rintro e w9 ⟨rfl, hw9⟩; rw [hw9]; clear hw9)
            | (go_at_call 11; refine (pwrite_any _ H [oneQ sz] st S _ _ _ _ HT.out.1.h IK.out).mono ?_; rintro e w4 ⟨S4, rfl, h4', g4'⟩; have tV := Lib.hid (HT.out.1.prog h4' g4' (pro_own _ _ _)); obtain ⟨y0, y3⟩ := KV.out _ tV.out.b; rw [HER.out]; clear h4' g4')
            | fail "no arm")
          go_roundw
          case rel =>
            have ho := t6.out.1
            rw [HXS.out] at ho
            obtain ⟨r1, r2⟩ := in_more v tV.out.r (below1 w4 (.cells #[.int .i64 v] 3)) ho t6.out.2.1 t6.out.2.2
            exact ⟨k + 1, ao2, m + 1, cap2, l ++ [v], lost, _, _, _, by omega, rfl, rfl, by go_num, Lib.hid ⟨tV.out.ref r1 r2 (in_own _ _ _ _), HPU.out.1, HPU.out.2, by rw [List.length_append, HT.out.2.2.2.1]; rfl, by have := HQ1.out; omega⟩⟩
          case measure => simp [intOf]; omega
        · have f1 : decide ((m : Int) < sz) = false := decide_eq_false q1
          have HPU : Hid ((wrS [oneQ sz] st 0 0 v k 0).l = l ∧ (wrS [oneQ sz] st 0 0 v k 0).lost = wrap64 (lost + 1)) := Lib.hid (by
            obtain ⟨_, g1, g2, g3, g4⟩ := HT.out
            show ((st 0).put (oneQ sz) v k).l = _ ∧ ((st 0).put (oneQ sz) v k).lost = _
            have hp := pushV_no (n := roomV (oneQ sz).size) (l := (st 0).l) (x := v) (by rw [g1, g3]; show ¬ (m : Int) < roomV sz; rw [HRM.out]; exact q1)
            unfold Ps.put
            rw [if_pos (show (oneQ sz).queue = true from rfl)]
            show pushV _ _ _ = _ ∧ lostV _ _ = _
            rw [hp.1, hp.2, g1, g2]
            exact ⟨rfl, rfl⟩)
          clear q1
          go_wp2_with (first
            | (go_at_call 10; refine (num21_any _ _).mono ?_; rintro e w9 ⟨rfl, hw9⟩; rw [hw9]; clear hw9)
            | (go_at_call 11; refine (pwrite_any _ H [oneQ sz] st S _ _ _ _ HT.out.1.h IK.out).mono ?_; rintro e w4 ⟨S4, rfl, h4', g4'⟩; have tV := Lib.hid (HT.out.1.prog h4' g4' (pro_own _ _ _)); obtain ⟨y0, y3⟩ := KV.out _ tV.out.b; rw [HER.out]; clear h4' g4')
            | fail "no arm")
          go_roundw
          case rel => exact ⟨k + 1, ao, m, cap, l, wrap64 (lost + 1), _, _, _, by omega, rfl, rfl, by go_num, Lib.hid ⟨tV.out, HPU.out.1, HPU.out.2, HT.out.2.2.2⟩⟩
          case measure => simp [intOf]; omega
      · have f0 : decide (kd ≤ 2) = false := decide_eq_false q0
        clear q0
        have hTl := HT.out.2
        rcases l with _ | ⟨x, l⟩
        · have hm0 : m = 0 := hTl.2.2.1.symm
          subst hm0
          have HRD : Hid (rdV [oneQ sz] st 1 0 = 0 ∧ rdN [oneQ sz] st 1 0 k = 0 ∧ rdE [oneQ sz] st 1 0 = 6 ∧ (rdS [oneQ sz] st 1 0 0).l = [] ∧ (rdS [oneQ sz] st 1 0 0).lost = lost) := Lib.hid (by
            obtain ⟨g1, g2, g3, g4⟩ := hTl
            refine ⟨?_, ?_, ?_, ?_, ?_⟩
            · show popV 0 (st 0).l = 0; rw [g1]; rfl
            · show besV (oneQ sz) (st 0) k = 0; unfold besV; rw [g1]; rfl
            · show (if anyV (st 0).l = true then (0 : Int) else 6) = 6; rw [g1]; rfl
            · show ((st 0).took (oneQ sz)).l = []; unfold Ps.took; rw [g1]; exact g1
            · show ((st 0).took (oneQ sz)).lost = lost; unfold Ps.took; rw [g1]; exact g2)
          clear hTl
          go_wp2_with (first
            | (go_at_call 10; refine (num21_any _ _).mono ?_; rintro e w9 ⟨rfl, hw9⟩; rw [hw9]; clear hw9)
            | (go_at_call 13; refine (pread_any _ H [oneQ sz] st S _ _ _ HT.out.1.h IK.out HZ.out).mono ?_; rintro e w4 ⟨S4, rfl, h4', g4'⟩; have tV := Lib.hid (HT.out.1.prog h4' g4' (pro_own _ _ _)); rw [HRD.out.1, HRD.out.2.1, HRD.out.2.2.1]; clear h4' g4')
            | fail "no arm")
          go_roundw
          case rel => exact ⟨k + 1, ao, 0, cap, [], lost, _, _, _, by omega, rfl, rfl, by go_num, Lib.hid ⟨tV.out, HRD.out.2.2.2.1, HRD.out.2.2.2.2, rfl, by have := HS.out; simp; omega⟩⟩
          case measure => simp [intOf]; omega
        · obtain ⟨m', hm'⟩ : ∃ m', m = m' + 1 := ⟨l.length, hTl.2.2.1.symm⟩
          subst hm'
          have HRD : Hid (rdV [oneQ sz] st 1 0 = x ∧ rdN [oneQ sz] st 1 0 k = lost ∧ rdE [oneQ sz] st 1 0 = 0 ∧ (rdS [oneQ sz] st 1 0 0).l = l ∧ (rdS [oneQ sz] st 1 0 0).lost = 0) := Lib.hid (by
            obtain ⟨g1, g2, g3, g4⟩ := hTl
            refine ⟨?_, ?_, ?_, ?_, ?_⟩
            · show popV 0 (st 0).l = x; rw [g1]; rfl
            · show besV (oneQ sz) (st 0) k = lost; unfold besV; rw [g1]; exact g2
            · show (if anyV (st 0).l = true then (0 : Int) else 6) = 0; rw [g1]; rfl
            · show ((st 0).took (oneQ sz)).l = l; unfold Ps.took; rw [g1]; rfl
            · show ((st 0).took (oneQ sz)).lost = 0; unfold Ps.took; rw [g1]; rfl)
          have hform := HT.out.1.r.1.form
          have e0 : (((m' + 1 : Nat) : Int) == 0) = false := by simp; omega
          have e1 : (1 : Int) ≤ ((m' + 1 : Nat) : Int) := by omega
          have e2 : (0 : Int) < ((m' + 1 : Nat) : Int) := by omega
          have e4 : decide ((0 : Int) < ((m' + 1 : Nat) : Int)) = true := decide_eq_true e2
          have e3 : ((m' + 1 : Nat) : Int) ≤ (cap : Int) := by omega
          have hml : l.length = m' := by have := hTl.2.2.1; simp at this; omega
          have hmz : (m' : Int) ≤ sz := by have := hTl.2.2.2; omega
          have HML := Lib.hid (And.intro hml hmz)
          obtain ⟨a', ha', ho', hob'⟩ := HT.out.1.r.1.cut (by omega)
          obtain ⟨g, og, hag, hcell, _, _⟩ := HT.out.1.r.1.at_ (by omega)
          subst hag
          have HCX : Hid (∀ Y : World, Y.heap[g]? = wr.heap[g]? → Y.cell? ⟨g, og, none⟩ = some (.int .i64 x)) := Lib.hid (fun Y hY => by
            have := hcell 0 (.int .i64 x) rfl
            rw [Nat.add_zero] at this
            exact (World.cell?_of_block (a := ⟨g, og, none⟩) hY).trans this)
          have HG : Hid (R g ∧ (∀ k, R k ↔ (Value.slice (some ⟨g, og, none⟩) (m' + 1) cap).ownBlock = some k)) := Lib.hid ⟨(HT.out.1.r.2 g).2 rfl, HT.out.1.r.2⟩
          have HGZ : Hid (g < wr.heap.size) := Lib.hid ((in_own _ _ _ _).lt HT.out.1.r g HG.out.1)
          have HOB := Lib.hid hob'
          clear hTl hform ho' hob' hcell hml hmz
          by_cases hc1 : cap = 1
          · subst hc1
            have hm0 : m' = 0 := by omega
            subst hm0
            rw [if_pos rfl] at ha'
            subst ha'
            go_wp2_with (first
              | (go_at_call 10; refine (num21_any _ _).mono ?_; rintro e w9 ⟨rfl, hw9⟩; rw [hw9]; clear hw9)
              | (go_at_call 13; refine (pread_any _ H [oneQ sz] st S _ _ _ HT.out.1.h IK.out HZ.out).mono ?_; rintro e w4 ⟨S4, rfl, h4', g4'⟩; have tV := Lib.hid (HT.out.1.prog h4' g4' (pro_own _ _ _)); have y9 := HCX.out w4 (g4'.block g HGZ.out (fun h => HT.out.1.d g h HG.out.1)); rw [HRD.out.1, HRD.out.2.1, HRD.out.2.2.1]; clear h4' g4')
              | fail "no arm")
            go_roundw
            case rel =>
              obtain ⟨a'', ha'', ho'', hob''⟩ := tV.out.r.1.cut (by omega)
              rw [if_pos rfl] at ha''
              subst ha''
              exact ⟨k + 1, _, 0, 0, l, 0, _, S4, R, by omega, rfl, rfl, by go_num, Lib.hid ⟨tV.out.ref (Q' := InAt _ 0 0 l) ⟨ho'', fun j => (HG.out.2 j).trans (by rw [hob''])⟩ (GrowS.of_below (Below.refl _ _)) (in_own _ _ _ _), HRD.out.2.2.2.1, HRD.out.2.2.2.2, HML.out.1, HML.out.2⟩⟩
            case measure => simp [intOf]; omega
          · rw [if_neg hc1] at ha'
            have ha2 : a' = some ⟨g, og + 1, none⟩ := ha'.symm
            subst ha2
            clear ha'
            go_wp2_with (first
              | (go_at_call 10; refine (num21_any _ _).mono ?_; rintro e w9 ⟨rfl, hw9⟩; rw [hw9]; clear hw9)
              | (go_at_call 13; refine (pread_any _ H [oneQ sz] st S _ _ _ HT.out.1.h IK.out HZ.out).mono ?_; rintro e w4 ⟨S4, rfl, h4', g4'⟩; have tV := Lib.hid (HT.out.1.prog h4' g4' (pro_own _ _ _)); have y9 := HCX.out w4 (g4'.block g HGZ.out (fun h => HT.out.1.d g h HG.out.1)); rw [HRD.out.1, HRD.out.2.1, HRD.out.2.2.1]; clear h4' g4')
              | fail "no arm")
            go_roundw
            case rel =>
              obtain ⟨a'', ha'', ho'', hob''⟩ := tV.out.r.1.cut (by omega)
              rw [if_neg hc1] at ha''
              have ha3 : a'' = some ⟨g, og + 1, none⟩ := ha''.symm
              subst ha3
              exact ⟨k + 1, _, m', cap - 1, l, 0, _, S4, R, by omega, rfl, rfl, by go_num, Lib.hid ⟨tV.out.ref (Q' := InAt _ m' (cap - 1) l) ⟨ho'', fun j => (HG.out.2 j).trans Iff.rfl⟩ (GrowS.of_below (Below.refl _ _)) (in_own _ _ _ _), HRD.out.2.2.2.1, HRD.out.2.2.2.2, HML.out.1, HML.out.2⟩⟩
            case measure => simp [intOf]; omega
    · have d0 : decide ((k : Int) < (n1 : Int)) = false := decide_eq_false (by omega)
      have HWA : Hid (waV [oneQ sz] st 0 = (m : Int)) := Lib.hid (by
        show (((st 0).l.length : Nat) : Int) = m
        rw [HT.out.2.1, HT.out.2.2.2.1])
      go_wp2_with (first
        | (go_at_call 17; refine (pwait_any _ H [oneQ sz] st S _ HT.out.1.h).mono ?_; rintro e w4 ⟨rfl, h4'⟩; have h4 := Lib.hid h4'; rw [HWA.out]; clear h4')
        | fail "no arm")
      go_ret
      exact ⟨by simp, HT.out.1.b.trans (h4.out.mono HT.out.1.b.size)⟩
end Go.Proofs.Ytoebbbghllkdgaa
