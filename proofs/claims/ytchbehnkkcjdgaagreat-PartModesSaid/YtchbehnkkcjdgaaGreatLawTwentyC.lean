/- PartModes. -/
import Derived.Test.YtchbehnkkcjdgaaGreatPartC
import Derived.Test.YtchbehnkkcjdgaaGreatPartA
import Derived.Test.YtchbehnkkcjdgaaGreatPartF
import Derived.Test.YtchbehnkkcjdgaaGreatCopy
import Derived.Test.YtchbehnkkcjdgaaGreatActs20
import Derived.Test.YtchbehnkkcjdgaaGreatTaskJ
import Derived.Test.YtchbehnkkcjdgaaGreatPartJ
import Derived.Test.YtchbehnkkcjdgaaGreatTks
import Derived.BigQuiet
import Derived.Deep.CutRange
import Derived.Deep.CutBlock
namespace Go.Proofs.YtchbehnkkcjdgaaGreat
open Go.ChangeShapes Go.WideShapes Go.ChangeAt Go.RowKit
set_option linter.unusedVariables false
set_option linter.unusedSimpArgs false

/-- A thing whose blocks are younger than w. -/
structure OneC (w wx : World) (P : Own) (S : Nat → Prop) : Prop where
  h : P wx S
  oh : OwnP P
  sb : ∀ k, S k → w.heap.size ≤ k
  b : Below w.heap.size w wx
section
variable {w wx Y : World} {P P' : Own} {S S' : Nat → Prop}
theorem OneC.later (t : OneC w wx P S) (hb : Below wx.heap.size wx Y) : OneC w Y P S := ⟨t.oh.later t.h hb, t.oh, t.sb, t.b.trans (hb.mono t.b.size)⟩
theorem OneC.prog (t : OneC w wx P S) (h : P' Y S') (g : GrowS S S' wx Y) (o : OwnP P') : OneC w Y P' S' := ⟨h, o, (g.step t.b t.sb).2, (g.step t.b t.sb).1⟩
end
/-- A partition in the midst of its acts: k of them are over. -/
structure PMo (w wx : World) (H : Nat) (ts : List Tk) (ss : List Sv) (S : Nat → Prop) (x : Px) (now m : Int) : Prop where
  one : OneC w wx (PgAt H ts ss 0 x) S
  ds : DsIn ss.length now m x.ds
  pm : PxM ts ss.length x
section
variable {w wx Y : World} {H : Nat} {ts : List Tk} {ss : List Sv} {S S' : Nat → Prop} {x x' : Px} {now now' m m' : Int}
theorem PMo.later (t : PMo w wx H ts ss S x now m) (hb : Below wx.heap.size wx Y) : PMo w Y H ts ss S x now m := ⟨t.one.later hb, t.ds, t.pm⟩
theorem PMo.mono (t : PMo w wx H ts ss S x now m) (h1 : now ≤ now') (h2 : m ≤ m') : PMo w wx H ts ss S x now' m' := ⟨t.one, t.ds.mono h1 h2, t.pm⟩
theorem PMo.prog (t : PMo w wx H ts ss S x now m) (h : PgAt H ts ss 0 x' Y S') (g : GrowS S S' wx Y) (hd : DsIn ss.length now' m' x'.ds) (hp : PxM ts ss.length x') : PMo w Y H ts ss S' x' now' m' := ⟨t.one.prog h g (pq_own _ _ _ _ _ _), hd, hp⟩
theorem PMo.jin (t : PMo w wx H ts ss S x now m) : ∀ k j, x.js k = some j → k < ts.length := fun k j h => t.one.h.bds.2.2.1.lt h
theorem PMo.low (t : PMo w wx H ts ss S x now m) (hm : m ≤ 1099511627776) : DsLow ss.length 1099511627776 x.ds := fun i hi => Int.le_trans (t.ds i hi).low hm
end
/-- And the act's box beside it. -/
structure PMa (w V2 wx : World) (H : Nat) (ts : List Tk) (ss : List Sv) (S : Nat → Prop) (x : Px) (now m : Int) (E : Nat) : Prop where
  p : PMo w wx H ts ss S x now m
  a : Aside V2 wx E S (fun _ => False)
theorem PMa.later {w V2 wx Y : World} {H : Nat} {ts : List Tk} {ss : List Sv} {S : Nat → Prop} {x : Px} {now m : Int} {E : Nat} (t : PMa w V2 wx H ts ss S x now m E) (hb : Below wx.heap.size wx Y) : PMa w V2 Y H ts ss S x now m E := ⟨t.p.later hb, t.a.later hb⟩
theorem PMa.mono {w V2 wx : World} {H : Nat} {ts : List Tk} {ss : List Sv} {S : Nat → Prop} {x : Px} {now now' m m' : Int} {E : Nat} (t : PMa w V2 wx H ts ss S x now m E) (h1 : now ≤ now') (h2 : m ≤ m') : PMa w V2 wx H ts ss S x now' m' E := ⟨t.p.mono h1 h2, t.a⟩
theorem PMa.prog {w V2 wx Y : World} {H : Nat} {ts : List Tk} {ss : List Sv} {S S' : Nat → Prop} {x x' : Px} {now now' m m' : Int} {E : Nat} (t : PMa w V2 wx H ts ss S x now m E) (h : PgAt H ts ss 0 x' Y S') (g : GrowS S S' wx Y) (hd : DsIn ss.length now' m' x'.ds) (hp : PxM ts ss.length x') : PMa w V2 Y H ts ss S' x' now' m' E := ⟨t.p.prog h g hd hp, t.a.prog g⟩
theorem or_no {a : Bool} {p q : Prop} (h : a = false) (hv : (a = false ∧ p) ∨ (a = true ∧ q)) : p := by
  rcases hv with ⟨_, h2⟩ | ⟨h1, _⟩
  · exact h2
  · rw [h] at h1; cases h1
theorem or_yes {a : Bool} {p q : Prop} (h : a = true) (hv : (a = false ∧ p) ∨ (a = true ∧ q)) : q := by
  rcases hv with ⟨h1, _⟩ | ⟨_, h2⟩
  · rw [h] at h1; cases h1
  · exact h2
/-- What the end of an act asks. -/
theorem jobsL_nil {js : Js} (h : ∀ k, js k = none) : ∀ n, jobsL js n = []
  | 0 => rfl
  | n + 1 => by
    show jobsL js n ++ (if hasJ js n = true then [((n : Int), jbAt js n)] else []) = []
    rw [jobsL_nil h n, if_neg (by unfold hasJ; rw [h n]; simp)]; rfl
theorem jobsL_none {js : Js} : ∀ {n : Nat}, jobsL js n = [] → cntT js n = 0
  | 0, _ => rfl
  | n + 1, h => by
    have h : jobsL js n ++ (if hasJ js n = true then [((n : Int), jbAt js n)] else []) = [] := h
    obtain ⟨h1, h2⟩ := List.append_eq_nil_iff.1 h
    have := jobsL_none h1
    unfold cntT
    split at h2
    · cases h2
    · simp_all
set_option maxRecDepth 100000 in
set_option maxHeartbeats 16000000 in
theorem PartModes_walk (ta sa da : Option Addr) (tn tc sn sc dn dc : Nat) (x0 x1 x2 : Int) (a1 : Option Addr) (n1 c1 : Nat) (w : World) (ts : List Tk) (ss : List Sv) (ds : List Int) (l1 : List Ad) (htn : ts.length = tn) (hsn : ss.length = sn) (hdn : ds.length = dn)
    (hts : Lies w 0 w.heap.size (.slice ta tn tc) tn 6 (ts.flatMap Tk.cells)) (hss : Lies w 0 w.heap.size (.slice sa sn sc) sn 3 (ss.flatMap Sv.cells)) (hds : Lies w 0 w.heap.size (.slice da dn dc) dn 1 (ds.flatMap intCells)) (hin : ∀ x ∈ ts, x.In) (ht2 : tn * 48 ≤ 140737488355328) (hs2 : sn * 24 ≤ 140737488355328) (hd2 : dn * 8 ≤ 140737488355328)
    (hn1 : l1.length = n1) (hl1 : Lies w 0 w.heap.size (.slice a1 n1 c1) n1 8 (l1.flatMap Ad.cells)) (ho1 : ∀ x ∈ l1, x.Ok w) :
    Calls Tryz.prog 5 #[.agg #[.slice ta tn tc, .slice sa sn sc, .slice da dn dc, .int .u8 x0, .int .u8 x1, .int .u8 x2], .slice a1 n1 c1] w fun e w' => e = .returned (.bool true) ∧ Below w.heap.size w w' := by
  obtain ⟨V, hV⟩ : ∃ V, V = w.alloc (.cells #[.slice ta tn tc, .slice sa sn sc, .slice da dn dc, .int .u8 x0, .int .u8 x1, .int .u8 x2] 27) := ⟨_, rfl⟩
  obtain ⟨E, hE⟩ : ∃ E, E = w.heap.size := ⟨_, rfl⟩
  have hEV : V.heap[E]? = some (.cells #[.slice ta tn tc, .slice sa sn sc, .slice da dn dc, .int .u8 x0, .int .u8 x1, .int .u8 x2] 27 (0, 0)) := by rw [hV, hE]; exact heap_alloc_new _ _
  have hbV : Below w.heap.size w V := by rw [hV]; exact below1 _ _
  have KS := Lib.hid (fun (Y : World) (hY : Below V.heap.size V Y) => by
    have h := (hY.block _ (lt_of_block hEV)).trans hEV
    exact (⟨cell_in h rfl, cell_in h rfl, cell_in h rfl, cell_in h rfl, cell_in h rfl, cell_in h rfl⟩ : Y.cell? ⟨E, 0, none⟩ = some (.slice ta tn tc) ∧ Y.cell? ⟨E, 1, none⟩ = some (.slice sa sn sc) ∧ Y.cell? ⟨E, 2, none⟩ = some (.slice da dn dc) ∧ Y.cell? ⟨E, 3, none⟩ = some (.int .u8 x0) ∧ Y.cell? ⟨E, 4, none⟩ = some (.int .u8 x1) ∧ Y.cell? ⟨E, 5, none⟩ = some (.int .u8 x2)))
  have hVw : w.heap.size ≤ V.heap.size := hbV.size
  have hsame : ∀ W : World, Below V.heap.size V W → SameIn w W 0 w.heap.size := fun W hb => SameIn.of_below (hbV.trans (hb.mono hVw)) (Nat.le_refl _)
  have hsize : ∀ W : World, Below V.heap.size V W → w.heap.size ≤ W.heap.size := fun W hb => Nat.le_trans hVw hb.size
  have CP := Lib.hid (fun (W : World) (hb : Below V.heap.size V W) =>
    part_wide ta sa da tn tc sn sc dn dc x0 x1 x2 W 0 w.heap.size ts ss ds htn hsn hdn (hts.keep (hsame W hb)) (hss.keep (hsame W hb)) (hds.keep (hsame W hb)) (hsize W hb) ht2 hs2 hd2)
  have CN : Hid (∀ (W : World) (ta' sa' da' : Option Addr) (tc' sc' dc' B : Nat), W.ownsRow B 111 6 (.slice ta' tn tc') tn (ts.flatMap Tk.cells) → W.ownsRow B 114 3 (.slice sa' sn sc') sn (ss.flatMap Sv.cells) →
      Calls Tryz.prog 10 #[.agg #[.slice ta' tn tc', .slice sa' sn sc', .slice da' dn dc', .int .u8 x0, .int .u8 x1, .int .u8 x2], .int .i64 0] W fun e w' => ∃ v, e = .returned (.pointer v) ∧ Hid ((okPart ts ss x0 x1 x2 0 = false ∧ v = none) ∨ (okPart ts ss x0 x1 x2 0 = true ∧ ∃ H S, v = some ⟨H, 0, none⟩ ∧ PgAt H ts ss 0 (newPx ts ss 0) w' S ∧ ∀ k, S k → W.heap.size ≤ k)) ∧ Below W.heap.size W w') := Lib.hid (fun W ta' sa' da' tc' sc' dc' B h1 h2 => by
    cases ho : okPart ts ss x0 x1 x2 0 with
    | false =>
      refine (pnew_no ta' sa' da' tn tc' sn sc' dn dc' x0 x1 x2 0 W ts ss htn hsn ((Lies.of_owns h1).wider (Nat.zero_le _) (Nat.le_refl _)) ((Lies.of_owns h2).wider (Nat.zero_le _) (Nat.le_refl _)) ho).mono ?_
      rintro e w' ⟨rfl, hb⟩
      exact ⟨none, rfl, Lib.hid (.inl ⟨rfl, rfl⟩), hb⟩
    | true =>
      refine (pnew_yes ta' sa' da' tn tc' sn sc' dn dc' x0 x1 x2 0 W ts ss htn hsn ((Lies.of_owns h1).wider (Nat.zero_le _) (Nat.le_refl _)) ((Lies.of_owns h2).wider (Nat.zero_le _) (Nat.le_refl _)) hin ho).mono ?_
      rintro e w' ⟨H, S, rfl, h3, h4, hb⟩
      exact ⟨_, rfl, Lib.hid (.inr ⟨rfl, H, S, rfl, h3, h4⟩), hb⟩)
  have CL : Hid (∀ W : World, Below V.heap.size V W → Calls Tryz.prog 8 #[.slice a1 n1 c1] W fun e w' => e = .returned (.bool (lightP l1)) ∧ Below W.heap.size W w') := Lib.hid (fun W hb => light20_any W a1 n1 c1 l1 hn1 ((hl1.keep (hsame W hb)).wider (Nat.le_refl _) (hsize W hb)) (fun x hx => ((ho1 x hx).keep (hsame W hb)).wider (Nat.le_refl _) (hsize W hb)))
  have KA := Lib.hid (fun (Y : World) (hb : Below V.heap.size V Y) => acts20_read hn1 hl1 ho1 Y (hbV.trans (hb.mono hVw)))
  have KT := Lib.hid (fun (Y : World) (hb : Below V.heap.size V Y) => tks_read htn hts Y (hbV.trans (hb.mono hVw)))
  have KO : Hid (∀ (W : World), Below V.heap.size V W → SameIn w W 0 w.heap.size ∧ w.heap.size ≤ W.heap.size) := Lib.hid (fun W hb => ⟨hsame W hb, hsize W hb⟩)
  obtain ⟨fw, hfw⟩ : ∃ fw, fw = (decide (tn ≤ 20) && (decide (sn ≤ 20) && decide (dn ≤ 20))) := ⟨_, rfl⟩
  have HFW := Lib.hid hfw.symm
  obtain ⟨lv, hlv⟩ : ∃ lv, lv = lightP l1 := ⟨_, rfl⟩
  have HLV := Lib.hid hlv.symm
  obtain ⟨z0, z1, z2, z3, z4, z5⟩ := KS.out V (Below.refl _ _)
  have HB := Lib.hid hbV
  have HV := Lib.hid hV
  have HE := Lib.hid hE
  have HTN := Lib.hid htn; have HSN := Lib.hid hsn
  have HN1 := Lib.hid hn1
  clear hts hss hds hin ht2 hs2 hd2 htn hsn hdn hn1 hl1 ho1 hsame hsize hVw hbV hEV hV hE hfw hlv
  cases fw with
  | false =>
    go_enter Tryz.func5, Tryz.ntmps5
    go_upto_region 1 with fail
    rw [← HV.out, ← HE.out]
    go_wp2_with (first
      | (go_at_call 9; have _z := hb4; refine (knows20_any _).mono ?_; rintro e w5 ⟨rfl, b5⟩; have hb5 := Lib.hid (hb4.out.trans (b5.mono hb4.out.size)); clear b5)
      | (go_at_call 7; have _z := hb3; refine (few20_any _ _ _ _ _ _ _ _ _ _ _ _ _).mono ?_; rintro e w4 ⟨rfl, b4⟩; rw [HFW.out]; have hb4 := Lib.hid (hb3.out.trans (b4.mono hb3.out.size)); clear b4)
      | (go_at_call 10; refine (CN.out _ _ _ _ _ _ _ _ HO1.out HO2.out).mono ?_; rintro e w3 ⟨v, rfl, hv, b3⟩; have hb3 := Lib.hid (hb2.out.trans (b3.mono hb2.out.size)); clear b3; obtain ⟨z0, z1, z2, z3, z4, z5⟩ := KS.out _ hb3.out)
      | (go_at_call 11; refine (CP.out V (Below.refl _ _)).mono ?_; rintro e w2 ⟨ta', tc', sa', sc', da', dc', rfl, o1, o2, _, b2⟩; have HO1 := Lib.hid o1; have HO2 := Lib.hid o2; have hb2 := Lib.hid b2; clear o1 o2 b2 z0 z1 z2 z3 z4 z5)
      | fail "no arm")
    go_ret
    exact ⟨rfl, HB.out.trans (hb5.out.mono HB.out.size)⟩
  | true =>
    cases lv with
    | false =>
      go_enter Tryz.func5, Tryz.ntmps5
      go_upto_region 1 with fail
      rw [← HV.out, ← HE.out]
      go_wp2_with (first
        | (go_at_call 9; have _z := hb5; refine (knows20_any _).mono ?_; rintro e w6 ⟨rfl, b6⟩; have hb6 := Lib.hid (hb5.out.trans (b6.mono hb5.out.size)); clear b6)
        | (go_at_call 8; have _z := hb4; refine (CL.out _ hb4.out).mono ?_; rintro e w5 ⟨rfl, b5⟩; rw [HLV.out]; have hb5 := Lib.hid (hb4.out.trans (b5.mono hb4.out.size)); clear b5)
        | (go_at_call 7; have _z := hb3; refine (few20_any _ _ _ _ _ _ _ _ _ _ _ _ _).mono ?_; rintro e w4 ⟨rfl, b4⟩; rw [HFW.out]; have hb4 := Lib.hid (hb3.out.trans (b4.mono hb3.out.size)); clear b4)
        | (go_at_call 10; refine (CN.out _ _ _ _ _ _ _ _ HO1.out HO2.out).mono ?_; rintro e w3 ⟨v, rfl, hv, b3⟩; have hb3 := Lib.hid (hb2.out.trans (b3.mono hb2.out.size)); clear b3; obtain ⟨z0, z1, z2, z3, z4, z5⟩ := KS.out _ hb3.out)
        | (go_at_call 11; refine (CP.out V (Below.refl _ _)).mono ?_; rintro e w2 ⟨ta', tc', sa', sc', da', dc', rfl, o1, o2, _, b2⟩; have HO1 := Lib.hid o1; have HO2 := Lib.hid o2; have hb2 := Lib.hid b2; clear o1 o2 b2 z0 z1 z2 z3 z4 z5)
        | fail "no arm")
      go_ret
      exact ⟨rfl, HB.out.trans (hb6.out.mono HB.out.size)⟩
    | true =>
      cases hok : okPart ts ss x0 x1 x2 0 with
      | false =>
        have HNO := Lib.hid hok
        clear hok
        go_enter Tryz.func5, Tryz.ntmps5
        go_upto_region 1 with fail
        rw [← HV.out, ← HE.out]
        go_wp2_with (first
          | (go_at_call 9; have _z := hb5; refine (knows20_any _).mono ?_; rintro e w6 ⟨rfl, b6⟩; have hb6 := Lib.hid (hb5.out.trans (b6.mono hb5.out.size)); clear b6)
          | (go_at_call 8; have _z := hb4; refine (CL.out _ hb4.out).mono ?_; rintro e w5 ⟨rfl, b5⟩; rw [HLV.out]; have hb5 := Lib.hid (hb4.out.trans (b5.mono hb4.out.size)); clear b5)
          | (go_at_call 7; have _z := hb3; refine (few20_any _ _ _ _ _ _ _ _ _ _ _ _ _).mono ?_; rintro e w4 ⟨rfl, b4⟩; rw [HFW.out]; have hb4 := Lib.hid (hb3.out.trans (b4.mono hb3.out.size)); clear b4)
          | (go_at_call 10; refine (CN.out _ _ _ _ _ _ _ _ HO1.out HO2.out).mono ?_; rintro e w3 ⟨v, rfl, hv, b3⟩; obtain rfl := or_no HNO.out hv.out; have hb3 := Lib.hid (hb2.out.trans (b3.mono hb2.out.size)); clear b3; obtain ⟨z0, z1, z2, z3, z4, z5⟩ := KS.out _ hb3.out)
          | (go_at_call 11; refine (CP.out V (Below.refl _ _)).mono ?_; rintro e w2 ⟨ta', tc', sa', sc', da', dc', rfl, o1, o2, _, b2⟩; have HO1 := Lib.hid o1; have HO2 := Lib.hid o2; have hb2 := Lib.hid b2; clear o1 o2 b2 z0 z1 z2 z3 z4 z5)
          | fail "no arm")
        go_ret
        exact ⟨rfl, HB.out.trans (hb6.out.mono HB.out.size)⟩
      | true =>
        have HNO := Lib.hid hok
        have HOP := Lib.hid (okPart_parts hok)
        have HL70 := Lib.hid (lightP_bd HLV.out)
        have hn150 : n1 ≤ 150 := by have := HL70.out.1; have := HN1.out; omega
        clear hok
        go_enter Tryz.func5, Tryz.ntmps5
        go_upto_region 1 with fail
        rw [← HV.out, ← HE.out]
        go_wp2_with (first
          | (go_at_call 9; have _z := hb5; refine (knows20_any _).mono ?_; rintro e w6 ⟨rfl, b6⟩; have hb6 := Lib.hid (hb5.out.trans (b6.mono hb5.out.size)); have q6 := Lib.hid (q5.out.trans (b6.mono q5.out.size)); clear b6)
          | (go_at_call 8; have _z := hb4; refine (CL.out _ hb4.out).mono ?_; rintro e w5 ⟨rfl, b5⟩; rw [HLV.out]; have hb5 := Lib.hid (hb4.out.trans (b5.mono hb4.out.size)); have q5 := Lib.hid (q4.out.trans (b5.mono q4.out.size)); clear b5)
          | (go_at_call 7; have _z := hb3; refine (few20_any _ _ _ _ _ _ _ _ _ _ _ _ _).mono ?_; rintro e w4 ⟨rfl, b4⟩; rw [HFW.out]; have hb4 := Lib.hid (hb3.out.trans (b4.mono hb3.out.size)); have q4 := Lib.hid b4; clear b4)
          | (go_at_call 10; refine (CN.out _ _ _ _ _ _ _ _ HO1.out HO2.out).mono ?_; rintro e w3 ⟨v, rfl, hv, b3⟩; obtain ⟨H, S, rfl, pg', ps'⟩ := or_yes HNO.out hv.out; have pg := Lib.hid pg'; have ps := Lib.hid ps'; clear pg' ps' hv; have hb3 := Lib.hid (hb2.out.trans (b3.mono hb2.out.size)); clear b3; obtain ⟨z0, z1, z2, z3, z4, z5⟩ := KS.out _ hb3.out)
          | (go_at_call 11; refine (CP.out V (Below.refl _ _)).mono ?_; rintro e w2 ⟨ta', tc', sa', sc', da', dc', rfl, o1, o2, _, b2⟩; have HO1 := Lib.hid o1; have HO2 := Lib.hid o2; have hb2 := Lib.hid b2; clear o1 o2 b2 z0 z1 z2 z3 z4 z5)
          | fail "no arm")
        have HP0 : Hid (PMo V w6 H ts ss S (newPx ts ss 0) 0 1) := Lib.hid (PMo.later ⟨⟨pg.out, pq_own _ _ _ _ _ _, fun k hk => Nat.le_trans hb2.out.size (ps.out k hk), hb3.out⟩, DsIn.newPx, pxm_newPx⟩ q6.out)
        have HSS := Lib.hid HOP.out.2.1
        clear pg ps hb3 hb2 hb4 hb5 hb6 q4 q5 q6 HO1 HO2 z0 z1 z2 z3 z4 z5
        go_loopw [6, 7] (fun s6 s7 wr => ∃ (k : Nat) (S : Nat → Prop) (x : Px) (now : Int), k ≤ n1 ∧ s6 = .int .i64 now ∧ s7 = .int .i64 k ∧ 0 ≤ now ∧ now ≤ k ∧ Hid (PMo V wr H ts ss S x now (k + 1))) (fun _ s _ => n1 - (intOf s).toNat)
        case atStart => exact ⟨0, S, _, 0, Nat.zero_le _, rfl, rfl, by omega, by omega, HP0⟩
        case round =>
          clear HP0
          obtain ⟨k, S, x, now, hk, rfl, rfl, hn0, hnk, HP⟩ := hrel
          by_cases hlt : k < n1
          · have d0 : decide ((k : Int) < (n1 : Int)) = true := decide_eq_true (by omega)
            have d1 : (0 : Int) ≤ (k : Int) := by omega
            have d2 : (k : Int) < (n1 : Int) := by omega
            obtain ⟨b, off, oa, oc, ea, ⟨k0, k1, k2, k3, k4, k5, k6, k7⟩, hb, hlo⟩ := KA.out wr HP.out.one.b k hlt
            subst ea
            have HO70 : Hid ((adAt l1 k).ops.length ≤ 70) := Lib.hid (HL70.out.2 k (by have := HN1.out; omega))
            obtain ⟨y, hy⟩ : ∃ y, y = adAt l1 k := ⟨_, rfl⟩
            rw [← hy] at k0 k1 k2 k3 k4 k5 k6 k7 hlo HO70
            obtain ⟨kd, s, nn, tk, arr, work, done, ov, ops⟩ := y
            dsimp only at k0 k1 k2 k3 k4 k5 k6 k7 hlo HO70
            obtain ⟨m, hm⟩ : ∃ m, m = ops.length := ⟨_, rfl⟩
            rw [← hm] at k7 hlo HO70
            have HMO := Lib.hid hm.symm
            have HLO := Lib.hid hlo
            clear hy hb hlo hm
            obtain ⟨V2, hV2⟩ : ∃ V2, V2 = wr.alloc (.cells #[.int .i64 kd, .int .i64 s, .int .i64 nn, .int .i64 tk, .int .i64 arr, .int .i64 work, .int .i64 done, .slice oa m oc] 45) := ⟨_, rfl⟩
            obtain ⟨E2, hE2⟩ : ∃ E2, E2 = wr.heap.size := ⟨_, rfl⟩
            have hEV2 : V2.heap[E2]? = some (.cells #[.int .i64 kd, .int .i64 s, .int .i64 nn, .int .i64 tk, .int .i64 arr, .int .i64 work, .int .i64 done, .slice oa m oc] 45 (0, 0)) := by rw [hV2, hE2]; exact heap_alloc_new _ _
            have hbwV2 : Below wr.heap.size wr V2 := by rw [hV2]; exact below1 _ _
            have HX : Hid (PMa V V2 V2 H ts ss S x now (k + 1) E2) := Lib.hid ⟨HP.out.later hbwV2, ⟨rfl, lt_of_block hEV2, fun h => by have := HP.out.one.oh.lt HP.out.one.h E2 h; omega, fun h => h⟩⟩
            have KS2 : Hid (∀ Y : World, Y.heap[E2]? = V2.heap[E2]? → Y.cell? ⟨E2, 0, none⟩ = some (.int .i64 kd) ∧ Y.cell? ⟨E2, 1, none⟩ = some (.int .i64 s) ∧ Y.cell? ⟨E2, 2, none⟩ = some (.int .i64 nn) ∧ Y.cell? ⟨E2, 3, none⟩ = some (.int .i64 tk) ∧ Y.cell? ⟨E2, 4, none⟩ = some (.int .i64 arr) ∧ Y.cell? ⟨E2, 5, none⟩ = some (.int .i64 work) ∧ Y.cell? ⟨E2, 6, none⟩ = some (.int .i64 done) ∧ Y.cell? ⟨E2, 7, none⟩ = some (.slice oa m oc)) := Lib.hid (fun Y hY => ⟨cell_in (hY.trans hEV2) rfl, cell_in (hY.trans hEV2) rfl, cell_in (hY.trans hEV2) rfl, cell_in (hY.trans hEV2) rfl, cell_in (hY.trans hEV2) rfl, cell_in (hY.trans hEV2) rfl, cell_in (hY.trans hEV2) rfl, cell_in (hY.trans hEV2) rfl⟩)
            have HV2 := Lib.hid hV2
            have HEE2 := Lib.hid hE2
            have HJB : Hid (∀ Y, Below V.heap.size V Y → Calls Tryz.prog 20 #[.agg #[.int .i64 tk, .int .i64 arr, .int .i64 work, .int .i64 done, .slice oa m oc]] Y fun e w' => ∃ ao cap, e = .returned (.agg #[.int .i64 tk, .int .i64 arr, .int .i64 work, .int .i64 done, .slice ao m cap]) ∧ Lies w' 0 w'.heap.size (.slice ao m cap) m 3 (ops.flatMap Wn.cells) ∧ Below Y.heap.size Y w') := Lib.hid (fun Y hY => (job_any Y tk arr work done oa m oc ops HMO.out ((HLO.out.keep (KO.out Y hY).1).wider (Nat.le_refl _) (KO.out Y hY).2) (by have := HO70.out; omega)).mono (by
              rintro e w' ⟨ao, cap, he, hl, hb⟩
              exact ⟨ao, cap, he, hl.wider (Nat.zero_le _) (Nat.le_refl _), hb⟩))
            have e1 : IntKind.i64.wrap (now + 1) = now + 1 := IntWalk.i64_in _ (by omega)
            clear hV2 hE2 hEV2 hbwV2 HP
            go_upto_block 2 with fail
            rw [← HV2.out, ← HEE2.out]
            clear k0 k1 k2 k3 k4 k5 k6 k7 HV2 HEE2
            obtain ⟨k0, k1, k2, k3, k4, k5, k6, k7⟩ := KS2.out V2 rfl
            go_cut [6] from 33 to 141 (fun s6 wx => ∃ (S' : Nat → Prop) (x' : Px) (now' : Int), s6 = .int .i64 now' ∧ 0 ≤ now' ∧ now' ≤ k + 1 ∧ Hid (PMa V V2 wx H ts ss S' x' now' (k + 2) E2))
            case first =>
              by_cases q0 : kd = 0 ∨ kd = 1 ∨ kd = 2
              · rcases q0 with rfl | rfl | rfl
                all_goals go_wp2_with (first
                  | (go_at_call 14; refine (pbegin_any _ H S ts ss 0 x HX.out.p.one.h HSS.out (now + 1) (by omega) (by omega) (HX.out.p.ds.by_ (by omega))).mono ?_; rintro e w9 ⟨S9, v9, rfl, _, h9', g9'⟩; have t9 := Lib.hid (HX.out.prog h9' g9' (DsIn.begX (now' := now + 1) HX.out.p.ds (by omega)) (pxm_begX HX.out.p.pm)); clear h9' g9')
                  | fail "no arm")
                all_goals go_meet
                all_goals exact ⟨S9, _, now + 1, rfl, by omega, by omega, Lib.hid (t9.out.mono (Int.le_refl _) (by omega))⟩
              · have f0 : (kd == 0) = false := by simp; omega
                have f1 : (kd == 1) = false := by simp; omega
                have f2 : (kd == 2) = false := by simp; omega
                by_cases q1 : kd = 3 ∨ kd = 4 ∨ kd = 5
                · rcases q1 with rfl | rfl | rfl
                  all_goals go_wp2_with (first
                    | (go_at_call 16; refine (prun_any _ H S ts ss 0 x HX.out.p.one.h HSS.out HX.out.p.ds.ok (fun q h1 h2 h3 => by
                        obtain ⟨i, hi, hn, hb, _⟩ := pickV_at h2
                        have : i = q := by omega
                        subst this
                        exact ⟨hi, hb⟩) (fun h2 => by obtain ⟨i, hi, hn, _⟩ := pickV_at h2; omega) pickV_no).mono ?_; rintro e w9 ⟨S9, v9, rfl, _, h9', g9'⟩; have t9 := Lib.hid (HX.out.prog h9' g9' (DsIn.runX HX.out.p.ds) (pxm_runX HX.out.p.jin HX.out.p.pm)); clear h9' g9')
                    | fail "no arm")
                  all_goals go_meet
                  all_goals exact ⟨S9, _, now, rfl, by omega, by omega, Lib.hid (t9.out.mono (Int.le_refl _) (by omega))⟩
                · have f3 : (kd == 3) = false := by simp; omega
                  have f4 : (kd == 4) = false := by simp; omega
                  have f5 : (kd == 5) = false := by simp; omega
                  by_cases q2 : kd = 6 ∨ kd = 7
                  · rcases q2 with rfl | rfl
                    all_goals go_wp2_with (first
                      | (go_at_call 19; have _z := t8; refine (parrive_any _ H S ts ss 0 x t8.out.p.one.h now tk arr work done ja m jc ops HMO.out HJL.out).mono ?_; rintro e w9 ⟨S9, rfl, h9', g9'⟩; have t9 := Lib.hid (t8.out.prog h9' g9' (DsIn.arrX t8.out.p.ds) (pxm_arrX t8.out.p.pm)); clear h9' g9')
                      | (go_at_call 20; refine (HJB.out _ HX.out.p.one.b).mono ?_; rintro e w8 ⟨ja, jc, rfl, jl', b8⟩; have HJL := Lib.hid jl'; have t8 := Lib.hid (HX.out.later b8); clear jl' b8)
                      | fail "no arm")
                    all_goals go_meet
                    all_goals exact ⟨S9, _, now, rfl, by omega, by omega, Lib.hid (t9.out.mono (Int.le_refl _) (by omega))⟩
                  · have f6 : (kd == 6) = false := by simp; omega
                    have f7 : (kd == 7) = false := by simp; omega
                    by_cases q3 : kd = 8
                    · subst q3
                      go_wp2_with (first
                        | (go_at_call 22; refine (prequest_any _ H S ts ss 0 x HX.out.p.one.h HX.out.p.ds.ok s nn (HX.out.p.low (by omega))).mono ?_; rintro e w9 ⟨S9, rfl, h9', g9'⟩; have t9 := Lib.hid (HX.out.prog h9' g9' (DsIn.reqX HX.out.p.ds (by omega)) (pxm_reqX HX.out.p.pm)); clear h9' g9')
                        | fail "no arm")
                      go_meet
                      exact ⟨S9, _, now, rfl, by omega, by omega, Lib.hid (t9.out.mono (Int.le_refl _) (by omega))⟩
                    · have f8 : (kd == 8) = false := by simpa using q3
                      by_cases q4 : kd = 9
                      · subst q4
                        go_wp2_with (first
                          | (go_at_call 24; refine (pstop_any _ H S ts ss 0 x HX.out.p.one.h HSS.out).mono ?_; rintro e w9 ⟨S9, rfl, h9', g9'⟩; have t9 := Lib.hid (HX.out.prog h9' g9' (DsIn.stopX HX.out.p.ds) (pxm_stopX _)); clear h9' g9')
                          | fail "no arm")
                        go_meet
                        exact ⟨S9, _, now, rfl, by omega, by omega, Lib.hid (t9.out.mono (Int.le_refl _) (by omega))⟩
                      · have f9 : (kd == 9) = false := by simpa using q4
                        by_cases q5 : kd = 10
                        · subst q5
                          go_wp2_with (first
                            | (go_at_call 26; refine (prestart_any _ H S ts ss 0 x HX.out.p.one.h HSS.out).mono ?_; rintro e w9 ⟨S9, rfl, h9', g9'⟩; have t9 := Lib.hid (HX.out.prog h9' g9' (DsIn.stopX HX.out.p.ds) (pxm_stopX _)); clear h9' g9')
                            | fail "no arm")
                          go_meet
                          exact ⟨S9, _, now, rfl, by omega, by omega, Lib.hid (t9.out.mono (Int.le_refl _) (by omega))⟩
                        · have f10 : (kd == 10) = false := by simpa using q5
                          go_wp2_with fail
                          go_meet
                          exact ⟨S, _, now, rfl, by omega, by omega, Lib.hid (HX.out.mono (Int.le_refl _) (by omega))⟩
            case rest =>
              clear HX k0 k1 k2 k3 k4 k5 k6 k7 HJB e1 hn0 hnk HLO HMO HO70
              obtain ⟨S', x', now', rfl, hn0, hnk, HX⟩ := hcut
              go_upto_region 29 with (first
                | (go_at_call 33; refine (pjobs_any _ H S' ts ss 0 x' HX.out.p.one.h).mono ?_; rintro e w10 ⟨v10, rfl, hj', b10⟩; obtain ⟨ja, jc, vs, rfl, jo', jm', _⟩ := hj'; have JO := Lib.hid jo'; have JM := Lib.hid jm'; have t10 := Lib.hid (HX.out.later b10); clear jo' jm' b10)
                | fail "no arm")
              obtain ⟨nv, hnv⟩ : ∃ nv, nv = vs.length := ⟨_, rfl⟩
              rw [← hnv]
              rw [← hnv] at JO
              have HNV := Lib.hid hnv.symm
              have hnv6 : nv ≤ 6 := by
                have h1 := jobsL_len x'.js ts.length
                have h2 := t10.out.p.one.h.bds.1
                rw [← JM.out, List.length_map] at h1
                omega
              clear hnv HX
              obtain ⟨hb, hhb⟩ : ∃ hb, hb = x'.hi := ⟨_, rfl⟩
              have HHC : Hid (∀ Y, PMa V V2 Y H ts ss S' x' now' (k + 2) E2 → Calls Tryz.prog 31 #[.pointer (some ⟨H, 0, none⟩)] Y fun e w' => e = .returned (.bool hb) ∧ Below Y.heap.size Y w') := Lib.hid (fun Y h => by rw [hhb]; exact phigh_any Y H S' ts ss 0 x' h.p.one.h)
              have KJ : Hid (∀ Y, Below w10.heap.size w10 Y → ∀ i, i < nv → ∃ g off q, ja = some ⟨g, off, none⟩ ∧ Y.cell? ⟨g, off + i * 5, none⟩ = some (.int .i64 (q : Nat)) ∧ q < ts.length ∧ (hb = true → (tkAt ts q).hi = true)) := Lib.hid (fun Y hY i hi => by
                have hil : i < vs.length := by rw [HNV.out]; exact hi
                have hx : vs[i]? = some (vs[i]'hil) := List.getElem?_eq_getElem hil
                obtain ⟨a', c', e, _, _, hc⟩ := ((Lies.of_owns JO.out).keep (SameIn.of_below hY (Nat.le_refl _)))
                cases e
                rcases hc with h0 | ⟨g, off, rfl, _, _, hc⟩
                · omega
                · have hm : ((vs[i]'hil).t, (vs[i]'hil).j) ∈ jobsL x'.js ts.length := by
                    rw [← JM.out]
                    exact List.mem_map.2 ⟨vs[i]'hil, List.getElem_mem _, rfl⟩
                  obtain ⟨q, e1, hq, hj⟩ := jobsL_mem hm
                  refine ⟨g, off, q, rfl, ?_, hq, fun hh => ?_⟩
                  · have := hc _ _ (flat_at Jv.cells 5 (fun _ => rfl) vs i 0 _ hx (by omega))
                    rw [← e1]
                    exact this
                  · rw [hhb] at hh
                    exact (t10.out.p.pm.hi hh).1 q _ hj)
              have HNZ : Hid (hb = true → nv ≠ 0) := Lib.hid (fun hh e0 => by
                rw [hhb] at hh
                have h1 := (t10.out.p.pm.hi hh).2
                have h2 : vs = [] := List.eq_nil_of_length_eq_zero (HNV.out.trans e0)
                have h3 := JM.out
                rw [h2] at h3
                exact h1 (jobsL_none h3.symm))
              have HDN : Hid (x'.up = false → hb = false ∧ nv = 0 ∧ (pickV ts ss x').ok = false ∧ quV ss x' s = 0) := Lib.hid (fun hd => by
                obtain ⟨h1, h2, h3⟩ := t10.out.p.pm.down hd
                refine ⟨hhb.trans h1, ?_, ?_, ?_⟩
                · have h4 := JM.out
                  rw [jobsL_nil h2, List.map_eq_nil_iff] at h4
                  rw [← HNV.out, h4]; rfl
                · unfold pickV
                  rw [if_neg (by rw [hd]; simp)]; rfl
                · unfold quV
                  split
                  · rename_i hs
                    obtain ⟨i, rfl, hi⟩ := hasS_nat hs
                    rw [Int.toNat_natCast, h3 i hi]; rfl
                  · rfl)
              clear hhb JO JM HNV
              have HB10 : Hid (Below w10.heap.size w10 w10) := Lib.hid (Below.refl _ _)
              go_wp2_with fail
              go_loopw [10] (fun s10 wr2 => ∃ i : Nat, i ≤ nv ∧ s10 = .int .i64 i ∧ Hid (PMa V V2 wr2 H ts ss S' x' now' (k + 2) E2) ∧ Hid (Below w10.heap.size w10 wr2)) (fun s _ => nv - (intOf s).toNat)
              case atStart => exact ⟨0, Nat.zero_le _, rfl, t10, HB10⟩
              case round =>
                clear t10 HB10
                obtain ⟨i, hi, rfl, HX, HY⟩ := hrel
                by_cases hli : i < nv
                · have g0 : decide ((i : Int) < (nv : Int)) = true := decide_eq_true (by omega)
                  have g1 : (0 : Int) ≤ (i : Int) := by omega
                  have g2 : (i : Int) < (nv : Int) := by omega
                  obtain ⟨g, off, q, rfl, y0, hq, hqh⟩ := KJ.out wr HY.out i hli
                  obtain ⟨bt, oft, eat, ⟨y1, _⟩, _⟩ := KT.out wr HX.out.p.one.b q (by have := HTN.out; omega)
                  subst eat
                  have hqn : q < tn := by have := HTN.out; omega
                  have g3 : (0 : Int) ≤ (q : Int) := by omega
                  have g4 : (q : Int) < (tn : Int) := by omega
                  have KQ : Hid (∀ Y, Below wr.heap.size wr Y → Y.cell? ⟨E, 0, none⟩ = some (.slice (some ⟨bt, oft, none⟩) tn tc) ∧ Y.cell? ⟨g, off + i * 5, none⟩ = some (.int .i64 (q : Nat)) ∧ Y.cell? ⟨bt, oft + q * 6, none⟩ = some (.bool (tkAt ts q).hi)) := Lib.hid (fun Y hb' => by
                    have hV' := HX.out.p.one.b.trans (hb'.mono HX.out.p.one.b.size)
                    obtain ⟨bt', oft', eat', ⟨z1, _⟩, _⟩ := KT.out Y hV' q hqn
                    obtain ⟨g', off', q', e', z2, _⟩ := KJ.out Y (HY.out.trans (hb'.mono HY.out.size)) i hli
                    cases eat'; cases e'
                    refine ⟨(KS.out Y hV').1, ?_, z1⟩
                    exact (World.cell?_of_block (hb'.block g (World.block_lt_of_cell? _ _ y0))).trans y0)
                  clear y0 y1
                  obtain ⟨th, hth⟩ : ∃ th, th = (tkAt ts q).hi := ⟨_, rfl⟩
                  rw [← hth] at KQ hqh
                  clear hth
                  cases hb with
                  | false =>
                    obtain ⟨y0, y1, y2⟩ := KQ.out wr (Below.refl _ _)
                    go_wp2_with fail
                    first | go_region_law (first
                      | (go_simp; go_at_call 31; refine (HHC.out _ (HX.out.later (Below.refl _ _).drew)).mono ?_; rintro e w11 ⟨rfl, b11⟩; have q11 := Lib.hid ((Below.refl wr.heap.size wr).drew.trans b11); have t11 := Lib.hid (HX.out.later q11.out); clear b11)
                      | fail "no arm") | fail "none"
                    all_goals go_wp2_with fail
                    all_goals go_roundw
                    all_goals first | exact ⟨i + 1, by omega, by go_num, t11, Lib.hid (HY.out.trans (q11.out.mono HY.out.size))⟩ | (simp [intOf]; omega)
                  | true =>
                    have hth1 : th = true := hqh rfl
                    subst hth1
                    go_wp2_with fail
                    go_region_held3 (fun Y => Y.cell? ⟨E, 0, none⟩ = some (.slice (some ⟨bt, oft, none⟩) tn tc) ∧ Y.cell? ⟨g, off + i * 5, none⟩ = some (.int .i64 (q : Nat)) ∧ Y.cell? ⟨bt, oft + q * 6, none⟩ = some (.bool true))
                      (first | exact KQ.out _ (Below.refl _ _) | exact KQ.out _ (Below.refl _ _).drew | exact KQ.out _ q11.out | fail "no keep")
                      (first
                      | (go_at_call 31; refine (HHC.out _ (HX.out.later (Below.refl _ _).drew)).mono ?_; rintro e w11 ⟨rfl, b11⟩; have q11 := Lib.hid ((Below.refl wr.heap.size wr).drew.trans b11); have t11 := Lib.hid (HX.out.later q11.out); clear b11)
                      | fail "no arm")
                    go_wp2_with fail
                    go_roundw
                    case rel => exact ⟨i + 1, by omega, by go_num, t11, Lib.hid (HY.out.trans (q11.out.mono HY.out.size))⟩
                    case measure => simp [intOf]; omega
                · have g0 : decide ((i : Int) < (nv : Int)) = false := decide_eq_false (by omega)
                  cases hup : x'.up with
                  | true =>
                    have HUP := Lib.hid hup
                    clear hup
                    cases hb with
                    | false =>
                      go_wp2_with (first
                        | (go_at_call 31; have _z := t12; refine (HHC.out _ t12.out).mono ?_; rintro e w14 ⟨rfl, b14⟩; have t14 := Lib.hid (t12.out.later b14); obtain ⟨k0, k1, k2, k3, k4, k5, k6, k7⟩ := KS2.out _ t14.out.a.k; clear b14)
                        | (go_at_call 30; have _z := t12; refine (pup_any _ H S' ts ss 0 x' t12.out.p.one.h).mono ?_; rintro e w13 ⟨rfl, hw13⟩; rw [hw13, HUP.out]; clear hw13)
                        | (go_at_call 28; refine (ppick_any _ H S' ts ss 0 x' HX.out.p.one.h HSS.out).mono ?_; rintro e w12 ⟨rfl, b12⟩; have t12 := Lib.hid ((HX.out.later b12).later (below1 w12 (.cells #[.bool (pickV ts ss x').sv, .int .i64 (pickV ts ss x').n] 52))); clear b12)
                        | fail "no arm")
                      go_roundw
                      case rel => exact ⟨k + 1, S', x', now', by omega, rfl, by go_num, hn0, by omega, Lib.hid ((t14.out.mono (Int.le_refl _) (by omega)).p)⟩
                      case measure => simp [intOf]; omega
                    | true =>
                      have g5 : ((nv : Int) == 0) = false := by have := HNZ.out rfl; simp; omega
                      go_wp2_with (first
                        | (go_at_call 31; have _z := t12; refine (HHC.out _ t12.out).mono ?_; rintro e w14 ⟨rfl, b14⟩; have t14 := Lib.hid (t12.out.later b14); obtain ⟨k0, k1, k2, k3, k4, k5, k6, k7⟩ := KS2.out _ t14.out.a.k; clear b14)
                        | (go_at_call 30; have _z := t12; refine (pup_any _ H S' ts ss 0 x' t12.out.p.one.h).mono ?_; rintro e w13 ⟨rfl, hw13⟩; rw [hw13, HUP.out]; clear hw13)
                        | (go_at_call 28; refine (ppick_any _ H S' ts ss 0 x' HX.out.p.one.h HSS.out).mono ?_; rintro e w12 ⟨rfl, b12⟩; have t12 := Lib.hid ((HX.out.later b12).later (below1 w12 (.cells #[.bool (pickV ts ss x').sv, .int .i64 (pickV ts ss x').n] 52))); clear b12)
                        | fail "no arm")
                      go_roundw
                      case rel => exact ⟨k + 1, S', x', now', by omega, rfl, by go_num, hn0, by omega, Lib.hid ((t14.out.mono (Int.le_refl _) (by omega)).p)⟩
                      case measure => simp [intOf]; omega
                  | false =>
                    have HUP := Lib.hid hup
                    obtain ⟨rfl, hn00, hpk, hqu⟩ := HDN.out hup
                    have HPK := Lib.hid hpk
                    have HQU := Lib.hid hqu
                    have g5 : decide ((0 : Int) < (nv : Int)) = false := decide_eq_false (by omega)
                    clear hup hpk hqu
                    go_wp2_with (first
                      | (go_at_call 31; have _z := t14; refine (HHC.out _ t14.out).mono ?_; rintro e w15 ⟨rfl, b15⟩; have t15 := Lib.hid (t14.out.later b15); clear b15)
                      | (go_at_call 35; have _z := t14; refine (pqueue_any _ H S' ts ss 0 x' t14.out.p.one.h s).mono ?_; rintro e w16 ⟨rfl, hw16⟩; rw [hw16, HQU.out]; clear hw16)
                      | (go_at_call 31; have _z := t12; refine (HHC.out _ t12.out).mono ?_; rintro e w14 ⟨rfl, b14⟩; have t14 := Lib.hid (t12.out.later b14); obtain ⟨k0, k1, k2, k3, k4, k5, k6, k7⟩ := KS2.out _ t14.out.a.k; clear b14)
                      | (go_at_call 30; have _z := t12; refine (pup_any _ H S' ts ss 0 x' t12.out.p.one.h).mono ?_; rintro e w13 ⟨rfl, hw13⟩; rw [hw13, HUP.out]; clear hw13)
                      | (go_at_call 28; refine (ppick_any _ H S' ts ss 0 x' HX.out.p.one.h HSS.out).mono ?_; rintro e w12 ⟨rfl, b12⟩; rw [HPK.out]; have t12 := Lib.hid ((HX.out.later b12).later (below1 w12 (.cells #[.bool (pickV ts ss x').sv, .int .i64 (pickV ts ss x').n] 52))); clear b12)
                      | fail "no arm")
                    go_roundw
                    case rel => exact ⟨k + 1, S', x', now', by omega, rfl, by go_num, hn0, by omega, Lib.hid ((t15.out.mono (Int.le_refl _) (by omega)).p)⟩
                    case measure => simp [intOf]; omega
          · have d0 : decide ((k : Int) < (n1 : Int)) = false := decide_eq_false (by omega)
            go_wp2_with fail
            go_ret
            exact ⟨rfl, HB.out.trans (HP.out.one.b.mono HB.out.size)⟩
end Go.Proofs.YtchbehnkkcjdgaaGreat
