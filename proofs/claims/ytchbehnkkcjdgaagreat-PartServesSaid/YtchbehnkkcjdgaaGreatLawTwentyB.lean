/- PartServes. -/
import Derived.Test.YtchbehnkkcjdgaaGreatPlains
import Derived.Test.YtchbehnkkcjdgaaGreatServF
import Derived.Test.YtchbehnkkcjdgaaGreatPartA
import Derived.Test.YtchbehnkkcjdgaaGreatPartF
import Derived.Test.YtchbehnkkcjdgaaGreatCopy
import Derived.Test.YtchbehnkkcjdgaaGreatActs20
import Derived.Test.YtchbehnkkcjdgaaGreatTaskJ
import Derived.Test.YtchbehnkkcjdgaaGreatTks
import Derived.BigQuiet
import Derived.Deep.CutRange
import Derived.Deep.CutBlock
namespace Go.Proofs.YtchbehnkkcjdgaaGreat
open Go.ChangeShapes Go.WideShapes Go.ChangeAt Go.RowKit
set_option linter.unusedVariables false
set_option linter.unusedSimpArgs false
/-- A thing whose blocks are younger than w. -/
structure OneB (w wx : World) (P : Own) (S : Nat → Prop) : Prop where
 h : P wx S
 oh : OwnP P
 sb : ∀ k, S k → w.heap.size ≤ k
 b : Below w.heap.size w wx
section
variable {w wx Y : World} {P P' : Own} {S S' : Nat → Prop}
theorem OneB.later (t : OneB w wx P S) (hb : Below wx.heap.size wx Y) : OneB w Y P S := ⟨t.oh.later t.h hb, t.oh, t.sb, t.b.trans (hb.mono t.b.size)⟩
theorem OneB.prog (t : OneB w wx P S) (h : P' Y S') (g : GrowS S S' wx Y) (o : OwnP P') : OneB w Y P' S' := ⟨h, o, (g.step t.b t.sb).2, (g.step t.b t.sb).1⟩
end
/-- A partition in the midst of its acts; h: what ran. -/
structure PSo (w wx : World) (H : Nat) (ts : List Tk) (ss : List Sv) (q : Nat) (S : Nat → Prop) (x : Px) (L now m : Int) (h : Hs) : Prop where
 one : OneB w wx (PgAt H ts ss 0 x) S
 ds : DsIn ss.length now m x.ds
 inv : SvI ts ss q x L h
section
variable {w wx Y : World} {H : Nat} {ts : List Tk} {ss : List Sv} {q : Nat} {S S' : Nat → Prop} {x x' : Px} {L L' now now' m m' : Int} {h h' : Hs}
theorem PSo.later (t : PSo w wx H ts ss q S x L now m h) (hb : Below wx.heap.size wx Y) : PSo w Y H ts ss q S x L now m h := ⟨t.one.later hb, t.ds, t.inv⟩
theorem PSo.mono (t : PSo w wx H ts ss q S x L now m h) (h1 : now ≤ now') (h2 : m ≤ m') : PSo w wx H ts ss q S x L now' m' h := ⟨t.one, t.ds.mono h1 h2, t.inv⟩
theorem PSo.prog (t : PSo w wx H ts ss q S x L now m h) (hp : PgAt H ts ss 0 x' Y S') (g : GrowS S S' wx Y) (hd : DsIn ss.length now' m' x'.ds) (hi : SvI ts ss q x' L' h') : PSo w Y H ts ss q S' x' L' now' m' h' := ⟨t.one.prog hp g (pq_own _ _ _ _ _ _), hd, hi⟩
theorem PSo.low (t : PSo w wx H ts ss q S x L now m h) (hm : m ≤ 1099511627776) : DsLow ss.length 1099511627776 x.ds := fun i hi => Int.le_trans (t.ds i hi).low hm
end
/-- Is a request pending; asked: since when, or -1. -/
def AsOk (ss : List Sv) (q : Nat) (x : Px) (work now asked id given : Int) : Prop :=
 (asked = -1 ∧ (x.ds q).q = [] ∧ (x.ds q).first = given + 1) ∨ (0 ≤ asked ∧ id = given ∧ Pnd ss q x asked work now id)
theorem AsOk.arr {ts : List Tk} {ss : List Sv} {q : Nat} {x : Px} {work now asked id given : Int} (A : AsOk ss q x work now asked id given) {a t w done : Int} {ops : List Wn} : AsOk ss q (arrX ts x a t w done ops) work now asked id given := by
 rcases A with ⟨h1, h2, h3⟩ | ⟨h1, h2, h3⟩
 ·exact .inl ⟨h1, by rw [arr_desk]; exact h2, by rw [arr_desk]; exact h3⟩
 ·exact .inr ⟨h1, h2, h3.arr⟩
/-- Has the end of the request been seen among the first events? -/
def seenE (E : List Wn) (q id : Int) (i : Nat) : Bool := (E.take i).any fun ev => ev.at_ == 6 && ev.len == q && ev.part == id
theorem seen_step {E : List Wn} {q id : Int} {i : Nat} (hi : i < E.length) : seenE E q id (i + 1) = (seenE E q id i || ((E[i]).at_ == 6 && (E[i]).len == q && (E[i]).part == id)) := by
 unfold seenE
 rw [List.take_succ_eq_append_getElem hi, List.any_append]
 simp
theorem seen_all {E : List Wn} {q id : Int} : seenE E q id E.length = true ↔ (⟨6, q, id⟩ : Wn) ∈ E := by
 unfold seenE
 rw [List.take_length, List.any_eq_true]
 constructor
 ·rintro ⟨ev, he, hc⟩
  simp only [Bool.and_eq_true, beq_iff_eq] at hc
  obtain ⟨a, b, c⟩ := ev
  obtain ⟨⟨rfl, rfl⟩, rfl⟩ := hc
  exact he
 ·intro he
  exact ⟨_, he, by simp⟩
theorem rem_in (n : Int) (N : Nat) (h1 : 1 ≤ N) (h2 : N ≤ 200) : ∃ k : Nat, k < N ∧ ((wrap64 (n.tmod N + N)).tmod N = k) := by
 have a := Int.tmod_lt_of_pos n (show (0 : Int) < N by omega)
 have b := Int.lt_tmod_of_pos n (show (0 : Int) < N by omega)
 have hp : 0 ≤ n.tmod N + N := by omega
 rw [IntWalk.wrap64_in (n.tmod N + N) ⟨by omega, by omega⟩]
 refine ⟨((n.tmod N + N).tmod N).toNat, ?_, ?_⟩
 ·have := Int.tmod_lt_of_pos (n.tmod N + N) (show (0 : Int) < N by omega)
  have := Int.tmod_nonneg N hp
  omega
 ·have := Int.tmod_nonneg N hp
  omega
theorem orB_no {a : Bool} {p q : Prop} (h : a = false) (hv : (a = false ∧ p) ∨ (a = true ∧ q)) : p := by
 rcases hv with ⟨_, h2⟩ | ⟨h1, _⟩
 ·exact h2
 ·rw [h] at h1; cases h1
theorem orB_yes {a : Bool} {p q : Prop} (h : a = true) (hv : (a = false ∧ p) ∨ (a = true ∧ q)) : q := by
 rcases hv with ⟨h1, _⟩ | ⟨_, h2⟩
 ·rw [h] at h1; cases h1
 ·exact h2
theorem below_drewB2 {B : Nat} {a w : World} (d : Nat) (h : Below B a w) : Below B a (w.drewN d) := ⟨h.os, h.tape, h.output, h.size, h.block⟩
theorem tick_as {ss : List Sv} {q : Nat} {x x2 : Px} {E : List Wn} {work now asked id given : Int} (A : AsOk ss q x work now asked id given)
 (T1 : (x.ds q).q = [] → (x2.ds q).q = [] ∧ (x2.ds q).first = (x.ds q).first ∧ ∀ ev ∈ E, ev.at_ ≠ 6)
 (T2 : ∀ ak work id, Pnd ss q x ak work now id → (∀ ev ∈ E, ev.at_ = 6 → ev = ⟨6, q, id⟩) ∧ (((⟨6, q, id⟩ : Wn) ∈ E ∧ (x2.ds q).q = [] ∧ (x2.ds q).first = id + 1) ∨ ((⟨6, q, id⟩ : Wn) ∉ E ∧ Pnd ss q x2 ak work (now + 1) id))) :
 AsOk ss q x2 work (now + 1) (if seenE E q id E.length = true then -1 else asked) id given := by
 rcases A with ⟨h1, h2, h3⟩ | ⟨h1, h2, h3⟩
 ·obtain ⟨a, b, c⟩ := T1 h2
  exact .inl ⟨by split <;> simp [h1], a, b.trans h3⟩
 ·obtain ⟨_, h⟩ := T2 asked work id h3
  rcases h with ⟨a, b, c⟩ | ⟨a, b⟩
  ·rw [if_pos (seen_all.2 a)]
   exact .inl ⟨rfl, b, by rw [c, h2]⟩
  ·rw [if_neg (fun e => a (seen_all.1 e))]
   exact .inr ⟨h1, h2, b⟩
theorem no_rose {E : List Wn} (h : ∀ j (hj : j < E.length), (E[j]).at_ ≠ 3) : (⟨3, 0, 0⟩ : Wn) ∉ E := fun hm => by
 obtain ⟨j, hj, e⟩ := List.getElem_of_mem hm
 exact h j hj (by rw [e])
/-- In the midst of a tick's events. -/
inductive EvL (W : World) (E : List Wn) (q id asked : Int) (nE : Nat) (s12 s19 : Value) (wr : World) : Prop
 | mk (i : Nat) (as' : Int) (hi : i ≤ nE) (h12 : s12 = .int .i64 as') (h19 : s19 = .int .i64 i) (hw : wr = W) (hs : Hid (as' = if seenE E q id i = true then -1 else asked)) (hn : Hid (∀ j (hj : j < E.length), j < i → (E[j]).at_ ≠ 3)) : EvL W E q id asked nE s12 s19 wr
theorem setE_len (ts : List Tk) (x : Px) : (setE ts x).length ≤ 1 := by unfold setE; split <;> simp
theorem runE_len (ts : List Tk) (ss : List Sv) (x : Px) : (runE ts ss x).length ≤ ts.length + 2 := by
 unfold runE
 split
 ·split
  ·unfold runSE; split <;> simp
  ·unfold runJE
   split
   ·have := setE_len ts (jobX ts x (pickV ts ss x).n); simp; omega
   ·split
    ·have := setE_len ts (jobX ts x (pickV ts ss x).n); simp; omega
    ·split
     ·unfold risE evK riseL
      have := lis_len (lowP ts) (jobX ts x (pickV ts ss x).n).js ts.length
      simp; omega
     ·simp
 ·simp
theorem six_at {a b c : Value} {x0 x1 x2 : Int} {t : TypeId} (w Y : World) (hY : Below (w.alloc (.cells #[a, b, c, .int .u8 x0, .int .u8 x1, .int .u8 x2] t)).heap.size (w.alloc (.cells #[a, b, c, .int .u8 x0, .int .u8 x1, .int .u8 x2] t)) Y) : Y.cell? ⟨w.heap.size, 0, none⟩ = some a ∧ Y.cell? ⟨w.heap.size, 1, none⟩ = some b ∧ Y.cell? ⟨w.heap.size, 2, none⟩ = some c ∧ Y.cell? ⟨w.heap.size, 3, none⟩ = some (.int .u8 x0) ∧ Y.cell? ⟨w.heap.size, 4, none⟩ = some (.int .u8 x1) ∧ Y.cell? ⟨w.heap.size, 5, none⟩ = some (.int .u8 x2) := by
 have h := (hY.block w.heap.size (by simp)).trans (heap_alloc_new w _)
 exact ⟨cell_in h rfl, cell_in h rfl, cell_in h rfl, cell_in h rfl, cell_in h rfl, cell_in h rfl⟩
set_option maxRecDepth 100000 in
set_option maxHeartbeats 16000000 in
theorem PartServes_walk (ta sa da : Option Addr) (tn tc sn sc dn dc : Nat) (x0 x1 x2 : Int) (a1 : Option Addr) (n1 c1 : Nat) (work s : Int) (w : World) (ts : List Tk) (ss : List Sv) (ds : List Int) (l1 : List Ad) (htn : ts.length = tn) (hsn : ss.length = sn) (hdn : ds.length = dn)
 (hts : Lies w 0 w.heap.size (.slice ta tn tc) tn 6 (ts.flatMap Tk.cells)) (hss : Lies w 0 w.heap.size (.slice sa sn sc) sn 3 (ss.flatMap Sv.cells)) (hds : Lies w 0 w.heap.size (.slice da dn dc) dn 1 (ds.flatMap intCells)) (hin : ∀ x ∈ ts, x.In) (ht2 : tn * 48 ≤ 140737488355328) (hs2 : sn * 24 ≤ 140737488355328) (hd2 : dn * 8 ≤ 140737488355328)
 (hn1 : l1.length = n1) (hl1 : Lies w 0 w.heap.size (.slice a1 n1 c1) n1 8 (l1.flatMap Ad.cells)) (ho1 : ∀ x ∈ l1, x.Ok w) (hwk : I64 work) (hsk : I64 s) :
 Calls Tryz.prog 4 #[.agg #[.slice ta tn tc, .slice sa sn sc, .slice da dn dc, .int .u8 x0, .int .u8 x1, .int .u8 x2], .slice a1 n1 c1, .int .i64 work, .int .i64 s] w fun e w' => e = .returned (.bool true) ∧ Below w.heap.size w w' := by
 obtain ⟨V, hV⟩ : ∃ V, V = w.alloc (.cells #[.slice ta tn tc, .slice sa sn sc, .slice da dn dc, .int .u8 x0, .int .u8 x1, .int .u8 x2] 27) := ⟨_, rfl⟩
 obtain ⟨E, hE⟩ : ∃ E, E = w.heap.size := ⟨_, rfl⟩
 have hEV : V.heap[E]? = some (.cells #[.slice ta tn tc, .slice sa sn sc, .slice da dn dc, .int .u8 x0, .int .u8 x1, .int .u8 x2] 27 (0, 0)) := by rw [hV, hE]; exact heap_alloc_new _ _
 have hbV : Below w.heap.size w V := by rw [hV]; exact below1 _ _
 have KS := Lib.hid (fun (Y : World) (hY : Below V.heap.size V Y) => by
  have h := (hY.block _ (lt_of_block hEV)).trans hEV
  exact (⟨cell_in h rfl, cell_in h rfl, cell_in h rfl, cell_in h rfl, cell_in h rfl, cell_in h rfl⟩ : Y.cell? ⟨E, 0, none⟩ = some (.slice ta tn tc) ∧ Y.cell? ⟨E, 1, none⟩ = some (.slice sa sn sc) ∧ Y.cell? ⟨E, 2, none⟩ = some (.slice da dn dc) ∧ Y.cell? ⟨E, 3, none⟩ = some (.int .u8 x0) ∧ Y.cell? ⟨E, 4, none⟩ = some (.int .u8 x1) ∧ Y.cell? ⟨E, 5, none⟩ = some (.int .u8 x2)))
 have hVw : w.heap.size ≤ V.heap.size := hbV.size
 have hsame : ∀ W : World, Below V.heap.size V W → SameIn w W 0 w.heap.size := fun W hb => SameIn.of_below (hbV.trans (hb.mono hVw)) (Nat.le_refl _)
 have hsize : ∀ W : World, Below V.heap.size V W → w.heap.size ≤ W.heap.size := fun W hb => Nat.le_trans hVw hb.size
 have CP := Lib.hid (fun (W : World) (hb : Below V.heap.size V W) =>
  part_wide ta sa da tn tc sn sc dn dc x0 x1 x2 W 0 w.heap.size ts ss ds htn hsn hdn (hts.keep (hsame W hb)) (hss.keep (hsame W hb)) (hds.keep (hsame W hb)) (hsize W hb) ht2 hs2 hd2)
 have CN : Hid (∀ (W : World) (ta' sa' da' : Option Addr) (tc' sc' dc' B : Nat), W.ownsRow B 111 6 (.slice ta' tn tc') tn (ts.flatMap Tk.cells) → W.ownsRow B 114 3 (.slice sa' sn sc') sn (ss.flatMap Sv.cells) → ∀ Y, Below W.heap.size W Y →
  Calls Tryz.prog 10 #[.agg #[.slice ta' tn tc', .slice sa' sn sc', .slice da' dn dc', .int .u8 x0, .int .u8 x1, .int .u8 x2], .int .i64 0] Y fun e w' => ∃ v, e = .returned (.pointer v) ∧ Hid ((okPart ts ss x0 x1 x2 0 = false ∧ v = none) ∨ (okPart ts ss x0 x1 x2 0 = true ∧ ∃ H S, v = some ⟨H, 0, none⟩ ∧ PgAt H ts ss 0 (newPx ts ss 0) w' S ∧ ∀ k, S k → Y.heap.size ≤ k)) ∧ Below Y.heap.size Y w') := Lib.hid (fun W ta' sa' da' tc' sc' dc' B h1 h2 Y hY => by
  have l1 := (((Lies.of_owns h1).wider (Nat.zero_le _) (Nat.le_refl _)).keep (SameIn.of_below hY (Nat.le_refl _))).wider (Nat.le_refl _) hY.size
  have l2 := (((Lies.of_owns h2).wider (Nat.zero_le _) (Nat.le_refl _)).keep (SameIn.of_below hY (Nat.le_refl _))).wider (Nat.le_refl _) hY.size
  cases ho : okPart ts ss x0 x1 x2 0 with
  | false =>
    refine (pnew_no ta' sa' da' tn tc' sn sc' dn dc' x0 x1 x2 0 Y ts ss htn hsn l1 l2 ho).mono ?_
    rintro e w' ⟨rfl, hb⟩
    exact ⟨none, rfl, Lib.hid (.inl ⟨rfl, rfl⟩), hb⟩
  | true =>
    refine (pnew_yes ta' sa' da' tn tc' sn sc' dn dc' x0 x1 x2 0 Y ts ss htn hsn l1 l2 hin ho).mono ?_
    rintro e w' ⟨H, S, rfl, h3, h4, hb⟩
    exact ⟨_, rfl, Lib.hid (.inr ⟨rfl, H, S, rfl, h3, h4⟩), hb⟩)
 have CL : Hid (∀ W : World, Below V.heap.size V W → Calls Tryz.prog 8 #[.slice a1 n1 c1] W fun e w' => e = .returned (.bool (lightP l1)) ∧ Below W.heap.size W w') := Lib.hid (fun W hb => light20_any W a1 n1 c1 l1 hn1 ((hl1.keep (hsame W hb)).wider (Nat.le_refl _) (hsize W hb)) (fun x hx => ((ho1 x hx).keep (hsame W hb)).wider (Nat.le_refl _) (hsize W hb)))
 have KA := Lib.hid (fun (Y : World) (hb : Below V.heap.size V Y) => acts20_read hn1 hl1 ho1 Y (hbV.trans (hb.mono hVw)))
 have KV := Lib.hid (fun (Y : World) (hb : Below V.heap.size V Y) => svs_read hsn hss Y (hbV.trans (hb.mono hVw)))
 have CF : Hid (∀ (W : World) (ta' sa' da' : Option Addr) (tc' sc' dc' B : Nat), W.ownsRow B 111 6 (.slice ta' tn tc') tn (ts.flatMap Tk.cells) → W.ownsRow B 114 3 (.slice sa' sn sc') sn (ss.flatMap Sv.cells) → tn ≤ 20 → sn ≤ 20 → ∀ Y, Below W.heap.size W Y →
  Calls Tryz.prog 36 #[.agg #[.slice ta' tn tc', .slice sa' sn sc', .slice da' dn dc', .int .u8 x0, .int .u8 x1, .int .u8 x2]] Y fun e w' => ∃ fb, e = .returned (.bool fb) ∧ Hid (fb = true → FitB ⟨ts, ss, [], x0, x1, x2⟩) ∧ Below Y.heap.size Y w') := Lib.hid (fun W ta' sa' da' tc' sc' dc' B h1 h2 g1 g2 Y hY => fits_any ta' sa' da' tn tc' sn sc' dn dc' x0 x1 x2 Y W.heap.size ⟨ts, ss, [], x0, x1, x2⟩ ⟨htn, hsn, ((Lies.of_owns h1).wider (Nat.zero_le _) (Nat.le_refl _)).keep (SameIn.of_below hY (Nat.le_refl _)), ((Lies.of_owns h2).wider (Nat.zero_le _) (Nat.le_refl _)).keep (SameIn.of_below hY (Nat.le_refl _)), hY.size⟩ g1 g2)
 have KO : Hid (∀ (W : World), Below V.heap.size V W → SameIn w W 0 w.heap.size ∧ w.heap.size ≤ W.heap.size) := Lib.hid (fun W hb => ⟨hsame W hb, hsize W hb⟩)
 obtain ⟨fw, hfw⟩ : ∃ fw, fw = (decide (tn ≤ 20) && (decide (sn ≤ 20) && decide (dn ≤ 20))) := ⟨_, rfl⟩
 have HFW := Lib.hid hfw.symm
 obtain ⟨lv, hlv⟩ : ∃ lv, lv = lightP l1 := ⟨_, rfl⟩
 have HLV := Lib.hid hlv.symm
 obtain ⟨z0, z1, z2, z3, z4, z5⟩ := KS.out V (Below.refl _ _)
 have HB := Lib.hid hbV
 have HV := Lib.hid hV
 have HE := Lib.hid hE
 have HTN := Lib.hid htn; have HSN := Lib.hid hsn
 have HN1 := Lib.hid hn1
 have HSK := Lib.hid hsk; have HWK := Lib.hid hwk
 clear hts hss hds hin hwk hsk ht2 hs2 hd2 htn hsn hdn hn1 hl1 ho1 hsame hsize hVw hbV hEV hV hE hfw hlv
 cases fw with
 | false =>
   go_enter Tryz.func4, Tryz.ntmps4
   go_upto_region 1 with fail
   rw [← HV.out, ← HE.out]
   go_wp2_with (first
    | (go_at_call 9; have _z := hb4; refine (knows20_any _).mono ?_; rintro e w7 ⟨rfl, b7⟩; have hb7 := Lib.hid (hb4.out.trans (b7.mono hb4.out.size)); have Q7 := Lib.hid (Q4.out.trans (b7.mono Q4.out.size)); obtain ⟨z0, z1, z2, z3, z4, z5⟩ := KS.out _ hb7.out; clear b7)
    | (go_at_call 7; have _z := hb3; refine (few20_any _ _ _ _ _ _ _ _ _ _ _ _ _).mono ?_; rintro e w4 ⟨rfl, b4⟩; rw [HFW.out]; have hb4 := Lib.hid (hb3.out.trans (b4.mono hb3.out.size)); have HX4 := Lib.hid (HX3.out.trans (b4.mono HX3.out.size)); have Q4 := Lib.hid b4; clear b4)
    | (go_at_call 10; refine (CN.out _ _ _ _ _ _ _ _ HO1.out HO2.out _ HBX.out).mono ?_; rintro e w3 ⟨v, rfl, hv, b3⟩; have hb3 := Lib.hid (hb2.out.trans (b3.mono hb2.out.size)); have HX3 := Lib.hid b3; clear b3; obtain ⟨z0, z1, z2, z3, z4, z5⟩ := KS.out _ hb3.out)
    | (go_at_call 11; refine (CP.out V (Below.refl _ _)).mono ?_; rintro e w2 ⟨ta', tc', sa', sc', da', dc', rfl, o1, o2, _, b2⟩; have HO1 := Lib.hid o1; have HO2 := Lib.hid o2; have hb2 : Hid (Below V.heap.size V (w2.alloc (.cells #[.slice ta' tn tc', .slice sa' sn sc', .slice da' dn dc', .int .u8 x0, .int .u8 x1, .int .u8 x2] 37))) := Lib.hid (b2.alloc b2.size _); have HBX : Hid (Below w2.heap.size w2 (w2.alloc (.cells #[.slice ta' tn tc', .slice sa' sn sc', .slice da' dn dc', .int .u8 x0, .int .u8 x1, .int .u8 x2] 37))) := Lib.hid (below1 _ _); have KX := Lib.hid (fun (Y : World) (hY : Below (w2.alloc (.cells #[.slice ta' tn tc', .slice sa' sn sc', .slice da' dn dc', .int .u8 x0, .int .u8 x1, .int .u8 x2] 37)).heap.size (w2.alloc (.cells #[.slice ta' tn tc', .slice sa' sn sc', .slice da' dn dc', .int .u8 x0, .int .u8 x1, .int .u8 x2] 37)) Y) => six_at w2 Y hY); obtain ⟨y0, y1, y2, y3, y4, y5⟩ := KX.out _ (Below.refl _ _); clear o1 o2 b2 z0 z1 z2 z3 z4 z5)
    | fail "no arm")
   all_goals go_ret
   all_goals exact ⟨rfl, HB.out.trans (hb7.out.mono HB.out.size)⟩
 | true =>
   cases lv with
   | false =>
     go_enter Tryz.func4, Tryz.ntmps4
     go_upto_region 1 with fail
     rw [← HV.out, ← HE.out]
     go_wp2_with (first
      | (go_at_call 9; have _z := hb5; refine (knows20_any _).mono ?_; rintro e w7 ⟨rfl, b7⟩; have hb7 := Lib.hid (hb5.out.trans (b7.mono hb5.out.size)); have Q7 := Lib.hid (Q5.out.trans (b7.mono Q5.out.size)); obtain ⟨z0, z1, z2, z3, z4, z5⟩ := KS.out _ hb7.out; clear b7)
      | (go_at_call 8; have _z := hb4; refine (CL.out _ hb4.out).mono ?_; rintro e w5 ⟨rfl, b5⟩; rw [HLV.out]; have hb5 := Lib.hid (hb4.out.trans (b5.mono hb4.out.size)); have HX5 := Lib.hid (HX4.out.trans (b5.mono HX4.out.size)); have Q5 := Lib.hid (Q4.out.trans (b5.mono Q4.out.size)); obtain ⟨y0, y1, y2, y3, y4, y5⟩ := KX.out _ HX5.out; clear b5)
      | (go_at_call 7; have _z := hb3; refine (few20_any _ _ _ _ _ _ _ _ _ _ _ _ _).mono ?_; rintro e w4 ⟨rfl, b4⟩; rw [HFW.out]; have hb4 := Lib.hid (hb3.out.trans (b4.mono hb3.out.size)); have HX4 := Lib.hid (HX3.out.trans (b4.mono HX3.out.size)); have Q4 := Lib.hid b4; clear b4)
      | (go_at_call 10; refine (CN.out _ _ _ _ _ _ _ _ HO1.out HO2.out _ HBX.out).mono ?_; rintro e w3 ⟨v, rfl, hv, b3⟩; have hb3 := Lib.hid (hb2.out.trans (b3.mono hb2.out.size)); have HX3 := Lib.hid b3; clear b3; obtain ⟨z0, z1, z2, z3, z4, z5⟩ := KS.out _ hb3.out)
      | (go_at_call 11; refine (CP.out V (Below.refl _ _)).mono ?_; rintro e w2 ⟨ta', tc', sa', sc', da', dc', rfl, o1, o2, _, b2⟩; have HO1 := Lib.hid o1; have HO2 := Lib.hid o2; have hb2 : Hid (Below V.heap.size V (w2.alloc (.cells #[.slice ta' tn tc', .slice sa' sn sc', .slice da' dn dc', .int .u8 x0, .int .u8 x1, .int .u8 x2] 37))) := Lib.hid (b2.alloc b2.size _); have HBX : Hid (Below w2.heap.size w2 (w2.alloc (.cells #[.slice ta' tn tc', .slice sa' sn sc', .slice da' dn dc', .int .u8 x0, .int .u8 x1, .int .u8 x2] 37))) := Lib.hid (below1 _ _); have KX := Lib.hid (fun (Y : World) (hY : Below (w2.alloc (.cells #[.slice ta' tn tc', .slice sa' sn sc', .slice da' dn dc', .int .u8 x0, .int .u8 x1, .int .u8 x2] 37)).heap.size (w2.alloc (.cells #[.slice ta' tn tc', .slice sa' sn sc', .slice da' dn dc', .int .u8 x0, .int .u8 x1, .int .u8 x2] 37)) Y) => six_at w2 Y hY); obtain ⟨y0, y1, y2, y3, y4, y5⟩ := KX.out _ (Below.refl _ _); clear o1 o2 b2 z0 z1 z2 z3 z4 z5)
      | fail "no arm")
     all_goals go_ret
     all_goals exact ⟨rfl, HB.out.trans (hb7.out.mono HB.out.size)⟩
   | true =>
     cases hok : okPart ts ss x0 x1 x2 0 with
     | false =>
       have HNO := Lib.hid hok
       clear hok
       go_enter Tryz.func4, Tryz.ntmps4
       go_upto_region 1 with fail
       rw [← HV.out, ← HE.out]
       go_wp2_with (first
        | (go_at_call 9; have _z := hb5; refine (knows20_any _).mono ?_; rintro e w7 ⟨rfl, b7⟩; have hb7 := Lib.hid (hb5.out.trans (b7.mono hb5.out.size)); have Q7 := Lib.hid (Q5.out.trans (b7.mono Q5.out.size)); obtain ⟨z0, z1, z2, z3, z4, z5⟩ := KS.out _ hb7.out; clear b7)
        | (go_at_call 8; have _z := hb4; refine (CL.out _ hb4.out).mono ?_; rintro e w5 ⟨rfl, b5⟩; rw [HLV.out]; have hb5 := Lib.hid (hb4.out.trans (b5.mono hb4.out.size)); have HX5 := Lib.hid (HX4.out.trans (b5.mono HX4.out.size)); have Q5 := Lib.hid (Q4.out.trans (b5.mono Q4.out.size)); obtain ⟨y0, y1, y2, y3, y4, y5⟩ := KX.out _ HX5.out; clear b5)
        | (go_at_call 7; have _z := hb3; refine (few20_any _ _ _ _ _ _ _ _ _ _ _ _ _).mono ?_; rintro e w4 ⟨rfl, b4⟩; rw [HFW.out]; have hb4 := Lib.hid (hb3.out.trans (b4.mono hb3.out.size)); have HX4 := Lib.hid (HX3.out.trans (b4.mono HX3.out.size)); have Q4 := Lib.hid b4; clear b4)
        | (go_at_call 10; refine (CN.out _ _ _ _ _ _ _ _ HO1.out HO2.out _ HBX.out).mono ?_; rintro e w3 ⟨v, rfl, hv, b3⟩; obtain rfl := orB_no HNO.out hv.out; have hb3 := Lib.hid (hb2.out.trans (b3.mono hb2.out.size)); have HX3 := Lib.hid b3; clear b3; obtain ⟨z0, z1, z2, z3, z4, z5⟩ := KS.out _ hb3.out)
        | (go_at_call 11; refine (CP.out V (Below.refl _ _)).mono ?_; rintro e w2 ⟨ta', tc', sa', sc', da', dc', rfl, o1, o2, _, b2⟩; have HO1 := Lib.hid o1; have HO2 := Lib.hid o2; have hb2 : Hid (Below V.heap.size V (w2.alloc (.cells #[.slice ta' tn tc', .slice sa' sn sc', .slice da' dn dc', .int .u8 x0, .int .u8 x1, .int .u8 x2] 37))) := Lib.hid (b2.alloc b2.size _); have HBX : Hid (Below w2.heap.size w2 (w2.alloc (.cells #[.slice ta' tn tc', .slice sa' sn sc', .slice da' dn dc', .int .u8 x0, .int .u8 x1, .int .u8 x2] 37))) := Lib.hid (below1 _ _); have KX := Lib.hid (fun (Y : World) (hY : Below (w2.alloc (.cells #[.slice ta' tn tc', .slice sa' sn sc', .slice da' dn dc', .int .u8 x0, .int .u8 x1, .int .u8 x2] 37)).heap.size (w2.alloc (.cells #[.slice ta' tn tc', .slice sa' sn sc', .slice da' dn dc', .int .u8 x0, .int .u8 x1, .int .u8 x2] 37)) Y) => six_at w2 Y hY); obtain ⟨y0, y1, y2, y3, y4, y5⟩ := KX.out _ (Below.refl _ _); clear o1 o2 b2 z0 z1 z2 z3 z4 z5)
        | fail "no arm")
       all_goals go_ret
       all_goals exact ⟨rfl, HB.out.trans (hb7.out.mono HB.out.size)⟩
     | true =>
       have HNO := Lib.hid hok
       have HOP := Lib.hid (okPart_parts hok)
       have HL70 := Lib.hid (lightP_bd HLV.out)
       have hn150 : n1 ≤ 150 := by have := HL70.out.1; have := HN1.out; omega
       have hn20 : tn ≤ 20 ∧ sn ≤ 20 := by
        have := HFW.out
        simp only [Bool.and_eq_true, decide_eq_true_eq] at this
        exact ⟨this.1, this.2.1⟩
       clear hok
       by_cases hs0 : sn = 0
       ·have d0 : ((sn : Int) == 0) = true := by simp; omega
        clear hs0
        go_enter Tryz.func4, Tryz.ntmps4
        go_upto_region 1 with fail
        rw [← HV.out, ← HE.out]
        go_wp2_with (first
         | (go_at_call 9; have _z := hb6; refine (knows20_any _).mono ?_; rintro e w7 ⟨rfl, b7⟩; have hb7 := Lib.hid (hb6.out.trans (b7.mono hb6.out.size)); have Q7 := Lib.hid (Q6.out.trans (b7.mono Q6.out.size)); obtain ⟨z0, z1, z2, z3, z4, z5⟩ := KS.out _ hb7.out; clear b7)
         | (go_at_call 36; have _z := hb5; refine (CF.out _ _ _ _ _ _ _ _ HO1.out HO2.out hn20.1 hn20.2 _ (HBX.out.trans (HX5.out.mono HBX.out.size))).mono ?_; rintro e w6 ⟨fb, rfl, hfb, b6⟩; have hb6 := Lib.hid (hb5.out.trans (b6.mono hb5.out.size)); have Q6 := Lib.hid (Q5.out.trans (b6.mono Q5.out.size)); obtain ⟨z0, z1, z2, z3, z4, z5⟩ := KS.out _ hb6.out; clear b6; cases fb)
         | (go_at_call 8; have _z := hb4; refine (CL.out _ hb4.out).mono ?_; rintro e w5 ⟨rfl, b5⟩; rw [HLV.out]; have hb5 := Lib.hid (hb4.out.trans (b5.mono hb4.out.size)); have HX5 := Lib.hid (HX4.out.trans (b5.mono HX4.out.size)); have Q5 := Lib.hid (Q4.out.trans (b5.mono Q4.out.size)); obtain ⟨y0, y1, y2, y3, y4, y5⟩ := KX.out _ HX5.out; clear b5)
         | (go_at_call 7; have _z := hb3; refine (few20_any _ _ _ _ _ _ _ _ _ _ _ _ _).mono ?_; rintro e w4 ⟨rfl, b4⟩; rw [HFW.out]; have hb4 := Lib.hid (hb3.out.trans (b4.mono hb3.out.size)); have HX4 := Lib.hid (HX3.out.trans (b4.mono HX3.out.size)); have Q4 := Lib.hid b4; clear b4)
         | (go_at_call 10; refine (CN.out _ _ _ _ _ _ _ _ HO1.out HO2.out _ HBX.out).mono ?_; rintro e w3 ⟨v, rfl, hv, b3⟩; obtain ⟨H, S, rfl, pg', ps'⟩ := orB_yes HNO.out hv.out; have pg := Lib.hid pg'; have ps := Lib.hid ps'; clear pg' ps' hv; have hb3 := Lib.hid (hb2.out.trans (b3.mono hb2.out.size)); have HX3 := Lib.hid b3; clear b3; obtain ⟨z0, z1, z2, z3, z4, z5⟩ := KS.out _ hb3.out)
         | (go_at_call 11; refine (CP.out V (Below.refl _ _)).mono ?_; rintro e w2 ⟨ta', tc', sa', sc', da', dc', rfl, o1, o2, _, b2⟩; have HO1 := Lib.hid o1; have HO2 := Lib.hid o2; have hb2 : Hid (Below V.heap.size V (w2.alloc (.cells #[.slice ta' tn tc', .slice sa' sn sc', .slice da' dn dc', .int .u8 x0, .int .u8 x1, .int .u8 x2] 37))) := Lib.hid (b2.alloc b2.size _); have HBX : Hid (Below w2.heap.size w2 (w2.alloc (.cells #[.slice ta' tn tc', .slice sa' sn sc', .slice da' dn dc', .int .u8 x0, .int .u8 x1, .int .u8 x2] 37))) := Lib.hid (below1 _ _); have KX := Lib.hid (fun (Y : World) (hY : Below (w2.alloc (.cells #[.slice ta' tn tc', .slice sa' sn sc', .slice da' dn dc', .int .u8 x0, .int .u8 x1, .int .u8 x2] 37)).heap.size (w2.alloc (.cells #[.slice ta' tn tc', .slice sa' sn sc', .slice da' dn dc', .int .u8 x0, .int .u8 x1, .int .u8 x2] 37)) Y) => six_at w2 Y hY); obtain ⟨y0, y1, y2, y3, y4, y5⟩ := KX.out _ (Below.refl _ _); clear o1 o2 b2 z0 z1 z2 z3 z4 z5)
         | fail "no arm")
        all_goals go_ret
        all_goals exact ⟨rfl, HB.out.trans (hb7.out.mono HB.out.size)⟩
       ·have d0 : ((sn : Int) == 0) = false := by simp; omega
        by_cases hw1 : work < 1
        ·have e1 : decide (work < 1) = true := decide_eq_true hw1
         go_enter Tryz.func4, Tryz.ntmps4
         go_upto_region 1 with fail
         rw [← HV.out, ← HE.out]
         go_wp2_with (first
          | (go_at_call 9; have _z := hb6; refine (knows20_any _).mono ?_; rintro e w7 ⟨rfl, b7⟩; have hb7 := Lib.hid (hb6.out.trans (b7.mono hb6.out.size)); have Q7 := Lib.hid (Q6.out.trans (b7.mono Q6.out.size)); obtain ⟨z0, z1, z2, z3, z4, z5⟩ := KS.out _ hb7.out; clear b7)
          | (go_at_call 36; have _z := hb5; refine (CF.out _ _ _ _ _ _ _ _ HO1.out HO2.out hn20.1 hn20.2 _ (HBX.out.trans (HX5.out.mono HBX.out.size))).mono ?_; rintro e w6 ⟨fb, rfl, hfb, b6⟩; have hb6 := Lib.hid (hb5.out.trans (b6.mono hb5.out.size)); have Q6 := Lib.hid (Q5.out.trans (b6.mono Q5.out.size)); obtain ⟨z0, z1, z2, z3, z4, z5⟩ := KS.out _ hb6.out; clear b6; cases fb)
          | (go_at_call 8; have _z := hb4; refine (CL.out _ hb4.out).mono ?_; rintro e w5 ⟨rfl, b5⟩; rw [HLV.out]; have hb5 := Lib.hid (hb4.out.trans (b5.mono hb4.out.size)); have HX5 := Lib.hid (HX4.out.trans (b5.mono HX4.out.size)); have Q5 := Lib.hid (Q4.out.trans (b5.mono Q4.out.size)); obtain ⟨y0, y1, y2, y3, y4, y5⟩ := KX.out _ HX5.out; clear b5)
          | (go_at_call 7; have _z := hb3; refine (few20_any _ _ _ _ _ _ _ _ _ _ _ _ _).mono ?_; rintro e w4 ⟨rfl, b4⟩; rw [HFW.out]; have hb4 := Lib.hid (hb3.out.trans (b4.mono hb3.out.size)); have HX4 := Lib.hid (HX3.out.trans (b4.mono HX3.out.size)); have Q4 := Lib.hid b4; clear b4)
          | (go_at_call 10; refine (CN.out _ _ _ _ _ _ _ _ HO1.out HO2.out _ HBX.out).mono ?_; rintro e w3 ⟨v, rfl, hv, b3⟩; obtain ⟨H, S, rfl, pg', ps'⟩ := orB_yes HNO.out hv.out; have pg := Lib.hid pg'; have ps := Lib.hid ps'; clear pg' ps' hv; have hb3 := Lib.hid (hb2.out.trans (b3.mono hb2.out.size)); have HX3 := Lib.hid b3; clear b3; obtain ⟨z0, z1, z2, z3, z4, z5⟩ := KS.out _ hb3.out)
          | (go_at_call 11; refine (CP.out V (Below.refl _ _)).mono ?_; rintro e w2 ⟨ta', tc', sa', sc', da', dc', rfl, o1, o2, _, b2⟩; have HO1 := Lib.hid o1; have HO2 := Lib.hid o2; have hb2 : Hid (Below V.heap.size V (w2.alloc (.cells #[.slice ta' tn tc', .slice sa' sn sc', .slice da' dn dc', .int .u8 x0, .int .u8 x1, .int .u8 x2] 37))) := Lib.hid (b2.alloc b2.size _); have HBX : Hid (Below w2.heap.size w2 (w2.alloc (.cells #[.slice ta' tn tc', .slice sa' sn sc', .slice da' dn dc', .int .u8 x0, .int .u8 x1, .int .u8 x2] 37))) := Lib.hid (below1 _ _); have KX := Lib.hid (fun (Y : World) (hY : Below (w2.alloc (.cells #[.slice ta' tn tc', .slice sa' sn sc', .slice da' dn dc', .int .u8 x0, .int .u8 x1, .int .u8 x2] 37)).heap.size (w2.alloc (.cells #[.slice ta' tn tc', .slice sa' sn sc', .slice da' dn dc', .int .u8 x0, .int .u8 x1, .int .u8 x2] 37)) Y) => six_at w2 Y hY); obtain ⟨y0, y1, y2, y3, y4, y5⟩ := KX.out _ (Below.refl _ _); clear o1 o2 b2 z0 z1 z2 z3 z4 z5)
          | fail "no arm")
         all_goals go_ret
         all_goals exact ⟨rfl, HB.out.trans (hb7.out.mono HB.out.size)⟩
        ·have e1 : decide (work < 1) = false := decide_eq_false hw1
         by_cases hw2 : 60 < work
         ·have e2 : decide (60 < work) = true := decide_eq_true hw2
          go_enter Tryz.func4, Tryz.ntmps4
          go_upto_region 1 with fail
          rw [← HV.out, ← HE.out]
          go_wp2_with (first
           | (go_at_call 9; have _z := hb6; refine (knows20_any _).mono ?_; rintro e w7 ⟨rfl, b7⟩; have hb7 := Lib.hid (hb6.out.trans (b7.mono hb6.out.size)); have Q7 := Lib.hid (Q6.out.trans (b7.mono Q6.out.size)); obtain ⟨z0, z1, z2, z3, z4, z5⟩ := KS.out _ hb7.out; clear b7)
           | (go_at_call 36; have _z := hb5; refine (CF.out _ _ _ _ _ _ _ _ HO1.out HO2.out hn20.1 hn20.2 _ (HBX.out.trans (HX5.out.mono HBX.out.size))).mono ?_; rintro e w6 ⟨fb, rfl, hfb, b6⟩; have hb6 := Lib.hid (hb5.out.trans (b6.mono hb5.out.size)); have Q6 := Lib.hid (Q5.out.trans (b6.mono Q5.out.size)); obtain ⟨z0, z1, z2, z3, z4, z5⟩ := KS.out _ hb6.out; clear b6; cases fb)
           | (go_at_call 8; have _z := hb4; refine (CL.out _ hb4.out).mono ?_; rintro e w5 ⟨rfl, b5⟩; rw [HLV.out]; have hb5 := Lib.hid (hb4.out.trans (b5.mono hb4.out.size)); have HX5 := Lib.hid (HX4.out.trans (b5.mono HX4.out.size)); have Q5 := Lib.hid (Q4.out.trans (b5.mono Q4.out.size)); obtain ⟨y0, y1, y2, y3, y4, y5⟩ := KX.out _ HX5.out; clear b5)
           | (go_at_call 7; have _z := hb3; refine (few20_any _ _ _ _ _ _ _ _ _ _ _ _ _).mono ?_; rintro e w4 ⟨rfl, b4⟩; rw [HFW.out]; have hb4 := Lib.hid (hb3.out.trans (b4.mono hb3.out.size)); have HX4 := Lib.hid (HX3.out.trans (b4.mono HX3.out.size)); have Q4 := Lib.hid b4; clear b4)
           | (go_at_call 10; refine (CN.out _ _ _ _ _ _ _ _ HO1.out HO2.out _ HBX.out).mono ?_; rintro e w3 ⟨v, rfl, hv, b3⟩; obtain ⟨H, S, rfl, pg', ps'⟩ := orB_yes HNO.out hv.out; have pg := Lib.hid pg'; have ps := Lib.hid ps'; clear pg' ps' hv; have hb3 := Lib.hid (hb2.out.trans (b3.mono hb2.out.size)); have HX3 := Lib.hid b3; clear b3; obtain ⟨z0, z1, z2, z3, z4, z5⟩ := KS.out _ hb3.out)
           | (go_at_call 11; refine (CP.out V (Below.refl _ _)).mono ?_; rintro e w2 ⟨ta', tc', sa', sc', da', dc', rfl, o1, o2, _, b2⟩; have HO1 := Lib.hid o1; have HO2 := Lib.hid o2; have hb2 : Hid (Below V.heap.size V (w2.alloc (.cells #[.slice ta' tn tc', .slice sa' sn sc', .slice da' dn dc', .int .u8 x0, .int .u8 x1, .int .u8 x2] 37))) := Lib.hid (b2.alloc b2.size _); have HBX : Hid (Below w2.heap.size w2 (w2.alloc (.cells #[.slice ta' tn tc', .slice sa' sn sc', .slice da' dn dc', .int .u8 x0, .int .u8 x1, .int .u8 x2] 37))) := Lib.hid (below1 _ _); have KX := Lib.hid (fun (Y : World) (hY : Below (w2.alloc (.cells #[.slice ta' tn tc', .slice sa' sn sc', .slice da' dn dc', .int .u8 x0, .int .u8 x1, .int .u8 x2] 37)).heap.size (w2.alloc (.cells #[.slice ta' tn tc', .slice sa' sn sc', .slice da' dn dc', .int .u8 x0, .int .u8 x1, .int .u8 x2] 37)) Y) => six_at w2 Y hY); obtain ⟨y0, y1, y2, y3, y4, y5⟩ := KX.out _ (Below.refl _ _); clear o1 o2 b2 z0 z1 z2 z3 z4 z5)
           | fail "no arm")
          all_goals go_ret
          all_goals exact ⟨rfl, HB.out.trans (hb7.out.mono HB.out.size)⟩
         ·have e2 : decide (60 < work) = false := decide_eq_false hw2
          have hsn3 : sn ≤ 3 := by have := HOP.out.2.1; have := HSN.out; omega
          obtain ⟨q, hq, hmod⟩ := rem_in s sn (by omega) (by omega)
          go_enter Tryz.func4, Tryz.ntmps4
          go_upto_region 1 with fail
          rw [← HV.out, ← HE.out]
          go_wp2_with (first
           | (go_at_call 9; have _z := hb6; refine (knows20_any _).mono ?_; rintro e w7 ⟨rfl, b7⟩; have hb7 := Lib.hid (hb6.out.trans (b7.mono hb6.out.size)); have Q7 := Lib.hid (Q6.out.trans (b7.mono Q6.out.size)); obtain ⟨z0, z1, z2, z3, z4, z5⟩ := KS.out _ hb7.out; clear b7)
           | (go_at_call 36; have _z := hb5; refine (CF.out _ _ _ _ _ _ _ _ HO1.out HO2.out hn20.1 hn20.2 _ (HBX.out.trans (HX5.out.mono HBX.out.size))).mono ?_; rintro e w6 ⟨fb, rfl, hfb, b6⟩; have hb6 := Lib.hid (hb5.out.trans (b6.mono hb5.out.size)); have Q6 := Lib.hid (Q5.out.trans (b6.mono Q5.out.size)); obtain ⟨z0, z1, z2, z3, z4, z5⟩ := KS.out _ hb6.out; clear b6; cases fb)
           | (go_at_call 8; have _z := hb4; refine (CL.out _ hb4.out).mono ?_; rintro e w5 ⟨rfl, b5⟩; rw [HLV.out]; have hb5 := Lib.hid (hb4.out.trans (b5.mono hb4.out.size)); have HX5 := Lib.hid (HX4.out.trans (b5.mono HX4.out.size)); have Q5 := Lib.hid (Q4.out.trans (b5.mono Q4.out.size)); obtain ⟨y0, y1, y2, y3, y4, y5⟩ := KX.out _ HX5.out; clear b5)
           | (go_at_call 7; have _z := hb3; refine (few20_any _ _ _ _ _ _ _ _ _ _ _ _ _).mono ?_; rintro e w4 ⟨rfl, b4⟩; rw [HFW.out]; have hb4 := Lib.hid (hb3.out.trans (b4.mono hb3.out.size)); have HX4 := Lib.hid (HX3.out.trans (b4.mono HX3.out.size)); have Q4 := Lib.hid b4; clear b4)
           | (go_at_call 10; refine (CN.out _ _ _ _ _ _ _ _ HO1.out HO2.out _ HBX.out).mono ?_; rintro e w3 ⟨v, rfl, hv, b3⟩; obtain ⟨H, S, rfl, pg', ps'⟩ := orB_yes HNO.out hv.out; have pg := Lib.hid pg'; have ps := Lib.hid ps'; clear pg' ps' hv; have hb3 := Lib.hid (hb2.out.trans (b3.mono hb2.out.size)); have HX3 := Lib.hid b3; clear b3; obtain ⟨z0, z1, z2, z3, z4, z5⟩ := KS.out _ hb3.out)
           | (go_at_call 11; refine (CP.out V (Below.refl _ _)).mono ?_; rintro e w2 ⟨ta', tc', sa', sc', da', dc', rfl, o1, o2, _, b2⟩; have HO1 := Lib.hid o1; have HO2 := Lib.hid o2; have hb2 : Hid (Below V.heap.size V (w2.alloc (.cells #[.slice ta' tn tc', .slice sa' sn sc', .slice da' dn dc', .int .u8 x0, .int .u8 x1, .int .u8 x2] 37))) := Lib.hid (b2.alloc b2.size _); have HBX : Hid (Below w2.heap.size w2 (w2.alloc (.cells #[.slice ta' tn tc', .slice sa' sn sc', .slice da' dn dc', .int .u8 x0, .int .u8 x1, .int .u8 x2] 37))) := Lib.hid (below1 _ _); have KX := Lib.hid (fun (Y : World) (hY : Below (w2.alloc (.cells #[.slice ta' tn tc', .slice sa' sn sc', .slice da' dn dc', .int .u8 x0, .int .u8 x1, .int .u8 x2] 37)).heap.size (w2.alloc (.cells #[.slice ta' tn tc', .slice sa' sn sc', .slice da' dn dc', .int .u8 x0, .int .u8 x1, .int .u8 x2] 37)) Y) => six_at w2 Y hY); obtain ⟨y0, y1, y2, y3, y4, y5⟩ := KX.out _ (Below.refl _ _); clear o1 o2 b2 z0 z1 z2 z3 z4 z5)
           | fail "no arm")
          ·go_ret
           exact ⟨rfl, HB.out.trans (hb7.out.mono HB.out.size)⟩
          ·have d3 : decide ((sn : Int) = 0) = false := decide_eq_false (by omega)
           have d4 : ¬ ((sn : Int) = 0) := by omega
           have d5 : ¬ (sn = 0) := by omega
           go_quiet (fail)
           have HQ : Hid (q < ss.length) := Lib.hid (by rw [HSN.out]; exact hq)
           have HF : Hid (Fit ts ss ⟨ts, ss, [], x0, x1, x2⟩) := Lib.hid (by
            have hb := hfb.out trivial
            have h1 := HOP.out.1
            unfold okN at h1
            rw [Bool.and_eq_true, List.all_eq_true] at h1
            exact ⟨rfl, rfl, h1.2, HOP.out.2.2.1, fit_all hb.ok hb.low hb.rate⟩)
           have HSS := Lib.hid HOP.out.2.1
           have HP0 : Hid (PSo V (w7.drewN nq) H ts ss q S (newPx ts ss 0) (-1) 0 1 []) := Lib.hid (PSo.later ⟨⟨pg.out, pq_own _ _ _ _ _ _, fun k hk => Nat.le_trans hb2.out.size (ps.out k hk), hb3.out⟩, DsIn.newPx, SvI.start HF.out.tk HF.out.sv HQ.out⟩ (below_drewB2 _ Q7.out))
           have HA0 : Hid (AsOk ss q (newPx ts ss 0) work 0 (-1) 0 0) := Lib.hid (.inl ⟨rfl, rfl, rfl⟩)
           clear pg ps hb2 hb3 hb4 hb5 hb6 hb7 HX3 HX4 HX5 Q4 Q5 Q6 Q7 HO1 HO2 HBX KX hfb y0 y1 y2 y3 y4 y5 z0 z1 z2 z3 z4 z5 d3 d4 d5 hmod d0 e1 e2 CP CN CL CF
           go_wp2_with fail
           go_loopw [11, 12, 13, 14, 15] (fun s11 s12 s13 s14 s15 wr => ∃ (k : Nat) (S : Nat → Prop) (x : Px) (h : Hs) (nw : Nat) (asked id given : Int), k ≤ n1 ∧ s11 = .int .i64 nw ∧ s12 = .int .i64 asked ∧ s13 = .int .i64 id ∧ s14 = .int .i64 given ∧ s15 = .int .i64 k ∧ nw ≤ k ∧ 0 ≤ given ∧ given ≤ k ∧ Hid (nw = h.length) ∧ Hid (PSo V wr H ts ss q S x ((nw : Int) - 1) nw (k + 1) h) ∧ Hid (AsOk ss q x work nw asked id given)) (fun _ _ _ _ s _ => n1 - (intOf s).toNat)
           case atStart => exact ⟨0, S, _, [], 0, -1, 0, 0, Nat.zero_le _, rfl, rfl, rfl, rfl, rfl, Nat.le_refl _, Int.le_refl _, by omega, Lib.hid rfl, HP0, HA0⟩
           case round =>
            clear HP0 HA0
            obtain ⟨k, S, x, h, nw, asked, id, given, hk, rfl, rfl, rfl, rfl, rfl, hnk, hg0, hg1, HNW, HP, HA⟩ := hrel
            by_cases hlt : k < n1
            ·have d0 : decide ((k : Int) < (n1 : Int)) = true := decide_eq_true (by omega)
             have d1 : (0 : Int) ≤ (k : Int) := by omega
             have d2 : (k : Int) < (n1 : Int) := by omega
             obtain ⟨b, off, oa, oc, ea, ⟨k0, k1, k2, k3, k4, k5, k6, k7⟩, hb, hlo⟩ := KA.out wr HP.out.one.b k hlt
             subst ea
             have HO70 : Hid ((adAt l1 k).ops.length ≤ 70) := Lib.hid (HL70.out.2 k (by have := HN1.out; omega))
             obtain ⟨y, hy⟩ : ∃ y, y = adAt l1 k := ⟨_, rfl⟩
             rw [← hy] at k0 k1 k2 k3 k4 k5 k6 k7 hlo HO70
             obtain ⟨kd, s', nn, tk, arr, awork, done, ov, ops⟩ := y
             dsimp only at k0 k1 k2 k3 k4 k5 k6 k7 hlo HO70
             obtain ⟨m, hm⟩ : ∃ m, m = ops.length := ⟨_, rfl⟩
             rw [← hm] at k7 hlo HO70
             have HMO := Lib.hid hm.symm
             have HLO := Lib.hid hlo
             clear hy hb hlo hm k1 k2
             by_cases q1 : kd = 6 ∨ kd = 7
             ·have HJB : Hid (∀ Y, Below V.heap.size V Y → Calls Tryz.prog 20 #[.agg #[.int .i64 tk, .int .i64 arr, .int .i64 awork, .int .i64 done, .slice oa m oc]] Y fun e w' => ∃ ao cap, e = .returned (.agg #[.int .i64 tk, .int .i64 arr, .int .i64 awork, .int .i64 done, .slice ao m cap]) ∧ Lies w' 0 w'.heap.size (.slice ao m cap) m 3 (ops.flatMap Wn.cells) ∧ Below Y.heap.size Y w') := Lib.hid (fun Y hY => (job_any Y tk arr awork done oa m oc ops HMO.out ((HLO.out.keep (KO.out Y hY).1).wider (Nat.le_refl _) (KO.out Y hY).2) (by have := HO70.out; omega)).mono (by
               rintro e w' ⟨ao, cap, he, hl, hb⟩
               exact ⟨ao, cap, he, hl.wider (Nat.zero_le _) (Nat.le_refl _), hb⟩))
              rcases q1 with rfl | rfl
              all_goals go_wp2_with (first
               | (go_at_call 19; have _z := t8; refine (parrive_any _ H S ts ss 0 x t8.out.one.h nw tk arr awork done ja m jc ops HMO.out HJL.out).mono ?_; rintro e w9 ⟨S9, rfl, h9', g9'⟩; have t9 := Lib.hid (t8.out.prog h9' g9' (DsIn.arrX t8.out.ds) (SvI.arr t8.out.inv HF.out.tk (by rw [HNW.out]) tk awork done ops)); clear h9' g9')
               | (go_at_call 20; refine (HJB.out _ HP.out.one.b).mono ?_; rintro e w8 ⟨ja, jc, rfl, jl', b8⟩; have HJL := Lib.hid jl'; have t8 := Lib.hid (HP.out.later b8); clear jl' b8)
               | fail "no arm")
              all_goals go_roundw
              case rel => exact ⟨k + 1, S9, _, h, nw, asked, id, given, by omega, rfl, rfl, rfl, rfl, by go_num, by omega, hg0, by omega, HNW, Lib.hid (t9.out.mono (Int.le_refl _) (by omega)), Lib.hid (HA.out.arr)⟩
              case measure => simp [intOf]; omega
              case rel => exact ⟨k + 1, S9, _, h, nw, asked, id, given, by omega, rfl, rfl, rfl, rfl, by go_num, by omega, hg0, by omega, HNW, Lib.hid (t9.out.mono (Int.le_refl _) (by omega)), Lib.hid (HA.out.arr)⟩
              case measure => simp [intOf]; omega
             ·have f6 : (kd == 6) = false := by simp; omega
              have f7 : (kd == 7) = false := by simp; omega
              clear k3 k4 k5 k6 k7 HLO HO70 HMO
              by_cases q2 : kd = 8
              ·subst q2
               have e3 : IntKind.i64.wrap (given + 1) = given + 1 := IntWalk.i64_in _ (by omega)
               rcases HA.out with ⟨g1, g2, g3⟩ | ⟨g1, g2, g3⟩
               ·have HQV : Hid (quV ss x (q : Int) = 0) := Lib.hid (by unfold quV; rw [if_pos (hasS_of HQ.out), Int.toNat_natCast, g2]; rfl)
                have HPN := Lib.hid (Pnd.start (work := work) HP.out.inv HF.out HQ.out rfl (by omega) (by omega) g2)
                have HG3 := Lib.hid g3
                subst g1
                clear g2 g3
                go_wp2_with (first
                 | (go_at_call 18; have _z := t9; refine (num20_any _ _).mono ?_; rintro e w10 ⟨rfl, hw10⟩; rw [hw10]; clear hw10)
                 | (go_at_call 22; refine (prequest_any _ H S ts ss 0 x HP.out.one.h HP.out.ds.ok q work (HP.out.low (by omega))).mono ?_; rintro e w9 ⟨S9, rfl, h9', g9'⟩; rw [HPN.out.1]; have t9 := Lib.hid (HP.out.prog h9' g9' (DsIn.reqX HP.out.ds (by omega)) (SvI.req HP.out.inv)); clear h9' g9')
                 | (go_at_call 35; refine (pqueue_any _ H S ts ss 0 x HP.out.one.h q).mono ?_; rintro e w8 ⟨rfl, hw8⟩; rw [hw8, HQV.out]; clear hw8)
                 | fail "no arm")
                go_roundw
                case rel => exact ⟨k + 1, S9, _, h, nw, nw, given + 1, given + 1, by omega, rfl, rfl, rfl, rfl, by go_num, by omega, by omega, by omega, HNW, Lib.hid (t9.out.mono (Int.le_refl _) (by omega)), Lib.hid (.inr ⟨by omega, rfl, by have := HPN.out.2; rw [HG3.out] at this; exact this⟩)⟩
                case measure => simp [intOf]; omega
               ·have g0 : decide (asked < 0) = false := decide_eq_false (by omega)
                clear g2 g3
                go_wp2_with fail
                go_roundw
                case rel => exact ⟨k + 1, S, x, h, nw, asked, id, given, by omega, rfl, rfl, rfl, rfl, by go_num, by omega, hg0, by omega, HNW, Lib.hid (HP.out.mono (Int.le_refl _) (by omega)), HA⟩
                case measure => simp [intOf]; omega
              ·have f8 : (kd == 8) = false := by simpa using q2
               by_cases q3 : kd = 0 ∨ kd = 1 ∨ kd = 2 ∨ kd = 3 ∨ kd = 4 ∨ kd = 5
               ·go_upto_if 118 with fail
                go_cut [118] from 74 to 196 (fun s118 wx => s118 = .bool true ∧ wx = wr)
                case first =>
                 rcases q3 with rfl | rfl | rfl | rfl | rfl | rfl
                 all_goals go_wp2_with fail
                 all_goals go_meet
                 all_goals exact ⟨rfl, rfl⟩
                case rest =>
                 obtain ⟨rfl, rfl⟩ := hcut
                 clear q1 q2 q3 f6 f7 f8 k0
                 have e1 : IntKind.i64.wrap ((nw : Int) + 1) = (nw : Int) + 1 := IntWalk.i64_in _ (by omega)
                 obtain ⟨X1, hX1⟩ : ∃ X1, X1 = begX ts ss 0 x nw := ⟨_, rfl⟩
                 have HT0 := Lib.hid (SvI.tick HP.out.inv HF.out HQ.out (show (nw : Int) = h.length by rw [HNW.out]) (by have := HNW.out; omega))
                 rw [← hX1] at HT0
                 have HB1 := Lib.hid (SvI.beg HP.out.inv HF.out.sv HQ.out (show (nw : Int) = h.length by rw [HNW.out]) (by omega))
                 rw [← hX1] at HB1
                 have HD1 : Hid (DsIn ss.length nw (k + 1) X1.ds) := Lib.hid (by rw [hX1]; exact DsIn.begX HP.out.ds (Int.le_refl _))
                 have HX1 := Lib.hid hX1
                 clear hX1
                 obtain ⟨E9, hE9⟩ : ∃ E9, E9 = runE ts ss X1 := ⟨_, rfl⟩
                 obtain ⟨X2, hX2⟩ : ∃ X2, X2 = runX ts ss X1 := ⟨_, rfl⟩
                 rw [← hE9, ← hX2] at HT0
                 have HD2 : Hid (DsIn ss.length nw (k + 1) X2.ds) := Lib.hid (by rw [hX2]; exact DsIn.runX HD1.out)
                 have HE9 := Lib.hid hE9.symm
                 have HX2 := Lib.hid hX2.symm
                 clear hE9 hX2
                 obtain ⟨pv, hpv⟩ : ∃ pv, pv = pickV ts ss X1 := ⟨_, rfl⟩
                 obtain ⟨ro, hro⟩ : ∃ ro, ro = runO ts ss X1 := ⟨_, rfl⟩
                 have HRUN : Hid (∀ Y S', OneB V Y (PgAt H ts ss 0 X1) S' → Calls Tryz.prog 16 #[.pointer (some ⟨H, 0, none⟩)] Y fun e w' => ∃ S9 ao cap, e = .returned (.tuple #[.agg #[.bool pv.sv, .int .i64 pv.n], .agg #[.int .i64 ro.at_, .int .i64 ro.len, .int .i64 ro.part], .slice ao E9.length cap]) ∧ Hid (Lies w' 0 w'.heap.size (.slice ao E9.length cap) E9.length 3 (E9.flatMap Wn.cells)) ∧ Hid (OneB V w' (PgAt H ts ss 0 X2) S9)) := Lib.hid (fun Y S' h1 => by
                  rw [hpv, hro]
                  refine (prun_any Y H S' ts ss 0 X1 h1.h HSS.out HD1.out.ok (fun q' h1 h2 h3 => by
                   obtain ⟨i, hi, hn, hb, _⟩ := pickV_at h2
                   have : i = q' := by omega
                   subst this
                   exact ⟨hi, hb⟩) (fun h2 => by obtain ⟨i, hi, hn, _⟩ := pickV_at h2; omega) pickV_no).mono ?_
                  rintro e w' ⟨S9, v, rfl, ⟨ao, cap, rfl, ho⟩, h9, g9⟩
                  rw [HE9.out] at ho ⊢
                  rw [HX2.out] at h9
                  exact ⟨S9, ao, cap, rfl, Lib.hid ((Lies.of_owns ho).wider (Nat.zero_le _) (Nat.le_refl _)), Lib.hid (h1.prog h9 g9 (pq_own _ _ _ _ _ _))⟩)
                 clear hpv hro HD1 HB1
                 go_upto_region 32 with (first
                  | (go_at_call 16; have _z := t9; refine (HRUN.out _ _ t9.out).mono ?_; rintro e w10 ⟨S10, ea, ec, rfl, HEL, t10⟩)
                  | (go_at_call 14; refine (pbegin_any _ H S ts ss 0 x HP.out.one.h HSS.out nw (by omega) (by omega) (HP.out.ds.by_ (Int.le_refl _))).mono ?_; rintro e w9 ⟨S9, v9, rfl, _, h9', g9'⟩; rw [← HX1.out] at h9'; have t9 := Lib.hid (HP.out.one.prog h9' g9' (pq_own _ _ _ _ _ _)); clear h9' g9')
                  | fail "no arm")
                 obtain ⟨W, hW⟩ : ∃ W, W = (w10.alloc (.cells #[.bool pv.sv, .int .i64 pv.n] 52)).alloc (.cells #[.int .i64 ro.at_, .int .i64 ro.len, .int .i64 ro.part] 54) := ⟨_, rfl⟩
                 rw [← hW]
                 have hbW : Below w10.heap.size w10 W := by rw [hW]; exact b_alloc (below1 _ _) (Nat.le_refl _) _
                 obtain ⟨nE, hnE⟩ : ∃ nE, nE = E9.length := ⟨_, rfl⟩
                 rw [← hnE] at HEL
                 rw [← hnE]
                 have HNE := Lib.hid hnE.symm
                 have hnE8 : nE ≤ 8 := by
                  have h1 := runE_len ts ss X1
                  have h2 := HP.out.one.h.bds.1
                  rw [HE9.out, HNE.out] at h1
                  omega
                 have t11 : Hid (OneB V W (PgAt H ts ss 0 X2) S10) := Lib.hid (t10.out.later hbW)
                 have KE : Hid (∀ i (hi : i < nE), ∃ g off ev, ea = some ⟨g, off, none⟩ ∧ E9[i]? = some ev ∧ W.cell? ⟨g, off + i * 3, none⟩ = some (.int .i64 ev.at_) ∧ W.cell? ⟨g, off + i * 3 + 1, none⟩ = some (.int .i64 ev.len) ∧ W.cell? ⟨g, off + i * 3 + 2, none⟩ = some (.int .i64 ev.part)) := Lib.hid (fun i hi => by
                  have hil : i < E9.length := by rw [HNE.out]; exact hi
                  have hx : E9[i]? = some (E9[i]'hil) := List.getElem?_eq_getElem hil
                  obtain ⟨a', c', e, _, _, hc⟩ := HEL.out.keep (SameIn.of_below hbW (Nat.le_refl _))
                  cases e
                  rcases hc with h0 | ⟨g, off', rfl, _, _, hc⟩
                  ·omega
                  ·exact ⟨g, off', _, rfl, hx, hc _ _ (flat_at Wn.cells 3 (fun _ => rfl) E9 i 0 _ hx (by omega)), hc _ _ (flat_at Wn.cells 3 (fun _ => rfl) E9 i 1 _ hx (by omega)), hc _ _ (flat_at Wn.cells 3 (fun _ => rfl) E9 i 2 _ hx (by omega))⟩)
                 clear hW hbW hnE t10 HEL HRUN t9
                 go_wp2_with fail
                 go_loopw [12, 19] (fun s12 s19 wr => EvL W E9 q id asked nE s12 s19 wr) (fun _ s _ => nE - (intOf s).toNat)
                 case atStart => exact .mk 0 asked (Nat.zero_le _) rfl rfl rfl (Lib.hid (by unfold seenE; simp)) (Lib.hid (fun j hj h0 => by omega))
                 case round =>
                  obtain ⟨i, as', hi, rfl, rfl, rfl, HAS, HNR⟩ := hrel
                  by_cases hli : i < nE
                  ·have g0 : decide ((i : Int) < (nE : Int)) = true := decide_eq_true (by omega)
                   have g1 : (0 : Int) ≤ (i : Int) := by omega
                   have g2 : (i : Int) < (nE : Int) := by omega
                   obtain ⟨g, off', ev, rfl, hev, y0, y1, y2⟩ := KE.out i hli
                   obtain ⟨ka, kb, kc⟩ := ev
                   dsimp only at y0 y1 y2
                   have HEV : Hid (∃ hil : i < E9.length, E9[i]'hil = ⟨ka, kb, kc⟩) := Lib.hid ⟨by rw [HNE.out]; exact hli, by
                    have h1 : i < E9.length := by rw [HNE.out]; exact hli
                    rw [List.getElem?_eq_getElem h1] at hev
                    exact Option.some.inj hev⟩
                   clear hev
                   by_cases h3 : ka = 3
                   ·subst h3
                    go_wp2_with fail
                    go_ret
                    exact ⟨rfl, HB.out.trans (t11.out.b.mono HB.out.size)⟩
                   ·have f3 : (ka == 3) = false := by simpa using h3
                    have HN2 : Hid (∀ j (hj : j < E9.length), j < i + 1 → (E9[j]).at_ ≠ 3) := Lib.hid (fun j hj h0 => by
                     by_cases e : j = i
                     ·subst e
                      obtain ⟨hil, e2⟩ := HEV.out
                      rw [e2]; exact h3
                     ·exact HNR.out j hj (by omega))
                    have HS2 : Hid (seenE E9 q id (i + 1) = (seenE E9 q id i || (ka == 6 && kb == (q : Int) && kc == id))) := Lib.hid (by
                     obtain ⟨hil, e2⟩ := HEV.out
                     rw [seen_step hil, e2])
                    by_cases c1 : ka = 6
                    ·subst c1
                     by_cases c2 : kb = (q : Int)
                     ·have u2 : (kb == (q : Int)) = true := by simpa using c2
                      by_cases c3 : kc = id
                      ·have u3 : (kc == id) = true := by simpa using c3
                       have HS3 : Hid (seenE E9 q id (i + 1) = true) := Lib.hid (by rw [HS2.out, u2, u3]; simp)
                       clear HS2 c2 c3
                       go_wp2_with fail
                       go_roundw
                       case rel => exact .mk (i + 1) (-1) (by omega) rfl (by go_num) rfl (Lib.hid (by rw [if_pos HS3.out])) HN2
                       case measure => simp [intOf]; omega
                      ·have u3 : (kc == id) = false := by simpa using c3
                       have HS3 : Hid (seenE E9 q id (i + 1) = seenE E9 q id i) := Lib.hid (by rw [HS2.out, u3]; simp)
                       clear HS2 c2 c3
                       go_wp2_with fail
                       go_roundw
                       case rel => exact .mk (i + 1) (as') (by omega) rfl (by go_num) rfl (Lib.hid (by rw [HS3.out]; exact HAS.out)) HN2
                       case measure => simp [intOf]; omega
                     ·have u2 : (kb == (q : Int)) = false := by simpa using c2
                      have HS3 : Hid (seenE E9 q id (i + 1) = seenE E9 q id i) := Lib.hid (by rw [HS2.out, u2]; simp)
                      clear HS2 c2
                      go_wp2_with fail
                      go_roundw
                      case rel => exact .mk (i + 1) (as') (by omega) rfl (by go_num) rfl (Lib.hid (by rw [HS3.out]; exact HAS.out)) HN2
                      case measure => simp [intOf]; omega
                    ·have u1 : (ka == 6) = false := by simpa using c1
                     have HS3 : Hid (seenE E9 q id (i + 1) = seenE E9 q id i) := Lib.hid (by rw [HS2.out, u1]; simp)
                     clear HS2
                     go_wp2_with fail
                     go_roundw
                     case rel => exact .mk (i + 1) (as') (by omega) rfl (by go_num) rfl (Lib.hid (by rw [HS3.out]; exact HAS.out)) HN2
                     case measure => simp [intOf]; omega
                  ·have g0 : decide ((i : Int) < (nE : Int)) = false := decide_eq_false (by omega)
                   have HNW2 : Hid (∃ e, SvI ts ss q X2 nw (h ++ [e]) ∧ AsOk ss q X2 work (nw + 1) as' id given) := Lib.hid (by
                    have hiE : i = E9.length := by have := HNE.out; omega
                    rcases HT0.out with hr | ⟨e, K, T1, T2⟩
                    ·exact absurd hr (no_rose (fun j hj => HNR.out j hj (by omega)))
                    ·refine ⟨e, K, ?_⟩
                     have := tick_as HA.out T1 T2
                     rw [← hiE, ← HAS.out] at this
                     exact this)
                   obtain ⟨e, K', A'⟩ := HNW2.out
                   have HK := Lib.hid K'
                   have HA2 := Lib.hid A'
                   have HN2 : Hid (nw + 1 = (h ++ [e]).length) := Lib.hid (by rw [List.length_append, HNW.out]; rfl)
                   have HPN : Hid (PSo V wr H ts ss q S10 X2 (((nw + 1 : Nat) : Int) - 1) ((nw + 1 : Nat) : Int) (((k + 1 : Nat) : Int) + 1) (h ++ [e])) := Lib.hid ⟨t11.out, HD2.out.mono (by omega) (by omega), by rw [show ((nw + 1 : Nat) : Int) - 1 = nw by omega]; exact HK.out⟩
                   clear K' A' HNW2 HT0 HAS HNR
                   have HOS := Lib.hid (okSv_t (show okSv (svAt ss q) = true by rw [svAt_eq HQ.out]; exact HF.out.sv _ (List.getElem_mem HQ.out)))
                   obtain ⟨b2, off2, eas, ⟨v0, v1, v2⟩, _⟩ := KV.out wr t11.out.b q hq
                   have z1 := (KS.out wr t11.out.b).2.1
                   subst eas
                   obtain ⟨sre, hre⟩ : ∃ sre, sre = (svAt ss q).re := ⟨_, rfl⟩
                   obtain ⟨c, hc⟩ : ∃ c, c = (svAt ss q).c := ⟨_, rfl⟩
                   obtain ⟨T, hT⟩ : ∃ T, T = (svAt ss q).t := ⟨_, rfl⟩
                   rw [← hre] at v0
                   rw [← hc] at v1 HOS
                   rw [← hT] at v2 HOS
                   have HC := Lib.hid hc.symm
                   have HTT := Lib.hid hT.symm
                   have q0 : (0 : Int) ≤ (q : Int) := by omega
                   have q1 : (q : Int) < (sn : Int) := by omega
                   clear hre hc hT
                   rcases HA2.out with ⟨g1, g2, g3⟩ | ⟨g1, g2, P⟩
                   ·subst g1
                    clear g2 g3
                    go_wp2_with fail
                    go_quiet (fail)
                    go_wp2_with fail
                    go_roundw
                    case rel => exact ⟨k + 1, S10, X2, h ++ [e], nw + 1, -1, id, given, by omega, by go_num, rfl, rfl, rfl, by go_num, by omega, hg0, by omega, HN2, Lib.hid (HPN.out.later (by repeat first | exact below1 _ _ | refine Below.drew ?_ | refine below_drewB2 _ ?_)), Lib.hid (by push_cast; exact HA2.out)⟩
                    case measure => simp [intOf]; omega
                   ·have g0 : decide (0 ≤ as') = true := decide_eq_true g1
                    have hIT := P.in_time (h := h ++ [e]) (by rw [show (nw : Int) + 1 - 1 = nw by omega]; exact HK.out) HF.out HQ.out (by rw [← HN2.out]; push_cast; rfl) (by rw [← HN2.out]; omega)
                    have hak := P.ak0.2
                    rw [HC.out, HTT.out] at hIT
                    obtain ⟨o1, o2, o3⟩ := HOS.out
                    obtain ⟨kq, hkq⟩ : ∃ kq, kq = (work + c - 1) / c := ⟨_, rfl⟩
                    have hk0 : 0 ≤ kq := by rw [hkq]; exact Int.ediv_nonneg (by omega) (by omega)
                    have hk1 : kq ≤ work + c - 1 := by rw [hkq]; exact Int.ediv_le_self _ (by omega)
                    rw [← hkq] at hIT
                    obtain ⟨Z, hZ⟩ : ∃ Z, Z = T * (kq + 1) := ⟨_, rfl⟩
                    have hZ0 : 0 ≤ Z := by rw [hZ]; exact Int.mul_nonneg (by omega) (by omega)
                    have hZ1 : Z ≤ 1000 * 1100 := by rw [hZ]; exact Int.mul_le_mul (by omega) (by omega) (by omega) (by omega)
                    rw [← hZ] at hIT
                    have w1 : IntKind.i64.wrap ((nw : Int) + 1 - as') = (nw : Int) + 1 - as' := IntWalk.i64_in _ (by omega)
                    have w2 : IntKind.i64.wrap (work + c) = work + c := IntWalk.i64_in _ (by omega)
                    have w3 : IntKind.i64.wrap (work + c - 1) = work + c - 1 := IntWalk.i64_in _ (by omega)
                    have w4 : (work + c - 1).tdiv c = kq := by rw [hkq]; exact Int.tdiv_eq_ediv_of_nonneg (by omega)
                    have w5 : IntKind.i64.wrap kq = kq := IntWalk.i64_in _ (by omega)
                    have w6 : IntKind.i64.wrap (kq + 1) = kq + 1 := IntWalk.i64_in _ (by omega)
                    have w7 : IntKind.i64.wrap (T * (kq + 1)) = Z := by rw [← hZ]; exact IntWalk.i64_in _ (by omega)
                    have w8 : decide (Z < (nw : Int) + 1 - as') = false := decide_eq_false hIT
                    have w9 : decide (c = 0) = false := decide_eq_false (by omega)
                    have w10' : ¬ c = 0 := by omega
                    clear hkq hZ hIT P g2
                    go_wp2_with fail
                    go_quiet (fail)
                    go_wp2_with fail
                    go_roundw
                    case rel => exact ⟨k + 1, S10, X2, h ++ [e], nw + 1, as', id, given, by omega, by go_num, rfl, rfl, rfl, by go_num, by omega, hg0, by omega, HN2, Lib.hid (HPN.out.later (by repeat first | exact below1 _ _ | refine Below.drew ?_ | refine below_drewB2 _ ?_)), Lib.hid (by push_cast; exact HA2.out)⟩
                    case measure => simp [intOf]; omega
               ·have f0 : (kd == 0) = false := by simp; omega
                have f1 : (kd == 1) = false := by simp; omega
                have f2 : (kd == 2) = false := by simp; omega
                have f3 : (kd == 3) = false := by simp; omega
                have f4 : (kd == 4) = false := by simp; omega
                have f5 : (kd == 5) = false := by simp; omega
                go_wp2_with fail
                go_roundw
                case rel => exact ⟨k + 1, S, x, h, nw, asked, id, given, by omega, rfl, rfl, rfl, rfl, by go_num, by omega, hg0, by omega, HNW, Lib.hid (HP.out.mono (Int.le_refl _) (by omega)), HA⟩
                case measure => simp [intOf]; omega
            ·have d0 : decide ((k : Int) < (n1 : Int)) = false := decide_eq_false (by omega)
             go_wp2_with fail
             go_ret
             exact ⟨rfl, HB.out.trans (HP.out.one.b.mono HB.out.size)⟩
end Go.Proofs.YtchbehnkkcjdgaaGreat
