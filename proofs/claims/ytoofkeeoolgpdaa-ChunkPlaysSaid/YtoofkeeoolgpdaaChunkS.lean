/- The document's budget: Go. -/
import Derived.Test.YtoofkeeoolgpdaaChunkR
import Derived.Test.YtoofkeeoolgpdaaChunkE
import Derived.Deep.CutRange
import Derived.Deep.CutBlock
import Derived.Test.YtoofkeeoolgpdaaHand
namespace Go.Proofs.Ytoofkeeoolgpdaa
open Go.ChangeShapes Go.WideShapes Go.ChangeAt Go.RowKit
set_option linter.unusedVariables false
set_option linter.unusedSimpArgs false

theorem Try.infoRc : (Try.prog.info? 63).map (fun i => (i.zero, i.size, i.bytes)) = some (some (.agg #[.int .i64 0, .int .i64 0, .int .i64 0]), 3, 24) := by kernel_rfl
theorem Try.infoRb : (Try.prog.info? 62).map (fun i => (i.zero, i.size, i.bytes)) = some (some (.agg #[.int .i64 0, .int .i64 0]), 2, 16) := by kernel_rfl
theorem bk_one (x : Bk) : ∀ u ∈ x.cells, u.oneCell' = true := by intro u hu; simp [Bk.cells] at hu; rcases hu with h | h <;> subst h <;> rfl
/-- The cells of one of a row of what will be back. -/
theorem orow_bk {w : World} {T : TypeId} {g off n c : Nat} {l : List Bk} (h : ORow w T 2 (.slice (some ⟨g, off, none⟩) n c) n (l.flatMap Bk.cells)) {k : Nat} {x : Bk} (hx : l[k]? = some x) (hk : k < n) : w.cell? ⟨g, off + k * 2, none⟩ = some (.int .i64 x.at_) ∧ w.cell? ⟨g, off + k * 2 + 1, none⟩ = some (.int .i64 x.n) := by
  obtain ⟨g', off', e, hc, hf, _⟩ := h.at_ (by omega)
  cases e
  refine ⟨?_, ?_⟩
  · have := hc (k * 2 + 0) _ (flat_at Bk.cells 2 (fun _ => rfl) l k 0 x hx (by omega)); simpa [Nat.add_assoc] using this
  · have := hc (k * 2 + 1) _ (flat_at Bk.cells 2 (fun _ => rfl) l k 1 x hx (by omega)); simpa [Nat.add_assoc] using this
theorem comeN_snoc (now : Int) (l : List Bk) (x : Bk) : comeN now (l ++ [x]) = comeN now l + (if x.at_ ≤ now then x.n else 0) := by
  unfold comeN
  rw [List.filter_append]
  by_cases h : x.at_ ≤ now <;> simp [h, sumB]
theorem stayN_snoc (now : Int) (l : List Bk) (x : Bk) : stayN now (l ++ [x]) = stayN now l ++ (if x.at_ ≤ now then [] else [x]) := by
  unfold stayN
  rw [List.filter_append]
  by_cases h : x.at_ ≤ now <;> simp [h]
theorem comeN_le (now : Int) : ∀ l : List Bk, (∀ x ∈ l, 1 ≤ x.n) → comeN now l ≤ sumB l
  | [], _ => by simp [comeN, sumB]
  | x :: l, h => by
    have ih := comeN_le now l (fun y hy => h y (List.mem_cons_of_mem _ hy))
    have hx := h x (List.mem_cons_self ..)
    unfold comeN at ih ⊢
    rw [List.filter_cons]
    split <;> simp only [sumB, List.map_cons, List.sum_cons] at ih ⊢ <;> omega
theorem sumB_takeR {l : List Bk} (h : ∀ x ∈ l, 1 ≤ x.n) (k : Nat) : sumB (l.take k) ≤ sumB l := by
  have e := sumB_append (l.take k) (l.drop k)
  rw [List.take_append_drop] at e
  have := sumB_len (l.drop k) (fun x hx => h x (List.mem_of_mem_drop hx))
  omega
set_option maxRecDepth 100000 in
set_option maxHeartbeats 8000000 in
theorem rgo_any (w : World) (H : Nat) (S : Nat → Prop) (s : Sv) (b : Bd) (now : Int) (busy : Bool) (h0 : 0 ≤ now) (h1 : now ≤ 1099511627776) (h : RgAt H s b w S) (hs : okSv s = true) (hok : BdOk s.c s.t 1099511627776 b) :
    Calls Try.prog 11 #[.pointer (some ⟨H, 0, none⟩), .int .i64 now, .bool busy] w fun e w' => ∃ S', e = .returned (.tuple #[]) ∧ RgAt H s (goB b now busy) w' S' ∧ GrowS S S' w w' := by
  obtain ⟨la, ea, lc, ec, hk, rfl⟩ := h
  have hsb : 1 ≤ s.c ∧ s.c ≤ s.t ∧ s.t ≤ 1000 := by simpa [okSv] using hs
  have hbd := hok.bounds
  have hall := hok.all
  have hf0 := hok.f0
  have HBK : Hid (∀ x ∈ b.backs, 1 ≤ x.n) := Lib.hid (fun x hx => (hok.bk x hx).2.2)
  have HLIVE : Hid (b.live.length ≤ 1000) := Lib.hid (by omega)
  have HDEF : Hid (goB b now busy = if busy && !b.stop && decide (0 < b.free + comeN now b.backs) then ⟨0, b.live ++ [⟨now, b.free + comeN now b.backs, 0⟩], stayN now b.backs, b.stop⟩ else ⟨b.free + comeN now b.backs, b.live, stayN now b.backs, b.stop⟩) := Lib.hid rfl
  obtain ⟨f, lv, bk, st⟩ := b
  dsimp only at hk hbd hall hf0 HBK HLIVE HDEF
  obtain ⟨n, hn⟩ : ∃ n, n = bk.length := ⟨_, rfl⟩
  have HN := Lib.hid hn
  have HSUM : Hid (0 ≤ f ∧ f + sumB bk ≤ 1000) := Lib.hid ⟨hf0, by omega⟩
  have hn3 : n ≤ 1000 := by omega
  obtain ⟨i0, hi, hz0, hz1, hz2⟩ := info_parts Try.infoRb
  have HI := Lib.hid hi
  obtain ⟨i1, hi1, hy0, hy1, hy2⟩ := info_parts Try.infoRc
  have HJ := Lib.hid hi1
  have HK := Lib.hid hk
  have HLT : Hid (∀ k, Rl H la ea k → k < w.heap.size) := Lib.hid hk.lt
  clear hk hn hbd hall hok hs hi hi1 hf0
  go_enter Try.func11, Try.ntmps11
  go_wp2_with fail
  go_loopw [6, 7] (fun s6 s7 wr => ∃ (k cap m : Nat) (ao : Option Addr), k ≤ n ∧ m ≤ k ∧ s6 = .slice ao m cap ∧ s7 = .int .i64 k ∧ Hid (m = (stayN now (bk.take k)).length) ∧ Hid (CrB wr H s (f + comeN now (bk.take k)) st la lc lv ea ec bk) ∧ Hid (ORow wr 62 2 (.slice ao m cap) m ((stayN now (bk.take k)).flatMap Bk.cells)) ∧ Hid (∀ g, ob ao = some g → w.heap.size ≤ g) ∧ Hid (But H w wr)) (fun _ s _ => n - (intOf s).toNat)
  case atStart => exact ⟨0, 0, 0, none, by omega, by omega, rfl, rfl, Lib.hid rfl, Lib.hid (by rw [List.take_zero, show comeN now [] = 0 from rfl, Int.add_zero]; exact HK.out), Lib.hid (ORow.nil _ _ _), Lib.hid (fun g hg => by cases hg), Lib.hid (But.refl _ _)⟩
  case round =>
    obtain ⟨k, cap, m, ao, hk, hmk, rfl, rfl, HM, HC, HO, HA, HB⟩ := hrel
    have b5 := HC.out.c5
    rw [← HN.out] at b5
    by_cases hlt : k < n
    · have tk : decide ((k : Int) < (n : Int)) = true := by simpa using hlt
      obtain ⟨x, hx⟩ : ∃ x, bk[k]? = some x := ⟨_, List.getElem?_eq_getElem (by rw [← HN.out]; exact hlt)⟩
      have hoe := HC.out.e
      rw [← HN.out] at hoe
      obtain ⟨g, off, hea, _⟩ := hoe.at_ (by omega)
      rw [hea] at hoe
      obtain ⟨y0, y1⟩ := orow_bk hoe hx hlt
      have l0 : (0 : Int) ≤ (k : Int) := by omega
      have l1 : (k : Int) < (n : Int) := by omega
      have hts : bk.take (k + 1) = bk.take k ++ [x] := by rw [List.take_add_one, hx]; rfl
      have HTS := Lib.hid hts
      have hxn := HBK.out x (List.mem_of_getElem? hx)
      have hc0 := comeN_pos now (bk.take k) (fun y hy => HBK.out y (List.mem_of_mem_take hy))
      have hc1 := comeN_le now (bk.take k) (fun y hy => HBK.out y (List.mem_of_mem_take hy))
      have hc2 := sumB_takeR HBK.out (k + 1)
      have hc3 : sumB (bk.take (k + 1)) = sumB (bk.take k) + x.n := by rw [hts, sumB_append]; simp [sumB]
      have hc4 := HSUM.out
      obtain ⟨fc, hfc⟩ : ∃ fc, fc = f + comeN now (bk.take k) := ⟨_, rfl⟩
      have hfb : 0 ≤ fc ∧ fc + x.n ≤ 2000 := by omega
      have hgH : g ≠ H := (HC.out.le g (by rw [hea]; rfl)).2
      have hHg : H ≠ g := fun e => hgH e.symm
      have b3 := HC.out.c3
      rw [← hfc] at b3
      have f3 := HC.out.fz 3
      have HFC := Lib.hid hfc
      have HEA := Lib.hid hea
      have e1 : IntKind.i64.wrap (fc + x.n) = fc + x.n := IntWalk.i64_in _ (by omega)
      rw [hea] at b5
      clear hx hts hc0 hc1 hc2 hc3 hc4 hfc hoe hea
      by_cases q : x.at_ ≤ now
      · have t0 : decide (x.at_ ≤ now) = true := decide_eq_true q
        have HCN : Hid (comeN now (bk.take (k + 1)) = comeN now (bk.take k) + x.n) := Lib.hid (by rw [HTS.out, comeN_snoc, if_pos q])
        have HSN : Hid (stayN now (bk.take (k + 1)) = stayN now (bk.take k)) := Lib.hid (by rw [HTS.out, stayN_snoc, if_pos q, List.append_nil])
        go_upto_region 5 with fail
        go_region
        go_wp2_with fail
        go_roundw
        case rel =>
          have hX : But H wr (wr.setCell ⟨H, 3, none⟩ (.int .i64 (fc + x.n))).drew := ((But.refl H wr).set 3 _).drew
          refine ⟨k + 1, cap, m, ao, by omega, by omega, rfl, by go_num, Lib.hid (by rw [HSN.out]; exact HM.out), Lib.hid ?_, Lib.hid ?_, HA, Lib.hid (HB.out.trans hX)⟩
          · rw [HCN.out, show f + (comeN now (bk.take k) + x.n) = fc + x.n by rw [HFC.out]; omega]
            exact HC.out.boxed (set_at HC.out.box) (fun q hq hqn => hX.block q hq hqn)
          · rw [HSN.out]
            refine HO.out.hold (fun g hg => hX.block g (HO.out.lt g hg) ?_)
            rw [own_ob] at hg
            have h1 := HA.out g hg
            have h2 := HLT.out H (.inl rfl)
            omega
        case measure => simp [intOf]; omega
      · have t0 : decide (x.at_ ≤ now) = false := decide_eq_false q
        have HCN : Hid (comeN now (bk.take (k + 1)) = comeN now (bk.take k)) := Lib.hid (by rw [HTS.out, comeN_snoc, if_neg q, Int.add_zero])
        have HSN : Hid (stayN now (bk.take (k + 1)) = stayN now (bk.take k) ++ [x]) := Lib.hid (by rw [HTS.out, stayN_snoc, if_neg q])
        obtain ⟨xs, hxs⟩ : ∃ xs, xs = (stayN now (bk.take k)).flatMap Bk.cells := ⟨_, rfl⟩
        have HXS := Lib.hid hxs
        have hoV := HO.out.later (below1 wr (.cells #[.int .i64 x.at_, .int .i64 x.n] 62))
        rw [← hxs] at hoV
        have HV : Hid (ORow (wr.alloc (.cells #[.int .i64 x.at_, .int .i64 x.n] 62)) 62 2 (.slice ao m cap) m xs ∧ Lies (wr.alloc (.cells #[.int .i64 x.at_, .int .i64 x.n] 62)) wr.heap.size (wr.heap.size + 1) (.slice (some ⟨wr.heap.size, 0, none⟩) 1 1) 1 2 [.int .i64 x.at_, .int .i64 x.n]) := Lib.hid ⟨hoV, one_lies (heap_alloc_new _ _) rfl⟩
        clear hoV hxs
        go_wp2_with (first
          | (refine wpList_append_off (by rfl) (.tmp 43) (.tmp 51) 35 (by rfl) 62 i0 _ 2 16 Try.underlying35 HI.out hz0 hz1 hz2 rfl (by omega) (.slice ao m cap) m xs (by rfl) HV.out.1 (.slice (some ⟨wr.heap.size, 0, none⟩) 1 1) wr.heap.size (wr.heap.size + 1) 1 [.int .i64 x.at_, .int .i64 x.n] (by rfl) HV.out.2 (bk_one ⟨x.at_, x.n⟩) (by omega) (by simp only [maxLen]; omega) (by omega) ?_
             intro ao2 cap2 w6 hown6' hgrow6' hob6'
             have hown6 := Lib.hid hown6'
             have hgrow6 := Lib.hid hgrow6'
             have hob6 := Lib.hid hob6'
             clear hown6' hgrow6' hob6')
          | fail "no arm")
        go_roundw
        case rel =>
          have hg6 := hgrow6.out
          have ho6 := hob6.out
          rw [own_ob] at hg6
          rw [own_ob, own_ob] at ho6
          have hBV := below1 wr (.cells #[.int .i64 x.at_, .int .i64 x.n] 62)
          have s1 := hBV.size
          have s2 := hg6.size
          have s3 := HB.out.size
          have hao : ∀ q, ob ao = some q → w.heap.size ≤ q := HA.out
          have hsame : ∀ q, q < wr.heap.size → ob ao ≠ some q → w6.heap[q]? = wr.heap[q]? := fun q hq hn => (hg6.block q (by omega) (fun e => hn e.symm)).trans (hBV.block q hq)
          refine ⟨k + 1, cap2, m + 1, ao2, by omega, by omega, rfl, by go_num, Lib.hid (by rw [HSN.out, List.length_append, ← HM.out]; rfl), Lib.hid ?_, Lib.hid ?_, Lib.hid ?_, Lib.hid ?_⟩
          · rw [HCN.out]
            refine HC.out.hold (fun q hq => hsame q (HC.out.lt q hq) (fun e => ?_))
            have h1 := hao q e
            have h2 := HLT.out q hq
            omega
          · rw [HSN.out, List.flatMap_append, ← HXS.out]
            simpa [Bk.cells] using hown6.out
          · intro q hq
            rcases ho6 with e | e
            · exact hao q (by rw [← e]; exact hq)
            · rw [e] at hq; cases hq; omega
          · exact ⟨hg6.os.trans (hBV.os.trans HB.out.os), hg6.tape.trans (hBV.tape.trans HB.out.tape), hg6.output.trans (hBV.output.trans HB.out.output), by omega, fun q hq hqH => (hsame q (by omega) (fun e => by have := hao q e; omega)).trans (HB.out.block q hq hqH)⟩
        case measure => simp [intOf]; omega
    · have tk : decide ((k : Int) < (n : Int)) = false := by simp; omega
      have hkn : k = n := by omega
      subst hkn
      rw [List.take_of_length_le (by rw [← HN.out]; exact Nat.le_refl _)] at HM HC HO
      have f5 := HC.out.fz 5
      obtain ⟨fc, hfc⟩ : ∃ fc, fc = f + comeN now bk := ⟨_, rfl⟩
      rw [← hfc] at HC HDEF
      obtain ⟨hbk, hgr⟩ := HC.out.backed (w0 := w) (ao := ao) (cap := cap) (en' := stayN now bk) ⟨HB.out.os, HB.out.tape, HB.out.output, HB.out.size, fun q hq hn => HB.out.block q hq (fun e => hn (.inl e)), fun q hq => .inl hq⟩ HLT.out (by rw [← HM.out]; exact HO.out) HA.out
      rw [← HM.out] at hbk hgr
      obtain ⟨U, hU⟩ : ∃ U, U = wr.setCell ⟨H, 5, none⟩ (.slice ao m cap) := ⟨_, rfl⟩
      rw [← hU] at hbk hgr
      have c3 := hbk.c3
      have c6 := hbk.c6
      have hfb : 0 ≤ fc := by have := comeN_pos now bk HBK.out; have := HSUM.out; omega
      have HU := Lib.hid hU
      have HKU := Lib.hid hbk
      have HGU := Lib.hid hgr
      clear hfc hbk hgr hU
      go_upto_region 8 with fail
      rw [← HU.out]
      have hno : (busy && !st && decide (0 < fc)) = false → ∃ S', RgAt H s (goB ⟨f, lv, bk, st⟩ now busy) U S' ∧ GrowS (Rl H la ea) S' w U := fun hf => by
        have e := HDEF.out
        rw [hf, if_neg (by simp)] at e
        rw [e]
        exact ⟨_, ⟨la, ao, lc, cap, HKU.out, rfl⟩, HGU.out⟩
      have HNO := Lib.hid hno
      clear hno
      cases hbz : busy with
      | false =>
        subst hbz
        go_wp2_with fail
        go_end0
        obtain ⟨S', q1, q2⟩ := HNO.out (by simp)
        first | exact ⟨S', rfl, q1, q2⟩ | exact ⟨rfl, S', q1, q2⟩
      | true =>
        subst hbz
        cases hst : st with
        | true =>
          subst hst
          go_wp2_with fail
          go_end0
          obtain ⟨S', q1, q2⟩ := HNO.out (by simp)
          first | exact ⟨S', rfl, q1, q2⟩ | exact ⟨rfl, S', q1, q2⟩
        | false =>
          subst hst
          by_cases hz : 0 < fc
          · have t0 : decide (0 < fc) = true := decide_eq_true hz
            clear HNO
            go_upto_region 9 with fail
            obtain ⟨n, hn⟩ : ∃ n, n = lv.length := ⟨_, rfl⟩
            obtain ⟨xs, hxs⟩ : ∃ xs, xs = lv.flatMap Wn.cells := ⟨_, rfl⟩
            have c4 := HKU.out.c4
            rw [← hn] at c4
            have hn4 : n ≤ 1000 := by rw [hn]; exact HLIVE.out
            have hl0 := HKU.out.l
            rw [← hn, ← hxs] at hl0
            have hl1 : Lies U 0 U.heap.size (.slice la n lc) n 3 xs := hl0.lies (fun g hg => ⟨Nat.zero_le _, hl0.lt g hg⟩)
            have HX1 : Hid (∀ u ∈ xs, u.oneCell' = true) := Lib.hid (by rw [hxs]; exact flat_one Wn.cells wn_one _)
            have HL : Hid (∀ W, Below U.heap.size U W → Lies W 0 U.heap.size (.slice la n lc) n 3 xs) := Lib.hid (fun W hW => hl1.keep (SameIn.of_below hW (Nat.le_refl _)))
            have HE0 : Hid (∀ W, Below U.heap.size U W → (W.alloc (.cells #[] 63)).ownsRow U.heap.size 63 3 (.slice (some ⟨W.heap.size, 0, none⟩) 0 0) 0 [] ∧ ∀ o, ((W.alloc (.cells #[] 63)).alloc o).ownsRow U.heap.size 63 3 (.slice (some ⟨W.heap.size, 0, none⟩) 0 0) 0 []) := Lib.hid (fun W hW => by
              have h1 : (W.alloc (.cells #[] 63)).ownsRow U.heap.size 63 3 (.slice (some ⟨W.heap.size, 0, none⟩) 0 0) 0 [] := ⟨by simp, .inr ⟨W.heap.size, 0, #[], rfl, hW.size, heap_alloc_new _ _, Nat.le_refl _, by simp [maxLen], by simp, by simp⟩⟩
              exact ⟨h1, fun o => owns_later h1 (below1 _ _)⟩)
            have KB : Hid (∀ W, Below U.heap.size U W → W.cell? ⟨H, 3, none⟩ = some (.int .i64 fc)) := Lib.hid (fun W hW => (HKU.out.later hW).c3)
            have KST : Hid (∀ W v, Below U.heap.size U W → (W.setCell ⟨H, 4, none⟩ v).cell? ⟨H, 3, none⟩ = some (.int .i64 fc)) := Lib.hid (fun W v hW => cell_in (set_at (HKU.out.later hW).box) (by rfl))
            have KC : Hid (∀ W, Below U.heap.size U W → W.cell? ⟨H, 4, none⟩ = some (.slice la n lc) ∧ W.frozen? ⟨H, 4, none⟩ = false) := Lib.hid (fun W hW => ⟨by rw [hn]; exact (HKU.out.later hW).c4, (HKU.out.later hW).fz 4⟩)
            have hca : ∀ o, (U.alloc o).cell? ⟨H, 4, none⟩ = some (.slice la n lc) := fun o => (KC.out _ (below1 _ _)).1
            have hcb : ∀ o o', ((U.alloc o).alloc o').cell? ⟨H, 4, none⟩ = some (.slice la n lc) := fun o o' => (KC.out _ (b_alloc (below1 _ _) (Nat.le_refl _) _)).1
            have HNL := Lib.hid hn
            have HXS := Lib.hid hxs
            clear hl0 hl1 hn hxs
            refine wp_region_noPanic ?_
            refine wp_region_held_drew (S := fun W => W.cell? ⟨H, 3, none⟩ = some (.int .i64 fc)) (by kernel_rfl) ?_ (fun hHeld => ?_)
            · (first | exact c3 | exact KST.out _ _ hb7.out | exact KB.out _ hb7.out | exact KB.out _ hb6.out | exact KB.out _ (b_alloc hb6.out (Nat.le_refl _) _) | exact KB.out _ (by repeat first | exact Below.refl _ _ | refine Below.drew ?_ | refine b_alloc ?_ (Nat.le_refl _) _))
            refine wpAnyH_takeE (i := 0) (d := some 72) (v := ?_) rfl rfl (by kernel_rfl) (by kernel_rfl) (by kernel_rfl) (fun _ _ _ h => h) (Or.inl ⟨by rfl, ?_⟩) (by assumption) ?_
            rotate_left
            · intro w hSw
              (try dsimp only at hSw)
              go_simp
              try (with_reducible rfl)
            simp only [Act.put, List.setIfInBounds_toArray, List.set_cons_zero, List.set_cons_succ]
            refine wpAnyH_takeE (i := 2) (d := some 74) (v := ?_) rfl rfl (by kernel_rfl) (by kernel_rfl) (by kernel_rfl) (fun _ _ _ h => h) (Or.inl ⟨by rfl, ?_⟩) (by assumption) ?_
            rotate_left
            · intro w hSw
              (try dsimp only at hSw)
              go_simp
              try (with_reducible rfl)
            simp only [Act.put, List.setIfInBounds_toArray, List.set_cons_zero, List.set_cons_succ]
            refine wpAnyH_takeE (i := 3) (d := some 75) (v := ?_) rfl rfl (by kernel_rfl) (by kernel_rfl) (by kernel_rfl) (fun _ _ _ h => h) (Or.inl ⟨by rfl, ?_⟩) (by assumption) ?_
            rotate_left
            · intro w hSw
              (try dsimp only at hSw)
              go_simp
              try (with_reducible rfl)
            simp only [Act.put, List.setIfInBounds_toArray, List.set_cons_zero, List.set_cons_succ]
            refine wpAnyH_takeE (i := 4) (d := some 76) (v := ?_) rfl rfl (by kernel_rfl) (by kernel_rfl) (by kernel_rfl) (fun _ _ _ h => h) (Or.inl ⟨by rfl, ?_⟩) (by assumption) ?_
            rotate_left
            · intro w hSw
              (try dsimp only at hSw)
              go_simp
              try (with_reducible rfl)
            simp only [Act.put, List.setIfInBounds_toArray, List.set_cons_zero, List.set_cons_succ]
            refine wpAnyH_takeE (i := 7) (d := some 79) (v := ?_) rfl rfl (by kernel_rfl) (by kernel_rfl) (by kernel_rfl) (fun _ _ _ h => h) (Or.inl ⟨by rfl, ?_⟩) (by assumption) ?_
            rotate_left
            · intro w hSw
              (try dsimp only at hSw)
              go_simp
              try (with_reducible rfl)
            simp only [Act.put, List.setIfInBounds_toArray, List.set_cons_zero, List.set_cons_succ]
            refine wpAnyH_takeE (i := 8) (d := some 80) (v := ?_) rfl rfl (by kernel_rfl) (by kernel_rfl) (by kernel_rfl) (fun _ _ _ h => h) (Or.inl ⟨by rfl, ?_⟩) (by assumption) ?_
            rotate_left
            · intro w hSw
              (try dsimp only at hSw)
              go_simp
              try (with_reducible rfl)
            simp only [Act.put, List.setIfInBounds_toArray, List.set_cons_zero, List.set_cons_succ]
            refine wpAnyH_takeE (i := 9) (d := some 81) (v := ?_) rfl rfl (by kernel_rfl) (by kernel_rfl) (by kernel_rfl) (fun _ _ _ h => h) (Or.inl ⟨by rfl, ?_⟩) (by assumption) ?_
            rotate_left
            · intro w hSw
              (try dsimp only at hSw)
              go_simp
              try (with_reducible rfl)
            simp only [Act.put, List.setIfInBounds_toArray, List.set_cons_zero, List.set_cons_succ]
            refine wpAnyH_takeE (i := 10) (d := some 82) (v := ?_) rfl rfl (by kernel_rfl) (by kernel_rfl) (by kernel_rfl) (fun _ _ _ h => h) (Or.inl ⟨by rfl, ?_⟩) (by assumption) ?_
            rotate_left
            · intro w hSw
              (try dsimp only at hSw)
              go_simp
              try (with_reducible rfl)
            simp only [Act.put, List.setIfInBounds_toArray, List.set_cons_zero, List.set_cons_succ]
            refine wpAnyH_takeE (i := 11) (d := some 83) (v := ?_) rfl rfl (by kernel_rfl) (by kernel_rfl) (by kernel_rfl) (fun _ _ _ h => h) (Or.inl ⟨by rfl, ?_⟩) (by assumption) ?_
            rotate_left
            · intro w hSw
              (try dsimp only at hSw)
              go_simp
              try (with_reducible rfl)
            simp only [Act.put, List.setIfInBounds_toArray, List.set_cons_zero, List.set_cons_succ]
            refine wpAnyH_takeE (i := 12) (d := some 84) (v := ?_) rfl rfl (by kernel_rfl) (by kernel_rfl) (by kernel_rfl) (fun _ _ _ h => h) (Or.inl ⟨by rfl, ?_⟩) (by assumption) ?_
            rotate_left
            · intro w hSw
              (try dsimp only at hSw)
              go_simp
              try (with_reducible rfl)
            simp only [Act.put, List.setIfInBounds_toArray, List.set_cons_zero, List.set_cons_succ]
            refine wpAnyH_ready (rs := [1, 5, 13]) (by kernel_rfl) (by simp) ?_
            refine AllReadyH.cons rfl (fun K hK => ?_) (AllReadyH.cons rfl (fun K hK => ?_) (AllReadyH.cons rfl (fun K hK => ?_) AllReadyH.nil))
            · go_simp
              refine hK.out _ _ ?_ (fun hHeld => ?_)
              · (first | exact c3 | exact KST.out _ _ hb7.out | exact KB.out _ hb7.out | exact KB.out _ hb6.out | exact KB.out _ (b_alloc hb6.out (Nat.le_refl _) _) | exact KB.out _ (by repeat first | exact Below.refl _ _ | refine Below.drew ?_ | refine b_alloc ?_ (Nat.le_refl _) _))
              clear hK K
              try simp only [Act.put, List.setIfInBounds_toArray, List.set_cons_zero, List.set_cons_succ]
              refine wpAnyH_ready (rs := [5, 13]) (by kernel_rfl) (by simp) ?_
              refine AllReadyH.cons rfl (fun K hK => ?_) (AllReadyH.cons rfl (fun K hK => ?_) AllReadyH.nil)
              · go_simp
                refine hK.out _ _ ?_ (fun hHeld => ?_)
                · (first | exact c3 | exact KST.out _ _ hb7.out | exact KB.out _ hb7.out | exact KB.out _ hb6.out | exact KB.out _ (b_alloc hb6.out (Nat.le_refl _) _) | exact KB.out _ (by repeat first | exact Below.refl _ _ | refine Below.drew ?_ | refine b_alloc ?_ (Nat.le_refl _) _))
                clear hK K
                try simp only [Act.put, List.setIfInBounds_toArray, List.set_cons_zero, List.set_cons_succ]
                refine wpAnyH_ready (rs := [6, 13]) (by kernel_rfl) (by simp) ?_
                refine AllReadyH.cons rfl (fun K hK => ?_) (AllReadyH.cons rfl (fun K hK => ?_) AllReadyH.nil)
                · (first
                    | (refine step_append_lie2 (by rfl) (.tmp 73) (.tmp 77) 34 (by rfl) U.heap.size 63 i1 _ 3 24 Try.underlying34 HJ.out hy0 hy1 hy2 rfl (by omega) (.slice (some ⟨U.heap.size, 0, none⟩) 0 0) 0 [] (by rfl) ((HE0.out U (Below.refl _ _)).1) (.slice la n lc) (0) (U.heap.size) n xs (by rfl) (HL.out _ (by repeat first | exact Below.refl _ _ | refine Below.drew ?_ | refine b_alloc ?_ (Nat.le_refl _) _)) HX1.out n (by omega) (by simp only [maxLen]; omega) (by omega) (by first | omega | (simp [World.drew]; done) | (simp [World.drew]; omega)) ?_
                       intro ao6 cap6 w6 hown6' hgrow6' hob6'
                       have hown6 := Lib.hid (hown6' : w6.ownsRow U.heap.size 63 3 (.slice ao6 n cap6) n xs)
                       have hb6 : Hid (Below U.heap.size U w6) := Lib.hid (Below.grown (by repeat first | exact Below.refl _ _ | refine Below.drew ?_ | refine b_alloc ?_ (Nat.le_refl _) _) hgrow6' (by first | omega | (simp [World.drew]; done) | (simp [World.drew]; omega)) (fun q hq => by cases hq; exact Nat.le_refl _))
                       skip
                       clear hown6' hgrow6' hob6')
                    | (refine step_append_lie2 (by rfl) (.tmp 73) (.tmp 77) 34 (by rfl) U.heap.size 63 i1 _ 3 24 Try.underlying34 HJ.out hy0 hy1 hy2 rfl (by omega) (.slice (some ⟨U.heap.size, 0, none⟩) 0 0) 0 [] (by rfl) ((HE0.out U (Below.refl _ _)).2 _) (.slice la n lc) (0) (U.heap.size) n xs (by rfl) (HL.out _ (by repeat first | exact Below.refl _ _ | refine Below.drew ?_ | refine b_alloc ?_ (Nat.le_refl _) _)) HX1.out n (by omega) (by simp only [maxLen]; omega) (by omega) (by first | omega | (simp [World.drew]; done) | (simp [World.drew]; omega)) ?_
                       intro ao6 cap6 w6 hown6' hgrow6' hob6'
                       have hown6 := Lib.hid (hown6' : w6.ownsRow U.heap.size 63 3 (.slice ao6 n cap6) n xs)
                       have hb6 : Hid (Below U.heap.size U w6) := Lib.hid (Below.grown (by repeat first | exact Below.refl _ _ | refine Below.drew ?_ | refine b_alloc ?_ (Nat.le_refl _) _) hgrow6' (by first | omega | (simp [World.drew]; done) | (simp [World.drew]; omega)) (fun q hq => by cases hq; exact Nat.le_refl _))
                       have hr6 : Hid (Lies w6 (U.heap.size + 1) (U.heap.size + 2) (.slice (some ⟨U.heap.size + 1, 0, none⟩) 1 1) 1 3 [.int .i64 now, .int .i64 fc, .int .i64 0]) := Lib.hid (one_lies (cs := #[.int .i64 now, .int .i64 fc, .int .i64 0]) ((hgrow6'.block (U.heap.size + 1) (by first | omega | (simp [World.drew]; done) | (simp [World.drew]; omega)) (by simp [Value.ownBlock])).trans (by simpa [World.drew] using heap_alloc_new (U.alloc (.cells #[] 63)) (.cells #[.int .i64 now, .int .i64 fc, .int .i64 0] 63))) rfl)
                       clear hown6' hgrow6' hob6')
                    | (refine step_append_lie2 (by rfl) (.tmp 73) (.tmp 77) 34 (by rfl) U.heap.size 63 i1 _ 3 24 Try.underlying34 HJ.out hy0 hy1 hy2 rfl (by omega) (.slice (some ⟨U.heap.size + 1, 0, none⟩) 0 0) 0 [] (by rfl) (by have h := (HE0.out (U.alloc (.cells #[.int .i64 now, .int .i64 fc, .int .i64 0] 63)) (below1 _ _)).1; rw [show (U.alloc (.cells #[.int .i64 now, .int .i64 fc, .int .i64 0] 63)).heap.size = U.heap.size + 1 by simp] at h; exact h) (.slice la n lc) (0) (U.heap.size) n xs (by rfl) (HL.out _ (by repeat first | exact Below.refl _ _ | refine Below.drew ?_ | refine b_alloc ?_ (Nat.le_refl _) _)) HX1.out n (by omega) (by simp only [maxLen]; omega) (by omega) (by first | omega | (simp [World.drew]; done) | (simp [World.drew]; omega)) ?_
                       intro ao6 cap6 w6 hown6' hgrow6' hob6'
                       have hown6 := Lib.hid (hown6' : w6.ownsRow U.heap.size 63 3 (.slice ao6 n cap6) n xs)
                       have hb6 : Hid (Below U.heap.size U w6) := Lib.hid (Below.grown (by repeat first | exact Below.refl _ _ | refine Below.drew ?_ | refine b_alloc ?_ (Nat.le_refl _) _) hgrow6' (by first | omega | (simp [World.drew]; done) | (simp [World.drew]; omega)) (fun q hq => by cases hq; exact Nat.le_succ _))
                       have hr6 : Hid (Lies w6 U.heap.size (U.heap.size + 1) (.slice (some ⟨U.heap.size, 0, none⟩) 1 1) 1 3 [.int .i64 now, .int .i64 fc, .int .i64 0]) := Lib.hid (one_lies (cs := #[.int .i64 now, .int .i64 fc, .int .i64 0]) ((hgrow6'.block U.heap.size (by first | omega | (simp [World.drew]; done) | (simp [World.drew]; omega)) (by simp [Value.ownBlock])).trans (((below1 (U.alloc (.cells #[.int .i64 now, .int .i64 fc, .int .i64 0] 63)) (.cells #[] 63)).block U.heap.size (by simp)).trans (heap_alloc_new U (.cells #[.int .i64 now, .int .i64 fc, .int .i64 0] 63)))) rfl)
                       clear hown6' hgrow6' hob6'))
                  refine hK.out _ _ ?_ (fun hHeld => ?_)
                  · (first | exact c3 | exact KST.out _ _ hb7.out | exact KB.out _ hb7.out | exact KB.out _ hb6.out | exact KB.out _ (b_alloc hb6.out (Nat.le_refl _) _) | exact KB.out _ (by repeat first | exact Below.refl _ _ | refine Below.drew ?_ | refine b_alloc ?_ (Nat.le_refl _) _))
                  clear hK K
                  try simp only [Act.put, List.setIfInBounds_toArray, List.set_cons_zero, List.set_cons_succ]
                  refine wpAnyH_ready (rs := [13]) (by kernel_rfl) (by simp) ?_
                  refine AllReadyH.cons rfl (fun K hK => ?_) AllReadyH.nil
                  go_simp
                  refine hK.out _ _ ?_ (fun hHeld => ?_)
                  · (first | exact c3 | exact KST.out _ _ hb7.out | exact KB.out _ hb7.out | exact KB.out _ hb6.out | exact KB.out _ (b_alloc hb6.out (Nat.le_refl _) _) | exact KB.out _ (by repeat first | exact Below.refl _ _ | refine Below.drew ?_ | refine b_alloc ?_ (Nat.le_refl _) _))
                  clear hK K
                  try simp only [Act.put, List.setIfInBounds_toArray, List.set_cons_zero, List.set_cons_succ]
                  refine wpAnyH_ready (rs := [14]) (by kernel_rfl) (by simp) ?_
                  refine AllReadyH.cons rfl (fun K hK => ?_) AllReadyH.nil
                  (first
                    | (refine step_append_lie2 (by rfl) (.tmp 78) (.tmp 85) 34 (by rfl) U.heap.size 63 i1 _ 3 24 Try.underlying34 HJ.out hy0 hy1 hy2 rfl (by omega) (.slice ao6 n cap6) n xs (by rfl) (owns_later hown6.out (below1 _ _)) (.slice (some ⟨w6.heap.size, 0, none⟩) 1 1) (w6.heap.size) (w6.heap.size + 1) 1 [.int .i64 now, .int .i64 fc, .int .i64 0] (by rfl) (one_lies (cs := #[.int .i64 now, .int .i64 fc, .int .i64 0]) (heap_alloc_new w6 _) rfl) (wn_one ⟨now, fc, 0⟩) (n + 1) rfl (by simp only [maxLen]; omega) (by omega) (by have h := hb6.out.size; first | omega | (simp [World.drew]; done) | (simp [World.drew]; omega)) ?_
                       intro ao7 cap7 w7 hown7' hgrow7' hob7'
                       have hown7 := Lib.hid hown7'
                       have hb7 : Hid (Below U.heap.size U w7) := Lib.hid (Below.grown ((b_alloc hb6.out (Nat.le_refl _) _).drew) hgrow7' (by have h := hb6.out.size; first | omega | (simp [World.drew]; done) | (simp [World.drew]; omega)) (fun q hq => (owns_block (hown6.out) q hq).1))
                       obtain ⟨hu7, hf7⟩ := KC.out _ hb7.out
                       clear hown7' hgrow7' hob7')
                    | (refine step_append_lie2 (by rfl) (.tmp 78) (.tmp 85) 34 (by rfl) U.heap.size 63 i1 _ 3 24 Try.underlying34 HJ.out hy0 hy1 hy2 rfl (by omega) (.slice ao6 n cap6) n xs (by rfl) (owns_later hown6.out (below1 _ _)) (.slice (some ⟨w6.heap.size, 0, none⟩) 1 1) (w6.heap.size) (w6.heap.size + 1) 1 [.int .i64 now, .int .i64 fc, .int .i64 0] (by rfl) (one_lies (cs := #[.int .i64 now, .int .i64 fc, .int .i64 0]) (heap_alloc_new w6 _) rfl) (wn_one ⟨now, fc, 0⟩) (n + 1) rfl (by simp only [maxLen]; omega) (by omega) (by have h := hb6.out.size; first | omega | (simp [World.drew]; done) | (simp [World.drew]; omega)) ?_
                       intro ao7 cap7 w7 hown7' hgrow7' hob7'
                       have hown7 := Lib.hid hown7'
                       have hb7 : Hid (Below U.heap.size U w7) := Lib.hid (Below.grown (b_alloc hb6.out (Nat.le_refl _) _) hgrow7' (by have h := hb6.out.size; first | omega | (simp [World.drew]; done) | (simp [World.drew]; omega)) (fun q hq => (owns_block (hown6.out) q hq).1))
                       obtain ⟨hu7, hf7⟩ := KC.out _ hb7.out
                       clear hown7' hgrow7' hob7')
                    | (refine step_append_lie2 (by rfl) (.tmp 78) (.tmp 85) 34 (by rfl) U.heap.size 63 i1 _ 3 24 Try.underlying34 HJ.out hy0 hy1 hy2 rfl (by omega) (.slice ao6 n cap6) n xs (by rfl) (hown6.out) (.slice (some ⟨U.heap.size + 1, 0, none⟩) 1 1) (U.heap.size + 1) (U.heap.size + 2) 1 [.int .i64 now, .int .i64 fc, .int .i64 0] (by rfl) (hr6.out) (wn_one ⟨now, fc, 0⟩) (n + 1) rfl (by simp only [maxLen]; omega) (by omega) (by have h := hb6.out.size; first | omega | (simp [World.drew]; done) | (simp [World.drew]; omega)) ?_
                       intro ao7 cap7 w7 hown7' hgrow7' hob7'
                       have hown7 := Lib.hid hown7'
                       have hb7 : Hid (Below U.heap.size U w7) := Lib.hid (Below.grown (hb6.out) hgrow7' (by have h := hb6.out.size; first | omega | (simp [World.drew]; done) | (simp [World.drew]; omega)) (fun q hq => (owns_block (hown6.out) q hq).1))
                       obtain ⟨hu7, hf7⟩ := KC.out _ hb7.out
                       clear hown7' hgrow7' hob7')
                    | (refine step_append_lie2 (by rfl) (.tmp 78) (.tmp 85) 34 (by rfl) U.heap.size 63 i1 _ 3 24 Try.underlying34 HJ.out hy0 hy1 hy2 rfl (by omega) (.slice ao6 n cap6) n xs (by rfl) (hown6.out) (.slice (some ⟨U.heap.size + 1, 0, none⟩) 1 1) (U.heap.size + 1) (U.heap.size + 2) 1 [.int .i64 now, .int .i64 fc, .int .i64 0] (by rfl) (hr6.out) (wn_one ⟨now, fc, 0⟩) (n + 1) rfl (by simp only [maxLen]; omega) (by omega) (by have h := hb6.out.size; first | omega | (simp [World.drew]; done) | (simp [World.drew]; omega)) ?_
                       intro ao7 cap7 w7 hown7' hgrow7' hob7'
                       have hown7 := Lib.hid hown7'
                       have hb7 : Hid (Below U.heap.size U w7) := Lib.hid (Below.grown (hb6.out.drew) hgrow7' (by have h := hb6.out.size; first | omega | (simp [World.drew]; done) | (simp [World.drew]; omega)) (fun q hq => (owns_block (hown6.out) q hq).1))
                       obtain ⟨hu7, hf7⟩ := KC.out _ hb7.out
                       clear hown7' hgrow7' hob7')
                    | (refine step_append_lie2 (by rfl) (.tmp 78) (.tmp 85) 34 (by rfl) U.heap.size 63 i1 _ 3 24 Try.underlying34 HJ.out hy0 hy1 hy2 rfl (by omega) (.slice ao6 n cap6) n xs (by rfl) (hown6.out) (.slice (some ⟨U.heap.size, 0, none⟩) 1 1) (U.heap.size) (U.heap.size + 1) 1 [.int .i64 now, .int .i64 fc, .int .i64 0] (by rfl) (hr6.out) (wn_one ⟨now, fc, 0⟩) (n + 1) rfl (by simp only [maxLen]; omega) (by omega) (by have h := hb6.out.size; first | omega | (simp [World.drew]; done) | (simp [World.drew]; omega)) ?_
                       intro ao7 cap7 w7 hown7' hgrow7' hob7'
                       have hown7 := Lib.hid hown7'
                       have hb7 : Hid (Below U.heap.size U w7) := Lib.hid (Below.grown (hb6.out) hgrow7' (by have h := hb6.out.size; first | omega | (simp [World.drew]; done) | (simp [World.drew]; omega)) (fun q hq => (owns_block (hown6.out) q hq).1))
                       obtain ⟨hu7, hf7⟩ := KC.out _ hb7.out
                       clear hown7' hgrow7' hob7')
                    | (refine step_append_lie2 (by rfl) (.tmp 78) (.tmp 85) 34 (by rfl) U.heap.size 63 i1 _ 3 24 Try.underlying34 HJ.out hy0 hy1 hy2 rfl (by omega) (.slice ao6 n cap6) n xs (by rfl) (hown6.out) (.slice (some ⟨U.heap.size, 0, none⟩) 1 1) (U.heap.size) (U.heap.size + 1) 1 [.int .i64 now, .int .i64 fc, .int .i64 0] (by rfl) (hr6.out) (wn_one ⟨now, fc, 0⟩) (n + 1) rfl (by simp only [maxLen]; omega) (by omega) (by have h := hb6.out.size; first | omega | (simp [World.drew]; done) | (simp [World.drew]; omega)) ?_
                       intro ao7 cap7 w7 hown7' hgrow7' hob7'
                       have hown7 := Lib.hid hown7'
                       have hb7 : Hid (Below U.heap.size U w7) := Lib.hid (Below.grown (hb6.out.drew) hgrow7' (by have h := hb6.out.size; first | omega | (simp [World.drew]; done) | (simp [World.drew]; omega)) (fun q hq => (owns_block (hown6.out) q hq).1))
                       obtain ⟨hu7, hf7⟩ := KC.out _ hb7.out
                       clear hown7' hgrow7' hob7'))
                  refine hK.out _ _ ?_ (fun hHeld => ?_)
                  · (first | exact c3 | exact KST.out _ _ hb7.out | exact KB.out _ hb7.out | exact KB.out _ hb6.out | exact KB.out _ (b_alloc hb6.out (Nat.le_refl _) _) | exact KB.out _ (by repeat first | exact Below.refl _ _ | refine Below.drew ?_ | refine b_alloc ?_ (Nat.le_refl _) _))
                  clear hK K
                  try simp only [Act.put, List.setIfInBounds_toArray, List.set_cons_zero, List.set_cons_succ]
                  refine wpAnyH_takeE (i := 15) (d := some 87) (v := ?_) rfl rfl (by kernel_rfl) (by kernel_rfl) (by kernel_rfl) (fun _ _ _ h => h) (Or.inl ⟨by rfl, ?_⟩) (by assumption) ?_
                  rotate_left
                  · intro w hSw
                    (try dsimp only at hSw)
                    go_simp
                    try (with_reducible rfl)
                  simp only [Act.put, List.setIfInBounds_toArray, List.set_cons_zero, List.set_cons_succ]
                  refine wpAnyH_takeE (i := 16) (d := some 88) (v := ?_) rfl rfl (by kernel_rfl) (by kernel_rfl) (by kernel_rfl) (fun _ _ _ h => h) (Or.inl ⟨by rfl, ?_⟩) (by assumption) ?_
                  rotate_left
                  · intro w hSw
                    (try dsimp only at hSw)
                    go_simp
                    try (with_reducible rfl)
                  simp only [Act.put, List.setIfInBounds_toArray, List.set_cons_zero, List.set_cons_succ]
                  refine wpAnyH_ready (rs := [17]) (by kernel_rfl) (by simp) ?_
                  refine AllReadyH.cons rfl (fun K hK => ?_) AllReadyH.nil
                  go_simp
                  refine hK.out _ _ ?_ (fun hHeld => ?_)
                  · (first | exact c3 | exact KST.out _ _ hb7.out | exact KB.out _ hb7.out | exact KB.out _ hb6.out | exact KB.out _ (b_alloc hb6.out (Nat.le_refl _) _) | exact KB.out _ (by repeat first | exact Below.refl _ _ | refine Below.drew ?_ | refine b_alloc ?_ (Nat.le_refl _) _))
                  clear hK K
                  try simp only [Act.put, List.setIfInBounds_toArray, List.set_cons_zero, List.set_cons_succ]
                  refine wpAnyH_done (by kernel_rfl) ?_ _
                  refine NoPanic.normal ?_
                  have hk7 := HKU.out.later hb7.out
                  obtain ⟨t1, t2⟩ := hk7.lived (w0 := U) (ao := ao7) (cap := cap7) (lv' := lv ++ [⟨now, fc, 0⟩]) (GrowS.of_below hb7.out) HKU.out.lt (by
                    have := ORow.of_owns hown7.out
                    rw [HXS.out] at this
                    simpa [HNL.out, Wn.cells] using this) (fun g hg => (World.ownsRow.lt hown7.out g (by rw [own_ob]; exact hg)).1)
                  rw [show (lv ++ [(⟨now, fc, 0⟩ : Wn)]).length = n + 1 by rw [HNL.out]; simp] at t1 t2
                  obtain ⟨Y, hY⟩ : ∃ Y, Y = w7.setCell ⟨H, 4, none⟩ (.slice ao7 (n + 1) cap7) := ⟨_, rfl⟩
                  rw [← hY] at t1 t2
                  have z3 := t1.c3
                  have zf := t1.fz 3
                  have T1 := Lib.hid t1
                  have T2 := Lib.hid t2
                  have HY := Lib.hid hY
                  clear t1 t2 hY hk7
                  rw [← HY.out]
                  go_wp2_with fail
                  go_end0
                  have hB : But H Y (Y.setCell ⟨H, 3, none⟩ (.int .i64 0)) := (But.refl H _).set 3 _
                  have t3 := T1.out.boxed (f' := 0) (st' := false) (set_at T1.out.box) (fun q hq hqn => hB.block q hq hqn)
                  have e := HDEF.out
                  rw [if_pos (by rw [t0]; rfl)] at e
                  have hgr := HGU.out.trans (T2.out.trans (grow_but hB (.inl rfl)))
                  rw [e]
                  first | exact ⟨_, rfl, ⟨_, _, _, _, t3, rfl⟩, hgr⟩ | exact ⟨rfl, _, ⟨_, _, _, _, t3, rfl⟩, hgr⟩
                · go_simp
                  refine hK.out _ _ ?_ (fun hHeld => ?_)
                  · (first | exact c3 | exact KST.out _ _ hb7.out | exact KB.out _ hb7.out | exact KB.out _ hb6.out | exact KB.out _ (b_alloc hb6.out (Nat.le_refl _) _) | exact KB.out _ (by repeat first | exact Below.refl _ _ | refine Below.drew ?_ | refine b_alloc ?_ (Nat.le_refl _) _))
                  clear hK K
                  try simp only [Act.put, List.setIfInBounds_toArray, List.set_cons_zero, List.set_cons_succ]
                  refine wpAnyH_ready (rs := [6]) (by kernel_rfl) (by simp) ?_
                  refine AllReadyH.cons rfl (fun K hK => ?_) AllReadyH.nil
                  (first
                    | (refine step_append_lie2 (by rfl) (.tmp 73) (.tmp 77) 34 (by rfl) U.heap.size 63 i1 _ 3 24 Try.underlying34 HJ.out hy0 hy1 hy2 rfl (by omega) (.slice (some ⟨U.heap.size, 0, none⟩) 0 0) 0 [] (by rfl) ((HE0.out U (Below.refl _ _)).1) (.slice la n lc) (0) (U.heap.size) n xs (by rfl) (HL.out _ (by repeat first | exact Below.refl _ _ | refine Below.drew ?_ | refine b_alloc ?_ (Nat.le_refl _) _)) HX1.out n (by omega) (by simp only [maxLen]; omega) (by omega) (by first | omega | (simp [World.drew]; done) | (simp [World.drew]; omega)) ?_
                       intro ao6 cap6 w6 hown6' hgrow6' hob6'
                       have hown6 := Lib.hid (hown6' : w6.ownsRow U.heap.size 63 3 (.slice ao6 n cap6) n xs)
                       have hb6 : Hid (Below U.heap.size U w6) := Lib.hid (Below.grown (by repeat first | exact Below.refl _ _ | refine Below.drew ?_ | refine b_alloc ?_ (Nat.le_refl _) _) hgrow6' (by first | omega | (simp [World.drew]; done) | (simp [World.drew]; omega)) (fun q hq => by cases hq; exact Nat.le_refl _))
                       skip
                       clear hown6' hgrow6' hob6')
                    | (refine step_append_lie2 (by rfl) (.tmp 73) (.tmp 77) 34 (by rfl) U.heap.size 63 i1 _ 3 24 Try.underlying34 HJ.out hy0 hy1 hy2 rfl (by omega) (.slice (some ⟨U.heap.size, 0, none⟩) 0 0) 0 [] (by rfl) ((HE0.out U (Below.refl _ _)).2 _) (.slice la n lc) (0) (U.heap.size) n xs (by rfl) (HL.out _ (by repeat first | exact Below.refl _ _ | refine Below.drew ?_ | refine b_alloc ?_ (Nat.le_refl _) _)) HX1.out n (by omega) (by simp only [maxLen]; omega) (by omega) (by first | omega | (simp [World.drew]; done) | (simp [World.drew]; omega)) ?_
                       intro ao6 cap6 w6 hown6' hgrow6' hob6'
                       have hown6 := Lib.hid (hown6' : w6.ownsRow U.heap.size 63 3 (.slice ao6 n cap6) n xs)
                       have hb6 : Hid (Below U.heap.size U w6) := Lib.hid (Below.grown (by repeat first | exact Below.refl _ _ | refine Below.drew ?_ | refine b_alloc ?_ (Nat.le_refl _) _) hgrow6' (by first | omega | (simp [World.drew]; done) | (simp [World.drew]; omega)) (fun q hq => by cases hq; exact Nat.le_refl _))
                       have hr6 : Hid (Lies w6 (U.heap.size + 1) (U.heap.size + 2) (.slice (some ⟨U.heap.size + 1, 0, none⟩) 1 1) 1 3 [.int .i64 now, .int .i64 fc, .int .i64 0]) := Lib.hid (one_lies (cs := #[.int .i64 now, .int .i64 fc, .int .i64 0]) ((hgrow6'.block (U.heap.size + 1) (by first | omega | (simp [World.drew]; done) | (simp [World.drew]; omega)) (by simp [Value.ownBlock])).trans (by simpa [World.drew] using heap_alloc_new (U.alloc (.cells #[] 63)) (.cells #[.int .i64 now, .int .i64 fc, .int .i64 0] 63))) rfl)
                       clear hown6' hgrow6' hob6')
                    | (refine step_append_lie2 (by rfl) (.tmp 73) (.tmp 77) 34 (by rfl) U.heap.size 63 i1 _ 3 24 Try.underlying34 HJ.out hy0 hy1 hy2 rfl (by omega) (.slice (some ⟨U.heap.size + 1, 0, none⟩) 0 0) 0 [] (by rfl) (by have h := (HE0.out (U.alloc (.cells #[.int .i64 now, .int .i64 fc, .int .i64 0] 63)) (below1 _ _)).1; rw [show (U.alloc (.cells #[.int .i64 now, .int .i64 fc, .int .i64 0] 63)).heap.size = U.heap.size + 1 by simp] at h; exact h) (.slice la n lc) (0) (U.heap.size) n xs (by rfl) (HL.out _ (by repeat first | exact Below.refl _ _ | refine Below.drew ?_ | refine b_alloc ?_ (Nat.le_refl _) _)) HX1.out n (by omega) (by simp only [maxLen]; omega) (by omega) (by first | omega | (simp [World.drew]; done) | (simp [World.drew]; omega)) ?_
                       intro ao6 cap6 w6 hown6' hgrow6' hob6'
                       have hown6 := Lib.hid (hown6' : w6.ownsRow U.heap.size 63 3 (.slice ao6 n cap6) n xs)
                       have hb6 : Hid (Below U.heap.size U w6) := Lib.hid (Below.grown (by repeat first | exact Below.refl _ _ | refine Below.drew ?_ | refine b_alloc ?_ (Nat.le_refl _) _) hgrow6' (by first | omega | (simp [World.drew]; done) | (simp [World.drew]; omega)) (fun q hq => by cases hq; exact Nat.le_succ _))
                       have hr6 : Hid (Lies w6 U.heap.size (U.heap.size + 1) (.slice (some ⟨U.heap.size, 0, none⟩) 1 1) 1 3 [.int .i64 now, .int .i64 fc, .int .i64 0]) := Lib.hid (one_lies (cs := #[.int .i64 now, .int .i64 fc, .int .i64 0]) ((hgrow6'.block U.heap.size (by first | omega | (simp [World.drew]; done) | (simp [World.drew]; omega)) (by simp [Value.ownBlock])).trans (((below1 (U.alloc (.cells #[.int .i64 now, .int .i64 fc, .int .i64 0] 63)) (.cells #[] 63)).block U.heap.size (by simp)).trans (heap_alloc_new U (.cells #[.int .i64 now, .int .i64 fc, .int .i64 0] 63)))) rfl)
                       clear hown6' hgrow6' hob6'))
                  refine hK.out _ _ ?_ (fun hHeld => ?_)
                  · (first | exact c3 | exact KST.out _ _ hb7.out | exact KB.out _ hb7.out | exact KB.out _ hb6.out | exact KB.out _ (b_alloc hb6.out (Nat.le_refl _) _) | exact KB.out _ (by repeat first | exact Below.refl _ _ | refine Below.drew ?_ | refine b_alloc ?_ (Nat.le_refl _) _))
                  clear hK K
                  try simp only [Act.put, List.setIfInBounds_toArray, List.set_cons_zero, List.set_cons_succ]
                  refine wpAnyH_ready (rs := [14]) (by kernel_rfl) (by simp) ?_
                  refine AllReadyH.cons rfl (fun K hK => ?_) AllReadyH.nil
                  (first
                    | (refine step_append_lie2 (by rfl) (.tmp 78) (.tmp 85) 34 (by rfl) U.heap.size 63 i1 _ 3 24 Try.underlying34 HJ.out hy0 hy1 hy2 rfl (by omega) (.slice ao6 n cap6) n xs (by rfl) (owns_later hown6.out (below1 _ _)) (.slice (some ⟨w6.heap.size, 0, none⟩) 1 1) (w6.heap.size) (w6.heap.size + 1) 1 [.int .i64 now, .int .i64 fc, .int .i64 0] (by rfl) (one_lies (cs := #[.int .i64 now, .int .i64 fc, .int .i64 0]) (heap_alloc_new w6 _) rfl) (wn_one ⟨now, fc, 0⟩) (n + 1) rfl (by simp only [maxLen]; omega) (by omega) (by have h := hb6.out.size; first | omega | (simp [World.drew]; done) | (simp [World.drew]; omega)) ?_
                       intro ao7 cap7 w7 hown7' hgrow7' hob7'
                       have hown7 := Lib.hid hown7'
                       have hb7 : Hid (Below U.heap.size U w7) := Lib.hid (Below.grown ((b_alloc hb6.out (Nat.le_refl _) _).drew) hgrow7' (by have h := hb6.out.size; first | omega | (simp [World.drew]; done) | (simp [World.drew]; omega)) (fun q hq => (owns_block (hown6.out) q hq).1))
                       obtain ⟨hu7, hf7⟩ := KC.out _ hb7.out
                       clear hown7' hgrow7' hob7')
                    | (refine step_append_lie2 (by rfl) (.tmp 78) (.tmp 85) 34 (by rfl) U.heap.size 63 i1 _ 3 24 Try.underlying34 HJ.out hy0 hy1 hy2 rfl (by omega) (.slice ao6 n cap6) n xs (by rfl) (owns_later hown6.out (below1 _ _)) (.slice (some ⟨w6.heap.size, 0, none⟩) 1 1) (w6.heap.size) (w6.heap.size + 1) 1 [.int .i64 now, .int .i64 fc, .int .i64 0] (by rfl) (one_lies (cs := #[.int .i64 now, .int .i64 fc, .int .i64 0]) (heap_alloc_new w6 _) rfl) (wn_one ⟨now, fc, 0⟩) (n + 1) rfl (by simp only [maxLen]; omega) (by omega) (by have h := hb6.out.size; first | omega | (simp [World.drew]; done) | (simp [World.drew]; omega)) ?_
                       intro ao7 cap7 w7 hown7' hgrow7' hob7'
                       have hown7 := Lib.hid hown7'
                       have hb7 : Hid (Below U.heap.size U w7) := Lib.hid (Below.grown (b_alloc hb6.out (Nat.le_refl _) _) hgrow7' (by have h := hb6.out.size; first | omega | (simp [World.drew]; done) | (simp [World.drew]; omega)) (fun q hq => (owns_block (hown6.out) q hq).1))
                       obtain ⟨hu7, hf7⟩ := KC.out _ hb7.out
                       clear hown7' hgrow7' hob7')
                    | (refine step_append_lie2 (by rfl) (.tmp 78) (.tmp 85) 34 (by rfl) U.heap.size 63 i1 _ 3 24 Try.underlying34 HJ.out hy0 hy1 hy2 rfl (by omega) (.slice ao6 n cap6) n xs (by rfl) (hown6.out) (.slice (some ⟨U.heap.size + 1, 0, none⟩) 1 1) (U.heap.size + 1) (U.heap.size + 2) 1 [.int .i64 now, .int .i64 fc, .int .i64 0] (by rfl) (hr6.out) (wn_one ⟨now, fc, 0⟩) (n + 1) rfl (by simp only [maxLen]; omega) (by omega) (by have h := hb6.out.size; first | omega | (simp [World.drew]; done) | (simp [World.drew]; omega)) ?_
                       intro ao7 cap7 w7 hown7' hgrow7' hob7'
                       have hown7 := Lib.hid hown7'
                       have hb7 : Hid (Below U.heap.size U w7) := Lib.hid (Below.grown (hb6.out) hgrow7' (by have h := hb6.out.size; first | omega | (simp [World.drew]; done) | (simp [World.drew]; omega)) (fun q hq => (owns_block (hown6.out) q hq).1))
                       obtain ⟨hu7, hf7⟩ := KC.out _ hb7.out
                       clear hown7' hgrow7' hob7')
                    | (refine step_append_lie2 (by rfl) (.tmp 78) (.tmp 85) 34 (by rfl) U.heap.size 63 i1 _ 3 24 Try.underlying34 HJ.out hy0 hy1 hy2 rfl (by omega) (.slice ao6 n cap6) n xs (by rfl) (hown6.out) (.slice (some ⟨U.heap.size + 1, 0, none⟩) 1 1) (U.heap.size + 1) (U.heap.size + 2) 1 [.int .i64 now, .int .i64 fc, .int .i64 0] (by rfl) (hr6.out) (wn_one ⟨now, fc, 0⟩) (n + 1) rfl (by simp only [maxLen]; omega) (by omega) (by have h := hb6.out.size; first | omega | (simp [World.drew]; done) | (simp [World.drew]; omega)) ?_
                       intro ao7 cap7 w7 hown7' hgrow7' hob7'
                       have hown7 := Lib.hid hown7'
                       have hb7 : Hid (Below U.heap.size U w7) := Lib.hid (Below.grown (hb6.out.drew) hgrow7' (by have h := hb6.out.size; first | omega | (simp [World.drew]; done) | (simp [World.drew]; omega)) (fun q hq => (owns_block (hown6.out) q hq).1))
                       obtain ⟨hu7, hf7⟩ := KC.out _ hb7.out
                       clear hown7' hgrow7' hob7')
                    | (refine step_append_lie2 (by rfl) (.tmp 78) (.tmp 85) 34 (by rfl) U.heap.size 63 i1 _ 3 24 Try.underlying34 HJ.out hy0 hy1 hy2 rfl (by omega) (.slice ao6 n cap6) n xs (by rfl) (hown6.out) (.slice (some ⟨U.heap.size, 0, none⟩) 1 1) (U.heap.size) (U.heap.size + 1) 1 [.int .i64 now, .int .i64 fc, .int .i64 0] (by rfl) (hr6.out) (wn_one ⟨now, fc, 0⟩) (n + 1) rfl (by simp only [maxLen]; omega) (by omega) (by have h := hb6.out.size; first | omega | (simp [World.drew]; done) | (simp [World.drew]; omega)) ?_
                       intro ao7 cap7 w7 hown7' hgrow7' hob7'
                       have hown7 := Lib.hid hown7'
                       have hb7 : Hid (Below U.heap.size U w7) := Lib.hid (Below.grown (hb6.out) hgrow7' (by have h := hb6.out.size; first | omega | (simp [World.drew]; done) | (simp [World.drew]; omega)) (fun q hq => (owns_block (hown6.out) q hq).1))
                       obtain ⟨hu7, hf7⟩ := KC.out _ hb7.out
                       clear hown7' hgrow7' hob7')
                    | (refine step_append_lie2 (by rfl) (.tmp 78) (.tmp 85) 34 (by rfl) U.heap.size 63 i1 _ 3 24 Try.underlying34 HJ.out hy0 hy1 hy2 rfl (by omega) (.slice ao6 n cap6) n xs (by rfl) (hown6.out) (.slice (some ⟨U.heap.size, 0, none⟩) 1 1) (U.heap.size) (U.heap.size + 1) 1 [.int .i64 now, .int .i64 fc, .int .i64 0] (by rfl) (hr6.out) (wn_one ⟨now, fc, 0⟩) (n + 1) rfl (by simp only [maxLen]; omega) (by omega) (by have h := hb6.out.size; first | omega | (simp [World.drew]; done) | (simp [World.drew]; omega)) ?_
                       intro ao7 cap7 w7 hown7' hgrow7' hob7'
                       have hown7 := Lib.hid hown7'
                       have hb7 : Hid (Below U.heap.size U w7) := Lib.hid (Below.grown (hb6.out.drew) hgrow7' (by have h := hb6.out.size; first | omega | (simp [World.drew]; done) | (simp [World.drew]; omega)) (fun q hq => (owns_block (hown6.out) q hq).1))
                       obtain ⟨hu7, hf7⟩ := KC.out _ hb7.out
                       clear hown7' hgrow7' hob7'))
                  refine hK.out _ _ ?_ (fun hHeld => ?_)
                  · (first | exact c3 | exact KST.out _ _ hb7.out | exact KB.out _ hb7.out | exact KB.out _ hb6.out | exact KB.out _ (b_alloc hb6.out (Nat.le_refl _) _) | exact KB.out _ (by repeat first | exact Below.refl _ _ | refine Below.drew ?_ | refine b_alloc ?_ (Nat.le_refl _) _))
                  clear hK K
                  try simp only [Act.put, List.setIfInBounds_toArray, List.set_cons_zero, List.set_cons_succ]
                  refine wpAnyH_takeE (i := 15) (d := some 87) (v := ?_) rfl rfl (by kernel_rfl) (by kernel_rfl) (by kernel_rfl) (fun _ _ _ h => h) (Or.inl ⟨by rfl, ?_⟩) (by assumption) ?_
                  rotate_left
                  · intro w hSw
                    (try dsimp only at hSw)
                    go_simp
                    try (with_reducible rfl)
                  simp only [Act.put, List.setIfInBounds_toArray, List.set_cons_zero, List.set_cons_succ]
                  refine wpAnyH_takeE (i := 16) (d := some 88) (v := ?_) rfl rfl (by kernel_rfl) (by kernel_rfl) (by kernel_rfl) (fun _ _ _ h => h) (Or.inl ⟨by rfl, ?_⟩) (by assumption) ?_
                  rotate_left
                  · intro w hSw
                    (try dsimp only at hSw)
                    go_simp
                    try (with_reducible rfl)
                  simp only [Act.put, List.setIfInBounds_toArray, List.set_cons_zero, List.set_cons_succ]
                  refine wpAnyH_ready (rs := [17]) (by kernel_rfl) (by simp) ?_
                  refine AllReadyH.cons rfl (fun K hK => ?_) AllReadyH.nil
                  go_simp
                  refine hK.out _ _ ?_ (fun hHeld => ?_)
                  · (first | exact c3 | exact KST.out _ _ hb7.out | exact KB.out _ hb7.out | exact KB.out _ hb6.out | exact KB.out _ (b_alloc hb6.out (Nat.le_refl _) _) | exact KB.out _ (by repeat first | exact Below.refl _ _ | refine Below.drew ?_ | refine b_alloc ?_ (Nat.le_refl _) _))
                  clear hK K
                  try simp only [Act.put, List.setIfInBounds_toArray, List.set_cons_zero, List.set_cons_succ]
                  refine wpAnyH_done (by kernel_rfl) ?_ _
                  refine NoPanic.normal ?_
                  have hk7 := HKU.out.later hb7.out
                  obtain ⟨t1, t2⟩ := hk7.lived (w0 := U) (ao := ao7) (cap := cap7) (lv' := lv ++ [⟨now, fc, 0⟩]) (GrowS.of_below hb7.out) HKU.out.lt (by
                    have := ORow.of_owns hown7.out
                    rw [HXS.out] at this
                    simpa [HNL.out, Wn.cells] using this) (fun g hg => (World.ownsRow.lt hown7.out g (by rw [own_ob]; exact hg)).1)
                  rw [show (lv ++ [(⟨now, fc, 0⟩ : Wn)]).length = n + 1 by rw [HNL.out]; simp] at t1 t2
                  obtain ⟨Y, hY⟩ : ∃ Y, Y = w7.setCell ⟨H, 4, none⟩ (.slice ao7 (n + 1) cap7) := ⟨_, rfl⟩
                  rw [← hY] at t1 t2
                  have z3 := t1.c3
                  have zf := t1.fz 3
                  have T1 := Lib.hid t1
                  have T2 := Lib.hid t2
                  have HY := Lib.hid hY
                  clear t1 t2 hY hk7
                  rw [← HY.out]
                  go_wp2_with fail
                  go_end0
                  have hB : But H Y (Y.setCell ⟨H, 3, none⟩ (.int .i64 0)) := (But.refl H _).set 3 _
                  have t3 := T1.out.boxed (f' := 0) (st' := false) (set_at T1.out.box) (fun q hq hqn => hB.block q hq hqn)
                  have e := HDEF.out
                  rw [if_pos (by rw [t0]; rfl)] at e
                  have hgr := HGU.out.trans (T2.out.trans (grow_but hB (.inl rfl)))
                  rw [e]
                  first | exact ⟨_, rfl, ⟨_, _, _, _, t3, rfl⟩, hgr⟩ | exact ⟨rfl, _, ⟨_, _, _, _, t3, rfl⟩, hgr⟩
              · go_simp
                refine hK.out _ _ ?_ (fun hHeld => ?_)
                · (first | exact c3 | exact KST.out _ _ hb7.out | exact KB.out _ hb7.out | exact KB.out _ hb6.out | exact KB.out _ (b_alloc hb6.out (Nat.le_refl _) _) | exact KB.out _ (by repeat first | exact Below.refl _ _ | refine Below.drew ?_ | refine b_alloc ?_ (Nat.le_refl _) _))
                clear hK K
                try simp only [Act.put, List.setIfInBounds_toArray, List.set_cons_zero, List.set_cons_succ]
                refine wpAnyH_ready (rs := [5]) (by kernel_rfl) (by simp) ?_
                refine AllReadyH.cons rfl (fun K hK => ?_) AllReadyH.nil
                go_simp
                refine hK.out _ _ ?_ (fun hHeld => ?_)
                · (first | exact c3 | exact KST.out _ _ hb7.out | exact KB.out _ hb7.out | exact KB.out _ hb6.out | exact KB.out _ (b_alloc hb6.out (Nat.le_refl _) _) | exact KB.out _ (by repeat first | exact Below.refl _ _ | refine Below.drew ?_ | refine b_alloc ?_ (Nat.le_refl _) _))
                clear hK K
                try simp only [Act.put, List.setIfInBounds_toArray, List.set_cons_zero, List.set_cons_succ]
                refine wpAnyH_ready (rs := [6]) (by kernel_rfl) (by simp) ?_
                refine AllReadyH.cons rfl (fun K hK => ?_) AllReadyH.nil
                (first
                  | (refine step_append_lie2 (by rfl) (.tmp 73) (.tmp 77) 34 (by rfl) U.heap.size 63 i1 _ 3 24 Try.underlying34 HJ.out hy0 hy1 hy2 rfl (by omega) (.slice (some ⟨U.heap.size, 0, none⟩) 0 0) 0 [] (by rfl) ((HE0.out U (Below.refl _ _)).1) (.slice la n lc) (0) (U.heap.size) n xs (by rfl) (HL.out _ (by repeat first | exact Below.refl _ _ | refine Below.drew ?_ | refine b_alloc ?_ (Nat.le_refl _) _)) HX1.out n (by omega) (by simp only [maxLen]; omega) (by omega) (by first | omega | (simp [World.drew]; done) | (simp [World.drew]; omega)) ?_
                     intro ao6 cap6 w6 hown6' hgrow6' hob6'
                     have hown6 := Lib.hid (hown6' : w6.ownsRow U.heap.size 63 3 (.slice ao6 n cap6) n xs)
                     have hb6 : Hid (Below U.heap.size U w6) := Lib.hid (Below.grown (by repeat first | exact Below.refl _ _ | refine Below.drew ?_ | refine b_alloc ?_ (Nat.le_refl _) _) hgrow6' (by first | omega | (simp [World.drew]; done) | (simp [World.drew]; omega)) (fun q hq => by cases hq; exact Nat.le_refl _))
                     skip
                     clear hown6' hgrow6' hob6')
                  | (refine step_append_lie2 (by rfl) (.tmp 73) (.tmp 77) 34 (by rfl) U.heap.size 63 i1 _ 3 24 Try.underlying34 HJ.out hy0 hy1 hy2 rfl (by omega) (.slice (some ⟨U.heap.size, 0, none⟩) 0 0) 0 [] (by rfl) ((HE0.out U (Below.refl _ _)).2 _) (.slice la n lc) (0) (U.heap.size) n xs (by rfl) (HL.out _ (by repeat first | exact Below.refl _ _ | refine Below.drew ?_ | refine b_alloc ?_ (Nat.le_refl _) _)) HX1.out n (by omega) (by simp only [maxLen]; omega) (by omega) (by first | omega | (simp [World.drew]; done) | (simp [World.drew]; omega)) ?_
                     intro ao6 cap6 w6 hown6' hgrow6' hob6'
                     have hown6 := Lib.hid (hown6' : w6.ownsRow U.heap.size 63 3 (.slice ao6 n cap6) n xs)
                     have hb6 : Hid (Below U.heap.size U w6) := Lib.hid (Below.grown (by repeat first | exact Below.refl _ _ | refine Below.drew ?_ | refine b_alloc ?_ (Nat.le_refl _) _) hgrow6' (by first | omega | (simp [World.drew]; done) | (simp [World.drew]; omega)) (fun q hq => by cases hq; exact Nat.le_refl _))
                     have hr6 : Hid (Lies w6 (U.heap.size + 1) (U.heap.size + 2) (.slice (some ⟨U.heap.size + 1, 0, none⟩) 1 1) 1 3 [.int .i64 now, .int .i64 fc, .int .i64 0]) := Lib.hid (one_lies (cs := #[.int .i64 now, .int .i64 fc, .int .i64 0]) ((hgrow6'.block (U.heap.size + 1) (by first | omega | (simp [World.drew]; done) | (simp [World.drew]; omega)) (by simp [Value.ownBlock])).trans (by simpa [World.drew] using heap_alloc_new (U.alloc (.cells #[] 63)) (.cells #[.int .i64 now, .int .i64 fc, .int .i64 0] 63))) rfl)
                     clear hown6' hgrow6' hob6')
                  | (refine step_append_lie2 (by rfl) (.tmp 73) (.tmp 77) 34 (by rfl) U.heap.size 63 i1 _ 3 24 Try.underlying34 HJ.out hy0 hy1 hy2 rfl (by omega) (.slice (some ⟨U.heap.size + 1, 0, none⟩) 0 0) 0 [] (by rfl) (by have h := (HE0.out (U.alloc (.cells #[.int .i64 now, .int .i64 fc, .int .i64 0] 63)) (below1 _ _)).1; rw [show (U.alloc (.cells #[.int .i64 now, .int .i64 fc, .int .i64 0] 63)).heap.size = U.heap.size + 1 by simp] at h; exact h) (.slice la n lc) (0) (U.heap.size) n xs (by rfl) (HL.out _ (by repeat first | exact Below.refl _ _ | refine Below.drew ?_ | refine b_alloc ?_ (Nat.le_refl _) _)) HX1.out n (by omega) (by simp only [maxLen]; omega) (by omega) (by first | omega | (simp [World.drew]; done) | (simp [World.drew]; omega)) ?_
                     intro ao6 cap6 w6 hown6' hgrow6' hob6'
                     have hown6 := Lib.hid (hown6' : w6.ownsRow U.heap.size 63 3 (.slice ao6 n cap6) n xs)
                     have hb6 : Hid (Below U.heap.size U w6) := Lib.hid (Below.grown (by repeat first | exact Below.refl _ _ | refine Below.drew ?_ | refine b_alloc ?_ (Nat.le_refl _) _) hgrow6' (by first | omega | (simp [World.drew]; done) | (simp [World.drew]; omega)) (fun q hq => by cases hq; exact Nat.le_succ _))
                     have hr6 : Hid (Lies w6 U.heap.size (U.heap.size + 1) (.slice (some ⟨U.heap.size, 0, none⟩) 1 1) 1 3 [.int .i64 now, .int .i64 fc, .int .i64 0]) := Lib.hid (one_lies (cs := #[.int .i64 now, .int .i64 fc, .int .i64 0]) ((hgrow6'.block U.heap.size (by first | omega | (simp [World.drew]; done) | (simp [World.drew]; omega)) (by simp [Value.ownBlock])).trans (((below1 (U.alloc (.cells #[.int .i64 now, .int .i64 fc, .int .i64 0] 63)) (.cells #[] 63)).block U.heap.size (by simp)).trans (heap_alloc_new U (.cells #[.int .i64 now, .int .i64 fc, .int .i64 0] 63)))) rfl)
                     clear hown6' hgrow6' hob6'))
                refine hK.out _ _ ?_ (fun hHeld => ?_)
                · (first | exact c3 | exact KST.out _ _ hb7.out | exact KB.out _ hb7.out | exact KB.out _ hb6.out | exact KB.out _ (b_alloc hb6.out (Nat.le_refl _) _) | exact KB.out _ (by repeat first | exact Below.refl _ _ | refine Below.drew ?_ | refine b_alloc ?_ (Nat.le_refl _) _))
                clear hK K
                try simp only [Act.put, List.setIfInBounds_toArray, List.set_cons_zero, List.set_cons_succ]
                refine wpAnyH_ready (rs := [14]) (by kernel_rfl) (by simp) ?_
                refine AllReadyH.cons rfl (fun K hK => ?_) AllReadyH.nil
                (first
                  | (refine step_append_lie2 (by rfl) (.tmp 78) (.tmp 85) 34 (by rfl) U.heap.size 63 i1 _ 3 24 Try.underlying34 HJ.out hy0 hy1 hy2 rfl (by omega) (.slice ao6 n cap6) n xs (by rfl) (owns_later hown6.out (below1 _ _)) (.slice (some ⟨w6.heap.size, 0, none⟩) 1 1) (w6.heap.size) (w6.heap.size + 1) 1 [.int .i64 now, .int .i64 fc, .int .i64 0] (by rfl) (one_lies (cs := #[.int .i64 now, .int .i64 fc, .int .i64 0]) (heap_alloc_new w6 _) rfl) (wn_one ⟨now, fc, 0⟩) (n + 1) rfl (by simp only [maxLen]; omega) (by omega) (by have h := hb6.out.size; first | omega | (simp [World.drew]; done) | (simp [World.drew]; omega)) ?_
                     intro ao7 cap7 w7 hown7' hgrow7' hob7'
                     have hown7 := Lib.hid hown7'
                     have hb7 : Hid (Below U.heap.size U w7) := Lib.hid (Below.grown ((b_alloc hb6.out (Nat.le_refl _) _).drew) hgrow7' (by have h := hb6.out.size; first | omega | (simp [World.drew]; done) | (simp [World.drew]; omega)) (fun q hq => (owns_block (hown6.out) q hq).1))
                     obtain ⟨hu7, hf7⟩ := KC.out _ hb7.out
                     clear hown7' hgrow7' hob7')
                  | (refine step_append_lie2 (by rfl) (.tmp 78) (.tmp 85) 34 (by rfl) U.heap.size 63 i1 _ 3 24 Try.underlying34 HJ.out hy0 hy1 hy2 rfl (by omega) (.slice ao6 n cap6) n xs (by rfl) (owns_later hown6.out (below1 _ _)) (.slice (some ⟨w6.heap.size, 0, none⟩) 1 1) (w6.heap.size) (w6.heap.size + 1) 1 [.int .i64 now, .int .i64 fc, .int .i64 0] (by rfl) (one_lies (cs := #[.int .i64 now, .int .i64 fc, .int .i64 0]) (heap_alloc_new w6 _) rfl) (wn_one ⟨now, fc, 0⟩) (n + 1) rfl (by simp only [maxLen]; omega) (by omega) (by have h := hb6.out.size; first | omega | (simp [World.drew]; done) | (simp [World.drew]; omega)) ?_
                     intro ao7 cap7 w7 hown7' hgrow7' hob7'
                     have hown7 := Lib.hid hown7'
                     have hb7 : Hid (Below U.heap.size U w7) := Lib.hid (Below.grown (b_alloc hb6.out (Nat.le_refl _) _) hgrow7' (by have h := hb6.out.size; first | omega | (simp [World.drew]; done) | (simp [World.drew]; omega)) (fun q hq => (owns_block (hown6.out) q hq).1))
                     obtain ⟨hu7, hf7⟩ := KC.out _ hb7.out
                     clear hown7' hgrow7' hob7')
                  | (refine step_append_lie2 (by rfl) (.tmp 78) (.tmp 85) 34 (by rfl) U.heap.size 63 i1 _ 3 24 Try.underlying34 HJ.out hy0 hy1 hy2 rfl (by omega) (.slice ao6 n cap6) n xs (by rfl) (hown6.out) (.slice (some ⟨U.heap.size + 1, 0, none⟩) 1 1) (U.heap.size + 1) (U.heap.size + 2) 1 [.int .i64 now, .int .i64 fc, .int .i64 0] (by rfl) (hr6.out) (wn_one ⟨now, fc, 0⟩) (n + 1) rfl (by simp only [maxLen]; omega) (by omega) (by have h := hb6.out.size; first | omega | (simp [World.drew]; done) | (simp [World.drew]; omega)) ?_
                     intro ao7 cap7 w7 hown7' hgrow7' hob7'
                     have hown7 := Lib.hid hown7'
                     have hb7 : Hid (Below U.heap.size U w7) := Lib.hid (Below.grown (hb6.out) hgrow7' (by have h := hb6.out.size; first | omega | (simp [World.drew]; done) | (simp [World.drew]; omega)) (fun q hq => (owns_block (hown6.out) q hq).1))
                     obtain ⟨hu7, hf7⟩ := KC.out _ hb7.out
                     clear hown7' hgrow7' hob7')
                  | (refine step_append_lie2 (by rfl) (.tmp 78) (.tmp 85) 34 (by rfl) U.heap.size 63 i1 _ 3 24 Try.underlying34 HJ.out hy0 hy1 hy2 rfl (by omega) (.slice ao6 n cap6) n xs (by rfl) (hown6.out) (.slice (some ⟨U.heap.size + 1, 0, none⟩) 1 1) (U.heap.size + 1) (U.heap.size + 2) 1 [.int .i64 now, .int .i64 fc, .int .i64 0] (by rfl) (hr6.out) (wn_one ⟨now, fc, 0⟩) (n + 1) rfl (by simp only [maxLen]; omega) (by omega) (by have h := hb6.out.size; first | omega | (simp [World.drew]; done) | (simp [World.drew]; omega)) ?_
                     intro ao7 cap7 w7 hown7' hgrow7' hob7'
                     have hown7 := Lib.hid hown7'
                     have hb7 : Hid (Below U.heap.size U w7) := Lib.hid (Below.grown (hb6.out.drew) hgrow7' (by have h := hb6.out.size; first | omega | (simp [World.drew]; done) | (simp [World.drew]; omega)) (fun q hq => (owns_block (hown6.out) q hq).1))
                     obtain ⟨hu7, hf7⟩ := KC.out _ hb7.out
                     clear hown7' hgrow7' hob7')
                  | (refine step_append_lie2 (by rfl) (.tmp 78) (.tmp 85) 34 (by rfl) U.heap.size 63 i1 _ 3 24 Try.underlying34 HJ.out hy0 hy1 hy2 rfl (by omega) (.slice ao6 n cap6) n xs (by rfl) (hown6.out) (.slice (some ⟨U.heap.size, 0, none⟩) 1 1) (U.heap.size) (U.heap.size + 1) 1 [.int .i64 now, .int .i64 fc, .int .i64 0] (by rfl) (hr6.out) (wn_one ⟨now, fc, 0⟩) (n + 1) rfl (by simp only [maxLen]; omega) (by omega) (by have h := hb6.out.size; first | omega | (simp [World.drew]; done) | (simp [World.drew]; omega)) ?_
                     intro ao7 cap7 w7 hown7' hgrow7' hob7'
                     have hown7 := Lib.hid hown7'
                     have hb7 : Hid (Below U.heap.size U w7) := Lib.hid (Below.grown (hb6.out) hgrow7' (by have h := hb6.out.size; first | omega | (simp [World.drew]; done) | (simp [World.drew]; omega)) (fun q hq => (owns_block (hown6.out) q hq).1))
                     obtain ⟨hu7, hf7⟩ := KC.out _ hb7.out
                     clear hown7' hgrow7' hob7')
                  | (refine step_append_lie2 (by rfl) (.tmp 78) (.tmp 85) 34 (by rfl) U.heap.size 63 i1 _ 3 24 Try.underlying34 HJ.out hy0 hy1 hy2 rfl (by omega) (.slice ao6 n cap6) n xs (by rfl) (hown6.out) (.slice (some ⟨U.heap.size, 0, none⟩) 1 1) (U.heap.size) (U.heap.size + 1) 1 [.int .i64 now, .int .i64 fc, .int .i64 0] (by rfl) (hr6.out) (wn_one ⟨now, fc, 0⟩) (n + 1) rfl (by simp only [maxLen]; omega) (by omega) (by have h := hb6.out.size; first | omega | (simp [World.drew]; done) | (simp [World.drew]; omega)) ?_
                     intro ao7 cap7 w7 hown7' hgrow7' hob7'
                     have hown7 := Lib.hid hown7'
                     have hb7 : Hid (Below U.heap.size U w7) := Lib.hid (Below.grown (hb6.out.drew) hgrow7' (by have h := hb6.out.size; first | omega | (simp [World.drew]; done) | (simp [World.drew]; omega)) (fun q hq => (owns_block (hown6.out) q hq).1))
                     obtain ⟨hu7, hf7⟩ := KC.out _ hb7.out
                     clear hown7' hgrow7' hob7'))
                refine hK.out _ _ ?_ (fun hHeld => ?_)
                · (first | exact c3 | exact KST.out _ _ hb7.out | exact KB.out _ hb7.out | exact KB.out _ hb6.out | exact KB.out _ (b_alloc hb6.out (Nat.le_refl _) _) | exact KB.out _ (by repeat first | exact Below.refl _ _ | refine Below.drew ?_ | refine b_alloc ?_ (Nat.le_refl _) _))
                clear hK K
                try simp only [Act.put, List.setIfInBounds_toArray, List.set_cons_zero, List.set_cons_succ]
                refine wpAnyH_takeE (i := 15) (d := some 87) (v := ?_) rfl rfl (by kernel_rfl) (by kernel_rfl) (by kernel_rfl) (fun _ _ _ h => h) (Or.inl ⟨by rfl, ?_⟩) (by assumption) ?_
                rotate_left
                · intro w hSw
                  (try dsimp only at hSw)
                  go_simp
                  try (with_reducible rfl)
                simp only [Act.put, List.setIfInBounds_toArray, List.set_cons_zero, List.set_cons_succ]
                refine wpAnyH_takeE (i := 16) (d := some 88) (v := ?_) rfl rfl (by kernel_rfl) (by kernel_rfl) (by kernel_rfl) (fun _ _ _ h => h) (Or.inl ⟨by rfl, ?_⟩) (by assumption) ?_
                rotate_left
                · intro w hSw
                  (try dsimp only at hSw)
                  go_simp
                  try (with_reducible rfl)
                simp only [Act.put, List.setIfInBounds_toArray, List.set_cons_zero, List.set_cons_succ]
                refine wpAnyH_ready (rs := [17]) (by kernel_rfl) (by simp) ?_
                refine AllReadyH.cons rfl (fun K hK => ?_) AllReadyH.nil
                go_simp
                refine hK.out _ _ ?_ (fun hHeld => ?_)
                · (first | exact c3 | exact KST.out _ _ hb7.out | exact KB.out _ hb7.out | exact KB.out _ hb6.out | exact KB.out _ (b_alloc hb6.out (Nat.le_refl _) _) | exact KB.out _ (by repeat first | exact Below.refl _ _ | refine Below.drew ?_ | refine b_alloc ?_ (Nat.le_refl _) _))
                clear hK K
                try simp only [Act.put, List.setIfInBounds_toArray, List.set_cons_zero, List.set_cons_succ]
                refine wpAnyH_done (by kernel_rfl) ?_ _
                refine NoPanic.normal ?_
                have hk7 := HKU.out.later hb7.out
                obtain ⟨t1, t2⟩ := hk7.lived (w0 := U) (ao := ao7) (cap := cap7) (lv' := lv ++ [⟨now, fc, 0⟩]) (GrowS.of_below hb7.out) HKU.out.lt (by
                  have := ORow.of_owns hown7.out
                  rw [HXS.out] at this
                  simpa [HNL.out, Wn.cells] using this) (fun g hg => (World.ownsRow.lt hown7.out g (by rw [own_ob]; exact hg)).1)
                rw [show (lv ++ [(⟨now, fc, 0⟩ : Wn)]).length = n + 1 by rw [HNL.out]; simp] at t1 t2
                obtain ⟨Y, hY⟩ : ∃ Y, Y = w7.setCell ⟨H, 4, none⟩ (.slice ao7 (n + 1) cap7) := ⟨_, rfl⟩
                rw [← hY] at t1 t2
                have z3 := t1.c3
                have zf := t1.fz 3
                have T1 := Lib.hid t1
                have T2 := Lib.hid t2
                have HY := Lib.hid hY
                clear t1 t2 hY hk7
                rw [← HY.out]
                go_wp2_with fail
                go_end0
                have hB : But H Y (Y.setCell ⟨H, 3, none⟩ (.int .i64 0)) := (But.refl H _).set 3 _
                have t3 := T1.out.boxed (f' := 0) (st' := false) (set_at T1.out.box) (fun q hq hqn => hB.block q hq hqn)
                have e := HDEF.out
                rw [if_pos (by rw [t0]; rfl)] at e
                have hgr := HGU.out.trans (T2.out.trans (grow_but hB (.inl rfl)))
                rw [e]
                first | exact ⟨_, rfl, ⟨_, _, _, _, t3, rfl⟩, hgr⟩ | exact ⟨rfl, _, ⟨_, _, _, _, t3, rfl⟩, hgr⟩
            · go_simp
              refine hK.out _ _ ?_ (fun hHeld => ?_)
              · (first | exact c3 | exact KST.out _ _ hb7.out | exact KB.out _ hb7.out | exact KB.out _ hb6.out | exact KB.out _ (b_alloc hb6.out (Nat.le_refl _) _) | exact KB.out _ (by repeat first | exact Below.refl _ _ | refine Below.drew ?_ | refine b_alloc ?_ (Nat.le_refl _) _))
              clear hK K
              try simp only [Act.put, List.setIfInBounds_toArray, List.set_cons_zero, List.set_cons_succ]
              refine wpAnyH_ready (rs := [1, 13]) (by kernel_rfl) (by simp) ?_
              refine AllReadyH.cons rfl (fun K hK => ?_) (AllReadyH.cons rfl (fun K hK => ?_) AllReadyH.nil)
              · go_simp
                refine hK.out _ _ ?_ (fun hHeld => ?_)
                · (first | exact c3 | exact KST.out _ _ hb7.out | exact KB.out _ hb7.out | exact KB.out _ hb6.out | exact KB.out _ (b_alloc hb6.out (Nat.le_refl _) _) | exact KB.out _ (by repeat first | exact Below.refl _ _ | refine Below.drew ?_ | refine b_alloc ?_ (Nat.le_refl _) _))
                clear hK K
                try simp only [Act.put, List.setIfInBounds_toArray, List.set_cons_zero, List.set_cons_succ]
                refine wpAnyH_ready (rs := [6, 13]) (by kernel_rfl) (by simp) ?_
                refine AllReadyH.cons rfl (fun K hK => ?_) (AllReadyH.cons rfl (fun K hK => ?_) AllReadyH.nil)
                · (first
                    | (refine step_append_lie2 (by rfl) (.tmp 73) (.tmp 77) 34 (by rfl) U.heap.size 63 i1 _ 3 24 Try.underlying34 HJ.out hy0 hy1 hy2 rfl (by omega) (.slice (some ⟨U.heap.size, 0, none⟩) 0 0) 0 [] (by rfl) ((HE0.out U (Below.refl _ _)).1) (.slice la n lc) (0) (U.heap.size) n xs (by rfl) (HL.out _ (by repeat first | exact Below.refl _ _ | refine Below.drew ?_ | refine b_alloc ?_ (Nat.le_refl _) _)) HX1.out n (by omega) (by simp only [maxLen]; omega) (by omega) (by first | omega | (simp [World.drew]; done) | (simp [World.drew]; omega)) ?_
                       intro ao6 cap6 w6 hown6' hgrow6' hob6'
                       have hown6 := Lib.hid (hown6' : w6.ownsRow U.heap.size 63 3 (.slice ao6 n cap6) n xs)
                       have hb6 : Hid (Below U.heap.size U w6) := Lib.hid (Below.grown (by repeat first | exact Below.refl _ _ | refine Below.drew ?_ | refine b_alloc ?_ (Nat.le_refl _) _) hgrow6' (by first | omega | (simp [World.drew]; done) | (simp [World.drew]; omega)) (fun q hq => by cases hq; exact Nat.le_refl _))
                       skip
                       clear hown6' hgrow6' hob6')
                    | (refine step_append_lie2 (by rfl) (.tmp 73) (.tmp 77) 34 (by rfl) U.heap.size 63 i1 _ 3 24 Try.underlying34 HJ.out hy0 hy1 hy2 rfl (by omega) (.slice (some ⟨U.heap.size, 0, none⟩) 0 0) 0 [] (by rfl) ((HE0.out U (Below.refl _ _)).2 _) (.slice la n lc) (0) (U.heap.size) n xs (by rfl) (HL.out _ (by repeat first | exact Below.refl _ _ | refine Below.drew ?_ | refine b_alloc ?_ (Nat.le_refl _) _)) HX1.out n (by omega) (by simp only [maxLen]; omega) (by omega) (by first | omega | (simp [World.drew]; done) | (simp [World.drew]; omega)) ?_
                       intro ao6 cap6 w6 hown6' hgrow6' hob6'
                       have hown6 := Lib.hid (hown6' : w6.ownsRow U.heap.size 63 3 (.slice ao6 n cap6) n xs)
                       have hb6 : Hid (Below U.heap.size U w6) := Lib.hid (Below.grown (by repeat first | exact Below.refl _ _ | refine Below.drew ?_ | refine b_alloc ?_ (Nat.le_refl _) _) hgrow6' (by first | omega | (simp [World.drew]; done) | (simp [World.drew]; omega)) (fun q hq => by cases hq; exact Nat.le_refl _))
                       have hr6 : Hid (Lies w6 (U.heap.size + 1) (U.heap.size + 2) (.slice (some ⟨U.heap.size + 1, 0, none⟩) 1 1) 1 3 [.int .i64 now, .int .i64 fc, .int .i64 0]) := Lib.hid (one_lies (cs := #[.int .i64 now, .int .i64 fc, .int .i64 0]) ((hgrow6'.block (U.heap.size + 1) (by first | omega | (simp [World.drew]; done) | (simp [World.drew]; omega)) (by simp [Value.ownBlock])).trans (by simpa [World.drew] using heap_alloc_new (U.alloc (.cells #[] 63)) (.cells #[.int .i64 now, .int .i64 fc, .int .i64 0] 63))) rfl)
                       clear hown6' hgrow6' hob6')
                    | (refine step_append_lie2 (by rfl) (.tmp 73) (.tmp 77) 34 (by rfl) U.heap.size 63 i1 _ 3 24 Try.underlying34 HJ.out hy0 hy1 hy2 rfl (by omega) (.slice (some ⟨U.heap.size + 1, 0, none⟩) 0 0) 0 [] (by rfl) (by have h := (HE0.out (U.alloc (.cells #[.int .i64 now, .int .i64 fc, .int .i64 0] 63)) (below1 _ _)).1; rw [show (U.alloc (.cells #[.int .i64 now, .int .i64 fc, .int .i64 0] 63)).heap.size = U.heap.size + 1 by simp] at h; exact h) (.slice la n lc) (0) (U.heap.size) n xs (by rfl) (HL.out _ (by repeat first | exact Below.refl _ _ | refine Below.drew ?_ | refine b_alloc ?_ (Nat.le_refl _) _)) HX1.out n (by omega) (by simp only [maxLen]; omega) (by omega) (by first | omega | (simp [World.drew]; done) | (simp [World.drew]; omega)) ?_
                       intro ao6 cap6 w6 hown6' hgrow6' hob6'
                       have hown6 := Lib.hid (hown6' : w6.ownsRow U.heap.size 63 3 (.slice ao6 n cap6) n xs)
                       have hb6 : Hid (Below U.heap.size U w6) := Lib.hid (Below.grown (by repeat first | exact Below.refl _ _ | refine Below.drew ?_ | refine b_alloc ?_ (Nat.le_refl _) _) hgrow6' (by first | omega | (simp [World.drew]; done) | (simp [World.drew]; omega)) (fun q hq => by cases hq; exact Nat.le_succ _))
                       have hr6 : Hid (Lies w6 U.heap.size (U.heap.size + 1) (.slice (some ⟨U.heap.size, 0, none⟩) 1 1) 1 3 [.int .i64 now, .int .i64 fc, .int .i64 0]) := Lib.hid (one_lies (cs := #[.int .i64 now, .int .i64 fc, .int .i64 0]) ((hgrow6'.block U.heap.size (by first | omega | (simp [World.drew]; done) | (simp [World.drew]; omega)) (by simp [Value.ownBlock])).trans (((below1 (U.alloc (.cells #[.int .i64 now, .int .i64 fc, .int .i64 0] 63)) (.cells #[] 63)).block U.heap.size (by simp)).trans (heap_alloc_new U (.cells #[.int .i64 now, .int .i64 fc, .int .i64 0] 63)))) rfl)
                       clear hown6' hgrow6' hob6'))
                  refine hK.out _ _ ?_ (fun hHeld => ?_)
                  · (first | exact c3 | exact KST.out _ _ hb7.out | exact KB.out _ hb7.out | exact KB.out _ hb6.out | exact KB.out _ (b_alloc hb6.out (Nat.le_refl _) _) | exact KB.out _ (by repeat first | exact Below.refl _ _ | refine Below.drew ?_ | refine b_alloc ?_ (Nat.le_refl _) _))
                  clear hK K
                  try simp only [Act.put, List.setIfInBounds_toArray, List.set_cons_zero, List.set_cons_succ]
                  refine wpAnyH_ready (rs := [13]) (by kernel_rfl) (by simp) ?_
                  refine AllReadyH.cons rfl (fun K hK => ?_) AllReadyH.nil
                  go_simp
                  refine hK.out _ _ ?_ (fun hHeld => ?_)
                  · (first | exact c3 | exact KST.out _ _ hb7.out | exact KB.out _ hb7.out | exact KB.out _ hb6.out | exact KB.out _ (b_alloc hb6.out (Nat.le_refl _) _) | exact KB.out _ (by repeat first | exact Below.refl _ _ | refine Below.drew ?_ | refine b_alloc ?_ (Nat.le_refl _) _))
                  clear hK K
                  try simp only [Act.put, List.setIfInBounds_toArray, List.set_cons_zero, List.set_cons_succ]
                  refine wpAnyH_ready (rs := [14]) (by kernel_rfl) (by simp) ?_
                  refine AllReadyH.cons rfl (fun K hK => ?_) AllReadyH.nil
                  (first
                    | (refine step_append_lie2 (by rfl) (.tmp 78) (.tmp 85) 34 (by rfl) U.heap.size 63 i1 _ 3 24 Try.underlying34 HJ.out hy0 hy1 hy2 rfl (by omega) (.slice ao6 n cap6) n xs (by rfl) (owns_later hown6.out (below1 _ _)) (.slice (some ⟨w6.heap.size, 0, none⟩) 1 1) (w6.heap.size) (w6.heap.size + 1) 1 [.int .i64 now, .int .i64 fc, .int .i64 0] (by rfl) (one_lies (cs := #[.int .i64 now, .int .i64 fc, .int .i64 0]) (heap_alloc_new w6 _) rfl) (wn_one ⟨now, fc, 0⟩) (n + 1) rfl (by simp only [maxLen]; omega) (by omega) (by have h := hb6.out.size; first | omega | (simp [World.drew]; done) | (simp [World.drew]; omega)) ?_
                       intro ao7 cap7 w7 hown7' hgrow7' hob7'
                       have hown7 := Lib.hid hown7'
                       have hb7 : Hid (Below U.heap.size U w7) := Lib.hid (Below.grown ((b_alloc hb6.out (Nat.le_refl _) _).drew) hgrow7' (by have h := hb6.out.size; first | omega | (simp [World.drew]; done) | (simp [World.drew]; omega)) (fun q hq => (owns_block (hown6.out) q hq).1))
                       obtain ⟨hu7, hf7⟩ := KC.out _ hb7.out
                       clear hown7' hgrow7' hob7')
                    | (refine step_append_lie2 (by rfl) (.tmp 78) (.tmp 85) 34 (by rfl) U.heap.size 63 i1 _ 3 24 Try.underlying34 HJ.out hy0 hy1 hy2 rfl (by omega) (.slice ao6 n cap6) n xs (by rfl) (owns_later hown6.out (below1 _ _)) (.slice (some ⟨w6.heap.size, 0, none⟩) 1 1) (w6.heap.size) (w6.heap.size + 1) 1 [.int .i64 now, .int .i64 fc, .int .i64 0] (by rfl) (one_lies (cs := #[.int .i64 now, .int .i64 fc, .int .i64 0]) (heap_alloc_new w6 _) rfl) (wn_one ⟨now, fc, 0⟩) (n + 1) rfl (by simp only [maxLen]; omega) (by omega) (by have h := hb6.out.size; first | omega | (simp [World.drew]; done) | (simp [World.drew]; omega)) ?_
                       intro ao7 cap7 w7 hown7' hgrow7' hob7'
                       have hown7 := Lib.hid hown7'
                       have hb7 : Hid (Below U.heap.size U w7) := Lib.hid (Below.grown (b_alloc hb6.out (Nat.le_refl _) _) hgrow7' (by have h := hb6.out.size; first | omega | (simp [World.drew]; done) | (simp [World.drew]; omega)) (fun q hq => (owns_block (hown6.out) q hq).1))
                       obtain ⟨hu7, hf7⟩ := KC.out _ hb7.out
                       clear hown7' hgrow7' hob7')
                    | (refine step_append_lie2 (by rfl) (.tmp 78) (.tmp 85) 34 (by rfl) U.heap.size 63 i1 _ 3 24 Try.underlying34 HJ.out hy0 hy1 hy2 rfl (by omega) (.slice ao6 n cap6) n xs (by rfl) (hown6.out) (.slice (some ⟨U.heap.size + 1, 0, none⟩) 1 1) (U.heap.size + 1) (U.heap.size + 2) 1 [.int .i64 now, .int .i64 fc, .int .i64 0] (by rfl) (hr6.out) (wn_one ⟨now, fc, 0⟩) (n + 1) rfl (by simp only [maxLen]; omega) (by omega) (by have h := hb6.out.size; first | omega | (simp [World.drew]; done) | (simp [World.drew]; omega)) ?_
                       intro ao7 cap7 w7 hown7' hgrow7' hob7'
                       have hown7 := Lib.hid hown7'
                       have hb7 : Hid (Below U.heap.size U w7) := Lib.hid (Below.grown (hb6.out) hgrow7' (by have h := hb6.out.size; first | omega | (simp [World.drew]; done) | (simp [World.drew]; omega)) (fun q hq => (owns_block (hown6.out) q hq).1))
                       obtain ⟨hu7, hf7⟩ := KC.out _ hb7.out
                       clear hown7' hgrow7' hob7')
                    | (refine step_append_lie2 (by rfl) (.tmp 78) (.tmp 85) 34 (by rfl) U.heap.size 63 i1 _ 3 24 Try.underlying34 HJ.out hy0 hy1 hy2 rfl (by omega) (.slice ao6 n cap6) n xs (by rfl) (hown6.out) (.slice (some ⟨U.heap.size + 1, 0, none⟩) 1 1) (U.heap.size + 1) (U.heap.size + 2) 1 [.int .i64 now, .int .i64 fc, .int .i64 0] (by rfl) (hr6.out) (wn_one ⟨now, fc, 0⟩) (n + 1) rfl (by simp only [maxLen]; omega) (by omega) (by have h := hb6.out.size; first | omega | (simp [World.drew]; done) | (simp [World.drew]; omega)) ?_
                       intro ao7 cap7 w7 hown7' hgrow7' hob7'
                       have hown7 := Lib.hid hown7'
                       have hb7 : Hid (Below U.heap.size U w7) := Lib.hid (Below.grown (hb6.out.drew) hgrow7' (by have h := hb6.out.size; first | omega | (simp [World.drew]; done) | (simp [World.drew]; omega)) (fun q hq => (owns_block (hown6.out) q hq).1))
                       obtain ⟨hu7, hf7⟩ := KC.out _ hb7.out
                       clear hown7' hgrow7' hob7')
                    | (refine step_append_lie2 (by rfl) (.tmp 78) (.tmp 85) 34 (by rfl) U.heap.size 63 i1 _ 3 24 Try.underlying34 HJ.out hy0 hy1 hy2 rfl (by omega) (.slice ao6 n cap6) n xs (by rfl) (hown6.out) (.slice (some ⟨U.heap.size, 0, none⟩) 1 1) (U.heap.size) (U.heap.size + 1) 1 [.int .i64 now, .int .i64 fc, .int .i64 0] (by rfl) (hr6.out) (wn_one ⟨now, fc, 0⟩) (n + 1) rfl (by simp only [maxLen]; omega) (by omega) (by have h := hb6.out.size; first | omega | (simp [World.drew]; done) | (simp [World.drew]; omega)) ?_
                       intro ao7 cap7 w7 hown7' hgrow7' hob7'
                       have hown7 := Lib.hid hown7'
                       have hb7 : Hid (Below U.heap.size U w7) := Lib.hid (Below.grown (hb6.out) hgrow7' (by have h := hb6.out.size; first | omega | (simp [World.drew]; done) | (simp [World.drew]; omega)) (fun q hq => (owns_block (hown6.out) q hq).1))
                       obtain ⟨hu7, hf7⟩ := KC.out _ hb7.out
                       clear hown7' hgrow7' hob7')
                    | (refine step_append_lie2 (by rfl) (.tmp 78) (.tmp 85) 34 (by rfl) U.heap.size 63 i1 _ 3 24 Try.underlying34 HJ.out hy0 hy1 hy2 rfl (by omega) (.slice ao6 n cap6) n xs (by rfl) (hown6.out) (.slice (some ⟨U.heap.size, 0, none⟩) 1 1) (U.heap.size) (U.heap.size + 1) 1 [.int .i64 now, .int .i64 fc, .int .i64 0] (by rfl) (hr6.out) (wn_one ⟨now, fc, 0⟩) (n + 1) rfl (by simp only [maxLen]; omega) (by omega) (by have h := hb6.out.size; first | omega | (simp [World.drew]; done) | (simp [World.drew]; omega)) ?_
                       intro ao7 cap7 w7 hown7' hgrow7' hob7'
                       have hown7 := Lib.hid hown7'
                       have hb7 : Hid (Below U.heap.size U w7) := Lib.hid (Below.grown (hb6.out.drew) hgrow7' (by have h := hb6.out.size; first | omega | (simp [World.drew]; done) | (simp [World.drew]; omega)) (fun q hq => (owns_block (hown6.out) q hq).1))
                       obtain ⟨hu7, hf7⟩ := KC.out _ hb7.out
                       clear hown7' hgrow7' hob7'))
                  refine hK.out _ _ ?_ (fun hHeld => ?_)
                  · (first | exact c3 | exact KST.out _ _ hb7.out | exact KB.out _ hb7.out | exact KB.out _ hb6.out | exact KB.out _ (b_alloc hb6.out (Nat.le_refl _) _) | exact KB.out _ (by repeat first | exact Below.refl _ _ | refine Below.drew ?_ | refine b_alloc ?_ (Nat.le_refl _) _))
                  clear hK K
                  try simp only [Act.put, List.setIfInBounds_toArray, List.set_cons_zero, List.set_cons_succ]
                  refine wpAnyH_takeE (i := 15) (d := some 87) (v := ?_) rfl rfl (by kernel_rfl) (by kernel_rfl) (by kernel_rfl) (fun _ _ _ h => h) (Or.inl ⟨by rfl, ?_⟩) (by assumption) ?_
                  rotate_left
                  · intro w hSw
                    (try dsimp only at hSw)
                    go_simp
                    try (with_reducible rfl)
                  simp only [Act.put, List.setIfInBounds_toArray, List.set_cons_zero, List.set_cons_succ]
                  refine wpAnyH_takeE (i := 16) (d := some 88) (v := ?_) rfl rfl (by kernel_rfl) (by kernel_rfl) (by kernel_rfl) (fun _ _ _ h => h) (Or.inl ⟨by rfl, ?_⟩) (by assumption) ?_
                  rotate_left
                  · intro w hSw
                    (try dsimp only at hSw)
                    go_simp
                    try (with_reducible rfl)
                  simp only [Act.put, List.setIfInBounds_toArray, List.set_cons_zero, List.set_cons_succ]
                  refine wpAnyH_ready (rs := [17]) (by kernel_rfl) (by simp) ?_
                  refine AllReadyH.cons rfl (fun K hK => ?_) AllReadyH.nil
                  go_simp
                  refine hK.out _ _ ?_ (fun hHeld => ?_)
                  · (first | exact c3 | exact KST.out _ _ hb7.out | exact KB.out _ hb7.out | exact KB.out _ hb6.out | exact KB.out _ (b_alloc hb6.out (Nat.le_refl _) _) | exact KB.out _ (by repeat first | exact Below.refl _ _ | refine Below.drew ?_ | refine b_alloc ?_ (Nat.le_refl _) _))
                  clear hK K
                  try simp only [Act.put, List.setIfInBounds_toArray, List.set_cons_zero, List.set_cons_succ]
                  refine wpAnyH_done (by kernel_rfl) ?_ _
                  refine NoPanic.normal ?_
                  have hk7 := HKU.out.later hb7.out
                  obtain ⟨t1, t2⟩ := hk7.lived (w0 := U) (ao := ao7) (cap := cap7) (lv' := lv ++ [⟨now, fc, 0⟩]) (GrowS.of_below hb7.out) HKU.out.lt (by
                    have := ORow.of_owns hown7.out
                    rw [HXS.out] at this
                    simpa [HNL.out, Wn.cells] using this) (fun g hg => (World.ownsRow.lt hown7.out g (by rw [own_ob]; exact hg)).1)
                  rw [show (lv ++ [(⟨now, fc, 0⟩ : Wn)]).length = n + 1 by rw [HNL.out]; simp] at t1 t2
                  obtain ⟨Y, hY⟩ : ∃ Y, Y = w7.setCell ⟨H, 4, none⟩ (.slice ao7 (n + 1) cap7) := ⟨_, rfl⟩
                  rw [← hY] at t1 t2
                  have z3 := t1.c3
                  have zf := t1.fz 3
                  have T1 := Lib.hid t1
                  have T2 := Lib.hid t2
                  have HY := Lib.hid hY
                  clear t1 t2 hY hk7
                  rw [← HY.out]
                  go_wp2_with fail
                  go_end0
                  have hB : But H Y (Y.setCell ⟨H, 3, none⟩ (.int .i64 0)) := (But.refl H _).set 3 _
                  have t3 := T1.out.boxed (f' := 0) (st' := false) (set_at T1.out.box) (fun q hq hqn => hB.block q hq hqn)
                  have e := HDEF.out
                  rw [if_pos (by rw [t0]; rfl)] at e
                  have hgr := HGU.out.trans (T2.out.trans (grow_but hB (.inl rfl)))
                  rw [e]
                  first | exact ⟨_, rfl, ⟨_, _, _, _, t3, rfl⟩, hgr⟩ | exact ⟨rfl, _, ⟨_, _, _, _, t3, rfl⟩, hgr⟩
                · go_simp
                  refine hK.out _ _ ?_ (fun hHeld => ?_)
                  · (first | exact c3 | exact KST.out _ _ hb7.out | exact KB.out _ hb7.out | exact KB.out _ hb6.out | exact KB.out _ (b_alloc hb6.out (Nat.le_refl _) _) | exact KB.out _ (by repeat first | exact Below.refl _ _ | refine Below.drew ?_ | refine b_alloc ?_ (Nat.le_refl _) _))
                  clear hK K
                  try simp only [Act.put, List.setIfInBounds_toArray, List.set_cons_zero, List.set_cons_succ]
                  refine wpAnyH_ready (rs := [6]) (by kernel_rfl) (by simp) ?_
                  refine AllReadyH.cons rfl (fun K hK => ?_) AllReadyH.nil
                  (first
                    | (refine step_append_lie2 (by rfl) (.tmp 73) (.tmp 77) 34 (by rfl) U.heap.size 63 i1 _ 3 24 Try.underlying34 HJ.out hy0 hy1 hy2 rfl (by omega) (.slice (some ⟨U.heap.size, 0, none⟩) 0 0) 0 [] (by rfl) ((HE0.out U (Below.refl _ _)).1) (.slice la n lc) (0) (U.heap.size) n xs (by rfl) (HL.out _ (by repeat first | exact Below.refl _ _ | refine Below.drew ?_ | refine b_alloc ?_ (Nat.le_refl _) _)) HX1.out n (by omega) (by simp only [maxLen]; omega) (by omega) (by first | omega | (simp [World.drew]; done) | (simp [World.drew]; omega)) ?_
                       intro ao6 cap6 w6 hown6' hgrow6' hob6'
                       have hown6 := Lib.hid (hown6' : w6.ownsRow U.heap.size 63 3 (.slice ao6 n cap6) n xs)
                       have hb6 : Hid (Below U.heap.size U w6) := Lib.hid (Below.grown (by repeat first | exact Below.refl _ _ | refine Below.drew ?_ | refine b_alloc ?_ (Nat.le_refl _) _) hgrow6' (by first | omega | (simp [World.drew]; done) | (simp [World.drew]; omega)) (fun q hq => by cases hq; exact Nat.le_refl _))
                       skip
                       clear hown6' hgrow6' hob6')
                    | (refine step_append_lie2 (by rfl) (.tmp 73) (.tmp 77) 34 (by rfl) U.heap.size 63 i1 _ 3 24 Try.underlying34 HJ.out hy0 hy1 hy2 rfl (by omega) (.slice (some ⟨U.heap.size, 0, none⟩) 0 0) 0 [] (by rfl) ((HE0.out U (Below.refl _ _)).2 _) (.slice la n lc) (0) (U.heap.size) n xs (by rfl) (HL.out _ (by repeat first | exact Below.refl _ _ | refine Below.drew ?_ | refine b_alloc ?_ (Nat.le_refl _) _)) HX1.out n (by omega) (by simp only [maxLen]; omega) (by omega) (by first | omega | (simp [World.drew]; done) | (simp [World.drew]; omega)) ?_
                       intro ao6 cap6 w6 hown6' hgrow6' hob6'
                       have hown6 := Lib.hid (hown6' : w6.ownsRow U.heap.size 63 3 (.slice ao6 n cap6) n xs)
                       have hb6 : Hid (Below U.heap.size U w6) := Lib.hid (Below.grown (by repeat first | exact Below.refl _ _ | refine Below.drew ?_ | refine b_alloc ?_ (Nat.le_refl _) _) hgrow6' (by first | omega | (simp [World.drew]; done) | (simp [World.drew]; omega)) (fun q hq => by cases hq; exact Nat.le_refl _))
                       have hr6 : Hid (Lies w6 (U.heap.size + 1) (U.heap.size + 2) (.slice (some ⟨U.heap.size + 1, 0, none⟩) 1 1) 1 3 [.int .i64 now, .int .i64 fc, .int .i64 0]) := Lib.hid (one_lies (cs := #[.int .i64 now, .int .i64 fc, .int .i64 0]) ((hgrow6'.block (U.heap.size + 1) (by first | omega | (simp [World.drew]; done) | (simp [World.drew]; omega)) (by simp [Value.ownBlock])).trans (by simpa [World.drew] using heap_alloc_new (U.alloc (.cells #[] 63)) (.cells #[.int .i64 now, .int .i64 fc, .int .i64 0] 63))) rfl)
                       clear hown6' hgrow6' hob6')
                    | (refine step_append_lie2 (by rfl) (.tmp 73) (.tmp 77) 34 (by rfl) U.heap.size 63 i1 _ 3 24 Try.underlying34 HJ.out hy0 hy1 hy2 rfl (by omega) (.slice (some ⟨U.heap.size + 1, 0, none⟩) 0 0) 0 [] (by rfl) (by have h := (HE0.out (U.alloc (.cells #[.int .i64 now, .int .i64 fc, .int .i64 0] 63)) (below1 _ _)).1; rw [show (U.alloc (.cells #[.int .i64 now, .int .i64 fc, .int .i64 0] 63)).heap.size = U.heap.size + 1 by simp] at h; exact h) (.slice la n lc) (0) (U.heap.size) n xs (by rfl) (HL.out _ (by repeat first | exact Below.refl _ _ | refine Below.drew ?_ | refine b_alloc ?_ (Nat.le_refl _) _)) HX1.out n (by omega) (by simp only [maxLen]; omega) (by omega) (by first | omega | (simp [World.drew]; done) | (simp [World.drew]; omega)) ?_
                       intro ao6 cap6 w6 hown6' hgrow6' hob6'
                       have hown6 := Lib.hid (hown6' : w6.ownsRow U.heap.size 63 3 (.slice ao6 n cap6) n xs)
                       have hb6 : Hid (Below U.heap.size U w6) := Lib.hid (Below.grown (by repeat first | exact Below.refl _ _ | refine Below.drew ?_ | refine b_alloc ?_ (Nat.le_refl _) _) hgrow6' (by first | omega | (simp [World.drew]; done) | (simp [World.drew]; omega)) (fun q hq => by cases hq; exact Nat.le_succ _))
                       have hr6 : Hid (Lies w6 U.heap.size (U.heap.size + 1) (.slice (some ⟨U.heap.size, 0, none⟩) 1 1) 1 3 [.int .i64 now, .int .i64 fc, .int .i64 0]) := Lib.hid (one_lies (cs := #[.int .i64 now, .int .i64 fc, .int .i64 0]) ((hgrow6'.block U.heap.size (by first | omega | (simp [World.drew]; done) | (simp [World.drew]; omega)) (by simp [Value.ownBlock])).trans (((below1 (U.alloc (.cells #[.int .i64 now, .int .i64 fc, .int .i64 0] 63)) (.cells #[] 63)).block U.heap.size (by simp)).trans (heap_alloc_new U (.cells #[.int .i64 now, .int .i64 fc, .int .i64 0] 63)))) rfl)
                       clear hown6' hgrow6' hob6'))
                  refine hK.out _ _ ?_ (fun hHeld => ?_)
                  · (first | exact c3 | exact KST.out _ _ hb7.out | exact KB.out _ hb7.out | exact KB.out _ hb6.out | exact KB.out _ (b_alloc hb6.out (Nat.le_refl _) _) | exact KB.out _ (by repeat first | exact Below.refl _ _ | refine Below.drew ?_ | refine b_alloc ?_ (Nat.le_refl _) _))
                  clear hK K
                  try simp only [Act.put, List.setIfInBounds_toArray, List.set_cons_zero, List.set_cons_succ]
                  refine wpAnyH_ready (rs := [14]) (by kernel_rfl) (by simp) ?_
                  refine AllReadyH.cons rfl (fun K hK => ?_) AllReadyH.nil
                  (first
                    | (refine step_append_lie2 (by rfl) (.tmp 78) (.tmp 85) 34 (by rfl) U.heap.size 63 i1 _ 3 24 Try.underlying34 HJ.out hy0 hy1 hy2 rfl (by omega) (.slice ao6 n cap6) n xs (by rfl) (owns_later hown6.out (below1 _ _)) (.slice (some ⟨w6.heap.size, 0, none⟩) 1 1) (w6.heap.size) (w6.heap.size + 1) 1 [.int .i64 now, .int .i64 fc, .int .i64 0] (by rfl) (one_lies (cs := #[.int .i64 now, .int .i64 fc, .int .i64 0]) (heap_alloc_new w6 _) rfl) (wn_one ⟨now, fc, 0⟩) (n + 1) rfl (by simp only [maxLen]; omega) (by omega) (by have h := hb6.out.size; first | omega | (simp [World.drew]; done) | (simp [World.drew]; omega)) ?_
                       intro ao7 cap7 w7 hown7' hgrow7' hob7'
                       have hown7 := Lib.hid hown7'
                       have hb7 : Hid (Below U.heap.size U w7) := Lib.hid (Below.grown ((b_alloc hb6.out (Nat.le_refl _) _).drew) hgrow7' (by have h := hb6.out.size; first | omega | (simp [World.drew]; done) | (simp [World.drew]; omega)) (fun q hq => (owns_block (hown6.out) q hq).1))
                       obtain ⟨hu7, hf7⟩ := KC.out _ hb7.out
                       clear hown7' hgrow7' hob7')
                    | (refine step_append_lie2 (by rfl) (.tmp 78) (.tmp 85) 34 (by rfl) U.heap.size 63 i1 _ 3 24 Try.underlying34 HJ.out hy0 hy1 hy2 rfl (by omega) (.slice ao6 n cap6) n xs (by rfl) (owns_later hown6.out (below1 _ _)) (.slice (some ⟨w6.heap.size, 0, none⟩) 1 1) (w6.heap.size) (w6.heap.size + 1) 1 [.int .i64 now, .int .i64 fc, .int .i64 0] (by rfl) (one_lies (cs := #[.int .i64 now, .int .i64 fc, .int .i64 0]) (heap_alloc_new w6 _) rfl) (wn_one ⟨now, fc, 0⟩) (n + 1) rfl (by simp only [maxLen]; omega) (by omega) (by have h := hb6.out.size; first | omega | (simp [World.drew]; done) | (simp [World.drew]; omega)) ?_
                       intro ao7 cap7 w7 hown7' hgrow7' hob7'
                       have hown7 := Lib.hid hown7'
                       have hb7 : Hid (Below U.heap.size U w7) := Lib.hid (Below.grown (b_alloc hb6.out (Nat.le_refl _) _) hgrow7' (by have h := hb6.out.size; first | omega | (simp [World.drew]; done) | (simp [World.drew]; omega)) (fun q hq => (owns_block (hown6.out) q hq).1))
                       obtain ⟨hu7, hf7⟩ := KC.out _ hb7.out
                       clear hown7' hgrow7' hob7')
                    | (refine step_append_lie2 (by rfl) (.tmp 78) (.tmp 85) 34 (by rfl) U.heap.size 63 i1 _ 3 24 Try.underlying34 HJ.out hy0 hy1 hy2 rfl (by omega) (.slice ao6 n cap6) n xs (by rfl) (hown6.out) (.slice (some ⟨U.heap.size + 1, 0, none⟩) 1 1) (U.heap.size + 1) (U.heap.size + 2) 1 [.int .i64 now, .int .i64 fc, .int .i64 0] (by rfl) (hr6.out) (wn_one ⟨now, fc, 0⟩) (n + 1) rfl (by simp only [maxLen]; omega) (by omega) (by have h := hb6.out.size; first | omega | (simp [World.drew]; done) | (simp [World.drew]; omega)) ?_
                       intro ao7 cap7 w7 hown7' hgrow7' hob7'
                       have hown7 := Lib.hid hown7'
                       have hb7 : Hid (Below U.heap.size U w7) := Lib.hid (Below.grown (hb6.out) hgrow7' (by have h := hb6.out.size; first | omega | (simp [World.drew]; done) | (simp [World.drew]; omega)) (fun q hq => (owns_block (hown6.out) q hq).1))
                       obtain ⟨hu7, hf7⟩ := KC.out _ hb7.out
                       clear hown7' hgrow7' hob7')
                    | (refine step_append_lie2 (by rfl) (.tmp 78) (.tmp 85) 34 (by rfl) U.heap.size 63 i1 _ 3 24 Try.underlying34 HJ.out hy0 hy1 hy2 rfl (by omega) (.slice ao6 n cap6) n xs (by rfl) (hown6.out) (.slice (some ⟨U.heap.size + 1, 0, none⟩) 1 1) (U.heap.size + 1) (U.heap.size + 2) 1 [.int .i64 now, .int .i64 fc, .int .i64 0] (by rfl) (hr6.out) (wn_one ⟨now, fc, 0⟩) (n + 1) rfl (by simp only [maxLen]; omega) (by omega) (by have h := hb6.out.size; first | omega | (simp [World.drew]; done) | (simp [World.drew]; omega)) ?_
                       intro ao7 cap7 w7 hown7' hgrow7' hob7'
                       have hown7 := Lib.hid hown7'
                       have hb7 : Hid (Below U.heap.size U w7) := Lib.hid (Below.grown (hb6.out.drew) hgrow7' (by have h := hb6.out.size; first | omega | (simp [World.drew]; done) | (simp [World.drew]; omega)) (fun q hq => (owns_block (hown6.out) q hq).1))
                       obtain ⟨hu7, hf7⟩ := KC.out _ hb7.out
                       clear hown7' hgrow7' hob7')
                    | (refine step_append_lie2 (by rfl) (.tmp 78) (.tmp 85) 34 (by rfl) U.heap.size 63 i1 _ 3 24 Try.underlying34 HJ.out hy0 hy1 hy2 rfl (by omega) (.slice ao6 n cap6) n xs (by rfl) (hown6.out) (.slice (some ⟨U.heap.size, 0, none⟩) 1 1) (U.heap.size) (U.heap.size + 1) 1 [.int .i64 now, .int .i64 fc, .int .i64 0] (by rfl) (hr6.out) (wn_one ⟨now, fc, 0⟩) (n + 1) rfl (by simp only [maxLen]; omega) (by omega) (by have h := hb6.out.size; first | omega | (simp [World.drew]; done) | (simp [World.drew]; omega)) ?_
                       intro ao7 cap7 w7 hown7' hgrow7' hob7'
                       have hown7 := Lib.hid hown7'
                       have hb7 : Hid (Below U.heap.size U w7) := Lib.hid (Below.grown (hb6.out) hgrow7' (by have h := hb6.out.size; first | omega | (simp [World.drew]; done) | (simp [World.drew]; omega)) (fun q hq => (owns_block (hown6.out) q hq).1))
                       obtain ⟨hu7, hf7⟩ := KC.out _ hb7.out
                       clear hown7' hgrow7' hob7')
                    | (refine step_append_lie2 (by rfl) (.tmp 78) (.tmp 85) 34 (by rfl) U.heap.size 63 i1 _ 3 24 Try.underlying34 HJ.out hy0 hy1 hy2 rfl (by omega) (.slice ao6 n cap6) n xs (by rfl) (hown6.out) (.slice (some ⟨U.heap.size, 0, none⟩) 1 1) (U.heap.size) (U.heap.size + 1) 1 [.int .i64 now, .int .i64 fc, .int .i64 0] (by rfl) (hr6.out) (wn_one ⟨now, fc, 0⟩) (n + 1) rfl (by simp only [maxLen]; omega) (by omega) (by have h := hb6.out.size; first | omega | (simp [World.drew]; done) | (simp [World.drew]; omega)) ?_
                       intro ao7 cap7 w7 hown7' hgrow7' hob7'
                       have hown7 := Lib.hid hown7'
                       have hb7 : Hid (Below U.heap.size U w7) := Lib.hid (Below.grown (hb6.out.drew) hgrow7' (by have h := hb6.out.size; first | omega | (simp [World.drew]; done) | (simp [World.drew]; omega)) (fun q hq => (owns_block (hown6.out) q hq).1))
                       obtain ⟨hu7, hf7⟩ := KC.out _ hb7.out
                       clear hown7' hgrow7' hob7'))
                  refine hK.out _ _ ?_ (fun hHeld => ?_)
                  · (first | exact c3 | exact KST.out _ _ hb7.out | exact KB.out _ hb7.out | exact KB.out _ hb6.out | exact KB.out _ (b_alloc hb6.out (Nat.le_refl _) _) | exact KB.out _ (by repeat first | exact Below.refl _ _ | refine Below.drew ?_ | refine b_alloc ?_ (Nat.le_refl _) _))
                  clear hK K
                  try simp only [Act.put, List.setIfInBounds_toArray, List.set_cons_zero, List.set_cons_succ]
                  refine wpAnyH_takeE (i := 15) (d := some 87) (v := ?_) rfl rfl (by kernel_rfl) (by kernel_rfl) (by kernel_rfl) (fun _ _ _ h => h) (Or.inl ⟨by rfl, ?_⟩) (by assumption) ?_
                  rotate_left
                  · intro w hSw
                    (try dsimp only at hSw)
                    go_simp
                    try (with_reducible rfl)
                  simp only [Act.put, List.setIfInBounds_toArray, List.set_cons_zero, List.set_cons_succ]
                  refine wpAnyH_takeE (i := 16) (d := some 88) (v := ?_) rfl rfl (by kernel_rfl) (by kernel_rfl) (by kernel_rfl) (fun _ _ _ h => h) (Or.inl ⟨by rfl, ?_⟩) (by assumption) ?_
                  rotate_left
                  · intro w hSw
                    (try dsimp only at hSw)
                    go_simp
                    try (with_reducible rfl)
                  simp only [Act.put, List.setIfInBounds_toArray, List.set_cons_zero, List.set_cons_succ]
                  refine wpAnyH_ready (rs := [17]) (by kernel_rfl) (by simp) ?_
                  refine AllReadyH.cons rfl (fun K hK => ?_) AllReadyH.nil
                  go_simp
                  refine hK.out _ _ ?_ (fun hHeld => ?_)
                  · (first | exact c3 | exact KST.out _ _ hb7.out | exact KB.out _ hb7.out | exact KB.out _ hb6.out | exact KB.out _ (b_alloc hb6.out (Nat.le_refl _) _) | exact KB.out _ (by repeat first | exact Below.refl _ _ | refine Below.drew ?_ | refine b_alloc ?_ (Nat.le_refl _) _))
                  clear hK K
                  try simp only [Act.put, List.setIfInBounds_toArray, List.set_cons_zero, List.set_cons_succ]
                  refine wpAnyH_done (by kernel_rfl) ?_ _
                  refine NoPanic.normal ?_
                  have hk7 := HKU.out.later hb7.out
                  obtain ⟨t1, t2⟩ := hk7.lived (w0 := U) (ao := ao7) (cap := cap7) (lv' := lv ++ [⟨now, fc, 0⟩]) (GrowS.of_below hb7.out) HKU.out.lt (by
                    have := ORow.of_owns hown7.out
                    rw [HXS.out] at this
                    simpa [HNL.out, Wn.cells] using this) (fun g hg => (World.ownsRow.lt hown7.out g (by rw [own_ob]; exact hg)).1)
                  rw [show (lv ++ [(⟨now, fc, 0⟩ : Wn)]).length = n + 1 by rw [HNL.out]; simp] at t1 t2
                  obtain ⟨Y, hY⟩ : ∃ Y, Y = w7.setCell ⟨H, 4, none⟩ (.slice ao7 (n + 1) cap7) := ⟨_, rfl⟩
                  rw [← hY] at t1 t2
                  have z3 := t1.c3
                  have zf := t1.fz 3
                  have T1 := Lib.hid t1
                  have T2 := Lib.hid t2
                  have HY := Lib.hid hY
                  clear t1 t2 hY hk7
                  rw [← HY.out]
                  go_wp2_with fail
                  go_end0
                  have hB : But H Y (Y.setCell ⟨H, 3, none⟩ (.int .i64 0)) := (But.refl H _).set 3 _
                  have t3 := T1.out.boxed (f' := 0) (st' := false) (set_at T1.out.box) (fun q hq hqn => hB.block q hq hqn)
                  have e := HDEF.out
                  rw [if_pos (by rw [t0]; rfl)] at e
                  have hgr := HGU.out.trans (T2.out.trans (grow_but hB (.inl rfl)))
                  rw [e]
                  first | exact ⟨_, rfl, ⟨_, _, _, _, t3, rfl⟩, hgr⟩ | exact ⟨rfl, _, ⟨_, _, _, _, t3, rfl⟩, hgr⟩
              · go_simp
                refine hK.out _ _ ?_ (fun hHeld => ?_)
                · (first | exact c3 | exact KST.out _ _ hb7.out | exact KB.out _ hb7.out | exact KB.out _ hb6.out | exact KB.out _ (b_alloc hb6.out (Nat.le_refl _) _) | exact KB.out _ (by repeat first | exact Below.refl _ _ | refine Below.drew ?_ | refine b_alloc ?_ (Nat.le_refl _) _))
                clear hK K
                try simp only [Act.put, List.setIfInBounds_toArray, List.set_cons_zero, List.set_cons_succ]
                refine wpAnyH_ready (rs := [1]) (by kernel_rfl) (by simp) ?_
                refine AllReadyH.cons rfl (fun K hK => ?_) AllReadyH.nil
                go_simp
                refine hK.out _ _ ?_ (fun hHeld => ?_)
                · (first | exact c3 | exact KST.out _ _ hb7.out | exact KB.out _ hb7.out | exact KB.out _ hb6.out | exact KB.out _ (b_alloc hb6.out (Nat.le_refl _) _) | exact KB.out _ (by repeat first | exact Below.refl _ _ | refine Below.drew ?_ | refine b_alloc ?_ (Nat.le_refl _) _))
                clear hK K
                try simp only [Act.put, List.setIfInBounds_toArray, List.set_cons_zero, List.set_cons_succ]
                refine wpAnyH_ready (rs := [6]) (by kernel_rfl) (by simp) ?_
                refine AllReadyH.cons rfl (fun K hK => ?_) AllReadyH.nil
                (first
                  | (refine step_append_lie2 (by rfl) (.tmp 73) (.tmp 77) 34 (by rfl) U.heap.size 63 i1 _ 3 24 Try.underlying34 HJ.out hy0 hy1 hy2 rfl (by omega) (.slice (some ⟨U.heap.size, 0, none⟩) 0 0) 0 [] (by rfl) ((HE0.out U (Below.refl _ _)).1) (.slice la n lc) (0) (U.heap.size) n xs (by rfl) (HL.out _ (by repeat first | exact Below.refl _ _ | refine Below.drew ?_ | refine b_alloc ?_ (Nat.le_refl _) _)) HX1.out n (by omega) (by simp only [maxLen]; omega) (by omega) (by first | omega | (simp [World.drew]; done) | (simp [World.drew]; omega)) ?_
                     intro ao6 cap6 w6 hown6' hgrow6' hob6'
                     have hown6 := Lib.hid (hown6' : w6.ownsRow U.heap.size 63 3 (.slice ao6 n cap6) n xs)
                     have hb6 : Hid (Below U.heap.size U w6) := Lib.hid (Below.grown (by repeat first | exact Below.refl _ _ | refine Below.drew ?_ | refine b_alloc ?_ (Nat.le_refl _) _) hgrow6' (by first | omega | (simp [World.drew]; done) | (simp [World.drew]; omega)) (fun q hq => by cases hq; exact Nat.le_refl _))
                     skip
                     clear hown6' hgrow6' hob6')
                  | (refine step_append_lie2 (by rfl) (.tmp 73) (.tmp 77) 34 (by rfl) U.heap.size 63 i1 _ 3 24 Try.underlying34 HJ.out hy0 hy1 hy2 rfl (by omega) (.slice (some ⟨U.heap.size, 0, none⟩) 0 0) 0 [] (by rfl) ((HE0.out U (Below.refl _ _)).2 _) (.slice la n lc) (0) (U.heap.size) n xs (by rfl) (HL.out _ (by repeat first | exact Below.refl _ _ | refine Below.drew ?_ | refine b_alloc ?_ (Nat.le_refl _) _)) HX1.out n (by omega) (by simp only [maxLen]; omega) (by omega) (by first | omega | (simp [World.drew]; done) | (simp [World.drew]; omega)) ?_
                     intro ao6 cap6 w6 hown6' hgrow6' hob6'
                     have hown6 := Lib.hid (hown6' : w6.ownsRow U.heap.size 63 3 (.slice ao6 n cap6) n xs)
                     have hb6 : Hid (Below U.heap.size U w6) := Lib.hid (Below.grown (by repeat first | exact Below.refl _ _ | refine Below.drew ?_ | refine b_alloc ?_ (Nat.le_refl _) _) hgrow6' (by first | omega | (simp [World.drew]; done) | (simp [World.drew]; omega)) (fun q hq => by cases hq; exact Nat.le_refl _))
                     have hr6 : Hid (Lies w6 (U.heap.size + 1) (U.heap.size + 2) (.slice (some ⟨U.heap.size + 1, 0, none⟩) 1 1) 1 3 [.int .i64 now, .int .i64 fc, .int .i64 0]) := Lib.hid (one_lies (cs := #[.int .i64 now, .int .i64 fc, .int .i64 0]) ((hgrow6'.block (U.heap.size + 1) (by first | omega | (simp [World.drew]; done) | (simp [World.drew]; omega)) (by simp [Value.ownBlock])).trans (by simpa [World.drew] using heap_alloc_new (U.alloc (.cells #[] 63)) (.cells #[.int .i64 now, .int .i64 fc, .int .i64 0] 63))) rfl)
                     clear hown6' hgrow6' hob6')
                  | (refine step_append_lie2 (by rfl) (.tmp 73) (.tmp 77) 34 (by rfl) U.heap.size 63 i1 _ 3 24 Try.underlying34 HJ.out hy0 hy1 hy2 rfl (by omega) (.slice (some ⟨U.heap.size + 1, 0, none⟩) 0 0) 0 [] (by rfl) (by have h := (HE0.out (U.alloc (.cells #[.int .i64 now, .int .i64 fc, .int .i64 0] 63)) (below1 _ _)).1; rw [show (U.alloc (.cells #[.int .i64 now, .int .i64 fc, .int .i64 0] 63)).heap.size = U.heap.size + 1 by simp] at h; exact h) (.slice la n lc) (0) (U.heap.size) n xs (by rfl) (HL.out _ (by repeat first | exact Below.refl _ _ | refine Below.drew ?_ | refine b_alloc ?_ (Nat.le_refl _) _)) HX1.out n (by omega) (by simp only [maxLen]; omega) (by omega) (by first | omega | (simp [World.drew]; done) | (simp [World.drew]; omega)) ?_
                     intro ao6 cap6 w6 hown6' hgrow6' hob6'
                     have hown6 := Lib.hid (hown6' : w6.ownsRow U.heap.size 63 3 (.slice ao6 n cap6) n xs)
                     have hb6 : Hid (Below U.heap.size U w6) := Lib.hid (Below.grown (by repeat first | exact Below.refl _ _ | refine Below.drew ?_ | refine b_alloc ?_ (Nat.le_refl _) _) hgrow6' (by first | omega | (simp [World.drew]; done) | (simp [World.drew]; omega)) (fun q hq => by cases hq; exact Nat.le_succ _))
                     have hr6 : Hid (Lies w6 U.heap.size (U.heap.size + 1) (.slice (some ⟨U.heap.size, 0, none⟩) 1 1) 1 3 [.int .i64 now, .int .i64 fc, .int .i64 0]) := Lib.hid (one_lies (cs := #[.int .i64 now, .int .i64 fc, .int .i64 0]) ((hgrow6'.block U.heap.size (by first | omega | (simp [World.drew]; done) | (simp [World.drew]; omega)) (by simp [Value.ownBlock])).trans (((below1 (U.alloc (.cells #[.int .i64 now, .int .i64 fc, .int .i64 0] 63)) (.cells #[] 63)).block U.heap.size (by simp)).trans (heap_alloc_new U (.cells #[.int .i64 now, .int .i64 fc, .int .i64 0] 63)))) rfl)
                     clear hown6' hgrow6' hob6'))
                refine hK.out _ _ ?_ (fun hHeld => ?_)
                · (first | exact c3 | exact KST.out _ _ hb7.out | exact KB.out _ hb7.out | exact KB.out _ hb6.out | exact KB.out _ (b_alloc hb6.out (Nat.le_refl _) _) | exact KB.out _ (by repeat first | exact Below.refl _ _ | refine Below.drew ?_ | refine b_alloc ?_ (Nat.le_refl _) _))
                clear hK K
                try simp only [Act.put, List.setIfInBounds_toArray, List.set_cons_zero, List.set_cons_succ]
                refine wpAnyH_ready (rs := [14]) (by kernel_rfl) (by simp) ?_
                refine AllReadyH.cons rfl (fun K hK => ?_) AllReadyH.nil
                (first
                  | (refine step_append_lie2 (by rfl) (.tmp 78) (.tmp 85) 34 (by rfl) U.heap.size 63 i1 _ 3 24 Try.underlying34 HJ.out hy0 hy1 hy2 rfl (by omega) (.slice ao6 n cap6) n xs (by rfl) (owns_later hown6.out (below1 _ _)) (.slice (some ⟨w6.heap.size, 0, none⟩) 1 1) (w6.heap.size) (w6.heap.size + 1) 1 [.int .i64 now, .int .i64 fc, .int .i64 0] (by rfl) (one_lies (cs := #[.int .i64 now, .int .i64 fc, .int .i64 0]) (heap_alloc_new w6 _) rfl) (wn_one ⟨now, fc, 0⟩) (n + 1) rfl (by simp only [maxLen]; omega) (by omega) (by have h := hb6.out.size; first | omega | (simp [World.drew]; done) | (simp [World.drew]; omega)) ?_
                     intro ao7 cap7 w7 hown7' hgrow7' hob7'
                     have hown7 := Lib.hid hown7'
                     have hb7 : Hid (Below U.heap.size U w7) := Lib.hid (Below.grown ((b_alloc hb6.out (Nat.le_refl _) _).drew) hgrow7' (by have h := hb6.out.size; first | omega | (simp [World.drew]; done) | (simp [World.drew]; omega)) (fun q hq => (owns_block (hown6.out) q hq).1))
                     obtain ⟨hu7, hf7⟩ := KC.out _ hb7.out
                     clear hown7' hgrow7' hob7')
                  | (refine step_append_lie2 (by rfl) (.tmp 78) (.tmp 85) 34 (by rfl) U.heap.size 63 i1 _ 3 24 Try.underlying34 HJ.out hy0 hy1 hy2 rfl (by omega) (.slice ao6 n cap6) n xs (by rfl) (owns_later hown6.out (below1 _ _)) (.slice (some ⟨w6.heap.size, 0, none⟩) 1 1) (w6.heap.size) (w6.heap.size + 1) 1 [.int .i64 now, .int .i64 fc, .int .i64 0] (by rfl) (one_lies (cs := #[.int .i64 now, .int .i64 fc, .int .i64 0]) (heap_alloc_new w6 _) rfl) (wn_one ⟨now, fc, 0⟩) (n + 1) rfl (by simp only [maxLen]; omega) (by omega) (by have h := hb6.out.size; first | omega | (simp [World.drew]; done) | (simp [World.drew]; omega)) ?_
                     intro ao7 cap7 w7 hown7' hgrow7' hob7'
                     have hown7 := Lib.hid hown7'
                     have hb7 : Hid (Below U.heap.size U w7) := Lib.hid (Below.grown (b_alloc hb6.out (Nat.le_refl _) _) hgrow7' (by have h := hb6.out.size; first | omega | (simp [World.drew]; done) | (simp [World.drew]; omega)) (fun q hq => (owns_block (hown6.out) q hq).1))
                     obtain ⟨hu7, hf7⟩ := KC.out _ hb7.out
                     clear hown7' hgrow7' hob7')
                  | (refine step_append_lie2 (by rfl) (.tmp 78) (.tmp 85) 34 (by rfl) U.heap.size 63 i1 _ 3 24 Try.underlying34 HJ.out hy0 hy1 hy2 rfl (by omega) (.slice ao6 n cap6) n xs (by rfl) (hown6.out) (.slice (some ⟨U.heap.size + 1, 0, none⟩) 1 1) (U.heap.size + 1) (U.heap.size + 2) 1 [.int .i64 now, .int .i64 fc, .int .i64 0] (by rfl) (hr6.out) (wn_one ⟨now, fc, 0⟩) (n + 1) rfl (by simp only [maxLen]; omega) (by omega) (by have h := hb6.out.size; first | omega | (simp [World.drew]; done) | (simp [World.drew]; omega)) ?_
                     intro ao7 cap7 w7 hown7' hgrow7' hob7'
                     have hown7 := Lib.hid hown7'
                     have hb7 : Hid (Below U.heap.size U w7) := Lib.hid (Below.grown (hb6.out) hgrow7' (by have h := hb6.out.size; first | omega | (simp [World.drew]; done) | (simp [World.drew]; omega)) (fun q hq => (owns_block (hown6.out) q hq).1))
                     obtain ⟨hu7, hf7⟩ := KC.out _ hb7.out
                     clear hown7' hgrow7' hob7')
                  | (refine step_append_lie2 (by rfl) (.tmp 78) (.tmp 85) 34 (by rfl) U.heap.size 63 i1 _ 3 24 Try.underlying34 HJ.out hy0 hy1 hy2 rfl (by omega) (.slice ao6 n cap6) n xs (by rfl) (hown6.out) (.slice (some ⟨U.heap.size + 1, 0, none⟩) 1 1) (U.heap.size + 1) (U.heap.size + 2) 1 [.int .i64 now, .int .i64 fc, .int .i64 0] (by rfl) (hr6.out) (wn_one ⟨now, fc, 0⟩) (n + 1) rfl (by simp only [maxLen]; omega) (by omega) (by have h := hb6.out.size; first | omega | (simp [World.drew]; done) | (simp [World.drew]; omega)) ?_
                     intro ao7 cap7 w7 hown7' hgrow7' hob7'
                     have hown7 := Lib.hid hown7'
                     have hb7 : Hid (Below U.heap.size U w7) := Lib.hid (Below.grown (hb6.out.drew) hgrow7' (by have h := hb6.out.size; first | omega | (simp [World.drew]; done) | (simp [World.drew]; omega)) (fun q hq => (owns_block (hown6.out) q hq).1))
                     obtain ⟨hu7, hf7⟩ := KC.out _ hb7.out
                     clear hown7' hgrow7' hob7')
                  | (refine step_append_lie2 (by rfl) (.tmp 78) (.tmp 85) 34 (by rfl) U.heap.size 63 i1 _ 3 24 Try.underlying34 HJ.out hy0 hy1 hy2 rfl (by omega) (.slice ao6 n cap6) n xs (by rfl) (hown6.out) (.slice (some ⟨U.heap.size, 0, none⟩) 1 1) (U.heap.size) (U.heap.size + 1) 1 [.int .i64 now, .int .i64 fc, .int .i64 0] (by rfl) (hr6.out) (wn_one ⟨now, fc, 0⟩) (n + 1) rfl (by simp only [maxLen]; omega) (by omega) (by have h := hb6.out.size; first | omega | (simp [World.drew]; done) | (simp [World.drew]; omega)) ?_
                     intro ao7 cap7 w7 hown7' hgrow7' hob7'
                     have hown7 := Lib.hid hown7'
                     have hb7 : Hid (Below U.heap.size U w7) := Lib.hid (Below.grown (hb6.out) hgrow7' (by have h := hb6.out.size; first | omega | (simp [World.drew]; done) | (simp [World.drew]; omega)) (fun q hq => (owns_block (hown6.out) q hq).1))
                     obtain ⟨hu7, hf7⟩ := KC.out _ hb7.out
                     clear hown7' hgrow7' hob7')
                  | (refine step_append_lie2 (by rfl) (.tmp 78) (.tmp 85) 34 (by rfl) U.heap.size 63 i1 _ 3 24 Try.underlying34 HJ.out hy0 hy1 hy2 rfl (by omega) (.slice ao6 n cap6) n xs (by rfl) (hown6.out) (.slice (some ⟨U.heap.size, 0, none⟩) 1 1) (U.heap.size) (U.heap.size + 1) 1 [.int .i64 now, .int .i64 fc, .int .i64 0] (by rfl) (hr6.out) (wn_one ⟨now, fc, 0⟩) (n + 1) rfl (by simp only [maxLen]; omega) (by omega) (by have h := hb6.out.size; first | omega | (simp [World.drew]; done) | (simp [World.drew]; omega)) ?_
                     intro ao7 cap7 w7 hown7' hgrow7' hob7'
                     have hown7 := Lib.hid hown7'
                     have hb7 : Hid (Below U.heap.size U w7) := Lib.hid (Below.grown (hb6.out.drew) hgrow7' (by have h := hb6.out.size; first | omega | (simp [World.drew]; done) | (simp [World.drew]; omega)) (fun q hq => (owns_block (hown6.out) q hq).1))
                     obtain ⟨hu7, hf7⟩ := KC.out _ hb7.out
                     clear hown7' hgrow7' hob7'))
                refine hK.out _ _ ?_ (fun hHeld => ?_)
                · (first | exact c3 | exact KST.out _ _ hb7.out | exact KB.out _ hb7.out | exact KB.out _ hb6.out | exact KB.out _ (b_alloc hb6.out (Nat.le_refl _) _) | exact KB.out _ (by repeat first | exact Below.refl _ _ | refine Below.drew ?_ | refine b_alloc ?_ (Nat.le_refl _) _))
                clear hK K
                try simp only [Act.put, List.setIfInBounds_toArray, List.set_cons_zero, List.set_cons_succ]
                refine wpAnyH_takeE (i := 15) (d := some 87) (v := ?_) rfl rfl (by kernel_rfl) (by kernel_rfl) (by kernel_rfl) (fun _ _ _ h => h) (Or.inl ⟨by rfl, ?_⟩) (by assumption) ?_
                rotate_left
                · intro w hSw
                  (try dsimp only at hSw)
                  go_simp
                  try (with_reducible rfl)
                simp only [Act.put, List.setIfInBounds_toArray, List.set_cons_zero, List.set_cons_succ]
                refine wpAnyH_takeE (i := 16) (d := some 88) (v := ?_) rfl rfl (by kernel_rfl) (by kernel_rfl) (by kernel_rfl) (fun _ _ _ h => h) (Or.inl ⟨by rfl, ?_⟩) (by assumption) ?_
                rotate_left
                · intro w hSw
                  (try dsimp only at hSw)
                  go_simp
                  try (with_reducible rfl)
                simp only [Act.put, List.setIfInBounds_toArray, List.set_cons_zero, List.set_cons_succ]
                refine wpAnyH_ready (rs := [17]) (by kernel_rfl) (by simp) ?_
                refine AllReadyH.cons rfl (fun K hK => ?_) AllReadyH.nil
                go_simp
                refine hK.out _ _ ?_ (fun hHeld => ?_)
                · (first | exact c3 | exact KST.out _ _ hb7.out | exact KB.out _ hb7.out | exact KB.out _ hb6.out | exact KB.out _ (b_alloc hb6.out (Nat.le_refl _) _) | exact KB.out _ (by repeat first | exact Below.refl _ _ | refine Below.drew ?_ | refine b_alloc ?_ (Nat.le_refl _) _))
                clear hK K
                try simp only [Act.put, List.setIfInBounds_toArray, List.set_cons_zero, List.set_cons_succ]
                refine wpAnyH_done (by kernel_rfl) ?_ _
                refine NoPanic.normal ?_
                have hk7 := HKU.out.later hb7.out
                obtain ⟨t1, t2⟩ := hk7.lived (w0 := U) (ao := ao7) (cap := cap7) (lv' := lv ++ [⟨now, fc, 0⟩]) (GrowS.of_below hb7.out) HKU.out.lt (by
                  have := ORow.of_owns hown7.out
                  rw [HXS.out] at this
                  simpa [HNL.out, Wn.cells] using this) (fun g hg => (World.ownsRow.lt hown7.out g (by rw [own_ob]; exact hg)).1)
                rw [show (lv ++ [(⟨now, fc, 0⟩ : Wn)]).length = n + 1 by rw [HNL.out]; simp] at t1 t2
                obtain ⟨Y, hY⟩ : ∃ Y, Y = w7.setCell ⟨H, 4, none⟩ (.slice ao7 (n + 1) cap7) := ⟨_, rfl⟩
                rw [← hY] at t1 t2
                have z3 := t1.c3
                have zf := t1.fz 3
                have T1 := Lib.hid t1
                have T2 := Lib.hid t2
                have HY := Lib.hid hY
                clear t1 t2 hY hk7
                rw [← HY.out]
                go_wp2_with fail
                go_end0
                have hB : But H Y (Y.setCell ⟨H, 3, none⟩ (.int .i64 0)) := (But.refl H _).set 3 _
                have t3 := T1.out.boxed (f' := 0) (st' := false) (set_at T1.out.box) (fun q hq hqn => hB.block q hq hqn)
                have e := HDEF.out
                rw [if_pos (by rw [t0]; rfl)] at e
                have hgr := HGU.out.trans (T2.out.trans (grow_but hB (.inl rfl)))
                rw [e]
                first | exact ⟨_, rfl, ⟨_, _, _, _, t3, rfl⟩, hgr⟩ | exact ⟨rfl, _, ⟨_, _, _, _, t3, rfl⟩, hgr⟩
            · go_simp
              refine hK.out _ _ ?_ (fun hHeld => ?_)
              · (first | exact c3 | exact KST.out _ _ hb7.out | exact KB.out _ hb7.out | exact KB.out _ hb6.out | exact KB.out _ (b_alloc hb6.out (Nat.le_refl _) _) | exact KB.out _ (by repeat first | exact Below.refl _ _ | refine Below.drew ?_ | refine b_alloc ?_ (Nat.le_refl _) _))
              clear hK K
              try simp only [Act.put, List.setIfInBounds_toArray, List.set_cons_zero, List.set_cons_succ]
              refine wpAnyH_ready (rs := [1, 5]) (by kernel_rfl) (by simp) ?_
              refine AllReadyH.cons rfl (fun K hK => ?_) (AllReadyH.cons rfl (fun K hK => ?_) AllReadyH.nil)
              · go_simp
                refine hK.out _ _ ?_ (fun hHeld => ?_)
                · (first | exact c3 | exact KST.out _ _ hb7.out | exact KB.out _ hb7.out | exact KB.out _ hb6.out | exact KB.out _ (b_alloc hb6.out (Nat.le_refl _) _) | exact KB.out _ (by repeat first | exact Below.refl _ _ | refine Below.drew ?_ | refine b_alloc ?_ (Nat.le_refl _) _))
                clear hK K
                try simp only [Act.put, List.setIfInBounds_toArray, List.set_cons_zero, List.set_cons_succ]
                refine wpAnyH_ready (rs := [5]) (by kernel_rfl) (by simp) ?_
                refine AllReadyH.cons rfl (fun K hK => ?_) AllReadyH.nil
                go_simp
                refine hK.out _ _ ?_ (fun hHeld => ?_)
                · (first | exact c3 | exact KST.out _ _ hb7.out | exact KB.out _ hb7.out | exact KB.out _ hb6.out | exact KB.out _ (b_alloc hb6.out (Nat.le_refl _) _) | exact KB.out _ (by repeat first | exact Below.refl _ _ | refine Below.drew ?_ | refine b_alloc ?_ (Nat.le_refl _) _))
                clear hK K
                try simp only [Act.put, List.setIfInBounds_toArray, List.set_cons_zero, List.set_cons_succ]
                refine wpAnyH_ready (rs := [6]) (by kernel_rfl) (by simp) ?_
                refine AllReadyH.cons rfl (fun K hK => ?_) AllReadyH.nil
                (first
                  | (refine step_append_lie2 (by rfl) (.tmp 73) (.tmp 77) 34 (by rfl) U.heap.size 63 i1 _ 3 24 Try.underlying34 HJ.out hy0 hy1 hy2 rfl (by omega) (.slice (some ⟨U.heap.size, 0, none⟩) 0 0) 0 [] (by rfl) ((HE0.out U (Below.refl _ _)).1) (.slice la n lc) (0) (U.heap.size) n xs (by rfl) (HL.out _ (by repeat first | exact Below.refl _ _ | refine Below.drew ?_ | refine b_alloc ?_ (Nat.le_refl _) _)) HX1.out n (by omega) (by simp only [maxLen]; omega) (by omega) (by first | omega | (simp [World.drew]; done) | (simp [World.drew]; omega)) ?_
                     intro ao6 cap6 w6 hown6' hgrow6' hob6'
                     have hown6 := Lib.hid (hown6' : w6.ownsRow U.heap.size 63 3 (.slice ao6 n cap6) n xs)
                     have hb6 : Hid (Below U.heap.size U w6) := Lib.hid (Below.grown (by repeat first | exact Below.refl _ _ | refine Below.drew ?_ | refine b_alloc ?_ (Nat.le_refl _) _) hgrow6' (by first | omega | (simp [World.drew]; done) | (simp [World.drew]; omega)) (fun q hq => by cases hq; exact Nat.le_refl _))
                     skip
                     clear hown6' hgrow6' hob6')
                  | (refine step_append_lie2 (by rfl) (.tmp 73) (.tmp 77) 34 (by rfl) U.heap.size 63 i1 _ 3 24 Try.underlying34 HJ.out hy0 hy1 hy2 rfl (by omega) (.slice (some ⟨U.heap.size, 0, none⟩) 0 0) 0 [] (by rfl) ((HE0.out U (Below.refl _ _)).2 _) (.slice la n lc) (0) (U.heap.size) n xs (by rfl) (HL.out _ (by repeat first | exact Below.refl _ _ | refine Below.drew ?_ | refine b_alloc ?_ (Nat.le_refl _) _)) HX1.out n (by omega) (by simp only [maxLen]; omega) (by omega) (by first | omega | (simp [World.drew]; done) | (simp [World.drew]; omega)) ?_
                     intro ao6 cap6 w6 hown6' hgrow6' hob6'
                     have hown6 := Lib.hid (hown6' : w6.ownsRow U.heap.size 63 3 (.slice ao6 n cap6) n xs)
                     have hb6 : Hid (Below U.heap.size U w6) := Lib.hid (Below.grown (by repeat first | exact Below.refl _ _ | refine Below.drew ?_ | refine b_alloc ?_ (Nat.le_refl _) _) hgrow6' (by first | omega | (simp [World.drew]; done) | (simp [World.drew]; omega)) (fun q hq => by cases hq; exact Nat.le_refl _))
                     have hr6 : Hid (Lies w6 (U.heap.size + 1) (U.heap.size + 2) (.slice (some ⟨U.heap.size + 1, 0, none⟩) 1 1) 1 3 [.int .i64 now, .int .i64 fc, .int .i64 0]) := Lib.hid (one_lies (cs := #[.int .i64 now, .int .i64 fc, .int .i64 0]) ((hgrow6'.block (U.heap.size + 1) (by first | omega | (simp [World.drew]; done) | (simp [World.drew]; omega)) (by simp [Value.ownBlock])).trans (by simpa [World.drew] using heap_alloc_new (U.alloc (.cells #[] 63)) (.cells #[.int .i64 now, .int .i64 fc, .int .i64 0] 63))) rfl)
                     clear hown6' hgrow6' hob6')
                  | (refine step_append_lie2 (by rfl) (.tmp 73) (.tmp 77) 34 (by rfl) U.heap.size 63 i1 _ 3 24 Try.underlying34 HJ.out hy0 hy1 hy2 rfl (by omega) (.slice (some ⟨U.heap.size + 1, 0, none⟩) 0 0) 0 [] (by rfl) (by have h := (HE0.out (U.alloc (.cells #[.int .i64 now, .int .i64 fc, .int .i64 0] 63)) (below1 _ _)).1; rw [show (U.alloc (.cells #[.int .i64 now, .int .i64 fc, .int .i64 0] 63)).heap.size = U.heap.size + 1 by simp] at h; exact h) (.slice la n lc) (0) (U.heap.size) n xs (by rfl) (HL.out _ (by repeat first | exact Below.refl _ _ | refine Below.drew ?_ | refine b_alloc ?_ (Nat.le_refl _) _)) HX1.out n (by omega) (by simp only [maxLen]; omega) (by omega) (by first | omega | (simp [World.drew]; done) | (simp [World.drew]; omega)) ?_
                     intro ao6 cap6 w6 hown6' hgrow6' hob6'
                     have hown6 := Lib.hid (hown6' : w6.ownsRow U.heap.size 63 3 (.slice ao6 n cap6) n xs)
                     have hb6 : Hid (Below U.heap.size U w6) := Lib.hid (Below.grown (by repeat first | exact Below.refl _ _ | refine Below.drew ?_ | refine b_alloc ?_ (Nat.le_refl _) _) hgrow6' (by first | omega | (simp [World.drew]; done) | (simp [World.drew]; omega)) (fun q hq => by cases hq; exact Nat.le_succ _))
                     have hr6 : Hid (Lies w6 U.heap.size (U.heap.size + 1) (.slice (some ⟨U.heap.size, 0, none⟩) 1 1) 1 3 [.int .i64 now, .int .i64 fc, .int .i64 0]) := Lib.hid (one_lies (cs := #[.int .i64 now, .int .i64 fc, .int .i64 0]) ((hgrow6'.block U.heap.size (by first | omega | (simp [World.drew]; done) | (simp [World.drew]; omega)) (by simp [Value.ownBlock])).trans (((below1 (U.alloc (.cells #[.int .i64 now, .int .i64 fc, .int .i64 0] 63)) (.cells #[] 63)).block U.heap.size (by simp)).trans (heap_alloc_new U (.cells #[.int .i64 now, .int .i64 fc, .int .i64 0] 63)))) rfl)
                     clear hown6' hgrow6' hob6'))
                refine hK.out _ _ ?_ (fun hHeld => ?_)
                · (first | exact c3 | exact KST.out _ _ hb7.out | exact KB.out _ hb7.out | exact KB.out _ hb6.out | exact KB.out _ (b_alloc hb6.out (Nat.le_refl _) _) | exact KB.out _ (by repeat first | exact Below.refl _ _ | refine Below.drew ?_ | refine b_alloc ?_ (Nat.le_refl _) _))
                clear hK K
                try simp only [Act.put, List.setIfInBounds_toArray, List.set_cons_zero, List.set_cons_succ]
                refine wpAnyH_ready (rs := [14]) (by kernel_rfl) (by simp) ?_
                refine AllReadyH.cons rfl (fun K hK => ?_) AllReadyH.nil
                (first
                  | (refine step_append_lie2 (by rfl) (.tmp 78) (.tmp 85) 34 (by rfl) U.heap.size 63 i1 _ 3 24 Try.underlying34 HJ.out hy0 hy1 hy2 rfl (by omega) (.slice ao6 n cap6) n xs (by rfl) (owns_later hown6.out (below1 _ _)) (.slice (some ⟨w6.heap.size, 0, none⟩) 1 1) (w6.heap.size) (w6.heap.size + 1) 1 [.int .i64 now, .int .i64 fc, .int .i64 0] (by rfl) (one_lies (cs := #[.int .i64 now, .int .i64 fc, .int .i64 0]) (heap_alloc_new w6 _) rfl) (wn_one ⟨now, fc, 0⟩) (n + 1) rfl (by simp only [maxLen]; omega) (by omega) (by have h := hb6.out.size; first | omega | (simp [World.drew]; done) | (simp [World.drew]; omega)) ?_
                     intro ao7 cap7 w7 hown7' hgrow7' hob7'
                     have hown7 := Lib.hid hown7'
                     have hb7 : Hid (Below U.heap.size U w7) := Lib.hid (Below.grown ((b_alloc hb6.out (Nat.le_refl _) _).drew) hgrow7' (by have h := hb6.out.size; first | omega | (simp [World.drew]; done) | (simp [World.drew]; omega)) (fun q hq => (owns_block (hown6.out) q hq).1))
                     obtain ⟨hu7, hf7⟩ := KC.out _ hb7.out
                     clear hown7' hgrow7' hob7')
                  | (refine step_append_lie2 (by rfl) (.tmp 78) (.tmp 85) 34 (by rfl) U.heap.size 63 i1 _ 3 24 Try.underlying34 HJ.out hy0 hy1 hy2 rfl (by omega) (.slice ao6 n cap6) n xs (by rfl) (owns_later hown6.out (below1 _ _)) (.slice (some ⟨w6.heap.size, 0, none⟩) 1 1) (w6.heap.size) (w6.heap.size + 1) 1 [.int .i64 now, .int .i64 fc, .int .i64 0] (by rfl) (one_lies (cs := #[.int .i64 now, .int .i64 fc, .int .i64 0]) (heap_alloc_new w6 _) rfl) (wn_one ⟨now, fc, 0⟩) (n + 1) rfl (by simp only [maxLen]; omega) (by omega) (by have h := hb6.out.size; first | omega | (simp [World.drew]; done) | (simp [World.drew]; omega)) ?_
                     intro ao7 cap7 w7 hown7' hgrow7' hob7'
                     have hown7 := Lib.hid hown7'
                     have hb7 : Hid (Below U.heap.size U w7) := Lib.hid (Below.grown (b_alloc hb6.out (Nat.le_refl _) _) hgrow7' (by have h := hb6.out.size; first | omega | (simp [World.drew]; done) | (simp [World.drew]; omega)) (fun q hq => (owns_block (hown6.out) q hq).1))
                     obtain ⟨hu7, hf7⟩ := KC.out _ hb7.out
                     clear hown7' hgrow7' hob7')
                  | (refine step_append_lie2 (by rfl) (.tmp 78) (.tmp 85) 34 (by rfl) U.heap.size 63 i1 _ 3 24 Try.underlying34 HJ.out hy0 hy1 hy2 rfl (by omega) (.slice ao6 n cap6) n xs (by rfl) (hown6.out) (.slice (some ⟨U.heap.size + 1, 0, none⟩) 1 1) (U.heap.size + 1) (U.heap.size + 2) 1 [.int .i64 now, .int .i64 fc, .int .i64 0] (by rfl) (hr6.out) (wn_one ⟨now, fc, 0⟩) (n + 1) rfl (by simp only [maxLen]; omega) (by omega) (by have h := hb6.out.size; first | omega | (simp [World.drew]; done) | (simp [World.drew]; omega)) ?_
                     intro ao7 cap7 w7 hown7' hgrow7' hob7'
                     have hown7 := Lib.hid hown7'
                     have hb7 : Hid (Below U.heap.size U w7) := Lib.hid (Below.grown (hb6.out) hgrow7' (by have h := hb6.out.size; first | omega | (simp [World.drew]; done) | (simp [World.drew]; omega)) (fun q hq => (owns_block (hown6.out) q hq).1))
                     obtain ⟨hu7, hf7⟩ := KC.out _ hb7.out
                     clear hown7' hgrow7' hob7')
                  | (refine step_append_lie2 (by rfl) (.tmp 78) (.tmp 85) 34 (by rfl) U.heap.size 63 i1 _ 3 24 Try.underlying34 HJ.out hy0 hy1 hy2 rfl (by omega) (.slice ao6 n cap6) n xs (by rfl) (hown6.out) (.slice (some ⟨U.heap.size + 1, 0, none⟩) 1 1) (U.heap.size + 1) (U.heap.size + 2) 1 [.int .i64 now, .int .i64 fc, .int .i64 0] (by rfl) (hr6.out) (wn_one ⟨now, fc, 0⟩) (n + 1) rfl (by simp only [maxLen]; omega) (by omega) (by have h := hb6.out.size; first | omega | (simp [World.drew]; done) | (simp [World.drew]; omega)) ?_
                     intro ao7 cap7 w7 hown7' hgrow7' hob7'
                     have hown7 := Lib.hid hown7'
                     have hb7 : Hid (Below U.heap.size U w7) := Lib.hid (Below.grown (hb6.out.drew) hgrow7' (by have h := hb6.out.size; first | omega | (simp [World.drew]; done) | (simp [World.drew]; omega)) (fun q hq => (owns_block (hown6.out) q hq).1))
                     obtain ⟨hu7, hf7⟩ := KC.out _ hb7.out
                     clear hown7' hgrow7' hob7')
                  | (refine step_append_lie2 (by rfl) (.tmp 78) (.tmp 85) 34 (by rfl) U.heap.size 63 i1 _ 3 24 Try.underlying34 HJ.out hy0 hy1 hy2 rfl (by omega) (.slice ao6 n cap6) n xs (by rfl) (hown6.out) (.slice (some ⟨U.heap.size, 0, none⟩) 1 1) (U.heap.size) (U.heap.size + 1) 1 [.int .i64 now, .int .i64 fc, .int .i64 0] (by rfl) (hr6.out) (wn_one ⟨now, fc, 0⟩) (n + 1) rfl (by simp only [maxLen]; omega) (by omega) (by have h := hb6.out.size; first | omega | (simp [World.drew]; done) | (simp [World.drew]; omega)) ?_
                     intro ao7 cap7 w7 hown7' hgrow7' hob7'
                     have hown7 := Lib.hid hown7'
                     have hb7 : Hid (Below U.heap.size U w7) := Lib.hid (Below.grown (hb6.out) hgrow7' (by have h := hb6.out.size; first | omega | (simp [World.drew]; done) | (simp [World.drew]; omega)) (fun q hq => (owns_block (hown6.out) q hq).1))
                     obtain ⟨hu7, hf7⟩ := KC.out _ hb7.out
                     clear hown7' hgrow7' hob7')
                  | (refine step_append_lie2 (by rfl) (.tmp 78) (.tmp 85) 34 (by rfl) U.heap.size 63 i1 _ 3 24 Try.underlying34 HJ.out hy0 hy1 hy2 rfl (by omega) (.slice ao6 n cap6) n xs (by rfl) (hown6.out) (.slice (some ⟨U.heap.size, 0, none⟩) 1 1) (U.heap.size) (U.heap.size + 1) 1 [.int .i64 now, .int .i64 fc, .int .i64 0] (by rfl) (hr6.out) (wn_one ⟨now, fc, 0⟩) (n + 1) rfl (by simp only [maxLen]; omega) (by omega) (by have h := hb6.out.size; first | omega | (simp [World.drew]; done) | (simp [World.drew]; omega)) ?_
                     intro ao7 cap7 w7 hown7' hgrow7' hob7'
                     have hown7 := Lib.hid hown7'
                     have hb7 : Hid (Below U.heap.size U w7) := Lib.hid (Below.grown (hb6.out.drew) hgrow7' (by have h := hb6.out.size; first | omega | (simp [World.drew]; done) | (simp [World.drew]; omega)) (fun q hq => (owns_block (hown6.out) q hq).1))
                     obtain ⟨hu7, hf7⟩ := KC.out _ hb7.out
                     clear hown7' hgrow7' hob7'))
                refine hK.out _ _ ?_ (fun hHeld => ?_)
                · (first | exact c3 | exact KST.out _ _ hb7.out | exact KB.out _ hb7.out | exact KB.out _ hb6.out | exact KB.out _ (b_alloc hb6.out (Nat.le_refl _) _) | exact KB.out _ (by repeat first | exact Below.refl _ _ | refine Below.drew ?_ | refine b_alloc ?_ (Nat.le_refl _) _))
                clear hK K
                try simp only [Act.put, List.setIfInBounds_toArray, List.set_cons_zero, List.set_cons_succ]
                refine wpAnyH_takeE (i := 15) (d := some 87) (v := ?_) rfl rfl (by kernel_rfl) (by kernel_rfl) (by kernel_rfl) (fun _ _ _ h => h) (Or.inl ⟨by rfl, ?_⟩) (by assumption) ?_
                rotate_left
                · intro w hSw
                  (try dsimp only at hSw)
                  go_simp
                  try (with_reducible rfl)
                simp only [Act.put, List.setIfInBounds_toArray, List.set_cons_zero, List.set_cons_succ]
                refine wpAnyH_takeE (i := 16) (d := some 88) (v := ?_) rfl rfl (by kernel_rfl) (by kernel_rfl) (by kernel_rfl) (fun _ _ _ h => h) (Or.inl ⟨by rfl, ?_⟩) (by assumption) ?_
                rotate_left
                · intro w hSw
                  (try dsimp only at hSw)
                  go_simp
                  try (with_reducible rfl)
                simp only [Act.put, List.setIfInBounds_toArray, List.set_cons_zero, List.set_cons_succ]
                refine wpAnyH_ready (rs := [17]) (by kernel_rfl) (by simp) ?_
                refine AllReadyH.cons rfl (fun K hK => ?_) AllReadyH.nil
                go_simp
                refine hK.out _ _ ?_ (fun hHeld => ?_)
                · (first | exact c3 | exact KST.out _ _ hb7.out | exact KB.out _ hb7.out | exact KB.out _ hb6.out | exact KB.out _ (b_alloc hb6.out (Nat.le_refl _) _) | exact KB.out _ (by repeat first | exact Below.refl _ _ | refine Below.drew ?_ | refine b_alloc ?_ (Nat.le_refl _) _))
                clear hK K
                try simp only [Act.put, List.setIfInBounds_toArray, List.set_cons_zero, List.set_cons_succ]
                refine wpAnyH_done (by kernel_rfl) ?_ _
                refine NoPanic.normal ?_
                have hk7 := HKU.out.later hb7.out
                obtain ⟨t1, t2⟩ := hk7.lived (w0 := U) (ao := ao7) (cap := cap7) (lv' := lv ++ [⟨now, fc, 0⟩]) (GrowS.of_below hb7.out) HKU.out.lt (by
                  have := ORow.of_owns hown7.out
                  rw [HXS.out] at this
                  simpa [HNL.out, Wn.cells] using this) (fun g hg => (World.ownsRow.lt hown7.out g (by rw [own_ob]; exact hg)).1)
                rw [show (lv ++ [(⟨now, fc, 0⟩ : Wn)]).length = n + 1 by rw [HNL.out]; simp] at t1 t2
                obtain ⟨Y, hY⟩ : ∃ Y, Y = w7.setCell ⟨H, 4, none⟩ (.slice ao7 (n + 1) cap7) := ⟨_, rfl⟩
                rw [← hY] at t1 t2
                have z3 := t1.c3
                have zf := t1.fz 3
                have T1 := Lib.hid t1
                have T2 := Lib.hid t2
                have HY := Lib.hid hY
                clear t1 t2 hY hk7
                rw [← HY.out]
                go_wp2_with fail
                go_end0
                have hB : But H Y (Y.setCell ⟨H, 3, none⟩ (.int .i64 0)) := (But.refl H _).set 3 _
                have t3 := T1.out.boxed (f' := 0) (st' := false) (set_at T1.out.box) (fun q hq hqn => hB.block q hq hqn)
                have e := HDEF.out
                rw [if_pos (by rw [t0]; rfl)] at e
                have hgr := HGU.out.trans (T2.out.trans (grow_but hB (.inl rfl)))
                rw [e]
                first | exact ⟨_, rfl, ⟨_, _, _, _, t3, rfl⟩, hgr⟩ | exact ⟨rfl, _, ⟨_, _, _, _, t3, rfl⟩, hgr⟩
              · go_simp
                refine hK.out _ _ ?_ (fun hHeld => ?_)
                · (first | exact c3 | exact KST.out _ _ hb7.out | exact KB.out _ hb7.out | exact KB.out _ hb6.out | exact KB.out _ (b_alloc hb6.out (Nat.le_refl _) _) | exact KB.out _ (by repeat first | exact Below.refl _ _ | refine Below.drew ?_ | refine b_alloc ?_ (Nat.le_refl _) _))
                clear hK K
                try simp only [Act.put, List.setIfInBounds_toArray, List.set_cons_zero, List.set_cons_succ]
                refine wpAnyH_ready (rs := [1]) (by kernel_rfl) (by simp) ?_
                refine AllReadyH.cons rfl (fun K hK => ?_) AllReadyH.nil
                go_simp
                refine hK.out _ _ ?_ (fun hHeld => ?_)
                · (first | exact c3 | exact KST.out _ _ hb7.out | exact KB.out _ hb7.out | exact KB.out _ hb6.out | exact KB.out _ (b_alloc hb6.out (Nat.le_refl _) _) | exact KB.out _ (by repeat first | exact Below.refl _ _ | refine Below.drew ?_ | refine b_alloc ?_ (Nat.le_refl _) _))
                clear hK K
                try simp only [Act.put, List.setIfInBounds_toArray, List.set_cons_zero, List.set_cons_succ]
                refine wpAnyH_ready (rs := [6]) (by kernel_rfl) (by simp) ?_
                refine AllReadyH.cons rfl (fun K hK => ?_) AllReadyH.nil
                (first
                  | (refine step_append_lie2 (by rfl) (.tmp 73) (.tmp 77) 34 (by rfl) U.heap.size 63 i1 _ 3 24 Try.underlying34 HJ.out hy0 hy1 hy2 rfl (by omega) (.slice (some ⟨U.heap.size, 0, none⟩) 0 0) 0 [] (by rfl) ((HE0.out U (Below.refl _ _)).1) (.slice la n lc) (0) (U.heap.size) n xs (by rfl) (HL.out _ (by repeat first | exact Below.refl _ _ | refine Below.drew ?_ | refine b_alloc ?_ (Nat.le_refl _) _)) HX1.out n (by omega) (by simp only [maxLen]; omega) (by omega) (by first | omega | (simp [World.drew]; done) | (simp [World.drew]; omega)) ?_
                     intro ao6 cap6 w6 hown6' hgrow6' hob6'
                     have hown6 := Lib.hid (hown6' : w6.ownsRow U.heap.size 63 3 (.slice ao6 n cap6) n xs)
                     have hb6 : Hid (Below U.heap.size U w6) := Lib.hid (Below.grown (by repeat first | exact Below.refl _ _ | refine Below.drew ?_ | refine b_alloc ?_ (Nat.le_refl _) _) hgrow6' (by first | omega | (simp [World.drew]; done) | (simp [World.drew]; omega)) (fun q hq => by cases hq; exact Nat.le_refl _))
                     skip
                     clear hown6' hgrow6' hob6')
                  | (refine step_append_lie2 (by rfl) (.tmp 73) (.tmp 77) 34 (by rfl) U.heap.size 63 i1 _ 3 24 Try.underlying34 HJ.out hy0 hy1 hy2 rfl (by omega) (.slice (some ⟨U.heap.size, 0, none⟩) 0 0) 0 [] (by rfl) ((HE0.out U (Below.refl _ _)).2 _) (.slice la n lc) (0) (U.heap.size) n xs (by rfl) (HL.out _ (by repeat first | exact Below.refl _ _ | refine Below.drew ?_ | refine b_alloc ?_ (Nat.le_refl _) _)) HX1.out n (by omega) (by simp only [maxLen]; omega) (by omega) (by first | omega | (simp [World.drew]; done) | (simp [World.drew]; omega)) ?_
                     intro ao6 cap6 w6 hown6' hgrow6' hob6'
                     have hown6 := Lib.hid (hown6' : w6.ownsRow U.heap.size 63 3 (.slice ao6 n cap6) n xs)
                     have hb6 : Hid (Below U.heap.size U w6) := Lib.hid (Below.grown (by repeat first | exact Below.refl _ _ | refine Below.drew ?_ | refine b_alloc ?_ (Nat.le_refl _) _) hgrow6' (by first | omega | (simp [World.drew]; done) | (simp [World.drew]; omega)) (fun q hq => by cases hq; exact Nat.le_refl _))
                     have hr6 : Hid (Lies w6 (U.heap.size + 1) (U.heap.size + 2) (.slice (some ⟨U.heap.size + 1, 0, none⟩) 1 1) 1 3 [.int .i64 now, .int .i64 fc, .int .i64 0]) := Lib.hid (one_lies (cs := #[.int .i64 now, .int .i64 fc, .int .i64 0]) ((hgrow6'.block (U.heap.size + 1) (by first | omega | (simp [World.drew]; done) | (simp [World.drew]; omega)) (by simp [Value.ownBlock])).trans (by simpa [World.drew] using heap_alloc_new (U.alloc (.cells #[] 63)) (.cells #[.int .i64 now, .int .i64 fc, .int .i64 0] 63))) rfl)
                     clear hown6' hgrow6' hob6')
                  | (refine step_append_lie2 (by rfl) (.tmp 73) (.tmp 77) 34 (by rfl) U.heap.size 63 i1 _ 3 24 Try.underlying34 HJ.out hy0 hy1 hy2 rfl (by omega) (.slice (some ⟨U.heap.size + 1, 0, none⟩) 0 0) 0 [] (by rfl) (by have h := (HE0.out (U.alloc (.cells #[.int .i64 now, .int .i64 fc, .int .i64 0] 63)) (below1 _ _)).1; rw [show (U.alloc (.cells #[.int .i64 now, .int .i64 fc, .int .i64 0] 63)).heap.size = U.heap.size + 1 by simp] at h; exact h) (.slice la n lc) (0) (U.heap.size) n xs (by rfl) (HL.out _ (by repeat first | exact Below.refl _ _ | refine Below.drew ?_ | refine b_alloc ?_ (Nat.le_refl _) _)) HX1.out n (by omega) (by simp only [maxLen]; omega) (by omega) (by first | omega | (simp [World.drew]; done) | (simp [World.drew]; omega)) ?_
                     intro ao6 cap6 w6 hown6' hgrow6' hob6'
                     have hown6 := Lib.hid (hown6' : w6.ownsRow U.heap.size 63 3 (.slice ao6 n cap6) n xs)
                     have hb6 : Hid (Below U.heap.size U w6) := Lib.hid (Below.grown (by repeat first | exact Below.refl _ _ | refine Below.drew ?_ | refine b_alloc ?_ (Nat.le_refl _) _) hgrow6' (by first | omega | (simp [World.drew]; done) | (simp [World.drew]; omega)) (fun q hq => by cases hq; exact Nat.le_succ _))
                     have hr6 : Hid (Lies w6 U.heap.size (U.heap.size + 1) (.slice (some ⟨U.heap.size, 0, none⟩) 1 1) 1 3 [.int .i64 now, .int .i64 fc, .int .i64 0]) := Lib.hid (one_lies (cs := #[.int .i64 now, .int .i64 fc, .int .i64 0]) ((hgrow6'.block U.heap.size (by first | omega | (simp [World.drew]; done) | (simp [World.drew]; omega)) (by simp [Value.ownBlock])).trans (((below1 (U.alloc (.cells #[.int .i64 now, .int .i64 fc, .int .i64 0] 63)) (.cells #[] 63)).block U.heap.size (by simp)).trans (heap_alloc_new U (.cells #[.int .i64 now, .int .i64 fc, .int .i64 0] 63)))) rfl)
                     clear hown6' hgrow6' hob6'))
                refine hK.out _ _ ?_ (fun hHeld => ?_)
                · (first | exact c3 | exact KST.out _ _ hb7.out | exact KB.out _ hb7.out | exact KB.out _ hb6.out | exact KB.out _ (b_alloc hb6.out (Nat.le_refl _) _) | exact KB.out _ (by repeat first | exact Below.refl _ _ | refine Below.drew ?_ | refine b_alloc ?_ (Nat.le_refl _) _))
                clear hK K
                try simp only [Act.put, List.setIfInBounds_toArray, List.set_cons_zero, List.set_cons_succ]
                refine wpAnyH_ready (rs := [14]) (by kernel_rfl) (by simp) ?_
                refine AllReadyH.cons rfl (fun K hK => ?_) AllReadyH.nil
                (first
                  | (refine step_append_lie2 (by rfl) (.tmp 78) (.tmp 85) 34 (by rfl) U.heap.size 63 i1 _ 3 24 Try.underlying34 HJ.out hy0 hy1 hy2 rfl (by omega) (.slice ao6 n cap6) n xs (by rfl) (owns_later hown6.out (below1 _ _)) (.slice (some ⟨w6.heap.size, 0, none⟩) 1 1) (w6.heap.size) (w6.heap.size + 1) 1 [.int .i64 now, .int .i64 fc, .int .i64 0] (by rfl) (one_lies (cs := #[.int .i64 now, .int .i64 fc, .int .i64 0]) (heap_alloc_new w6 _) rfl) (wn_one ⟨now, fc, 0⟩) (n + 1) rfl (by simp only [maxLen]; omega) (by omega) (by have h := hb6.out.size; first | omega | (simp [World.drew]; done) | (simp [World.drew]; omega)) ?_
                     intro ao7 cap7 w7 hown7' hgrow7' hob7'
                     have hown7 := Lib.hid hown7'
                     have hb7 : Hid (Below U.heap.size U w7) := Lib.hid (Below.grown ((b_alloc hb6.out (Nat.le_refl _) _).drew) hgrow7' (by have h := hb6.out.size; first | omega | (simp [World.drew]; done) | (simp [World.drew]; omega)) (fun q hq => (owns_block (hown6.out) q hq).1))
                     obtain ⟨hu7, hf7⟩ := KC.out _ hb7.out
                     clear hown7' hgrow7' hob7')
                  | (refine step_append_lie2 (by rfl) (.tmp 78) (.tmp 85) 34 (by rfl) U.heap.size 63 i1 _ 3 24 Try.underlying34 HJ.out hy0 hy1 hy2 rfl (by omega) (.slice ao6 n cap6) n xs (by rfl) (owns_later hown6.out (below1 _ _)) (.slice (some ⟨w6.heap.size, 0, none⟩) 1 1) (w6.heap.size) (w6.heap.size + 1) 1 [.int .i64 now, .int .i64 fc, .int .i64 0] (by rfl) (one_lies (cs := #[.int .i64 now, .int .i64 fc, .int .i64 0]) (heap_alloc_new w6 _) rfl) (wn_one ⟨now, fc, 0⟩) (n + 1) rfl (by simp only [maxLen]; omega) (by omega) (by have h := hb6.out.size; first | omega | (simp [World.drew]; done) | (simp [World.drew]; omega)) ?_
                     intro ao7 cap7 w7 hown7' hgrow7' hob7'
                     have hown7 := Lib.hid hown7'
                     have hb7 : Hid (Below U.heap.size U w7) := Lib.hid (Below.grown (b_alloc hb6.out (Nat.le_refl _) _) hgrow7' (by have h := hb6.out.size; first | omega | (simp [World.drew]; done) | (simp [World.drew]; omega)) (fun q hq => (owns_block (hown6.out) q hq).1))
                     obtain ⟨hu7, hf7⟩ := KC.out _ hb7.out
                     clear hown7' hgrow7' hob7')
                  | (refine step_append_lie2 (by rfl) (.tmp 78) (.tmp 85) 34 (by rfl) U.heap.size 63 i1 _ 3 24 Try.underlying34 HJ.out hy0 hy1 hy2 rfl (by omega) (.slice ao6 n cap6) n xs (by rfl) (hown6.out) (.slice (some ⟨U.heap.size + 1, 0, none⟩) 1 1) (U.heap.size + 1) (U.heap.size + 2) 1 [.int .i64 now, .int .i64 fc, .int .i64 0] (by rfl) (hr6.out) (wn_one ⟨now, fc, 0⟩) (n + 1) rfl (by simp only [maxLen]; omega) (by omega) (by have h := hb6.out.size; first | omega | (simp [World.drew]; done) | (simp [World.drew]; omega)) ?_
                     intro ao7 cap7 w7 hown7' hgrow7' hob7'
                     have hown7 := Lib.hid hown7'
                     have hb7 : Hid (Below U.heap.size U w7) := Lib.hid (Below.grown (hb6.out) hgrow7' (by have h := hb6.out.size; first | omega | (simp [World.drew]; done) | (simp [World.drew]; omega)) (fun q hq => (owns_block (hown6.out) q hq).1))
                     obtain ⟨hu7, hf7⟩ := KC.out _ hb7.out
                     clear hown7' hgrow7' hob7')
                  | (refine step_append_lie2 (by rfl) (.tmp 78) (.tmp 85) 34 (by rfl) U.heap.size 63 i1 _ 3 24 Try.underlying34 HJ.out hy0 hy1 hy2 rfl (by omega) (.slice ao6 n cap6) n xs (by rfl) (hown6.out) (.slice (some ⟨U.heap.size + 1, 0, none⟩) 1 1) (U.heap.size + 1) (U.heap.size + 2) 1 [.int .i64 now, .int .i64 fc, .int .i64 0] (by rfl) (hr6.out) (wn_one ⟨now, fc, 0⟩) (n + 1) rfl (by simp only [maxLen]; omega) (by omega) (by have h := hb6.out.size; first | omega | (simp [World.drew]; done) | (simp [World.drew]; omega)) ?_
                     intro ao7 cap7 w7 hown7' hgrow7' hob7'
                     have hown7 := Lib.hid hown7'
                     have hb7 : Hid (Below U.heap.size U w7) := Lib.hid (Below.grown (hb6.out.drew) hgrow7' (by have h := hb6.out.size; first | omega | (simp [World.drew]; done) | (simp [World.drew]; omega)) (fun q hq => (owns_block (hown6.out) q hq).1))
                     obtain ⟨hu7, hf7⟩ := KC.out _ hb7.out
                     clear hown7' hgrow7' hob7')
                  | (refine step_append_lie2 (by rfl) (.tmp 78) (.tmp 85) 34 (by rfl) U.heap.size 63 i1 _ 3 24 Try.underlying34 HJ.out hy0 hy1 hy2 rfl (by omega) (.slice ao6 n cap6) n xs (by rfl) (hown6.out) (.slice (some ⟨U.heap.size, 0, none⟩) 1 1) (U.heap.size) (U.heap.size + 1) 1 [.int .i64 now, .int .i64 fc, .int .i64 0] (by rfl) (hr6.out) (wn_one ⟨now, fc, 0⟩) (n + 1) rfl (by simp only [maxLen]; omega) (by omega) (by have h := hb6.out.size; first | omega | (simp [World.drew]; done) | (simp [World.drew]; omega)) ?_
                     intro ao7 cap7 w7 hown7' hgrow7' hob7'
                     have hown7 := Lib.hid hown7'
                     have hb7 : Hid (Below U.heap.size U w7) := Lib.hid (Below.grown (hb6.out) hgrow7' (by have h := hb6.out.size; first | omega | (simp [World.drew]; done) | (simp [World.drew]; omega)) (fun q hq => (owns_block (hown6.out) q hq).1))
                     obtain ⟨hu7, hf7⟩ := KC.out _ hb7.out
                     clear hown7' hgrow7' hob7')
                  | (refine step_append_lie2 (by rfl) (.tmp 78) (.tmp 85) 34 (by rfl) U.heap.size 63 i1 _ 3 24 Try.underlying34 HJ.out hy0 hy1 hy2 rfl (by omega) (.slice ao6 n cap6) n xs (by rfl) (hown6.out) (.slice (some ⟨U.heap.size, 0, none⟩) 1 1) (U.heap.size) (U.heap.size + 1) 1 [.int .i64 now, .int .i64 fc, .int .i64 0] (by rfl) (hr6.out) (wn_one ⟨now, fc, 0⟩) (n + 1) rfl (by simp only [maxLen]; omega) (by omega) (by have h := hb6.out.size; first | omega | (simp [World.drew]; done) | (simp [World.drew]; omega)) ?_
                     intro ao7 cap7 w7 hown7' hgrow7' hob7'
                     have hown7 := Lib.hid hown7'
                     have hb7 : Hid (Below U.heap.size U w7) := Lib.hid (Below.grown (hb6.out.drew) hgrow7' (by have h := hb6.out.size; first | omega | (simp [World.drew]; done) | (simp [World.drew]; omega)) (fun q hq => (owns_block (hown6.out) q hq).1))
                     obtain ⟨hu7, hf7⟩ := KC.out _ hb7.out
                     clear hown7' hgrow7' hob7'))
                refine hK.out _ _ ?_ (fun hHeld => ?_)
                · (first | exact c3 | exact KST.out _ _ hb7.out | exact KB.out _ hb7.out | exact KB.out _ hb6.out | exact KB.out _ (b_alloc hb6.out (Nat.le_refl _) _) | exact KB.out _ (by repeat first | exact Below.refl _ _ | refine Below.drew ?_ | refine b_alloc ?_ (Nat.le_refl _) _))
                clear hK K
                try simp only [Act.put, List.setIfInBounds_toArray, List.set_cons_zero, List.set_cons_succ]
                refine wpAnyH_takeE (i := 15) (d := some 87) (v := ?_) rfl rfl (by kernel_rfl) (by kernel_rfl) (by kernel_rfl) (fun _ _ _ h => h) (Or.inl ⟨by rfl, ?_⟩) (by assumption) ?_
                rotate_left
                · intro w hSw
                  (try dsimp only at hSw)
                  go_simp
                  try (with_reducible rfl)
                simp only [Act.put, List.setIfInBounds_toArray, List.set_cons_zero, List.set_cons_succ]
                refine wpAnyH_takeE (i := 16) (d := some 88) (v := ?_) rfl rfl (by kernel_rfl) (by kernel_rfl) (by kernel_rfl) (fun _ _ _ h => h) (Or.inl ⟨by rfl, ?_⟩) (by assumption) ?_
                rotate_left
                · intro w hSw
                  (try dsimp only at hSw)
                  go_simp
                  try (with_reducible rfl)
                simp only [Act.put, List.setIfInBounds_toArray, List.set_cons_zero, List.set_cons_succ]
                refine wpAnyH_ready (rs := [17]) (by kernel_rfl) (by simp) ?_
                refine AllReadyH.cons rfl (fun K hK => ?_) AllReadyH.nil
                go_simp
                refine hK.out _ _ ?_ (fun hHeld => ?_)
                · (first | exact c3 | exact KST.out _ _ hb7.out | exact KB.out _ hb7.out | exact KB.out _ hb6.out | exact KB.out _ (b_alloc hb6.out (Nat.le_refl _) _) | exact KB.out _ (by repeat first | exact Below.refl _ _ | refine Below.drew ?_ | refine b_alloc ?_ (Nat.le_refl _) _))
                clear hK K
                try simp only [Act.put, List.setIfInBounds_toArray, List.set_cons_zero, List.set_cons_succ]
                refine wpAnyH_done (by kernel_rfl) ?_ _
                refine NoPanic.normal ?_
                have hk7 := HKU.out.later hb7.out
                obtain ⟨t1, t2⟩ := hk7.lived (w0 := U) (ao := ao7) (cap := cap7) (lv' := lv ++ [⟨now, fc, 0⟩]) (GrowS.of_below hb7.out) HKU.out.lt (by
                  have := ORow.of_owns hown7.out
                  rw [HXS.out] at this
                  simpa [HNL.out, Wn.cells] using this) (fun g hg => (World.ownsRow.lt hown7.out g (by rw [own_ob]; exact hg)).1)
                rw [show (lv ++ [(⟨now, fc, 0⟩ : Wn)]).length = n + 1 by rw [HNL.out]; simp] at t1 t2
                obtain ⟨Y, hY⟩ : ∃ Y, Y = w7.setCell ⟨H, 4, none⟩ (.slice ao7 (n + 1) cap7) := ⟨_, rfl⟩
                rw [← hY] at t1 t2
                have z3 := t1.c3
                have zf := t1.fz 3
                have T1 := Lib.hid t1
                have T2 := Lib.hid t2
                have HY := Lib.hid hY
                clear t1 t2 hY hk7
                rw [← HY.out]
                go_wp2_with fail
                go_end0
                have hB : But H Y (Y.setCell ⟨H, 3, none⟩ (.int .i64 0)) := (But.refl H _).set 3 _
                have t3 := T1.out.boxed (f' := 0) (st' := false) (set_at T1.out.box) (fun q hq hqn => hB.block q hq hqn)
                have e := HDEF.out
                rw [if_pos (by rw [t0]; rfl)] at e
                have hgr := HGU.out.trans (T2.out.trans (grow_but hB (.inl rfl)))
                rw [e]
                first | exact ⟨_, rfl, ⟨_, _, _, _, t3, rfl⟩, hgr⟩ | exact ⟨rfl, _, ⟨_, _, _, _, t3, rfl⟩, hgr⟩
          · have t0 : decide (0 < fc) = false := decide_eq_false hz
            go_wp2_with fail
            go_end0
            obtain ⟨S', q1, q2⟩ := HNO.out (by rw [t0]; rfl)
            first | exact ⟨S', rfl, q1, q2⟩ | exact ⟨rfl, S', q1, q2⟩
end Go.Proofs.Ytoofkeeoolgpdaa
