/- firstAndLast. -/
import Derived.Test.YtkikapodobeaaaaFlowF
namespace Go.Proofs.Ytkikapodobeaaaa
open Go.ChangeShapes Go.WideShapes Go.ChangeAt Go.RowKit Go.Maps
set_option linter.unusedVariables false
attribute [local go_sem ↓] Go.wp_at_zero Go.wp_at_succ

theorem MapI.later {w w' : World} {b n : Nat} {f : Int → Int} (h : MapI w b n f) (hb : Below w.heap.size w w') : MapI w' b n f :=
  let ⟨D, h1, h2⟩ := h
  ⟨D, h1.kept (row := none) ⟨hb.os, hb.tape, hb.output, hb.size, fun k hk _ => hb.block k hk⟩ (by simp), h2⟩
theorem MapI.but {w w' : World} {b n X : Nat} {f : Int → Int} (h : MapI w b n f) (hb : But X w w') (hX : b ≠ X) : MapI w' b n f :=
  let ⟨D, h1, h2⟩ := h
  ⟨D, h1.kept (row := some X) ⟨hb.os, hb.tape, hb.output, hb.size, fun k hk hne => hb.block k hk (fun e => hne (by rw [e]))⟩ (by intro e; exact hX (by cases e; rfl)), h2⟩
theorem MapI.made (w : World) : MapI (w.alloc (.map #[] 0)) w.heap.size 0 (fun _ => 0) := ⟨.map [], World.ownsMap_made w _ _ _, fun _ _ => rfl⟩
theorem MapI.lt {w : World} {b n : Nat} {f : Int → Int} (h : MapI w b n f) : b < w.heap.size := let ⟨D, h1, h2⟩ := h; h1.lt
theorem SetI.made (w : World) : SetI (w.alloc (.map #[] 0)) w.heap.size 0 (fun _ => False) := ⟨.map [], World.ownsMap_made w _ _ _, fun _ _ => by simp [Maps.has]⟩
theorem SetI.later {w w' : World} {b n : Nat} {f : Int → Prop} (h : SetI w b n f) (hb : Below w.heap.size w w') : SetI w' b n f :=
  let ⟨D, h1, h2⟩ := h
  ⟨D, h1.kept (row := none) ⟨hb.os, hb.tape, hb.output, hb.size, fun k hk _ => hb.block k hk⟩ (by simp), h2⟩
theorem SetI.lt {w : World} {b n : Nat} {f : Int → Prop} (h : SetI w b n f) : b < w.heap.size := let ⟨D, h1, h2⟩ := h; h1.lt

theorem map_not_row {w : World} {P : Program} {k : TypeId} {R : Value → Option (DataW Unit × List MemPlace)} {b n : Nat} {D : DataW Unit} (h : w.ownsMap P k R b n D) {base e sz m : Nat} {v : Value} {xs : List Value} (ho : w.ownsRow base e sz v m xs) : some b ≠ v.ownBlock := by
  intro e
  obtain ⟨_, cs, hc⟩ := owns_block ho b e.symm
  obtain ⟨es, clock, hb, _⟩ := h
  rw [hb] at hc
  cases hc
theorem row_not_map {w : World} {P : Program} {k : TypeId} {R : Value → Option (DataW Unit × List MemPlace)} {b n : Nat} {D : DataW Unit} (h : w.ownsMap P k R b n D) {base e sz m : Nat} {v : Value} {xs : List Value} (ho : w.ownsRow base e sz v m xs) : v.ownBlock = none ∨ v.ownBlock ≠ some b := .inr (fun e => map_not_row h ho e.symm)
theorem falTo_yes {l : List Int} {k : Nat} {x : Int} (hx : l[k]? = some x) (h : keepB l k x = true) : falTo l (k + 1) = falTo l k ++ [x] := by simp [falTo, hx, h]
theorem falTo_no {l : List Int} {k : Nat} {x : Int} (hx : l[k]? = some x) (h : keepB l k x = false) : falTo l (k + 1) = falTo l k := by simp [falTo, hx, h]
theorem take_iff {l : List Int} {k : Nat} {x : Int} (hx : l[k]? = some x) (z : Int) : z ∈ l.take (k + 1) ↔ z ∈ l.take k ∨ z = x := by rw [List.take_add_one, hx]; simp

set_option maxRecDepth 100000 in
set_option maxHeartbeats 4000000 in
theorem fal_any (la : Option Addr) (ln lc : Nat) (w : World) (lo hi : Nat) (l : List Int) (hln : l.length = ln) (hl : Lies w lo hi (.slice la ln lc) ln 1 (l.flatMap intCells)) (hhi : hi ≤ w.heap.size) (hl2 : ln ≤ 2000) (hin : ∀ x ∈ l, I64 x) :
    Calls Try.prog 34 #[.slice la ln lc] w fun e w' => ∃ a cap, e = .returned (.slice a (falV l).length cap) ∧ w'.ownsRow w.heap.size 3 1 (.slice a (falV l).length cap) (falV l).length ((falV l).flatMap intCells) ∧ Below w.heap.size w w' := by
  obtain ⟨i0, hi0, hz0, hz1, hz2⟩ := info_parts Try.infoInt
  have HI := Lib.hid hi0; have HN := Lib.hid hln; have HL := Lib.hid hl; have HIN := Lib.hid hin
  have hmm := @run_makeMap Try.prog
  clear hi0 hln hl hin
  go_enter Try.func34, Try.ntmps34
  go_wp2
  go_loopw [15] (fun i wr => ∃ k : Nat, k ≤ ln ∧ i = .int .i64 k ∧ MapI wr w.heap.size k (fun x => (lastV (l.take k) x : Int)) ∧ Below w.heap.size w wr) (fun i _ => ln - (intOf i).toNat)
  case atStart => exact ⟨0, by omega, rfl, MapI.made w, (Below.refl _ _).alloc (Nat.le_refl _) _⟩
  case round =>
    obtain ⟨k, hk, rfl, hm, hb⟩ := hrel
    by_cases hlt : k < ln
    · have tk : decide ((k : Int) < (ln : Int)) = true := by simpa using hlt
      obtain ⟨x, hx⟩ : ∃ x, l[k]? = some x := ⟨_, List.getElem?_eq_getElem (by rw [HN.out]; exact hlt)⟩
      have hxi := HIN.out x (List.mem_of_getElem? hx)
      obtain ⟨a2, c2, ee, _, _, hc⟩ := HL.out
      cases ee
      rcases hc with h0 | ⟨b, off, rfl, hb1, hb2, hc⟩
      · omega
      have c0 : wr.cell? ⟨b, off + k, none⟩ = some (.int .i64 x) := (hb.cell (p := ⟨b, off + k, none⟩) (by show b < _; omega)).trans (Lies.int hc hx)
      obtain ⟨D, hD1, hD2⟩ := hm
      have HX := Lib.hid hx
      have HD2 := Lib.hid hD2
      have HXI := Lib.hid hxi
      clear hc hx hD2 hxi
      go_wp2_with (first | (at_mapUpdate; refine wpList_mapUpdate_own _ rfl _ _ _ 104 rfl 3 3 Try.lawI Try.underlying104 (plainElem Try.prog 3) w.heap.size k D rfl hD1 (by simp only [maxLen]; omega) _ _ (.int .i64 x) rfl rfl (keyOf_int_mk Try.underlying3 (wf_i64 HXI.out)) (.lit (.int .i64 k)) [] (plainElem_int Try.underlying3 (wf_i64 ⟨by omega, by omega⟩)) ?_; intro w1 hown1 hgrow1) | go_in)
      go_roundw
      case rel =>
        refine ⟨k + 1, by omega, by go_num, ⟨_, hown1, fun z hz => ?_⟩, hb.trans ((But.of_grown hgrow1).below (Nat.le_refl _) (by have := hb.size; omega))⟩
        have ht : l.take (k + 1) = l.take k ++ [x] := by rw [List.take_add_one, HX.out]; rfl
        show _ = DataW.lit (Lit.int .i64 ((lastV (l.take (k + 1)) z : Nat) : Int))
        rw [ht, lastV_snoc]
        by_cases hzx : z = x
        · subst hzx
          rw [atKey_put_same hD1.isMap (show WideAt.IsKeyLit (.int .i64 z) from trivial), if_pos rfl, List.length_take, Nat.min_eq_left (by rw [HN.out]; omega)]
        · rw [atKey_put_other (by intro hc; cases hc; exact hzx rfl), HD2.out z hz, if_neg hzx]
      case measure => simp [intOf]; omega
    · have tk : decide ((k : Int) < (ln : Int)) = false := by simp; omega
      have ek : k = ln := by omega
      subst ek
      have HM : Hid (MapI wr w.heap.size k (fun x => (lastV l x : Int))) := Lib.hid (by rw [List.take_of_length_le (by rw [HN.out]; omega)] at hm; exact hm)
      clear hm
      obtain ⟨wo, hwo⟩ : ∃ wo, wo = wr := ⟨_, rfl⟩
      subst hwo
      go_wp2
      go_loopw [7, 27] (fun v i wr2 => ∃ (j : Nat) (a : Option Addr) (cap : Nat), j ≤ k ∧ i = .int .i64 j ∧ v = .slice a (falTo l j).length cap ∧ Hid (wr2.ownsRow w.heap.size 3 1 (.slice a (falTo l j).length cap) (falTo l j).length ((falTo l j).flatMap intCells)) ∧ SetI wr2 wo.heap.size j (fun x => x ∈ l.take j) ∧ MapI wr2 w.heap.size k (fun x => (lastV l x : Int)) ∧ Below w.heap.size w wr2) (fun _ i _ => k - (intOf i).toNat)
      case atStart => exact ⟨0, none, 0, by omega, rfl, rfl, Lib.hid (World.ownsRow_nil _ _ _ _), by simpa using SetI.made wo, HM.out.later (below1 _ _), hb.alloc hb.size _⟩
      case round =>
        obtain ⟨j, a, cap, hj, rfl, rfl, HR, hS, hM, hb2⟩ := hrel
        have hwr := hb.size
        have hfl := falTo_len l j
        by_cases hjl : j < k
        · have tk2 : decide ((j : Int) < (k : Int)) = true := by simpa using hjl
          obtain ⟨x, hx⟩ : ∃ x, l[j]? = some x := ⟨_, List.getElem?_eq_getElem (by rw [HN.out]; exact hjl)⟩
          have hxi := HIN.out x (List.mem_of_getElem? hx)
          obtain ⟨a2, c2, ee, _, _, hc⟩ := HL.out
          cases ee
          rcases hc with h0 | ⟨b, off, rfl, hb1, hb3, hc⟩
          · omega
          have c0 : wr.cell? ⟨b, off + j, none⟩ = some (.int .i64 x) := (hb2.cell (p := ⟨b, off + j, none⟩) (by show b < _; omega)).trans (Lies.int hc hx)
          obtain ⟨D, hD1, hD2⟩ := hM
          obtain ⟨E, hE1, hE2⟩ := hS
          have HX := Lib.hid hx
          have HD1 := Lib.hid hD1
          have HD2 := Lib.hid hD2
          have HE2 := Lib.hid hE2
          have HXI := Lib.hid hxi
          clear hc hx hD1 hD2 hE2 hxi
          have hgt : w.heap.size < wo.heap.size := HM.out.lt
          have HU : Hid (∀ (W W' : World), W.ownsMap Try.prog 3 unitElem wo.heap.size j E → W.ownsMap Try.prog 3 (plainElem Try.prog 3) w.heap.size k D → Below w.heap.size w W → ∀ v m xs, W.ownsRow w.heap.size 3 1 v m xs → W'.ownsMap Try.prog 3 unitElem wo.heap.size (j + 1) (E.put (.int .i64 x) (.agg [])) → W.grownBy W' (some wo.heap.size) →
              W'.ownsRow w.heap.size 3 1 v m xs ∧ SetI W' wo.heap.size (j + 1) (fun z => z ∈ l.take (j + 1)) ∧ MapI W' w.heap.size k (fun x => (lastV l x : Int)) ∧ Below w.heap.size w W') := Lib.hid (by
            intro W W' hE hD hB v m xs ho hE' hg
            refine ⟨ho.kept hg (row_not_map hE ho), ⟨_, hE', fun z hz => ?_⟩, ⟨D, hD.kept hg (by intro e; have := Option.some.inj e; omega), HD2.out⟩, hB.trans ((But.of_grown hg).below (by omega) (by have := hB.size; omega))⟩
            show _ ↔ z ∈ l.take (j + 1)
            rw [take_iff HX.out]
            by_cases hzx : z = x
            · subst hzx
              rw [has_put_same hE.isMap (show WideAt.IsKeyLit (.int .i64 z) from trivial)]
              simp
            · rw [has_put_other (by intro hc; cases hc; exact hzx rfl), HE2.out z hz]
              simp [hzx])
          have HE2w : Hid (((wr.alloc (.cells #[] 91)).alloc (.cells #[.int .i64 x] 3)).ownsMap Try.prog 3 unitElem wo.heap.size j E) := Lib.hid ((hE1.alloc _).alloc _)
          have HD2w : Hid (((wr.alloc (.cells #[] 91)).alloc (.cells #[.int .i64 x] 3)).ownsMap Try.prog 3 (plainElem Try.prog 3) w.heap.size k D) := Lib.hid ((HD1.out.alloc _).alloc _)
          have HR2w : Hid (((wr.alloc (.cells #[] 91)).alloc (.cells #[.int .i64 x] 3)).ownsRow w.heap.size 3 1 (.slice a (falTo l j).length cap) (falTo l j).length ((falTo l j).flatMap intCells)) := Lib.hid ((HR.out.alloc _).alloc _)
          cases hmt : decide (x ∈ l.take j) with
          | false =>
            have hhas : Maps.has E (.int .i64 x) = false := by
              cases hh : Maps.has E (.int .i64 x) with
              | false => rfl
              | true => rw [HE2.out x HXI.out] at hh; simp [hh] at hmt
            have HK : Hid (falTo l (j + 1) = falTo l j ++ [x]) := Lib.hid (falTo_yes HX.out (by simp [keepB, hmt]))
            go_wp2_with (first
              | (at_lookup; refine wpList_lookup_own_unit _ rfl _ _ 105 rfl 3 91 Try.lawI Try.underlying105 (Try.zeroU _) wo.heap.size j E rfl hE1 _ (.int .i64 x) rfl (keyOf_int_mk Try.underlying3 (wf_i64 HXI.out)) ?_; rw [hhas])
              | (refine wpList_append_lie (by rfl) (.tmp 47) (.tmp 49) 42 (by rfl) w.heap.size 3 i0 _ 1 8 Try.underlying42 HI.out hz0 hz1 hz2 rfl (by omega) (.slice a (falTo l j).length cap) (falTo l j).length ((falTo l j).flatMap intCells) (by rfl) HR2w.out (.slice (some ⟨wr.heap.size + 1, 0, none⟩) 1 1) (wr.heap.size + 1) (wr.heap.size + 2) 1 [.int .i64 x] (by rfl) (one_lies (cs := #[.int .i64 x]) (t := 3) (by rw [heap_at, if_pos (by simp)]) rfl) (in_one x) ((falTo l j).length + 1) rfl (by simp [maxLen]; omega) (by omega) (by have := hb2.size; simp; omega) ?_; intro ao cap' w1 hown hgrow; have hE4 := HE2w.out.kept hgrow (map_not_row HE2w.out HR2w.out); have hD4 := HD2w.out.kept hgrow (map_not_row HD2w.out HR2w.out))
              | (at_mapUpdate; (refine wpList_mapUpdate_own _ rfl _ _ _ 105 rfl 3 91 Try.lawI Try.underlying105 unitElem wo.heap.size j E rfl hE4 (by simp only [maxLen]; omega) _ _ (.int .i64 x) rfl rfl (keyOf_int_mk Try.underlying3 (wf_i64 HXI.out)) (.agg []) [] unitElem_mk ?_; intro w3 hown3 hgrow3))
              | go_in)
            go_roundw
            case rel =>
              have hB4 : Below w.heap.size w w1 := (b_alloc (b_alloc hb2 (Nat.le_refl _) _) (Nat.le_refl _) _).grown hgrow (by have := hb2.size; simp; omega) (fun q hq => (owns_block HR.out q hq).1)
              obtain ⟨r1, r2, r3, r4⟩ := HU.out w1 w3 hE4 hD4 hB4 _ _ _ hown hown3 hgrow3
              refine ⟨j + 1, ao, cap', by omega, by go_num, by rw [HK.out]; simp, Lib.hid ?_, r2, r3, r4⟩
              rw [HK.out, List.flatMap_append, List.length_append]
              simpa [intCells] using r1
            case measure => simp [intOf]; omega
          | true =>
            have hhas : Maps.has E (.int .i64 x) = true := (HE2.out x HXI.out).2 (by simpa using hmt)
            obtain ⟨c, hrun, hat, _⟩ := (HD1.out.alloc (.cells #[] 91)).lookup_int Try.lawI Try.underlying104 Try.underlying3 (Try.zeroI _) (keyOf_int_mk Try.underlying3 (wf_i64 HXI.out))
            have hc : c = (lastV l x : Int) := by
              have := HD2.out x HXI.out
              rw [hat] at this
              injection this with this
              injection this
            subst hc
            clear hat
            by_cases hlast : lastV l x = j
            · have e1 : ((lastV l x : Int) == (j : Int)) = true := by rw [beq_iff_eq]; omega
              have e2 : decide ((lastV l x : Int) = (j : Int)) = true := by rw [decide_eq_true_eq]; omega
              have HK : Hid (falTo l (j + 1) = falTo l j ++ [x]) := Lib.hid (falTo_yes HX.out (by simp [keepB, hlast]))
              clear hlast
              go_wp2_with (first
                | (at_lookup; refine wpList_lookup_own_unit _ rfl _ _ 105 rfl 3 91 Try.lawI Try.underlying105 (Try.zeroU _) wo.heap.size j E rfl hE1 _ (.int .i64 x) rfl (keyOf_int_mk Try.underlying3 (wf_i64 HXI.out)) ?_; rw [hhas])
                | (refine wpList_append_lie (by rfl) (.tmp 47) (.tmp 49) 42 (by rfl) w.heap.size 3 i0 _ 1 8 Try.underlying42 HI.out hz0 hz1 hz2 rfl (by omega) (.slice a (falTo l j).length cap) (falTo l j).length ((falTo l j).flatMap intCells) (by rfl) HR2w.out (.slice (some ⟨wr.heap.size + 1, 0, none⟩) 1 1) (wr.heap.size + 1) (wr.heap.size + 2) 1 [.int .i64 x] (by rfl) (one_lies (cs := #[.int .i64 x]) (t := 3) (by rw [heap_at, if_pos (by simp)]) rfl) (in_one x) ((falTo l j).length + 1) rfl (by simp [maxLen]; omega) (by omega) (by have := hb2.size; simp; omega) ?_; intro ao cap' w1 hown hgrow; have hE4 := HE2w.out.kept hgrow (map_not_row HE2w.out HR2w.out); have hD4 := HD2w.out.kept hgrow (map_not_row HD2w.out HR2w.out))
                | (at_mapUpdate; (refine wpList_mapUpdate_own _ rfl _ _ _ 105 rfl 3 91 Try.lawI Try.underlying105 unitElem wo.heap.size j E rfl hE4 (by simp only [maxLen]; omega) _ _ (.int .i64 x) rfl rfl (keyOf_int_mk Try.underlying3 (wf_i64 HXI.out)) (.agg []) [] unitElem_mk ?_; intro w3 hown3 hgrow3))
                | go_in)
              go_roundw
              case rel =>
                have hB4 : Below w.heap.size w w1 := (b_alloc (b_alloc hb2 (Nat.le_refl _) _) (Nat.le_refl _) _).grown hgrow (by have := hb2.size; simp; omega) (fun q hq => (owns_block HR.out q hq).1)
                obtain ⟨r1, r2, r3, r4⟩ := HU.out w1 w3 hE4 hD4 hB4 _ _ _ hown hown3 hgrow3
                refine ⟨j + 1, ao, cap', by omega, by go_num, by rw [HK.out]; simp, Lib.hid ?_, r2, r3, r4⟩
                rw [HK.out, List.flatMap_append, List.length_append]
                simpa [intCells] using r1
              case measure => simp [intOf]; omega

            · have e1 : ((lastV l x : Int) == (j : Int)) = false := by rw [beq_eq_false_iff_ne]; omega
              have e2 : decide ((lastV l x : Int) = (j : Int)) = false := by rw [decide_eq_false_iff_not]; omega
              have HK : Hid (falTo l (j + 1) = falTo l j) := Lib.hid (falTo_no HX.out (by simp [keepB, hlast]; simpa using hmt))
              clear hlast
              have hE3 := hE1.alloc (.cells #[] 91)
              have HE3 := Lib.hid hE3
              go_wp2_with (first
                | (at_lookup; refine wpList_lookup_own_unit _ rfl _ _ 105 rfl 3 91 Try.lawI Try.underlying105 (Try.zeroU _) wo.heap.size j E rfl hE1 _ (.int .i64 x) rfl (keyOf_int_mk Try.underlying3 (wf_i64 HXI.out)) ?_; rw [hhas])
                | (at_mapUpdate; refine wpList_mapUpdate_own _ rfl _ _ _ 105 rfl 3 91 Try.lawI Try.underlying105 unitElem wo.heap.size j E rfl hE3 (by simp only [maxLen]; omega) _ _ (.int .i64 x) rfl rfl (keyOf_int_mk Try.underlying3 (wf_i64 HXI.out)) (.agg []) [] unitElem_mk ?_; intro w3 hown3 hgrow3)
                | go_in)
              go_roundw
              case rel =>
                obtain ⟨r1, r2, r3, r4⟩ := HU.out _ w3 HE3.out (HD1.out.alloc _) (b_alloc hb2 (Nat.le_refl _) _) _ _ _ (HR.out.alloc _) hown3 hgrow3
                exact ⟨j + 1, a, cap, by omega, by go_num, by rw [HK.out], Lib.hid (by rw [HK.out]; exact r1), r2, r3, r4⟩
              case measure => simp [intOf]; omega
        · have tk2 : decide ((j : Int) < (k : Int)) = false := by simp; omega
          have ej : j = k := by omega
          go_wp2
          go_ret
          refine ⟨a, cap, ?_, ?_, hb2⟩
          · unfold falV; rw [HN.out, ← ej]; rfl
          · unfold falV; rw [HN.out, ← ej]; exact HR.out
end Go.Proofs.Ytkikapodobeaaaa
