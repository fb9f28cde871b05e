/- Who leads into some: Cut. -/
import Derived.Test.YtkikapodobeaaaaFlowO
namespace Go.Proofs.Ytkikapodobeaaaa
open Go.ChangeShapes Go.WideShapes Go.ChangeAt Go.RowKit Go.Maps Go.Sort
set_option linter.unusedVariables false
attribute [local go_sem ↓] Go.wp_at_zero Go.wp_at_succ

theorem BoolAt.made {W w' : World} {n : Nat} (hown : w'.ownsRow W.heap.size 4 1 (.slice (some ⟨W.heap.size, 0, none⟩) n n) n (madeCells (Value.bool false).cells (n * 1)).toList) : BoolAt w' W.heap.size (List.replicate n false) := by
  have hm : (madeCells (Value.bool false).cells (n * 1)).toList = List.replicate n (Value.bool false) := by
    apply List.ext_getElem?
    intro k
    simp only [madeCells, Value.cells]
    by_cases hk : k < n <;> simp [hk, Nat.mod_one]
  rw [hm] at hown
  rcases hown.2 with ⟨h, _⟩ | ⟨g, cap, cur, hv, h1, h2, h3, h4, h5, h6⟩
  · cases h
  · cases hv
    have e : cur = (List.replicate n (Value.bool false)).toArray := by
      rw [← h6, List.take_of_length_le (by simp [h5])]
    unfold BoolAt
    rw [List.map_replicate, ← e]
    exact h2
def lenS : Value → Nat
  | .slice _ n _ => n
  | _ => 0
theorem drop_cons {l : List Int} {k : Nat} {x : Int} (h : l[k]? = some x) : l.drop k = x :: l.drop (k + 1) := by
  obtain ⟨hk, e⟩ := List.getElem?_eq_some_iff.1 h
  rw [List.drop_eq_getElem_cons hk, e]
set_option maxRecDepth 100000 in
set_option maxHeartbeats 4000000 in
theorem cut_sys {w : World} {hi : Nat} {c : Cf} {pvs : List Pv} {wa pa ca : Option Addr} {wc pc cc : Nat} (f : Few c) (h : SysL w hi c pvs wa pa ca wc pc cc) (hh : hi ≤ w.heap.size)
    (la : Option Addr) (ln lc llo lhi : Nat) (l : List Int) (hln : l.length = ln) (hl : Lies w llo lhi (.slice la ln lc) ln 1 (l.flatMap intCells)) (hlh : lhi ≤ w.heap.size) (hl2 : ln ≤ 1000) :
    Calls Try.prog 18 #[.agg #[.int .i64 c.frame, .int .i64 c.margin, .slice wa c.ws.length wc, .slice pa c.ps.length pc, .slice ca c.cs.length cc], .slice la ln lc] w fun e w' => ∃ (G : Nat) (s : List Bool), e = .returned (.slice (some ⟨G, 0, none⟩) c.ps.length c.ps.length) ∧ w.heap.size ≤ G ∧ BoolAt w' G s ∧ CutOf c l s ∧ Below w.heap.size w w' := by
  obtain ⟨i0, hi0, hz0, hz1, hz2⟩ := info_parts Try.infoInt
  obtain ⟨i1, hi1, hy0, hy1, hy2⟩ := info_parts Try.infoBool
  have HI := Lib.hid hi0; have HJ := Lib.hid hi1
  clear hi0 hi1
  obtain ⟨V, hV⟩ : ∃ V, V = w.alloc (.cells #[.int .i64 c.frame, .int .i64 c.margin, .slice wa c.ws.length wc, .slice pa c.ps.length pc, .slice ca c.cs.length cc] 35) := ⟨_, rfl⟩
  have B1 : Below w.heap.size w V := by rw [hV]; exact below1 _ _
  have hblk : CBox V w.heap.size c.frame c.margin wa pa ca c.ws.length wc c.ps.length pc c.cs.length cc := by rw [hV]; exact heap_alloc_new _ _
  have hvs : w.heap.size + 1 ≤ V.heap.size := by rw [hV]; simp
  have ks : ∀ W : World, Below V.heap.size V W → (W.cell? ⟨w.heap.size, 0, none⟩ = some (.int .i64 c.frame) ∧ W.cell? ⟨w.heap.size, 1, none⟩ = some (.int .i64 c.margin) ∧ W.cell? ⟨w.heap.size, 2, none⟩ = some (.slice wa c.ws.length wc) ∧ W.cell? ⟨w.heap.size, 3, none⟩ = some (.slice pa c.ps.length pc) ∧ W.cell? ⟨w.heap.size, 4, none⟩ = some (.slice ca c.cs.length cc)) := by
    intro W g
    have q := fun (i : Nat) (u : Value) hu => (g.cell (p := ⟨w.heap.size, i, none⟩) (lt_of_block hblk)).trans (cell_in (j := i) (u := u) hblk hu)
    exact ⟨q 0 _ rfl, q 1 _ rfl, q 2 _ rfl, q 3 _ rfl, q 4 _ rfl⟩
  have ha := ahead_sys f (h.keep (SameIn.of_below B1 hh)) (by omega)
  have hlV := hl.keep (SameIn.of_below B1 hlh)
  obtain ⟨z0, z1, z2, z3, z4⟩ := ks V (Below.refl _ _)
  have KS := Lib.hid ks; have HV := Lib.hid hV; have HB1 := Lib.hid B1; have HF := Lib.hid f; have HLN := Lib.hid hln; have HLV := Lib.hid hlV; have HA := Lib.hid ha
  have hpn := f.2.1
  clear ks hV B1 hblk h hl hlV f ha hln
  go_enter Try.func18, Try.ntmps18
  go_wp2_with fail
  rw [← HV.out]
  go_wp2_with (first
    | (refine wpList_make_full _ (by rfl) (.tmp 15) (.tmp 15) 44 (by rfl) w1.heap.size 4 i1 _ 1 Try.underlying44 HJ.out hy0 hy1 _ _ c.ps.length c.ps.length c.ps.length (by rfl) (by rfl) rfl rfl (by rw [hy2]; omega) (by simp [maxLen]; omega) (Nat.le_refl _) ?_; intro w2 hown2 hgrow2)
    | (go_at_call 28; refine HA.out.mono ?_; rintro e w1 ⟨GA, vs, ss, rfl, hGA, hHd, hnd, hss, hb1⟩; obtain ⟨x0, x1, x2, x3, x4⟩ := KS.out _ hb1)
    | go_in)
  have hb2 : Below w1.heap.size w1 w2 := ⟨hgrow2.os, hgrow2.tape, hgrow2.output, hgrow2.size, fun b hb => hgrow2.block b hb (by simp)⟩
  have hbv : Below V.heap.size V w2 := hb1.trans (hb2.mono hb1.size)
  have HBA := Lib.hid (BoolAt.made (W := w1) (w' := w2) hown2)
  have HHD := Lib.hid (hHd.later hb2)
  have HND := Lib.hid hnd; have HSS := Lib.hid hss
  have hGV := hb1.size
  have hGAG := lt_of_block hHd.blk
  have HBV := Lib.hid hbv
  have hw12 := hb2.size
  obtain ⟨G, hG⟩ : ∃ G, G = w1.heap.size := ⟨_, rfl⟩
  rw [← hG] at HBA hGV hGAG hw12
  rw [← hG]
  have hG2 := lt_of_block HBA.out
  have HL2 := Lib.hid (HLV.out.keep (SameIn.of_below hbv (by omega)))
  clear hown2 hgrow2 hb2 hbv hHd hnd hss hb1 x0 x1 x2 x3 x4 z0 z1 z2 z3 z4 hG
  go_loopw [7] (fun s7 wr => ∃ (ta : Option Addr) (tc lo hi' : Nat) (T : List Int) (s : List Bool), s7 = .slice ta T.length tc ∧ T.length ≤ 1000000 ∧ hi' ≤ wr.heap.size ∧ (G < lo ∨ hi' ≤ G) ∧ Hid (Lies wr lo hi' (.slice ta T.length tc) T.length 1 (T.flatMap intCells)) ∧ Hid (BoolAt wr G s) ∧ Hid (Bfs c l s T) ∧ Hid (Heads wr V.heap.size GA c.ps.length vs (froms ss)) ∧ Below V.heap.size V wr)
    (fun s7 wr => 2 * (c.ps.length - cntW wr G) + (if lenS s7 = 0 then 0 else 1))
  case atStart => exact ⟨la, lc, llo, lhi, l, _, by rw [HLN.out], by rw [HLN.out]; omega, by omega, .inr (by omega), by rw [HLN.out]; exact HL2, HBA, Lib.hid (Bfs.start c l), HHD, HBV.out⟩
  case round =>
    obtain ⟨ta, tc, lo, hi', T, s, rfl, hT, hhi, hdis, HT, HS, HB, HH, hbv⟩ := hrel
    clear HBA HHD HL2
    obtain ⟨wo, hwo⟩ : ∃ wo, wo = wr := ⟨_, rfl⟩
    subst hwo
    obtain ⟨tn, htn⟩ : ∃ tn, tn = T.length := ⟨_, rfl⟩
    rw [← htn] at HT hT
    rw [← htn]
    have HTN := Lib.hid htn
    clear htn
    have HCN : Hid (cntW wo G = cntT s) := Lib.hid HS.out.cnt
    by_cases hlt : 0 < tn
    · have tk : decide ((0 : Int) < (tn : Int)) = true := by rw [decide_eq_true_eq]; omega
      go_wp2
      go_loopw [8, 23] (fun s8 s23 wx => ∃ (k nc : Nat) (na : Option Addr) (N : List Int) (s2 : List Bool), k ≤ tn ∧ s8 = .slice na N.length nc ∧ s23 = .int .i64 k ∧ Hid (BoolAt wx G s2) ∧ Hid (wx.ownsRow wo.heap.size 3 1 (.slice na N.length nc) N.length (N.flatMap intCells)) ∧ Hid (Bfs c l s2 (T.drop k ++ N)) ∧ (N.length + 1000 * cntT s ≤ 1000 * cntT s2) ∧ But G wo wx) (fun _ s23 _ => tn - (intOf s23).toNat)
      case atStart => exact ⟨0, 0, none, [], s, by omega, rfl, rfl, HS, Lib.hid (World.ownsRow_nil _ _ _ _), by simpa using HB, by simp, But.refl _ _⟩
      case round =>
        obtain ⟨k, nc, na, N, s2, hk, rfl, rfl, HS2, HN2, HB2, hcnt, hbx⟩ := hrel
        have hbV : Below V.heap.size V wr := hbv.trans (hbx.below (by omega) (by have := hbv.size; omega))
        have hcle := cntT_le s2
        have hsl := HB2.out.len
        by_cases hlk : k < tn
        · have tk2 : decide ((k : Int) < (tn : Int)) = true := by simpa using hlk
          obtain ⟨x, hx⟩ : ∃ x, T[k]? = some x := ⟨_, List.getElem?_eq_getElem (by rw [← HTN.out]; exact hlk)⟩
          have hgs := lt_of_block HS.out
          obtain ⟨a2, c2, ee, _, _, hc⟩ := HT.out.keep (hbx.same hdis hhi)
          cases ee
          rcases hc with h0 | ⟨g, off, rfl, hq1, hq2, hc⟩
          · omega
          have c0 : wr.cell? ⟨g, off + k, none⟩ = some (.int .i64 x) := Lies.int hc hx
          obtain ⟨z0, z1, z2, z3, z4⟩ := KS.out wr hbV
          have HDR : Hid (T.drop k = x :: T.drop (k + 1)) := Lib.hid (drop_cons hx)
          clear hc hx
          have l0 : (0 : Int) ≤ (k : Int) := by omega
          have l1 : (k : Int) < (tn : Int) := by omega
          cases hh : hasB c.ps.length x with
          | false =>
            have HX := Lib.hid hh; clear hh
            go_wp2_with (first
              | (go_at_call 20; refine (has_any _ _ _ _ _ _ _ _ _ _ _ _ _).mono ?_; rintro e w5 ⟨rfl, hb5⟩; rw [HX.out]))
            go_roundw
            case rel =>
              refine ⟨k + 1, nc, na, N, s2, by omega, rfl, by go_num, Lib.hid (HS2.out.later hb5), Lib.hid (owns_later HN2.out hb5), Lib.hid ?_, hcnt, hbx.trans (But.of_below hb5)⟩
              have := HB2.out
              rw [HDR.out] at this
              exact this.none HX.out
            case measure => simp [intOf]; omega
          | true =>
            have hr := hasB_true hh
            obtain ⟨j, rfl⟩ : ∃ j : Nat, x = (j : Int) := ⟨x.toNat, by omega⟩
            have hjn : j < c.ps.length := by omega
            have j0 : (0 : Int) ≤ (j : Int) := by omega
            have j1 : (j : Int) < (c.ps.length : Int) := by omega
            have HX := Lib.hid hh; clear hh
            obtain ⟨bj, hbj⟩ : ∃ bj, s2[j]? = some bj := ⟨_, List.getElem?_eq_getElem (by rw [hsl]; exact hjn)⟩
            cases bj with
            | true =>
              have HJ2 := Lib.hid hbj
              have KB : Hid (∀ W : World, Below wr.heap.size wr W → W.cell? ⟨G, j, none⟩ = some (.bool true)) := Lib.hid (fun W hW => ((HS2.out.later hW).cell HJ2.out).1)
              clear hbj
              go_wp2_with (first
                | (go_at_call 20; refine (has_any _ _ _ _ _ _ _ _ _ _ _ _ _).mono ?_; rintro e w5 ⟨rfl, hb5⟩; rw [HX.out]; have q0 := KB.out _ hb5))
              go_roundw
              case rel =>
                refine ⟨k + 1, nc, na, N, s2, by omega, rfl, by go_num, Lib.hid (HS2.out.later hb5), Lib.hid (owns_later HN2.out hb5), Lib.hid ?_, hcnt, hbx.trans (But.of_below hb5)⟩
                have := HB2.out
                rw [HDR.out] at this
                exact this.there HJ2.out
              case measure => simp [intOf]; omega
            | false =>
              have HJ2 := Lib.hid hbj
              have hHD : Heads wr V.heap.size GA c.ps.length vs (froms ss) := HH.out.but hbx HS.out
              obtain ⟨v, hvj⟩ : ∃ v, vs[j]? = some v := ⟨_, List.getElem?_eq_getElem (by rw [hHD.len]; exact hjn)⟩
              obtain ⟨⟨va, vc, rfl⟩, _⟩ := owns_slice (hHD.own j v hvj)
              have HHD := Lib.hid hHD; have HVJ := Lib.hid hvj
              have hfs : (froms ss j).length ≤ 1000 := Nat.le_trans (froms_short HND.out HSS.out j) hpn
              have hgal := lt_of_block hHD.blk
              have hgG : GA ≠ G := by omega
              have hGg : G ≠ GA := by omega
              have KB : Hid (∀ W : World, Below wr.heap.size wr W → W.cell? ⟨G, j, none⟩ = some (.bool false) ∧ W.frozen? ⟨G, j, none⟩ = false ∧ W.cell? ⟨GA, j, none⟩ = some (.slice va (froms ss j).length vc)) := Lib.hid (fun W hW =>
                ⟨((HS2.out.later hW).cell HJ2.out).1, ((HS2.out.later hW).cell HJ2.out).2, cell_in (HHD.out.later hW).blk (by simpa using HVJ.out)⟩)
              have KW : Hid (∀ W : World, Below wr.heap.size wr W → (W.setCell ⟨G, j, none⟩ (.bool true)).ownsRow wo.heap.size 3 1 (.slice na N.length nc) N.length (N.flatMap intCells) ∧ Lies (W.setCell ⟨G, j, none⟩ (.bool true)) V.heap.size (W.setCell ⟨G, j, none⟩ (.bool true)).heap.size (.slice va (froms ss j).length vc) (froms ss j).length 1 ((froms ss j).flatMap intCells) ∧ wo.heap.size ≤ (W.setCell ⟨G, j, none⟩ (.bool true)).heap.size ∧ But G wr (W.setCell ⟨G, j, none⟩ (.bool true))) := Lib.hid (fun W hW => by
                have hB := HS2.out.later hW
                unfold BoolAt at hB
                have hbt : But G wr (W.setCell ⟨G, j, none⟩ (.bool true)) := (But.of_below hW).set j _
                exact ⟨setCell_owns (owns_later HN2.out hW) hB (by decide) _, Lies.of_owns (setCell_owns ((HHD.out.later hW).own j _ HVJ.out) hB (by decide) _), by have := hbx.size; have := hbt.size; omega, hbt⟩)
              have hNl : N.length ≤ 1000000 := by omega
              clear hbj hHD hvj
              go_wp2_with (first
                | (refine wpList_append_lie2 (by rfl) (.tmp 40) (.tmp 44) 42 (by rfl) wo.heap.size 3 i0 _ 1 8 Try.underlying42 HI.out hz0 hz1 hz2 rfl (by omega) (.slice na N.length nc) N.length (N.flatMap intCells) (by rfl) hw5.1 (.slice va (froms ss j).length vc) V.heap.size _ (froms ss j).length ((froms ss j).flatMap intCells) (by rfl) hw5.2.1 (flat_one intCells in_one _) (N.length + (froms ss j).length) rfl (by simp only [maxLen]; omega) (by omega) hw5.2.2.1 ?_; intro ao cap' w6 hown6 hgrow6 hob6)
                | (go_at_call 20; refine (has_any _ _ _ _ _ _ _ _ _ _ _ _ _).mono ?_; rintro e w5 ⟨rfl, hb5⟩; rw [HX.out]; obtain ⟨q0, q1, q2⟩ := KB.out _ hb5; have hw5 := KW.out _ hb5)
                | go_in)
              go_roundw
              case rel =>
                have hS6 : BoolAt w6 G (s2.set j true) := by
                  have h1 := (HS2.out.later hb5).set j true
                  unfold BoolAt at h1 ⊢
                  exact grown_keep hgrow6 hw5.1 h1 (by decide)
                have hbp : But G wo (w5.setCell ⟨G, j, none⟩ (.bool true)) := hbx.trans hw5.2.2.2
                have hb6 : But G wo w6 := ⟨hgrow6.os.trans hbp.os, hgrow6.tape.trans hbp.tape, hgrow6.output.trans hbp.output, Nat.le_trans hbp.size hgrow6.size, fun b hb hne => (hgrow6.block b (by have := hbp.size; omega) (fun e => by
                  have := (owns_own hw5.1 b e.symm).1
                  omega)).trans (hbp.block b hb hne)⟩
                refine ⟨k + 1, cap', ao, N ++ froms ss j, s2.set j true, by omega, by simp, by go_num, Lib.hid hS6, Lib.hid (by simpa using hown6), Lib.hid ?_, ?_, hb6⟩
                · have h1 := HB2.out
                  rw [HDR.out] at h1
                  have h2 := (Bfs.perm h1 (U := (j : Int) :: (T.drop (k + 1) ++ N)) (fun x => by simp)).found hjn (F := froms ss j) (fun a => by rw [froms_mem]; exact HSS.out _)
                  exact h2.perm (fun x => by simp)
                · rw [List.length_append, cntT_set HJ2.out]; omega
              case measure => simp [intOf]; omega
        · have tk2 : decide ((k : Int) < (tn : Int)) = false := by simp; omega
          have hdr : T.drop k = [] := List.drop_eq_nil_of_le (by rw [← HTN.out]; omega)
          have HB3 : Hid (Bfs c l s2 N) := Lib.hid (by have := HB2.out; rw [hdr] at this; exact this)
          have hlo := (Lies.of_owns HN2.out)
          have HLO := Lib.hid hlo
          have hcn2 : Hid (cntW wr G = cntT s2) := Lib.hid HS2.out.cnt
          have HHW := Lib.hid (HH.out.but hbx HS.out)
          have hgs := lt_of_block HS.out
          clear hdr hlo
          go_wp2
          go_roundw
          case rel => exact ⟨na, nc, wo.heap.size, wr.heap.size, N, s2, rfl, by omega, Nat.le_refl _, .inl hgs, HLO, HS2, HB3, HHW, hbV⟩
          case measure =>
            rw [hcn2.out, HCN.out]
            have h1 := cntT_le s
            have h2 := HB.out.len
            have h3 : ¬ tn = 0 := by omega
            rcases Nat.eq_zero_or_pos N.length with h0 | h0
            · simp [lenS, h0, h3]; omega
            · have h4 : ¬ N = [] := fun e => by subst e; simp at h0
              simp [lenS, h4, h3]; omega
    · have tk : decide ((0 : Int) < (tn : Int)) = false := by rw [decide_eq_false_iff_not]; omega
      have hT0 : T = [] := List.eq_nil_of_length_eq_zero (by rw [← HTN.out]; omega)
      subst hT0
      go_wp2
      go_ret
      exact ⟨G, s, rfl, by omega, HS.out, HB.out.done, HB1.out.trans (hbv.mono (by omega))⟩
end Go.Proofs.Ytkikapodobeaaaa
