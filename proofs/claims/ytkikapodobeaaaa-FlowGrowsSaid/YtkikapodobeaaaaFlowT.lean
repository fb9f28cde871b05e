/- The document's Cut and Into. -/
import Derived.Test.YtkikapodobeaaaaFlowR
import Derived.Test.YtkikapodobeaaaaFlowQ
namespace Go.Proofs.Ytkikapodobeaaaa
open Go.ChangeShapes Go.WideShapes Go.ChangeAt Go.RowKit
set_option linter.unusedVariables false
attribute [local go_sem ↓] Go.wp_at_zero Go.wp_at_succ

theorem Inv.next {c : Cf} {l : List Int} {r : Nat} {s : List Bool} (h : Inv c l r s) : Mid' c l s s 0 0 := Mid'.begin h.only
set_option maxRecDepth 100000 in
set_option maxHeartbeats 8000000 in
theorem refCut_sys {w : World} {hi : Nat} {c : Cf} {pvs : List Pv} {wa pa ca : Option Addr} {wc pc cc : Nat} (f : Few c) (h : SysL w hi c pvs wa pa ca wc pc cc) (hh : hi ≤ w.heap.size)
    (la : Option Addr) (ln lc llo lhi : Nat) (l : List Int) (hln : l.length = ln) (hl : Lies w llo lhi (.slice la ln lc) ln 1 (l.flatMap intCells)) (hlh : lhi ≤ w.heap.size) (hl2 : ln ≤ 1000) :
    Calls Try.prog 13 #[.agg #[.int .i64 c.frame, .int .i64 c.margin, .slice wa c.ws.length wc, .slice pa c.ps.length pc, .slice ca c.cs.length cc], .slice la ln lc] w fun e w' => ∃ (G : Nat) (s : List Bool), e = .returned (.slice (some ⟨G, 0, none⟩) c.ps.length c.ps.length) ∧ w.heap.size ≤ G ∧ BoolAt w' G s ∧ CutOf c l s ∧ Below w.heap.size w w' := by
  obtain ⟨i1, hi1, hy0, hy1, hy2⟩ := info_parts Try.infoBool
  have HJ := Lib.hid hi1
  clear hi1
  obtain ⟨V, hV⟩ : ∃ V, V = w.alloc (.cells #[.int .i64 c.frame, .int .i64 c.margin, .slice wa c.ws.length wc, .slice pa c.ps.length pc, .slice ca c.cs.length cc] 26) := ⟨_, rfl⟩
  have B1 : Below w.heap.size w V := by rw [hV]; exact below1 _ _
  have hblk : V.heap[w.heap.size]? = some (.cells #[.int .i64 c.frame, .int .i64 c.margin, .slice wa c.ws.length wc, .slice pa c.ps.length pc, .slice ca c.cs.length cc] 26 (0, 0)) := by rw [hV]; exact heap_alloc_new _ _
  have hvs : w.heap.size + 1 ≤ V.heap.size := by rw [hV]; simp
  have ks : ∀ W : World, Below V.heap.size V W → (W.cell? ⟨w.heap.size, 0, none⟩ = some (.int .i64 c.frame) ∧ W.cell? ⟨w.heap.size, 1, none⟩ = some (.int .i64 c.margin) ∧ W.cell? ⟨w.heap.size, 2, none⟩ = some (.slice wa c.ws.length wc) ∧ W.cell? ⟨w.heap.size, 3, none⟩ = some (.slice pa c.ps.length pc) ∧ W.cell? ⟨w.heap.size, 4, none⟩ = some (.slice ca c.cs.length cc)) ∧ SysL W hi c pvs wa pa ca wc pc cc ∧ Lies W llo lhi (.slice la ln lc) ln 1 (l.flatMap intCells) := by
    intro W g
    have q := fun (i : Nat) (u : Value) hu => (g.cell (p := ⟨w.heap.size, i, none⟩) (lt_of_block hblk)).trans (cell_in (j := i) (u := u) hblk hu)
    exact ⟨⟨q 0 _ rfl, q 1 _ rfl, q 2 _ rfl, q 3 _ rfl, q 4 _ rfl⟩, h.keep (SameIn.of_below (B1.trans (g.mono (by omega))) hh), hl.keep (SameIn.of_below (B1.trans (g.mono (by omega))) hlh)⟩
  have KS := Lib.hid ks; have HV := Lib.hid hV; have HB1 := Lib.hid B1; have HF := Lib.hid f; have HLN := Lib.hid hln
  have hpn := f.2.1
  obtain ⟨n, hn⟩ : ∃ n, n = c.ps.length := ⟨_, rfl⟩
  have HNE := Lib.hid hn
  have HFI : Hid (∀ W : World, Below V.heap.size V W → ∀ a b : Int, Calls Try.prog 27 #[.agg #[.int .i64 c.frame, .int .i64 c.margin, .slice wa c.ws.length wc, .slice pa n pc, .slice ca c.cs.length cc], .int .i64 a, .int .i64 b] W fun e w' => e = .returned (.bool (isE c a b)) ∧ Below W.heap.size W w') := Lib.hid (fun W hW a b => by rw [hn]; exact is_sys HF.out (KS.out W hW).2.1 (by have := hW.size; omega) a b)
  obtain ⟨z0, z1, z2, z3, z4⟩ := (ks V (Below.refl _ _)).1
  rw [← hn] at KS hpn HV z3 ⊢
  clear ks hV B1 hblk h f hl hln
  clear hn
  go_enter Try.func13, Try.ntmps13
  go_wp2_with (first
    | (rw [← HV.out]; refine wpList_make_full _ (by rfl) (.tmp 12) (.tmp 12) 44 (by rfl) V.heap.size 4 i1 _ 1 Try.underlying44 HJ.out hy0 hy1 _ _ n n n (by rfl) (by rfl) rfl rfl (by rw [hy2]; omega) (by simp [maxLen]; omega) (Nat.le_refl _) ?_; intro w2 hown2 hgrow2)
    | go_in)
  have hbv : Below V.heap.size V w2 := ⟨hgrow2.os, hgrow2.tape, hgrow2.output, hgrow2.size, fun b hb => hgrow2.block b hb (by simp)⟩
  have HBA := Lib.hid (BoolAt.made (W := V) (w' := w2) hown2)
  have HBV := Lib.hid hbv
  obtain ⟨G, hG⟩ : ∃ G, G = V.heap.size := ⟨_, rfl⟩
  have HGV := Lib.hid (Nat.le_of_eq hG.symm)
  rw [← hG] at HBA
  rw [← hG]
  have hvG : w.heap.size < G := by omega
  clear hown2 hgrow2 z0 z1 z2 z3 z4 hbv hG
  go_loopw [6] (fun i wr => ∃ (k : Nat) (s : List Bool), k ≤ ln ∧ i = .int .i64 k ∧ Hid (BoolAt wr G s ∧ s.length = n ∧ ∀ j : Nat, s[j]? = some true ↔ (j : Int) ∈ l.take k ∧ j < n) ∧ Below V.heap.size V wr) (fun i _ => ln - (intOf i).toNat)
  case atStart =>
    refine ⟨0, _, by omega, rfl, Lib.hid ⟨HBA.out, by simp, fun j => ⟨fun h => ?_, fun h => by simp at h⟩⟩, HBV.out⟩
    have := (List.getElem?_eq_some_iff.1 h).2
    simp at this
  case round =>
    obtain ⟨k, s, hk, rfl, HS, hb⟩ := hrel
    clear HBA HBV
    obtain ⟨⟨y0, y1, y2, y3, y4⟩, hSy, hLl⟩ := KS.out _ hb
    have hsn := HS.out.2.1
    have hgl := lt_of_block HS.out.1
    by_cases hlt : k < ln
    · have tk : decide ((k : Int) < (ln : Int)) = true := by simpa using hlt
      obtain ⟨x, hx⟩ : ∃ x, l[k]? = some x := ⟨_, List.getElem?_eq_getElem (by rw [HLN.out]; exact hlt)⟩
      obtain ⟨a2, c2, ee, _, _, hc⟩ := hLl
      cases ee
      rcases hc with h0 | ⟨g, off, rfl, hq1, hq2, hc⟩
      · omega
      have c0 := Lies.int hc hx
      have hbs := hb.size
      have hgb := hq2
      have hgg : g < wr.heap.size := by omega
      have hgG : g ≠ G := by have := HGV.out; omega
      have hGg : G ≠ g := fun e => hgG e.symm
      have KC : Hid (∀ W : World, Below wr.heap.size wr W → W.cell? ⟨g, off + k, none⟩ = some (.int .i64 x) ∧ W.cell? ⟨w.heap.size, 0, none⟩ = some (.int .i64 c.frame) ∧ W.cell? ⟨w.heap.size, 1, none⟩ = some (.int .i64 c.margin) ∧ W.cell? ⟨w.heap.size, 2, none⟩ = some (.slice wa c.ws.length wc) ∧ W.cell? ⟨w.heap.size, 3, none⟩ = some (.slice (pa) n pc) ∧ W.cell? ⟨w.heap.size, 4, none⟩ = some (.slice ca c.cs.length cc)) := Lib.hid (fun W hW => ⟨(hW.cell (p := ⟨g, off + k, none⟩) hgg).trans c0, (KS.out W (hb.trans (hW.mono hb.size))).1⟩)
      have HTK := Lib.hid (take_snoc hx)
      have l0 : (0 : Int) ≤ (k : Int) := by omega
      have l1 : (k : Int) < (ln : Int) := by omega
      clear hx hc hSy
      cases hh2 : hasB n x with
      | false =>
        have HX := Lib.hid hh2; clear hh2
        go_wp2_with fail
        go_region_held3 (fun W => W.cell? ⟨g, off + k, none⟩ = some (.int .i64 x) ∧ W.cell? ⟨w.heap.size, 0, none⟩ = some (.int .i64 c.frame) ∧ W.cell? ⟨w.heap.size, 1, none⟩ = some (.int .i64 c.margin) ∧ W.cell? ⟨w.heap.size, 2, none⟩ = some (.slice wa c.ws.length wc) ∧ W.cell? ⟨w.heap.size, 3, none⟩ = some (.slice (pa) n pc) ∧ W.cell? ⟨w.heap.size, 4, none⟩ = some (.slice ca c.cs.length cc))
          (first | exact KC.out _ ((Below.refl _ _).drew) | exact KC.out _ (Below.refl _ _) | exact KC.out _ (by assumption))
          (first | (go_at_call 12; refine (refHas_any _ _ _ _ _ _ _ _ _ _ _ _ _).mono ?_; rintro e w4 ⟨rfl, hb4⟩; rw [HX.out]; have hbn : Below wr.heap.size wr w4 := ((Below.refl wr.heap.size wr).drew).trans hb4))
        go_wp2
        go_roundw
        case rel =>
          refine ⟨k + 1, s, by omega, by go_num, Lib.hid ⟨HS.out.1.later hbn, HS.out.2.1, fun j => ?_⟩, hb.trans (hbn.mono hb.size)⟩
          rw [HS.out.2.2 j, HTK.out]
          constructor
          · rintro ⟨h1, h2⟩; exact ⟨List.mem_append_left _ h1, h2⟩
          · rintro ⟨h1, h2⟩
            rcases List.mem_append.1 h1 with h1 | h1
            · exact ⟨h1, h2⟩
            · simp at h1
              have := hasB_false HX.out
              omega
        case measure => simp [intOf]; omega
      | true =>
        have hr := hasB_true hh2
        obtain ⟨j, rfl⟩ : ∃ j : Nat, x = (j : Int) := ⟨x.toNat, by omega⟩
        have hjn : j < n := by omega
        have j0 : (0 : Int) ≤ (j : Int) := by omega
        have j1 : (j : Int) < (n : Int) := by omega
        have HX := Lib.hid hh2; clear hh2
        obtain ⟨bj, hbj⟩ : ∃ bj, s[j]? = some bj := ⟨_, List.getElem?_eq_getElem (by omega)⟩
        have HBJ := Lib.hid hbj
        clear hbj
        go_wp2_with fail
        go_region_held3 (fun W => W.cell? ⟨g, off + k, none⟩ = some (.int .i64 (j : Int)) ∧ W.cell? ⟨w.heap.size, 0, none⟩ = some (.int .i64 c.frame) ∧ W.cell? ⟨w.heap.size, 1, none⟩ = some (.int .i64 c.margin) ∧ W.cell? ⟨w.heap.size, 2, none⟩ = some (.slice wa c.ws.length wc) ∧ W.cell? ⟨w.heap.size, 3, none⟩ = some (.slice (pa) n pc) ∧ W.cell? ⟨w.heap.size, 4, none⟩ = some (.slice ca c.cs.length cc))
          (first | exact KC.out _ ((Below.refl _ _).drew) | exact KC.out _ (Below.refl _ _) | exact KC.out _ (by assumption))
          (first | (go_at_call 12; refine (refHas_any _ _ _ _ _ _ _ _ _ _ _ _ _).mono ?_; rintro e w4 ⟨rfl, hb4⟩; rw [HX.out]; have hbn : Below wr.heap.size wr w4 := ((Below.refl wr.heap.size wr).drew).trans hb4))
        have q0 := ((HS.out.1.later hbn).cell HBJ.out).1
        have q1 := ((HS.out.1.later hbn).cell HBJ.out).2
        go_wp2
        go_roundw
        case rel =>
          have hjs : j < s.length := by omega
          refine ⟨k + 1, s.set j true, by omega, by go_num, Lib.hid ⟨(HS.out.1.later hbn).set j true, by rw [List.length_set]; exact HS.out.2.1, fun i => ?_⟩, (hb.trans (hbn.mono hb.size)).setCell (p := ⟨G, j, none⟩) HGV.out _⟩
          rw [set_true hjs, HS.out.2.2 i, HTK.out, List.mem_append, List.mem_singleton]
          constructor
          · rintro (rfl | ⟨h1, h2⟩)
            · exact ⟨.inr rfl, hjn⟩
            · exact ⟨.inl h1, h2⟩
          · rintro ⟨h1 | h1, h2⟩
            · exact .inr ⟨h1, h2⟩
            · exact .inl (by omega)
        case measure => simp [intOf]; omega
    · have tk : decide ((k : Int) < (ln : Int)) = false := by simp; omega
      have HI0 : Hid (Inv c l 0 s) := Lib.hid (Inv.start (by rw [← HNE.out]; exact hsn) (fun i => by rw [HS.out.2.2 i, List.take_of_length_le (by rw [HLN.out]; omega), HNE.out]))
      have HSB : Hid (BoolAt wr G s) := Lib.hid HS.out.1
      clear HS hSy hLl y0 y1 y2 y3 y4
      go_wp2
      go_loopw [7] (fun i wr => ∃ (r : Nat) (s : List Bool), r ≤ n ∧ i = .int .i64 r ∧ s.length = n ∧ Hid (BoolAt wr G s) ∧ Hid (Inv c l r s) ∧ Below V.heap.size V wr) (fun i _ => n - (intOf i).toNat)
      case atStart => exact ⟨0, s, by omega, rfl, hsn, HSB, HI0, hb⟩
      case round =>
        clear HSB HI0 hsn hb hgl
        obtain ⟨r, s, hr, rfl, hsn, HSB, HIV, hb⟩ := hrel
        by_cases hlr : r < n
        · have tr : decide ((r : Int) < (n : Int)) = true := by simpa using hlr
          go_wp2
          go_loopw [8] (fun i wr => ∃ (a : Nat) (t : List Bool), a ≤ n ∧ i = .int .i64 a ∧ t.length = n ∧ Hid (BoolAt wr G t) ∧ Hid (Mid' c l s t a 0) ∧ Below V.heap.size V wr) (fun i _ => n - (intOf i).toNat)
          case atStart => exact ⟨0, s, by omega, rfl, hsn, HSB, Lib.hid HIV.out.next, hb⟩
          case round =>
            clear HSB hb
            obtain ⟨a, t, ha, rfl, htn, HSB, HM, hb⟩ := hrel
            by_cases hla : a < n
            · have ta : decide ((a : Int) < (n : Int)) = true := by simpa using hla
              go_wp2
              go_loopw [9] (fun i wr => ∃ (b : Nat) (t : List Bool), b ≤ n ∧ i = .int .i64 b ∧ t.length = n ∧ Hid (BoolAt wr G t) ∧ Hid (Mid' c l s t a b) ∧ Below V.heap.size V wr) (fun i _ => n - (intOf i).toNat)
              case atStart => exact ⟨0, t, by omega, rfl, htn, HSB, HM, hb⟩
              case round =>
                clear HSB hb HM htn
                obtain ⟨b, t, hbn, rfl, htn, HSB, HM, hb⟩ := hrel
                by_cases hlb : b < n
                · have tb : decide ((b : Int) < (n : Int)) = true := by simpa using hlb
                  have b0 : (0 : Int) ≤ (b : Int) := by omega
                  have b1 : (b : Int) < (n : Int) := by omega
                  have a0 : (0 : Int) ≤ (a : Int) := by omega
                  have a1 : (a : Int) < (n : Int) := by omega
                  obtain ⟨⟨y0, y1, y2, y3, y4⟩, _⟩ := KS.out _ hb
                  obtain ⟨tb', htb⟩ : ∃ tb', t[b]? = some tb' := ⟨_, List.getElem?_eq_getElem (by omega)⟩
                  have q0 := (HSB.out.cell htb).1
                  cases tb' with
                  | false =>
                    have HNO : Hid (Mid' c l s t a (b + 1)) := Lib.hid (HM.out.no (fun hc => by rw [htb] at hc; cases hc.1))
                    clear htb
                    go_wp2
                    go_roundw
                    case rel => exact ⟨b + 1, t, by omega, by go_num, htn, HSB, HNO, hb⟩
                    case measure => simp [intOf]; omega
                  | true =>
                    cases he : isE c (a : Int) (b : Int) with
                    | false =>
                      have HNO : Hid (Mid' c l s t a (b + 1)) := Lib.hid (HM.out.no (fun hc => by rw [he] at hc; cases hc.2))
                      have HE := Lib.hid he
                      clear htb he
                      go_wp2_with (first
                        | (go_at_call 27; refine (HFI.out _ hb _ _).mono ?_; rintro e w5 ⟨rfl, hb5⟩; rw [HE.out]))
                      go_roundw
                      case rel => exact ⟨b + 1, t, by omega, by go_num, htn, Lib.hid (HSB.out.later hb5), HNO, hb.trans (hb5.mono hb.size)⟩
                      case measure => simp [intOf]; omega
                    | true =>
                      have HYE : Hid (Mid' c l s (t.set a true) a (b + 1)) := Lib.hid (HM.out.yes (by rw [htn, HNE.out]) htb he)
                      have HE := Lib.hid he
                      obtain ⟨ua, hua⟩ : ∃ ua, t[a]? = some ua := ⟨_, List.getElem?_eq_getElem (by omega)⟩
                      have KQ : Hid (∀ W : World, Below wr.heap.size wr W → W.cell? ⟨G, a, none⟩ = some (.bool ua) ∧ W.frozen? ⟨G, a, none⟩ = false) := Lib.hid (fun W hW => (HSB.out.later hW).cell hua)
                      clear htb he hua
                      go_wp2_with (first
                        | (go_at_call 27; refine (HFI.out _ hb _ _).mono ?_; rintro e w5 ⟨rfl, hb5⟩; rw [HE.out]; obtain ⟨p0, p1⟩ := KQ.out _ hb5))
                      go_roundw
                      case rel => exact ⟨b + 1, t.set a true, by omega, by go_num, by simpa using htn, Lib.hid ((HSB.out.later hb5).set a true), HYE, (hb.trans (hb5.mono hb.size)).setCell (p := ⟨G, a, none⟩) HGV.out _⟩
                      case measure => simp [intOf]; omega
                · have tb : decide ((b : Int) < (n : Int)) = false := by simp; omega
                  have HRW : Hid (Mid' c l s t (a + 1) 0) := Lib.hid (by
                    have eb : b = c.ps.length := by rw [← HNE.out]; omega
                    have := HM.out
                    rw [eb] at this
                    exact this.row)
                  go_wp2
                  go_roundw
                  case rel => exact ⟨a + 1, t, by omega, by go_num, htn, HSB, HRW, hb⟩
                  case measure => simp [intOf]; omega
            · have ta : decide ((a : Int) < (n : Int)) = false := by simp; omega
              have HDN : Hid (Inv c l (r + 1) t) := Lib.hid (by
                have ea : a = c.ps.length := by rw [← HNE.out]; omega
                have := HM.out
                rw [ea] at this
                exact this.done HIV.out)
              go_wp2
              go_roundw
              case rel => exact ⟨r + 1, t, by omega, by go_num, htn, HSB, HDN, hb⟩
              case measure => simp [intOf]; omega
        · have tr : decide ((r : Int) < (n : Int)) = false := by simp; omega
          have HO : Hid (CutOf c l s) := Lib.hid (HIV.out.out (by rw [← HNE.out]; omega))
          go_wp2
          go_ret
          exact ⟨G, s, rfl, by omega, HSB.out, HO.out, HB1.out.trans (hb.mono (by omega))⟩
set_option maxRecDepth 100000 in
set_option maxHeartbeats 4000000 in
theorem refInto_sys {w : World} {hi : Nat} {c : Cf} {pvs : List Pv} {wa pa ca : Option Addr} {wc pc cc : Nat} (f : Few c) (h : SysL w hi c pvs wa pa ca wc pc cc) (hh : hi ≤ w.heap.size)
    (la : Option Addr) (ln lc llo lhi : Nat) (l : List Int) (hln : l.length = ln) (hl : Lies w llo lhi (.slice la ln lc) ln 1 (l.flatMap intCells)) (hlh : lhi ≤ w.heap.size) (hl2 : ln ≤ 1000) :
    Calls Try.prog 16 #[.agg #[.int .i64 c.frame, .int .i64 c.margin, .slice wa c.ws.length wc, .slice pa c.ps.length pc, .slice ca c.cs.length cc], .slice la ln lc] w fun e w' => ∃ (a : Option Addr) (cap : Nat) (s : List Bool), e = .returned (.slice a (intsOf s).length cap) ∧ w'.ownsRow w.heap.size 3 1 (.slice a (intsOf s).length cap) (intsOf s).length ((intsOf s).flatMap intCells) ∧ CutOf c l s ∧ Below w.heap.size w w' := by
  obtain ⟨i0, hi0, hz0, hz1, hz2⟩ := info_parts Try.infoInt
  have HI := Lib.hid hi0
  clear hi0
  obtain ⟨V, hV⟩ : ∃ V, V = w.alloc (.cells #[.int .i64 c.frame, .int .i64 c.margin, .slice wa c.ws.length wc, .slice pa c.ps.length pc, .slice ca c.cs.length cc] 26) := ⟨_, rfl⟩
  have B1 : Below w.heap.size w V := by rw [hV]; exact below1 _ _
  have hblk : V.heap[w.heap.size]? = some (.cells #[.int .i64 c.frame, .int .i64 c.margin, .slice wa c.ws.length wc, .slice pa c.ps.length pc, .slice ca c.cs.length cc] 26 (0, 0)) := by rw [hV]; exact heap_alloc_new _ _
  have hvs : w.heap.size + 1 ≤ V.heap.size := by rw [hV]; simp
  have z0 : V.cell? ⟨w.heap.size, 0, none⟩ = some (.int .i64 c.frame) := cell_in hblk rfl
  have z1 : V.cell? ⟨w.heap.size, 1, none⟩ = some (.int .i64 c.margin) := cell_in hblk rfl
  have z2 : V.cell? ⟨w.heap.size, 2, none⟩ = some (.slice wa c.ws.length wc) := cell_in hblk rfl
  have z3 : V.cell? ⟨w.heap.size, 3, none⟩ = some (.slice pa c.ps.length pc) := cell_in hblk rfl
  have z4 : V.cell? ⟨w.heap.size, 4, none⟩ = some (.slice ca c.cs.length cc) := cell_in hblk rfl
  have HC := Lib.hid (refCut_sys f (h.keep (SameIn.of_below B1 hh)) (by omega) la ln lc llo lhi l hln (hl.keep (SameIn.of_below B1 hlh)) (by omega) hl2)
  have HV := Lib.hid hV; have HB1 := Lib.hid B1
  have hpn := f.2.1
  clear hV B1 hblk h hl f hln
  go_enter Try.func16, Try.ntmps16
  go_wp2_with fail
  rw [← HV.out]
  go_wp2_with (first
    | (go_at_call 13; refine HC.out.mono ?_; rintro e w1 ⟨G, s, rfl, hG, hS, hcut, hb1⟩))
  have HS := Lib.hid hS; have HCT := Lib.hid hcut
  have hb1s := hb1.size
  have hgs := lt_of_block hS
  have hsl := Lib.hid hcut.1
  clear hS hcut z0 z1 z2 z3 z4
  go_loopw [6, 7] (fun s5 i wr => ∃ (k nc : Nat) (na : Option Addr), k ≤ c.ps.length ∧ s5 = .slice na (intsTo s k).length nc ∧ i = .int .i64 k ∧ Hid (wr.ownsRow w1.heap.size 3 1 (.slice na (intsTo s k).length nc) (intsTo s k).length ((intsTo s k).flatMap intCells)) ∧ Below w1.heap.size w1 wr) (fun _ i _ => c.ps.length - (intOf i).toNat)
  case atStart => exact ⟨0, 0, none, by omega, rfl, rfl, Lib.hid (World.ownsRow_nil _ _ _ _), Below.refl _ _⟩
  case round =>
    obtain ⟨k, nc, na, hk, rfl, rfl, HO, hb⟩ := hrel
    have hbs := hb.size
    by_cases hlt : k < c.ps.length
    · have tk : decide ((k : Int) < (c.ps.length : Int)) = true := by simpa using hlt
      have l0 : (0 : Int) ≤ (k : Int) := by omega
      have l1 : (k : Int) < (c.ps.length : Int) := by omega
      obtain ⟨bk, hbk⟩ : ∃ bk, s[k]? = some bk := ⟨_, List.getElem?_eq_getElem (by rw [hsl.out]; exact hlt)⟩
      obtain ⟨c0, _⟩ := (HS.out.later hb).cell hbk
      have hil := intsTo_len s k
      cases bk with
      | true =>
        have HN : Hid (intsTo s (k + 1) = intsTo s k ++ [(k : Int)]) := Lib.hid (by rw [intsTo, List.getD_eq_getElem?_getD, hbk]; rfl)
        have hap : ∀ W : World, W.heap = (wr.alloc (.cells #[.int .i64 (k : Int)] 3)).heap → W.ownsRow w1.heap.size 3 1 (.slice na (intsTo s k).length nc) (intsTo s k).length ((intsTo s k).flatMap intCells) ∧ Lies W wr.heap.size (wr.heap.size + 1) (.slice (some ⟨wr.heap.size, 0, none⟩) 1 1) 1 1 [.int .i64 (k : Int)] ∧ w1.heap.size ≤ W.heap.size := by
          intro W hW
          have hz : W.heap.size = wr.heap.size + 1 := by rw [hW]; simp
          refine ⟨owns_hold HO.out ⟨by omega, fun g hg => ?_⟩, one_lies (cs := #[.int .i64 (k : Int)]) (t := 3) (by rw [hW]; exact heap_alloc_new _ _) rfl, by omega⟩
          have := (owns_own HO.out g hg).2
          rw [hW, heap_at, if_neg (by omega)]
        have HAP := Lib.hid hap
        clear hbk hap
        go_wp2_with (first
          | (refine wpList_append_lie2 (by rfl) (.tmp 21) (.tmp 23) 42 (by rfl) w1.heap.size 3 i0 _ 1 8 Try.underlying42 HI.out hz0 hz1 hz2 rfl (by omega) (.slice na (intsTo s k).length nc) (intsTo s k).length ((intsTo s k).flatMap intCells) (by rfl) (HAP.out _ (by rfl)).1 (.slice (some ⟨wr.heap.size, 0, none⟩) 1 1) wr.heap.size (wr.heap.size + 1) 1 [.int .i64 (k : Int)] (by rfl) (HAP.out _ (by rfl)).2.1 (in_one _) ((intsTo s k).length + 1) rfl (by simp only [maxLen]; omega) (by omega) (HAP.out _ (by rfl)).2.2 ?_; intro ao cap' w6 hown6 hgrow6 hob6)
          | go_in)
        go_roundw
        case rel =>
          refine ⟨k + 1, cap', ao, by omega, by rw [HN.out]; simp, by go_num, Lib.hid ?_, (hb.alloc hbs _).grown hgrow6 (by simp; omega) (fun q hq => (owns_own HO.out q hq).1)⟩
          rw [HN.out, List.length_append, List.flatMap_append]
          exact hown6
        case measure => simp [intOf]; omega
      | false =>
        have HN : Hid (intsTo s (k + 1) = intsTo s k) := Lib.hid (by rw [intsTo, List.getD_eq_getElem?_getD, hbk]; simp)
        clear hbk
        go_wp2
        go_roundw
        case rel =>
          refine ⟨k + 1, nc, na, by omega, by rw [HN.out], by go_num, Lib.hid ?_, hb⟩
          rw [HN.out]; exact HO.out
        case measure => simp [intOf]; omega
    · have tk : decide ((k : Int) < (c.ps.length : Int)) = false := by simp; omega
      have ek : k = c.ps.length := by omega
      have HE : Hid (intsTo s k = intsOf s) := Lib.hid (by unfold intsOf; rw [hsl.out, ek])
      clear ek
      go_wp2
      go_ret
      have hvw : Below w.heap.size w w1 := HB1.out.trans (hb1.mono (by omega))
      refine ⟨na, nc, s, by rw [← HE.out]; rfl, ?_, HCT.out, hvw.trans (hb.mono (by omega))⟩
      rw [← HE.out]
      exact owns_base HO.out (by omega)
end Go.Proofs.Ytkikapodobeaaaa
