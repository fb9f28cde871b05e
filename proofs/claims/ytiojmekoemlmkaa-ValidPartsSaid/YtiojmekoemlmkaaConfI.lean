/- The walks of the layer of systems: what the document takes for wrong with a partition; what must come. -/
import Derived.Test.YtiojmekoemlmkaaConfH
namespace Go.Proofs.Ytiojmekoemlmkaa
open Go.ChangeShapes Go.WideShapes Go.ChangeAt Go.RowKit
set_option linter.unusedVariables false



set_option maxRecDepth 100000 in
set_option maxHeartbeats 4000000 in
theorem refRights_any (ta sa da : Option Addr) (tn tc sn sc dn dc : Nat) (x0 x1 x2 : Int) (w : World) (lo hi : Nat) (ts : List Tk) (ss : List Sv) (htn : ts.length = tn) (hsn : ss.length = sn)
    (hts : Lies w lo hi (.slice ta tn tc) tn 6 (ts.flatMap Tk.cells)) (hss : Lies w lo hi (.slice sa sn sc) sn 3 (ss.flatMap Sv.cells)) (hhi : hi ≤ w.heap.size) (ht2 : tn ≤ 1000) (hs2 : sn ≤ 1000) :
    Calls Try.prog 29 #[.agg #[.slice ta tn tc, .slice sa sn sc, .slice da dn dc, .int .u8 x0, .int .u8 x1, .int .u8 x2]] w fun e w' => e = .returned (.int .i64 (wrongOf ts ss x0 x1 x2)) ∧ Below w.heap.size w w' := by
  obtain ⟨V, hV⟩ : ∃ V, V = w.alloc (.cells #[.slice ta tn tc, .slice sa sn sc, .slice da dn dc, .int .u8 x0, .int .u8 x1, .int .u8 x2] 60) := ⟨_, rfl⟩
  have B1 : Below w.heap.size w V := by rw [hV]; exact below1 _ _
  have hblk : V.heap[w.heap.size]? = some (.cells #[.slice ta tn tc, .slice sa sn sc, .slice da dn dc, .int .u8 x0, .int .u8 x1, .int .u8 x2] 60 (0, 0)) := by rw [hV]; exact heap_alloc_new _ _
  have hlt0 := lt_of_block hblk
  have HT := Lib.hid (hts.keep (SameIn.of_below B1 hhi)); have HS := Lib.hid (hss.keep (SameIn.of_below B1 hhi)); have HTN := Lib.hid htn; have HSN := Lib.hid hsn
  have HBK := Lib.hid hblk; have HB1 := Lib.hid B1
  have hhv : hi ≤ V.heap.size := by omega
  have HV := Lib.hid hV
  clear hts hss htn hsn hblk B1 hV
  by_cases l1 : 6 < tn
  · have t1 : decide (6 < (tn : Int)) = true := by simp; omega
    have HR : Hid (wrongOf ts ss x0 x1 x2 = 22) := Lib.hid (by unfold wrongOf; rw [if_pos (by rw [HTN.out]; omega)])
    go_enter Try.func29, Try.ntmps29
    go_wp2_with fail
    go_ret
    exact ⟨by rw [HR.out]; rfl, below1 _ _⟩
  have t1 : decide (6 < (tn : Int)) = false := by simp; omega
  have q1 : ¬ 6 < ts.length := by rw [HTN.out]; exact l1
  have Q1 := Lib.hid q1; clear q1
  go_enter Try.func29, Try.ntmps29
  go_wp2_with fail
  go_loopw [3] (fun i wr => ∃ k : Nat, k ≤ tn ∧ i = .int .i64 k ∧ Hid ((ts.take k).all okTk = true) ∧ Below V.heap.size V wr) (fun i _ => tn - (intOf i).toNat)
  case atStart => exact ⟨0, by omega, rfl, Lib.hid rfl, by rw [HV.out]; exact Below.refl _ _⟩
  case round =>
    obtain ⟨k, hk, rfl, HA, hb⟩ := hrel
    have B0 : wr.cell? ⟨w.heap.size, 0, none⟩ = some (.slice ta tn tc) := (hb.cell hlt0).trans (cell_in HBK.out rfl)
    by_cases hlt : k < tn
    · have tk : decide ((k : Int) < (tn : Int)) = true := by simpa using hlt
      obtain ⟨x, hx⟩ : ∃ x, ts[k]? = some x := ⟨_, List.getElem?_eq_getElem (by rw [HTN.out]; exact hlt)⟩
      have hlies := HT.out.keep (SameIn.of_below hb hhv)
      obtain ⟨a2, c2, e2, _, _, hc⟩ := hlies
      cases e2
      rcases hc with h0 | ⟨b, off, rfl, hb1, hb2, hc⟩
      · omega
      obtain ⟨s0, s1, s2, s3, s4, s5⟩ := Lies.tk hc hx
      have HX := Lib.hid hx
      have l0 : (0 : Int) ≤ (k : Int) := by omega
      have l1 : (k : Int) < (tn : Int) := by omega
      clear hc hx
      obtain ⟨y0, y1, y2, y3, y4, y5⟩ := x
      simp only at s0 s1 s2 s3 s4 s5
      cases hok : okTk ⟨y0, y1, y2, y3, y4, y5⟩ with
      | true =>
        have HN := Lib.hid (all_next okTk ts k _ HX.out HA.out hok)
        go_wp2_with (first | (go_at_call 54; refine (refTask_any _ _ _ _ _ _ _).mono ?_; rintro e w' ⟨rfl, hb3⟩))
        go_roundw
        case rel => exact ⟨k + 1, by omega, by go_num, HN, hb.trans (hb3.mono hb.size)⟩
        case measure => simp [intOf]; omega
      | false =>
        have HN := Lib.hid (all_not okTk ts k _ HX.out hok)
        have HR : Hid (wrongOf ts ss x0 x1 x2 = 22) := Lib.hid (by unfold wrongOf; rw [if_neg Q1.out, if_pos HN.out])
        go_wp2_with (first | (go_at_call 54; refine (refTask_any _ _ _ _ _ _ _).mono ?_; rintro e w' ⟨rfl, hb3⟩))
        go_ret
        exact ⟨by rw [HR.out]; rfl, HB1.out.trans ((hb.trans (hb3.mono hb.size)).mono HB1.out.size)⟩
    · have tk : decide ((k : Int) < (tn : Int)) = false := by simp; omega
      have HN := Lib.hid (all_end okTk ts k (by rw [HTN.out]; omega) HA.out)
      have B1 : wr.cell? ⟨w.heap.size, 1, none⟩ = some (.slice sa sn sc) := (hb.cell hlt0).trans (cell_in HBK.out rfl)
      clear HT
      by_cases l2 : 3 < sn
      · have t2 : decide (3 < (sn : Int)) = true := by simp; omega
        have HR : Hid (wrongOf ts ss x0 x1 x2 = 23) := Lib.hid (by unfold wrongOf; rw [if_neg Q1.out, if_neg (by rw [HN.out]; simp), if_pos (by rw [HSN.out]; exact l2)])
        go_wp2_with fail
        go_ret
        exact ⟨by rw [HR.out]; rfl, HB1.out.trans (hb.mono HB1.out.size)⟩
      have t2 : decide (3 < (sn : Int)) = false := by simp; omega
      have Q2 : Hid (¬ 3 < ss.length) := Lib.hid (by rw [HSN.out]; exact l2)
      have HBX := Lib.hid hb
      go_wp2_with fail
      go_loopw [4] (fun i wr => ∃ j : Nat, j ≤ sn ∧ i = .int .i64 j ∧ Hid ((ss.take j).all okSv = true) ∧ Below V.heap.size V wr) (fun i _ => sn - (intOf i).toNat)
      case atStart => exact ⟨0, by omega, rfl, Lib.hid rfl, HBX.out⟩
      case round =>
        clear B0 B1 hb HBX tk hlt
        obtain ⟨j, hj, rfl, HA2, hb⟩ := hrel
        have B1 : wr.cell? ⟨w.heap.size, 1, none⟩ = some (.slice sa sn sc) := (hb.cell hlt0).trans (cell_in HBK.out rfl)
        by_cases hlt : j < sn
        · have tk : decide ((j : Int) < (sn : Int)) = true := by simpa using hlt
          obtain ⟨x, hx⟩ : ∃ x, ss[j]? = some x := ⟨_, List.getElem?_eq_getElem (by rw [HSN.out]; exact hlt)⟩
          have hlies := HS.out.keep (SameIn.of_below hb hhv)
          obtain ⟨a2, c2, e2, _, _, hc⟩ := hlies
          cases e2
          rcases hc with h0 | ⟨b, off, rfl, hb1, hb2, hc⟩
          · omega
          obtain ⟨s0, s1, s2⟩ := Lies.sv hc hx
          have HX := Lib.hid hx
          have l0 : (0 : Int) ≤ (j : Int) := by omega
          have l1 : (j : Int) < (sn : Int) := by omega
          clear hc hx
          obtain ⟨y0, y1, y2⟩ := x
          simp only at s0 s1 s2
          cases hok : okSv ⟨y0, y1, y2⟩ with
          | true =>
            have HN2 := Lib.hid (all_next okSv ss j _ HX.out HA2.out hok)
            go_wp2_with (first | (go_at_call 55; refine (refServer_any _ _ _ _).mono ?_; rintro e w' ⟨rfl, hb3⟩))
            go_roundw
            case rel => exact ⟨j + 1, by omega, by go_num, HN2, hb.trans (hb3.mono hb.size)⟩
            case measure => simp [intOf]; omega
          | false =>
            have HN2 := Lib.hid (all_not okSv ss j _ HX.out hok)
            have HR : Hid (wrongOf ts ss x0 x1 x2 = 23) := Lib.hid (by unfold wrongOf; rw [if_neg Q1.out, if_neg (by rw [HN.out]; simp), if_neg Q2.out, if_pos HN2.out])
            go_wp2_with (first | (go_at_call 55; refine (refServer_any _ _ _ _).mono ?_; rintro e w' ⟨rfl, hb3⟩))
            go_ret
            exact ⟨by rw [HR.out]; rfl, HB1.out.trans ((hb.trans (hb3.mono hb.size)).mono HB1.out.size)⟩
        · have tk : decide ((j : Int) < (sn : Int)) = false := by simp; omega
          have HN2 := Lib.hid (all_end okSv ss j (by rw [HSN.out]; omega) HA2.out)
          have HR : Hid (wrongOf ts ss x0 x1 x2 = if okActs x0 x1 x2 = false then 26 else 0) := Lib.hid (by unfold wrongOf; rw [if_neg Q1.out, if_neg (by rw [HN.out]; simp), if_neg Q2.out, if_neg (by rw [HN2.out]; simp)])
          have HBX := Lib.hid hb
          go_wp2_with fail
          go_loopw [5] (fun i wr => ∃ m : Nat, m ≤ 3 ∧ i = .int .i64 m ∧ (0 < m → x0 ≤ 2) ∧ (1 < m → x1 ≤ 2) ∧ (2 < m → x2 ≤ 2) ∧ Below V.heap.size V wr) (fun i _ => 3 - (intOf i).toNat)
          case atStart => exact ⟨0, by omega, rfl, by omega, by omega, by omega, HBX.out⟩
          case round =>
            clear B1 hb HBX tk hlt
            obtain ⟨m, hm, rfl, a0, a1, a2, hb⟩ := hrel
            have HBX := Lib.hid (HB1.out.trans (hb.mono HB1.out.size))
            have c3 : wr.cell? ⟨w.heap.size, 3, none⟩ = some (.int .u8 x0) := (hb.cell hlt0).trans (cell_in HBK.out rfl)
            have c4 : wr.cell? ⟨w.heap.size, 4, none⟩ = some (.int .u8 x1) := (hb.cell hlt0).trans (cell_in HBK.out rfl)
            have c5 : wr.cell? ⟨w.heap.size, 5, none⟩ = some (.int .u8 x2) := (hb.cell hlt0).trans (cell_in HBK.out rfl)
            have hm4 : m = 0 ∨ m = 1 ∨ m = 2 ∨ m = 3 := by omega
            rcases hm4 with rfl | rfl | rfl | rfl
            · by_cases h : 2 < x0
              · have t : decide (2 < x0) = true := by simpa using h
                have HK : Hid (okActs x0 x1 x2 = false) := Lib.hid (by simp [okActs]; omega)
                go_wp2
                go_ret
                exact ⟨by rw [HR.out, HK.out]; rfl, HBX.out⟩
              · have t : decide (2 < x0) = false := by simpa using h
                go_wp2
                go_roundw
                case rel => exact ⟨1, by omega, by go_num, by omega, by omega, by omega, hb⟩
                case measure => simp [intOf]
            · by_cases h : 2 < x1
              · have t : decide (2 < x1) = true := by simpa using h
                have HK : Hid (okActs x0 x1 x2 = false) := Lib.hid (by simp [okActs]; omega)
                go_wp2
                go_ret
                exact ⟨by rw [HR.out, HK.out]; rfl, HBX.out⟩
              · have t : decide (2 < x1) = false := by simpa using h
                go_wp2
                go_roundw
                case rel => exact ⟨2, by omega, by go_num, by omega, by omega, by omega, hb⟩
                case measure => simp [intOf]
            · by_cases h : 2 < x2
              · have t : decide (2 < x2) = true := by simpa using h
                have HK : Hid (okActs x0 x1 x2 = false) := Lib.hid (by simp [okActs]; omega)
                go_wp2
                go_ret
                exact ⟨by rw [HR.out, HK.out]; rfl, HBX.out⟩
              · have t : decide (2 < x2) = false := by simpa using h
                go_wp2
                go_roundw
                case rel => exact ⟨3, by omega, by go_num, by omega, by omega, by omega, hb⟩
                case measure => simp [intOf]
            · have HK : Hid (okActs x0 x1 x2 = true) := Lib.hid (by have := a0 (by omega); have := a1 (by omega); have := a2 (by omega); simp [okActs]; omega)
              go_wp2
              go_ret
              exact ⟨by rw [HR.out, HK.out]; rfl, HBX.out⟩
end Go.Proofs.Ytiojmekoemlmkaa
