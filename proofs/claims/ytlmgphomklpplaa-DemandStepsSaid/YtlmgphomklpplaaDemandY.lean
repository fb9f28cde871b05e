/- The program's Steps. -/
import Derived.Test.YtlmgphomklpplaaDemandX
import Derived.Test.YtlmgphomklpplaaGrow
namespace Go.Proofs.Ytlmgphomklpplaa
open Go.ChangeShapes Go.WideShapes Go.ChangeAt Go.RowKit
set_option linter.unusedVariables false
attribute [local go_sem ↓] Go.wp_at_zero Go.wp_at_succ

/-- Of 1 to k those that f takes. -/
def outL (f : Nat → Bool) : Nat → List Int
  | 0 => []
  | k + 1 => outL f k ++ (if f (k + 1) then [((k + 1 : Nat) : Int)] else [])
theorem outL_len (f : Nat → Bool) : ∀ k, (outL f k).length ≤ k
  | 0 => by simp [outL]
  | k + 1 => by
    have := outL_len f k
    rw [outL, List.length_append]
    split <;> simp <;> omega
theorem outL_is (d : Int → Int) (f : Nat → Bool) : ∀ k : Nat, (∀ t : Nat, 1 ≤ t → t ≤ k → f t = (d t != d ((t : Int) - 1))) → outL f k = (stepsV d k).map fun (n : Nat) => (n : Int)
  | 0, _ => by simp [outL, stepsV]
  | k + 1, h => by
    rw [outL, outL_is d f k fun t h1 h2 => h t h1 (by omega), stepsV_next, h (k + 1) (by omega) (Nat.le_refl _)]
    have e : ((k + 1 : Nat) : Int) - 1 = k := by omega
    have e2 : ((k + 1 : Nat) : Int) = (k : Int) + 1 := by omega
    rw [e, e2]
    by_cases hd : d ((k : Int) + 1) = d (k : Int)
    · rw [if_pos hd, hd]; simp
    · rw [if_neg hd, if_pos (by simpa using hd), List.map_append]; simp [e2]
theorem ownsD_hold {w W : World} {base e sz : Nat} {v : Value} {n : Nat} {xs : List Value} (h : w.ownsRow base e sz v n xs) (hb : Below w.heap.size w W) : W.ownsRow base e sz v n xs := owns_later h hb
set_option maxRecDepth 100000 in
set_option maxHeartbeats 4000000 in
theorem steps_any (ta sa da : Option Addr) (tn tc sn sc dn dc : Nat) (x0 x1 x2 : Int) (most : Int) (high : Bool) (w : World) (lo hi : Nat) (p : Pt) (htn : p.ts.length = tn) (hsn : p.ss.length = sn)
    (hts : Lies w lo hi (.slice ta tn tc) tn 6 (p.ts.flatMap Tk.cells)) (hss : Lies w lo hi (.slice sa sn sc) sn 3 (p.ss.flatMap Sv.cells)) (hhi : hi ≤ w.heap.size) (ht2 : tn ≤ 1000000) (hs2 : sn ≤ 1000000) (K : Nat) (hK : min (max most 0) 65536 = (K : Int)) :
    Calls Try.prog 14 #[.agg #[.slice ta tn tc, .slice sa sn sc, .slice da dn dc, .int .u8 x0, .int .u8 x1, .int .u8 x2], .int .i64 most, .bool high] w fun e w' => ∃ a cap, e = .returned (.slice a (outL (metE (onceV p high) (againV p high)) K).length cap) ∧ w'.ownsRow w.heap.size 3 1 (.slice a (outL (metE (onceV p high) (againV p high)) K).length cap) (outL (metE (onceV p high) (againV p high)) K).length ((outL (metE (onceV p high) (againV p high)) K).flatMap intCells) ∧ Below w.heap.size w w' := by
  obtain ⟨i0, hi0, hz0, hz1, hz2⟩ := info_parts Try.infoInt
  obtain ⟨i1, hi1, hy0, hy1, hy2⟩ := info_parts Try.infoBool
  have HI := Lib.hid hi0; have HJ := Lib.hid hi1
  have hK2 : K ≤ 65536 := by omega
  have HK := Lib.hid hK
  obtain ⟨f, hf⟩ : ∃ f, f = metE (onceV p high) (againV p high) := ⟨_, rfl⟩
  rw [← hf]
  have HF := Lib.hid hf
  have H0 : Hid (∀ i, againV p high 0 i = false) := Lib.hid (fun i => by
    unfold againV
    rw [Bool.or_eq_false_iff, List.any_eq_false, List.any_eq_false]
    constructor
    · intro k _ hm
      unfold mTk countsB at hm
      simp at hm
      have := okTk_t hm.1.1
      omega
    · intro s _ hm
      unfold mSv at hm
      simp at hm
      have := okSv_t hm.1.1
      omega)
  obtain ⟨V, hV⟩ : ∃ V, V = w.alloc (.cells #[.slice ta tn tc, .slice sa sn sc, .slice da dn dc, .int .u8 x0, .int .u8 x1, .int .u8 x2] 45) := ⟨_, rfl⟩
  have ks : ∀ W : World, Below V.heap.size V W → W.cell? ⟨w.heap.size, 0, none⟩ = some (.slice ta tn tc) ∧ W.cell? ⟨w.heap.size, 1, none⟩ = some (.slice sa sn sc) ∧ W.cell? ⟨w.heap.size, 2, none⟩ = some (.slice da dn dc) ∧ W.cell? ⟨w.heap.size, 3, none⟩ = some (.int .u8 x0) ∧ W.cell? ⟨w.heap.size, 4, none⟩ = some (.int .u8 x1) ∧ W.cell? ⟨w.heap.size, 5, none⟩ = some (.int .u8 x2) := fun W h => by
    rw [hV] at h
    have k := box_says w #[.slice ta tn tc, .slice sa sn sc, .slice da dn dc, .int .u8 x0, .int .u8 x1, .int .u8 x2] 45 W h
    exact ⟨k 0 _ rfl, k 1 _ rfl, k 2 _ rfl, k 3 _ rfl, k 4 _ rfl, k 5 _ rfl⟩
  have hBV : Below w.heap.size w V := by rw [hV]; exact below1 _ _
  have hVw : w.heap.size < V.heap.size := by rw [hV]; simp
  have CN := Lib.hid (fun (W : World) (hb : Below V.heap.size V W) =>
    newRises_any ta sa da tn tc sn sc dn dc x0 x1 x2 high W lo hi p.ts p.ss htn hsn (hts.keep (SameIn.of_below (hBV.trans (hb.mono (Nat.le_of_lt hVw))) hhi)) (hss.keep (SameIn.of_below (hBV.trans (hb.mono (Nat.le_of_lt hVw))) hhi)) (Nat.le_trans hhi (Nat.le_trans (Nat.le_of_lt hVw) hb.size)) ht2 hs2)
  have KS := Lib.hid ks; have HV := Lib.hid hV; have HBV := Lib.hid hBV
  have s1 : IntKind.i64.wrap ((K : Int) + 1) = ((K + 1 : Nat) : Int) := by rw [IntWalk.i64_in _ (by omega)]; omega
  clear hts hss htn hsn ks hV hBV hi0 hi1 hK hf
  go_enter Try.func14, Try.ntmps14
  go_wp2_with fail
  rw [← HV.out]
  go_wp2_with (first
    | (refine wpList_make_full _ (by rfl) (.tmp 12) (.tmp 12) 59 (by rfl) V.heap.size 4 i1 _ 1 Try.underlying59 HJ.out hy0 hy1 _ _ (K + 1) (K + 1) (K + 1) (by rfl) (by rfl) rfl rfl (by rw [hy2]; omega) (by simp [maxLen]; omega) (Nat.le_refl _) ?_; intro w2 hown2 hgrow2; have hbV1 := b_alloc (grown_below hgrow2) (Nat.le_refl _) (.cells #[.slice (some ⟨V.heap.size, 0, none⟩) (K + 1) (K + 1)] 59); obtain ⟨z0, z1, z2, z3, z4, z5⟩ := KS.out _ hbV1)
    | (go_at_call 20; refine (heldD_any most 65536 _ (by omega)).mono ?_; rintro e w1 ⟨rfl, rfl⟩; rw [HK.out])
    | (go_at_call 28; refine HE.out.mono ?_; rintro e w4 ⟨rfl, hB4, hb4⟩)
    | (go_at_call 27; refine (CN.out _ hbV1).mono ?_; rintro e w3 ⟨G, O, A, rfl, ⟨rows, hR⟩, hb3⟩
       have hB2 := made_at rfl hown2
       have hB3 := (hB2.later (below1 w2 (.cells #[.slice (some ⟨V.heap.size, 0, none⟩) (K + 1) (K + 1)] 59))).later hb3
       rw [bools_none] at hB3
       have hM3 : w3.heap[w2.heap.size]? = some (.cells #[.slice (some ⟨V.heap.size, 0, none⟩) (K + 1) (K + 1)] 59 (0, 0)) := (hb3.block _ (by simp)).trans (heap_alloc_new _ _)
       have hlt := hB2.lt
       have HE := Lib.hid (each_any hR H0.out hM3 hB3 (by omega) (by simp; omega) (by omega))
       have HM3 := Lib.hid hM3; have HB3 := Lib.hid hb3; have HV1 := Lib.hid hbV1; have HLT := Lib.hid hlt
       clear hR hB3 hM3 hB2 hlt hb3)
    | go_in)
  have HB4 := Lib.hid (show CellsAt w4 V.heap.size 4 (bools f (K + 1)) from by
    have := hB4
    rwa [show (fun t => false || metE (fun i => p.ss.any fun s => oSv high s i) (fun q i => p.ts.any (fun k => mTk high k q i) || p.ss.any fun s => mSv high s q i) t) = f from by rw [HF.out]; funext t; rw [Bool.false_or]; rfl] at this)
  obtain ⟨M, hM⟩ : ∃ M, M = w2.heap.size := ⟨_, rfl⟩
  have HM4 := Lib.hid (show w4.heap[M]? = some (.cells #[.slice (some ⟨V.heap.size, 0, none⟩) (K + 1) (K + 1)] 59 (0, 0)) from by
    rw [hM]
    exact hb4.at HM3.out (by have := HLT.out; omega))
  have HW4 := Lib.hid (show Below w.heap.size w w4 from by
    have h1 : Below w.heap.size w w3 := HBV.out.trans ((bel_thenD HV1.out (Nat.le_refl _) HB3.out).mono (Nat.le_of_lt hVw))
    exact h1.trans (hb4.below (Nat.le_of_lt hVw) h1.size))
  rw [← hM]
  clear hB4 hM hb4 z0 z1 z2 z3 z4 z5 s1 hown2 hgrow2 hbV1 HE HM3 HB3 HV1 HLT H0 CN HF KS
  go_wp2_with fail
  go_loopw [8, 9] (fun s8 i wr => ∃ (k nc : Nat) (na : Option Addr), k ≤ K ∧ s8 = .slice na (outL f k).length nc ∧ i = .int .i64 ((k + 1 : Nat) : Int) ∧ Hid (wr.ownsRow w4.heap.size 3 1 (.slice na (outL f k).length nc) (outL f k).length ((outL f k).flatMap intCells)) ∧ Below w4.heap.size w4 wr) (fun _ i _ => K + 2 - (intOf i).toNat)
  case atStart => exact ⟨0, 0, none, by omega, rfl, rfl, Lib.hid (World.ownsRow_nil _ _ _ _), Below.refl _ _⟩
  case round =>
    obtain ⟨k, nc, na, hk, rfl, rfl, HO, hb⟩ := hrel
    have hbs := hb.size
    have y0 : wr.cell? ⟨M, 0, none⟩ = some (.slice (some ⟨V.heap.size, 0, none⟩) (K + 1) (K + 1)) := cell_in ((hb.block M (lt_of_block HM4.out)).trans HM4.out) rfl
    by_cases hlt : k < K
    · have tk : decide (((k + 1 : Nat) : Int) < ((K + 1 : Nat) : Int)) = true := by simp; omega
      have tk2 : decide ((k : Int) + 1 < (K : Int) + 1) = true := by simp; omega
      have tk3 : decide (k < K) = true := by simp; omega
      have tk4 : decide ((k : Int) < (K : Int)) = true := by simp; omega
      have l0 : (0 : Int) ≤ ((k + 1 : Nat) : Int) := by omega
      have l1 : ((k + 1 : Nat) : Int) < ((K + 1 : Nat) : Int) := by omega
      have y1 := ((HB4.out.later hb).cell (bools_at (f := f) (show k + 1 < K + 1 by omega))).1
      have hil := outL_len f k
      cases hfk : f (k + 1) with
      | true =>
        rw [hfk] at y1
        have HN : Hid (outL f (k + 1) = outL f k ++ [((k + 1 : Nat) : Int)]) := Lib.hid (by rw [outL, hfk, if_pos rfl])
        have hap : ∀ W : World, W.heap = (wr.alloc (.cells #[.int .i64 ((k + 1 : Nat) : Int)] 3)).heap → W.ownsRow w4.heap.size 3 1 (.slice na (outL f k).length nc) (outL f k).length ((outL f k).flatMap intCells) ∧ Lies W wr.heap.size (wr.heap.size + 1) (.slice (some ⟨wr.heap.size, 0, none⟩) 1 1) 1 1 [.int .i64 ((k + 1 : Nat) : Int)] ∧ w4.heap.size ≤ W.heap.size := by
          intro W hW
          have hz : W.heap.size = wr.heap.size + 1 := by rw [hW]; simp
          refine ⟨owns_hold HO.out ⟨by omega, fun g hg => ?_⟩, one_lies (cs := #[.int .i64 ((k + 1 : Nat) : Int)]) (t := 3) (by rw [hW]; exact heap_alloc_new _ _) rfl, by omega⟩
          have := (owns_own HO.out g hg).2
          rw [hW, heap_at, if_neg (by omega)]
        have HAP := Lib.hid hap
        clear hfk hap
        go_wp2_with (first
          | (refine wpList_append_lie2 (by rfl) (.tmp 29) (.tmp 31) 36 (by rfl) w4.heap.size 3 i0 _ 1 8 Try.underlying36 HI.out hz0 hz1 hz2 rfl (by omega) (.slice na (outL f k).length nc) (outL f k).length ((outL f k).flatMap intCells) (by rfl) (HAP.out _ (by rfl)).1 (.slice (some ⟨wr.heap.size, 0, none⟩) 1 1) wr.heap.size (wr.heap.size + 1) 1 [.int .i64 ((k + 1 : Nat) : Int)] (by rfl) (HAP.out _ (by rfl)).2.1 (in_one _) ((outL f k).length + 1) rfl (by simp only [maxLen]; omega) (by omega) (HAP.out _ (by rfl)).2.2 ?_; intro ao cap' w6 hown6 hgrow6 hob6)
          | go_in)
        go_roundw
        case rel =>
          refine ⟨k + 1, cap', ao, by omega, by rw [HN.out]; simp, by go_num, Lib.hid ?_, (hb.alloc hbs _).grown hgrow6 (by simp; omega) (fun q hq => (owns_own HO.out q hq).1)⟩
          rw [HN.out, List.length_append, List.flatMap_append]
          exact hown6
        case measure => simp [intOf]; omega
      | false =>
        rw [hfk] at y1
        have HN : Hid (outL f (k + 1) = outL f k) := Lib.hid (by rw [outL, hfk]; simp)
        clear hfk
        go_wp2_with fail
        go_roundw
        case rel =>
          refine ⟨k + 1, nc, na, by omega, by rw [HN.out], by go_num, Lib.hid ?_, hb⟩
          rw [HN.out]; exact HO.out
        case measure => simp [intOf]; omega
    · have tk : decide (((k + 1 : Nat) : Int) < ((K + 1 : Nat) : Int)) = false := by simp; omega
      have tk2 : decide ((k : Int) + 1 < (K : Int) + 1) = false := by simp; omega
      have tk3 : decide (k < K) = false := by simp; omega
      have tk4 : decide ((k : Int) < (K : Int)) = false := by simp; omega
      obtain rfl : k = K := by omega
      go_wp2_with fail
      go_ret
      exact ⟨na, nc, rfl, owns_base HO.out HW4.out.size, HW4.out.trans (hb.mono HW4.out.size)⟩
end Go.Proofs.Ytlmgphomklpplaa
