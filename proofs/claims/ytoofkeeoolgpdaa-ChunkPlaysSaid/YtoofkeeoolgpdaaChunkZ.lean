/- The program's budget: Live, Backs, New, Reset; chunkOk, chunkNo. -/
import Derived.Test.YtoofkeeoolgpdaaChunkY
import Derived.OwnWalk
namespace Go.Proofs.Ytoofkeeoolgpdaa
open Go.ChangeShapes Go.WideShapes Go.ChangeAt Go.RowKit
set_option linter.unusedVariables false

set_option maxRecDepth 100000 in
set_option maxHeartbeats 4000000 in
theorem live_bg (w : World) (H : Nat) (S : Nat → Prop) (s : Sv) (b : Bd) (h : BgAt H s b w S) :
    Calls Try.prog 23 #[.pointer (some ⟨H, 0, none⟩)] w fun e w' => ∃ ao cap, e = .returned (.slice ao b.live.length cap) ∧ Lies w' w.heap.size w'.heap.size (.slice ao b.live.length cap) b.live.length 3 (b.live.flatMap Wn.cells) ∧ Below w.heap.size w w' := by
  obtain ⟨la, ea, lc, ec, en, hk, hb, hen, hs, hok, rfl⟩ := h
  have hsb := okSv_bd hs
  obtain ⟨n1, n2, n3, n4, n5⟩ := bd_nums hb hs hok hen
  have HM := Lib.hid (made_yes w H s.t hk.c3 (by omega))
  obtain ⟨i0, hi, hz0, hz1, hz2⟩ := info_parts Try.infoChk
  have HI := Lib.hid hi
  obtain ⟨n, hn⟩ : ∃ n, n = b.live.length := ⟨_, rfl⟩
  obtain ⟨xs, hxs⟩ : ∃ xs, xs = b.live.flatMap Wn.cells := ⟨_, rfl⟩
  have b0 := hk.c0
  have hl := hk.l.lies (lo := 0) (hi := w.heap.size) (fun g hg => ⟨Nat.zero_le _, hk.l.lt g hg⟩)
  rw [← hn] at b0 n2 hl ⊢
  rw [← hxs] at hl ⊢
  have h1 : ∀ u ∈ xs, u.oneCell' = true := by rw [hxs]; exact flat_one Wn.cells wn_one _
  have HL := Lib.hid hl
  have H1 := Lib.hid h1
  clear hk hb hen hs hok n1 n3 n4 n5 hi hl h1 hxs hn
  go_enter Try.func23, Try.ntmps23
  go_wp2_with (first
    | (go_at_call 29; refine HM.out.mono ?_; rintro e w1 ⟨rfl, hw1⟩; rw [hw1]; clear hw1)
    | (refine wpList_append_lie2 (by rfl) (.const (.slice none 0 0)) (.tmp 10) 42 (by rfl) w.heap.size 45 i0 _ 3 24 Try.underlying42 HI.out hz0 hz1 hz2 rfl (by omega) (.slice none 0 0) 0 [] (by rfl) (World.ownsRow_nil _ _ _ _) (.slice la n lc) 0 w.heap.size n xs (by rfl) HL.out H1.out n (by omega) (by simp only [maxLen]; omega) (by omega) (Nat.le_refl _) ?_
       intro ao cap w6 hown6' hgrow6' hob6'
       have hown6 := Lib.hid hown6'
       have hb6 : Hid (Below w.heap.size w w6) := Lib.hid ((Below.refl _ _).grown hgrow6' (Nat.le_refl _) (fun q hq => by cases hq))
       clear hown6' hgrow6' hob6')
    | fail "no arm")
  go_ret
  refine ⟨ao, cap, rfl, ?_, hb6.out⟩
  have := Lies.of_owns hown6.out
  simpa using this
/-! ### Backs -/
theorem made_pairs17 (m : Nat) : (madeCells (Value.agg #[.int .i64 0, .int .i64 0]).cells m).toList = List.replicate m (.int .i64 0) := by
  apply List.ext_getElem?
  intro k
  simp only [madeCells, Value.cells]
  by_cases hk : k < m
  · have h2 := Nat.mod_lt k (show 0 < 2 by omega)
    rcases (show k % 2 = 0 ∨ k % 2 = 1 by omega) with h | h <;> simp [hk, h]
  · simp [hk]
theorem Try.infoBk : (Try.prog.info? 49).map (fun i => (i.zero, i.size, i.bytes)) = some (some (.agg #[.int .i64 0, .int .i64 0]), 2, 16) := by kernel_rfl
theorem Try.builtBk (a b : Int) : Try.prog.built 49 [(0, .int .i64 a), (1, .int .i64 b)] = some #[.int .i64 a, .int .i64 b] := by kernel_rfl
theorem flat_zeros (n : Nat) : (List.replicate n (⟨0, 0⟩ : Bk)).flatMap Bk.cells = List.replicate (n * 2) (.int .i64 0) := by
  induction n with
  | zero => rfl
  | succ n ih => rw [List.replicate_succ, List.flatMap_cons, ih, show (n + 1) * 2 = n * 2 + 1 + 1 by omega, List.replicate_succ, List.replicate_succ]; rfl
theorem flat_setB : ∀ (dk : List Bk) (i : Nat) (x : Bk), i < dk.length → ((dk.flatMap Bk.cells).set (i * 2) (.int .i64 x.at_)).set (i * 2 + 1) (.int .i64 x.n) = (dk.set i x).flatMap Bk.cells
  | [], i, x, h => by simp at h
  | y :: l, 0, x, _ => by simp [Bk.cells]
  | y :: l, i + 1, x, h => by
    have ih := flat_setB l i x (by simpa using h)
    rw [List.set_cons_succ, List.flatMap_cons, List.flatMap_cons, ← ih, show (i + 1) * 2 = i * 2 + 1 + 1 by omega]
    simp only [Bk.cells, List.cons_append, List.nil_append, List.set_cons_succ]
/-- What Backs has written of those that ended, k of them. -/
def bkL (t : Int) (en : List Wn) (k : Nat) : List Bk := (en.take k).map (fun x => ⟨x.at_ + t, x.part⟩) ++ List.replicate (en.length - k) ⟨0, 0⟩
theorem bkL_len (t : Int) (en : List Wn) (k : Nat) (h : k ≤ en.length) : (bkL t en k).length = en.length := by simp [bkL]; omega
theorem bkL_set (t : Int) (en : List Wn) (k : Nat) (x : Wn) (h : en[k]? = some x) : (bkL t en k).set k ⟨x.at_ + t, x.part⟩ = bkL t en (k + 1) := by
  have hk := (List.getElem?_eq_some_iff.1 h).1
  unfold bkL
  rw [List.take_add_one, h, List.set_append, if_neg (by simp; omega)]
  simp only [Option.toList_some, List.map_append, List.map_cons, List.map_nil, List.length_map, List.length_take, List.append_assoc]
  congr 1
  rw [show k - min k en.length = 0 by omega, show en.length - k = en.length - (k + 1) + 1 by omega, List.replicate_succ]
  rfl
set_option maxRecDepth 100000 in
set_option maxHeartbeats 4000000 in
theorem backs_bg (w : World) (H : Nat) (S : Nat → Prop) (s : Sv) (b : Bd) (h : BgAt H s b w S) :
    Calls Try.prog 24 #[.pointer (some ⟨H, 0, none⟩)] w fun e w' => ∃ ao cap, e = .returned (.slice ao b.backs.length cap) ∧ Lies w' w.heap.size w'.heap.size (.slice ao b.backs.length cap) b.backs.length 2 (b.backs.flatMap Bk.cells) ∧ Below w.heap.size w w' := by
  obtain ⟨la, ea, lc, ec, en, hk, hb, hen, hs, hok, rfl⟩ := h
  have hsb := okSv_bd hs
  obtain ⟨n1, n2, n3, n4, n5⟩ := bd_nums hb hs hok hen
  have HM := Lib.hid (made_yes w H s.t hk.c3 (by omega))
  obtain ⟨i0, hi, hz0, hz1, hz2⟩ := info_parts Try.infoBk
  have HI := Lib.hid hi
  obtain ⟨n, hn⟩ : ∃ n, n = en.length := ⟨_, rfl⟩
  have hbl : b.backs.length = n := by rw [hb, List.length_map, hn]
  have HBE : Hid (b.backs = bkL s.t en n) := Lib.hid (by rw [hb, bkL, hn]; simp)
  have b6 := hk.c6
  rw [← hn] at b6 n3
  rw [hbl]
  have HK := Lib.hid hk
  have HN := Lib.hid hn
  have HEN := Lib.hid hen
  have hT : 1 ≤ s.t ∧ s.t ≤ 1000 := by omega
  have hB0 : Hid (List.replicate (n * 2) (.int .i64 0) = (bkL s.t en 0).flatMap Bk.cells) := Lib.hid (by rw [← flat_zeros, bkL, hn]; simp)
  clear hk hb hen hs hok n1 n2 n4 n5 hi hn hsb
  go_enter Try.func24, Try.ntmps24
  go_wp2_with (first
    | (go_at_call 29; refine HM.out.mono ?_; rintro e w1 ⟨rfl, hw1⟩; rw [hw1]; clear hw1)
    | (refine wpList_make_full _ (by rfl) (.tmp 13) (.tmp 13) 46 (by rfl) w.heap.size 49 i0 _ 2 Try.underlying46 HI.out hz0 hz1 _ _ n n n (by rfl) (by rfl) rfl rfl (by rw [hz2]; omega) (by simp only [maxLen]; omega) (Nat.le_refl _) ?_
       intro w2 hown2 hgrow2
       rw [made_pairs17, hB0.out] at hown2
       have HO2 := Lib.hid (ORow.of_owns hown2)
       have HB2 : Hid (Below w.heap.size w w2) := Lib.hid ((Below.refl _ _).grown hgrow2 (Nat.le_refl _) (fun q hq => by cases hq))
       have b6' := (HK.out.later HB2.out).c6
       rw [← HN.out] at b6'
       clear hown2 hgrow2)
    | fail "no arm")
  obtain ⟨G, hG⟩ : ∃ G, G = w.heap.size := ⟨_, rfl⟩
  have HG := Lib.hid hG
  rw [← hG] at HO2
  rw [← hG]
  go_loopw [20] (fun i wr => ∃ k : Nat, k ≤ n ∧ i = .int .i64 k ∧ Hid (ORow wr 49 2 (.slice (some ⟨G, 0, none⟩) n n) n ((bkL s.t en k).flatMap Bk.cells)) ∧ Hid (Below G w wr)) (fun i _ => n - (intOf i).toNat)
  case atStart => exact ⟨0, by omega, rfl, HO2, Lib.hid (by rw [hG]; exact HB2.out)⟩
  case round =>
    obtain ⟨k, hk, rfl, HO, HB⟩ := hrel
    by_cases hlt : k < n
    · have tk : decide ((k : Int) < (n : Int)) = true := by simpa using hlt
      obtain ⟨x, hx⟩ : ∃ x, en[k]? = some x := ⟨_, List.getElem?_eq_getElem (by rw [← HN.out]; exact hlt)⟩
      have hkr := HK.out.later (show Below w.heap.size w wr by rw [← hG]; exact HB.out)
      have hoe := hkr.e
      rw [← HN.out] at hoe
      obtain ⟨g, off, hea, _⟩ := hoe.at_ (by omega)
      rw [hea] at hoe
      obtain ⟨y0, y1, y2, _⟩ := orow_at hoe hx hlt
      have l0 : (0 : Int) ≤ (k : Int) := by omega
      have l1 : (k : Int) < (n : Int) := by omega
      have hxi := HEN.out x (List.mem_of_getElem? hx)
      have HX := Lib.hid hx
      obtain ⟨U, hU⟩ : ∃ U, U = wr.alloc (.cells #[.int .i64 x.at_, .int .i64 x.len, .int .i64 x.part] 45) := ⟨_, rfl⟩
      obtain ⟨F, hF⟩ : ∃ F, F = wr.heap.size := ⟨_, rfl⟩
      have hbU : Below wr.heap.size wr U := by rw [hU]; exact below1 _ _
      have hFU : U.heap[F]? = some (.cells #[.int .i64 x.at_, .int .i64 x.len, .int .i64 x.part] 45 (0, 0)) := by rw [hU, hF]; exact heap_alloc_new _ _
      have v0 : U.cell? ⟨F, 0, none⟩ = some (.int .i64 x.at_) := cell_in hFU rfl
      have v2 : U.cell? ⟨F, 2, none⟩ = some (.int .i64 x.part) := cell_in hFU rfl
      have hcU := (hkr.later hbU).c3
      have HD0 := Lib.hid (due_any U H s.t x.at_ hcU hT (by omega))
      have HD1 := Lib.hid (due_any U.drew H s.t x.at_ hcU hT (by omega))
      have HOU := HO.out.later hbU
      obtain ⟨z, hz⟩ : ∃ z, (bkL s.t en k)[k]? = some z := ⟨_, List.getElem?_eq_getElem (by rw [bkL_len _ _ _ (by rw [← HN.out]; exact hk), ← HN.out]; exact hlt)⟩
      obtain ⟨g', off', eg, hgc, hgf, hGU⟩ := HOU.at_ (by omega)
      cases eg
      have w0 : U.cell? ⟨G, k * 2, none⟩ = some (.int .i64 z.at_) := by
        have := hgc (k * 2 + 0) _ (flat_at Bk.cells 2 (fun _ => rfl) _ k 0 z hz (by omega)); simpa using this
      have w1 : U.cell? ⟨G, k * 2 + 1, none⟩ = some (.int .i64 z.n) := by
        have := hgc (k * 2 + 1) _ (flat_at Bk.cells 2 (fun _ => rfl) _ k 1 z hz (by omega)); simpa using this
      have f0 := hgf (k * 2)
      have f1 := hgf (k * 2 + 1)
      have HOU' := Lib.hid HOU
      have HBU := Lib.hid hbU
      have HU := Lib.hid hU
      have HF := Lib.hid hF
      have hFG : F ≠ G := fun e => by
        have h1 := HO.out.lt G (by rfl)
        omega
      have hGF : G ≠ F := fun e => hFG e.symm
      clear hU hF hbU hFU hx hoe hkr HOU hgc hgf hz hcU hG
      rw [hea] at b6'
      rw [hea]
      go_upto_region 7 with fail
      rw [← HU.out, ← HF.out]
      go_region_with (first
        | (go_at_call 38; refine HD1.out.mono ?_; rintro e w3 ⟨rfl, hw3⟩; rw [hw3]; clear hw3)
        | (go_at_call 38; refine HD0.out.mono ?_; rintro e w3 ⟨rfl, hw3⟩; rw [hw3]; clear hw3)
        | fail "no arm")
      all_goals
        go_wp2_with fail
        go_roundw
        all_goals first
          | (case rel =>
              refine ⟨k + 1, by omega, by go_num, Lib.hid ?_, Lib.hid ?_⟩
              · have h3 := (HOU'.out.set (j := k * 2) (by omega) (.int .i64 (x.at_ + s.t))).set (j := k * 2 + 1) (by omega) (.int .i64 x.part)
                have hl := bkL_len s.t en k (by rw [← HN.out]; exact hk)
                rw [flat_setB (bkL s.t en k) k ⟨x.at_ + s.t, x.part⟩ (by rw [hl, ← HN.out]; exact hlt), bkL_set s.t en k x HX.out] at h3
                have h4 := h3.later (Below.refl _ _).drew
                simpa using h4
              · have h5 := (HB.out.trans (HBU.out.mono (by have := HB.out.size; have h1 := HO.out.lt G (by rfl); omega)))
                exact ((h5.setCell (p := ⟨G, k * 2, none⟩) (Nat.le_refl _) _).setCell (p := ⟨G, k * 2 + 1, none⟩) (Nat.le_refl _) _).drew)
          | (case measure => simp [intOf]; omega)
    · have tk : decide ((k : Int) < (n : Int)) = false := by simp; omega
      have hkn : k = n := by omega
      subst hkn
      go_wp2_with fail
      go_ret
      refine ⟨some ⟨G, 0, none⟩, k, rfl, ?_, by rw [← hG]; exact HB.out⟩
      rw [HBE.out, ← hG]
      exact HO.out.lies (fun g hg => ⟨by cases hg; exact Nat.le_refl _, HO.out.lt g hg⟩)

/-! ### New, Reset -/
/-- The cells of a new budget. -/
def newC (re : Bool) (c t : Int) : Array Value := #[.slice none 0 0, .bool re, .int .i64 c, .int .i64 t, .int .i64 c, .bool false, .slice none 0 0]
set_option maxRecDepth 100000 in
theorem built_bud (re : Bool) (c t : Int) : Try.prog.built 57 [(1, .agg #[.bool re, .int .i64 c, .int .i64 t]), (2, .int .i64 c)] = some (newC re c t) := by kernel_rfl
theorem bg_new {w : World} {H : Nat} {s : Sv} (h : w.heap[H]? = some (.cells (newC s.re s.c s.t) 57 (0, 0))) (hs : okSv s = true) : BgAt H s (resetB s.c) w (Bl H none none) :=
  ⟨none, none, 0, 0, [], ⟨h, ORow.nil _ _ _, ORow.nil _ _ _, fun g hg => by cases hg⟩, rfl, (fun x hx => by cases hx), hs, BdOk.start (by have := okSv_bd hs; omega) _ _, rfl⟩
set_option maxRecDepth 100000 in
set_option maxHeartbeats 4000000 in
theorem new17_yes (s : Sv) (w : World) (hs : okSv s = true) : Calls Try.prog 8 #[.agg #[.bool s.re, .int .i64 s.c, .int .i64 s.t]] w fun e w' => ∃ H, e = .returned (.pointer (some ⟨H, 0, none⟩)) ∧ w'.heap[H]? = some (.cells (newC s.re s.c s.t) 57 (0, 0)) ∧ w.heap.size ≤ H ∧ Below w.heap.size w w' := by
  obtain ⟨re, c, t⟩ := s
  have HB := Lib.hid (built_bud re c t)
  have HS := Lib.hid hs
  obtain ⟨V, hV⟩ : ∃ V, V = w.alloc (.cells #[.bool re, .int .i64 c, .int .i64 t] 28) := ⟨_, rfl⟩
  obtain ⟨E, hE⟩ : ∃ E, E = w.heap.size := ⟨_, rfl⟩
  have hbV : Below w.heap.size w V := by rw [hV]; exact below1 _ _
  have hEV : V.heap[E]? = some (.cells #[.bool re, .int .i64 c, .int .i64 t] 28 (0, 0)) := by rw [hV, hE]; exact heap_alloc_new _ _
  have k0 : V.cell? ⟨E, 0, none⟩ = some (.bool re) := cell_in hEV rfl
  have k1 : V.cell? ⟨E, 1, none⟩ = some (.int .i64 c) := cell_in hEV rfl
  have k2 : V.cell? ⟨E, 2, none⟩ = some (.int .i64 t) := cell_in hEV rfl
  have KS : Hid (∀ W, Below V.heap.size V W → W.cell? ⟨E, 0, none⟩ = some (.bool re) ∧ W.cell? ⟨E, 1, none⟩ = some (.int .i64 c) ∧ W.cell? ⟨E, 2, none⟩ = some (.int .i64 t)) := Lib.hid (fun W hW => ⟨cell_later k0 hW, cell_later k1 hW, cell_later k2 hW⟩)
  have HV := Lib.hid hV
  have HE := Lib.hid hE
  have HBV := Lib.hid hbV
  clear hV hE hbV hEV hs
  go_enter Try.func8, Try.ntmps8
  go_upto_region 1 with fail
  rw [← HV.out, ← HE.out]
  go_wp2_with (first
    | (go_at_call 27; refine (serverRight_any re c t V).mono ?_; rintro e w2 ⟨rfl, hb2'⟩; rw [HS.out]; obtain ⟨y0, y1, y2⟩ := KS.out _ hb2'; have hb2 := Lib.hid hb2'; clear hb2')
    | (refine wpList_build3 (by rfl) 57 _ (by rfl) [(1, .agg #[.bool re, .int .i64 c, .int .i64 t]), (2, .int .i64 c)] (by rfl) _ HB.out ?_)
    | fail "no arm")
  go_ret
  have h2 := HBV.out.trans (hb2.out.mono HBV.out.size)
  exact ⟨w2.heap.size, rfl, heap_alloc_new _ _, h2.size, b_alloc h2 (Nat.le_refl _) _⟩
set_option maxRecDepth 100000 in
set_option maxHeartbeats 4000000 in
theorem new17_no (re : Bool) (c t : Int) (w : World) (hs : okSv ⟨re, c, t⟩ = false) : Calls Try.prog 8 #[.agg #[.bool re, .int .i64 c, .int .i64 t]] w fun e w' => e = .returned (.pointer none) ∧ Below w.heap.size w w' := by
  have HS := Lib.hid hs
  obtain ⟨V, hV⟩ : ∃ V, V = w.alloc (.cells #[.bool re, .int .i64 c, .int .i64 t] 28) := ⟨_, rfl⟩
  obtain ⟨E, hE⟩ : ∃ E, E = w.heap.size := ⟨_, rfl⟩
  have hbV : Below w.heap.size w V := by rw [hV]; exact below1 _ _
  have hEV : V.heap[E]? = some (.cells #[.bool re, .int .i64 c, .int .i64 t] 28 (0, 0)) := by rw [hV, hE]; exact heap_alloc_new _ _
  have k0 : V.cell? ⟨E, 0, none⟩ = some (.bool re) := cell_in hEV rfl
  have k1 : V.cell? ⟨E, 1, none⟩ = some (.int .i64 c) := cell_in hEV rfl
  have k2 : V.cell? ⟨E, 2, none⟩ = some (.int .i64 t) := cell_in hEV rfl
  have HV := Lib.hid hV
  have HE := Lib.hid hE
  have HBV := Lib.hid hbV
  clear hV hE hbV hEV hs
  go_enter Try.func8, Try.ntmps8
  go_upto_region 1 with fail
  rw [← HV.out, ← HE.out]
  go_wp2_with (first
    | (go_at_call 27; refine (serverRight_any re c t V).mono ?_; rintro e w2 ⟨rfl, hb2'⟩; rw [HS.out]; have hb2 := Lib.hid hb2'; clear hb2')
    | fail "no arm")
  go_ret
  exact ⟨rfl, HBV.out.trans (hb2.out.mono HBV.out.size)⟩
set_option maxRecDepth 100000 in
set_option maxHeartbeats 4000000 in
theorem reset_bg (w : World) (H : Nat) (S : Nat → Prop) (s : Sv) (b : Bd) (h : BgAt H s b w S) :
    Calls Try.prog 18 #[.pointer (some ⟨H, 0, none⟩)] w fun e w' => ∃ S', e = .returned (.tuple #[]) ∧ BgAt H s (resetB s.c) w' S' ∧ GrowS S S' w w' := by
  obtain ⟨la, ea, lc, ec, en, hk, hb, hen, hs, hok, rfl⟩ := h
  have HM := Lib.hid (made_yes w H s.t hk.c3 (by have := okSv_bd hs; omega))
  have HW := Lib.hid (new17_yes s w hs)
  have HK := Lib.hid hk
  have HS := Lib.hid hs
  have c1 : w.cell? ⟨H, 1, none⟩ = some (.bool s.re) := cell_in hk.box rfl
  have c2 : w.cell? ⟨H, 2, none⟩ = some (.int .i64 s.c) := cell_in hk.box rfl
  have c3 := hk.c3
  clear hk hb hen hs hok
  go_enter Try.func18, Try.ntmps18
  go_wp2_with (first
    | (go_at_call 29; refine HM.out.mono ?_; rintro e w1 ⟨rfl, hw1⟩; rw [hw1]; clear hw1)
    | (go_at_call 8; refine HW.out.mono ?_; rintro e w2 ⟨N, rfl, hN, hNb, hb2'⟩; have hkN := HK.out.later hb2'; have z0 : w2.cell? ⟨N, 0, none⟩ = some (.slice none 0 0) := cell_in hN rfl; have z1 : w2.cell? ⟨N, 1, none⟩ = some (.bool s.re) := cell_in hN rfl; have z2 : w2.cell? ⟨N, 2, none⟩ = some (.int .i64 s.c) := cell_in hN rfl; have z3 : w2.cell? ⟨N, 3, none⟩ = some (.int .i64 s.t) := cell_in hN rfl; have z4 : w2.cell? ⟨N, 4, none⟩ = some (.int .i64 s.c) := cell_in hN rfl; have z5 : w2.cell? ⟨N, 5, none⟩ = some (.bool false) := cell_in hN rfl; have z6 : w2.cell? ⟨N, 6, none⟩ = some (.slice none 0 0) := cell_in hN rfl; have y0 : w2.cell? ⟨H, 0, none⟩ = some (.slice la b.live.length lc) := cell_in hkN.box rfl; have f0 := hkN.fz 0; have y1 : w2.cell? ⟨H, 1, none⟩ = some (.bool s.re) := cell_in hkN.box rfl; have f1 := hkN.fz 1; have y2 : w2.cell? ⟨H, 2, none⟩ = some (.int .i64 s.c) := cell_in hkN.box rfl; have f2 := hkN.fz 2; have y3 : w2.cell? ⟨H, 3, none⟩ = some (.int .i64 s.t) := cell_in hkN.box rfl; have f3 := hkN.fz 3; have y4 : w2.cell? ⟨H, 4, none⟩ = some (.int .i64 b.free) := cell_in hkN.box rfl; have f4 := hkN.fz 4; have y5 : w2.cell? ⟨H, 5, none⟩ = some (.bool b.stop) := cell_in hkN.box rfl; have f5 := hkN.fz 5; have y6 : w2.cell? ⟨H, 6, none⟩ = some (.slice ea en.length ec) := cell_in hkN.box rfl; have f6 := hkN.fz 6; have hb2 := Lib.hid hb2'; have HN2 := Lib.hid hN; have HKN := Lib.hid hkN; clear hb2' hN hkN)
    | fail "no arm")
  go_end0
  obtain ⟨Y, hY⟩ : ∃ Y, Y = ((((((w2.setCell ⟨H, 0, none⟩ (.slice none 0 0)).setCell ⟨H, 1, none⟩ (.bool s.re)).setCell ⟨H, 2, none⟩ (.int .i64 s.c)).setCell ⟨H, 3, none⟩ (.int .i64 s.t)).setCell ⟨H, 4, none⟩ (.int .i64 s.c)).setCell ⟨H, 5, none⟩ (.bool false)).setCell ⟨H, 6, none⟩ (.slice none 0 0) := ⟨_, rfl⟩
  have hB : But H w2 Y := by rw [hY]; exact (((((((But.refl H w2).set 0 _).set 1 _).set 2 _).set 3 _).set 4 _).set 5 _).set 6 _
  have hH : Y.heap[H]? = some (.cells (newC s.re s.c s.t) 57 (0, 0)) := by
    rw [hY]
    exact set_at (set_at (set_at (set_at (set_at (set_at (set_at HKN.out.box))))))
  have hfin := bg_new hH HS.out
  have hg := (GrowS.of_below (S := Bl H la ea) hb2.out).trans (grow_but hB (S := Bl H la ea) (.inl rfl))
  have hgr : GrowS (Bl H la ea) (Bl H none none) w Y := ⟨hg.os, hg.tape, hg.output, hg.size, hg.block, fun k hk => .inl (hk.elim .inl (fun h => by rcases h with h | h <;> cases h))⟩
  rw [← hY]
  first | exact ⟨_, rfl, hfin, hgr⟩ | exact ⟨rfl, _, hfin, hgr⟩
/-! ### the contracts -/
def chunkOk : ChunkOk where
  Bg := BgAt
  own := bg_own
  bd := by
    rintro w H S s b ⟨la, ea, lc, ec, en, hk, hb, hen, hs, hok, rfl⟩
    exact ⟨hs, hok⟩
  new_yes := fun re c t w hs => (new17_yes ⟨re, c, t⟩ w hs).mono (by
    rintro e w' ⟨H, rfl, h1, h2, h3⟩
    refine ⟨H, Bl H none none, rfl, bg_new (s := ⟨re, c, t⟩) h1 hs, fun k hk => ?_, h3⟩
    rcases hk with rfl | h | h
    · exact h2
    · cases h
    · cases h)
  new_no := new17_no
  go := fun w H S s b now busy h0 h1 h => go_bg w H S s b now busy h0 h1 h
  use := fun w H S s b h => use_bg w H S s b h
  done_ := fun w H S s b h => done_bg w H S s b h
  stop := fun w H S s b h => stop_bg w H S s b h
  resume := fun w H S s b h => resume_bg w H S s b h
  reset := fun w H S s b h => reset_bg w H S s b h
  due := fun w H S s b h => due_bg w H S s b h
  free := fun w H S s b h => free_bg w H S s b h
  live := fun w H S s b h => live_bg w H S s b h
  backs := fun w H S s b h => backs_bg w H S s b h
end Go.Proofs.Ytoofkeeoolgpdaa
