/- The program's budget: New, Go, Use, Done, Stop, Resume, Reset, Due, Free, Live, Backs; chunkOk. -/
import Derived.Test.YtoofkeeoolgpdaaChunkF
import Derived.Test.YtoofkeeoolgpdaaBuild
namespace Go.Proofs.Ytoofkeeoolgpdaa
open Go.ChangeShapes Go.WideShapes Go.ChangeAt Go.RowKit
set_option linter.unusedVariables false

/-- A budget in memory, with its own blocks. -/
def BgAt (H : Nat) (s : Sv) (b : Bd) (w : World) (S : Nat → Prop) : Prop :=
  ∃ (la ea : Option Addr) (lc ec : Nat) (en : List Wn), CkB w H s b.free b.stop la lc b.live ea ec en ∧ b.backs = en.map (fun x => ⟨x.at_ + s.t, x.part⟩) ∧ (∀ x ∈ en, 0 ≤ x.at_ ∧ x.at_ ≤ 1099511627776 ∧ 0 < x.part) ∧ okSv s = true ∧ BdOk s.c s.t 1099511627776 b ∧ S = Bl H la ea
theorem bg_own (H : Nat) (s : Sv) (b : Bd) : OwnP (BgAt H s b) where
  keep := by
    rintro w w' S ⟨la, ea, lc, ec, en, h, h2, h3, h4, h5, rfl⟩ hs hz
    exact ⟨la, ea, lc, ec, en, h.hold hs, h2, h3, h4, h5, rfl⟩
  lt := by
    rintro w S ⟨la, ea, lc, ec, en, h, h2, h3, h4, h5, rfl⟩ k hk
    exact h.lt k hk
theorem okSv_bd {s : Sv} (h : okSv s = true) : 1 ≤ s.c ∧ s.c ≤ s.t ∧ s.t ≤ 1000 := by simpa [okSv] using h
/-- Numbers of a budget. -/
theorem bd_nums {s : Sv} {b : Bd} {en : List Wn} (h2 : b.backs = en.map (fun x => ⟨x.at_ + s.t, x.part⟩)) (h4 : okSv s = true) (h5 : BdOk s.c s.t 1099511627776 b) (h3 : ∀ x ∈ en, 0 ≤ x.at_ ∧ x.at_ ≤ 1099511627776 ∧ 0 < x.part) :
    (0 ≤ b.free ∧ b.free ≤ 1000) ∧ b.live.length ≤ 1000 ∧ en.length ≤ 1000 ∧ sumP en ≤ 1000 ∧ ∀ x ∈ b.live, (0 ≤ x.at_ ∧ x.at_ ≤ 1099511627776) ∧ (1 ≤ x.len ∧ x.len ≤ 1000) ∧ (0 ≤ x.part ∧ x.part ≤ 1000) := by
  have h := okSv_bd h4
  have hb := h5.bounds
  have ha := h5.all
  have hf := h5.f0
  have e1 : en.length = b.backs.length := by rw [h2]; simp
  have e2 : sumP en = sumB b.backs := by rw [h2]; simp [sumP, sumB, Function.comp_def]
  refine ⟨by omega, by omega, by omega, by omega, fun x hx => ?_⟩
  have hl := h5.lv x hx
  have g1 : x.len ≤ sumLeft b.live := by
    have : ∀ l : List Wn, (∀ y ∈ l, 1 ≤ y.len) → ∀ x ∈ l, x.len ≤ sumLeft l := by
      intro l
      induction l with
      | nil => intro _ x hx; cases hx
      | cons y l ih =>
        intro hy x hx
        have i1 := sumLeft_len l (fun z hz => hy z (List.mem_cons_of_mem _ hz))
        have i2 := hy y (List.mem_cons_self ..)
        rcases List.mem_cons.1 hx with rfl | hx
        · simp only [sumLeft, List.map_cons, List.sum_cons] at *; omega
        · have := ih (fun z hz => hy z (List.mem_cons_of_mem _ hz)) x hx
          simp only [sumLeft, List.map_cons, List.sum_cons] at *; omega
    exact this _ (fun y hy => (h5.lv y hy).2.2.1) x hx
  have g2 : x.part ≤ sumUsed b.live := by
    have : ∀ l : List Wn, (∀ y ∈ l, 0 ≤ y.part) → ∀ x ∈ l, x.part ≤ sumUsed l := by
      intro l
      induction l with
      | nil => intro _ x hx; cases hx
      | cons y l ih =>
        intro hy x hx
        have i1 := sumUsed_pos l (fun z hz => hy z (List.mem_cons_of_mem _ hz))
        have i2 := hy y (List.mem_cons_self ..)
        rcases List.mem_cons.1 hx with rfl | hx
        · simp only [sumUsed, List.map_cons, List.sum_cons] at *; omega
        · have := ih (fun z hz => hy z (List.mem_cons_of_mem _ hz)) x hx
          simp only [sumUsed, List.map_cons, List.sum_cons] at *; omega
    exact this _ (fun y hy => (h5.lv y hy).2.2.2) x hx
  exact ⟨⟨hl.1, hl.2.1⟩, ⟨hl.2.2.1, by omega⟩, ⟨hl.2.2.2, by omega⟩⟩
/-! ### Go -/
theorem come_same (t now : Int) : ∀ en : List Wn, comeN now (en.map (fun x => ⟨x.at_ + t, x.part⟩)) = comeW t now en
  | [] => rfl
  | x :: l => by
    have ih := come_same t now l
    unfold comeN comeW at ih ⊢
    rw [List.map_cons, List.filter_cons, List.filter_cons]
    by_cases h : x.at_ + t ≤ now
    · simp only [bkB, h, decide_true, if_true] at ih ⊢
      simp only [sumB, sumP, List.map_cons, List.sum_cons] at ih ⊢
      omega
    · simp only [bkB, h, decide_false] at ih ⊢
      simpa using ih
theorem stay_same (t now : Int) : ∀ en : List Wn, stayN now (en.map (fun x => ⟨x.at_ + t, x.part⟩)) = (stayW t now en).map (fun x => ⟨x.at_ + t, x.part⟩)
  | [] => rfl
  | x :: l => by
    have ih := stay_same t now l
    unfold stayN stayW at ih ⊢
    rw [List.map_cons, List.filter_cons, List.filter_cons]
    by_cases h : x.at_ + t ≤ now
    · simp only [bkB, h, decide_true, Bool.not_true] at ih ⊢
      simpa using ih
    · simp only [bkB, h, decide_false, Bool.not_false, if_true, List.map_cons] at ih ⊢
      rw [ih]
set_option maxRecDepth 100000 in
set_option maxHeartbeats 4000000 in
theorem go_bg (w : World) (H : Nat) (S : Nat → Prop) (s : Sv) (b : Bd) (now : Int) (busy : Bool) (h0 : 0 ≤ now) (h1 : now ≤ 1099511627776) (h : BgAt H s b w S) :
    Calls Try.prog 10 #[.pointer (some ⟨H, 0, none⟩), .int .i64 now, .bool busy] w fun e w' => ∃ S', e = .returned (.tuple #[]) ∧ BgAt H s (goB b now busy) w' S' ∧ GrowS S S' w w' := by
  obtain ⟨la, ea, lc, ec, en, hk, hb, hen, hs, hok, rfl⟩ := h
  have hsb := okSv_bd hs
  obtain ⟨n1, n2, n3, n4, n5⟩ := bd_nums hb hs hok hen
  have HM := Lib.hid (made_yes w H s.t hk.c3 (by omega))
  have HT := Lib.hid (takeBack_ck w H s b.free b.stop la ea lc ec b.live en hk n3 (by omega) now ⟨h0, h1⟩ (fun x hx => ⟨(hen x hx).1, (hen x hx).2.1⟩) (fun x hx => by have := (hen x hx).2.2; omega) n1 n4)
  have hc := comeW_bd s.t now en (fun x hx => by have := (hen x hx).2.2; omega)
  obtain ⟨fc, hfc⟩ : ∃ fc, fc = b.free + comeW s.t now en := ⟨_, rfl⟩
  rw [← hfc] at HT
  have hgo := hok.go h0 h1 busy
  have hcome : b.free + comeN now b.backs = fc := by rw [hb, come_same, hfc]
  have hstay : stayN now b.backs = (stayW s.t now en).map (fun x => ⟨x.at_ + s.t, x.part⟩) := by rw [hb, stay_same]
  have hfb : 0 ≤ fc := by omega
  have HG := Lib.hid hgo
  have HC := Lib.hid hcome
  have HST := Lib.hid hstay
  have HS := Lib.hid hs
  have HE : Hid (∀ x ∈ stayW s.t now en, 0 ≤ x.at_ ∧ x.at_ ≤ 1099511627776 ∧ 0 < x.part) := Lib.hid (fun x hx => hen x (List.mem_filter.1 hx).1)
  obtain ⟨stop, hstop⟩ : ∃ stop, stop = b.stop := ⟨_, rfl⟩
  rw [← hstop] at HT
  have HSTOP := Lib.hid hstop
  have HDEF : Hid (goB b now busy = if busy && !b.stop && decide (0 < b.free + comeN now b.backs) then ⟨0, b.live ++ [⟨now, b.free + comeN now b.backs, 0⟩], stayN now b.backs, b.stop⟩ else ⟨b.free + comeN now b.backs, b.live, stayN now b.backs, b.stop⟩) := Lib.hid rfl
  have HK := Lib.hid hk
  have HLV := Lib.hid n2
  clear n2 hk hb hen hok hs n3 n4 n5 hc hfc hgo hcome hstay hstop
  -- the end where no chunk is laid
  have hno : ∀ (w2 : World), CkB w2 H s fc stop la lc b.live ea ec (stayW s.t now en) → GrowS (Bl H la ea) (Bl H la ea) w w2 → (busy && !stop && decide (0 < fc)) = false → ∃ S', BgAt H s (goB b now busy) w2 S' ∧ GrowS (Bl H la ea) S' w w2 := by
    intro w2 h2 g2 hf
    have e := HDEF.out
    rw [HC.out, ← HSTOP.out, hf, if_neg (by simp)] at e
    refine ⟨Bl H la ea, ?_, g2⟩
    have hg := HG.out
    rw [e] at hg ⊢
    exact ⟨la, ea, lc, ec, stayW s.t now en, h2, HST.out, HE.out, HS.out, hg, rfl⟩
  have HNO := Lib.hid hno
  clear hno
  cases hbz : busy with
  | false =>
    subst hbz
    go_enter Try.func10, Try.ntmps10
    go_wp2_with (first
      | (go_at_call 29; refine HM.out.mono ?_; rintro e w1 ⟨rfl, hw1⟩; rw [hw1]; clear hw1)
      | (go_at_call 30; refine HT.out.mono ?_; rintro e w2 ⟨rfl, hk2, g2⟩; have HK2 := Lib.hid hk2; have HG2 := Lib.hid g2; have d4 := hk2.c4; have d5 := hk2.c5; clear hk2 g2)
      | fail "no arm")
    go_end0
    obtain ⟨S', q1, q2⟩ := HNO.out _ HK2.out HG2.out (by simp)
    first | exact ⟨S', rfl, q1, q2⟩ | exact ⟨rfl, S', q1, q2⟩
  | true =>
    subst hbz
    cases hst : stop with
    | true =>
      subst hst
      go_enter Try.func10, Try.ntmps10
      go_wp2_with (first
        | (go_at_call 29; refine HM.out.mono ?_; rintro e w1 ⟨rfl, hw1⟩; rw [hw1]; clear hw1)
        | (go_at_call 30; refine HT.out.mono ?_; rintro e w2 ⟨rfl, hk2, g2⟩; have HK2 := Lib.hid hk2; have HG2 := Lib.hid g2; have d4 := hk2.c4; have d5 := hk2.c5; clear hk2 g2)
        | fail "no arm")
      go_end0
      obtain ⟨S', q1, q2⟩ := HNO.out _ HK2.out HG2.out (by simp)
      first | exact ⟨S', rfl, q1, q2⟩ | exact ⟨rfl, S', q1, q2⟩
    | false =>
      subst hst
      by_cases hz : 0 < fc
      · have t0 : decide (0 < fc) = true := decide_eq_true hz
        go_enter Try.func10, Try.ntmps10
        go_upto_region 3 with (first
          | (go_at_call 29; refine HM.out.mono ?_; rintro e w1 ⟨rfl, hw1⟩; rw [hw1]; clear hw1)
          | (go_at_call 30; refine HT.out.mono ?_; rintro e w2 ⟨rfl, hk2, g2⟩; have HK2 := Lib.hid hk2; have HG2 := Lib.hid g2; have d4 := hk2.c4; have d5 := hk2.c5; clear hk2 g2)
          | fail "no arm")
        have hlv : b.live.length ≤ 1000 := HLV.out
        have HL0 := Lib.hid (lay_ck w2 H s fc false la ea lc ec b.live _ HK2.out hlv now fc)
        have HL1 := Lib.hid (lay_ck w2.drew H s fc false la ea lc ec b.live _ HK2.out.drew hlv now fc)
        clear hlv
        go_region_with (first
          | (go_at_call 31; refine HL1.out.mono ?_; rintro e w3 ⟨rfl, la', lc', hk3, g3⟩; have HK3 := Lib.hid hk3; have HG3 := Lib.hid ((GrowS.of_below (Below.refl _ _).drew).trans g3); have d4' := hk3.c4; have d4f := hk3.fz 4; clear hk3 g3)
          | (go_at_call 31; refine HL0.out.mono ?_; rintro e w3 ⟨rfl, la', lc', hk3, g3⟩; have HK3 := Lib.hid hk3; have HG3 := Lib.hid g3; have d4' := hk3.c4; have d4f := hk3.fz 4; clear hk3 g3)
          | fail "no arm")
        all_goals
          go_wp2_with fail
          go_end0
          have hB : But H w3 (w3.setCell ⟨H, 4, none⟩ (.int .i64 0)) := (But.refl H w3).set 4 _
          have e : goB b now true = ⟨0, b.live ++ [⟨now, fc, 0⟩], stayN now b.backs, b.stop⟩ := by
            have e0 := HDEF.out
            rw [HC.out, ← HSTOP.out, if_pos (by rw [t0]; rfl)] at e0
            rw [e0, HSTOP.out]
          have hg := HG.out
          rw [e] at hg ⊢
          have hk4 := HK3.out.boxed (f' := 0) (st' := false) (set_at HK3.out.box) (fun q hq hqn => hB.block q hq hqn)
          rw [HSTOP.out] at hk4
          have hfin : BgAt H s ⟨0, b.live ++ [⟨now, fc, 0⟩], stayN now b.backs, b.stop⟩ (w3.setCell ⟨H, 4, none⟩ (.int .i64 0)) (Bl H la' ea) := ⟨la', ea, lc', ec, stayW s.t now en, hk4, HST.out, HE.out, HS.out, hg, rfl⟩
          have hgr : GrowS (Bl H la ea) (Bl H la' ea) w (w3.setCell ⟨H, 4, none⟩ (.int .i64 0)) := HG2.out.trans (HG3.out.trans (grow_but hB (.inl rfl)))
          first | exact ⟨Bl H la' ea, rfl, hfin, hgr⟩ | exact ⟨rfl, Bl H la' ea, hfin, hgr⟩
      · have t0 : decide (0 < fc) = false := decide_eq_false hz
        go_enter Try.func10, Try.ntmps10
        go_wp2_with (first
          | (go_at_call 29; refine HM.out.mono ?_; rintro e w1 ⟨rfl, hw1⟩; rw [hw1]; clear hw1)
          | (go_at_call 30; refine HT.out.mono ?_; rintro e w2 ⟨rfl, hk2, g2⟩; have HK2 := Lib.hid hk2; have HG2 := Lib.hid g2; have d4 := hk2.c4; have d5 := hk2.c5; clear hk2 g2)
          | fail "no arm")
        go_end0
        obtain ⟨S', q1, q2⟩ := HNO.out _ HK2.out HG2.out (by rw [t0]; rfl)
        first | exact ⟨S', rfl, q1, q2⟩ | exact ⟨rfl, S', q1, q2⟩

/-! ### Use, Done -/
theorem Try.fieldChk0 (a b c : Int) (w : World) : (Instr.field 45 (.agg #[.int .i64 a, .int .i64 b, .int .i64 c]) 0).run Try.prog w = .ok (.int .i64 a) w := by kernel_rfl
theorem Try.fieldChk1 (a b c : Int) (w : World) : (Instr.field 45 (.agg #[.int .i64 a, .int .i64 b, .int .i64 c]) 1).run Try.prog w = .ok (.int .i64 b) w := by kernel_rfl
theorem endL_backs (t : Int) (x : Wn) (en : List Wn) : (endL x en).map (fun x => (⟨x.at_ + t, x.part⟩ : Bk)) = en.map (fun x => ⟨x.at_ + t, x.part⟩) ++ usedBacks t [x] := by
  unfold endL usedBacks
  by_cases h : 0 < x.part
  · rw [if_pos h]; simp [h]
  · rw [if_neg h]; simp [h]
theorem endL_mem {x y : Wn} {en : List Wn} (h : y ∈ endL x en) : y ∈ en ∨ (y = x ∧ 0 < x.part) := by
  unfold endL at h
  split at h
  · rcases List.mem_append.1 h with h | h
    · exact .inl h
    · exact .inr ⟨List.mem_singleton.1 h, by assumption⟩
  · exact .inl h
set_option maxRecDepth 100000 in
set_option maxHeartbeats 4000000 in
theorem use_bg (w : World) (H : Nat) (S : Nat → Prop) (s : Sv) (b : Bd) (h : BgAt H s b w S) :
    Calls Try.prog 12 #[.pointer (some ⟨H, 0, none⟩)] w fun e w' => ∃ S', e = .returned (.bool (useOk b)) ∧ BgAt H s (useB s.t b) w' S' ∧ GrowS S S' w w' := by
  obtain ⟨la, ea, lc, ec, en, hk, hb, hen, hs, hok, rfl⟩ := h
  have hsb := okSv_bd hs
  obtain ⟨n1, n2, n3, n4, n5⟩ := bd_nums hb hs hok hen
  have HM := Lib.hid (made_yes w H s.t hk.c3 (by omega))
  have hus := hok.use (by omega)
  obtain ⟨f, lv, bk, st⟩ := b
  dsimp only at hk hb n1 n2 n5
  have HZ := Lib.hid (none_any w H _ lc la hk.c0)
  cases lv with
  | nil =>
    have HK := Lib.hid hk
    have HA := Lib.hid (And.intro hb (And.intro hen (And.intro hs hok)))
    have hd : decide (([] : List Wn).length = 0) = true := rfl
    rw [hd] at HZ
    clear hk hb hen hs hok hus n1 n2 n3 n4 n5
    go_enter Try.func12, Try.ntmps12
    go_wp2_with (first
      | (go_at_call 29; refine HM.out.mono ?_; rintro e w1 ⟨rfl, hw1⟩; rw [hw1]; clear hw1)
      | (go_at_call 32; refine HZ.out.mono ?_; rintro e w2 ⟨rfl, hw1⟩; rw [hw1]; clear hw1)
      | fail "no arm")
    go_ret
    have hfin : BgAt H s (useB s.t ⟨f, [], bk, st⟩) w (Bl H la ea) := ⟨la, ea, lc, ec, en, HK.out, HA.out.1, HA.out.2.1, HA.out.2.2.1, HA.out.2.2.2, rfl⟩
    first | exact ⟨Bl H la ea, rfl, hfin, GrowS.of_below (Below.refl _ _)⟩ | exact ⟨rfl, Bl H la ea, hfin, GrowS.of_below (Below.refl _ _)⟩
  | cons x l =>
    obtain ⟨n5a, n5b, n5c⟩ := n5 x (List.mem_cons_self ..)
    have hd : decide ((x :: l).length = 0) = false := by simp
    rw [hd] at HZ
    have HU := Lib.hid (use_ck w H s f st la ea lc ec x l en hk (by omega) n5c)
    obtain ⟨x0, x1, x2⟩ := x
    dsimp only at n5a n5b n5c HU
    have HA := Lib.hid (And.intro hb (And.intro hen (And.intro hs hus)))
    by_cases hz : x1 - 1 = 0
    · have t0 : ((x1 - 1) == 0) = true := by simpa using hz
      have hE : useB s.t ⟨f, (⟨x0, x1, x2⟩ : Wn) :: l, bk, st⟩ = ⟨f, l, bk ++ [⟨x0 + s.t, x2 + 1⟩], st⟩ := by unfold useB; dsimp only; rw [if_pos hz]
      have HE := Lib.hid hE
      clear hk hb hen hs hok hus n2 n4 hE n5
      have hfd := Try.fieldChk1
      go_enter Try.func12, Try.ntmps12
      go_wp2_with (first
        | (go_at_call 29; refine HM.out.mono ?_; rintro e w1 ⟨rfl, hw1⟩; rw [hw1]; clear hw1)
        | (go_at_call 32; refine HZ.out.mono ?_; rintro e w2 ⟨rfl, hw1⟩; rw [hw1]; clear hw1)
        | (go_at_call 33; refine HU.out.mono ?_; rintro e w3 ⟨rfl, hk3, g3⟩; have HK3 := Lib.hid hk3; have HG3 := Lib.hid g3; clear hk3 g3)
        | (go_at_call 34; refine (first_ck w3 H s f st la ea lc ec _ l en HK3.out).mono ?_; rintro e w4 ⟨rfl, b4⟩; have HB4 := Lib.hid b4; clear b4)
        | (go_at_call 36; refine (take_ck w4 H s f st la ea lc ec _ l en (HK3.out.later HB4.out)).mono ?_; rintro e w5 ⟨rfl, la5, lc5, hk5, ho5, g5⟩; have HK5 := Lib.hid hk5; have HG5 := Lib.hid g5; clear hk5 g5)
        | (go_at_call 35; refine (end_ck w5 H s f st la5 ea lc5 ec l en HK5.out n3 ⟨x0, 0, x2 + 1⟩ n1 (by dsimp only; omega)).mono ?_; rintro e w6 ⟨rfl, ea6, ec6, hk6, g6⟩; have HK6 := Lib.hid hk6; have HG6 := Lib.hid g6; clear hk6 g6)
        | fail "no arm")
      go_ret
      obtain ⟨a1, a2, a3, a4⟩ := HA.out
      rw [HE.out] at a4 ⊢
      have hk6 := HK6.out
      rw [Int.add_zero] at hk6
      have hfin : BgAt H s ⟨f, l, bk ++ [⟨x0 + s.t, x2 + 1⟩], st⟩ w6 (Bl H la5 ea6) := by
        refine ⟨la5, ea6, lc5, ec6, _, hk6, ?_, ?_, a3, a4, rfl⟩
        · rw [endL_backs]
          show bk ++ _ = _
          rw [a1]
          have : 0 < x2 + 1 := by omega
          simp [usedBacks, this]
        · intro y hy
          rcases endL_mem hy with hy | ⟨rfl, hq⟩
          · exact a2 y hy
          · exact ⟨n5a.1, n5a.2, hq⟩
      have hgr : GrowS (Bl H la ea) (Bl H la5 ea6) w w6 := HG3.out.trans ((GrowS.of_below HB4.out).trans (HG5.out.trans HG6.out))
      first | exact ⟨_, rfl, hfin, hgr⟩ | exact ⟨rfl, _, hfin, hgr⟩
    · have t0 : ((x1 - 1) == 0) = false := by simpa using hz
      have hE : useB s.t ⟨f, (⟨x0, x1, x2⟩ : Wn) :: l, bk, st⟩ = ⟨f, ⟨x0, x1 - 1, x2 + 1⟩ :: l, bk, st⟩ := by unfold useB; dsimp only; rw [if_neg hz]
      have HE := Lib.hid hE
      clear hk hb hen hs hok hus n2 n4 hE n5
      have hfd := Try.fieldChk1
      go_enter Try.func12, Try.ntmps12
      go_wp2_with (first
        | (go_at_call 29; refine HM.out.mono ?_; rintro e w1 ⟨rfl, hw1⟩; rw [hw1]; clear hw1)
        | (go_at_call 32; refine HZ.out.mono ?_; rintro e w2 ⟨rfl, hw1⟩; rw [hw1]; clear hw1)
        | (go_at_call 33; refine HU.out.mono ?_; rintro e w3 ⟨rfl, hk3, g3⟩; have HK3 := Lib.hid hk3; have HG3 := Lib.hid g3; clear hk3 g3)
        | (go_at_call 34; refine (first_ck w3 H s f st la ea lc ec _ l en HK3.out).mono ?_; rintro e w4 ⟨rfl, b4⟩; have HB4 := Lib.hid b4; clear b4)
        | fail "no arm")
      go_ret
      obtain ⟨a1, a2, a3, a4⟩ := HA.out
      rw [HE.out] at a4 ⊢
      have hfin : BgAt H s ⟨f, ⟨x0, x1 - 1, x2 + 1⟩ :: l, bk, st⟩ w4 (Bl H la ea) := ⟨la, ea, lc, ec, en, HK3.out.later HB4.out, a1, a2, a3, a4, rfl⟩
      have hgr : GrowS (Bl H la ea) (Bl H la ea) w w4 := HG3.out.trans (GrowS.of_below HB4.out)
      first | exact ⟨_, rfl, hfin, hgr⟩ | exact ⟨rfl, _, hfin, hgr⟩
end Go.Proofs.Ytoofkeeoolgpdaa
