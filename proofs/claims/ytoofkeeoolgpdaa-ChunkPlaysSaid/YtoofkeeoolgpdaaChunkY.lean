/- The program's budget: Done, Stop, Resume, Free, Due, New, Reset. -/
import Derived.Test.YtoofkeeoolgpdaaChunkG
import Derived.Test.YtoofkeeoolgpdaaRights
namespace Go.Proofs.Ytoofkeeoolgpdaa
open Go.ChangeShapes Go.WideShapes Go.ChangeAt Go.RowKit
set_option linter.unusedVariables false

/-- How many chunks are live, as memory tells. -/
def liveC (H : Nat) (w : World) : Nat := match w.cell? ⟨H, 0, none⟩ with
  | some (.slice _ n _) => n
  | _ => 0
/-- Done halfway: l are still live. -/
def doneP (T : Int) (b : Bd) (k : Nat) : Bd := ⟨b.free + sumLeft (b.live.take k), b.live.drop k, b.backs ++ usedBacks T (b.live.take k), b.stop⟩
theorem doneP_zero (T : Int) (b : Bd) : doneP T b 0 = b := by
  obtain ⟨f, l, k, s⟩ := b
  simp [doneP, sumLeft, usedBacks]
theorem doneP_all (T : Int) (b : Bd) {k : Nat} (h : b.live.length ≤ k) : doneP T b k = doneB T b := by
  simp only [doneP, doneB, List.take_of_length_le h, List.drop_eq_nil_of_le h]
theorem usedBacks_append (T : Int) (l m : List Wn) : usedBacks T (l ++ m) = usedBacks T l ++ usedBacks T m := by simp [usedBacks]
theorem doneP_succ (T : Int) (b : Bd) {k : Nat} {x : Wn} {l : List Wn} (h : b.live.drop k = x :: l) : doneP T b (k + 1) = ⟨(doneP T b k).free + x.len, l, (doneP T b k).backs ++ usedBacks T [x], b.stop⟩ := by
  have hx : b.live[k]? = some x := by
    have : (b.live.drop k)[0]? = some x := by rw [h]; rfl
    simpa using this
  have e1 : b.live.take (k + 1) = b.live.take k ++ [x] := by rw [List.take_add_one, hx]; rfl
  have e2 : b.live.drop (k + 1) = l := by rw [← List.drop_drop, h]; rfl
  simp only [doneP, e1, e2, sumLeft_append, usedBacks_append, List.append_assoc]
  congr 1
  simp [sumLeft]; omega
theorem doneP_ok {C T M : Int} {b : Bd} (h : BdOk C T M b) (hT : 0 ≤ T) (k : Nat) : BdOk C T M (doneP T b k) := by
  have hb := h.bounds
  have ha := h.all
  have hf := h.f0
  have e : b.live = b.live.take k ++ b.live.drop k := (List.take_append_drop k b.live).symm
  have e1 : sumLeft b.live = sumLeft (b.live.take k) + sumLeft (b.live.drop k) := by rw [← sumLeft_append, List.take_append_drop]
  have e2 : sumUsed b.live = sumUsed (b.live.take k) + sumUsed (b.live.drop k) := by rw [← sumUsed_append, List.take_append_drop]
  have e3 := sumLeft_len (b.live.take k) (fun x hx => (h.lv x (List.mem_of_mem_take hx)).2.2.1)
  refine ⟨by show 0 ≤ b.free + sumLeft (b.live.take k); omega, fun x hx => h.lv x (List.mem_of_mem_drop hx), fun y hy => ?_, ?_⟩
  · rcases List.mem_append.1 hy with hy | hy
    · exact h.bk y hy
    · obtain ⟨x, hx, h1, h2, h3⟩ := usedBacks_mem hy
      have := h.lv x (List.mem_of_mem_take hx)
      omega
  · show b.free + sumLeft (b.live.take k) + sumLeft (b.live.drop k) + sumUsed (b.live.drop k) + sumB (b.backs ++ usedBacks T (b.live.take k)) = C
    rw [sumB_append, usedBacks_sum T (b.live.take k) (fun x hx => (h.lv x (List.mem_of_mem_take hx)).2.2.2)]
    omega
/-- One chunk ends. -/
theorem bg_ended {w' : World} {H : Nat} {s : Sv} {b : Bd} {x : Wn} {l en : List Wn} {la ea : Option Addr} {lc ec : Nat} (h : CkB w' H s (b.free + x.len) b.stop la lc l ea ec (endL x en)) (h2 : b.backs = en.map (fun x => ⟨x.at_ + s.t, x.part⟩)) (h3 : ∀ x ∈ en, 0 ≤ x.at_ ∧ x.at_ ≤ 1099511627776 ∧ 0 < x.part) (hx : 0 ≤ x.at_ ∧ x.at_ ≤ 1099511627776) (h4 : okSv s = true) (h5 : BdOk s.c s.t 1099511627776 ⟨b.free + x.len, l, b.backs ++ usedBacks s.t [x], b.stop⟩) :
    BgAt H s ⟨b.free + x.len, l, b.backs ++ usedBacks s.t [x], b.stop⟩ w' (Bl H la ea) := by
  refine ⟨la, ea, lc, ec, _, h, ?_, ?_, h4, h5, rfl⟩
  · rw [endL_backs]
    show b.backs ++ _ = _
    rw [h2]
  · intro y hy
    rcases endL_mem hy with hy | ⟨rfl, hq⟩
    · exact h3 y hy
    · exact ⟨hx.1, hx.2, hq⟩
set_option maxRecDepth 100000 in
set_option maxHeartbeats 4000000 in
theorem done_bg (w : World) (H : Nat) (S : Nat → Prop) (s : Sv) (b : Bd) (h : BgAt H s b w S) :
    Calls Try.prog 14 #[.pointer (some ⟨H, 0, none⟩)] w fun e w' => ∃ S', e = .returned (.tuple #[]) ∧ BgAt H s (doneB s.t b) w' S' ∧ GrowS S S' w w' := by
  have hok : BdOk s.c s.t 1099511627776 b := by obtain ⟨la, ea, lc, ec, en, hk, hb, hen, hs, hok, rfl⟩ := h; exact hok
  have hs : okSv s = true := by obtain ⟨la, ea, lc, ec, en, hk, hb, hen, hs, hok, rfl⟩ := h; exact hs
  have HM : Hid (Calls Try.prog 29 #[.pointer (some ⟨H, 0, none⟩)] w fun e w' => e = .returned (.bool true) ∧ w' = w) := Lib.hid (by
    obtain ⟨la, ea, lc, ec, en, hk, _⟩ := h
    exact made_yes w H s.t hk.c3 (okSv_bd hs |>.1 |> fun _ => by have := okSv_bd hs; omega))
  have HOK : Hid (∀ k, BdOk s.c s.t 1099511627776 (doneP s.t b k)) := Lib.hid (fun k => doneP_ok hok (by have := okSv_bd hs; omega) k)
  have HS := Lib.hid hs
  have H0 : Hid (BgAt H s (doneP s.t b 0) w S) := Lib.hid (by rw [doneP_zero]; exact h)
  obtain ⟨n, hn⟩ : ∃ n, n = b.live.length := ⟨_, rfl⟩
  have HN := Lib.hid hn
  clear h hok hs hn
  go_enter Try.func14, Try.ntmps14
  go_wp2_with (first
    | (go_at_call 29; refine HM.out.mono ?_; rintro e w1 ⟨rfl, hw1⟩; rw [hw1]; clear hw1)
    | fail "no arm")
  go_loopw [9] (fun _ wr => ∃ (k : Nat) (S' : Nat → Prop), k ≤ n ∧ Hid (BgAt H s (doneP s.t b k) wr S') ∧ Hid (GrowS S S' w wr)) (fun _ wr => liveC H wr)
  case atStart => exact ⟨0, S, by omega, H0, Lib.hid (GrowS.of_below (Below.refl _ _))⟩
  case round =>
    obtain ⟨k, S', hk, HB, HG⟩ := hrel
    obtain ⟨la, ea, lc, ec, en, hkk, hb, hen, hs, hok, rfl⟩ := HB.out
    obtain ⟨n1, n2, n3, n4, n5⟩ := bd_nums hb hs hok hen
    have HZ := Lib.hid (none_any wr H _ lc la hkk.c0)
    have hL : liveC H wr = (doneP s.t b k).live.length := by unfold liveC; rw [hkk.c0]
    have hlk : (doneP s.t b k).live = b.live.drop k := rfl
    by_cases hlt : k < n
    · obtain ⟨x, l, hxl⟩ : ∃ x l, b.live.drop k = x :: l := by
        cases hd : b.live.drop k with
        | nil => have := congrArg List.length hd; rw [List.length_drop, ← HN.out] at this; simp at this; omega
        | cons x l => exact ⟨x, l, rfl⟩
      have hsu := doneP_succ s.t b hxl
      rw [hlk, hxl] at HZ hkk hL n5
      have hd : decide ((x :: l).length = 0) = false := by simp
      rw [hd] at HZ
      obtain ⟨m1, m2, m3⟩ := n5 x (List.mem_cons_self ..)
      have HT := Lib.hid (take_ck wr H s _ _ la ea lc ec x l en hkk)
      have HA := Lib.hid (And.intro hb (And.intro hen (And.intro hs (And.intro hsu hL))))
      clear hb hen hs hok hsu hL hkk n2 n4 n5 hlk hxl
      go_wp2_with (first
        | (go_at_call 32; refine HZ.out.mono ?_; rintro e w2 ⟨rfl, hw1⟩; rw [hw1]; clear hw1)
        | (go_at_call 36; refine HT.out.mono ?_; rintro e w5 ⟨rfl, la5, lc5, hk5, ho5, g5⟩; have HK5 := Lib.hid hk5; have HG5 := Lib.hid g5; clear hk5 g5)
        | (go_at_call 35; refine (end_ck w5 H s _ _ la5 ea lc5 ec l en HK5.out n3 x n1 (by omega)).mono ?_; rintro e w6 ⟨rfl, ea6, ec6, hk6, g6⟩; have HK6 := Lib.hid hk6; have HG6 := Lib.hid g6; clear hk6 g6)
        | fail "no arm")
      go_roundw
      case rel =>
        obtain ⟨a1, a2, a3, a4, a5⟩ := HA.out
        have hok' := HOK.out (k + 1)
        rw [a4] at hok'
        refine ⟨k + 1, Bl H la5 ea6, by omega, Lib.hid ?_, Lib.hid (HG.out.trans (HG5.out.trans HG6.out))⟩
        rw [a4]
        exact bg_ended HK6.out a1 a2 m1 a3 hok'
      case measure =>
        obtain ⟨a1, a2, a3, a4, a5⟩ := HA.out
        rw [a5]
        unfold liveC
        rw [HK6.out.c0]
        simp
    · have hd0 : b.live.drop k = [] := List.drop_eq_nil_of_le (by rw [← HN.out]; omega)
      rw [hlk, hd0] at HZ
      have hd : decide (([] : List Wn).length = 0) = true := rfl
      rw [hd] at HZ
      have HE : Hid (doneP s.t b k = doneB s.t b) := Lib.hid (doneP_all s.t b (by rw [← HN.out]; omega))
      clear hb hen hs hok hkk n1 n2 n3 n4 n5 hL hlk hd0
      go_wp2_with (first
        | (go_at_call 32; refine HZ.out.mono ?_; rintro e w2 ⟨rfl, hw1⟩; rw [hw1]; clear hw1)
        | fail "no arm")
      go_end0
      have hfin := HB.out
      rw [HE.out] at hfin
      first | exact ⟨_, rfl, hfin, HG.out⟩ | exact ⟨rfl, _, hfin, HG.out⟩
set_option maxRecDepth 100000 in
set_option maxHeartbeats 4000000 in
theorem stop_bg (w : World) (H : Nat) (S : Nat → Prop) (s : Sv) (b : Bd) (h : BgAt H s b w S) :
    Calls Try.prog 16 #[.pointer (some ⟨H, 0, none⟩)] w fun e w' => ∃ S', e = .returned (.tuple #[]) ∧ BgAt H s (stopB (doneB s.t b) true) w' S' ∧ GrowS S S' w w' := by
  have HM : Hid (Calls Try.prog 29 #[.pointer (some ⟨H, 0, none⟩)] w fun e w' => e = .returned (.bool true) ∧ w' = w) := Lib.hid (by
    obtain ⟨la, ea, lc, ec, en, hk, _, _, hs, _⟩ := h
    exact made_yes w H s.t hk.c3 (by have := okSv_bd hs; omega))
  have HD := Lib.hid (done_bg w H S s b h)
  clear h
  go_enter Try.func16, Try.ntmps16
  go_wp2_with (first
    | (go_at_call 29; refine HM.out.mono ?_; rintro e w1 ⟨rfl, hw1⟩; rw [hw1]; clear hw1)
    | (go_at_call 14; refine HD.out.mono ?_; rintro e w2 ⟨S2, rfl, hk2, g2⟩; obtain ⟨la, ea, lc, ec, en, hk, hb, hen, hs, hok, rfl⟩ := hk2; have HA := Lib.hid (And.intro hk (And.intro hb (And.intro hen (And.intro hs hok)))); have HG2 := Lib.hid g2; have d5 := hk.c5; have f5 := hk.fz 5; clear hk hb hen hs hok g2)
    | fail "no arm")
  go_end0
  obtain ⟨a1, a2, a3, a4, a5⟩ := HA.out
  have hB : But H w2 (w2.setCell ⟨H, 5, none⟩ (.bool true)) := (But.refl H w2).set 5 _
  have hfin : BgAt H s (stopB (doneB s.t b) true) (w2.setCell ⟨H, 5, none⟩ (.bool true)) (Bl H la ea) := ⟨la, ea, lc, ec, en, a1.boxed (set_at a1.box) (fun q hq hqn => hB.block q hq hqn), a2, a3, a4, a5.stopped true, rfl⟩
  have hgr := HG2.out.trans (grow_but hB (S := Bl H la ea) (.inl rfl))
  first | exact ⟨_, rfl, hfin, hgr⟩ | exact ⟨rfl, _, hfin, hgr⟩
set_option maxRecDepth 100000 in
set_option maxHeartbeats 4000000 in
theorem resume_bg (w : World) (H : Nat) (S : Nat → Prop) (s : Sv) (b : Bd) (h : BgAt H s b w S) :
    Calls Try.prog 17 #[.pointer (some ⟨H, 0, none⟩)] w fun e w' => ∃ S', e = .returned (.tuple #[]) ∧ BgAt H s (stopB b false) w' S' ∧ GrowS S S' w w' := by
  obtain ⟨la, ea, lc, ec, en, hk, hb, hen, hs, hok, rfl⟩ := h
  have HM := Lib.hid (made_yes w H s.t hk.c3 (by have := okSv_bd hs; omega))
  have HA := Lib.hid (And.intro hk (And.intro hb (And.intro hen (And.intro hs hok))))
  have d5 := hk.c5
  have f5 := hk.fz 5
  clear hk hb hen hs hok
  go_enter Try.func17, Try.ntmps17
  go_wp2_with (first
    | (go_at_call 29; refine HM.out.mono ?_; rintro e w1 ⟨rfl, hw1⟩; rw [hw1]; clear hw1)
    | fail "no arm")
  go_end0
  obtain ⟨a1, a2, a3, a4, a5⟩ := HA.out
  have hB : But H w (w.setCell ⟨H, 5, none⟩ (.bool false)) := (But.refl H w).set 5 _
  have hfin : BgAt H s (stopB b false) (w.setCell ⟨H, 5, none⟩ (.bool false)) (Bl H la ea) := ⟨la, ea, lc, ec, en, a1.boxed (set_at a1.box) (fun q hq hqn => hB.block q hq hqn), a2, a3, a4, a5.stopped false, rfl⟩
  have hgr := grow_but hB (S := Bl H la ea) (.inl rfl)
  first | exact ⟨_, rfl, hfin, hgr⟩ | exact ⟨rfl, _, hfin, hgr⟩
set_option maxRecDepth 100000 in
set_option maxHeartbeats 4000000 in
theorem free_bg (w : World) (H : Nat) (S : Nat → Prop) (s : Sv) (b : Bd) (h : BgAt H s b w S) :
    Calls Try.prog 22 #[.pointer (some ⟨H, 0, none⟩)] w fun e w' => e = .returned (.int .i64 b.free) ∧ Below w.heap.size w w' := by
  obtain ⟨la, ea, lc, ec, en, hk, hb, hen, hs, hok, rfl⟩ := h
  have HM := Lib.hid (made_yes w H s.t hk.c3 (by have := okSv_bd hs; omega))
  have d4 := hk.c4
  clear hk hb hen hs hok
  go_enter Try.func22, Try.ntmps22
  go_wp2_with (first
    | (go_at_call 29; refine HM.out.mono ?_; rintro e w1 ⟨rfl, hw1⟩; rw [hw1]; clear hw1)
    | fail "no arm")
  go_ret
  exact ⟨rfl, Below.refl _ _⟩
set_option maxRecDepth 100000 in
set_option maxHeartbeats 4000000 in
theorem due_bg (w : World) (H : Nat) (S : Nat → Prop) (s : Sv) (b : Bd) (h : BgAt H s b w S) :
    Calls Try.prog 26 #[.pointer (some ⟨H, 0, none⟩)] w fun e w' => e = .returned (.tuple #[.int .i64 (dueV s.t b), .bool (useOk b)]) ∧ Below w.heap.size w w' := by
  obtain ⟨la, ea, lc, ec, en, hk, hb, hen, hs, hok, rfl⟩ := h
  have hsb := okSv_bd hs
  obtain ⟨n1, n2, n3, n4, n5⟩ := bd_nums hb hs hok hen
  have HM := Lib.hid (made_yes w H s.t hk.c3 (by omega))
  obtain ⟨f, lv, bk, st⟩ := b
  dsimp only at hk n5
  have HZ := Lib.hid (none_any w H _ lc la hk.c0)
  have hfd := Try.fieldChk0
  cases lv with
  | nil =>
    have hd : decide (([] : List Wn).length = 0) = true := rfl
    rw [hd] at HZ
    clear hk hb hen hs hok n1 n2 n3 n4 n5
    go_enter Try.func26, Try.ntmps26
    go_wp2_with (first
      | (go_at_call 29; refine HM.out.mono ?_; rintro e w1 ⟨rfl, hw1⟩; rw [hw1]; clear hw1)
      | (go_at_call 32; refine HZ.out.mono ?_; rintro e w2 ⟨rfl, hw1⟩; rw [hw1]; clear hw1)
      | fail "no arm")
    go_ret2
    exact ⟨rfl, Below.refl _ _⟩
  | cons x l =>
    obtain ⟨m1, m2, m3⟩ := n5 x (List.mem_cons_self ..)
    have hd : decide ((x :: l).length = 0) = false := by simp
    rw [hd] at HZ
    have HF := Lib.hid (first_ck w H s f st la ea lc ec x l en hk)
    have HK := Lib.hid hk
    clear hk hb hen hs hok n1 n2 n3 n4 n5
    go_enter Try.func26, Try.ntmps26
    go_wp2_with (first
      | (go_at_call 29; refine HM.out.mono ?_; rintro e w1 ⟨rfl, hw1⟩; rw [hw1]; clear hw1)
      | (go_at_call 32; refine HZ.out.mono ?_; rintro e w2 ⟨rfl, hw1⟩; rw [hw1]; clear hw1)
      | (go_at_call 34; refine HF.out.mono ?_; rintro e w3 ⟨rfl, hb3'⟩; have hb3 := Lib.hid hb3'; clear hb3')
      | (go_at_call 38; refine (due_any w3 H s.t x.at_ (HK.out.later hb3.out).c3 (by omega) m1).mono ?_; rintro e w4 ⟨rfl, hw1⟩; rw [hw1]; clear hw1)
      | fail "no arm")
    go_ret2
    exact ⟨rfl, hb3.out⟩
end Go.Proofs.Ytoofkeeoolgpdaa
