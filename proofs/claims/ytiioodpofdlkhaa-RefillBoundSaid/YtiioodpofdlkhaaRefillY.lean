/- The program's refilled budget: the contracts. -/
import Derived.Test.YtiioodpofdlkhaaRefillG
import Derived.Test.YtiioodpofdlkhaaBuild
import Derived.Test.YtiioodpofdlkhaaRights
import Derived.Test.YtiioodpofdlkhaaLawEighteenD
import Derived.OwnWalk
namespace Go.Proofs.Ytiioodpofdlkhaa
open Go.ChangeShapes Go.WideShapes Go.ChangeAt Go.RowKit
set_option linter.unusedVariables false

theorem rgo_all (w : World) (H : Nat) (s : Sv) (st last f : Int) (sp : Bool) (la : Option Addr) (lc : Nat) (lv : List Bk) (h : RfB w H s st last f sp la lc lv) (now : Int) (busy : Bool) (h0 : 0 ≤ st) (h1 : st ≤ last) (h2 : last ≤ now) (h3 : now ≤ 4611687117939015680) (hs : (1 ≤ s.c ∧ s.c ≤ s.t) ∧ 1 ≤ s.t ∧ s.t ≤ 1000) (hf : 0 ≤ f ∧ f ≤ 1000) (hl : lv.length ≤ 1000) (hq : 0 ≤ sumB lv ∧ sumB lv ≤ 1000) (hp : ∀ x ∈ lv, 1 ≤ x.n) :
    Calls Try.prog 9 #[.pointer (some ⟨H, 0, none⟩), .int .i64 now, .bool busy] w fun e w2 => e = .returned (.tuple #[]) ∧ ∃ la2 lc2, RfB w2 H s st now (rGo s.c s.t st ⟨last, f, lv, sp⟩ now busy).free sp la2 lc2 (rGo s.c s.t st ⟨last, f, lv, sp⟩ now busy).live ∧ GrowS (Rfl H la) (Rfl H la2) w w2 := by
  rw [rGo_eq]
  cases hb : decide (perOf s.t st last < perOf s.t st now) with
  | false =>
    have ef : fillV s.c s.t st ⟨last, f, lv, sp⟩ now = f := by unfold fillV; rw [if_neg (of_decide_eq_false hb)]
    rw [ef]
    cases busy with
    | false => exact rgo_old_idle w H s st last f sp la lc lv h now h0 h1 h2 h3 hs hf hl hq hp hb
    | true =>
      cases sp with
      | true => exact rgo_old_stop w H s st last f la lc lv h now h0 h1 h2 h3 hs hf hl hq hp hb
      | false =>
        by_cases hz : 0 < f
        · rw [if_pos (by simpa using hz)]; exact rgo_old_lay w H s st last f la lc lv h now h0 h1 h2 h3 hs hf hl hq hp hb hz
        · rw [if_neg (by simpa using hz)]; exact rgo_old_full w H s st last f la lc lv h now h0 h1 h2 h3 hs hf hl hq hp hb hz
  | true =>
    have ef : fillV s.c s.t st ⟨last, f, lv, sp⟩ now = s.c - sumB lv := by unfold fillV; rw [if_pos (of_decide_eq_true hb)]
    rw [ef]
    cases busy with
    | false => exact rgo_new_idle w H s st last f sp la lc lv h now h0 h1 h2 h3 hs hf hl hq hp hb
    | true =>
      cases sp with
      | true => exact rgo_new_stop w H s st last f la lc lv h now h0 h1 h2 h3 hs hf hl hq hp hb
      | false =>
        by_cases hz : 0 < s.c - sumB lv
        · rw [if_pos (by simpa using hz)]; exact rgo_new_lay w H s st last f la lc lv h now h0 h1 h2 h3 hs hf hl hq hp hb hz
        · rw [if_neg (by simpa using hz)]; exact rgo_new_full w H s st last f la lc lv h now h0 h1 h2 h3 hs hf hl hq hp hb hz
theorem rGo_more (C T st : Int) (b : Rd) (now : Int) (busy : Bool) : (rGo C T st b now busy).now = now ∧ (rGo C T st b now busy).stop = b.stop ∧ ∀ x ∈ (rGo C T st b now busy).live, x ∈ b.live ∨ x.at_ = now := by
  rw [rGo_eq]
  split
  · refine ⟨rfl, rfl, fun x hx => ?_⟩
    rcases List.mem_append.1 hx with h | h
    · exact .inl h
    · rw [List.mem_singleton.1 h]; exact .inr rfl
  · exact ⟨rfl, rfl, fun x hx => .inl hx⟩
theorem rgo_rf (w : World) (H : Nat) (S : Nat → Prop) (s : Sv) (st : Int) (b : Rd) (now : Int) (busy : Bool) (h2 : b.now ≤ now) (h3 : now ≤ 4611687117939015680) (h : RfAt H s st b w S) :
    Calls Try.prog 9 #[.pointer (some ⟨H, 0, none⟩), .int .i64 now, .bool busy] w fun e w' => ∃ S', e = .returned (.tuple #[]) ∧ RfAt H s st (rGo s.c s.t st b now busy) w' S' ∧ GrowS S S' w w' := by
  obtain ⟨la, lc, hk, hs, hok, hst, hlv, rfl⟩ := h
  have nb := newOk_bd hs
  obtain ⟨n1, n2, n3, n4, n5⟩ := rd_nums hs hok
  have hgo := hok.go (T := s.t) (start := st) h2 h3 busy
  obtain ⟨m1, m2, m3⟩ := rGo_more s.c s.t st b now busy
  refine (rgo_all w H s st b.now b.free b.stop la lc b.live hk now busy nb.2.2.2.1 hst h2 h3 ⟨⟨nb.1, nb.2.1⟩, by omega, nb.2.2.1⟩ n1 n2 n3 n4).mono ?_
  rintro e w2 ⟨rfl, la2, lc2, k2, g2⟩
  refine ⟨Rfl H la2, rfl, ⟨la2, lc2, ?_, hs, hgo, by rw [m1]; omega, fun x hx => ?_, rfl⟩, g2⟩
  · rw [m1, m2]; exact k2
  · rcases m3 x hx with h | h
    · exact hlv x h
    · rw [h]; omega
theorem Try.fieldRck0 (a b : Int) (w : World) : (Instr.field 36 (.agg #[.int .i64 a, .int .i64 b]) 0).run Try.prog w = .ok (.int .i64 a) w := by kernel_rfl
theorem rUse_cons (nw f : Int) (x : Bk) (l : List Bk) (sp : Bool) : rUse ⟨nw, f, x :: l, sp⟩ = ⟨nw, f, if x.n - 1 = 0 then l else ⟨x.at_, x.n - 1⟩ :: l, sp⟩ := by unfold rUse; dsimp only; split <;> rfl
set_option maxRecDepth 100000 in
set_option maxHeartbeats 4000000 in
theorem ruse_rf (w : World) (H : Nat) (S : Nat → Prop) (s : Sv) (st : Int) (b : Rd) (h : RfAt H s st b w S) :
    Calls Try.prog 10 #[.pointer (some ⟨H, 0, none⟩)] w fun e w' => ∃ S', e = .returned (.bool (rUseOk b)) ∧ RfAt H s st (rUse b) w' S' ∧ GrowS S S' w w' := by
  obtain ⟨la, lc, hk, hs, hok, hst, hlv, rfl⟩ := h
  have nb := newOk_bd hs
  obtain ⟨n1, n2, n3, n4, n5⟩ := rd_nums hs hok
  have HM := Lib.hid (rmade_yes w H s.t hk.c3 (by omega))
  have hus := hok.use
  obtain ⟨nw, f, lv, sp⟩ := b
  dsimp only at hk hst hlv n5
  have HZ := Lib.hid (rnone_any w H _ lc la hk.c0)
  cases lv with
  | nil =>
    have hfin : RfAt H s st ⟨nw, f, [], sp⟩ w (Rfl H la) := ⟨la, lc, hk, hs, hok, hst, hlv, rfl⟩
    have hd : decide (([] : List Bk).length = 0) = true := rfl
    rw [hd] at HZ
    clear hk hs hok hus hlv n1 n2 n3 n4 n5 nb
    go_enter Try.func10, Try.ntmps10
    go_wp2_with (first
      | (go_at_call 19; refine HM.out.mono ?_; rintro e w1 ⟨rfl, hw1⟩; rw [hw1]; clear hw1)
      | (go_at_call 23; refine HZ.out.mono ?_; rintro e w2 ⟨rfl, hw1⟩; rw [hw1]; clear hw1)
      | fail "no arm")
    go_ret
    exact ⟨Rfl H la, rfl, hfin, GrowS.of_below (Below.refl _ _)⟩
  | cons x l =>
    have HU := Lib.hid (ruse_ck w H s st nw f sp la lc x l hk (n5 x (List.mem_cons_self ..)).2)
    have hd : decide ((x :: l).length = 0) = false := by simp
    rw [hd] at HZ
    rw [rUse_cons] at hus ⊢
    obtain ⟨ls, hls⟩ : ∃ ls, ls = if x.n - 1 = 0 then l else ⟨x.at_, x.n - 1⟩ :: l := ⟨_, rfl⟩
    rw [← hls] at hus HU ⊢
    have hsub : ∀ y ∈ ls, st ≤ y.at_ := by
      intro y hy
      rw [hls] at hy
      split at hy
      · exact hlv y (List.mem_cons_of_mem _ hy)
      · rcases List.mem_cons.1 hy with rfl | hy
        · exact hlv x (List.mem_cons_self ..)
        · exact hlv y (List.mem_cons_of_mem _ hy)
    have HA := Lib.hid (And.intro hs (And.intro hus (And.intro hst hsub)))
    clear hk hs hok hus hlv n1 n2 n3 n4 n5 nb hst hls hsub
    go_enter Try.func10, Try.ntmps10
    go_wp2_with (first
      | (go_at_call 19; refine HM.out.mono ?_; rintro e w1 ⟨rfl, hw1⟩; rw [hw1]; clear hw1)
      | (go_at_call 23; refine HZ.out.mono ?_; rintro e w2 ⟨rfl, hw1⟩; rw [hw1]; clear hw1)
      | (go_at_call 24; refine HU.out.mono ?_; rintro e w3 ⟨rfl, la3, lc3, hk3, g3⟩; have HK3 := Lib.hid hk3; have HG3 := Lib.hid g3; clear hk3 g3)
      | fail "no arm")
    go_ret
    obtain ⟨a1, a2, a3, a4⟩ := HA.out
    have hfin : RfAt H s st ⟨nw, f, ls, sp⟩ w3 (Rfl H la3) := ⟨la3, lc3, HK3.out, a1, a2, a3, a4, rfl⟩
    first | exact ⟨Rfl H la3, rfl, hfin, HG3.out⟩ | exact ⟨rfl, Rfl H la3, hfin, HG3.out⟩
theorem rnil_grow {H : Nat} {la : Option Addr} {w w2 : World} (h : GrowS (Rfl H la) (Rfl H la) w w2) : GrowS (Rfl H la) (Rfl H none) w w2 := ⟨h.os, h.tape, h.output, h.size, h.block, fun k hk => .inl (hk.elim .inl (fun h => by cases h))⟩
set_option maxRecDepth 100000 in
set_option maxHeartbeats 4000000 in
theorem rdone_rf (w : World) (H : Nat) (S : Nat → Prop) (s : Sv) (st : Int) (b : Rd) (h : RfAt H s st b w S) :
    Calls Try.prog 11 #[.pointer (some ⟨H, 0, none⟩)] w fun e w' => ∃ S', e = .returned (.tuple #[]) ∧ RfAt H s st (rDone b) w' S' ∧ GrowS S S' w w' := by
  obtain ⟨la, lc, hk, hs, hok, hst, hlv, rfl⟩ := h
  have nb := newOk_bd hs
  obtain ⟨n1, n2, n3, n4, n5⟩ := rd_nums hs hok
  have HM := Lib.hid (rmade_yes w H s.t hk.c3 (by omega))
  have HD := Lib.hid hok.done
  obtain ⟨nw, f, lv, sp⟩ := b
  dsimp only at hk hst hlv n1 n2 n3 n4
  have HP := Lib.hid n4
  have HK := Lib.hid hk
  have HS := Lib.hid (And.intro hs hst)
  have d6 := hk.c6
  have d0 := hk.c0
  have f0 := hk.fz 0
  have f6 := hk.fz 6
  obtain ⟨q, hq0⟩ : ∃ q, q = sumB lv := ⟨_, rfl⟩
  have HQ := Lib.hid hq0
  rw [← hq0] at n3
  have e1 : IntKind.i64.wrap (f + q) = f + q := IntWalk.i64_in _ (by omega)
  clear hk hs hok hlv n4 n5 hst hq0
  go_enter Try.func11, Try.ntmps11
  go_upto_region 1 with (first
    | (go_at_call 19; refine HM.out.mono ?_; rintro e w1 ⟨rfl, hw1⟩; rw [hw1]; clear hw1)
    | fail "no arm")
  go_region_with (first
    | (go_at_call 21; refine (left_ck w.drew H s st nw f sp la lc lv HK.out.drew HP.out (by rw [← HQ.out]; omega)).mono ?_; rw [← HQ.out]; rintro e w3 ⟨rfl, hb3⟩; have HK3 := Lib.hid (HK.out.drew.later hb3); have HB3 : Hid (Below w.heap.size w w3) := Lib.hid (((Below.refl _ _).drew).trans (hb3.mono (by simp))); clear hb3; have e6 := HK3.out.c6; have e0 := HK3.out.c0; have g0 := HK3.out.fz 0; have g6 := HK3.out.fz 6)
    | (go_at_call 21; refine (left_ck w H s st nw f sp la lc lv HK.out HP.out (by rw [← HQ.out]; omega)).mono ?_; rw [← HQ.out]; rintro e w3 ⟨rfl, hb3⟩; have HK3 := Lib.hid (HK.out.later hb3); have HB3 : Hid (Below w.heap.size w w3) := Lib.hid (hb3); clear hb3; have e6 := HK3.out.c6; have e0 := HK3.out.c0; have g0 := HK3.out.fz 0; have g6 := HK3.out.fz 6)
    | fail "no arm")
  all_goals
    go_wp2_with fail
    go_end0
    obtain ⟨U, hU⟩ : ∃ U, U = (w3.setCell ⟨H, 6, none⟩ (.int .i64 (f + q))).setCell ⟨H, 0, none⟩ (.slice none 0 0) := ⟨_, rfl⟩
    rw [← hU]
    have hBU : But H w3 U := by rw [hU]; exact ((But.refl H w3).set 6 _).set 0 _
    have hbox : U.heap[H]? = some (.cells #[.slice none 0 0, .bool s.re, .int .i64 s.c, .int .i64 s.t, .int .i64 st, .int .i64 nw, .int .i64 (f + sumB lv), .bool sp] 46 (0, 0)) := by rw [hU, ← HQ.out]; exact set_at (set_at HK3.out.box)
    have hgr := rnil_grow ((GrowS.of_below (S := Rfl H la) HB3.out).trans (grow_but hBU (.inl rfl)))
    exact ⟨Rfl H none, rfl, ⟨none, 0, ⟨hbox, ORow.nil _ _ _⟩, HS.out.1, HD.out, HS.out.2, (fun x hx => by cases hx), rfl⟩, hgr⟩
set_option maxRecDepth 100000 in
set_option maxHeartbeats 4000000 in
theorem rstop_rf (w : World) (H : Nat) (S : Nat → Prop) (s : Sv) (st : Int) (b : Rd) (h : RfAt H s st b w S) :
    Calls Try.prog 12 #[.pointer (some ⟨H, 0, none⟩)] w fun e w' => ∃ S', e = .returned (.tuple #[]) ∧ RfAt H s st (rStop (rDone b) true) w' S' ∧ GrowS S S' w w' := by
  have HM : Hid (Calls Try.prog 19 #[.pointer (some ⟨H, 0, none⟩)] w fun e w' => e = .returned (.bool true) ∧ w' = w) := Lib.hid (by
    obtain ⟨la, lc, hk, hs, _⟩ := h
    exact rmade_yes w H s.t hk.c3 (by have := newOk_bd hs; omega))
  have HD := Lib.hid (rdone_rf w H S s st b h)
  clear h
  go_enter Try.func12, Try.ntmps12
  go_wp2_with (first
    | (go_at_call 19; refine HM.out.mono ?_; rintro e w1 ⟨rfl, hw1⟩; rw [hw1]; clear hw1)
    | (go_at_call 11; refine HD.out.mono ?_; rintro e w2 ⟨S2, rfl, hk2, g2⟩; obtain ⟨la, lc, hk, hs, hok, hst, hlv, rfl⟩ := hk2; have HA := Lib.hid (And.intro hk (And.intro hs (And.intro hok (And.intro hst hlv)))); have HG2 := Lib.hid g2; have d7 := hk.c7; have f7 := hk.fz 7; clear hk hs hok hst hlv g2)
    | fail "no arm")
  go_end0
  obtain ⟨a1, a2, a3, a4, a5⟩ := HA.out
  have hB : But H w2 (w2.setCell ⟨H, 7, none⟩ (.bool true)) := (But.refl H w2).set 7 _
  exact ⟨Rfl H la, rfl, ⟨la, lc, a1.boxed (set_at a1.box) (fun q hq hqn => hB.block q hq hqn), a2, a3.stopped true, a4, a5, rfl⟩, HG2.out.trans (grow_but hB (S := Rfl H la) (.inl rfl))⟩
set_option maxRecDepth 100000 in
set_option maxHeartbeats 4000000 in
theorem rresume_rf (w : World) (H : Nat) (S : Nat → Prop) (s : Sv) (st : Int) (b : Rd) (h : RfAt H s st b w S) :
    Calls Try.prog 13 #[.pointer (some ⟨H, 0, none⟩)] w fun e w' => ∃ S', e = .returned (.tuple #[]) ∧ RfAt H s st (rStop b false) w' S' ∧ GrowS S S' w w' := by
  obtain ⟨la, lc, hk, hs, hok, hst, hlv, rfl⟩ := h
  have nb := newOk_bd hs
  have HM := Lib.hid (rmade_yes w H s.t hk.c3 (by omega))
  have HA := Lib.hid (And.intro hk (And.intro hs (And.intro hok (And.intro hst hlv))))
  have d7 := hk.c7
  have f7 := hk.fz 7
  clear hk hs hok hst hlv
  go_enter Try.func13, Try.ntmps13
  go_wp2_with (first
    | (go_at_call 19; refine HM.out.mono ?_; rintro e w1 ⟨rfl, hw1⟩; rw [hw1]; clear hw1)
    | fail "no arm")
  go_end0
  obtain ⟨a1, a2, a3, a4, a5⟩ := HA.out
  have hB : But H w (w.setCell ⟨H, 7, none⟩ (.bool false)) := (But.refl H w).set 7 _
  exact ⟨Rfl H la, rfl, ⟨la, lc, a1.boxed (set_at a1.box) (fun q hq hqn => hB.block q hq hqn), a2, a3.stopped false, a4, a5, rfl⟩, grow_but hB (S := Rfl H la) (.inl rfl)⟩
set_option maxRecDepth 100000 in
set_option maxHeartbeats 4000000 in
theorem rreset_rf (w : World) (H : Nat) (S : Nat → Prop) (s : Sv) (st : Int) (b : Rd) (h : RfAt H s st b w S) :
    Calls Try.prog 16 #[.pointer (some ⟨H, 0, none⟩)] w fun e w' => ∃ S', e = .returned (.tuple #[]) ∧ RfAt H s st (rReset s.c b) w' S' ∧ GrowS S S' w w' := by
  obtain ⟨la, lc, hk, hs, hok, hst, hlv, rfl⟩ := h
  have nb := newOk_bd hs
  have HM := Lib.hid (rmade_yes w H s.t hk.c3 (by omega))
  have HA := Lib.hid (And.intro hk (And.intro hs (And.intro hok (And.intro hst hlv))))
  have d0 := hk.c0
  have d2 := hk.c2
  have d6 := hk.c6
  have d7 := hk.c7
  have f0 := hk.fz 0
  have f6 := hk.fz 6
  have f7 := hk.fz 7
  clear hk hs hok hst hlv
  go_enter Try.func16, Try.ntmps16
  go_wp2_with (first
    | (go_at_call 19; refine HM.out.mono ?_; rintro e w1 ⟨rfl, hw1⟩; rw [hw1]; clear hw1)
    | fail "no arm")
  go_end0
  obtain ⟨a1, a2, a3, a4, a5⟩ := HA.out
  obtain ⟨U, hU⟩ : ∃ U, U = ((w.setCell ⟨H, 0, none⟩ (.slice none 0 0)).setCell ⟨H, 6, none⟩ (.int .i64 s.c)).setCell ⟨H, 7, none⟩ (.bool false) := ⟨_, rfl⟩
  rw [← hU]
  have hB : But H w U := by rw [hU]; exact (((But.refl H w).set 0 _).set 6 _).set 7 _
  have hbox : U.heap[H]? = some (.cells #[.slice none 0 0, .bool s.re, .int .i64 s.c, .int .i64 s.t, .int .i64 st, .int .i64 b.now, .int .i64 s.c, .bool false] 46 (0, 0)) := by rw [hU]; exact set_at (set_at (set_at a1.box))
  exact ⟨Rfl H none, rfl, ⟨none, 0, ⟨hbox, ORow.nil _ _ _⟩, a2, a3.reset (by omega), a4, (fun x hx => by cases hx), rfl⟩, rnil_grow (grow_but hB (.inl rfl))⟩
set_option maxRecDepth 100000 in
set_option maxHeartbeats 4000000 in
theorem rfree_rf (w : World) (H : Nat) (S : Nat → Prop) (s : Sv) (st : Int) (b : Rd) (h : RfAt H s st b w S) :
    Calls Try.prog 14 #[.pointer (some ⟨H, 0, none⟩)] w fun e w' => e = .returned (.int .i64 b.free) ∧ Below w.heap.size w w' := by
  obtain ⟨la, lc, hk, hs, hok, hst, hlv, rfl⟩ := h
  have nb := newOk_bd hs
  have HM := Lib.hid (rmade_yes w H s.t hk.c3 (by omega))
  have HA := Lib.hid (And.intro hk (And.intro hs (And.intro hok (And.intro hst hlv))))
  have d6 := hk.c6
  clear hk hs hok hst hlv
  go_enter Try.func14, Try.ntmps14
  go_wp2_with (first
    | (go_at_call 19; refine HM.out.mono ?_; rintro e w1 ⟨rfl, hw1⟩; rw [hw1]; clear hw1)
    | fail "no arm")
  go_ret
  exact ⟨rfl, Below.refl _ _⟩
set_option maxRecDepth 100000 in
set_option maxHeartbeats 4000000 in
theorem rdue_rf (w : World) (H : Nat) (S : Nat → Prop) (s : Sv) (st : Int) (b : Rd) (h : RfAt H s st b w S) :
    Calls Try.prog 17 #[.pointer (some ⟨H, 0, none⟩)] w fun e w' => e = .returned (.tuple #[.int .i64 (rDue s.t b), .bool (rUseOk b)]) ∧ Below w.heap.size w w' := by
  obtain ⟨la, lc, hk, hs, hok, hst, hlv, rfl⟩ := h
  have nb := newOk_bd hs
  obtain ⟨n1, n2, n3, n4, n5⟩ := rd_nums hs hok
  have HM := Lib.hid (rmade_yes w H s.t hk.c3 (by omega))
  obtain ⟨nw, f, lv, sp⟩ := b
  dsimp only at hk n5
  have HZ := Lib.hid (rnone_any w H _ lc la hk.c0)
  have hfd := Try.fieldRck0
  cases lv with
  | nil =>
    have hd : decide (([] : List Bk).length = 0) = true := rfl
    rw [hd] at HZ
    clear hk hs hok hst hlv n1 n2 n3 n4 n5
    go_enter Try.func17, Try.ntmps17
    go_wp2_with (first
      | (go_at_call 19; refine HM.out.mono ?_; rintro e w1 ⟨rfl, hw1⟩; rw [hw1]; clear hw1)
      | (go_at_call 23; refine HZ.out.mono ?_; rintro e w2 ⟨rfl, hw1⟩; rw [hw1]; clear hw1)
      | fail "no arm")
    go_ret2
    exact ⟨rfl, Below.refl _ _⟩
  | cons x l =>
    obtain ⟨m1, m2⟩ := n5 x (List.mem_cons_self ..)
    have hd : decide ((x :: l).length = 0) = false := by simp
    rw [hd] at HZ
    have HF := Lib.hid (rfirst_ck w H s st nw f sp la lc x l hk)
    have HK := Lib.hid hk
    clear hk hs hok hst hlv n1 n2 n3 n4 n5
    go_enter Try.func17, Try.ntmps17
    go_wp2_with (first
      | (go_at_call 19; refine HM.out.mono ?_; rintro e w1 ⟨rfl, hw1⟩; rw [hw1]; clear hw1)
      | (go_at_call 23; refine HZ.out.mono ?_; rintro e w2 ⟨rfl, hw1⟩; rw [hw1]; clear hw1)
      | (go_at_call 28; refine HF.out.mono ?_; rintro e w3 ⟨rfl, hb3'⟩; have hb3 := Lib.hid hb3'; clear hb3')
      | (go_at_call 27; refine (rdue_any w3 H s.t x.at_ (HK.out.later hb3.out).c3 (by omega) m1).mono ?_; rintro e w4 ⟨rfl, hw1⟩; rw [hw1]; clear hw1)
      | fail "no arm")
    go_ret2
    exact ⟨rfl, hb3.out⟩
set_option maxRecDepth 100000 in
set_option maxHeartbeats 4000000 in
theorem rlive_rf (w : World) (H : Nat) (S : Nat → Prop) (s : Sv) (st : Int) (b : Rd) (h : RfAt H s st b w S) :
    Calls Try.prog 8 #[.pointer (some ⟨H, 0, none⟩)] w fun e w' => ∃ ao cap, e = .returned (.slice ao b.live.length cap) ∧ Lies w' w.heap.size w'.heap.size (.slice ao b.live.length cap) b.live.length 2 (b.live.flatMap Bk.cells) ∧ Below w.heap.size w w' := by
  obtain ⟨la, lc, hk, hs, hok, hst, hlv, rfl⟩ := h
  have nb := newOk_bd hs
  obtain ⟨n1, n2, n3, n4, n5⟩ := rd_nums hs hok
  have HM := Lib.hid (rmade_yes w H s.t hk.c3 (by omega))
  obtain ⟨i0, hi, hz0, hz1, hz2⟩ := info_parts Try.infoRck
  have HI := Lib.hid hi
  obtain ⟨n, hn⟩ : ∃ n, n = b.live.length := ⟨_, rfl⟩
  obtain ⟨xs, hxs⟩ : ∃ xs, xs = b.live.flatMap Bk.cells := ⟨_, rfl⟩
  have b0 := hk.c0
  have hl := hk.l.lies (lo := 0) (hi := w.heap.size) (fun g hg => ⟨Nat.zero_le _, hk.l.lt g hg⟩)
  rw [← hn] at b0 n2 hl ⊢
  rw [← hxs] at hl ⊢
  have h1 : ∀ u ∈ xs, u.oneCell' = true := by rw [hxs]; exact flat_one Bk.cells bk_one _
  have HL := Lib.hid hl
  have H1 := Lib.hid h1
  clear hk hs hok hst hlv n1 n3 n4 n5 hi hl h1 hxs hn
  go_enter Try.func8, Try.ntmps8
  go_wp2_with (first
    | (go_at_call 19; refine HM.out.mono ?_; rintro e w1 ⟨rfl, hw1⟩; rw [hw1]; clear hw1)
    | (refine wpList_append_lie2 (by rfl) (.const (.slice none 0 0)) (.tmp 10) 30 (by rfl) w.heap.size 36 i0 _ 2 16 Try.underlying30 HI.out hz0 hz1 hz2 rfl (by omega) (.slice none 0 0) 0 [] (by rfl) (World.ownsRow_nil _ _ _ _) (.slice la n lc) 0 w.heap.size n xs (by rfl) HL.out H1.out n (by omega) (by simp only [maxLen]; omega) (by omega) (Nat.le_refl _) ?_
       intro ao cap w6 hown6' hgrow6' hob6'
       have hown6 := Lib.hid hown6'
       have hb6 : Hid (Below w.heap.size w w6) := Lib.hid ((Below.refl _ _).grown hgrow6' (Nat.le_refl _) (fun q hq => by cases hq))
       clear hown6' hgrow6' hob6')
    | fail "no arm")
  go_ret
  refine ⟨ao, cap, rfl, ?_, hb6.out⟩
  have := Lies.of_owns hown6.out
  simpa using this
/-- The cells of a new budget. -/
def newR (re : Bool) (c t st : Int) : Array Value := #[.slice none 0 0, .bool re, .int .i64 c, .int .i64 t, .int .i64 st, .int .i64 st, .int .i64 c, .bool false]
set_option maxRecDepth 100000 in
theorem built_rbud (re : Bool) (c t st : Int) : Try.prog.built 46 [(1, .agg #[.bool re, .int .i64 c, .int .i64 t]), (2, .int .i64 st), (3, .int .i64 st), (4, .int .i64 c)] = some (newR re c t st) := by kernel_rfl
theorem newOk_parts {re : Bool} {c t st : Int} (h : newOk re c t st = true) : okSv ⟨re, c, t⟩ = true ∧ 0 ≤ st ∧ st ≤ 4611686018427387904 := by
  simp only [newOk, Bool.and_eq_true, decide_eq_true_eq] at h
  exact h
set_option maxRecDepth 100000 in
set_option maxHeartbeats 4000000 in
theorem rnew_yes (re : Bool) (c t st : Int) (w : World) (hs : okSv ⟨re, c, t⟩ = true) (h0 : 0 ≤ st) (h1 : st ≤ 4611686018427387904) : Calls Try.prog 6 #[.agg #[.bool re, .int .i64 c, .int .i64 t], .int .i64 st] w fun e w' => ∃ H, e = .returned (.pointer (some ⟨H, 0, none⟩)) ∧ w'.heap[H]? = some (.cells (newR re c t st) 46 (0, 0)) ∧ w.heap.size ≤ H ∧ Below w.heap.size w w' := by
  have HB := Lib.hid (built_rbud re c t st)
  have HS := Lib.hid hs
  have t0 : decide (st < 0) = false := decide_eq_false (by omega)
  have t1 : decide (4611686018427387904 < st) = false := decide_eq_false (by omega)
  clear hs
  obtain ⟨V, hV⟩ : ∃ V, V = w.alloc (.cells #[.bool re, .int .i64 c, .int .i64 t] 27) := ⟨_, rfl⟩
  obtain ⟨E, hE⟩ : ∃ E, E = w.heap.size := ⟨_, rfl⟩
  have hbV : Below w.heap.size w V := by rw [hV]; exact below1 _ _
  have hEV : V.heap[E]? = some (.cells #[.bool re, .int .i64 c, .int .i64 t] 27 (0, 0)) := by rw [hV, hE]; exact heap_alloc_new _ _
  have k0 : V.cell? ⟨E, 0, none⟩ = some (.bool re) := cell_in hEV rfl
  have k1 : V.cell? ⟨E, 1, none⟩ = some (.int .i64 c) := cell_in hEV rfl
  have k2 : V.cell? ⟨E, 2, none⟩ = some (.int .i64 t) := cell_in hEV rfl
  have KS : Hid (∀ W, Below V.heap.size V W → W.cell? ⟨E, 0, none⟩ = some (.bool re) ∧ W.cell? ⟨E, 1, none⟩ = some (.int .i64 c) ∧ W.cell? ⟨E, 2, none⟩ = some (.int .i64 t)) := Lib.hid (fun W hW => ⟨(hW.cell (p := ⟨E, 0, none⟩) (lt_of_block hEV)).trans k0, (hW.cell (p := ⟨E, 1, none⟩) (lt_of_block hEV)).trans k1, (hW.cell (p := ⟨E, 2, none⟩) (lt_of_block hEV)).trans k2⟩)
  have HV := Lib.hid hV
  have HE := Lib.hid hE
  have HBV := Lib.hid hbV
  clear hV hE hbV hEV
  go_enter Try.func6, Try.ntmps6
  go_upto_region 1 with fail
  rw [← HV.out, ← HE.out]
  go_wp2_with (first
    | (go_at_call 18; refine (serverRight_any re c t V).mono ?_; rintro e w2 ⟨rfl, hb2'⟩; rw [HS.out]; obtain ⟨y0, y1, y2⟩ := KS.out _ hb2'; have hb2 := Lib.hid hb2'; clear hb2')
    | (refine wpList_build3 (by rfl) 46 _ (by rfl) [(1, .agg #[.bool re, .int .i64 c, .int .i64 t]), (2, .int .i64 st), (3, .int .i64 st), (4, .int .i64 c)] (by rfl) _ HB.out ?_)
    | fail "no arm")
  go_ret
  have h2 := HBV.out.trans (hb2.out.mono HBV.out.size)
  exact ⟨w2.heap.size, rfl, heap_alloc_new _ _, h2.size, b_alloc h2 (Nat.le_refl _) _⟩
set_option maxRecDepth 100000 in
set_option maxHeartbeats 4000000 in
theorem rnew_no1 (re : Bool) (c t st : Int) (w : World) (hs : okSv ⟨re, c, t⟩ = false) : Calls Try.prog 6 #[.agg #[.bool re, .int .i64 c, .int .i64 t], .int .i64 st] w fun e w' => e = .returned (.pointer none) ∧ Below w.heap.size w w' := by
  have HS := Lib.hid hs
  clear hs
  obtain ⟨V, hV⟩ : ∃ V, V = w.alloc (.cells #[.bool re, .int .i64 c, .int .i64 t] 27) := ⟨_, rfl⟩
  obtain ⟨E, hE⟩ : ∃ E, E = w.heap.size := ⟨_, rfl⟩
  have hbV : Below w.heap.size w V := by rw [hV]; exact below1 _ _
  have hEV : V.heap[E]? = some (.cells #[.bool re, .int .i64 c, .int .i64 t] 27 (0, 0)) := by rw [hV, hE]; exact heap_alloc_new _ _
  have k0 : V.cell? ⟨E, 0, none⟩ = some (.bool re) := cell_in hEV rfl
  have k1 : V.cell? ⟨E, 1, none⟩ = some (.int .i64 c) := cell_in hEV rfl
  have k2 : V.cell? ⟨E, 2, none⟩ = some (.int .i64 t) := cell_in hEV rfl
  have KS : Hid (∀ W, Below V.heap.size V W → W.cell? ⟨E, 0, none⟩ = some (.bool re) ∧ W.cell? ⟨E, 1, none⟩ = some (.int .i64 c) ∧ W.cell? ⟨E, 2, none⟩ = some (.int .i64 t)) := Lib.hid (fun W hW => ⟨(hW.cell (p := ⟨E, 0, none⟩) (lt_of_block hEV)).trans k0, (hW.cell (p := ⟨E, 1, none⟩) (lt_of_block hEV)).trans k1, (hW.cell (p := ⟨E, 2, none⟩) (lt_of_block hEV)).trans k2⟩)
  have HV := Lib.hid hV
  have HE := Lib.hid hE
  have HBV := Lib.hid hbV
  clear hV hE hbV hEV
  go_enter Try.func6, Try.ntmps6
  go_upto_region 1 with fail
  rw [← HV.out, ← HE.out]
  go_wp2_with (first
    | (go_at_call 18; refine (serverRight_any re c t V).mono ?_; rintro e w2 ⟨rfl, hb2'⟩; rw [HS.out]; obtain ⟨y0, y1, y2⟩ := KS.out _ hb2'; have hb2 := Lib.hid hb2'; clear hb2')
    | fail "no arm")
  go_ret
  have h2 := HBV.out.trans (hb2.out.mono HBV.out.size)
  exact ⟨rfl, h2⟩
set_option maxRecDepth 100000 in
set_option maxHeartbeats 4000000 in
theorem rnew_no2 (re : Bool) (c t st : Int) (w : World) (hs : okSv ⟨re, c, t⟩ = true) (h0 : st < 0) : Calls Try.prog 6 #[.agg #[.bool re, .int .i64 c, .int .i64 t], .int .i64 st] w fun e w' => e = .returned (.pointer none) ∧ Below w.heap.size w w' := by
  have HS := Lib.hid hs
  have t0 : decide (st < 0) = true := decide_eq_true h0
  clear hs
  obtain ⟨V, hV⟩ : ∃ V, V = w.alloc (.cells #[.bool re, .int .i64 c, .int .i64 t] 27) := ⟨_, rfl⟩
  obtain ⟨E, hE⟩ : ∃ E, E = w.heap.size := ⟨_, rfl⟩
  have hbV : Below w.heap.size w V := by rw [hV]; exact below1 _ _
  have hEV : V.heap[E]? = some (.cells #[.bool re, .int .i64 c, .int .i64 t] 27 (0, 0)) := by rw [hV, hE]; exact heap_alloc_new _ _
  have k0 : V.cell? ⟨E, 0, none⟩ = some (.bool re) := cell_in hEV rfl
  have k1 : V.cell? ⟨E, 1, none⟩ = some (.int .i64 c) := cell_in hEV rfl
  have k2 : V.cell? ⟨E, 2, none⟩ = some (.int .i64 t) := cell_in hEV rfl
  have KS : Hid (∀ W, Below V.heap.size V W → W.cell? ⟨E, 0, none⟩ = some (.bool re) ∧ W.cell? ⟨E, 1, none⟩ = some (.int .i64 c) ∧ W.cell? ⟨E, 2, none⟩ = some (.int .i64 t)) := Lib.hid (fun W hW => ⟨(hW.cell (p := ⟨E, 0, none⟩) (lt_of_block hEV)).trans k0, (hW.cell (p := ⟨E, 1, none⟩) (lt_of_block hEV)).trans k1, (hW.cell (p := ⟨E, 2, none⟩) (lt_of_block hEV)).trans k2⟩)
  have HV := Lib.hid hV
  have HE := Lib.hid hE
  have HBV := Lib.hid hbV
  clear hV hE hbV hEV
  go_enter Try.func6, Try.ntmps6
  go_upto_region 1 with fail
  rw [← HV.out, ← HE.out]
  go_wp2_with (first
    | (go_at_call 18; refine (serverRight_any re c t V).mono ?_; rintro e w2 ⟨rfl, hb2'⟩; rw [HS.out]; obtain ⟨y0, y1, y2⟩ := KS.out _ hb2'; have hb2 := Lib.hid hb2'; clear hb2')
    | fail "no arm")
  go_ret
  have h2 := HBV.out.trans (hb2.out.mono HBV.out.size)
  exact ⟨rfl, h2⟩
set_option maxRecDepth 100000 in
set_option maxHeartbeats 4000000 in
theorem rnew_no3 (re : Bool) (c t st : Int) (w : World) (hs : okSv ⟨re, c, t⟩ = true) (h0 : 0 ≤ st) (h1 : 4611686018427387904 < st) : Calls Try.prog 6 #[.agg #[.bool re, .int .i64 c, .int .i64 t], .int .i64 st] w fun e w' => e = .returned (.pointer none) ∧ Below w.heap.size w w' := by
  have HS := Lib.hid hs
  have t0 : decide (st < 0) = false := decide_eq_false (by omega)
  have t1 : decide (4611686018427387904 < st) = true := decide_eq_true h1
  clear hs
  obtain ⟨V, hV⟩ : ∃ V, V = w.alloc (.cells #[.bool re, .int .i64 c, .int .i64 t] 27) := ⟨_, rfl⟩
  obtain ⟨E, hE⟩ : ∃ E, E = w.heap.size := ⟨_, rfl⟩
  have hbV : Below w.heap.size w V := by rw [hV]; exact below1 _ _
  have hEV : V.heap[E]? = some (.cells #[.bool re, .int .i64 c, .int .i64 t] 27 (0, 0)) := by rw [hV, hE]; exact heap_alloc_new _ _
  have k0 : V.cell? ⟨E, 0, none⟩ = some (.bool re) := cell_in hEV rfl
  have k1 : V.cell? ⟨E, 1, none⟩ = some (.int .i64 c) := cell_in hEV rfl
  have k2 : V.cell? ⟨E, 2, none⟩ = some (.int .i64 t) := cell_in hEV rfl
  have KS : Hid (∀ W, Below V.heap.size V W → W.cell? ⟨E, 0, none⟩ = some (.bool re) ∧ W.cell? ⟨E, 1, none⟩ = some (.int .i64 c) ∧ W.cell? ⟨E, 2, none⟩ = some (.int .i64 t)) := Lib.hid (fun W hW => ⟨(hW.cell (p := ⟨E, 0, none⟩) (lt_of_block hEV)).trans k0, (hW.cell (p := ⟨E, 1, none⟩) (lt_of_block hEV)).trans k1, (hW.cell (p := ⟨E, 2, none⟩) (lt_of_block hEV)).trans k2⟩)
  have HV := Lib.hid hV
  have HE := Lib.hid hE
  have HBV := Lib.hid hbV
  clear hV hE hbV hEV
  go_enter Try.func6, Try.ntmps6
  go_upto_region 1 with fail
  rw [← HV.out, ← HE.out]
  go_wp2_with (first
    | (go_at_call 18; refine (serverRight_any re c t V).mono ?_; rintro e w2 ⟨rfl, hb2'⟩; rw [HS.out]; obtain ⟨y0, y1, y2⟩ := KS.out _ hb2'; have hb2 := Lib.hid hb2'; clear hb2')
    | fail "no arm")
  go_ret
  have h2 := HBV.out.trans (hb2.out.mono HBV.out.size)
  exact ⟨rfl, h2⟩
/-! ### the contracts -/
def refillOk : RefillOk where
  Rg := RfAt
  own := rf_own
  bd := by
    rintro w H S s st b ⟨la, lc, hk, hs, hok, hst, hlv, rfl⟩
    exact ⟨hs, hok, hst, hlv⟩
  new_yes := fun re c t st w hs => (rnew_yes re c t st w (newOk_parts hs).1 (newOk_parts hs).2.1 (newOk_parts hs).2.2).mono (by
    rintro e w' ⟨H, rfl, h1, h2, h3⟩
    have nb := newOk_bd (s := ⟨re, c, t⟩) hs
    refine ⟨H, Rfl H none, rfl, ⟨none, 0, ⟨h1, ORow.nil _ _ _⟩, hs, RdOk.begin_ (by show 0 ≤ c; have := nb.1; simp only at this; omega) (by omega) (by omega), Int.le_refl _, (fun x hx => by cases hx), rfl⟩, fun k hk => ?_, h3⟩
    rcases hk with rfl | h
    · exact h2
    · cases h)
  new_no := fun re c t st w hs => by
    cases h1 : okSv ⟨re, c, t⟩ with
    | false => exact rnew_no1 re c t st w h1
    | true =>
      by_cases h2 : st < 0
      · exact rnew_no2 re c t st w h1 h2
      · exact rnew_no3 re c t st w h1 (by omega) (by
          simp only [newOk, h1, Bool.true_and, Bool.and_eq_false_iff, decide_eq_false_iff_not] at hs
          omega)
  go := fun w H S s st b now busy h0 h1 h => rgo_rf w H S s st b now busy h0 h1 h
  use := fun w H S s st b h => ruse_rf w H S s st b h
  done_ := fun w H S s st b h => rdone_rf w H S s st b h
  stop := fun w H S s st b h => rstop_rf w H S s st b h
  resume := fun w H S s st b h => rresume_rf w H S s st b h
  reset := fun w H S s st b h => rreset_rf w H S s st b h
  due := fun w H S s st b h => rdue_rf w H S s st b h
  free := fun w H S s st b h => rfree_rf w H S s st b h
  live := fun w H S s st b h => rlive_rf w H S s st b h
/-! ### nobody's -/
/-- Nobody's, or one that nobody made. -/
def NoRf (w : World) (p : Option Addr) : Prop := p = none ∨ ∃ H, p = some ⟨H, 0, none⟩ ∧ w.cell? ⟨H, 3, none⟩ = some (.int .i64 0)
theorem rmade_no {w : World} {p : Option Addr} (h : NoRf w p) : Calls Try.prog 19 #[.pointer p] w fun e w' => e = .returned (.bool false) ∧ w' = w := by
  rcases h with rfl | ⟨H, rfl, h⟩
  · exact rmade_nil w
  · exact rmade_zero w H h
set_option maxRecDepth 100000 in
set_option maxHeartbeats 4000000 in
theorem rgo_no (w : World) (p : Option Addr) (now : Int) (busy : Bool) (h : NoRf w p) : Calls Try.prog 9 #[.pointer p, .int .i64 now, .bool busy] w fun e w' => e = .returned (.tuple #[]) ∧ Below w.heap.size w w' := by
  have HM := Lib.hid (rmade_no h)
  clear h
  go_enter Try.func9, Try.ntmps9
  go_wp2_with (first
    | (go_at_call 19; refine HM.out.mono ?_; rintro e w1 ⟨rfl, hw1⟩; rw [hw1]; clear hw1)
    | fail "no arm")
  (first | go_end0 | refine bodyPost_ret (results_none rfl _ _ _) rfl ?_)
  exact ⟨rfl, Below.refl _ _⟩
set_option maxRecDepth 100000 in
set_option maxHeartbeats 4000000 in
theorem rdone_no (w : World) (p : Option Addr) (h : NoRf w p) : Calls Try.prog 11 #[.pointer p] w fun e w' => e = .returned (.tuple #[]) ∧ Below w.heap.size w w' := by
  have HM := Lib.hid (rmade_no h)
  clear h
  go_enter Try.func11, Try.ntmps11
  go_wp2_with (first
    | (go_at_call 19; refine HM.out.mono ?_; rintro e w1 ⟨rfl, hw1⟩; rw [hw1]; clear hw1)
    | fail "no arm")
  (first | go_end0 | refine bodyPost_ret (results_none rfl _ _ _) rfl ?_)
  exact ⟨rfl, Below.refl _ _⟩
set_option maxRecDepth 100000 in
set_option maxHeartbeats 4000000 in
theorem rstop_no (w : World) (p : Option Addr) (h : NoRf w p) : Calls Try.prog 12 #[.pointer p] w fun e w' => e = .returned (.tuple #[]) ∧ Below w.heap.size w w' := by
  have HM := Lib.hid (rmade_no h)
  clear h
  go_enter Try.func12, Try.ntmps12
  go_wp2_with (first
    | (go_at_call 19; refine HM.out.mono ?_; rintro e w1 ⟨rfl, hw1⟩; rw [hw1]; clear hw1)
    | fail "no arm")
  (first | go_end0 | refine bodyPost_ret (results_none rfl _ _ _) rfl ?_)
  exact ⟨rfl, Below.refl _ _⟩
set_option maxRecDepth 100000 in
set_option maxHeartbeats 4000000 in
theorem rresume_no (w : World) (p : Option Addr) (h : NoRf w p) : Calls Try.prog 13 #[.pointer p] w fun e w' => e = .returned (.tuple #[]) ∧ Below w.heap.size w w' := by
  have HM := Lib.hid (rmade_no h)
  clear h
  go_enter Try.func13, Try.ntmps13
  go_wp2_with (first
    | (go_at_call 19; refine HM.out.mono ?_; rintro e w1 ⟨rfl, hw1⟩; rw [hw1]; clear hw1)
    | fail "no arm")
  (first | go_end0 | refine bodyPost_ret (results_none rfl _ _ _) rfl ?_)
  exact ⟨rfl, Below.refl _ _⟩
set_option maxRecDepth 100000 in
set_option maxHeartbeats 4000000 in
theorem rreset_no (w : World) (p : Option Addr) (h : NoRf w p) : Calls Try.prog 16 #[.pointer p] w fun e w' => e = .returned (.tuple #[]) ∧ Below w.heap.size w w' := by
  have HM := Lib.hid (rmade_no h)
  clear h
  go_enter Try.func16, Try.ntmps16
  go_wp2_with (first
    | (go_at_call 19; refine HM.out.mono ?_; rintro e w1 ⟨rfl, hw1⟩; rw [hw1]; clear hw1)
    | fail "no arm")
  (first | go_end0 | refine bodyPost_ret (results_none rfl _ _ _) rfl ?_)
  exact ⟨rfl, Below.refl _ _⟩
set_option maxRecDepth 100000 in
set_option maxHeartbeats 4000000 in
theorem rdue_no (w : World) (p : Option Addr) (h : NoRf w p) : Calls Try.prog 17 #[.pointer p] w fun e w' => e = .returned (.tuple #[.int .i64 0, .bool false]) ∧ Below w.heap.size w w' := by
  have HM := Lib.hid (rmade_no h)
  clear h
  go_enter Try.func17, Try.ntmps17
  go_wp2_with (first
    | (go_at_call 19; refine HM.out.mono ?_; rintro e w1 ⟨rfl, hw1⟩; rw [hw1]; clear hw1)
    | fail "no arm")
  go_ret2
  exact ⟨rfl, Below.refl _ _⟩
set_option maxRecDepth 100000 in
set_option maxHeartbeats 4000000 in
theorem ruse_no (w : World) (p : Option Addr) (h : NoRf w p) : Calls Try.prog 10 #[.pointer p] w fun e w' => e = .returned (.bool false) ∧ Below w.heap.size w w' := by
  have HM := Lib.hid (rmade_no h)
  clear h
  go_enter Try.func10, Try.ntmps10
  go_wp2_with (first
    | (go_at_call 19; refine HM.out.mono ?_; rintro e w1 ⟨rfl, hw1⟩; rw [hw1]; clear hw1)
    | fail "no arm")
  go_ret
  exact ⟨rfl, Below.refl _ _⟩
set_option maxRecDepth 100000 in
set_option maxHeartbeats 4000000 in
theorem rfree_no (w : World) (p : Option Addr) (h : NoRf w p) : Calls Try.prog 14 #[.pointer p] w fun e w' => e = .returned (.int .i64 0) ∧ Below w.heap.size w w' := by
  have HM := Lib.hid (rmade_no h)
  clear h
  go_enter Try.func14, Try.ntmps14
  go_wp2_with (first
    | (go_at_call 19; refine HM.out.mono ?_; rintro e w1 ⟨rfl, hw1⟩; rw [hw1]; clear hw1)
    | fail "no arm")
  go_ret
  exact ⟨rfl, Below.refl _ _⟩
set_option maxRecDepth 100000 in
set_option maxHeartbeats 4000000 in
theorem rlive_no (w : World) (p : Option Addr) (h : NoRf w p) : Calls Try.prog 8 #[.pointer p] w fun e w' => ∃ ao cap, e = .returned (.slice ao 0 cap) ∧ Below w.heap.size w w' := by
  have HM := Lib.hid (rmade_no h)
  clear h
  go_enter Try.func8, Try.ntmps8
  go_wp2_with (first
    | (go_at_call 19; refine HM.out.mono ?_; rintro e w1 ⟨rfl, hw1⟩; rw [hw1]; clear hw1)
    | fail "no arm")
  go_ret
  exact ⟨none, 0, rfl, Below.refl _ _⟩
def refillNo : RefillNo where
  No := NoRf
  later := by
    rintro w w' p (rfl | ⟨H, rfl, h⟩) hb
    · exact .inl rfl
    · exact .inr ⟨H, rfl, (World.cell?_of_block (hb.block _ (World.block_lt_of_cell? w _ h))).trans h⟩
  nil := fun w => .inl rfl
  zero := fun w H h => .inr ⟨H, rfl, cell_in h rfl⟩
  go := fun w p now busy h => rgo_no w p now busy h
  done_ := fun w p h => rdone_no w p h
  stop := fun w p h => rstop_no w p h
  resume := fun w p h => rresume_no w p h
  reset := fun w p h => rreset_no w p h
  due := fun w p h => rdue_no w p h
  use := fun w p h => ruse_no w p h
  free := fun w p h => rfree_no w p h
  live := fun w p h => rlive_no w p h
end Go.Proofs.Ytiioodpofdlkhaa
