/- The program's refilled budget: RfAt; Go. -/
import Derived.Test.YtiioodpofdlkhaaRefillQ
namespace Go.Proofs.Ytiioodpofdlkhaa
open Go.ChangeShapes Go.WideShapes Go.ChangeAt Go.RowKit
set_option linter.unusedVariables false

/-- A budget in memory, with its own blocks. -/
def RfAt (H : Nat) (s : Sv) (st : Int) (b : Rd) (w : World) (S : Nat → Prop) : Prop :=
  ∃ (la : Option Addr) (lc : Nat), RfB w H s st b.now b.free b.stop la lc b.live ∧ newOk s.re s.c s.t st = true ∧ RdOk s.c 4611687117939015680 b ∧ st ≤ b.now ∧ (∀ x ∈ b.live, st ≤ x.at_) ∧ S = Rfl H la
theorem rf_own (H : Nat) (s : Sv) (st : Int) (b : Rd) : OwnP (RfAt H s st b) where
  keep := by
    rintro w w' S ⟨la, lc, h, h2, h3, h4, h5, rfl⟩ hs hz
    exact ⟨la, lc, h.hold hs, h2, h3, h4, h5, rfl⟩
  lt := by
    rintro w S ⟨la, lc, h, h2, h3, h4, h5, rfl⟩ k hk
    exact h.lt k hk
theorem newOk_bd {s : Sv} {st : Int} (h : newOk s.re s.c s.t st = true) : 1 ≤ s.c ∧ s.c ≤ s.t ∧ s.t ≤ 1000 ∧ 0 ≤ st ∧ st ≤ 4611686018427387904 := by
  simp only [newOk, Bool.and_eq_true, decide_eq_true_eq] at h
  have := okSv_bd h.1
  simp only at this
  omega
theorem below_drewR {B : Nat} {w w' : World} (n : Nat) (h : Below B w w') : Below B w (w'.drewN n) := by
  induction n with
  | zero => exact h
  | succ n ih => exact ih.drew
theorem RfB.drewN {w : World} {H : Nat} {s : Sv} {st now f : Int} {sp : Bool} {la : Option Addr} {lc : Nat} {lv : List Bk} (h : RfB w H s st now f sp la lc lv) (n : Nat) : RfB (w.drewN n) H s st now f sp la lc lv := h.later (below_drewR n (Below.refl _ _))
/-- Numbers of a budget. -/
theorem rd_nums {s : Sv} {st : Int} {b : Rd} (h4 : newOk s.re s.c s.t st = true) (h5 : RdOk s.c 4611687117939015680 b) :
    (0 ≤ b.free ∧ b.free ≤ 1000) ∧ b.live.length ≤ 1000 ∧ (0 ≤ sumB b.live ∧ sumB b.live ≤ 1000) ∧ (∀ x ∈ b.live, 1 ≤ x.n) ∧ ∀ x ∈ b.live, (0 ≤ x.at_ ∧ x.at_ ≤ 4611687117939015680) ∧ (1 ≤ x.n ∧ x.n ≤ 1000) := by
  have h := newOk_bd h4
  have hb := h5.bounds
  have ha := h5.all
  have hf := h5.f0
  have hn := h5.n0
  refine ⟨by omega, by omega, by omega, fun x hx => (h5.lv x hx).2.2, fun x hx => ?_⟩
  have hl := h5.lv x hx
  have g1 : x.n ≤ sumB b.live := by
    have : ∀ l : List Bk, (∀ y ∈ l, 1 ≤ y.n) → ∀ x ∈ l, x.n ≤ sumB l := by
      intro l
      induction l with
      | nil => intro _ x hx; cases hx
      | cons y l ih =>
        intro hy x hx
        have i1 := sumB_len l (fun z hz => hy z (List.mem_cons_of_mem _ hz))
        have i2 := hy y (List.mem_cons_self ..)
        rcases List.mem_cons.1 hx with rfl | hx
        · simp only [sumB, List.map_cons, List.sum_cons] at *; omega
        · have := ih (fun z hz => hy z (List.mem_cons_of_mem _ hz)) x hx
          simp only [sumB, List.map_cons, List.sum_cons] at *; omega
    exact this _ (fun y hy => (h5.lv y hy).2.2) x hx
  exact ⟨⟨hl.1, by omega⟩, ⟨hl.2.2, by omega⟩⟩
set_option maxRecDepth 100000 in
set_option maxHeartbeats 4000000 in
theorem rgo_old_idle (w : World) (H : Nat) (s : Sv) (st last f : Int) (sp : Bool) (la : Option Addr) (lc : Nat) (lv : List Bk) (h : RfB w H s st last f sp la lc lv) (now : Int) (h0 : 0 ≤ st) (h1 : st ≤ last) (h2 : last ≤ now) (h3 : now ≤ 4611687117939015680) (hs : (1 ≤ s.c ∧ s.c ≤ s.t) ∧ 1 ≤ s.t ∧ s.t ≤ 1000) (hf : 0 ≤ f ∧ f ≤ 1000) (hl : lv.length ≤ 1000) (hq : 0 ≤ sumB lv ∧ sumB lv ≤ 1000) (hp : ∀ x ∈ lv, 1 ≤ x.n) (hb : decide (perOf s.t st last < perOf s.t st now) = false) :
    Calls Try.prog 9 #[.pointer (some ⟨H, 0, none⟩), .int .i64 now, .bool false] w fun e w2 => e = .returned (.tuple #[]) ∧ ∃ la2 lc2, RfB w2 H s st now f sp la2 lc2 (lv) ∧ GrowS (Rfl H la) (Rfl H la2) w w2 := by
  have HM := Lib.hid (rmade_yes w H s.t h.c3 (by omega))
  have HG := Lib.hid (began_any w H s st last f _ la lc lv h now h0 h1 h2 h3 hs.2)
  rw [hb] at HG
  have HK := Lib.hid h
  have HP := Lib.hid hp
  have q0 : IntKind.i64.wrap (s.c - sumB lv) = s.c - sumB lv := IntWalk.i64_in _ (by omega)
  clear h hp hb
  obtain ⟨q, hq0⟩ : ∃ q, q = sumB lv := ⟨_, rfl⟩
  have HQ := Lib.hid hq0
  rw [← hq0] at q0 hq
  clear hq0
  go_enter Try.func9, Try.ntmps9
  go_wp2_with (first
    | (go_at_call 19; refine HM.out.mono ?_; rintro e w1 ⟨rfl, hw1⟩; rw [hw1]; clear hw1)
    | (go_at_call 20; refine HG.out.mono ?_; rintro e w1 ⟨rfl, nd, hw1⟩; have HK1 := Lib.hid (HK.out.drewN nd); rw [← hw1] at HK1; have HB1 : Hid (Below w.heap.size w w1) := Lib.hid (by rw [hw1]; exact below_drewR nd (Below.refl _ _)); clear hw1; have d2 := HK1.out.c2; have d5 := HK1.out.c5; have d6 := HK1.out.c6; have d7 := HK1.out.c7; have f5 := HK1.out.fz 5; have f6 := HK1.out.fz 6)
    | fail "no arm")
  go_end0
  obtain ⟨U, hU⟩ : ∃ U, U = w1.setCell ⟨H, 5, none⟩ (.int .i64 now) := ⟨_, rfl⟩
  rw [← hU]
  have hBU : But H w1 U := by rw [hU]; exact (But.refl H w1).set 5 _
  refine ⟨rfl, la, lc, ?_, (GrowS.of_below (S := Rfl H la) HB1.out).trans (grow_but hBU (.inl rfl))⟩
  exact HK1.out.boxed (by rw [hU]; exact set_at HK1.out.box) (fun k hk hkH => hBU.block k hk hkH)
set_option maxRecDepth 100000 in
set_option maxHeartbeats 4000000 in
theorem rgo_old_stop (w : World) (H : Nat) (s : Sv) (st last f : Int) (la : Option Addr) (lc : Nat) (lv : List Bk) (h : RfB w H s st last f true la lc lv) (now : Int) (h0 : 0 ≤ st) (h1 : st ≤ last) (h2 : last ≤ now) (h3 : now ≤ 4611687117939015680) (hs : (1 ≤ s.c ∧ s.c ≤ s.t) ∧ 1 ≤ s.t ∧ s.t ≤ 1000) (hf : 0 ≤ f ∧ f ≤ 1000) (hl : lv.length ≤ 1000) (hq : 0 ≤ sumB lv ∧ sumB lv ≤ 1000) (hp : ∀ x ∈ lv, 1 ≤ x.n) (hb : decide (perOf s.t st last < perOf s.t st now) = false) :
    Calls Try.prog 9 #[.pointer (some ⟨H, 0, none⟩), .int .i64 now, .bool true] w fun e w2 => e = .returned (.tuple #[]) ∧ ∃ la2 lc2, RfB w2 H s st now f true la2 lc2 (lv) ∧ GrowS (Rfl H la) (Rfl H la2) w w2 := by
  have HM := Lib.hid (rmade_yes w H s.t h.c3 (by omega))
  have HG := Lib.hid (began_any w H s st last f _ la lc lv h now h0 h1 h2 h3 hs.2)
  rw [hb] at HG
  have HK := Lib.hid h
  have HP := Lib.hid hp
  have q0 : IntKind.i64.wrap (s.c - sumB lv) = s.c - sumB lv := IntWalk.i64_in _ (by omega)
  clear h hp hb
  obtain ⟨q, hq0⟩ : ∃ q, q = sumB lv := ⟨_, rfl⟩
  have HQ := Lib.hid hq0
  rw [← hq0] at q0 hq
  clear hq0
  go_enter Try.func9, Try.ntmps9
  go_wp2_with (first
    | (go_at_call 19; refine HM.out.mono ?_; rintro e w1 ⟨rfl, hw1⟩; rw [hw1]; clear hw1)
    | (go_at_call 20; refine HG.out.mono ?_; rintro e w1 ⟨rfl, nd, hw1⟩; have HK1 := Lib.hid (HK.out.drewN nd); rw [← hw1] at HK1; have HB1 : Hid (Below w.heap.size w w1) := Lib.hid (by rw [hw1]; exact below_drewR nd (Below.refl _ _)); clear hw1; have d2 := HK1.out.c2; have d5 := HK1.out.c5; have d6 := HK1.out.c6; have d7 := HK1.out.c7; have f5 := HK1.out.fz 5; have f6 := HK1.out.fz 6)
    | fail "no arm")
  go_end0
  obtain ⟨U, hU⟩ : ∃ U, U = w1.setCell ⟨H, 5, none⟩ (.int .i64 now) := ⟨_, rfl⟩
  rw [← hU]
  have hBU : But H w1 U := by rw [hU]; exact (But.refl H w1).set 5 _
  refine ⟨rfl, la, lc, ?_, (GrowS.of_below (S := Rfl H la) HB1.out).trans (grow_but hBU (.inl rfl))⟩
  exact HK1.out.boxed (by rw [hU]; exact set_at HK1.out.box) (fun k hk hkH => hBU.block k hk hkH)
set_option maxRecDepth 100000 in
set_option maxHeartbeats 4000000 in
theorem rgo_old_full (w : World) (H : Nat) (s : Sv) (st last f : Int) (la : Option Addr) (lc : Nat) (lv : List Bk) (h : RfB w H s st last f false la lc lv) (now : Int) (h0 : 0 ≤ st) (h1 : st ≤ last) (h2 : last ≤ now) (h3 : now ≤ 4611687117939015680) (hs : (1 ≤ s.c ∧ s.c ≤ s.t) ∧ 1 ≤ s.t ∧ s.t ≤ 1000) (hf : 0 ≤ f ∧ f ≤ 1000) (hl : lv.length ≤ 1000) (hq : 0 ≤ sumB lv ∧ sumB lv ≤ 1000) (hp : ∀ x ∈ lv, 1 ≤ x.n) (hb : decide (perOf s.t st last < perOf s.t st now) = false) (hz : ¬ 0 < f) :
    Calls Try.prog 9 #[.pointer (some ⟨H, 0, none⟩), .int .i64 now, .bool true] w fun e w2 => e = .returned (.tuple #[]) ∧ ∃ la2 lc2, RfB w2 H s st now f false la2 lc2 (lv) ∧ GrowS (Rfl H la) (Rfl H la2) w w2 := by
  have HM := Lib.hid (rmade_yes w H s.t h.c3 (by omega))
  have HG := Lib.hid (began_any w H s st last f _ la lc lv h now h0 h1 h2 h3 hs.2)
  rw [hb] at HG
  have HK := Lib.hid h
  have HP := Lib.hid hp
  have q0 : IntKind.i64.wrap (s.c - sumB lv) = s.c - sumB lv := IntWalk.i64_in _ (by omega)
  clear h hp hb
  obtain ⟨q, hq0⟩ : ∃ q, q = sumB lv := ⟨_, rfl⟩
  have HQ := Lib.hid hq0
  rw [← hq0] at q0 hq
  have t0 : decide (0 < f) = false := decide_eq_false hz
  clear hq0
  go_enter Try.func9, Try.ntmps9
  go_wp2_with (first
    | (go_at_call 19; refine HM.out.mono ?_; rintro e w1 ⟨rfl, hw1⟩; rw [hw1]; clear hw1)
    | (go_at_call 20; refine HG.out.mono ?_; rintro e w1 ⟨rfl, nd, hw1⟩; have HK1 := Lib.hid (HK.out.drewN nd); rw [← hw1] at HK1; have HB1 : Hid (Below w.heap.size w w1) := Lib.hid (by rw [hw1]; exact below_drewR nd (Below.refl _ _)); clear hw1; have d2 := HK1.out.c2; have d5 := HK1.out.c5; have d6 := HK1.out.c6; have d7 := HK1.out.c7; have f5 := HK1.out.fz 5; have f6 := HK1.out.fz 6)
    | fail "no arm")
  go_end0
  obtain ⟨U, hU⟩ : ∃ U, U = w1.setCell ⟨H, 5, none⟩ (.int .i64 now) := ⟨_, rfl⟩
  rw [← hU]
  have hBU : But H w1 U := by rw [hU]; exact (But.refl H w1).set 5 _
  refine ⟨rfl, la, lc, ?_, (GrowS.of_below (S := Rfl H la) HB1.out).trans (grow_but hBU (.inl rfl))⟩
  exact HK1.out.boxed (by rw [hU]; exact set_at HK1.out.box) (fun k hk hkH => hBU.block k hk hkH)
set_option maxRecDepth 100000 in
set_option maxHeartbeats 4000000 in
theorem rgo_old_lay (w : World) (H : Nat) (s : Sv) (st last f : Int) (la : Option Addr) (lc : Nat) (lv : List Bk) (h : RfB w H s st last f false la lc lv) (now : Int) (h0 : 0 ≤ st) (h1 : st ≤ last) (h2 : last ≤ now) (h3 : now ≤ 4611687117939015680) (hs : (1 ≤ s.c ∧ s.c ≤ s.t) ∧ 1 ≤ s.t ∧ s.t ≤ 1000) (hf : 0 ≤ f ∧ f ≤ 1000) (hl : lv.length ≤ 1000) (hq : 0 ≤ sumB lv ∧ sumB lv ≤ 1000) (hp : ∀ x ∈ lv, 1 ≤ x.n) (hb : decide (perOf s.t st last < perOf s.t st now) = false) (hz : 0 < f) :
    Calls Try.prog 9 #[.pointer (some ⟨H, 0, none⟩), .int .i64 now, .bool true] w fun e w2 => e = .returned (.tuple #[]) ∧ ∃ la2 lc2, RfB w2 H s st now 0 false la2 lc2 (lv ++ [⟨now, f⟩]) ∧ GrowS (Rfl H la) (Rfl H la2) w w2 := by
  have HM := Lib.hid (rmade_yes w H s.t h.c3 (by omega))
  have HG := Lib.hid (began_any w H s st last f _ la lc lv h now h0 h1 h2 h3 hs.2)
  rw [hb] at HG
  have HK := Lib.hid h
  have HP := Lib.hid hp
  have q0 : IntKind.i64.wrap (s.c - sumB lv) = s.c - sumB lv := IntWalk.i64_in _ (by omega)
  clear h hp hb
  obtain ⟨q, hq0⟩ : ∃ q, q = sumB lv := ⟨_, rfl⟩
  have HQ := Lib.hid hq0
  rw [← hq0] at q0 hq
  have t0 : decide (0 < f) = true := decide_eq_true hz
  clear hq0
  go_enter Try.func9, Try.ntmps9
  go_upto_region 5 with (first
    | (go_at_call 19; refine HM.out.mono ?_; rintro e w1 ⟨rfl, hw1⟩; rw [hw1]; clear hw1)
    | (go_at_call 20; refine HG.out.mono ?_; rintro e w1 ⟨rfl, nd, hw1⟩; have HK1 := Lib.hid (HK.out.drewN nd); rw [← hw1] at HK1; have HB1 : Hid (Below w.heap.size w w1) := Lib.hid (by rw [hw1]; exact below_drewR nd (Below.refl _ _)); clear hw1; have d2 := HK1.out.c2; have d5 := HK1.out.c5; have d6 := HK1.out.c6; have d7 := HK1.out.c7; have f5 := HK1.out.fz 5; have f6 := HK1.out.fz 6)
    | fail "no arm")
  obtain ⟨U, hU⟩ : ∃ U, U = w1.setCell ⟨H, 5, none⟩ (.int .i64 now) := ⟨_, rfl⟩
  rw [← hU]
  have hBU : But H w1 U := by rw [hU]; exact (But.refl H w1).set 5 _
  have hbox : U.heap[H]? = some (.cells #[.slice la lv.length lc, .bool s.re, .int .i64 s.c, .int .i64 s.t, .int .i64 st, .int .i64 now, .int .i64 f, .bool false] 46 (0, 0)) := by rw [hU]; exact set_at HK1.out.box
  have hKU := HK1.out.boxed hbox (fun k hk hkH => hBU.block k hk hkH)
  have HGU := Lib.hid ((GrowS.of_below (S := Rfl H la) HB1.out).trans (grow_but hBU (.inl rfl)))
  have u6 := hKU.c6
  have HKU := Lib.hid hKU
  clear hU hBU hbox hKU
  have HL0 := Lib.hid (rlay_ck U H s st now f false la lc lv HKU.out hl now f)
  have HL1 := Lib.hid (rlay_ck U.drew H s st now f false la lc lv HKU.out.drew hl now f)
  go_region_with (first
    | (go_at_call 22; refine HL1.out.mono ?_; rintro e w4 ⟨rfl, la4, lc4, hk4, g4⟩; have HK4 := Lib.hid hk4; have HG4 := Lib.hid (HGU.out.trans ((GrowS.of_below (Below.refl _ _).drew).trans g4)); have y6 := hk4.c6; have y6f := hk4.fz 6; clear hk4 g4)
    | (go_at_call 22; refine HL0.out.mono ?_; rintro e w4 ⟨rfl, la4, lc4, hk4, g4⟩; have HK4 := Lib.hid hk4; have HG4 := Lib.hid (HGU.out.trans g4); have y6 := hk4.c6; have y6f := hk4.fz 6; clear hk4 g4)
    | fail "no arm")
  all_goals
    go_wp2_with fail
    go_end0
    have hB : But H w4 (w4.setCell ⟨H, 6, none⟩ (.int .i64 0)) := (But.refl H w4).set 6 _
    refine ⟨rfl, la4, lc4, ?_, HG4.out.trans (grow_but hB (.inl rfl))⟩
    exact HK4.out.boxed (set_at HK4.out.box) (fun k hk hkH => hB.block k hk hkH)
set_option maxRecDepth 100000 in
set_option maxHeartbeats 4000000 in
theorem rgo_new_idle (w : World) (H : Nat) (s : Sv) (st last f : Int) (sp : Bool) (la : Option Addr) (lc : Nat) (lv : List Bk) (h : RfB w H s st last f sp la lc lv) (now : Int) (h0 : 0 ≤ st) (h1 : st ≤ last) (h2 : last ≤ now) (h3 : now ≤ 4611687117939015680) (hs : (1 ≤ s.c ∧ s.c ≤ s.t) ∧ 1 ≤ s.t ∧ s.t ≤ 1000) (hf : 0 ≤ f ∧ f ≤ 1000) (hl : lv.length ≤ 1000) (hq : 0 ≤ sumB lv ∧ sumB lv ≤ 1000) (hp : ∀ x ∈ lv, 1 ≤ x.n) (hb : decide (perOf s.t st last < perOf s.t st now) = true) :
    Calls Try.prog 9 #[.pointer (some ⟨H, 0, none⟩), .int .i64 now, .bool false] w fun e w2 => e = .returned (.tuple #[]) ∧ ∃ la2 lc2, RfB w2 H s st now (s.c - sumB lv) sp la2 lc2 (lv) ∧ GrowS (Rfl H la) (Rfl H la2) w w2 := by
  have HM := Lib.hid (rmade_yes w H s.t h.c3 (by omega))
  have HG := Lib.hid (began_any w H s st last f _ la lc lv h now h0 h1 h2 h3 hs.2)
  rw [hb] at HG
  have HK := Lib.hid h
  have HP := Lib.hid hp
  have q0 : IntKind.i64.wrap (s.c - sumB lv) = s.c - sumB lv := IntWalk.i64_in _ (by omega)
  clear h hp hb
  obtain ⟨q, hq0⟩ : ∃ q, q = sumB lv := ⟨_, rfl⟩
  have HQ := Lib.hid hq0
  rw [← hq0] at q0 hq
  clear hq0
  go_enter Try.func9, Try.ntmps9
  go_upto_region 2 with (first
    | (go_at_call 19; refine HM.out.mono ?_; rintro e w1 ⟨rfl, hw1⟩; rw [hw1]; clear hw1)
    | (go_at_call 20; refine HG.out.mono ?_; rintro e w1 ⟨rfl, nd, hw1⟩; have HK1 := Lib.hid (HK.out.drewN nd); rw [← hw1] at HK1; have HB1 : Hid (Below w.heap.size w w1) := Lib.hid (by rw [hw1]; exact below_drewR nd (Below.refl _ _)); clear hw1; have d2 := HK1.out.c2; have d5 := HK1.out.c5; have d6 := HK1.out.c6; have d7 := HK1.out.c7; have f5 := HK1.out.fz 5; have f6 := HK1.out.fz 6)
    | fail "no arm")
  go_region_with (first
    | (go_at_call 21; refine (left_ck w1.drew H s st last f _ la lc lv HK1.out.drew HP.out (by rw [← HQ.out]; omega)).mono ?_; rw [← HQ.out]; rintro e w3 ⟨rfl, hb3⟩; have HK3 := Lib.hid (HK1.out.drew.later hb3); have HB3 : Hid (Below w.heap.size w w3) := Lib.hid (HB1.out.trans ((((Below.refl _ _).drew).trans (hb3.mono (by simp))).mono HB1.out.size)); clear hb3; have e2 := HK3.out.c2; have e5 := HK3.out.c5; have e6 := HK3.out.c6; have e7 := HK3.out.c7; have g5 := HK3.out.fz 5; have g6 := HK3.out.fz 6)
    | (go_at_call 21; refine (left_ck w1 H s st last f _ la lc lv HK1.out HP.out (by rw [← HQ.out]; omega)).mono ?_; rw [← HQ.out]; rintro e w3 ⟨rfl, hb3⟩; have HK3 := Lib.hid (HK1.out.later hb3); have HB3 : Hid (Below w.heap.size w w3) := Lib.hid (HB1.out.trans ((hb3).mono HB1.out.size)); clear hb3; have e2 := HK3.out.c2; have e5 := HK3.out.c5; have e6 := HK3.out.c6; have e7 := HK3.out.c7; have g5 := HK3.out.fz 5; have g6 := HK3.out.fz 6)
    | fail "no arm")
  all_goals
    go_wp2_with fail
    go_end0
    obtain ⟨U, hU⟩ : ∃ U, U = (w3.setCell ⟨H, 6, none⟩ (.int .i64 (s.c - q))).setCell ⟨H, 5, none⟩ (.int .i64 now) := ⟨_, rfl⟩
    rw [← hU]
    have hBU : But H w3 U := by rw [hU]; exact ((But.refl H w3).set 6 _).set 5 _
    refine ⟨rfl, la, lc, ?_, (GrowS.of_below (S := Rfl H la) HB3.out).trans (grow_but hBU (.inl rfl))⟩
    rw [← HQ.out]
    exact HK3.out.boxed (by rw [hU]; exact set_at (set_at HK3.out.box)) (fun k hk hkH => hBU.block k hk hkH)
set_option maxRecDepth 100000 in
set_option maxHeartbeats 4000000 in
theorem rgo_new_stop (w : World) (H : Nat) (s : Sv) (st last f : Int) (la : Option Addr) (lc : Nat) (lv : List Bk) (h : RfB w H s st last f true la lc lv) (now : Int) (h0 : 0 ≤ st) (h1 : st ≤ last) (h2 : last ≤ now) (h3 : now ≤ 4611687117939015680) (hs : (1 ≤ s.c ∧ s.c ≤ s.t) ∧ 1 ≤ s.t ∧ s.t ≤ 1000) (hf : 0 ≤ f ∧ f ≤ 1000) (hl : lv.length ≤ 1000) (hq : 0 ≤ sumB lv ∧ sumB lv ≤ 1000) (hp : ∀ x ∈ lv, 1 ≤ x.n) (hb : decide (perOf s.t st last < perOf s.t st now) = true) :
    Calls Try.prog 9 #[.pointer (some ⟨H, 0, none⟩), .int .i64 now, .bool true] w fun e w2 => e = .returned (.tuple #[]) ∧ ∃ la2 lc2, RfB w2 H s st now (s.c - sumB lv) true la2 lc2 (lv) ∧ GrowS (Rfl H la) (Rfl H la2) w w2 := by
  have HM := Lib.hid (rmade_yes w H s.t h.c3 (by omega))
  have HG := Lib.hid (began_any w H s st last f _ la lc lv h now h0 h1 h2 h3 hs.2)
  rw [hb] at HG
  have HK := Lib.hid h
  have HP := Lib.hid hp
  have q0 : IntKind.i64.wrap (s.c - sumB lv) = s.c - sumB lv := IntWalk.i64_in _ (by omega)
  clear h hp hb
  obtain ⟨q, hq0⟩ : ∃ q, q = sumB lv := ⟨_, rfl⟩
  have HQ := Lib.hid hq0
  rw [← hq0] at q0 hq
  clear hq0
  go_enter Try.func9, Try.ntmps9
  go_upto_region 2 with (first
    | (go_at_call 19; refine HM.out.mono ?_; rintro e w1 ⟨rfl, hw1⟩; rw [hw1]; clear hw1)
    | (go_at_call 20; refine HG.out.mono ?_; rintro e w1 ⟨rfl, nd, hw1⟩; have HK1 := Lib.hid (HK.out.drewN nd); rw [← hw1] at HK1; have HB1 : Hid (Below w.heap.size w w1) := Lib.hid (by rw [hw1]; exact below_drewR nd (Below.refl _ _)); clear hw1; have d2 := HK1.out.c2; have d5 := HK1.out.c5; have d6 := HK1.out.c6; have d7 := HK1.out.c7; have f5 := HK1.out.fz 5; have f6 := HK1.out.fz 6)
    | fail "no arm")
  go_region_with (first
    | (go_at_call 21; refine (left_ck w1.drew H s st last f _ la lc lv HK1.out.drew HP.out (by rw [← HQ.out]; omega)).mono ?_; rw [← HQ.out]; rintro e w3 ⟨rfl, hb3⟩; have HK3 := Lib.hid (HK1.out.drew.later hb3); have HB3 : Hid (Below w.heap.size w w3) := Lib.hid (HB1.out.trans ((((Below.refl _ _).drew).trans (hb3.mono (by simp))).mono HB1.out.size)); clear hb3; have e2 := HK3.out.c2; have e5 := HK3.out.c5; have e6 := HK3.out.c6; have e7 := HK3.out.c7; have g5 := HK3.out.fz 5; have g6 := HK3.out.fz 6)
    | (go_at_call 21; refine (left_ck w1 H s st last f _ la lc lv HK1.out HP.out (by rw [← HQ.out]; omega)).mono ?_; rw [← HQ.out]; rintro e w3 ⟨rfl, hb3⟩; have HK3 := Lib.hid (HK1.out.later hb3); have HB3 : Hid (Below w.heap.size w w3) := Lib.hid (HB1.out.trans ((hb3).mono HB1.out.size)); clear hb3; have e2 := HK3.out.c2; have e5 := HK3.out.c5; have e6 := HK3.out.c6; have e7 := HK3.out.c7; have g5 := HK3.out.fz 5; have g6 := HK3.out.fz 6)
    | fail "no arm")
  all_goals
    go_wp2_with fail
    go_end0
    obtain ⟨U, hU⟩ : ∃ U, U = (w3.setCell ⟨H, 6, none⟩ (.int .i64 (s.c - q))).setCell ⟨H, 5, none⟩ (.int .i64 now) := ⟨_, rfl⟩
    rw [← hU]
    have hBU : But H w3 U := by rw [hU]; exact ((But.refl H w3).set 6 _).set 5 _
    refine ⟨rfl, la, lc, ?_, (GrowS.of_below (S := Rfl H la) HB3.out).trans (grow_but hBU (.inl rfl))⟩
    rw [← HQ.out]
    exact HK3.out.boxed (by rw [hU]; exact set_at (set_at HK3.out.box)) (fun k hk hkH => hBU.block k hk hkH)
set_option maxRecDepth 100000 in
set_option maxHeartbeats 4000000 in
theorem rgo_new_full (w : World) (H : Nat) (s : Sv) (st last f : Int) (la : Option Addr) (lc : Nat) (lv : List Bk) (h : RfB w H s st last f false la lc lv) (now : Int) (h0 : 0 ≤ st) (h1 : st ≤ last) (h2 : last ≤ now) (h3 : now ≤ 4611687117939015680) (hs : (1 ≤ s.c ∧ s.c ≤ s.t) ∧ 1 ≤ s.t ∧ s.t ≤ 1000) (hf : 0 ≤ f ∧ f ≤ 1000) (hl : lv.length ≤ 1000) (hq : 0 ≤ sumB lv ∧ sumB lv ≤ 1000) (hp : ∀ x ∈ lv, 1 ≤ x.n) (hb : decide (perOf s.t st last < perOf s.t st now) = true) (hz : ¬ 0 < (s.c - sumB lv)) :
    Calls Try.prog 9 #[.pointer (some ⟨H, 0, none⟩), .int .i64 now, .bool true] w fun e w2 => e = .returned (.tuple #[]) ∧ ∃ la2 lc2, RfB w2 H s st now (s.c - sumB lv) false la2 lc2 (lv) ∧ GrowS (Rfl H la) (Rfl H la2) w w2 := by
  have HM := Lib.hid (rmade_yes w H s.t h.c3 (by omega))
  have HG := Lib.hid (began_any w H s st last f _ la lc lv h now h0 h1 h2 h3 hs.2)
  rw [hb] at HG
  have HK := Lib.hid h
  have HP := Lib.hid hp
  have q0 : IntKind.i64.wrap (s.c - sumB lv) = s.c - sumB lv := IntWalk.i64_in _ (by omega)
  clear h hp hb
  obtain ⟨q, hq0⟩ : ∃ q, q = sumB lv := ⟨_, rfl⟩
  have HQ := Lib.hid hq0
  rw [← hq0] at q0 hq
  rw [← hq0] at hz
  have t0 : decide (0 < s.c - q) = false := decide_eq_false hz
  clear hq0
  go_enter Try.func9, Try.ntmps9
  go_upto_region 2 with (first
    | (go_at_call 19; refine HM.out.mono ?_; rintro e w1 ⟨rfl, hw1⟩; rw [hw1]; clear hw1)
    | (go_at_call 20; refine HG.out.mono ?_; rintro e w1 ⟨rfl, nd, hw1⟩; have HK1 := Lib.hid (HK.out.drewN nd); rw [← hw1] at HK1; have HB1 : Hid (Below w.heap.size w w1) := Lib.hid (by rw [hw1]; exact below_drewR nd (Below.refl _ _)); clear hw1; have d2 := HK1.out.c2; have d5 := HK1.out.c5; have d6 := HK1.out.c6; have d7 := HK1.out.c7; have f5 := HK1.out.fz 5; have f6 := HK1.out.fz 6)
    | fail "no arm")
  go_region_with (first
    | (go_at_call 21; refine (left_ck w1.drew H s st last f _ la lc lv HK1.out.drew HP.out (by rw [← HQ.out]; omega)).mono ?_; rw [← HQ.out]; rintro e w3 ⟨rfl, hb3⟩; have HK3 := Lib.hid (HK1.out.drew.later hb3); have HB3 : Hid (Below w.heap.size w w3) := Lib.hid (HB1.out.trans ((((Below.refl _ _).drew).trans (hb3.mono (by simp))).mono HB1.out.size)); clear hb3; have e2 := HK3.out.c2; have e5 := HK3.out.c5; have e6 := HK3.out.c6; have e7 := HK3.out.c7; have g5 := HK3.out.fz 5; have g6 := HK3.out.fz 6)
    | (go_at_call 21; refine (left_ck w1 H s st last f _ la lc lv HK1.out HP.out (by rw [← HQ.out]; omega)).mono ?_; rw [← HQ.out]; rintro e w3 ⟨rfl, hb3⟩; have HK3 := Lib.hid (HK1.out.later hb3); have HB3 : Hid (Below w.heap.size w w3) := Lib.hid (HB1.out.trans ((hb3).mono HB1.out.size)); clear hb3; have e2 := HK3.out.c2; have e5 := HK3.out.c5; have e6 := HK3.out.c6; have e7 := HK3.out.c7; have g5 := HK3.out.fz 5; have g6 := HK3.out.fz 6)
    | fail "no arm")
  all_goals
    go_wp2_with fail
    go_end0
    obtain ⟨U, hU⟩ : ∃ U, U = (w3.setCell ⟨H, 6, none⟩ (.int .i64 (s.c - q))).setCell ⟨H, 5, none⟩ (.int .i64 now) := ⟨_, rfl⟩
    rw [← hU]
    have hBU : But H w3 U := by rw [hU]; exact ((But.refl H w3).set 6 _).set 5 _
    refine ⟨rfl, la, lc, ?_, (GrowS.of_below (S := Rfl H la) HB3.out).trans (grow_but hBU (.inl rfl))⟩
    rw [← HQ.out]
    exact HK3.out.boxed (by rw [hU]; exact set_at (set_at HK3.out.box)) (fun k hk hkH => hBU.block k hk hkH)
set_option maxRecDepth 100000 in
set_option maxHeartbeats 4000000 in
theorem rgo_new_lay (w : World) (H : Nat) (s : Sv) (st last f : Int) (la : Option Addr) (lc : Nat) (lv : List Bk) (h : RfB w H s st last f false la lc lv) (now : Int) (h0 : 0 ≤ st) (h1 : st ≤ last) (h2 : last ≤ now) (h3 : now ≤ 4611687117939015680) (hs : (1 ≤ s.c ∧ s.c ≤ s.t) ∧ 1 ≤ s.t ∧ s.t ≤ 1000) (hf : 0 ≤ f ∧ f ≤ 1000) (hl : lv.length ≤ 1000) (hq : 0 ≤ sumB lv ∧ sumB lv ≤ 1000) (hp : ∀ x ∈ lv, 1 ≤ x.n) (hb : decide (perOf s.t st last < perOf s.t st now) = true) (hz : 0 < (s.c - sumB lv)) :
    Calls Try.prog 9 #[.pointer (some ⟨H, 0, none⟩), .int .i64 now, .bool true] w fun e w2 => e = .returned (.tuple #[]) ∧ ∃ la2 lc2, RfB w2 H s st now 0 false la2 lc2 (lv ++ [⟨now, (s.c - sumB lv)⟩]) ∧ GrowS (Rfl H la) (Rfl H la2) w w2 := by
  have HM := Lib.hid (rmade_yes w H s.t h.c3 (by omega))
  have HG := Lib.hid (began_any w H s st last f _ la lc lv h now h0 h1 h2 h3 hs.2)
  rw [hb] at HG
  have HK := Lib.hid h
  have HP := Lib.hid hp
  have q0 : IntKind.i64.wrap (s.c - sumB lv) = s.c - sumB lv := IntWalk.i64_in _ (by omega)
  clear h hp hb
  obtain ⟨q, hq0⟩ : ∃ q, q = sumB lv := ⟨_, rfl⟩
  have HQ := Lib.hid hq0
  rw [← hq0] at q0 hq
  rw [← hq0] at hz
  have t0 : decide (0 < s.c - q) = true := decide_eq_true hz
  clear hq0
  go_enter Try.func9, Try.ntmps9
  go_upto_region 2 with (first
    | (go_at_call 19; refine HM.out.mono ?_; rintro e w1 ⟨rfl, hw1⟩; rw [hw1]; clear hw1)
    | (go_at_call 20; refine HG.out.mono ?_; rintro e w1 ⟨rfl, nd, hw1⟩; have HK1 := Lib.hid (HK.out.drewN nd); rw [← hw1] at HK1; have HB1 : Hid (Below w.heap.size w w1) := Lib.hid (by rw [hw1]; exact below_drewR nd (Below.refl _ _)); clear hw1; have d2 := HK1.out.c2; have d5 := HK1.out.c5; have d6 := HK1.out.c6; have d7 := HK1.out.c7; have f5 := HK1.out.fz 5; have f6 := HK1.out.fz 6)
    | fail "no arm")
  go_region_with (first
    | (go_at_call 21; refine (left_ck w1.drew H s st last f _ la lc lv HK1.out.drew HP.out (by rw [← HQ.out]; omega)).mono ?_; rw [← HQ.out]; rintro e w3 ⟨rfl, hb3⟩; have HK3 := Lib.hid (HK1.out.drew.later hb3); have HB3 : Hid (Below w.heap.size w w3) := Lib.hid (HB1.out.trans ((((Below.refl _ _).drew).trans (hb3.mono (by simp))).mono HB1.out.size)); clear hb3; have e2 := HK3.out.c2; have e5 := HK3.out.c5; have e6 := HK3.out.c6; have e7 := HK3.out.c7; have g5 := HK3.out.fz 5; have g6 := HK3.out.fz 6)
    | (go_at_call 21; refine (left_ck w1 H s st last f _ la lc lv HK1.out HP.out (by rw [← HQ.out]; omega)).mono ?_; rw [← HQ.out]; rintro e w3 ⟨rfl, hb3⟩; have HK3 := Lib.hid (HK1.out.later hb3); have HB3 : Hid (Below w.heap.size w w3) := Lib.hid (HB1.out.trans ((hb3).mono HB1.out.size)); clear hb3; have e2 := HK3.out.c2; have e5 := HK3.out.c5; have e6 := HK3.out.c6; have e7 := HK3.out.c7; have g5 := HK3.out.fz 5; have g6 := HK3.out.fz 6)
    | fail "no arm")
  all_goals
    go_upto_region 5 with fail
    obtain ⟨U, hU⟩ : ∃ U, U = (w3.setCell ⟨H, 6, none⟩ (.int .i64 (s.c - q))).setCell ⟨H, 5, none⟩ (.int .i64 now) := ⟨_, rfl⟩
    rw [← hU]
    have hBU : But H w3 U := by rw [hU]; exact ((But.refl H w3).set 6 _).set 5 _
    have hbox : U.heap[H]? = some (.cells #[.slice la lv.length lc, .bool s.re, .int .i64 s.c, .int .i64 s.t, .int .i64 st, .int .i64 now, .int .i64 (s.c - q), .bool false] 46 (0, 0)) := by rw [hU]; exact set_at (set_at HK3.out.box)
    have hKU := HK3.out.boxed hbox (fun k hk hkH => hBU.block k hk hkH)
    have HGU := Lib.hid ((GrowS.of_below (S := Rfl H la) HB3.out).trans (grow_but hBU (.inl rfl)))
    have u6 := hKU.c6
    have HKU := Lib.hid hKU
    clear hU hBU hbox hKU
    have HL0 := Lib.hid (rlay_ck U H s st now (s.c - q) false la lc lv HKU.out hl now (s.c - q))
    have HL1 := Lib.hid (rlay_ck U.drew H s st now (s.c - q) false la lc lv HKU.out.drew hl now (s.c - q))
    go_region_with (first
      | (go_at_call 22; refine HL1.out.mono ?_; rintro e w4 ⟨rfl, la4, lc4, hk4, g4⟩; have HK4 := Lib.hid hk4; have HG4 := Lib.hid (HGU.out.trans ((GrowS.of_below (Below.refl _ _).drew).trans g4)); have y6 := hk4.c6; have y6f := hk4.fz 6; clear hk4 g4)
      | (go_at_call 22; refine HL0.out.mono ?_; rintro e w4 ⟨rfl, la4, lc4, hk4, g4⟩; have HK4 := Lib.hid hk4; have HG4 := Lib.hid (HGU.out.trans g4); have y6 := hk4.c6; have y6f := hk4.fz 6; clear hk4 g4)
      | fail "no arm")
    all_goals
      go_wp2_with fail
      go_end0
      have hB : But H w4 (w4.setCell ⟨H, 6, none⟩ (.int .i64 0)) := (But.refl H w4).set 6 _
      refine ⟨rfl, la4, lc4, ?_, HG4.out.trans (grow_but hB (.inl rfl))⟩
      rw [← HQ.out]
      exact HK4.out.boxed (set_at HK4.out.box) (fun k hk hkH => hB.block k hk hkH)
end Go.Proofs.Ytiioodpofdlkhaa
