/- The things of a system read: one by one. -/
import Derived.Test.YtiombjkjoehjpaaImageK
import Derived.Test.YtiombjkjoehjpaaConfJ
namespace Go.Proofs.Ytiombjkjoehjpaa
open Go.ChangeShapes Go.WideShapes Go.ChangeAt Go.RowKit
set_option linter.unusedVariables false

theorem set3 {w : World} {X : Nat} {T : TypeId} {cs : Array Value} (h : w.heap[X]? = some (.cells cs T (0, 0))) (hs : cs.size = 3) (v0 v1 v2 : Value) :
    (((w.setCell ⟨X, 0, none⟩ v0).setCell ⟨X, 1, none⟩ v1).setCell ⟨X, 2, none⟩ v2).heap[X]? = some (.cells #[v0, v1, v2] T (0, 0)) := by
  have h0 := set_at (j := 0) (u := v0) h
  have h1 := set_at (j := 1) (u := v1) h0
  have h2 := set_at (j := 2) (u := v2) h1
  refine h2.trans ?_
  clear h0 h1 h2 h
  have e : (((cs.setIfInBounds 0 v0).setIfInBounds 1 v1).setIfInBounds 2 v2) = #[v0, v1, v2] := by
    obtain ⟨l⟩ := cs
    match l, hs with
    | [_, _, _], _ => simp
  rw [e]
theorem set4 {w : World} {X : Nat} {T : TypeId} {cs : Array Value} (h : w.heap[X]? = some (.cells cs T (0, 0))) (hs : cs.size = 4) (v0 v1 v2 v3 : Value) :
    ((((w.setCell ⟨X, 0, none⟩ v0).setCell ⟨X, 1, none⟩ v1).setCell ⟨X, 2, none⟩ v2).setCell ⟨X, 3, none⟩ v3).heap[X]? = some (.cells #[v0, v1, v2, v3] T (0, 0)) := by
  have h0 := set_at (j := 0) (u := v0) h
  have h1 := set_at (j := 1) (u := v1) h0
  have h2 := set_at (j := 2) (u := v2) h1
  have h3 := set_at (j := 3) (u := v3) h2
  refine h3.trans ?_
  clear h0 h1 h2 h3 h
  have e : ((((cs.setIfInBounds 0 v0).setIfInBounds 1 v1).setIfInBounds 2 v2).setIfInBounds 3 v3) = #[v0, v1, v2, v3] := by
    obtain ⟨l⟩ := cs
    match l, hs with
    | [_, _, _, _], _ => simp
  rw [e]
theorem one_of {l : List Int} (h : l.length = 1) : ∃ a, l = [a] := by match l, h with | [a], _ => exact ⟨a, rfl⟩
theorem two_of {l : List Int} (h : l.length = 2) : ∃ a b, l = [a, b] := by match l, h with | [a, b], _ => exact ⟨a, b, rfl⟩
theorem five_of {l : List Int} (h : l.length = 5) : ∃ a b c d e, l = [a, b, c, d, e] := by match l, h with | [a, b, c, d, e], _ => exact ⟨a, b, c, d, e, rfl⟩
theorem gDonee_any (X Y : Nat) (w : World) (s : Option (List Int)) (h : RdS w X Y s) :
    Calls Try.prog 78 #[.pointer (some ⟨Y, 0, none⟩)] w fun r w' => ∃ x s', r = .returned (.int .i64 x) ∧ 0 ≤ x ∧ x < 256 ^ 1 ∧ RdS w' X Y s' ∧ Got s (rdN 1) x s' ∧ ButL [X, Y] w w' := by
  have c0 := h.c0
  have HR := Lib.hid h
  clear h
  go_enter Try.func78, Try.ntmps78
  go_wp2_with (first
    | (go_at_call 72
       refine (gGet_any X Y w s 1 HR.out (by omega) (by omega)).mono ?_
       rintro e w1 ⟨n, s1, rfl, b0, b1, hr1, hg1, hb1⟩
       have HR1 := Lib.hid hr1
       have HG1 := Lib.hid hg1
       have HB1 := Lib.hid hb1
       clear hr1 hg1 hb1))
  go_ret
  exact ⟨n, s1, rfl, b0, b1, HR1.out, HG1.out, HB1.out⟩
theorem Try.sizeWn_conf : (Try.prog.info? 71).map (·.size) = some 3 := by kernel_rfl
set_option maxRecDepth 100000 in
set_option maxHeartbeats 2000000 in
theorem gWindow_any (X Y : Nat) (w : World) (s : Option (List Int)) (h : RdS w X Y s) :
    Calls Try.prog 52 #[.pointer (some ⟨Y, 0, none⟩)] w fun r w' => ∃ (x : Wn) (s' : Option (List Int)), r = .returned (.agg #[.int .i64 x.at_, .int .i64 x.len, .int .i64 x.part]) ∧ RdS w' X Y s' ∧ Got s rdWn x s' ∧ ButL [X, Y] w w' := by
  have hlt := h.lt
  have H0 := Lib.hid h
  clear h
  go_enter Try.func52, Try.ntmps52
  go_wp2_with (first
    | (go_at_call 50
       refine (gFields_any X Y w1.heap.size w.heap.size 1 1 2 _ s1 (HR1.out.keep (below1 _ _)) (by omega) (by omega) (by omega) (heap_new_at (by simp)) (by rfl) (at_alloc HK1.out) (by simp) (by omega) (by omega) (by omega)).mono ?_
       rintro e w2 ⟨xs2, s2, rfl, hx2, hr2, hg2, hk2, hb2⟩
       obtain ⟨xp, rfl⟩ := one_of hx2
       have hk2' : w2.heap[w.heap.size]? = some (.cells #[.int .i64 xa, .int .i64 xn, .int .i64 xp] 71 (0, 0)) := hk2
       have HK2 := Lib.hid hk2'
       have HR2 := Lib.hid hr2
       have HG2 := Lib.hid hg2
       have HB2 := Lib.hid ((HB1.out.alloc _).trans hb2)
       have hlt2 := hr2.lt
       have hle2 := lt_of_block hk2'
       have z0 := cell_in (j := 0) hk2' rfl
       have z1 := cell_in (j := 1) hk2' rfl
       have z2 := cell_in (j := 2) hk2' rfl
       have y0 := free_in hk2' 0
       have y1 := free_in hk2' 1
       have y2 := free_in hk2' 2
       clear hr2 hg2 hb2 hk2 hk2')
    | (go_at_call 50
       refine (gFields_any X Y (w.heap.size + 1) w.heap.size 2 2 0 _ s ((H0.out.keep (below1 _ _)).keep (below1 _ _)) (by omega) (by omega) (by omega) (heap_new_at (by simp)) (by rfl) (at_alloc (heap_new_at rfl)) (by simp) (by omega) (by omega) (by omega)).mono ?_
       rintro e w1 ⟨xs1, s1, rfl, hx1, hr1, hg1, hk1, hb1⟩
       obtain ⟨xa, xn, rfl⟩ := two_of hx1
       have hk1' : w1.heap[w.heap.size]? = some (.cells #[.int .i64 xa, .int .i64 xn, .int .i64 0] 71 (0, 0)) := hk1
       have HK1 := Lib.hid hk1'
       have HR1 := Lib.hid hr1
       have HG1 := Lib.hid hg1
       have HB1 := Lib.hid (((ButL.of_below (S := [X, Y, w.heap.size]) (below1 _ _)).alloc _).trans hb1)
       have hlt1 := hr1.lt
       have hle1 := lt_of_block hk1'
       clear hr1 hg1 hb1 hk1 hk1'))
  obtain ⟨g1_0, hg1_0, ⟨g1_1, hg1_1, hs1⟩⟩ := HG1.out
  subst hs1
  obtain ⟨g2_0, hg2_0, hs2⟩ := HG2.out
  subst hs2
  have hX := set3 HK2.out rfl (.int .i64 xa) (.int .i64 xn) (.int .i64 xp)
  refine bodyPost_ret (results_cell_row (P := Try.prog) rfl _ _ w.heap.size _ _ (0, 0) _ rfl hX Try.underlying71 rfl Try.sizeWn_conf) rfl ?_
  exact ⟨⟨xa, xn, xp⟩, _, rfl, (((HR2.out.set (B := w.heap.size) (by omega) 0 _).set (B := w.heap.size) (by omega) 1 _).set (B := w.heap.size) (by omega) 2 _), (Got.two hg1_0 (Got.two hg1_1 hg2_0)).map _, (((HB2.out.set (b := w.heap.size) (by simp) 0 _).set (b := w.heap.size) (by simp) 1 _).set (b := w.heap.size) (by simp) 2 _).more (by simp; omega)⟩
theorem Try.sizeSv_conf : (Try.prog.info? 123).map (·.size) = some 3 := by kernel_rfl
set_option maxRecDepth 100000 in
set_option maxHeartbeats 2000000 in
theorem gServer_any (X Y : Nat) (w : World) (s : Option (List Int)) (h : RdS w X Y s) :
    Calls Try.prog 76 #[.pointer (some ⟨Y, 0, none⟩)] w fun r w' => ∃ (x : Sv) (s' : Option (List Int)), r = .returned (.agg #[.bool x.re, .int .i64 x.c, .int .i64 x.t]) ∧ RdS w' X Y s' ∧ Got s rdSv x s' ∧ ButL [X, Y] w w' := by
  have hlt := h.lt
  have H0 := Lib.hid h
  clear h
  go_enter Try.func76, Try.ntmps76
  go_wp2_with (first
    | (go_at_call 50
       refine (gFields_any X Y w1.heap.size w.heap.size 2 2 1 _ s1 (HR1.out.keep (below1 _ _)) (by omega) (by omega) (by omega) (heap_new_at (by simp)) (by rfl) (at_alloc HK1.out) (by simp) (by omega) (by omega) (by omega)).mono ?_
       rintro e w2 ⟨xs2, s2, rfl, hx2, hr2, hg2, hk2, hb2⟩
       obtain ⟨xc, xt, rfl⟩ := two_of hx2
       have hk2' : w2.heap[w.heap.size]? = some (.cells #[.bool xr, .int .i64 xc, .int .i64 xt] 123 (0, 0)) := hk2
       have HK2 := Lib.hid hk2'
       have HR2 := Lib.hid hr2
       have HG2 := Lib.hid hg2
       have HB2 := Lib.hid ((HB1.out.alloc _).trans hb2)
       have hlt2 := hr2.lt
       have hle2 := lt_of_block hk2'
       have z0 := cell_in (j := 0) hk2' rfl
       have z1 := cell_in (j := 1) hk2' rfl
       have z2 := cell_in (j := 2) hk2' rfl
       have y0 := free_in hk2' 0
       have y1 := free_in hk2' 1
       have y2 := free_in hk2' 2
       clear hr2 hg2 hb2 hk2 hk2')
    | (go_at_call 79
       refine (gTruth_any X Y _ s (H0.out.keep (below1 _ _))).mono ?_
       rintro e w1 ⟨xr, s1, rfl, hr1, hg1, hb1⟩
       have kb1 := hb1.at (heap_new_at rfl) (show w.heap.size ∉ [X, Y] by simp; omega)
       have f0 := free_in kb1 0
       have q0 := cell_in (j := 0) kb1 rfl
       have hlt1 := hr1.lt
       have hle1 := lt_of_block kb1
       have HB1 := Lib.hid ((ButL.of_below (S := [X, Y, w.heap.size]) (below1 _ _)).trans ((hb1.more (by simp; omega)).set (b := w.heap.size) (by simp) 0 (.bool xr)))
       have HR1 := Lib.hid (hr1.set (B := w.heap.size) (by omega) 0 (.bool xr))
       have HK1 := Lib.hid (set_at (j := 0) (u := .bool xr) kb1)
       have HG1 := Lib.hid hg1
       clear hr1 hg1 hb1 kb1))
  obtain ⟨g2_0, hg2_0, ⟨g2_1, hg2_1, hs2⟩⟩ := HG2.out
  subst hs2
  have hX := set3 HK2.out rfl (.bool xr) (.int .i64 xc) (.int .i64 xt)
  refine bodyPost_ret (results_cell_row (P := Try.prog) rfl _ _ w.heap.size _ _ (0, 0) _ rfl hX Try.underlying123 rfl Try.sizeSv_conf) rfl ?_
  exact ⟨⟨xr, xc, xt⟩, _, rfl, (((HR2.out.set (B := w.heap.size) (by omega) 0 _).set (B := w.heap.size) (by omega) 1 _).set (B := w.heap.size) (by omega) 2 _), (Got.two HG1.out (Got.two hg2_0 hg2_1)).map _, (((HB2.out.set (b := w.heap.size) (by simp) 0 _).set (b := w.heap.size) (by simp) 1 _).set (b := w.heap.size) (by simp) 2 _).more (by simp; omega)⟩
theorem Try.sizeTk_conf : (Try.prog.info? 120).map (·.size) = some 6 := by kernel_rfl
set_option maxRecDepth 100000 in
set_option maxHeartbeats 2000000 in
theorem gTask_any (X Y : Nat) (w : World) (s : Option (List Int)) (h : RdS w X Y s) :
    Calls Try.prog 74 #[.pointer (some ⟨Y, 0, none⟩)] w fun r w' => ∃ (x : Tk) (s' : Option (List Int)), r = .returned (.agg #[.bool x.hi, .int .i64 x.t, .int .i64 x.d, .int .i64 x.v, .int .i64 x.lo, .int .i64 x.top]) ∧ RdS w' X Y s' ∧ Got s rdTk x s' ∧ ButL [X, Y] w w' := by
  have hlt := h.lt
  have H0 := Lib.hid h
  clear h
  go_enter Try.func74, Try.ntmps74
  go_wp2_with (first
    | (go_at_call 50
       refine (gFields_any X Y w1.heap.size w.heap.size 2 5 1 _ s1 (HR1.out.keep (below1 _ _)) (by omega) (by omega) (by omega) (heap_new_at (by simp)) (by rfl) (at_alloc HK1.out) (by simp) (by omega) (by omega) (by omega)).mono ?_
       rintro e w2 ⟨xs2, s2, rfl, hx2, hr2, hg2, hk2, hb2⟩
       obtain ⟨xt, xd, xv, xl, xp, rfl⟩ := five_of hx2
       have hk2' : w2.heap[w.heap.size]? = some (.cells #[.bool xh, .int .i64 xt, .int .i64 xd, .int .i64 xv, .int .i64 xl, .int .i64 xp] 120 (0, 0)) := hk2
       have HK2 := Lib.hid hk2'
       have HR2 := Lib.hid hr2
       have HG2 := Lib.hid hg2
       have HB2 := Lib.hid ((HB1.out.alloc _).trans hb2)
       have hlt2 := hr2.lt
       have hle2 := lt_of_block hk2'
       have z0 := cell_in (j := 0) hk2' rfl
       have z1 := cell_in (j := 1) hk2' rfl
       have z2 := cell_in (j := 2) hk2' rfl
       have z3 := cell_in (j := 3) hk2' rfl
       have z4 := cell_in (j := 4) hk2' rfl
       have z5 := cell_in (j := 5) hk2' rfl
       have y0 := free_in hk2' 0
       have y1 := free_in hk2' 1
       have y2 := free_in hk2' 2
       have y3 := free_in hk2' 3
       have y4 := free_in hk2' 4
       have y5 := free_in hk2' 5
       clear hr2 hg2 hb2 hk2 hk2')
    | (go_at_call 79
       refine (gTruth_any X Y _ s (H0.out.keep (below1 _ _))).mono ?_
       rintro e w1 ⟨xh, s1, rfl, hr1, hg1, hb1⟩
       have kb1 := hb1.at (heap_new_at rfl) (show w.heap.size ∉ [X, Y] by simp; omega)
       have f0 := free_in kb1 0
       have q0 := cell_in (j := 0) kb1 rfl
       have hlt1 := hr1.lt
       have hle1 := lt_of_block kb1
       have HB1 := Lib.hid ((ButL.of_below (S := [X, Y, w.heap.size]) (below1 _ _)).trans ((hb1.more (by simp; omega)).set (b := w.heap.size) (by simp) 0 (.bool xh)))
       have HR1 := Lib.hid (hr1.set (B := w.heap.size) (by omega) 0 (.bool xh))
       have HK1 := Lib.hid (set_at (j := 0) (u := .bool xh) kb1)
       have HG1 := Lib.hid hg1
       clear hr1 hg1 hb1 kb1))
  obtain ⟨g2_0, hg2_0, ⟨g2_1, hg2_1, ⟨g2_2, hg2_2, ⟨g2_3, hg2_3, ⟨g2_4, hg2_4, hs2⟩⟩⟩⟩⟩ := HG2.out
  subst hs2
  have hX := set6 HK2.out rfl (.bool xh) (.int .i64 xt) (.int .i64 xd) (.int .i64 xv) (.int .i64 xl) (.int .i64 xp)
  refine bodyPost_ret (results_cell_row (P := Try.prog) rfl _ _ w.heap.size _ _ (0, 0) _ rfl hX Try.underlying120 rfl Try.sizeTk_conf) rfl ?_
  exact ⟨⟨xh, xt, xd, xv, xl, xp⟩, _, rfl, ((((((HR2.out.set (B := w.heap.size) (by omega) 0 _).set (B := w.heap.size) (by omega) 1 _).set (B := w.heap.size) (by omega) 2 _).set (B := w.heap.size) (by omega) 3 _).set (B := w.heap.size) (by omega) 4 _).set (B := w.heap.size) (by omega) 5 _), (Got.two HG1.out (Got.two hg2_0 (Got.two hg2_1 (Got.two hg2_2 (Got.two hg2_3 hg2_4))))).map _, ((((((HB2.out.set (b := w.heap.size) (by simp) 0 _).set (b := w.heap.size) (by simp) 1 _).set (b := w.heap.size) (by simp) 2 _).set (b := w.heap.size) (by simp) 3 _).set (b := w.heap.size) (by simp) 4 _).set (b := w.heap.size) (by simp) 5 _).more (by simp; omega)⟩
theorem Try.sizeCh_conf : (Try.prog.info? 79).map (·.size) = some 4 := by kernel_rfl
set_option maxRecDepth 100000 in
set_option maxHeartbeats 2000000 in
theorem gChannel_any (X Y : Nat) (w : World) (s : Option (List Int)) (h : RdS w X Y s) :
    Calls Try.prog 56 #[.pointer (some ⟨Y, 0, none⟩)] w fun r w' => ∃ (x : Ch) (s' : Option (List Int)), r = .returned (.agg #[.bool x.queue, .int .i64 x.from_, .int .i64 x.to, .int .i64 x.size]) ∧ RdS w' X Y s' ∧ Got s rdCh x s' ∧ ButL [X, Y] w w' := by
  have hlt := h.lt
  have H0 := Lib.hid h
  clear h
  go_enter Try.func56, Try.ntmps56
  go_wp2_with (first
    | (go_at_call 50
       refine (gFields_any X Y w2.heap.size w.heap.size 2 1 3 _ s2 (HR2.out.keep (below1 _ _)) (by omega) (by omega) (by omega) (heap_new_at (by simp)) (by rfl) (at_alloc HK2.out) (by simp) (by omega) (by omega) (by omega)).mono ?_
       rintro e w3 ⟨xs3, s3, rfl, hx3, hr3, hg3, hk3, hb3⟩
       obtain ⟨xs, rfl⟩ := one_of hx3
       have hk3' : w3.heap[w.heap.size]? = some (.cells #[.bool xq, .int .i64 xf, .int .i64 xt, .int .i64 xs] 79 (0, 0)) := hk3
       have HK3 := Lib.hid hk3'
       have HR3 := Lib.hid hr3
       have HG3 := Lib.hid hg3
       have HB3 := Lib.hid ((HB2.out.alloc _).trans hb3)
       have hlt3 := hr3.lt
       have hle3 := lt_of_block hk3'
       have z0 := cell_in (j := 0) hk3' rfl
       have z1 := cell_in (j := 1) hk3' rfl
       have z2 := cell_in (j := 2) hk3' rfl
       have z3 := cell_in (j := 3) hk3' rfl
       have y0 := free_in hk3' 0
       have y1 := free_in hk3' 1
       have y2 := free_in hk3' 2
       have y3 := free_in hk3' 3
       clear hr3 hg3 hb3 hk3 hk3')
    | (go_at_call 50
       refine (gFields_any X Y w1.heap.size w.heap.size 1 2 1 _ s1 (HR1.out.keep (below1 _ _)) (by omega) (by omega) (by omega) (heap_new_at (by simp)) (by rfl) (at_alloc HK1.out) (by simp) (by omega) (by omega) (by omega)).mono ?_
       rintro e w2 ⟨xs2, s2, rfl, hx2, hr2, hg2, hk2, hb2⟩
       obtain ⟨xf, xt, rfl⟩ := two_of hx2
       have hk2' : w2.heap[w.heap.size]? = some (.cells #[.bool xq, .int .i64 xf, .int .i64 xt, .int .i64 0] 79 (0, 0)) := hk2
       have HK2 := Lib.hid hk2'
       have HR2 := Lib.hid hr2
       have HG2 := Lib.hid hg2
       have HB2 := Lib.hid ((HB1.out.alloc _).trans hb2)
       have hlt2 := hr2.lt
       have hle2 := lt_of_block hk2'
       clear hr2 hg2 hb2 hk2 hk2')
    | (go_at_call 79
       refine (gTruth_any X Y _ s (H0.out.keep (below1 _ _))).mono ?_
       rintro e w1 ⟨xq, s1, rfl, hr1, hg1, hb1⟩
       have kb1 := hb1.at (heap_new_at rfl) (show w.heap.size ∉ [X, Y] by simp; omega)
       have f0 := free_in kb1 0
       have q0 := cell_in (j := 0) kb1 rfl
       have hlt1 := hr1.lt
       have hle1 := lt_of_block kb1
       have HB1 := Lib.hid ((ButL.of_below (S := [X, Y, w.heap.size]) (below1 _ _)).trans ((hb1.more (by simp; omega)).set (b := w.heap.size) (by simp) 0 (.bool xq)))
       have HR1 := Lib.hid (hr1.set (B := w.heap.size) (by omega) 0 (.bool xq))
       have HK1 := Lib.hid (set_at (j := 0) (u := .bool xq) kb1)
       have HG1 := Lib.hid hg1
       clear hr1 hg1 hb1 kb1))
  obtain ⟨g2_0, hg2_0, ⟨g2_1, hg2_1, hs2⟩⟩ := HG2.out
  subst hs2
  obtain ⟨g3_0, hg3_0, hs3⟩ := HG3.out
  subst hs3
  have hX := set4 HK3.out rfl (.bool xq) (.int .i64 xf) (.int .i64 xt) (.int .i64 xs)
  refine bodyPost_ret (results_cell_row (P := Try.prog) rfl _ _ w.heap.size _ _ (0, 0) _ rfl hX Try.underlying79 rfl Try.sizeCh_conf) rfl ?_
  exact ⟨⟨xq, xf, xt, xs⟩, _, rfl, ((((HR3.out.set (B := w.heap.size) (by omega) 0 _).set (B := w.heap.size) (by omega) 1 _).set (B := w.heap.size) (by omega) 2 _).set (B := w.heap.size) (by omega) 3 _), (Got.two HG1.out (Got.two hg2_0 (Got.two hg2_1 hg3_0))).map _, ((((HB3.out.set (b := w.heap.size) (by simp) 0 _).set (b := w.heap.size) (by simp) 1 _).set (b := w.heap.size) (by simp) 2 _).set (b := w.heap.size) (by simp) 3 _).more (by simp; omega)⟩
end Go.Proofs.Ytiombjkjoehjpaa
