/- The program's wheel: on by a tick. -/
import Derived.Test.YtbjhoncojegjiaaDoorWheelU
import Derived.Deep.RegionLaw
import Derived.Deep.CutRange
import Derived.Deep.CutBlock
import Derived.Maps.OwnIn
import Derived.Maps.AppendAt
import Derived.Test.YtbjhoncojegjiaaDoorHandIn
namespace Go.Proofs.YtbjhoncojegjiaaDoor
open Go.ChangeShapes Go.WideShapes Go.ChangeAt Go.RowKit Go.Shelf
set_option linter.unusedVariables false
attribute [local go_sem] Oper.semAt_some

theorem below_drewN (w : World) (q : Nat) : Below w.heap.size w (w.drewN q) := ⟨rfl, rfl, rfl, Nat.le_refl _, fun _ _ => rfl⟩
/-- The library's table is as start-up has laid it. -/
structure TbOk (w : World) : Prop where
  at_ : TabAt 1 Lib.deBruijn64tab w
theorem TbOk.lt {w : World} (h : TbOk w) : 1 < w.heap.size := by
  obtain ⟨o, ho, _⟩ := cells_of_cell (h.at_ 0 (by decide))
  exact lt_of_block ho
theorem TbOk.same {w w' : World} (h : TbOk w) (hs : w'.heap[1]? = w.heap[1]?) : TbOk w' := ⟨fun j hj => (World.cell?_of_block (w := w) hs).trans (h.at_ j hj)⟩
theorem TbOk.later {w w' : World} (h : TbOk w) (hb : Below w.heap.size w w') : TbOk w' := h.same (hb.block _ h.lt)
theorem TbOk.set {w : World} (h : TbOk w) {b : Nat} (hb : b ≠ 1) (j : Nat) (v : Value) : TbOk (w.setCell ⟨b, j, none⟩ v) := h.same (Below.heap_setCell _ _ _ _ (fun e => hb (Eq.symm e)))
/-- The end of Go. -/
theorem GoB.finish {w0 W W3 : World} {S0 : Nat → Prop} {H n : Nat} {len len' : Int} {wb cb sb D : Nat} {y : Nat → Int} {sl : Nat → Value} {L : Nat → List Nat} {C : List Nat} {v : Value} (h : GoB w0 S0 H n len wb cb sb y sl L C v W) (hD : w0.heap.size ≤ D) (hdef : W.heap[D]? = some (.deferred (some []))) (hg : (W.setCell ⟨H, 2, none⟩ (.int .i64 len')).drew.grownBy W3 v.ownBlock) (o : Obj) :
    WMem (W3.putObj D o) H n len' y sl L ∧ GrowS S0 (WOwn H sl) w0 (W3.putObj D o) ∧ W3.heap[D]? = some (.deferred (some [])) ∧ W3.heap[cb]? = some (.cells #[v] 30 (0, 0)) := by
  have hm : WMem (W.setCell ⟨H, 2, none⟩ (.int .i64 len')).drew H n len' y sl L := (h.mem.set_len len').later (Below.refl _ _).drew
  have hsz : (W.setCell ⟨H, 2, none⟩ (.int .i64 len')).drew.heap.size = W.heap.size := by rw [heap_drew]; simp
  have hHD : D ≠ H := fun e => by
    obtain ⟨cur, h1, _⟩ := h.mem.c
    rw [e, h1] at hdef; cases hdef
  have hvD : ∀ g, v.ownBlock = some g → g ≠ D := fun g hg e => by
    obtain ⟨_, cs, h1⟩ := owns_block h.row g hg
    rw [e, hdef] at h1; cases h1
  have hoD : ¬ WOwn H sl D := fun hw => by
    rcases hw with e | ⟨j, hj, e⟩
    · exact hHD e
    · obtain ⟨_, cs, h1⟩ := owns_block (h.mem.r.row j hj) D e
      rw [hdef] at h1; cases h1
  have hcH : cb ≠ H := fun e => h.nc (.inl e)
  have k1 : ∀ b, b < W.heap.size → v.ownBlock ≠ some b → W3.heap[b]? = (W.setCell ⟨H, 2, none⟩ (.int .i64 len')).heap[b]? := fun b hb hv => hg.block b (by rw [hsz]; exact hb) (fun e => hv e.symm)
  refine ⟨hm.same fun b hb => ?_, ?_, ?_, ?_⟩
  · have hbD : b ≠ D := fun e => hoD (e ▸ hb)
    exact (World.putObj_heap_other hbD).trans (k1 b (h.mem.lt b hb) (fun e => (h.nv b e).1 hb))
  · refine ⟨hg.os.trans h.grow.os, hg.tape.trans h.grow.tape, hg.output.trans h.grow.output, by simpa using Nat.le_trans h.grow.size (by have := hg.size; omega), fun k hk hS => ?_, h.grow.own⟩
    have hk2 : k < W.heap.size := Nat.lt_of_lt_of_le hk h.grow.size
    have hkH : k ≠ H := fun e => by
      rcases h.grow.own H (.inl rfl) with h1 | h1
      · exact hS (e ▸ h1)
      · omega
    refine (World.putObj_heap_other (by omega)).trans ((k1 k hk2 (fun e => ?_)).trans ((Below.heap_setCell _ _ _ _ hkH).trans (h.grow.block k hk hS)))
    have := (owns_block h.row k e).1
    omega
  · exact (k1 D (lt_of_block hdef) (fun e => hvD D e rfl)).trans ((Below.heap_setCell _ _ _ _ hHD).trans hdef)
  · exact (k1 cb (lt_of_block h.cbx) (fun e => (h.nv cb e).2.2.2 rfl)).trans ((Below.heap_setCell _ _ _ _ hcH).trans h.cbx)
/-- The sort of who has come. -/
theorem sortC_any (w : World) (base : Nat) (ao : Option Addr) (cp : Nat) (C : List Nat) (hC : C.length ≤ 256) (h : w.ownsRow base 3 1 (.slice ao C.length cp) C.length (natCells C)) :
    Calls Tryd.prog 30 #[.slice ao C.length cp] w fun e w' => e = .returned (.tuple #[]) ∧ w'.ownsRow base 3 1 (.slice ao C.length cp) C.length (((nI C).mergeSort fun a b => decide (a ≤ b)).map (Value.int .i64)) ∧ w.grownBy w' (Value.slice ao C.length cp).ownBlock := by
  rcases h.2 with ⟨hv, h0⟩ | ⟨g, c', cur, hv, hb, hg, a1, a2, a3, a4⟩
  · have : C = [] := List.eq_nil_of_length_eq_zero h0
    subst this
    refine (Tryd.sort_none ao cp w).mono ?_
    rintro e w' ⟨rfl, rfl⟩
    exact ⟨rfl, by simpa [nI, natCells] using h, World.grownBy.refl _ _⟩
  · cases hv
    have hn : (nI C).length = C.length := nI_len C
    have ht : cur.toList.take (nI C).length = (nI C).map (Value.int .i64) := by rw [hn, ← Nat.mul_one C.length, a4]; rfl
    have := Tryd.sort_any g 0 cp (nI C) w (holds_of_blockI hg ht) (lt_of_block hg) (by omega)
    rw [hn] at this
    refine this.mono ?_
    rintro e w' ⟨rfl, q, os, rfl⟩
    refine ⟨rfl, ?_, grownBy_sortedI _⟩
    have h3 := ownsRow_sortedI (n := q) (os := os) (base := base) (cap := cp) (ss := nI C) (ts := (nI C).mergeSort fun a b => decide (a ≤ b)) (List.length_mergeSort _) hb hg (by omega) a2 a3
    rwa [hn] at h3
theorem GoI.lens {w0 : World} {S0 : Nat → Prop} {H n : Nat} {len : Int} {wb cb sb : Nat} {y0 : Nat → Int} (ht : turnK n < 256) {i : List Nat} {W : World} (h : GoI w0 S0 H n len wb cb sb y0 i W) : ∃ ao cp, W.cell? ⟨H, 259 + turnK n, none⟩ = some (.slice ao i.length cp) := by
  obtain ⟨y, sl, L, C, v, h, m⟩ := h
  obtain ⟨ao, cp, hv, _⟩ := owns_slice2 (h.mem.r.row _ ht)
  rw [m.is] at hv
  exact ⟨ao, cp, by rw [(h.mem.c.slot ht).1, hv]⟩
set_option maxRecDepth 100000 in
theorem leaving_any (w : World) (p : Option Addr) : Calls Tryd.prog 29 #[.pointer p] w fun e w' => e = .returned (.func (.func 36) #[] #[.pointer (some ⟨w.heap.size, 0, none⟩)]) ∧ w' = w.alloc (.cells #[.pointer p] 54) := by
  go_enter Tryd.func29, Tryd.ntmps29
  go_wp2
  go_ret
  exact ⟨rfl, rfl⟩
set_option maxRecDepth 100000 in
set_option maxHeartbeats 600000 in
theorem goW_any (w : World) (H n0 n : Nat) (hnn : n = n0 + 1) (len : Int) (y : Nat → Int) (sl : Nat → Value) (L : Nat → List Nat) (h : WMem w H n0 len y sl L) (hl : WLog n0 y L) (hn : n ≤ 4611686018427387904) (hlen : 0 ≤ len ∧ len ≤ 256) (hT : TbOk w) (hHg : H ≠ 1) :
    Calls Tryd.prog 16 #[.pointer (some ⟨H, 0, none⟩)] w fun e w' => ∃ y' sl' L' C ao cp, e = .returned (.slice ao (C : List Nat).length cp) ∧ w'.ownsRow w.heap.size 3 1 (.slice ao C.length cp) C.length (((nI C).mergeSort fun a b => decide (a ≤ b)).map (Value.int .i64)) ∧ WMem w' H n (len - C.length) y' sl' L' ∧ GMid n y y' L' [] C ∧ GrowS (WOwn H sl) (WOwn H sl') w w' := by
  obtain ⟨V, hV⟩ : ∃ V, V = w.alloc (.cells #[.pointer (some ⟨H, 0, none⟩)] 24) := ⟨_, rfl⟩
  obtain ⟨wb, hwb⟩ : ∃ wb, wb = w.heap.size := ⟨_, rfl⟩
  have hwV : Below w.heap.size w V := by rw [hV]; exact below1 _ _
  have hVs : V.heap.size = w.heap.size + 1 := by rw [hV]; simp
  have hm1 : WMem V H n0 len y sl L := h.later hwV
  have hbx : V.heap[wb]? = some (.cells #[.pointer (some ⟨H, 0, none⟩)] 24 (0, 0)) := by rw [hV, hwb]; exact heap_alloc_new _ _
  have hHw : H < w.heap.size := h.c.lt
  -- now is on
  obtain ⟨V2, hV2⟩ : ∃ V2, V2 = V.setCell ⟨H, 1, none⟩ (.int .i64 (n : Int)) := ⟨_, rfl⟩
  have hm2 : WMem V2 H n len y sl L := by rw [hV2]; exact hm1.set_now _
  have hg2 : GrowS (WOwn H sl) (WOwn H sl) w V2 := (GrowS.of_below hwV).trans (by rw [hV2]; exact grow_set hm1 1 _)
  have hbx2 : V2.heap[wb]? = some (.cells #[.pointer (some ⟨H, 0, none⟩)] 24 (0, 0)) := by rw [hV2]; exact (Below.heap_setCell _ _ _ _ (by show wb ≠ H; omega)).trans hbx
  have hV2s : V2.heap.size = w.heap.size + 1 := by rw [hV2]; simpa using hVs
  -- the box of who comes
  obtain ⟨V3, hV3⟩ : ∃ V3, V3 = V2.alloc (.cells #[.slice none 0 0] 30) := ⟨_, rfl⟩
  obtain ⟨cb, hcb⟩ : ∃ cb, cb = V2.heap.size := ⟨_, rfl⟩
  have hb3 : Below V2.heap.size V2 V3 := by rw [hV3]; exact below1 _ _
  have hm3 : WMem V3 H n len y sl L := hm2.later hb3
  have hbx3 := (hb3.block _ (lt_of_block hbx2)).trans hbx2
  have hcx3 : V3.heap[cb]? = some (.cells #[.slice none 0 0] 30 (0, 0)) := by rw [hV3, hcb]; exact heap_alloc_new _ _
  have hV3s : V3.heap.size = w.heap.size + 2 := by rw [hV3]; simp; omega
  have hg3 : GrowS (WOwn H sl) (WOwn H sl) w V3 := hg2.trans (GrowS.of_below hb3)
  have hT3 : TbOk V3 := by
    have hT1 := (hT.later hwV)
    have hT2 : TbOk V2 := by rw [hV2]; exact hT1.set hHg _ _
    exact hT2.later hb3
  have hlt : Hid (∀ b, WOwn H sl b → b < w.heap.size) := Lib.hid h.lt
  have h0 : n ≠ 0 := by omega
  have htk := turnK_lt h0 (by omega : n < 2 ^ 64)
  have HM3 := Lib.hid hm3; have HG3 := Lib.hid hg3; have HX3 := Lib.hid hbx3; have HC3 := Lib.hid hcx3; have HS3 := Lib.hid hV3s
  have HTU : Hid (∀ X, Below V3.heap.size V3 X → Calls Tryd.prog 28 #[.pointer (some ⟨H, 259, none⟩), .int .i64 n] X fun e w' => e = .returned (.pointer (some ⟨H, 259 + turnK n, none⟩)) ∧ Below X.heap.size X w') := Lib.hid (fun X hX => (turn_any X H n h0 (by omega) (hT3.later hX).at_).mono (by rintro e w' ⟨rfl, q, rfl⟩; exact ⟨rfl, below_drewN X q⟩))
  have KS : Hid (∀ X, Below V3.heap.size V3 X → X.cell? ⟨wb, 0, none⟩ = some (.pointer (some ⟨H, 0, none⟩)) ∧ X.cell? ⟨H, 1, none⟩ = some (.int .i64 n)) := Lib.hid (fun X hX => ⟨cell_in ((hX.block _ (lt_of_block hbx3)).trans hbx3) rfl, (hm3.later hX).c.now_.1⟩)
  have HL0 := Lib.hid hl; have HMI := Lib.hid hm1.c.madeIs
  have HV := Lib.hid hV; have HV2 := Lib.hid hV2; have HV3 := Lib.hid hV3
  have HWB := Lib.hid hwb; have HCB := Lib.hid hcb; have HHW := Lib.hid hHw; have HNN := Lib.hid hnn
  obtain ⟨k0, k1⟩ := hm1.c.now_
  have kb : V.cell? ⟨wb, 0, none⟩ = some (.pointer (some ⟨H, 0, none⟩)) := cell_in hbx rfl
  have n1 : ((n0 : Int) == 4611686018427387904) = false := by simp; omega
  have n2 : decide ((n0 : Int) = 4611686018427387904) = false := decide_eq_false (by omega)
  have n3 : (n0 : Int) + 1 = (n : Int) := by omega
  have n4 : (n0 : Int) + 1 ≤ 4611686018427387904 := by omega
  clear h hl hT hV hwb hwV hVs hm1 hbx hHw hV2 hm2 hg2 hbx2 hV2s hV3 hcb hb3 hm3 hbx3 hcx3 hV3s hg3 hT3 hnn
  refine (callsIn_wide (n := 3)).1 ?_
  refine callsIn_of_wp_marks Tryd.func16 rfl trivial ?_ rfl
  simp only [Tryd.ntmps16, List.size_toArray, List.length_cons, List.length_nil, Nat.reduceAdd, Nat.reduceSub, Array.replicate_succ, Array.replicate_zero, List.push_toArray, List.append_toArray, List.nil_append, List.cons_append]
  refine wpIn_wide.2 ?_
  go_upto_region 1 with fail
  rw [← HV.out, ← HWB.out]
  go_upto_region 4 with (first
    | (go_at_call 27; refine HMI.out.mono ?_; rintro e w3 ⟨rfl, hw3⟩; rw [hw3]; clear hw3)
    | fail "no arm")
  rw [← HV2.out]
  clear k0 k1 kb
  go_upto_region 5 with fail
  rw [← HV3.out, ← HCB.out]
  obtain ⟨k0, k1⟩ := HM3.out.c.now_
  have kb : V3.cell? ⟨wb, 0, none⟩ = some (.pointer (some ⟨H, 0, none⟩)) := cell_in HX3.out rfl
  go_region_held3 (fun X => X.cell? ⟨wb, 0, none⟩ = some (.pointer (some ⟨H, 0, none⟩)) ∧ X.cell? ⟨H, 1, none⟩ = some (.int .i64 n))
    (first | exact KS.out _ (Below.refl _ _).drew | exact KS.out _ (hb4.alloc hb4.size _) | exact KS.out _ (by assumption) | fail "no")
    (first
      | (go_at_call 29; have _z := hb4; refine (leaving_any _ _).mono ?_; rintro e w5 ⟨rfl, hw5⟩; have hb5 : Below V3.heap.size V3 w5 := by (rw [hw5]; exact hb4.alloc hb4.size _))
      | (go_at_call 28; refine (HTU.out _ (by first | exact (Below.refl _ _).drew | assumption)).mono ?_; rintro e w4 ⟨rfl, hb4'⟩; have hb4 : Below V3.heap.size V3 w4 := (Below.refl _ _).drew.trans hb4')
      | fail "no arm")
  rw [← hw5]
  obtain ⟨sb, hsb⟩ : ∃ sb, sb = w4.heap.size := ⟨_, rfl⟩
  rw [← hsb]
  have hsb5 : w5.heap[sb]? = some (.cells #[.pointer (some ⟨H, 259 + turnK n, none⟩)] 54 (0, 0)) := by rw [hw5, hsb]; exact heap_alloc_new _ _
  have hsz := hb4.size
  have hs3 := HS3.out
  have hG : GoB w (WOwn H sl) H n len wb cb sb y sl L [] (.slice none 0 0) w5 := by
    have e1 := HWB.out
    have e2 := HCB.out
    have e3 : V3.heap.size = V2.heap.size + 1 := by rw [HV3.out]; simp
    refine ⟨HM3.out.later hb5, (hb5.block _ (by omega)).trans HX3.out, hsb5, (hb5.block _ (by omega)).trans HC3.out, World.ownsRow_nil _ _ _ _, fun hw => ?_, fun hw => ?_, fun hw => ?_, fun g hg => (by cases hg), by omega, by omega, HG3.out.trans (GrowS.of_below hb5)⟩
    all_goals
      have := hlt.out _ hw
      omega
  have hI : GoI w (WOwn H sl) H n len wb cb sb y (L (turnK n)) w5 := ⟨y, sl, L, [], _, hG, GMid.start h0 hn (by rw [HNN.out]; exact HL0.out)⟩
  have hwz : w.heap.size ≤ w5.heap.size := by have := hb5.size; omega
  have HI := Lib.hid hI
  clear hI hG hsb5 hsb hw5 hb5 hb4 hb4' _z k0 k1 kb HL0 HMI HV HV2 HV3 KS HTU HM3 HG3 HX3 HC3 HS3 HCB hsz hs3
  go_wp2_with fail
  refine wpIn_wide.1 (wpIn_rangeFunc_taken (n := 3) (α := Nat) (ι := List Nat) rfl (by omega) (gf := 36) (lb := #[.pointer (some ⟨sb, 0, none⟩)]) rfl trivial (enters_of Tryd.func36 (by kernel_rfl) rfl) (fun x => .int .i64 x) rfl
    (GoI w (WOwn H sl) H n len wb cb sb y) (GoX w (WOwn H sl) H n len wb cb sb y) (fun i => GoI.own _ hwz i) (fun x i => GoX.own _ hwz x i) (L (turnK n)) [] HI.out
    (fun l Bk hBk hY W hi hb => leaves_in 2 (by omega) l sb H (259 + turnK n) Bk _ _ (fun i W ⟨_, _, _, _, _, h, _⟩ => cell_in h.sbx rfl) (fun i W h => GoI.lens htk h) (fun l x W h => GoI.take htk h) hBk hY (L (turnK n)) W hi hb)
    ?a1 ?assign ?body ?done)
  case assign =>
    intro l x W K hK
    gi_wp2
    exact hK
  case body =>
    rintro l x i W ⟨y', sl', L', C, v, h, m⟩
    obtain ⟨hx, t, hyt, ht1, ht2, _⟩ := m.rin x (by simp)
    obtain ⟨ao, cp, rfl, _, _, _⟩ := owns_slice2 h.row
    obtain ⟨c0, c1⟩ := h.mem.c.tick hx
    rw [hyt] at c0
    obtain ⟨c2, _⟩ := h.mem.c.now_
    have c3 : W.cell? ⟨wb, 0, none⟩ = some (.pointer (some ⟨H, 0, none⟩)) := cell_in h.wbx rfl
    have x0 : (0 : Int) ≤ (x : Int) := by omega
    have x1 : (x : Int) < 256 := by omega
    have x2 : x < 256 := hx
    have hC := nodup_le 256 C m.cno (fun j hj => ((m.cin j).1 hj).1)
    have HB := Lib.hid h; have HM := Lib.hid m; have HYT := Lib.hid hyt
    by_cases he : t = n
    · have t0 : ((t : Int) == (n : Int)) = true := by simp; omega
      obtain ⟨W2, hW2⟩ : ∃ W2, W2 = W.setCell ⟨H, 3 + x, none⟩ (.int .i64 0) := ⟨_, rfl⟩
      have hm2 : WMem W2 H n len (updR y' x 0) sl' (updR L' (turnK n) i) := by rw [hW2]; exact h.mem.set_tick hx 0
      have hg2 : GrowS (WOwn H sl') (WOwn H sl') W W2 := by rw [hW2]; exact grow_set h.mem _ _
      have h2 := h.wheel hm2 hg2
      have hk2 := grow_others h.mem hg2
      have H2 := Lib.hid h2; have K2 := Lib.hid hk2; have HW2 := Lib.hid hW2
      have HE := Lib.hid he
      clear h m hyt hW2 hm2 hg2 h2 hk2 ht1 ht2 he
      gi_upto_region 10 with fail
      rw [← HW2.out]
      clear c0 c1 c2 c3
      have c0 : W2.cell? ⟨cb, 0, none⟩ = some (.slice ao C.length cp) := cell_in H2.out.cbx rfl
      have hrow := H2.out.row
      obtain ⟨i0, hi0, hz0, hz1, hz2⟩ := info_parts Tryd.infoInt
      gi_wp2_with (first
        | (gi_at_builtin
           refine wpListIn_append_own_at _ rfl _ _ 30 rfl w.heap.size 3 i0 (.int .i64 0) 1 8 Tryd.underlying30 hi0 hz0 hz1 hz2 rfl (by decide) _ _ _ rfl (hrow.alloc _) ⟨W2.heap.size, 0, none⟩ 1 1 [.int .i64 (x : Int)] rfl rfl (cell_one_new _ _ _) (by simp [Value.oneCell']) (by simp only [maxLen]; omega) (by omega) (by have := H2.out.grow.size; simp; omega) ?_
           intro v' w6 hown6 hgrow6 _ hblk6
           obtain ⟨ao', cp', rfl, _, _, _⟩ := owns_slice2 hown6
           obtain ⟨hG6, hK6⟩ := H2.out.come (below1 W2 (.cells #[.int .i64 (x : Int)] 3)) hown6 hgrow6 hblk6
           have hlc := lt_of_block H2.out.cbx
           have hcb6 : w6.heap[cb]? = some (.cells #[.slice ao C.length cp] 30 (0, 0)) := (hgrow6.block cb (by simp; omega) (fun e => (H2.out.nv cb e.symm).2.2.2 rfl)).trans ((Below.heap_alloc _ _ _ hlc).trans H2.out.cbx)
           have k0 : w6.cell? ⟨cb, 0, none⟩ = some (.slice ao C.length cp) := cell_in hcb6 rfl
           have k1 : w6.frozen? ⟨cb, 0, none⟩ = false := free_in hcb6 0)
        | gi_in)
      exact ⟨K2.out.trans hK6, updR y' x 0, sl', updR L' (turnK n) i, C ++ [x], _, hG6, HM.out.come htk (by rw [HYT.out, HE.out])⟩
    · have t0 : ((t : Int) == (n : Int)) = false := by simp; omega
      have hk : slotK n t < 256 := slotK_lt (by omega) (by omega)
      obtain ⟨hne, hmid⟩ := m.lower h0 hn htk hyt he hk
      have hll := m.len hk
      have HSL : Hid (∀ X, Calls Tryd.prog 24 #[.pointer (some ⟨H, 259, none⟩), .int .i64 n, .int .i64 t] X fun e w' => e = .returned (.pointer (some ⟨H, 259 + slotK n t, none⟩)) ∧ Below X.heap.size X w') := Lib.hid (fun X => (slot_any X H n t (by omega) (by omega) (fun e => he e.symm)).mono (by rintro e w' ⟨rfl, q, rfl⟩; exact ⟨rfl, below_drewN X q⟩))
      have HPU : Hid (∀ X, Below W.heap.size W X → Calls Tryd.prog 25 #[.pointer (some ⟨H, 259 + slotK n t, none⟩), .int .i64 x] X fun e w' => e = .returned (.tuple #[]) ∧ KeepsOthers W w' ∧ GoI w (WOwn H sl) H n len wb cb sb y i w') := Lib.hid (fun X hX => by
        have hu : updR L' (turnK n) i (slotK n t) = L' (slotK n t) := updR_ne _ _ hne
        have hp := put_any (h.mem.later hX) (slotK n t) hk x (by rw [hu]; omega)
        rw [hu] at hp
        refine hp.mono ?_
        rintro e w' ⟨v, rfl, hm, hg⟩
        exact ⟨rfl, grow_others h.mem ((GrowS.of_below hX).trans hg), y', _, _, C, _, (h.later hX).wheel hm hg, hmid⟩)
      have KS : Hid (∀ X, Below W.heap.size W X → X.cell? ⟨wb, 0, none⟩ = some (.pointer (some ⟨H, 0, none⟩)) ∧ X.cell? ⟨H, 1, none⟩ = some (.int .i64 n)) := Lib.hid (fun X hX => ⟨cell_in (h.later hX).wbx rfl, (h.later hX).mem.c.now_.1⟩)
      have hf1 : Fence.wide.fn 24 := trivial
      have hf2 : Fence.wide.fn 25 := trivial
      clear h m hyt ht1 ht2 he hk hne hmid hll c1 HB HM HYT
      gi_wp2
      refine wpIn_region_held_round (S := fun X => X.cell? ⟨wb, 0, none⟩ = some (.pointer (some ⟨H, 0, none⟩)) ∧ X.cell? ⟨H, 1, none⟩ = some (.int .i64 n)) (by kernel_rfl) (fun ⟨_, _, h⟩ => h) (by kernel_rfl) ?_ (fun hHeld => ?_)
      · exact KS.out _ (Below.refl _ _).drew
      refine wpAnyH_takeE (i := 0) (d := some 54) (v := ?_) rfl rfl (by kernel_rfl) (by kernel_rfl) (by kernel_rfl) (fun _ _ _ h => h) (Or.inl ⟨by rfl, ?_⟩) (by assumption) ?_
      rotate_left
      · intro w hSw
        (try dsimp only at hSw)
        go_simp
        try (with_reducible rfl)
      simp only [Act.put, List.setIfInBounds_toArray, List.set_cons_zero, List.set_cons_succ]
      refine wpAnyH_takeE (i := 1) (d := some 55) (v := ?_) rfl rfl (by kernel_rfl) (by kernel_rfl) (by kernel_rfl) (fun _ _ _ h => h) (Or.inl ⟨by rfl, ?_⟩) (by assumption) ?_
      rotate_left
      · intro w hSw
        (try dsimp only at hSw)
        go_simp
        try (with_reducible rfl)
      simp only [Act.put, List.setIfInBounds_toArray, List.set_cons_zero, List.set_cons_succ]
      refine wpAnyH_takeE (i := 2) (d := some 56) (v := ?_) rfl rfl (by kernel_rfl) (by kernel_rfl) (by kernel_rfl) (fun _ _ _ h => h) (Or.inl ⟨by rfl, ?_⟩) (by assumption) ?_
      rotate_left
      · intro w hSw
        (try dsimp only at hSw)
        go_simp
        try (with_reducible rfl)
      simp only [Act.put, List.setIfInBounds_toArray, List.set_cons_zero, List.set_cons_succ]
      refine wpAnyH_takeE (i := 3) (d := some 57) (v := ?_) rfl rfl (by kernel_rfl) (by kernel_rfl) (by kernel_rfl) (fun _ _ _ h => h) (Or.inl ⟨by rfl, ?_⟩) (by assumption) ?_
      rotate_left
      · intro w hSw
        (try dsimp only at hSw)
        go_simp
        try (with_reducible rfl)
      simp only [Act.put, List.setIfInBounds_toArray, List.set_cons_zero, List.set_cons_succ]
      refine wpAnyH_takeE (i := 4) (d := some 58) (v := ?_) rfl rfl (by kernel_rfl) (by kernel_rfl) (by kernel_rfl) (fun _ _ _ h => h) (Or.inl ⟨by rfl, ?_⟩) (by assumption) ?_
      rotate_left
      · intro w hSw
        (try dsimp only at hSw)
        go_simp
        try (with_reducible rfl)
      simp only [Act.put, List.setIfInBounds_toArray, List.set_cons_zero, List.set_cons_succ]
      refine wpAnyH_takeE (i := 5) (d := some 59) (v := ?_) rfl rfl (by kernel_rfl) (by kernel_rfl) (by kernel_rfl) (fun _ _ _ h => h) (Or.inl ⟨by rfl, ?_⟩) (by assumption) ?_
      rotate_left
      · intro w hSw
        (try dsimp only at hSw)
        go_simp
        try (with_reducible rfl)
      simp only [Act.put, List.setIfInBounds_toArray, List.set_cons_zero, List.set_cons_succ]
      refine wpAnyH_takeE (i := 6) (d := some 60) (v := ?_) rfl rfl (by kernel_rfl) (by kernel_rfl) (by kernel_rfl) (fun _ _ _ h => h) (Or.inl ⟨by rfl, ?_⟩) (by assumption) ?_
      rotate_left
      · intro w hSw
        (try dsimp only at hSw)
        go_simp
        try (with_reducible rfl)
      simp only [Act.put, List.setIfInBounds_toArray, List.set_cons_zero, List.set_cons_succ]
      refine wpAnyH_takeE (i := 7) (d := some 61) (v := ?_) rfl rfl (by kernel_rfl) (by kernel_rfl) (by kernel_rfl) (fun _ _ _ h => h) (Or.inl ⟨by rfl, ?_⟩) (by assumption) ?_
      rotate_left
      · intro w hSw
        (try dsimp only at hSw)
        go_simp
        try (with_reducible rfl)
      simp only [Act.put, List.setIfInBounds_toArray, List.set_cons_zero, List.set_cons_succ]
      refine wpAnyH_takeE (i := 9) (d := some 63) (v := ?_) rfl rfl (by kernel_rfl) (by kernel_rfl) (by kernel_rfl) (fun _ _ _ h => h) (Or.inl ⟨by rfl, ?_⟩) (by assumption) ?_
      rotate_left
      · intro w hSw
        (try dsimp only at hSw)
        go_simp
        try (with_reducible rfl)
      simp only [Act.put, List.setIfInBounds_toArray, List.set_cons_zero, List.set_cons_succ]
      refine wpAnyH_ready (rs := [8]) (by kernel_rfl) (by simp) ?_
      refine AllReadyH.cons rfl (fun K hK => ?_) AllReadyH.nil
      go_simp
      go_at_call 24
      refine (HSL.out _).mono ?_
      rintro e w4 ⟨rfl, hb4'⟩
      have hb4 : Below W.heap.size W w4 := (Below.refl _ _).drew.trans hb4'
      refine hK.out _ _ ?_ (fun hHeld => ?_)
      · exact KS.out _ hb4
      clear hK K
      try simp only [Act.put, List.setIfInBounds_toArray, List.set_cons_zero, List.set_cons_succ]
      refine wpAnyH_ready (rs := [10]) (by kernel_rfl) (by simp) ?_
      refine AllReadyH.cons rfl (fun K hK => ?_) AllReadyH.nil
      go_simp
      go_at_call 25
      refine (HPU.out _ hb4).mono ?_
      rintro e w5 ⟨rfl, hk5, hi5⟩
      refine hK.out _ _ ?_ (fun hHeld => ?_)
      · obtain ⟨_, _, _, _, _, h5, _⟩ := hi5
        exact ⟨cell_in h5.wbx rfl, h5.mem.c.now_.1⟩
      clear hK K
      try simp only [Act.put, List.setIfInBounds_toArray, List.set_cons_zero, List.set_cons_succ]
      refine wpAnyH_done (by kernel_rfl) ?_ _
      gi_wp2
      exact ⟨hk5, hi5⟩
  case done =>
    rintro D W hD ⟨y', sl', L', C, v, h, m⟩ hdef
    obtain ⟨ao, cp, rfl, _, _, _⟩ := owns_slice2 h.row
    have hC := nodup_le 256 C m.cno (fun j hj => ((m.cin j).1 hj).1)
    obtain ⟨c0, c1⟩ := h.mem.c.len_
    have c2 : W.cell? ⟨wb, 0, none⟩ = some (.pointer (some ⟨H, 0, none⟩)) := cell_in h.wbx rfl
    have c3 : W.cell? ⟨cb, 0, none⟩ = some (.slice ao C.length cp) := cell_in h.cbx rfl
    obtain ⟨len', hlen'⟩ : ∃ len', len' = len - (C.length : Int) := ⟨_, rfl⟩
    obtain ⟨W2, hW2⟩ : ∃ W2, W2 = (W.setCell ⟨H, 2, none⟩ (.int .i64 len')).drew := ⟨_, rfl⟩
    have hr2 : W2.ownsRow w.heap.size 3 1 (.slice ao C.length cp) C.length (natCells C) := by
      rw [hW2]
      exact owns_same h.row fun g hg => Below.heap_setCell _ _ _ _ (fun e => (h.nv g hg).1 (.inl e))
    have hcb2 : W2.heap[cb]? = some (.cells #[.slice ao C.length cp] 30 (0, 0)) := by rw [hW2]; exact (Below.heap_setCell _ _ _ _ (fun e => h.nc (.inl e))).trans h.cbx
    have HB := Lib.hid h; have HM := Lib.hid m; have HW2 := Lib.hid hW2; have HDF := Lib.hid hdef; have HLN := Lib.hid hlen'
    have HSO := Lib.hid (sortC_any W2 w.heap.size ao cp C hC hr2)
    have HCB2 := Lib.hid hcb2
    have hl0 : (-256 : Int) ≤ len := by omega
    have hl1 : len ≤ 256 := by omega
    clear h m hW2 hdef hr2 hcb2 hlen'
    go_wp2_with fail
    go_region
    rw [← HLN.out, ← HW2.out]
    clear c0 c1 c2 c3
    have c3 : W2.cell? ⟨cb, 0, none⟩ = some (.slice ao C.length cp) := cell_in HCB2.out rfl
    go_wp2_with (go_at_call 30; refine HSO.out.mono ?_; rintro e w6 ⟨rfl, hr6, hg6⟩; have hF := HB.out.finish (len' := len') (Nat.le_trans hwz hD) HDF.out (by rw [← HW2.out]; exact hg6) (.deferred none); have k6 : w6.cell? ⟨cb, 0, none⟩ = some (.slice ao C.length cp) := cell_in hF.2.2.2 rfl; have HF := Lib.hid hF; have HR6 := Lib.hid hr6; clear hF hr6 hg6)
    refine ⟨by simp, .inl ⟨_, _, rfl, run_takeDeferred HF.out.2.2.1, ?_⟩⟩
    refine ⟨_, results_tmp rfl _ _ _, y', sl', L', C, ao, cp, rfl, ?_, by have := HF.out.1; rwa [HLN.out] at this, HM.out, HF.out.2.1⟩
    refine owns_same HR6.out fun g hg => World.putObj_heap_other (fun e => ?_)
    obtain ⟨_, cs, h1⟩ := owns_block HR6.out g hg
    rw [e, HF.out.2.2.1] at h1
    cases h1
end Go.Proofs.YtbjhoncojegjiaaDoor
