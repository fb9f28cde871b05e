/- The program's table of jobs: New; tasksOk. -/
import Derived.Test.YtnenbgdonkgkfaaGreatTaskW
import Derived.Test.YtnenbgdonkgkfaaGreatHeapN
import Derived.Test.YtnenbgdonkgkfaaGreatBuild
import Derived.Lib.SliceRun
import Derived.Deep.CutRange
import Derived.Deep.CutBlock
namespace Go.Proofs.YtnenbgdonkgkfaaGreat
open Go.ChangeShapes Go.WideShapes Go.ChangeAt Go.RowKit
set_option linter.unusedVariables false

set_option maxRecDepth 100000 in
theorem built_part19 (a : Option Addr) (n c : Nat) : Tryz.prog.built 87 [(0, .slice a n c)] = some #[.slice a n c, .slice none 0 0, .slice none 0 0, .int .u8 0, .int .u8 0, .int .u8 0] := by kernel_rfl
def seatZ : Array Value := #[.int .i64 0, .int .i64 0, .int .i64 0, .int .i64 0, .slice none 0 0, .bool false, .int .i64 0, .int .i64 0, .int .i64 0, .int .i64 0, .int .i64 0]
theorem Tryz.infoSeat : (Tryz.prog.info? 82).map (fun i => (i.zero, i.size, i.bytes)) = some (some (.agg seatZ), 11, 104) := by kernel_rfl
def seatObj (n : Nat) : Obj := .cells (madeCells (Value.agg seatZ).cells (n * 11)) 82
theorem run_make_seats (n : Nat) (hn : n ≤ 6) (W : World) : (Instr.makeSlice 75 (.int .i64 (n : Int)) (.int .i64 (n : Int))).run Tryz.prog W = .ok (.slice (some ⟨W.heap.size, 0, none⟩) n n) (W.alloc (seatObj n)) := by
  obtain ⟨i0, hi0, hz0, hz1, hz2⟩ := info_parts Tryz.infoSeat
  have h := run_make (P := Tryz.prog) W 75 82 i0 _ Tryz.underlying75 hi0 hz0 .i64 .i64 (n : Int) (n : Int) (by omega) (by omega) (by rw [hz2]; omega) (by omega)
  rw [h, hz1]
  rfl
theorem tk0 (i : Nat) : tkAt [] i = ⟨false, 0, 0, 0, 0, 0⟩ := by unfold tkAt; simp
theorem seats_made {w : World} {G n : Nat} (h : w.heap[G]? = some (seatObj n)) : SeatsC w G n (seatV (fun _ => Jc.z) []) := by
  refine ⟨_, h, by simp [madeCells], fun i hi r hr => ?_⟩
  have hz : (i * 11 + r) % 11 = r := by omega
  have hlt : i * 11 + r < n * 11 := by omega
  simp only [madeCells, Value.cells]
  simp only [Array.getElem?_map, Array.getElem?_range, hlt, if_true, Option.map_some]
  have hs : seatZ.size = 11 := rfl
  rw [hs, hz]
  match r, hr with
  | 0, _ => rfl
  | 1, _ => rfl
  | 2, _ => rfl
  | 3, _ => rfl
  | 4, _ => rfl
  | 5, _ => simp only [seatV, tk0]; rfl
  | 6, _ => simp only [seatV, tk0]; rfl
  | 7, _ => simp only [seatV, tk0]; rfl
  | 8, _ => simp only [seatV, tk0]; rfl
  | 9, _ => simp only [seatV, tk0]; rfl
  | 10, _ => simp only [seatV, tk0]; rfl
theorem seat_of (ts : List Tk) (k : Nat) (hk : k < ts.length) : ∀ i r, r < 11 → (if i = k ∧ r = 10 then .int .i64 (tkAt ts k).top else if i = k ∧ r = 9 then .int .i64 (tkAt ts k).lo else if i = k ∧ r = 8 then .int .i64 (tkAt ts k).v else if i = k ∧ r = 7 then .int .i64 (tkAt ts k).d else if i = k ∧ r = 6 then .int .i64 (tkAt ts k).t else if i = k ∧ r = 5 then .bool (tkAt ts k).hi else seatV (fun _ => Jc.z) (ts.take k) i r) = seatV (fun _ => Jc.z) (ts.take (k + 1)) i r := by
  intro i r hr
  have ht := tkAt_take hk i
  by_cases e : i = k
  · subst e
    rw [if_pos rfl] at ht
    match r, hr with
    | 0, _ => simp [seatV]
    | 1, _ => simp [seatV]
    | 2, _ => simp [seatV]
    | 3, _ => simp [seatV]
    | 4, _ => simp [seatV]
    | 5, _ => simp [seatV, ht]
    | 6, _ => simp [seatV, ht]
    | 7, _ => simp [seatV, ht]
    | 8, _ => simp [seatV, ht]
    | 9, _ => simp [seatV, ht]
    | 10, _ => simp [seatV, ht]
  · rw [if_neg e] at ht
    simp only [e, false_and, if_false]
    unfold seatV
    rw [ht]
/-- What New has made, ahead of its loop. -/
structure NwAt (w0 w : World) (T G lo hi H W X n : Nat) : Prop where
  box : w.heap[T]? = some (.cells #[.slice (some ⟨G, 0, none⟩) n n, .pointer (some ⟨H, 0, none⟩), .bool false] 78 (0, 0))
  hp : HpD w lo hi H W X n 0 (fun _ => none)
  tg : T ≠ G ∧ ¬ (lo ≤ T ∧ T < hi) ∧ ¬ (lo ≤ G ∧ G < hi)
  new : w0.heap.size ≤ T ∧ w0.heap.size ≤ G ∧ w0.heap.size ≤ lo
  b : Below w0.heap.size w0 w
theorem NwAt.drew {w0 w : World} {T G lo hi H W X n : Nat} (h : NwAt w0 w T G lo hi H W X n) : NwAt w0 w.drew T G lo hi H W X n := ⟨h.box, h.hp.later (Below.refl _ _).drew, h.tg, h.new, h.b.drew⟩
theorem SeatsC.drew {w : World} {G n : Nat} {c : Nat → Nat → Value} (h : SeatsC w G n c) : SeatsC w.drew G n c := h.same rfl
set_option maxRecDepth 100000 in
set_option maxHeartbeats 8000000 in
theorem tnew_any (w : World) (a : Option Addr) (n c : Nat) (ts : List Tk) (hn : ts.length = n) (hl : Lies w 0 w.heap.size (.slice a n c) n 6 (ts.flatMap Tk.cells)) :
    Calls Tryz.prog 19 #[.slice a n c] w fun e w' => (okN ts = true → ∃ H S, e = .returned (.pointer (some ⟨H, 0, none⟩)) ∧ TbP H ts false (fun _ => none) w' S ∧ ∀ k, S k → w.heap.size ≤ k) ∧ (okN ts = false → e = .returned (.pointer none)) ∧ Below w.heap.size w w' := by
  have hR := rights_tasks a n c w ts hn hl
  have HP := Lib.hid (built_part19 a n c)
  cases ho : okN ts with
  | false =>
    rw [ho] at hR
    have HR := Lib.hid hR
    clear hR ho hl hn
    go_enter Tryz.func19, Tryz.ntmps19
    go_wp2_with (first
      | (go_at_call 41; refine HR.out.mono ?_; rintro e w2 ⟨rfl, hb2'⟩; have hb2 := Lib.hid hb2'; clear hb2')
      | (refine wpList_build3 (by rfl) 87 _ (by rfl) [(0, .slice a n c)] (by rfl) _ HP.out ?_)
      | fail "no arm")
    go_ret
    exact ⟨fun h => (by cases h), fun _ => rfl, hb2.out⟩
  | true =>
    rw [ho] at hR
    have HR := Lib.hid hR
    have hn6 : n ≤ 6 := by
      unfold okN at ho
      rw [Bool.and_eq_true, decide_eq_true_eq] at ho
      omega
    have HO : Hid (∀ x ∈ ts, okTk x = true) := Lib.hid (by
      unfold okN at ho
      rw [Bool.and_eq_true, List.all_eq_true] at ho
      exact ho.2)
    have hmk := run_make_seats n hn6
    have KA := Lib.hid (tks_read hn hl)
    have HNN := Lib.hid hn
    have HNW : Hid (∀ Y : World, Calls Tryz.prog 42 #[.int .i64 (n : Int)] Y fun e w' => ∃ hi H W X, e = .returned (.pointer (some ⟨H, 0, none⟩)) ∧ HpD w' Y.heap.size hi H W X n 0 (fun _ => none) ∧ Below Y.heap.size Y w') := Lib.hid (fun Y => by
      have := hnew_any (n : Int) Y
      rw [show (min (max (n : Int) 0) 1024).toNat = n by omega] at this
      exact this)
    clear hR ho hl hn
    go_enter Tryz.func19, Tryz.ntmps19
    go_upto_region 3 with (first
      | (go_at_call 41; refine HR.out.mono ?_; rintro e w2 ⟨rfl, hb2'⟩; have hb2 := Lib.hid hb2'; clear hb2')
      | (refine wpList_build3 (by rfl) 87 _ (by rfl) [(0, .slice a n c)] (by rfl) _ HP.out ?_)
      | fail "no arm")
    go_cut [3] from 10 to 17 (fun s3 wx => ∃ T G lo hi H W X, s3 = .pointer (some ⟨T, 0, none⟩) ∧ Hid (NwAt w wx T G lo hi H W X n) ∧ Hid (SeatsC wx G n (seatV (fun _ => Jc.z) (ts.take 0))))
    case first =>
      go_region_held3 (fun X => True)
        (first | trivial | fail "no")
        (first | (go_at_call 42; refine (HNW.out _).mono ?_; rintro e w3 ⟨hi, H, W, X, rfl, hp3, hb3⟩; have HP3 := Lib.hid hp3; have HB3 := Lib.hid hb3; clear hp3 hb3) | fail "no arm")
      · go_wp2_with fail
        go_meet
        case rel =>
          have hz2 := hb2.out.size
          have hz3 := HB3.out.size
          have hh := HP3.out.lo
          have hs1 : (w2.alloc (seatObj n)).drew.heap.size = w2.heap.size + 1 := by simp
          rw [hs1] at hz3 hh
          have hG : w3.heap[w2.heap.size]? = some (seatObj n) := (HB3.out.block w2.heap.size (by rw [hs1]; omega)).trans (heap_alloc_new _ _)
          have hB2 : Below w.heap.size w (w2.alloc (seatObj n)).drew := (hb2.out.alloc hz2 _).drew
          have hb3 : Below w.heap.size w w3 := hB2.trans (HB3.out.mono hB2.size)
          refine ⟨w3.heap.size, w2.heap.size, w2.heap.size + 1, hi, H, W, X, rfl, Lib.hid ⟨heap_alloc_new _ _, ?_, ⟨by omega, by omega, by omega⟩, ⟨by omega, hz2, by omega⟩, hb3.alloc hb3.size _⟩, Lib.hid (seats_made ((Below.heap_alloc _ _ _ (by omega)).trans hG))⟩
          have := HP3.out.later (below1 w3 (.cells #[.slice (some ⟨w2.heap.size, 0, none⟩) n n, .pointer (some ⟨H, 0, none⟩), .bool false] 78))
          rw [hs1] at this
          exact this
      · go_wp2_with fail
        go_meet
        case rel =>
          have hz2 := hb2.out.size
          have hz3 : w2.heap.size ≤ w3.heap.size := HB3.out.size
          have hh := HP3.out.lo
          have hb3 : Below w.heap.size w w3 := hb2.out.drew.trans (HB3.out.mono hb2.out.drew.size)
          have hn := heap_alloc_new (w3.alloc (seatObj n)) (.cells #[.slice (some ⟨w3.heap.size, 0, none⟩) n n, .pointer (some ⟨H, 0, none⟩), .bool false] 78)
          have hs4 : (w3.alloc (seatObj n)).heap.size = w3.heap.size + 1 := by simp
          rw [hs4] at hn
          refine ⟨w3.heap.size + 1, w3.heap.size, w2.heap.size, hi, H, W, X, rfl, Lib.hid ⟨hn, (HP3.out.later (below1 w3 (seatObj n))).later (below1 _ _), ⟨by omega, by omega, by omega⟩, ⟨by omega, by omega, hz2⟩, b_alloc (hb3.alloc hb3.size _) (Nat.le_refl _) _⟩, Lib.hid (seats_made ((Below.heap_alloc _ _ _ (by rw [hs4]; omega)).trans (heap_alloc_new _ _)))⟩
    case rest =>
    obtain ⟨T, G, lo, hi, H, W, X, rfl, HW0, HS0⟩ := hcut
    clear HP HR hmk HNW
    go_wp2_with fail
    go_loopw [20] (fun s wr => ∃ (k : Nat), k ≤ n ∧ s = .int .i64 k ∧ Hid (NwAt w wr T G lo hi H W X n) ∧ Hid (SeatsC wr G n (seatV (fun _ => Jc.z) (ts.take k)))) (fun s _ => n - (intOf s).toNat)
    case atStart => exact ⟨0, Nat.zero_le _, rfl, HW0, HS0⟩
    case round =>
      clear HW0 HS0
      obtain ⟨k, hk, rfl, HW, HS⟩ := hrel
      by_cases hlt : k < n
      · have d0 : decide ((k : Int) < (n : Int)) = true := decide_eq_true (by omega)
        have d1 : (0 : Int) ≤ (k : Int) := by omega
        have d2 : (k : Int) < (n : Int) := by omega
        have hkL : k < ts.length := by have := HNN.out; omega
        obtain ⟨b, off, ea, ⟨k0, k1, k2, k3, k4, k5⟩, hb⟩ := KA.out wr HW.out.b k hlt
        subst ea
        have HM := Lib.hid (seat_of ts k hkL)
        obtain ⟨x, hx⟩ : ∃ x, x = tkAt ts k := ⟨_, rfl⟩
        rw [← hx] at k0 k1 k2 k3 k4 k5 HM
        clear hb hx hkL
        obtain ⟨x0, x1, x2, x3, x4, x5⟩ := x
        dsimp only at k0 k1 k2 k3 k4 k5 HM
        obtain ⟨V, hV⟩ : ∃ V, V = wr.alloc (.cells #[.bool x0, .int .i64 x1, .int .i64 x2, .int .i64 x3, .int .i64 x4, .int .i64 x5] 56) := ⟨_, rfl⟩
        obtain ⟨E, hE⟩ : ∃ E, E = wr.heap.size := ⟨_, rfl⟩
        have hbl : V.heap[E]? = some (.cells #[.bool x0, .int .i64 x1, .int .i64 x2, .int .i64 x3, .int .i64 x4, .int .i64 x5] 56 (0, 0)) := by rw [hV, hE]; exact heap_alloc_new _ _
        have hVB : Below wr.heap.size wr V := by rw [hV]; exact below1 _ _
        have hC0 := HS.out.same (hVB.block G HS.out.lt)
        obtain ⟨W6, hW6⟩ : ∃ W6, W6 = ((((((V.setCell ⟨G, k * 11 + 5, none⟩ (.bool x0)).setCell ⟨G, k * 11 + 6, none⟩ (.int .i64 x1)).setCell ⟨G, k * 11 + 7, none⟩ (.int .i64 x2)).setCell ⟨G, k * 11 + 8, none⟩ (.int .i64 x3)).setCell ⟨G, k * 11 + 9, none⟩ (.int .i64 x4)).setCell ⟨G, k * 11 + 10, none⟩ (.int .i64 x5)) := ⟨_, rfl⟩
        have hB : But G V W6 := by rw [hW6]; exact ((((((But.refl _ _).set _ _).set _ _).set _ _).set _ _).set _ _).set _ _
        have hC6 : SeatsC W6 G n (seatV (fun _ => Jc.z) (ts.take (k + 1))) := by
          rw [hW6]
          exact ((((((hC0.set (q := 5) hlt (by omega) (.bool x0)).set (q := 6) hlt (by omega) (.int .i64 x1)).set (q := 7) hlt (by omega) (.int .i64 x2)).set (q := 8) hlt (by omega) (.int .i64 x3)).set (q := 9) hlt (by omega) (.int .i64 x4)).set (q := 10) hlt (by omega) (.int .i64 x5)).congr (fun i _ r hr => HM.out i r hr)
        have c0 : V.cell? ⟨T, 0, none⟩ = some (.slice (some ⟨G, 0, none⟩) n n) := cell_in ((hVB.block T (lt_of_block HW.out.box)).trans HW.out.box) rfl
        have hw6 : NwAt w W6 T G lo hi H W X n := by
          have hw := HW.out
          have hv : Below w.heap.size w V := hw.b.trans (hVB.mono hw.b.size)
          have hbox := (hB.block T (lt_of_block ((hVB.block T (lt_of_block hw.box)).trans hw.box)) hw.tg.1).trans ((hVB.block T (lt_of_block hw.box)).trans hw.box)
          have hh := hw.hp.lo
          have hz := hVB.size
          exact ⟨hbox, (hw.hp.later hVB).keep (fun g h1 h2 => hB.block g (by omega) (fun e => hw.tg.2.2 (by subst e; exact ⟨h1, h2⟩))) hB.size, hw.tg, hw.new, hv.trans (hB.below hw.new.2.1 hv.size)⟩
        rw [hW6] at hw6 hC6
        have HFIN := Lib.hid (And.intro hC6 hw6)
        clear hw6 hW6
        have e0 : V.cell? ⟨E, 0, none⟩ = some (.bool x0) := cell_in hbl rfl
        have e1 : V.cell? ⟨E, 1, none⟩ = some (.int .i64 x1) := cell_in hbl rfl
        have e2 : V.cell? ⟨E, 2, none⟩ = some (.int .i64 x2) := cell_in hbl rfl
        have e3 : V.cell? ⟨E, 3, none⟩ = some (.int .i64 x3) := cell_in hbl rfl
        have e4 : V.cell? ⟨E, 4, none⟩ = some (.int .i64 x4) := cell_in hbl rfl
        have e5 : V.cell? ⟨E, 5, none⟩ = some (.int .i64 x5) := cell_in hbl rfl
        have p0 := hC0.at_ (r := 5) hlt (by omega)
        have p1 := hC0.at_ (r := 6) hlt (by omega)
        have p2 := hC0.at_ (r := 7) hlt (by omega)
        have p3 := hC0.at_ (r := 8) hlt (by omega)
        have p4 := hC0.at_ (r := 9) hlt (by omega)
        have p5 := hC0.at_ (r := 10) hlt (by omega)
        have f0 := hC0.free (k * 11 + 5)
        have f1 := hC0.free (k * 11 + 6)
        have f2 := hC0.free (k * 11 + 7)
        have f3 := hC0.free (k * 11 + 8)
        have f4 := hC0.free (k * 11 + 9)
        have f5 := hC0.free (k * 11 + 10)
        have HV := Lib.hid hV
        have HE := Lib.hid hE
        clear hbl hVB hC0 hB hC6 hV hE
        go_upto_region 7 with fail
        rw [← HV.out, ← HE.out]
        clear k0 k1 k2 k3 k4 k5
        go_region
        go_wp2_with fail
        go_roundw
        case rel => exact ⟨k + 1, by omega, by go_num, Lib.hid HFIN.out.2.drew, Lib.hid HFIN.out.1.drew⟩
        case measure => simp [intOf]; omega
      · have d0 : decide ((k : Int) < (n : Int)) = false := decide_eq_false (by omega)
        have hkn : k = n := by omega
        subst hkn
        go_wp2_with fail
        go_ret
        have hw := HW.out
        have hnn := HNN.out
        have hs := HS.out
        rw [List.take_of_length_le (by omega)] at hs
        subst hnn
        have hh := hw.hp.lo
        refine ⟨fun _ => ⟨T, fun g => g = T ∨ g = G ∨ (lo ≤ g ∧ g < hi), rfl, ⟨JsOk.none ts, G, lo, hi, H, W, X, 0, fun _ => Jc.z, ?_⟩, ?_⟩, fun h => (by cases h), hw.b⟩
        · refine ⟨hw.box, hs, hw.hp, (cnt_none _).symm, (JsOk.none ts).w, fun _ => rfl, (fun _ _ h => by cases h), hw.tg, ⟨.inl rfl, .inr (.inl rfl), fun g h1 h2 => .inr (.inr ⟨h1, h2⟩)⟩, ?_, hn6, HO.out⟩
          rintro g (rfl | rfl | hg)
          · exact lt_of_block hw.box
          · exact hs.lt
          · omega
        · rintro g (rfl | rfl | hg)
          · exact hw.new.1
          · exact hw.new.2.1
          · have := hw.new.2.2; omega
/-- The program keeps the contracts. -/
def tasksOk : TasksOk where
  Tb := TbP
  own := tb_own
  bd := tb_bd
  new := fun w a n c ts hn hl _ => tnew_any w a n c ts hn hl
  put := fun w H S ts hi js t arr work done a n c ops h hn hl => tput_any w H S ts hi js t arr work done a n c ops h hn hl
  first := fun w H S ts hi js h => tfirst_any w H S ts hi js h
  run := fun w H S ts hi js t h => trunT_any w H S ts hi js h t
  rise := fun w H S ts hi js h => trise_any w H S ts hi js h
  fall := fun w H S ts hi js h => tfall_any w H S ts hi js h
  high := fun w H S ts hi js h => thigh_any w H S ts hi js h
  missed := fun w H S ts hi js now h => tmissed_any w H S ts hi js h now
  get := fun w H S ts hi js t h => tget_any w H S ts hi js h t
  len := fun w H S ts hi js h => tlen_any w H S ts hi js h
  clear := fun w H S ts hi js h => tclear_any w H S ts hi js h
end Go.Proofs.YtnenbgdonkgkfaaGreat
