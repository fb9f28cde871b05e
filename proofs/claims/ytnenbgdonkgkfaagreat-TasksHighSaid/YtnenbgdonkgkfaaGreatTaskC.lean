/- What is asked of the program's tables of jobs; acts; own, light, knows. -/
import Derived.Test.YtnenbgdonkgkfaaGreatTaskM
import Derived.Test.YtnenbgdonkgkfaaGreatTks
import Derived.Test.YtnenbgdonkgkfaaGreatTwo
import Derived.Test.YtnenbgdonkgkfaaGreatOff
import Derived.Test.YtnenbgdonkgkfaaGreatRead
import Derived.Lib.SliceRun
import Derived.BigRegion
import Derived.BigQuiet
import Derived.Deep.RegionLaw
namespace Go.Proofs.YtnenbgdonkgkfaaGreat
open Go.ChangeShapes Go.WideShapes Go.ChangeAt Go.RowKit
set_option linter.unusedVariables false

/-- An act: its kind and number, its job; ov is the row of the job's ops. -/
structure Ac where
  kind : Int
  k : Int
  task : Int
  arr : Int
  work : Int
  done : Int
  ov : Value
  ops : List Wn
def Ac.cells (a : Ac) : List Value := [.int .i64 a.kind, .int .i64 a.k, .int .i64 a.task, .int .i64 a.arr, .int .i64 a.work, .int .i64 a.done, a.ov]
def Ac.Ok (W : World) (a : Ac) : Prop := Lies W 0 W.heap.size a.ov a.ops.length 3 (a.ops.flatMap Wn.cells)
def acAt (l : List Ac) (i : Nat) : Ac := l.getD i ⟨0, 0, 0, 0, 0, 0, .slice none 0 0, []⟩
theorem acAt_eq {l : List Ac} {i : Nat} (h : i < l.length) : acAt l i = l[i] := by unfold acAt; rw [List.getD_eq_getElem?_getD, List.getElem?_eq_getElem h]; rfl
/-- Its fields, where it lies. -/
theorem acts19_read {w : World} {a : Option Addr} {n c : Nat} {l : List Ac} (hn : l.length = n) (hl : Lies w 0 w.heap.size (.slice a n c) n 7 (l.flatMap Ac.cells)) (ho : ∀ x ∈ l, x.Ok w) : ∀ Y, Below w.heap.size w Y → ∀ i, i < n → ∃ b off oa oc, a = some ⟨b, off, none⟩ ∧ (Y.cell? ⟨b, off + i * 7, none⟩ = some (.int .i64 (acAt l i).kind) ∧ Y.cell? ⟨b, off + i * 7 + 1, none⟩ = some (.int .i64 (acAt l i).k) ∧ Y.cell? ⟨b, off + i * 7 + 2, none⟩ = some (.int .i64 (acAt l i).task) ∧ Y.cell? ⟨b, off + i * 7 + 3, none⟩ = some (.int .i64 (acAt l i).arr) ∧ Y.cell? ⟨b, off + i * 7 + 4, none⟩ = some (.int .i64 (acAt l i).work) ∧ Y.cell? ⟨b, off + i * 7 + 5, none⟩ = some (.int .i64 (acAt l i).done) ∧ Y.cell? ⟨b, off + i * 7 + 6, none⟩ = some (.slice oa (acAt l i).ops.length oc)) ∧ b < w.heap.size ∧ Lies w 0 w.heap.size (.slice oa (acAt l i).ops.length oc) (acAt l i).ops.length 3 ((acAt l i).ops.flatMap Wn.cells) := by
  intro Y hY i hi
  have hil : i < l.length := by omega
  have hx : l[i]? = some (acAt l i) := by rw [acAt_eq hil]; exact List.getElem?_eq_getElem hil
  have hok : (acAt l i).Ok w := ho _ (by rw [acAt_eq hil]; exact List.getElem_mem hil)
  obtain ⟨oa, oc, eo, _⟩ := id hok
  obtain ⟨a', c', e, _, _, hc⟩ := hl.keep (SameIn.of_below hY (Nat.le_refl _))
  cases e
  rcases hc with h0 | ⟨b, off, rfl, _, hb, hc⟩
  · omega
  · refine ⟨b, off, oa, oc, rfl, ⟨hc _ _ (flat_at Ac.cells 7 (fun _ => rfl) l i 0 _ hx (by omega)), hc _ _ (flat_at Ac.cells 7 (fun _ => rfl) l i 1 _ hx (by omega)), hc _ _ (flat_at Ac.cells 7 (fun _ => rfl) l i 2 _ hx (by omega)), hc _ _ (flat_at Ac.cells 7 (fun _ => rfl) l i 3 _ hx (by omega)), hc _ _ (flat_at Ac.cells 7 (fun _ => rfl) l i 4 _ hx (by omega)), hc _ _ (flat_at Ac.cells 7 (fun _ => rfl) l i 5 _ hx (by omega)), ?_⟩, hb, ?_⟩
    · rw [← eo]
      exact hc _ _ (flat_at Ac.cells 7 (fun _ => rfl) l i 6 _ hx (by omega))
    · rw [← eo]; exact hok
/-- The cells of a row of ops, later. -/
theorem ops_read {w : World} {lo hi : Nat} {a : Option Addr} {n c : Nat} {l : List Wn} (hn : l.length = n) (hl : Lies w lo hi (.slice a n c) n 3 (l.flatMap Wn.cells)) : ∀ i (hi' : i < n), ∃ b off x0 x1 x2, a = some ⟨b, off, none⟩ ∧ lo ≤ b ∧ b < hi ∧ l[i]? = some ⟨x0, x1, x2⟩ ∧ ∀ Y : World, Y.heap[b]? = w.heap[b]? → Y.cell? ⟨b, off + i * 3, none⟩ = some (.int .i64 x0) ∧ Y.cell? ⟨b, off + i * 3 + 1, none⟩ = some (.int .i64 x1) ∧ Y.cell? ⟨b, off + i * 3 + 2, none⟩ = some (.int .i64 x2) := by
  intro i hi'
  have hil : i < l.length := by omega
  obtain ⟨a', c', e, _, _, hc⟩ := hl
  cases e
  rcases hc with h0 | ⟨b, off, rfl, hb1, hb, hc⟩
  · omega
  · obtain ⟨x, hx⟩ : ∃ x, x = l[i] := ⟨_, rfl⟩
    have hx' : l[i]? = some x := by rw [hx]; exact List.getElem?_eq_getElem hil
    obtain ⟨x0, x1, x2⟩ := x
    have hk : ∀ (Y : World), Y.heap[b]? = w.heap[b]? → ∀ j, Y.cell? ⟨b, j, none⟩ = w.cell? ⟨b, j, none⟩ := fun Y hY j => by unfold World.cell?; rw [hY]
    exact ⟨b, off, x0, x1, x2, rfl, hb1, hb, hx', fun Y hY => ⟨by rw [hk Y hY]; exact hc _ _ (flat_at Wn.cells 3 (fun _ => rfl) l i 0 _ hx' (by omega)), by rw [hk Y hY]; exact hc _ _ (flat_at Wn.cells 3 (fun _ => rfl) l i 1 _ hx' (by omega)), by rw [hk Y hY]; exact hc _ _ (flat_at Wn.cells 3 (fun _ => rfl) l i 2 _ hx' (by omega))⟩⟩

/-- The contracts of a table of jobs: of the tasks ts; hi: is the mode high; js: the jobs. Its own blocks are S. -/
structure TasksOk where
  Tb : Nat → List Tk → Bool → Js → World → (Nat → Prop) → Prop
  own : ∀ (H : Nat) (ts : List Tk) (hi : Bool) (js : Js), OwnP (Tb H ts hi js)
  bd : ∀ {w : World} {H : Nat} {S : Nat → Prop} {ts : List Tk} {hi : Bool} {js : Js}, Tb H ts hi js w S → ts.length ≤ 6 ∧ (∀ x ∈ ts, okTk x = true) ∧ JsOk ts js
  new : ∀ (w : World) (a : Option Addr) (n c : Nat) (ts : List Tk), ts.length = n → Lies w 0 w.heap.size (.slice a n c) n 6 (ts.flatMap Tk.cells) → (∀ x ∈ ts, x.In) → Calls Tryz.prog 19 #[.slice a n c] w fun e w' => (okN ts = true → ∃ H S, e = .returned (.pointer (some ⟨H, 0, none⟩)) ∧ Tb H ts false (fun _ => none) w' S ∧ ∀ k, S k → w.heap.size ≤ k) ∧ (okN ts = false → e = .returned (.pointer none)) ∧ Below w.heap.size w w'
  put : ∀ (w : World) (H : Nat) (S : Nat → Prop) (ts : List Tk) (hi : Bool) (js : Js) (t arr work done : Int) (a : Option Addr) (n c : Nat) (ops : List Wn), Tb H ts hi js w S → ops.length = n → Lies w 0 w.heap.size (.slice a n c) n 3 (ops.flatMap Wn.cells) → Calls Tryz.prog 20 #[.pointer (some ⟨H, 0, none⟩), .agg #[.int .i64 t, .int .i64 arr, .int .i64 work, .int .i64 done, .slice a n c]] w fun e w' => ∃ S', e = .returned (.int .i64 (errT ts hi js t arr work done n)) ∧ Tb H ts hi (putT ts hi js t arr work done ops) w' S' ∧ GrowS S S' w w'
  first : ∀ (w : World) (H : Nat) (S : Nat → Prop) (ts : List Tk) (hi : Bool) (js : Js), Tb H ts hi js w S → Calls Tryz.prog 10 #[.pointer (some ⟨H, 0, none⟩)] w fun e w' => e = .returned (.tuple #[.int .i64 (fkV ts hi js), .int .i64 (fdV ts hi js), .bool (foV ts hi js)]) ∧ Below w.heap.size w w'
  run : ∀ (w : World) (H : Nat) (S : Nat → Prop) (ts : List Tk) (hi : Bool) (js : Js) (t : Int), Tb H ts hi js w S → Calls Tryz.prog 21 #[.pointer (some ⟨H, 0, none⟩), .int .i64 t] w fun e w' => ∃ S', e = .returned (.tuple #[.agg #[.int .i64 (opT ts js t).at_, .int .i64 (opT ts js t).len, .int .i64 (opT ts js t).part], .int .i64 (outT ts hi js t)]) ∧ Tb H ts hi (runT ts hi js t) w' S' ∧ GrowS S S' w w'
  rise : ∀ (w : World) (H : Nat) (S : Nat → Prop) (ts : List Tk) (hi : Bool) (js : Js), Tb H ts hi js w S → Calls Tryz.prog 22 #[.pointer (some ⟨H, 0, none⟩)] w fun e w' => ∃ S' ao cap, e = .returned (.slice ao (riseL ts js).length cap) ∧ Lies w' w.heap.size w'.heap.size (.slice ao (riseL ts js).length cap) (riseL ts js).length 1 ((riseL ts js).flatMap intCells) ∧ Tb H ts true (riseT ts js) w' S' ∧ GrowS S S' w w'
  fall : ∀ (w : World) (H : Nat) (S : Nat → Prop) (ts : List Tk) (hi : Bool) (js : Js), Tb H ts hi js w S → Calls Tryz.prog 24 #[.pointer (some ⟨H, 0, none⟩)] w fun e w' => ∃ S', e = .returned (.bool (falV ts hi js)) ∧ Tb H ts (falH ts hi js) js w' S' ∧ GrowS S S' w w'
  high : ∀ (w : World) (H : Nat) (S : Nat → Prop) (ts : List Tk) (hi : Bool) (js : Js), Tb H ts hi js w S → Calls Tryz.prog 18 #[.pointer (some ⟨H, 0, none⟩)] w fun e w' => e = .returned (.bool hi) ∧ Below w.heap.size w w'
  missed : ∀ (w : World) (H : Nat) (S : Nat → Prop) (ts : List Tk) (hi : Bool) (js : Js) (now : Int), Tb H ts hi js w S → Calls Tryz.prog 32 #[.pointer (some ⟨H, 0, none⟩), .int .i64 now] w fun e w' => ∃ S' ao cap, e = .returned (.slice ao (misL ts js now).length cap) ∧ Lies w' w.heap.size w'.heap.size (.slice ao (misL ts js now).length cap) (misL ts js now).length 1 ((misL ts js now).flatMap intCells) ∧ Tb H ts hi (misT ts js now) w' S' ∧ GrowS S S' w w'
  get : ∀ (w : World) (H : Nat) (S : Nat → Prop) (ts : List Tk) (hi : Bool) (js : Js) (t : Int), Tb H ts hi js w S → Calls Tryz.prog 12 #[.pointer (some ⟨H, 0, none⟩), .int .i64 t] w fun e w' => ∃ ao cap, e = .returned (.tuple #[.agg #[.int .i64 (getT ts js t), .int .i64 (getJ ts js t).arr, .int .i64 (getJ ts js t).work, .int .i64 (getJ ts js t).done, .slice ao (getJ ts js t).ops.length cap], .bool (thereT ts js t)]) ∧ Lies w' w.heap.size w'.heap.size (.slice ao (getJ ts js t).ops.length cap) (getJ ts js t).ops.length 3 ((getJ ts js t).ops.flatMap Wn.cells) ∧ Below w.heap.size w w'
  len : ∀ (w : World) (H : Nat) (S : Nat → Prop) (ts : List Tk) (hi : Bool) (js : Js), Tb H ts hi js w S → Calls Tryz.prog 16 #[.pointer (some ⟨H, 0, none⟩)] w fun e w' => e = .returned (.int .i64 (cntT js ts.length : Nat)) ∧ Below w.heap.size w w'
  clear : ∀ (w : World) (H : Nat) (S : Nat → Prop) (ts : List Tk) (hi : Bool) (js : Js), Tb H ts hi js w S → Calls Tryz.prog 34 #[.pointer (some ⟨H, 0, none⟩)] w fun e w' => ∃ S', e = .returned (.tuple #[]) ∧ Tb H ts false (fun _ => none) w' S' ∧ GrowS S S' w w'
theorem Tryz.infoCt19 : (Tryz.prog.info? 56).map (fun i => (i.zero, i.size, i.bytes)) = some (some (.agg #[.bool false, .int .i64 0, .int .i64 0, .int .i64 0, .int .i64 0, .int .i64 0]), 6, 48) := by kernel_rfl
set_option maxRecDepth 100000 in
set_option maxHeartbeats 8000000 in
theorem num19_any (k : Int) (w : World) : Calls Tryz.prog 23 #[.int .i64 k] w fun e w' => e = .returned (.int .i64 k) ∧ w' = w := by
  go_enter Tryz.func23, Tryz.ntmps23
  go_wp2
  go_ret
  exact ⟨rfl, rfl⟩
set_option maxRecDepth 100000 in
set_option maxHeartbeats 8000000 in
theorem own19_of (O : TasksOk) (w : World) (a : Option Addr) (n c : Nat) (ts : List Tk) (hn : ts.length = n) (hl : Lies w 0 w.heap.size (.slice a n c) n 6 (ts.flatMap Tk.cells)) (hin : ∀ x ∈ ts, x.In) (hsm : n * 48 ≤ 140737488355328) :
    Calls Tryz.prog 7 #[.slice a n c] w fun e w' => (okN ts = true → ∃ H S, e = .returned (.pointer (some ⟨H, 0, none⟩)) ∧ O.Tb H ts false (fun _ => none) w' S ∧ ∀ k, S k → w.heap.size ≤ k) ∧ (okN ts = false → e = .returned (.pointer none)) ∧ Below w.heap.size w w' := by
  have KA := Lib.hid (tks_read hn hl)
  have HNN := Lib.hid hn
  have HIN := Lib.hid hin
  obtain ⟨i0, hi, hz0, hz1, hz2⟩ := info_parts Tryz.infoCt19
  have HI := Lib.hid hi
  clear hl hn hin hi
  go_enter Tryz.func7, Tryz.ntmps7
  go_wp2_with fail
  go_loopw [3, 4] (fun s3 s4 wr => ∃ (k : Nat) (ao : Option Addr) (cap : Nat), k ≤ n ∧ s3 = .slice ao k cap ∧ s4 = .int .i64 k ∧ Hid (wr.ownsRow w.heap.size 56 6 (.slice ao k cap) k ((ts.take k).flatMap Tk.cells)) ∧ Hid (Below w.heap.size w wr)) (fun _ s _ => n - (intOf s).toNat)
  case atStart => exact ⟨0, none, 0, Nat.zero_le _, rfl, rfl, Lib.hid ⟨rfl, .inl ⟨rfl, rfl⟩⟩, Lib.hid (Below.refl _ _)⟩
  case round =>
    obtain ⟨k, ao, cap, hk, rfl, rfl, HO, HB⟩ := hrel
    by_cases hlt : k < n
    · have d0 : decide ((k : Int) < (n : Int)) = true := decide_eq_true (by omega)
      have d1 : (0 : Int) ≤ (k : Int) := by omega
      have d2 : (k : Int) < (n : Int) := by omega
      have hkL : k < ts.length := by have := HNN.out; omega
      obtain ⟨b, off, rfl, ⟨k0, k1, k2, k3, k4, k5⟩, hb⟩ := KA.out wr HB.out k hlt
      have HTK := Lib.hid (take_snoc hkL)
      obtain ⟨x, hx⟩ : ∃ x, x = tkAt ts k := ⟨_, rfl⟩
      rw [← hx] at k0 k1 k2 k3 k4 k5 HTK
      obtain ⟨x0, x1, x2, x3, x4, x5⟩ := x
      dsimp only at k0 k1 k2 k3 k4 k5
      obtain ⟨xs, hxs⟩ : ∃ xs, xs = (ts.take k).flatMap Tk.cells := ⟨_, rfl⟩
      rw [← hxs] at HO
      have HXS := Lib.hid hxs
      have HVB : Hid (Below wr.heap.size wr (wr.alloc (.cells #[.bool x0, .int .i64 x1, .int .i64 x2, .int .i64 x3, .int .i64 x4, .int .i64 x5] 56))) := Lib.hid (below1 _ _)
      have HV : Hid ((wr.alloc (.cells #[.bool x0, .int .i64 x1, .int .i64 x2, .int .i64 x3, .int .i64 x4, .int .i64 x5] 56)).ownsRow w.heap.size 56 6 (.slice ao k cap) k xs ∧ Lies (wr.alloc (.cells #[.bool x0, .int .i64 x1, .int .i64 x2, .int .i64 x3, .int .i64 x4, .int .i64 x5] 56)) wr.heap.size (wr.heap.size + 1) (.slice (some ⟨wr.heap.size, 0, none⟩) 1 1) 1 6 [.bool x0, .int .i64 x1, .int .i64 x2, .int .i64 x3, .int .i64 x4, .int .i64 x5] ∧ w.heap.size ≤ (wr.alloc (.cells #[.bool x0, .int .i64 x1, .int .i64 x2, .int .i64 x3, .int .i64 x4, .int .i64 x5] 56)).heap.size) := Lib.hid ⟨owns_later HO.out (below1 _ _), one_lies (heap_alloc_new _ _) rfl, by have := HB.out.size; simp; omega⟩
      clear hb hx hxs hkL
      go_wp2_with (first
        | (refine wpList_append_lie2 (by rfl) (.tmp 11) (.tmp 16) 66 (by rfl) w.heap.size 56 i0 _ 6 48 Tryz.underlying66 HI.out hz0 hz1 hz2 rfl (by omega) (.slice ao k cap) k xs (by rfl) HV.out.1 (.slice (some ⟨wr.heap.size, 0, none⟩) 1 1) wr.heap.size (wr.heap.size + 1) 1 [.bool x0, .int .i64 x1, .int .i64 x2, .int .i64 x3, .int .i64 x4, .int .i64 x5] (by rfl) HV.out.2.1 (tk_one ⟨x0, x1, x2, x3, x4, x5⟩) (k + 1) rfl (by simp only [maxLen]; omega) (by omega) HV.out.2.2 ?_
           intro ao2 cap2 w6 hown6' hgrow6' hob6'
           have hown6 := Lib.hid hown6'
           have hb6 : Hid (Below w.heap.size w w6) := Lib.hid ((HB.out.trans (HVB.out.mono HB.out.size)).grown hgrow6' (by have := HVB.out.size; have := HB.out.size; omega) (fun q hq => (owns_block HV.out.1 q hq).1))
           clear hown6' hgrow6' hob6')
        | fail "no arm")
      go_roundw
      case rel => exact ⟨k + 1, ao2, cap2, by omega, rfl, by go_num, Lib.hid (by
        have h6 := hown6.out
        rw [HXS.out] at h6
        rw [HTK.out, List.flatMap_append]
        simpa [tk_cells] using h6), hb6⟩
      case measure => simp [intOf]; omega
    · have d0 : decide ((k : Int) < (n : Int)) = false := decide_eq_false (by omega)
      have hkn : k = n := by omega
      subst hkn
      have hts : ts.take k = ts := List.take_of_length_le (by have := HNN.out; omega)
      have HL : Hid (Lies wr 0 wr.heap.size (.slice ao k cap) k 6 (ts.flatMap Tk.cells)) := Lib.hid (by
        have := Lies.of_owns HO.out
        rw [hts] at this
        exact this.wider (Nat.zero_le _) (Nat.le_refl _))
      clear hts
      cases hok : okN ts with
      | true =>
        have HOK := Lib.hid hok
        have hN := (O.new wr ao k cap ts HNN.out HL.out HIN.out).mono (fun e w' h => And.intro (h.1 hok) h.2.2)
        have HN := Lib.hid hN
        clear hN hok
        go_wp2_with (first
          | (go_at_call 19; refine HN.out.mono ?_; rintro e w5 ⟨⟨H, S, rfl, g1, g2⟩, g3⟩; have g1' := Lib.hid g1; have g2' := Lib.hid g2; have g3' := Lib.hid g3; clear g1 g2 g3)
          | fail "no arm")
        go_ret
        exact ⟨fun _ => ⟨H, S, rfl, g1'.out, fun j hj => Nat.le_trans HB.out.size (g2'.out j hj)⟩, fun h => (by rw [HOK.out] at h; cases h), HB.out.trans (g3'.out.mono HB.out.size)⟩
      | false =>
        have HOK := Lib.hid hok
        have hN := (O.new wr ao k cap ts HNN.out HL.out HIN.out).mono (fun e w' h => And.intro (h.2.1 hok) h.2.2)
        have HN := Lib.hid hN
        clear hN hok
        go_wp2_with (first
          | (go_at_call 19; refine HN.out.mono ?_; rintro e w5 ⟨rfl, g3⟩; have g3' := Lib.hid g3; clear g3)
          | fail "no arm")
        go_ret
        exact ⟨fun h => (by rw [HOK.out] at h; cases h), fun _ => rfl, HB.out.trans (g3'.out.mono HB.out.size)⟩
/-- Are acts few? -/
def lightV (l : List Ac) : Bool := decide (l.length ≤ 120) && l.all (fun x => decide (x.ops.length ≤ 70))
theorem light_many {l : List Ac} (h : 120 < l.length) : lightV l = false := by unfold lightV; rw [decide_eq_false (by omega)]; rfl
theorem light_long {l : List Ac} {i : Nat} (hi : i < l.length) (h : 70 < (acAt l i).ops.length) : lightV l = false := by
  unfold lightV
  rw [Bool.and_eq_false_iff]
  right
  rw [List.all_eq_false]
  exact ⟨l[i], List.getElem_mem hi, by rw [← acAt_eq hi]; simp; omega⟩
theorem light_yes {l : List Ac} (h1 : l.length ≤ 120) (h : ∀ i, i < l.length → (acAt l i).ops.length ≤ 70) : lightV l = true := by
  unfold lightV
  rw [decide_eq_true h1, Bool.true_and, List.all_eq_true]
  intro x hx
  obtain ⟨i, hi, rfl⟩ := List.getElem_of_mem hx
  have := h i hi
  rw [acAt_eq hi] at this
  exact decide_eq_true this
theorem light_bd {l : List Ac} (h : lightV l = true) : l.length ≤ 120 ∧ ∀ i, i < l.length → (acAt l i).ops.length ≤ 70 := by
  unfold lightV at h
  rw [Bool.and_eq_true, List.all_eq_true] at h
  refine ⟨of_decide_eq_true h.1, fun i hi => ?_⟩
  rw [acAt_eq hi]
  exact of_decide_eq_true (h.2 _ (List.getElem_mem hi))
set_option maxRecDepth 100000 in
set_option maxHeartbeats 8000000 in
theorem light_any (w : World) (a : Option Addr) (n c : Nat) (l : List Ac) (hn : l.length = n) (hl : Lies w 0 w.heap.size (.slice a n c) n 7 (l.flatMap Ac.cells)) (ho : ∀ x ∈ l, x.Ok w) :
    Calls Tryz.prog 5 #[.slice a n c] w fun e w' => e = .returned (.bool (lightV l)) ∧ Below w.heap.size w w' := by
  have KA := Lib.hid (acts19_read hn hl ho)
  have HNN := Lib.hid hn
  clear hn hl ho
  go_enter Tryz.func5, Tryz.ntmps5
  go_wp2_with fail
  go_loopw [3] (fun s wr => ∃ k : Nat, k ≤ n ∧ k ≤ 150 ∧ s = .int .i64 k ∧ Hid (∀ i, i < k → (acAt l i).ops.length ≤ 70) ∧ Hid (Below w.heap.size w wr)) (fun s _ => n - (intOf s).toNat)
  case atStart => exact ⟨0, Nat.zero_le _, by omega, rfl, Lib.hid (fun i hi => by omega), Lib.hid (Below.refl _ _)⟩
  case round =>
    obtain ⟨k, hk, hk2, rfl, HA, HB⟩ := hrel
    by_cases hlt : k < n
    · have d0 : decide ((k : Int) < (n : Int)) = true := decide_eq_true (by omega)
      have d1 : (0 : Int) ≤ (k : Int) := by omega
      have d2 : (k : Int) < (n : Int) := by omega
      by_cases h150 : k < 150
      · have d3 : decide ((k : Int) < 150) = true := decide_eq_true (by omega)
        obtain ⟨b, off, oa, oc, rfl, ⟨_, _, _, _, _, _, k6⟩, hb, _⟩ := KA.out wr HB.out k hlt
        obtain ⟨m, hm⟩ : ∃ m, m = (acAt l k).ops.length := ⟨_, rfl⟩
        rw [← hm] at k6
        have HM := Lib.hid hm
        clear hm hb
        by_cases h70 : 70 < m
        · have d4 : decide ((70 : Int) < (m : Int)) = true := decide_eq_true (by omega)
          have HL : Hid (lightV l = false) := Lib.hid (light_long (i := k) (by have := HNN.out; omega) (by have := HM.out; omega))
          go_wp2_with fail
          go_ret
          exact ⟨by rw [HL.out]; first | done | rfl, HB.out⟩
        · have d4 : decide ((70 : Int) < (m : Int)) = false := decide_eq_false (by omega)
          go_wp2_with fail
          go_roundw
          case rel => exact ⟨k + 1, by omega, by omega, by go_num, Lib.hid (fun i hi => by
            by_cases e : i = k
            · subst e; have := HM.out; omega
            · exact HA.out i (by omega)), HB⟩
          case measure => simp [intOf]; omega
      · have d3 : decide ((k : Int) < 150) = false := decide_eq_false (by omega)
        have d4 : decide ((n : Int) ≤ 120) = false := decide_eq_false (by omega)
        have HL : Hid (lightV l = false) := Lib.hid (light_many (by have := HNN.out; omega))
        go_wp2_with fail
        go_ret
        exact ⟨by rw [HL.out]; first | done | rfl, HB.out⟩
    · have d0 : decide ((k : Int) < (n : Int)) = false := decide_eq_false (by omega)
      have hkn : k = n := by omega
      subst hkn
      by_cases h120 : k ≤ 120
      · have d4 : decide ((k : Int) ≤ 120) = true := decide_eq_true (by omega)
        have HL : Hid (lightV l = true) := Lib.hid (light_yes (by have := HNN.out; omega) (fun i hi => HA.out i (by have := HNN.out; omega)))
        go_wp2_with fail
        go_ret
        exact ⟨by rw [HL.out]; first | done | rfl, HB.out⟩
      · have d4 : decide ((k : Int) ≤ 120) = false := decide_eq_false (by omega)
        have HL : Hid (lightV l = false) := Lib.hid (light_many (by have := HNN.out; omega))
        go_wp2_with fail
        go_ret
        exact ⟨by rw [HL.out]; first | done | rfl, HB.out⟩
end Go.Proofs.YtnenbgdonkgkfaaGreat
