/- The lists of a system read. -/
import Derived.Test.YtiombjkjoehjpaaImageL
namespace Go.Proofs.Ytiombjkjoehjpaa
open Go.ChangeShapes Go.WideShapes Go.ChangeAt Go.RowKit
set_option linter.unusedVariables false

theorem RdS.keepB {w w' : World} {X Y B : Nat} {s : Option (List Int)} (h : RdS w X Y s) (k : Below B w w') (hB : Y < B) : RdS w' X Y s := by
  obtain ⟨e, wr, l, h1, h2, h3, h4⟩ := h
  exact ⟨e, wr, l, (k.block Y hB).trans h1, h2.keep (SameIn.of_below k (by omega)), h3, h4⟩
theorem ButL.then {S : List Nat} {w a b : World} (h : ButL S w a) (k : Below w.heap.size a b) : ButL S w b :=
  ⟨k.os.trans h.os, k.tape.trans h.tape, k.output.trans h.output, Nat.le_trans h.size k.size, fun i hi hx => (k.block i hi).trans (h.block i hi hx)⟩
theorem flat_snoc {α : Type} (f : α → List Value) (xs : List α) (x : α) : (xs ++ [x]).flatMap f = xs.flatMap f ++ f x := by simp
set_option maxRecDepth 100000 in
set_option maxHeartbeats 2000000 in
theorem gWindows_any (X Y : Nat) (w : World) (s : Option (List Int)) (h : RdS w X Y s) :
    Calls Try.prog 51 #[.pointer (some ⟨Y, 0, none⟩), .func (.func 52) #[] #[]] w fun r w' => ∃ (l : List Wn) (a : Option Addr) (c : Nat) (s' : Option (List Int)), r = .returned (.slice a l.length c) ∧ l.length ≤ 255 ∧ w'.ownsRow w.heap.size 71 3 (.slice a l.length c) l.length (l.flatMap Wn.cells) ∧ RdS w' X Y s' ∧ Got s (rdMany rdWn) l s' ∧ ButL [X, Y] w w' := by
  obtain ⟨i0, hi0, hz0, hz1, hz2⟩ := info_parts Try.infoWn_conf
  have HI := Lib.hid hi0
  have c0 := h.c0
  have hlt := h.lt
  have HR := Lib.hid h
  clear h hi0
  go_enter Try.func51, Try.ntmps51
  go_wp2_with (first
    | (go_at_call 72
       refine (gGet_any X Y w s 1 HR.out (by omega) (by omega)).mono ?_
       rintro e w1 ⟨n0, s1, rfl, b0, b1, hr1, hg1, hb1⟩
       obtain ⟨m, rfl⟩ := Int.eq_ofNat_of_zero_le b0
       have HR1 := Lib.hid hr1
       have HG1 := Lib.hid hg1
       have HB1 := Lib.hid hb1
       clear hr1 hg1 hb1))
  have hm : m ≤ 255 := by omega
  clear c0 b0 b1
  go_loopw [5, 11] (fun v i wr => ∃ (k : Nat) (xs : List Wn) (a : Option Addr) (c : Nat) (s' : Option (List Int)), k ≤ m ∧ i = .int .i64 k ∧ v = .slice a k c ∧ Hid (xs.length = k) ∧ Hid (wr.ownsRow w.heap.size 71 3 (.slice a k c) k (xs.flatMap Wn.cells)) ∧ Hid (RdS wr X Y s') ∧ Hid (Got s1 (rdList rdWn k) xs s') ∧ Hid (ButL [X, Y] w wr)) (fun _ i _ => m - (intOf i).toNat)
  case atStart => exact ⟨0, [], none, 0, s1, by omega, rfl, rfl, Lib.hid rfl, Lib.hid ⟨rfl, .inl ⟨rfl, rfl⟩⟩, HR1, Lib.hid (Got.nil _ _), HB1⟩
  case round =>
    obtain ⟨k, xs, a, c, s2, hk, rfl, rfl, HXL, HOW, HR2, HG2, HB2⟩ := hrel
    by_cases hlt2 : k < m
    · have tk : decide ((k : Int) < (m : Int)) = true := by simpa using hlt2
      have hsz := HB2.out.size
      go_wp2_with (first
        | (go_at_call 52
           refine (gWindow_any X Y _ s2 HR2.out).mono ?_
           rintro e w2 ⟨x, s3, rfl, hr3, hg3, hb3⟩
           have HOW2 := Lib.hid (hb3.owns HOW.out (by simp; omega))
           have HB3 := Lib.hid (HB2.out.trans hb3)
           have HR3 := Lib.hid hr3
           have HG3 := Lib.hid hg3
           have hsz3 := HB3.out.size
           clear hr3 hg3 hb3)
        | (refine wpList_append_lie (by rfl) (.tmp 13) (.tmp 17) 33 (by rfl) w.heap.size 71 i0 _ 3 24 Try.underlying33 HI.out hz0 hz1 hz2 rfl (by omega) (.slice a k c) k _ (by rfl) (owns_later HOW2.out (below1 _ _)) (.slice (some ⟨w2.heap.size, 0, none⟩) 1 1) w2.heap.size (w2.heap.size + 1) 1 (Wn.cells x) (by rfl) (one_lies (heap_new_at rfl) rfl) (wn_one x) (k + 1) (by omega) (by simp [maxLen]; omega) (by omega) (by simp; omega) ?_
           intro ao cap' w3 hown hgrow
           rw [← flat_snoc] at hown
           have HOW3 := Lib.hid hown
           have HBG : Hid (Below w.heap.size w2 w3) := Lib.hid (((below1 w2 _).mono hsz3).grown hgrow (by simp; omega) (fun g hg => ((owns_block HOW2.out) g hg).1))
           clear hown hgrow))
      go_roundw
      case rel => exact ⟨k + 1, xs ++ [x], ao, cap', s3, by omega, by go_num, rfl, Lib.hid (by rw [List.length_append, HXL.out]; rfl), HOW3, Lib.hid (HR3.out.keepB HBG.out (by omega)), Lib.hid (HG2.out.snoc HG3.out), Lib.hid (HB3.out.then HBG.out)⟩
      case measure => simp [intOf]; omega
    · have tk : decide ((k : Int) < (m : Int)) = false := by simp; omega
      have hkm : k = m := by omega
      subst hkm
      go_wp2_with fail
      go_ret
      have hxl := HXL.out
      subst hxl
      exact ⟨xs, a, c, s2, rfl, hm, HOW.out, HR2.out, HG1.out.many HG2.out, HB2.out⟩
set_option maxRecDepth 100000 in
set_option maxHeartbeats 2000000 in
theorem gTasks_any (X Y : Nat) (w : World) (s : Option (List Int)) (h : RdS w X Y s) :
    Calls Try.prog 73 #[.pointer (some ⟨Y, 0, none⟩), .func (.func 74) #[] #[]] w fun r w' => ∃ (l : List Tk) (a : Option Addr) (c : Nat) (s' : Option (List Int)), r = .returned (.slice a l.length c) ∧ l.length ≤ 255 ∧ w'.ownsRow w.heap.size 120 6 (.slice a l.length c) l.length (l.flatMap Tk.cells) ∧ RdS w' X Y s' ∧ Got s (rdMany rdTk) l s' ∧ ButL [X, Y] w w' := by
  obtain ⟨i0, hi0, hz0, hz1, hz2⟩ := info_parts Try.infoTk_conf
  have HI := Lib.hid hi0
  have c0 := h.c0
  have hlt := h.lt
  have HR := Lib.hid h
  clear h hi0
  go_enter Try.func73, Try.ntmps73
  go_wp2_with (first
    | (go_at_call 72
       refine (gGet_any X Y w s 1 HR.out (by omega) (by omega)).mono ?_
       rintro e w1 ⟨n0, s1, rfl, b0, b1, hr1, hg1, hb1⟩
       obtain ⟨m, rfl⟩ := Int.eq_ofNat_of_zero_le b0
       have HR1 := Lib.hid hr1
       have HG1 := Lib.hid hg1
       have HB1 := Lib.hid hb1
       clear hr1 hg1 hb1))
  have hm : m ≤ 255 := by omega
  clear c0 b0 b1
  go_loopw [5, 11] (fun v i wr => ∃ (k : Nat) (xs : List Tk) (a : Option Addr) (c : Nat) (s' : Option (List Int)), k ≤ m ∧ i = .int .i64 k ∧ v = .slice a k c ∧ Hid (xs.length = k) ∧ Hid (wr.ownsRow w.heap.size 120 6 (.slice a k c) k (xs.flatMap Tk.cells)) ∧ Hid (RdS wr X Y s') ∧ Hid (Got s1 (rdList rdTk k) xs s') ∧ Hid (ButL [X, Y] w wr)) (fun _ i _ => m - (intOf i).toNat)
  case atStart => exact ⟨0, [], none, 0, s1, by omega, rfl, rfl, Lib.hid rfl, Lib.hid ⟨rfl, .inl ⟨rfl, rfl⟩⟩, HR1, Lib.hid (Got.nil _ _), HB1⟩
  case round =>
    obtain ⟨k, xs, a, c, s2, hk, rfl, rfl, HXL, HOW, HR2, HG2, HB2⟩ := hrel
    by_cases hlt2 : k < m
    · have tk : decide ((k : Int) < (m : Int)) = true := by simpa using hlt2
      have hsz := HB2.out.size
      go_wp2_with (first
        | (go_at_call 74
           refine (gTask_any X Y _ s2 HR2.out).mono ?_
           rintro e w2 ⟨x, s3, rfl, hr3, hg3, hb3⟩
           have HOW2 := Lib.hid (hb3.owns HOW.out (by simp; omega))
           have HB3 := Lib.hid (HB2.out.trans hb3)
           have HR3 := Lib.hid hr3
           have HG3 := Lib.hid hg3
           have hsz3 := HB3.out.size
           clear hr3 hg3 hb3)
        | (refine wpList_append_lie (by rfl) (.tmp 13) (.tmp 17) 73 (by rfl) w.heap.size 120 i0 _ 6 48 Try.underlying73 HI.out hz0 hz1 hz2 rfl (by omega) (.slice a k c) k _ (by rfl) (owns_later HOW2.out (below1 _ _)) (.slice (some ⟨w2.heap.size, 0, none⟩) 1 1) w2.heap.size (w2.heap.size + 1) 1 (Tk.cells x) (by rfl) (one_lies (heap_new_at rfl) rfl) (tk_one x) (k + 1) (by omega) (by simp [maxLen]; omega) (by omega) (by simp; omega) ?_
           intro ao cap' w3 hown hgrow
           rw [← flat_snoc] at hown
           have HOW3 := Lib.hid hown
           have HBG : Hid (Below w.heap.size w2 w3) := Lib.hid (((below1 w2 _).mono hsz3).grown hgrow (by simp; omega) (fun g hg => ((owns_block HOW2.out) g hg).1))
           clear hown hgrow))
      go_roundw
      case rel => exact ⟨k + 1, xs ++ [x], ao, cap', s3, by omega, by go_num, rfl, Lib.hid (by rw [List.length_append, HXL.out]; rfl), HOW3, Lib.hid (HR3.out.keepB HBG.out (by omega)), Lib.hid (HG2.out.snoc HG3.out), Lib.hid (HB3.out.then HBG.out)⟩
      case measure => simp [intOf]; omega
    · have tk : decide ((k : Int) < (m : Int)) = false := by simp; omega
      have hkm : k = m := by omega
      subst hkm
      go_wp2_with fail
      go_ret
      have hxl := HXL.out
      subst hxl
      exact ⟨xs, a, c, s2, rfl, hm, HOW.out, HR2.out, HG1.out.many HG2.out, HB2.out⟩
set_option maxRecDepth 100000 in
set_option maxHeartbeats 2000000 in
theorem gServers_any (X Y : Nat) (w : World) (s : Option (List Int)) (h : RdS w X Y s) :
    Calls Try.prog 75 #[.pointer (some ⟨Y, 0, none⟩), .func (.func 76) #[] #[]] w fun r w' => ∃ (l : List Sv) (a : Option Addr) (c : Nat) (s' : Option (List Int)), r = .returned (.slice a l.length c) ∧ l.length ≤ 255 ∧ w'.ownsRow w.heap.size 123 3 (.slice a l.length c) l.length (l.flatMap Sv.cells) ∧ RdS w' X Y s' ∧ Got s (rdMany rdSv) l s' ∧ ButL [X, Y] w w' := by
  obtain ⟨i0, hi0, hz0, hz1, hz2⟩ := info_parts Try.infoSv_conf
  have HI := Lib.hid hi0
  have c0 := h.c0
  have hlt := h.lt
  have HR := Lib.hid h
  clear h hi0
  go_enter Try.func75, Try.ntmps75
  go_wp2_with (first
    | (go_at_call 72
       refine (gGet_any X Y w s 1 HR.out (by omega) (by omega)).mono ?_
       rintro e w1 ⟨n0, s1, rfl, b0, b1, hr1, hg1, hb1⟩
       obtain ⟨m, rfl⟩ := Int.eq_ofNat_of_zero_le b0
       have HR1 := Lib.hid hr1
       have HG1 := Lib.hid hg1
       have HB1 := Lib.hid hb1
       clear hr1 hg1 hb1))
  have hm : m ≤ 255 := by omega
  clear c0 b0 b1
  go_loopw [5, 11] (fun v i wr => ∃ (k : Nat) (xs : List Sv) (a : Option Addr) (c : Nat) (s' : Option (List Int)), k ≤ m ∧ i = .int .i64 k ∧ v = .slice a k c ∧ Hid (xs.length = k) ∧ Hid (wr.ownsRow w.heap.size 123 3 (.slice a k c) k (xs.flatMap Sv.cells)) ∧ Hid (RdS wr X Y s') ∧ Hid (Got s1 (rdList rdSv k) xs s') ∧ Hid (ButL [X, Y] w wr)) (fun _ i _ => m - (intOf i).toNat)
  case atStart => exact ⟨0, [], none, 0, s1, by omega, rfl, rfl, Lib.hid rfl, Lib.hid ⟨rfl, .inl ⟨rfl, rfl⟩⟩, HR1, Lib.hid (Got.nil _ _), HB1⟩
  case round =>
    obtain ⟨k, xs, a, c, s2, hk, rfl, rfl, HXL, HOW, HR2, HG2, HB2⟩ := hrel
    by_cases hlt2 : k < m
    · have tk : decide ((k : Int) < (m : Int)) = true := by simpa using hlt2
      have hsz := HB2.out.size
      go_wp2_with (first
        | (go_at_call 76
           refine (gServer_any X Y _ s2 HR2.out).mono ?_
           rintro e w2 ⟨x, s3, rfl, hr3, hg3, hb3⟩
           have HOW2 := Lib.hid (hb3.owns HOW.out (by simp; omega))
           have HB3 := Lib.hid (HB2.out.trans hb3)
           have HR3 := Lib.hid hr3
           have HG3 := Lib.hid hg3
           have hsz3 := HB3.out.size
           clear hr3 hg3 hb3)
        | (refine wpList_append_lie (by rfl) (.tmp 13) (.tmp 17) 74 (by rfl) w.heap.size 123 i0 _ 3 24 Try.underlying74 HI.out hz0 hz1 hz2 rfl (by omega) (.slice a k c) k _ (by rfl) (owns_later HOW2.out (below1 _ _)) (.slice (some ⟨w2.heap.size, 0, none⟩) 1 1) w2.heap.size (w2.heap.size + 1) 1 (Sv.cells x) (by rfl) (one_lies (heap_new_at rfl) rfl) (sv_one x) (k + 1) (by omega) (by simp [maxLen]; omega) (by omega) (by simp; omega) ?_
           intro ao cap' w3 hown hgrow
           rw [← flat_snoc] at hown
           have HOW3 := Lib.hid hown
           have HBG : Hid (Below w.heap.size w2 w3) := Lib.hid (((below1 w2 _).mono hsz3).grown hgrow (by simp; omega) (fun g hg => ((owns_block HOW2.out) g hg).1))
           clear hown hgrow))
      go_roundw
      case rel => exact ⟨k + 1, xs ++ [x], ao, cap', s3, by omega, by go_num, rfl, Lib.hid (by rw [List.length_append, HXL.out]; rfl), HOW3, Lib.hid (HR3.out.keepB HBG.out (by omega)), Lib.hid (HG2.out.snoc HG3.out), Lib.hid (HB3.out.then HBG.out)⟩
      case measure => simp [intOf]; omega
    · have tk : decide ((k : Int) < (m : Int)) = false := by simp; omega
      have hkm : k = m := by omega
      subst hkm
      go_wp2_with fail
      go_ret
      have hxl := HXL.out
      subst hxl
      exact ⟨xs, a, c, s2, rfl, hm, HOW.out, HR2.out, HG1.out.many HG2.out, HB2.out⟩
set_option maxRecDepth 100000 in
set_option maxHeartbeats 2000000 in
theorem gChannels_any (X Y : Nat) (w : World) (s : Option (List Int)) (h : RdS w X Y s) :
    Calls Try.prog 55 #[.pointer (some ⟨Y, 0, none⟩), .func (.func 56) #[] #[]] w fun r w' => ∃ (l : List Ch) (a : Option Addr) (c : Nat) (s' : Option (List Int)), r = .returned (.slice a l.length c) ∧ l.length ≤ 255 ∧ w'.ownsRow w.heap.size 79 4 (.slice a l.length c) l.length (l.flatMap Ch.cells) ∧ RdS w' X Y s' ∧ Got s (rdMany rdCh) l s' ∧ ButL [X, Y] w w' := by
  obtain ⟨i0, hi0, hz0, hz1, hz2⟩ := info_parts Try.infoCh_conf
  have HI := Lib.hid hi0
  have c0 := h.c0
  have hlt := h.lt
  have HR := Lib.hid h
  clear h hi0
  go_enter Try.func55, Try.ntmps55
  go_wp2_with (first
    | (go_at_call 72
       refine (gGet_any X Y w s 1 HR.out (by omega) (by omega)).mono ?_
       rintro e w1 ⟨n0, s1, rfl, b0, b1, hr1, hg1, hb1⟩
       obtain ⟨m, rfl⟩ := Int.eq_ofNat_of_zero_le b0
       have HR1 := Lib.hid hr1
       have HG1 := Lib.hid hg1
       have HB1 := Lib.hid hb1
       clear hr1 hg1 hb1))
  have hm : m ≤ 255 := by omega
  clear c0 b0 b1
  go_loopw [5, 11] (fun v i wr => ∃ (k : Nat) (xs : List Ch) (a : Option Addr) (c : Nat) (s' : Option (List Int)), k ≤ m ∧ i = .int .i64 k ∧ v = .slice a k c ∧ Hid (xs.length = k) ∧ Hid (wr.ownsRow w.heap.size 79 4 (.slice a k c) k (xs.flatMap Ch.cells)) ∧ Hid (RdS wr X Y s') ∧ Hid (Got s1 (rdList rdCh k) xs s') ∧ Hid (ButL [X, Y] w wr)) (fun _ i _ => m - (intOf i).toNat)
  case atStart => exact ⟨0, [], none, 0, s1, by omega, rfl, rfl, Lib.hid rfl, Lib.hid ⟨rfl, .inl ⟨rfl, rfl⟩⟩, HR1, Lib.hid (Got.nil _ _), HB1⟩
  case round =>
    obtain ⟨k, xs, a, c, s2, hk, rfl, rfl, HXL, HOW, HR2, HG2, HB2⟩ := hrel
    by_cases hlt2 : k < m
    · have tk : decide ((k : Int) < (m : Int)) = true := by simpa using hlt2
      have hsz := HB2.out.size
      go_wp2_with (first
        | (go_at_call 56
           refine (gChannel_any X Y _ s2 HR2.out).mono ?_
           rintro e w2 ⟨x, s3, rfl, hr3, hg3, hb3⟩
           have HOW2 := Lib.hid (hb3.owns HOW.out (by simp; omega))
           have HB3 := Lib.hid (HB2.out.trans hb3)
           have HR3 := Lib.hid hr3
           have HG3 := Lib.hid hg3
           have hsz3 := HB3.out.size
           clear hr3 hg3 hb3)
        | (refine wpList_append_lie (by rfl) (.tmp 13) (.tmp 17) 35 (by rfl) w.heap.size 79 i0 _ 4 32 Try.underlying35 HI.out hz0 hz1 hz2 rfl (by omega) (.slice a k c) k _ (by rfl) (owns_later HOW2.out (below1 _ _)) (.slice (some ⟨w2.heap.size, 0, none⟩) 1 1) w2.heap.size (w2.heap.size + 1) 1 (Ch.cells x) (by rfl) (one_lies (heap_new_at rfl) rfl) (ch_one x) (k + 1) (by omega) (by simp [maxLen]; omega) (by omega) (by simp; omega) ?_
           intro ao cap' w3 hown hgrow
           rw [← flat_snoc] at hown
           have HOW3 := Lib.hid hown
           have HBG : Hid (Below w.heap.size w2 w3) := Lib.hid (((below1 w2 _).mono hsz3).grown hgrow (by simp; omega) (fun g hg => ((owns_block HOW2.out) g hg).1))
           clear hown hgrow))
      go_roundw
      case rel => exact ⟨k + 1, xs ++ [x], ao, cap', s3, by omega, by go_num, rfl, Lib.hid (by rw [List.length_append, HXL.out]; rfl), HOW3, Lib.hid (HR3.out.keepB HBG.out (by omega)), Lib.hid (HG2.out.snoc HG3.out), Lib.hid (HB3.out.then HBG.out)⟩
      case measure => simp [intOf]; omega
    · have tk : decide ((k : Int) < (m : Int)) = false := by simp; omega
      have hkm : k = m := by omega
      subst hkm
      go_wp2_with fail
      go_ret
      have hxl := HXL.out
      subst hxl
      exact ⟨xs, a, c, s2, rfl, hm, HOW.out, HR2.out, HG1.out.many HG2.out, HB2.out⟩
set_option maxRecDepth 100000 in
set_option maxHeartbeats 2000000 in
theorem gDonees_any (X Y : Nat) (w : World) (s : Option (List Int)) (h : RdS w X Y s) :
    Calls Try.prog 77 #[.pointer (some ⟨Y, 0, none⟩), .func (.func 78) #[] #[]] w fun r w' => ∃ (l : List Int) (a : Option Addr) (c : Nat) (s' : Option (List Int)), r = .returned (.slice a l.length c) ∧ l.length ≤ 255 ∧ w'.ownsRow w.heap.size 3 1 (.slice a l.length c) l.length (l.flatMap intCells) ∧ RdS w' X Y s' ∧ Got s (rdMany (rdN 1)) l s' ∧ ButL [X, Y] w w' := by
  obtain ⟨i0, hi0, hz0, hz1, hz2⟩ := info_parts Try.infoInt
  have HI := Lib.hid hi0
  have c0 := h.c0
  have hlt := h.lt
  have HR := Lib.hid h
  clear h hi0
  go_enter Try.func77, Try.ntmps77
  go_wp2_with (first
    | (go_at_call 72
       refine (gGet_any X Y w s 1 HR.out (by omega) (by omega)).mono ?_
       rintro e w1 ⟨n0, s1, rfl, b0, b1, hr1, hg1, hb1⟩
       obtain ⟨m, rfl⟩ := Int.eq_ofNat_of_zero_le b0
       have HR1 := Lib.hid hr1
       have HG1 := Lib.hid hg1
       have HB1 := Lib.hid hb1
       clear hr1 hg1 hb1))
  have hm : m ≤ 255 := by omega
  clear c0 b0 b1
  go_loopw [5, 11] (fun v i wr => ∃ (k : Nat) (xs : List Int) (a : Option Addr) (c : Nat) (s' : Option (List Int)), k ≤ m ∧ i = .int .i64 k ∧ v = .slice a k c ∧ Hid (xs.length = k) ∧ Hid (wr.ownsRow w.heap.size 3 1 (.slice a k c) k (xs.flatMap intCells)) ∧ Hid (RdS wr X Y s') ∧ Hid (Got s1 (rdList (rdN 1) k) xs s') ∧ Hid (ButL [X, Y] w wr)) (fun _ i _ => m - (intOf i).toNat)
  case atStart => exact ⟨0, [], none, 0, s1, by omega, rfl, rfl, Lib.hid rfl, Lib.hid ⟨rfl, .inl ⟨rfl, rfl⟩⟩, HR1, Lib.hid (Got.nil _ _), HB1⟩
  case round =>
    obtain ⟨k, xs, a, c, s2, hk, rfl, rfl, HXL, HOW, HR2, HG2, HB2⟩ := hrel
    by_cases hlt2 : k < m
    · have tk : decide ((k : Int) < (m : Int)) = true := by simpa using hlt2
      have hsz := HB2.out.size
      go_wp2_with (first
        | (go_at_call 78
           refine (gDonee_any X Y _ s2 HR2.out).mono ?_
           rintro e w2 ⟨x, s3, rfl, x0, x1, hr3, hg3, hb3⟩
           have HOW2 := Lib.hid (hb3.owns HOW.out (by simp; omega))
           have HB3 := Lib.hid (HB2.out.trans hb3)
           have HR3 := Lib.hid hr3
           have HG3 := Lib.hid hg3
           have hsz3 := HB3.out.size
           clear hr3 hg3 hb3)
        | (refine wpList_append_lie (by rfl) (.tmp 13) (.tmp 17) 55 (by rfl) w.heap.size 3 i0 _ 1 8 Try.underlying55 HI.out hz0 hz1 hz2 rfl (by omega) (.slice a k c) k _ (by rfl) (owns_later HOW2.out (below1 _ _)) (.slice (some ⟨w2.heap.size, 0, none⟩) 1 1) w2.heap.size (w2.heap.size + 1) 1 (intCells x) (by rfl) (one_lies (heap_new_at rfl) rfl) (in_one x) (k + 1) (by omega) (by simp [maxLen]; omega) (by omega) (by simp; omega) ?_
           intro ao cap' w3 hown hgrow
           rw [← flat_snoc] at hown
           have HOW3 := Lib.hid hown
           have HBG : Hid (Below w.heap.size w2 w3) := Lib.hid (((below1 w2 _).mono hsz3).grown hgrow (by simp; omega) (fun g hg => ((owns_block HOW2.out) g hg).1))
           clear hown hgrow))
      go_roundw
      case rel => exact ⟨k + 1, xs ++ [x], ao, cap', s3, by omega, by go_num, rfl, Lib.hid (by rw [List.length_append, HXL.out]; rfl), HOW3, Lib.hid (HR3.out.keepB HBG.out (by omega)), Lib.hid (HG2.out.snoc HG3.out), Lib.hid (HB3.out.then HBG.out)⟩
      case measure => simp [intOf]; omega
    · have tk : decide ((k : Int) < (m : Int)) = false := by simp; omega
      have hkm : k = m := by omega
      subst hkm
      go_wp2_with fail
      go_ret
      have hxl := HXL.out
      subst hxl
      exact ⟨xs, a, c, s2, rfl, hm, HOW.out, HR2.out, HG1.out.many HG2.out, HB2.out⟩
end Go.Proofs.Ytiombjkjoehjpaa
