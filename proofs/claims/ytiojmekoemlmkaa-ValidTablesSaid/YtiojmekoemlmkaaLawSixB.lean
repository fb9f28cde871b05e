/- A statement of the layer of what may be: just those systems have a table that may be, and it is that of their windows. -/
import Derived.Test.YtiojmekoemlmkaaValidK
import Derived.Test.YtiojmekoemlmkaaValidL
import Derived.Test.YtiojmekoemlmkaaFrameK
namespace Go.Proofs.Ytiojmekoemlmkaa
open Go.ChangeShapes Go.WideShapes Go.ChangeAt Go.RowKit
set_option linter.unusedVariables false

set_option maxRecDepth 100000 in
set_option maxHeartbeats 4000000 in
theorem ValidTables_heavy (wa pa ca : Option Addr) (wc pc cc : Nat) (p t : Int) (w : World) (c : Cf) (pvs : List Pv) (h : SysL w w.heap.size c pvs wa pa ca wc pc cc) (hin : c.In) (hlt : lightB c = false) :
    Calls Try.prog 4 #[.agg #[.int .i64 c.frame, .int .i64 c.margin, .slice wa c.ws.length wc, .slice pa c.ps.length pc, .slice ca c.cs.length cc], .int .i64 p, .int .i64 t] w fun e w' => e = .returned (.bool true) ∧ Below w.heap.size w w' := by
  obtain ⟨V, hV⟩ : ∃ V, V = w.alloc (.cells #[.int .i64 c.frame, .int .i64 c.margin, .slice wa c.ws.length wc, .slice pa c.ps.length pc, .slice ca c.cs.length cc] 26) := ⟨_, rfl⟩
  have hB1 : Below w.heap.size w V := by rw [hV]; exact below1 _ _
  have hblk : V.heap[w.heap.size]? = some (.cells #[.int .i64 c.frame, .int .i64 c.margin, .slice wa c.ws.length wc, .slice pa c.ps.length pc, .slice ca c.cs.length cc] 26 (0, 0)) := by rw [hV]; exact heap_alloc_new _ _
  have ks : ∀ W : World, Below V.heap.size V W → (W.cell? ⟨w.heap.size, 0, none⟩ = some (.int .i64 c.frame) ∧ W.cell? ⟨w.heap.size, 1, none⟩ = some (.int .i64 c.margin) ∧ W.cell? ⟨w.heap.size, 2, none⟩ = some (.slice wa c.ws.length wc) ∧ W.cell? ⟨w.heap.size, 3, none⟩ = some (.slice pa c.ps.length pc) ∧ W.cell? ⟨w.heap.size, 4, none⟩ = some (.slice ca c.cs.length cc)) := by
    intro W g
    have q := fun (i : Nat) (u : Value) hu => (g.cell (p := ⟨w.heap.size, i, none⟩) (lt_of_block hblk)).trans (cell_in (j := i) (u := u) hblk hu)
    exact ⟨q 0 _ rfl, q 1 _ rfl, q 2 _ rfl, q 3 _ rfl, q 4 _ rfl⟩
  have SV : SysL V w.heap.size c pvs wa pa ca wc pc cc := h.keep (SameIn.of_below hB1 (Nat.le_refl _))
  have CL := Lib.hid (light_any c.frame c.margin wa pa ca c.ws.length wc c.ps.length pc c.cs.length cc V 0 w.heap.size c pvs rfl rfl rfl SV.l2 SV.l3 hB1.size)
  have KS := Lib.hid ks; have HB1 := Lib.hid hB1; have HS := Lib.hid SV; have HV := Lib.hid hV; have HIN := Lib.hid hin.2.2.1; have HSZ := Lib.hid hB1.size
  clear ks hB1 SV hV hblk h
  have HLT := Lib.hid hlt; clear hlt
  go_enter Try.func4, Try.ntmps4
  go_wp2_with (first
    | (go_at_call 6; rw [← HV.out]; refine CL.out.mono ?_; rintro e w1 ⟨rfl, hb1⟩; rw [HLT.out])
    | (go_at_call 7; refine (knows6_any _).mono ?_; rintro e w2 ⟨rfl, hb2⟩))
  go_ret
  exact ⟨rfl, HB1.out.trans ((bel_next hb1 hb2).mono HB1.out.size)⟩
set_option maxRecDepth 100000 in
set_option maxHeartbeats 4000000 in
theorem ValidTables_none (wa pa ca : Option Addr) (wc pc cc : Nat) (p t : Int) (w : World) (c : Cf) (pvs : List Pv) (h : SysL w w.heap.size c pvs wa pa ca wc pc cc) (hin : c.In) (hlt : lightB c = true) (hz : (checkV c).1 ≠ 0) :
    Calls Try.prog 4 #[.agg #[.int .i64 c.frame, .int .i64 c.margin, .slice wa c.ws.length wc, .slice pa c.ps.length pc, .slice ca c.cs.length cc], .int .i64 p, .int .i64 t] w fun e w' => e = .returned (.bool true) ∧ Below w.heap.size w w' := by
  obtain ⟨V, hV⟩ : ∃ V, V = w.alloc (.cells #[.int .i64 c.frame, .int .i64 c.margin, .slice wa c.ws.length wc, .slice pa c.ps.length pc, .slice ca c.cs.length cc] 26) := ⟨_, rfl⟩
  have hB1 : Below w.heap.size w V := by rw [hV]; exact below1 _ _
  have hblk : V.heap[w.heap.size]? = some (.cells #[.int .i64 c.frame, .int .i64 c.margin, .slice wa c.ws.length wc, .slice pa c.ps.length pc, .slice ca c.cs.length cc] 26 (0, 0)) := by rw [hV]; exact heap_alloc_new _ _
  have ks : ∀ W : World, Below V.heap.size V W → (W.cell? ⟨w.heap.size, 0, none⟩ = some (.int .i64 c.frame) ∧ W.cell? ⟨w.heap.size, 1, none⟩ = some (.int .i64 c.margin) ∧ W.cell? ⟨w.heap.size, 2, none⟩ = some (.slice wa c.ws.length wc) ∧ W.cell? ⟨w.heap.size, 3, none⟩ = some (.slice pa c.ps.length pc) ∧ W.cell? ⟨w.heap.size, 4, none⟩ = some (.slice ca c.cs.length cc)) := by
    intro W g
    have q := fun (i : Nat) (u : Value) hu => (g.cell (p := ⟨w.heap.size, i, none⟩) (lt_of_block hblk)).trans (cell_in (j := i) (u := u) hblk hu)
    exact ⟨q 0 _ rfl, q 1 _ rfl, q 2 _ rfl, q 3 _ rfl, q 4 _ rfl⟩
  have SV : SysL V w.heap.size c pvs wa pa ca wc pc cc := h.keep (SameIn.of_below hB1 (Nat.le_refl _))
  have CL := Lib.hid (light_any c.frame c.margin wa pa ca c.ws.length wc c.ps.length pc c.cs.length cc V 0 w.heap.size c pvs rfl rfl rfl SV.l2 SV.l3 hB1.size)
  have KS := Lib.hid ks; have HB1 := Lib.hid hB1; have HS := Lib.hid SV; have HV := Lib.hid hV; have HIN := Lib.hid hin.2.2.1; have HSZ := Lib.hid hB1.size
  clear ks hB1 SV hV hblk h
  have HF := Lib.hid (light_bounds hlt)
  have HLT := Lib.hid hlt; clear hlt
  have t1 : decide ((checkV c).1 = 0) = false := by simpa using hz
  have t2 : ((checkV c).1 == 0) = false := by simpa using hz
  have HZ := Lib.hid hz; clear hz
  go_enter Try.func4, Try.ntmps4
  go_wp2_with (first
    | (go_at_call 6; rw [← HV.out]; refine CL.out.mono ?_; rintro e w1 ⟨rfl, hb1⟩; rw [HLT.out])
    | (go_at_call 7; refine (knows6_any _).mono ?_; rintro e w2 ⟨rfl, hb2⟩; obtain ⟨z0, z1, z2, z3, z4⟩ := KS.out _ (bel_next hb1 hb2))
    | (go_at_call 9; refine (config_sys HF.out (HS.out.keep (SameIn.of_below (bel_next hb1 hb2) HSZ.out)) (Nat.le_trans HSZ.out (bel_next hb1 hb2).size)).mono ?_; rintro e w3 ⟨vs, i1, i2, i3, j1, j2, j3, rfl, hs3, hb3⟩)
    | (go_at_call 12; refine (table_no HF.out hs3 (Nat.le_refl _) HIN.out HZ.out).mono ?_; rintro e w4 ⟨rfl, hb4⟩; obtain ⟨z0, z1, z2, z3, z4⟩ := KS.out _ (bel_next hb1 (bel_next hb2 (bel_next hb3 hb4))))
    | (go_at_call 10; refine (refCheck_sys HF.out (HS.out.keep (SameIn.of_below (bel_next hb1 (bel_next hb2 (bel_next hb3 hb4))) HSZ.out)) (Nat.le_trans HSZ.out (bel_next hb1 (bel_next hb2 (bel_next hb3 hb4))).size) HIN.out).mono ?_; rintro e w5 ⟨rfl, hb5⟩))
  go_ret
  exact ⟨rfl, HB1.out.trans ((bel_next hb1 (bel_next hb2 (bel_next hb3 (bel_next hb4 hb5)))).mono HB1.out.size)⟩
set_option maxRecDepth 100000 in
set_option maxHeartbeats 4000000 in
theorem ValidTables_some (wa pa ca : Option Addr) (wc pc cc : Nat) (p t : Int) (w : World) (c : Cf) (pvs : List Pv) (h : SysL w w.heap.size c pvs wa pa ca wc pc cc) (hin : c.In) (t0 : -9223372036854775808 ≤ t) (t1 : t ≤ 9223372036854775807) (hlt : lightB c = true) (hz : (checkV c).1 = 0) :
    Calls Try.prog 4 #[.agg #[.int .i64 c.frame, .int .i64 c.margin, .slice wa c.ws.length wc, .slice pa c.ps.length pc, .slice ca c.cs.length cc], .int .i64 p, .int .i64 t] w fun e w' => e = .returned (.bool true) ∧ Below w.heap.size w w' := by
  have hr := right_of_ok hz
  obtain ⟨F, hF⟩ := frame_nat hz
  obtain ⟨V, hV⟩ : ∃ V, V = w.alloc (.cells #[.int .i64 c.frame, .int .i64 c.margin, .slice wa c.ws.length wc, .slice pa c.ps.length pc, .slice ca c.cs.length cc] 26) := ⟨_, rfl⟩
  have hB1 : Below w.heap.size w V := by rw [hV]; exact below1 _ _
  have hblk : V.heap[w.heap.size]? = some (.cells #[.int .i64 c.frame, .int .i64 c.margin, .slice wa c.ws.length wc, .slice pa c.ps.length pc, .slice ca c.cs.length cc] 26 (0, 0)) := by rw [hV]; exact heap_alloc_new _ _
  have ks : ∀ W : World, Below V.heap.size V W → (W.cell? ⟨w.heap.size, 0, none⟩ = some (.int .i64 c.frame) ∧ W.cell? ⟨w.heap.size, 1, none⟩ = some (.int .i64 c.margin) ∧ W.cell? ⟨w.heap.size, 2, none⟩ = some (.slice wa c.ws.length wc) ∧ W.cell? ⟨w.heap.size, 3, none⟩ = some (.slice pa c.ps.length pc) ∧ W.cell? ⟨w.heap.size, 4, none⟩ = some (.slice ca c.cs.length cc)) := by
    intro W g
    have q := fun (i : Nat) (u : Value) hu => (g.cell (p := ⟨w.heap.size, i, none⟩) (lt_of_block hblk)).trans (cell_in (j := i) (u := u) hblk hu)
    exact ⟨q 0 _ rfl, q 1 _ rfl, q 2 _ rfl, q 3 _ rfl, q 4 _ rfl⟩
  have SV : SysL V w.heap.size c pvs wa pa ca wc pc cc := h.keep (SameIn.of_below hB1 (Nat.le_refl _))
  have CL := Lib.hid (light_any c.frame c.margin wa pa ca c.ws.length wc c.ps.length pc c.cs.length cc V 0 w.heap.size c pvs rfl rfl rfl SV.l2 SV.l3 hB1.size)
  have KS := Lib.hid ks; have HB1 := Lib.hid hB1; have HS := Lib.hid SV; have HV := Lib.hid hV; have HIN := Lib.hid hin.2.2.1; have HSZ := Lib.hid hB1.size
  clear ks hB1 SV hV hblk h
  have crn : ∀ W : World, Below V.heap.size V W → Calls Try.prog 13 #[.int .i64 c.frame, .int .i64 c.margin, .slice wa c.ws.length wc] W fun e w' => ∃ g la' lc', e = .returned (.pointer (some ⟨g, 0, none⟩)) ∧ RTab w' W.heap.size w'.heap.size g F c.margin la' c.ws.length lc' c.ws ∧ Below W.heap.size W w' := by
    intro W g
    rw [hF]
    exact rNew_yes F c.margin wa c.ws.length wc W 0 w.heap.size c.ws rfl (HS.out.l1.keep (SameIn.of_below g HSZ.out)) (Nat.le_trans HSZ.out g.size) HIN.out (by rw [← hF]; exact hr)
  have CR := Lib.hid crn; clear crn hr
  have HF := Lib.hid (light_bounds hlt)
  have HLT := Lib.hid hlt; have HZ := Lib.hid hz; have HFF := Lib.hid hF; clear hlt hz hF
  go_enter Try.func4, Try.ntmps4
  go_wp2_with (first
    | (go_at_call 6; rw [← HV.out]; refine CL.out.mono ?_; rintro e w1 ⟨rfl, hb1⟩; rw [HLT.out])
    | (go_at_call 7; refine (knows6_any _).mono ?_; rintro e w2 ⟨rfl, hb2⟩; obtain ⟨z0, z1, z2, z3, z4⟩ := KS.out _ (bel_next hb1 hb2))
    | (go_at_call 9; refine (config_sys HF.out (HS.out.keep (SameIn.of_below (bel_next hb1 hb2) HSZ.out)) (Nat.le_trans HSZ.out (bel_next hb1 hb2).size)).mono ?_; rintro e w3 ⟨vs, i1, i2, i3, j1, j2, j3, rfl, hs3, hb3⟩)
    | (go_at_call 12; refine (table_yes HF.out hs3 (Nat.le_refl _) HIN.out HZ.out F HFF.out).mono ?_; rintro e w4 ⟨g1, la1, lc1, rfl, ht, hb4⟩; have H := Lib.hid ht; clear ht; have HB4 := Lib.hid (bel_next hb1 (bel_next hb2 (bel_next hb3 hb4))); obtain ⟨z0, z1, z2, z3, z4⟩ := KS.out _ HB4.out)
    | (go_at_call 10; refine (refCheck_sys HF.out (HS.out.keep (SameIn.of_below HB4.out HSZ.out)) (Nat.le_trans HSZ.out HB4.out.size) HIN.out).mono ?_; rintro e w5 ⟨rfl, hb5⟩; rw [HZ.out]; obtain ⟨z0, z1, z2, z3, z4⟩ := KS.out _ (bel_next HB4.out hb5))
    | (go_at_call 13; refine (CR.out _ (bel_next HB4.out hb5)).mono ?_; rintro e w6 ⟨g2, la2, lc2, rfl, ht, hb6⟩; have R := Lib.hid ht; clear ht; have HB6 := Lib.hid (bel_next hb5 hb6); obtain ⟨z0, z1, z2, z3, z4⟩ := KS.out _ (bel_next HB4.out HB6.out))
    | (go_at_call 14; refine (tOwner_any (H.out.keep HB6.out (Nat.le_refl _)) HB6.out.size _ t0 t1).mono ?_; rintro e w7 ⟨rfl, hb7⟩)
    | (go_at_call 15; refine (rOwner_any (R.out.keep hb7 (Nat.le_refl _)) hb7.size _ t0 t1).mono ?_; rintro e w8 ⟨rfl, hb8⟩; have HB8 := Lib.hid (bel_next hb7 hb8); have HC8 := Lib.hid (bel_next HB6.out (bel_next hb7 hb8)); obtain ⟨z0, z1, z2, z3, z4⟩ := KS.out _ (bel_next HB4.out HC8.out)))
  have KZ := Lib.hid (fun (W : World) (g : Below w8.heap.size w8 W) => (⟨g, (KS.out W (bel_next HB4.out (bel_next HC8.out g))).1⟩ : Below w8.heap.size w8 W ∧ W.cell? ⟨w.heap.size, 0, none⟩ = some (.int .i64 c.frame)))
  have H8 := Lib.hid (H.out.keep HC8.out (Nat.le_refl _)); have R8 := Lib.hid (R.out.keep HB8.out (Nat.le_refl _)); have S8 := Lib.hid HC8.out.size; have Q8 := Lib.hid HB8.out.size
  go_region_held3 (fun W => Below w8.heap.size w8 W ∧ W.cell? ⟨w.heap.size, 0, none⟩ = some (.int .i64 c.frame))
    (first | exact KZ.out _ ((Below.refl _ _).drew) | exact KZ.out _ (by assumption))
    (first
      | (go_at_call 16; refine (tFrame_any (H8.out.keep (by first | exact (Below.refl _ _).drew | assumption | exact Below.refl _ _) S8.out)).mono ?_; rintro e w' ⟨rfl, rfl⟩; rw [← HFF.out])
      | (go_at_call 17; have hq : Below w8.heap.size w8 w8.drew := (Below.refl _ _).drew; refine (tOffered_any (H8.out.keep (by first | exact (Below.refl _ _).drew | assumption | exact Below.refl _ _) S8.out) (by exact Nat.le_trans S8.out (by first | exact Nat.le_refl _ | exact Below.size (by assumption))) _).mono ?_; rintro e w9 ⟨rfl, hb9⟩; have h9 : Below w8.heap.size w8 w9 := bel_then (by first | exact (Below.refl _ _).drew | assumption | exact Below.refl _ _) (Nat.le_refl _) hb9)
      | (go_at_call 18; refine (rOffered_any (R8.out.keep (by first | exact (Below.refl _ _).drew | assumption | exact Below.refl _ _) Q8.out) (by exact Nat.le_trans Q8.out (by first | exact Nat.le_refl _ | exact Below.size (by assumption))) _).mono ?_; rintro e w10 ⟨rfl, hb10⟩; have h10 : Below w8.heap.size w8 w10 := bel_then (by first | exact (Below.refl _ _).drew | assumption | exact Below.refl _ _) (Nat.le_refl _) hb10))
  go_wp2_with fail
  go_ret
  exact ⟨rfl, HB1.out.trans ((bel_next HB4.out (bel_next HC8.out h10)).mono HB1.out.size)⟩
theorem ValidTables_body (wa pa ca : Option Addr) (wc pc cc : Nat) (p t : Int) (w : World) (c : Cf) (pvs : List Pv) (h : SysL w w.heap.size c pvs wa pa ca wc pc cc) (hin : c.In) (hp : I64 p) (ht : I64 t) :
    Calls Try.prog 4 #[.agg #[.int .i64 c.frame, .int .i64 c.margin, .slice wa c.ws.length wc, .slice pa c.ps.length pc, .slice ca c.cs.length cc], .int .i64 p, .int .i64 t] w fun e w' => e = .returned (.bool true) ∧ Below w.heap.size w w' := by
  cases hlt : lightB c with
  | false => exact ValidTables_heavy wa pa ca wc pc cc p t w c pvs h hin hlt
  | true =>
    by_cases hz : (checkV c).1 = 0
    · exact ValidTables_some wa pa ca wc pc cc p t w c pvs h hin ht.1 ht.2 hlt hz
    · exact ValidTables_none wa pa ca wc pc cc p t w c pvs h hin hlt hz
end Go.Proofs.Ytiojmekoemlmkaa
