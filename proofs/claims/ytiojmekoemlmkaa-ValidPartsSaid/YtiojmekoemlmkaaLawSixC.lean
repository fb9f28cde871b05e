/- A statement of the layer of what may be: a system may be just if each of its partitions, by itself, may be, and so may its windows and channels. -/
import Derived.Test.YtiojmekoemlmkaaValidN
namespace Go.Proofs.Ytiojmekoemlmkaa
open Go.ChangeShapes Go.WideShapes Go.ChangeAt Go.RowKit
set_option linter.unusedVariables false
attribute [local go_sem ↓] Go.wp_at_zero Go.wp_at_succ

def okOne (c : Cf) (i : Nat) : Bool := decide ((checkV (aloneC c i)).1 = 0)
def accOk (c : Cf) (k : Nat) : Bool := (List.range k).all (okOne c)
theorem acc_next (c : Cf) (k : Nat) : accOk c (k + 1) = (accOk c k && okOne c k) := by unfold accOk; rw [List.range_succ, List.all_append]; simp
theorem acc_end (c : Cf) : accOk c (c.ps.length + 1) = decide ((checkV c).1 = 0) := by
  rw [Bool.eq_iff_iff, decide_eq_true_eq, alone_all]
  unfold accOk okOne
  simp only [List.all_eq_true, List.mem_range, decide_eq_true_eq]
  exact ⟨fun h i hi => h i (by omega), fun h i hi => h i (by omega)⟩
theorem alone_few {c : Cf} (f : Few c) (i : Nat) : Few (aloneC c i) := by
  obtain ⟨f1, f2, f3, f4⟩ := f
  refine ⟨?_, ?_, ?_, ?_⟩
  · show (if i < c.ps.length then [] else c.ws).length ≤ 1000
    split
    · exact Nat.zero_le _
    · exact f1
  · show (onlyAt i c.ps).length ≤ 1000
    rw [onlyAt_len]; exact f2
  · show (if i < c.ps.length then [] else c.cs).length ≤ 1000
    split
    · exact Nat.zero_le _
    · exact f3
  · intro p hp
    have hp' : p ∈ onlyAt i c.ps := hp
    unfold onlyAt at hp'
    rw [List.mem_map] at hp'
    obtain ⟨k, hk, rfl⟩ := hp'
    have hk' : k < c.ps.length := List.mem_range.1 hk
    split
    · rw [List.getD_eq_getElem?_getD, List.getElem?_eq_getElem hk']
      exact f4 _ (List.getElem_mem _)
    · exact ⟨by decide, by decide, by decide⟩
theorem alone_in {c : Cf} (h : ∀ x ∈ c.ws, x.In) (i : Nat) : ∀ x ∈ (aloneC c i).ws, x.In := by
  intro x hx
  have hx' : x ∈ (if i < c.ps.length then [] else c.ws) := hx
  split at hx'
  · cases hx'
  · exact h x hx'
/-- What is checked of a clone of which all but one partition was taken out. -/
theorem cut_one {W : World} {B : Nat} {c : Cf} {pa : Option Addr} {pc i : Nat} {vs : List Pv} (f : Few c) (hin : ∀ x ∈ c.ws, x.In) (hi : i < c.ps.length)
    (row : W.ownsRow B 55 6 (.slice pa c.ps.length pc) c.ps.length ((clr i c.ps.length vs).flatMap Pv.cells)) (all : AllOwn W B 100 103 3 vs c.ps) :
    Calls Try.prog 8 #[.agg #[.int .i64 c.frame, .int .i64 c.margin, .slice none 0 0, .slice pa c.ps.length pc, .slice none 0 0]] W fun e w' => e = .returned (.tuple #[.int .i64 (checkV (aloneC c i)).1, .int .i64 (checkV (aloneC c i)).2]) ∧ Below W.heap.size W w' := by
  have e1 : (aloneC c i).ws = [] := if_pos hi
  have e2 : (aloneC c i).cs = [] := if_pos hi
  have e3 : (aloneC c i).ps.length = c.ps.length := onlyAt_len _ _
  have hl : AllLie W 0 W.heap.size (clr i c.ps.length vs) (aloneC c i).ps := clr_lie all.lies i
  refine check_any c.frame c.margin none pa none 0 0 c.ps.length pc 0 0 W W.heap.size (aloneC c i) (clr i c.ps.length vs) rfl rfl (by rw [e1]; rfl) e3 (by rw [e2]; rfl) (alone_few f i) ⟨?_, ?_, hl, ?_⟩ (Nat.le_refl _) (alone_in hin i) _ _ rfl
  · rw [e1]; exact lies_nil _ _ _
  · rw [e3]; exact (Lies.of_owns row).wider (Nat.zero_le _) (Nat.le_refl _)
  · rw [e2]; exact lies_nil _ _ _
theorem cut_none {w1 W : World} {B yb : Nat} {c : Cf} {wa pa ca : Option Addr} {wc pc cc : Nat} {vs : List Pv} (f : Few c) (hin : ∀ x ∈ c.ws, x.In) (h : Cut w1 B yb c wa pa ca wc pc cc c.ps.length vs c.ps.length W) :
    Calls Try.prog 8 #[.agg #[.int .i64 c.frame, .int .i64 c.margin, .slice wa c.ws.length wc, .slice pa c.ps.length pc, .slice ca c.cs.length cc]] W fun e w' => e = .returned (.tuple #[.int .i64 (checkV (aloneC c c.ps.length)).1, .int .i64 (checkV (aloneC c c.ps.length)).2]) ∧ Below W.heap.size W w' := by
  have e1 : (aloneC c c.ps.length).ws = c.ws := if_neg (Nat.lt_irrefl _)
  have e2 : (aloneC c c.ps.length).cs = c.cs := if_neg (Nat.lt_irrefl _)
  have e3 : (aloneC c c.ps.length).ps.length = c.ps.length := onlyAt_len _ _
  have hl : AllLie W 0 W.heap.size (clr c.ps.length c.ps.length vs) (aloneC c c.ps.length).ps := clr_lie h.all.lies _
  refine check_any c.frame c.margin wa pa ca c.ws.length wc c.ps.length pc c.cs.length cc W W.heap.size (aloneC c c.ps.length) (clr c.ps.length c.ps.length vs) rfl rfl (by rw [e1]) e3 (by rw [e2]) (alone_few f _) ⟨?_, ?_, hl, ?_⟩ (Nat.le_refl _) (alone_in hin _) _ _ rfl
  · rw [e1]; exact (Lies.of_owns h.own1).wider (Nat.zero_le _) (Nat.le_refl _)
  · rw [e3]; exact (Lies.of_owns h.row).wider (Nat.zero_le _) (Nat.le_refl _)
  · rw [e2]; exact (Lies.of_owns h.own3).wider (Nat.zero_le _) (Nat.le_refl _)
set_option maxRecDepth 100000 in
set_option maxHeartbeats 8000000 in
theorem ValidParts_few (wa pa ca : Option Addr) (wc pc cc : Nat) (w : World) (c : Cf) (pvs : List Pv) (h : SysL w w.heap.size c pvs wa pa ca wc pc cc) (hin : c.In) (hlt : lightB c = false ∨ (lightB c = true ∧ c.ps.length < 1) ∨ (lightB c = true ∧ 1 ≤ c.ps.length ∧ 6 < c.ps.length)) :
    Calls Try.prog 5 #[.agg #[.int .i64 c.frame, .int .i64 c.margin, .slice wa c.ws.length wc, .slice pa c.ps.length pc, .slice ca c.cs.length cc]] w fun e w' => e = .returned (.bool true) ∧ Below w.heap.size w w' := by
  obtain ⟨V, hV⟩ : ∃ V, V = w.alloc (.cells #[.int .i64 c.frame, .int .i64 c.margin, .slice wa c.ws.length wc, .slice pa c.ps.length pc, .slice ca c.cs.length cc] 26) := ⟨_, rfl⟩
  have hB1 : Below w.heap.size w V := by rw [hV]; exact below1 _ _
  have hblk : V.heap[w.heap.size]? = some (.cells #[.int .i64 c.frame, .int .i64 c.margin, .slice wa c.ws.length wc, .slice pa c.ps.length pc, .slice ca c.cs.length cc] 26 (0, 0)) := by rw [hV]; exact heap_alloc_new _ _
  have ks : ∀ W : World, Below V.heap.size V W → (W.cell? ⟨w.heap.size, 0, none⟩ = some (.int .i64 c.frame) ∧ W.cell? ⟨w.heap.size, 1, none⟩ = some (.int .i64 c.margin) ∧ W.cell? ⟨w.heap.size, 2, none⟩ = some (.slice wa c.ws.length wc) ∧ W.cell? ⟨w.heap.size, 3, none⟩ = some (.slice pa c.ps.length pc) ∧ W.cell? ⟨w.heap.size, 4, none⟩ = some (.slice ca c.cs.length cc)) := by
    intro W g
    have q := fun (i : Nat) (u : Value) hu => (g.cell (p := ⟨w.heap.size, i, none⟩) (lt_of_block hblk)).trans (cell_in (j := i) (u := u) hblk hu)
    exact ⟨q 0 _ rfl, q 1 _ rfl, q 2 _ rfl, q 3 _ rfl, q 4 _ rfl⟩
  have SV : SysL V w.heap.size c pvs wa pa ca wc pc cc := h.keep (SameIn.of_below hB1 (Nat.le_refl _))
  have CL := Lib.hid (light_any c.frame c.margin wa pa ca c.ws.length wc c.ps.length pc c.cs.length cc V 0 w.heap.size c pvs rfl rfl rfl SV.l2 SV.l3 hB1.size)
  have KS := Lib.hid ks; have HB1 := Lib.hid hB1; have HS := Lib.hid SV; have HV := Lib.hid hV; have HIN := Lib.hid hin.2.2.1; have HSZ := Lib.hid hB1.size
  clear ks hB1 SV hV hblk h
  rcases hlt with hlt | ⟨hlt, hp⟩ | ⟨hlt, hp, hp2⟩
  all_goals
    (have HLT := Lib.hid hlt; clear hlt
     go_enter Try.func5, Try.ntmps5
     go_wp2_with (first
       | (go_at_call 6; rw [← HV.out]; refine CL.out.mono ?_; rintro e w1 ⟨rfl, hb1⟩; rw [HLT.out]; obtain ⟨z0, z1, z2, z3, z4⟩ := KS.out _ hb1)
       | (go_at_call 7; refine (knows6_any _).mono ?_; rintro e w2 ⟨rfl, hb2⟩))
     go_ret
     exact ⟨rfl, HB1.out.trans ((bel_next hb1 hb2).mono HB1.out.size)⟩)
set_option maxRecDepth 100000 in
set_option maxHeartbeats 8000000 in
theorem ValidParts_is (wa pa ca : Option Addr) (wc pc cc : Nat) (w : World) (c : Cf) (pvs : List Pv) (h : SysL w w.heap.size c pvs wa pa ca wc pc cc) (hin : c.In) (hlt : lightB c = true) (hp1 : 1 ≤ c.ps.length) (hp6 : c.ps.length ≤ 6) :
    Calls Try.prog 5 #[.agg #[.int .i64 c.frame, .int .i64 c.margin, .slice wa c.ws.length wc, .slice pa c.ps.length pc, .slice ca c.cs.length cc]] w fun e w' => e = .returned (.bool true) ∧ Below w.heap.size w w' := by
  obtain ⟨V, hV⟩ : ∃ V, V = w.alloc (.cells #[.int .i64 c.frame, .int .i64 c.margin, .slice wa c.ws.length wc, .slice pa c.ps.length pc, .slice ca c.cs.length cc] 26) := ⟨_, rfl⟩
  have hB1 : Below w.heap.size w V := by rw [hV]; exact below1 _ _
  have hblk : V.heap[w.heap.size]? = some (.cells #[.int .i64 c.frame, .int .i64 c.margin, .slice wa c.ws.length wc, .slice pa c.ps.length pc, .slice ca c.cs.length cc] 26 (0, 0)) := by rw [hV]; exact heap_alloc_new _ _
  have ks : ∀ W : World, Below V.heap.size V W → (W.cell? ⟨w.heap.size, 0, none⟩ = some (.int .i64 c.frame) ∧ W.cell? ⟨w.heap.size, 1, none⟩ = some (.int .i64 c.margin) ∧ W.cell? ⟨w.heap.size, 2, none⟩ = some (.slice wa c.ws.length wc) ∧ W.cell? ⟨w.heap.size, 3, none⟩ = some (.slice pa c.ps.length pc) ∧ W.cell? ⟨w.heap.size, 4, none⟩ = some (.slice ca c.cs.length cc)) := by
    intro W g
    have q := fun (i : Nat) (u : Value) hu => (g.cell (p := ⟨w.heap.size, i, none⟩) (lt_of_block hblk)).trans (cell_in (j := i) (u := u) hblk hu)
    exact ⟨q 0 _ rfl, q 1 _ rfl, q 2 _ rfl, q 3 _ rfl, q 4 _ rfl⟩
  have SV : SysL V w.heap.size c pvs wa pa ca wc pc cc := h.keep (SameIn.of_below hB1 (Nat.le_refl _))
  have CL := Lib.hid (light_any c.frame c.margin wa pa ca c.ws.length wc c.ps.length pc c.cs.length cc V 0 w.heap.size c pvs rfl rfl rfl SV.l2 SV.l3 hB1.size)
  have KS := Lib.hid ks; have HB1 := Lib.hid hB1; have HS := Lib.hid SV; have HV := Lib.hid hV; have HIN := Lib.hid hin.2.2.1; have HSZ := Lib.hid hB1.size
  clear ks hB1 SV hV hblk h
  have HF := Lib.hid (light_bounds hlt)
  have HLT := Lib.hid hlt; clear hlt
  go_enter Try.func5, Try.ntmps5
  go_wp2_with (first
    | (go_at_call 6; rw [← HV.out]; refine CL.out.mono ?_; rintro e w1 ⟨rfl, hb1⟩; rw [HLT.out]; obtain ⟨z0, z1, z2, z3, z4⟩ := KS.out _ hb1)
    | (go_at_call 7; refine (knows6_any _).mono ?_; rintro e w2 ⟨rfl, hb2⟩; obtain ⟨z0, z1, z2, z3, z4⟩ := KS.out _ (bel_next hb1 hb2))
    | (go_at_call 9; refine (config_sys HF.out (HS.out.keep (SameIn.of_below (bel_next hb1 hb2) HSZ.out)) (Nat.le_trans HSZ.out (bel_next hb1 hb2).size)).mono ?_; rintro e w3 ⟨vs0, i1, i2, i3, j1, j2, j3, rfl, hs3, hb3⟩)
    | (go_at_call 8; refine (check_sys HF.out (hs3.keep (SameIn.of_below (below1 _ _) (Nat.le_refl _))) (below1 _ _).size HIN.out).mono ?_; rintro e w5 ⟨rfl, hb5⟩))
  have BX : Below V.heap.size V w3 := bel_next hb1 (bel_next hb2 hb3)
  have b35 : Below w3.heap.size w3 w5 := (below1 w3 (.cells #[.int .i64 c.frame, .int .i64 c.margin, .slice i1 c.ws.length j1, .slice i2 c.ps.length j2, .slice i3 c.cs.length j3] 36)).trans (hb5.mono (below1 w3 (.cells #[.int .i64 c.frame, .int .i64 c.margin, .slice i1 c.ws.length j1, .slice i2 c.ps.length j2, .slice i3 c.cs.length j3] 36)).size)
  have hxb : w5.heap[w3.heap.size]? = some (.cells #[.int .i64 c.frame, .int .i64 c.margin, .slice i1 c.ws.length j1, .slice i2 c.ps.length j2, .slice i3 c.cs.length j3] 36 (0, 0)) := (hb5.block _ (by simp)).trans (heap_alloc_new _ _)
  have XS : SysL w5 w3.heap.size c vs0 i1 i2 i3 j1 j2 j3 := hs3.keep (SameIn.of_below b35 (Nat.le_refl _))
  have kx : ∀ W : World, Below w5.heap.size w5 W → (W.cell? ⟨w.heap.size, 3, none⟩ = some (.slice pa c.ps.length pc) ∧ W.cell? ⟨w3.heap.size, 0, none⟩ = some (.int .i64 c.frame) ∧ W.cell? ⟨w3.heap.size, 1, none⟩ = some (.int .i64 c.margin) ∧ W.cell? ⟨w3.heap.size, 2, none⟩ = some (.slice i1 c.ws.length j1) ∧ W.cell? ⟨w3.heap.size, 3, none⟩ = some (.slice i2 c.ps.length j2) ∧ W.cell? ⟨w3.heap.size, 4, none⟩ = some (.slice i3 c.cs.length j3)) := by
    intro W g
    have q := fun (i : Nat) (u : Value) hu => (g.cell (p := ⟨w3.heap.size, i, none⟩) (lt_of_block hxb)).trans (cell_in (j := i) (u := u) hxb hu)
    exact ⟨(KS.out W (bel_next BX (bel_next b35 g))).2.2.2.1, q 0 _ rfl, q 1 _ rfl, q 2 _ rfl, q 3 _ rfl, q 4 _ rfl⟩
  have s35 := b35.size
  have cln : ∀ W : World, Below w5.heap.size w5 W → Calls Try.prog 19 #[.agg #[.int .i64 c.frame, .int .i64 c.margin, .slice i1 c.ws.length j1, .slice i2 c.ps.length j2, .slice i3 c.cs.length j3]] W fun e w' => ∃ wa' wc' pa' pc' ca' cc' vs', e = .returned (.agg #[.int .i64 c.frame, .int .i64 c.margin, .slice wa' c.ws.length wc', .slice pa' c.ps.length pc', .slice ca' c.cs.length cc']) ∧
      w'.ownsRow (W.heap.size + 2) 62 3 (.slice wa' c.ws.length wc') c.ws.length (c.ws.flatMap Wn.cells) ∧ w'.ownsRow (W.heap.size + 2) 55 6 (.slice pa' c.ps.length pc') c.ps.length (vs'.flatMap Pv.cells) ∧ AllOwn w' (W.heap.size + 2) 100 103 3 vs' c.ps ∧
      w'.ownsRow (W.heap.size + 2) 72 4 (.slice ca' c.cs.length cc') c.cs.length (c.cs.flatMap Ch.cells) ∧ Below W.heap.size W w' := fun W g =>
    clone_any c.frame c.margin i1 i2 i3 _ j1 _ j2 _ j3 W 0 w3.heap.size c vs0 rfl rfl rfl (XS.l1.keep (SameIn.of_below g s35)) (XS.l2.keep (SameIn.of_below g s35)) (XS.l3.keep (SameIn.of_below g s35)) (XS.l4.keep (SameIn.of_below g s35)) (Nat.le_trans s35 g.size) HF.out.1 HF.out.2.1 HF.out.2.2.1 HF.out.2.2.2
  have KX := Lib.hid kx; have CLN := Lib.hid cln; have HW5 : Hid (Below w.heap.size w w5) := Lib.hid (HB1.out.trans ((bel_next BX b35).mono HB1.out.size))
  clear kx cln XS hxb b35 BX hb1 hb2 hb3 hb5 hs3 CL KS HS z0 z1 z2 z3 z4
  go_loopw [6, 7] (fun a i wr => ∃ (k : Nat) (b : Bool), k ≤ c.ps.length + 1 ∧ i = .int .i64 k ∧ a = .bool b ∧ Hid (b = accOk c k) ∧ Below w5.heap.size w5 wr) (fun _ i _ => c.ps.length + 1 - (intOf i).toNat)
  case atStart => exact ⟨0, true, by omega, rfl, rfl, Lib.hid rfl, Below.refl _ _⟩
  case round =>
    obtain ⟨k, b, hk, rfl, rfl, HA, hb⟩ := hrel
    obtain ⟨wo, hwo⟩ : ∃ wo : World, wo = wr := ⟨_, rfl⟩
    subst hwo
    obtain ⟨y0, y1, y2, y3, y4, y5⟩ := KX.out _ hb
    have HBB := Lib.hid hb
    by_cases hlt : k ≤ c.ps.length
    · have tk : decide ((k : Int) ≤ (c.ps.length : Int)) = true := by simpa using hlt
      have CL2 := Lib.hid (CLN.out wo hb)
      clear hb
      go_wp2_with (first | (go_at_call 19; refine CL2.out.mono ?_; rintro e w6 ⟨wa', wc', pa', pc', ca', cc', vs', rfl, o1, o2, o3, o4, hb6⟩; have O1 := Lib.hid o1; have O2 := Lib.hid o2; have O3 := Lib.hid o3; have O4 := Lib.hid o4; have HB6 := Lib.hid hb6; clear o1 o2 o3 o4 hb6))
      obtain ⟨g, cap, ge, hg1, hg2⟩ := O2.out.form (by omega)
      cases ge
      have hc0 : Cut wo (wo.heap.size + 2) w6.heap.size c wa' (some ⟨g, 0, none⟩) ca' wc' pc' cc' k vs' 0 (w6.alloc (.cells #[.int .i64 c.frame, .int .i64 c.margin, .slice wa' c.ws.length wc', .slice (some ⟨g, 0, none⟩) c.ps.length pc', .slice ca' c.cs.length cc'] 36)) :=
        ⟨heap_alloc_new _ _, owns_later O1.out (below1 _ _), by rw [clr_zero]; exact owns_later O2.out (below1 _ _), O3.out.keep (KeepsBut.of_below (E := 999999) (T := 999999) (below1 _ _)) (by decide) (by decide) (by decide), owns_later O4.out (below1 _ _), b_alloc HB6.out (Nat.le_refl _) _, by omega, HB6.out.size⟩
      have HC0 := Lib.hid hc0
      clear hc0 O1 O2 O3 O4 y0 y1 y2 y3 y4 y5
      go_loopw [9] (fun i wq => ∃ m : Nat, m ≤ c.ps.length ∧ i = .int .i64 m ∧ Hid (Cut wo (wo.heap.size + 2) w6.heap.size c wa' (some ⟨g, 0, none⟩) ca' wc' pc' cc' k vs' m wq)) (fun i _ => c.ps.length - (intOf i).toNat)
      case atStart => exact ⟨0, by omega, rfl, HC0⟩
      case round =>
        clear HC0
        obtain ⟨m, hm, rfl, HC⟩ := hrel
        have hyb := lt_of_block HC.out.obj
        have hys := HC.out.hy
        have x0 : wr.cell? ⟨w6.heap.size, 0, none⟩ = some (.int .i64 c.frame) := cell_in HC.out.obj rfl
        have x1 : wr.cell? ⟨w6.heap.size, 1, none⟩ = some (.int .i64 c.margin) := cell_in HC.out.obj rfl
        have x2 : wr.cell? ⟨w6.heap.size, 2, none⟩ = some (.slice wa' c.ws.length wc') := cell_in HC.out.obj rfl
        have x3 : wr.cell? ⟨w6.heap.size, 3, none⟩ = some (.slice (some ⟨g, 0, none⟩) c.ps.length pc') := cell_in HC.out.obj rfl
        have x4 : wr.cell? ⟨w6.heap.size, 4, none⟩ = some (.slice ca' c.cs.length cc') := cell_in HC.out.obj rfl
        have hgy : g ≠ w6.heap.size := by omega
        by_cases hlm : m < c.ps.length
        · have tm : decide ((m : Int) < (c.ps.length : Int)) = true := by simpa using hlm
          by_cases hmk : m = k
          · subst hmk
            have HN := Lib.hid HC.out.skip
            go_wp2_with fail
            go_roundw
            case rel => exact ⟨m + 1, by omega, by go_num, HN⟩
            case measure => simp [intOf]; omega
          · have tq : decide ((m : Int) = (k : Int)) = false := by simp; omega
            have tq2 : ((m : Int) == (k : Int)) = false := by simp; omega
            have hvl : vs'.length = c.ps.length := HC.out.all.length
            obtain ⟨v, hv⟩ : ∃ v, (clr k m vs')[m]? = some v := ⟨_, List.getElem?_eq_getElem (by rw [clr_len]; omega)⟩
            have hrow : ∀ j u, ((clr k m vs').flatMap Pv.cells)[j]? = some u → wr.cell? ⟨g, 0 + j, none⟩ = some u := fun j u hu => by
              rw [Nat.zero_add, HC.out.row.cellAt j (by have := (List.getElem?_eq_some_iff.1 hu).1; rw [HC.out.row.1] at this; exact this)]; exact hu
            obtain ⟨r0, r1, r2, r3, r4, r5⟩ := Lies.pv hrow hv
            rw [Nat.zero_add] at r0 r1 r2 r3 r4 r5
            have f0 := HC.out.row.frozenAt (m * 6)
            have f1 := HC.out.row.frozenAt (m * 6 + 1)
            have f2 := HC.out.row.frozenAt (m * 6 + 2)
            have f3 := HC.out.row.frozenAt (m * 6 + 3)
            have f4 := HC.out.row.frozenAt (m * 6 + 4)
            have f5 := HC.out.row.frozenAt (m * 6 + 5)
            have HN := Lib.hid (HC.out.put hlm hmk hg1)
            have l0 : (0 : Int) ≤ (m : Int) := by omega
            have l1 : (m : Int) < (c.ps.length : Int) := by omega
            clear hrow hv
            go_wp2_with fail
            go_roundw
            case rel => exact ⟨m + 1, by omega, by go_num, HN⟩
            case measure => simp [intOf]; omega
        · have tm : decide ((m : Int) < (c.ps.length : Int)) = false := by simp; omega
          have hmn : m = c.ps.length := by omega
          subst hmn
          have y3 := (KX.out wr (HBB.out.trans (HC.out.below.mono HBB.out.size))).1
          by_cases hkp : k < c.ps.length
          · have tp : decide ((k : Int) < (c.ps.length : Int)) = true := by simpa using hkp
            have q1 := set_at (j := 2) (u := .slice none 0 0) HC.out.obj
            have q2 := set_at (j := 4) (u := .slice none 0 0) q1
            have f2 := free_in HC.out.obj 2
            have f4 := free_in HC.out.obj 4
            have row9 : ((wr.setCell ⟨w6.heap.size, 2, none⟩ (.slice none 0 0)).setCell ⟨w6.heap.size, 4, none⟩ (.slice none 0 0)).ownsRow (wo.heap.size + 2) 55 6 (.slice (some ⟨g, 0, none⟩) c.ps.length pc') c.ps.length ((clr k c.ps.length vs').flatMap Pv.cells) := setCell_owns (setCell_owns HC.out.row HC.out.obj (by decide) _) q1 (by decide) _
            have all9 : AllOwn ((wr.setCell ⟨w6.heap.size, 2, none⟩ (.slice none 0 0)).setCell ⟨w6.heap.size, 4, none⟩ (.slice none 0 0)) (wo.heap.size + 2) 100 103 3 vs' c.ps := HC.out.all.keep ((KeepsBut.set (E := 36) (a := ⟨w6.heap.size, 2, none⟩) HC.out.obj _).trans (KeepsBut.set (a := ⟨w6.heap.size, 4, none⟩) q1 _)) (by decide) (by decide) (by decide)
            have CK := Lib.hid (cut_one HF.out HIN.out hkp row9 all9)
            have B9 : Hid (Below wo.heap.size wo ((wr.setCell ⟨w6.heap.size, 2, none⟩ (.slice none 0 0)).setCell ⟨w6.heap.size, 4, none⟩ (.slice none 0 0))) := Lib.hid ((HC.out.below.setCell (p := ⟨w6.heap.size, 2, none⟩) hys _).setCell (p := ⟨w6.heap.size, 4, none⟩) hys _)
            clear row9 all9 q1 q2
            cases b with
            | false =>
              have HAF : Hid (accOk c k = false) := Lib.hid HA.out.symm
              by_cases hz : (checkV (aloneC c k)).1 = 0
              · have HZ := Lib.hid hz
                have HN : Hid (false = accOk c (k + 1)) := Lib.hid (by rw [acc_next, HAF.out]; unfold okOne; rw [hz]; rfl)
                clear hz
                go_wp2_with (first
                  | (go_at_call 8; refine CK.out.mono ?_; rintro e w7 ⟨rfl, hb7⟩; rw [HZ.out])
                  | (go_at_call 11; refine (num6_any _ _).mono ?_; rintro e w8 ⟨rfl, hb8⟩))
                go_roundw
                case rel => exact ⟨k + 1, false, by omega, by go_num, rfl, HN, HBB.out.trans ((B9.out.trans (hb7.mono B9.out.size)).mono HBB.out.size)⟩
                case measure => simp [intOf]; omega
              · have t1 : decide ((checkV (aloneC c k)).1 = 0) = false := by simpa using hz
                have t2 : ((checkV (aloneC c k)).1 == 0) = false := by simpa using hz
                have HN : Hid (false = accOk c (k + 1)) := Lib.hid (by rw [acc_next]; unfold okOne; rw [t1, Bool.and_false])
                clear hz
                go_wp2_with (first
                  | (go_at_call 8; refine CK.out.mono ?_; rintro e w7 ⟨rfl, hb7⟩)
                  | (go_at_call 11; refine (num6_any _ _).mono ?_; rintro e w8 ⟨rfl, hb8⟩))
                go_roundw
                case rel => exact ⟨k + 1, false, by omega, by go_num, rfl, HN, HBB.out.trans ((B9.out.trans (hb7.mono B9.out.size)).mono HBB.out.size)⟩
                case measure => simp [intOf]; omega
            | true =>
              have HAF : Hid (accOk c k = true) := Lib.hid HA.out.symm
              by_cases hz : (checkV (aloneC c k)).1 = 0
              · have HZ := Lib.hid hz
                have HN : Hid (true = accOk c (k + 1)) := Lib.hid (by rw [acc_next, HAF.out]; unfold okOne; rw [hz]; rfl)
                clear hz
                go_wp2_with (first
                  | (go_at_call 8; refine CK.out.mono ?_; rintro e w7 ⟨rfl, hb7⟩; rw [HZ.out])
                  | (go_at_call 11; refine (num6_any _ _).mono ?_; rintro e w8 ⟨rfl, hb8⟩))
                go_roundw
                case rel => exact ⟨k + 1, true, by omega, by go_num, rfl, HN, HBB.out.trans ((B9.out.trans ((bel_next hb7 hb8).mono B9.out.size)).mono HBB.out.size)⟩
                case measure => simp [intOf]; omega
              · have t1 : decide ((checkV (aloneC c k)).1 = 0) = false := by simpa using hz
                have t2 : ((checkV (aloneC c k)).1 == 0) = false := by simpa using hz
                have HN : Hid (false = accOk c (k + 1)) := Lib.hid (by rw [acc_next]; unfold okOne; rw [t1, Bool.and_false])
                clear hz
                go_wp2_with (first
                  | (go_at_call 8; refine CK.out.mono ?_; rintro e w7 ⟨rfl, hb7⟩)
                  | (go_at_call 11; refine (num6_any _ _).mono ?_; rintro e w8 ⟨rfl, hb8⟩))
                go_roundw
                case rel => exact ⟨k + 1, false, by omega, by go_num, rfl, HN, HBB.out.trans ((B9.out.trans ((bel_next hb7 hb8).mono B9.out.size)).mono HBB.out.size)⟩
                case measure => simp [intOf]; omega
          · have tp : decide ((k : Int) < (c.ps.length : Int)) = false := by simp; omega
            have hkn : k = c.ps.length := by omega
            subst hkn
            have CK := Lib.hid (cut_none HF.out HIN.out HC.out)
            cases b with
            | false =>
              have HAF : Hid (accOk c c.ps.length = false) := Lib.hid HA.out.symm
              by_cases hz : (checkV (aloneC c c.ps.length)).1 = 0
              · have HZ := Lib.hid hz
                have HN : Hid (false = accOk c (c.ps.length + 1)) := Lib.hid (by rw [acc_next, HAF.out]; unfold okOne; rw [hz]; rfl)
                clear hz
                go_wp2_with (first
                  | (go_at_call 8; refine CK.out.mono ?_; rintro e w7 ⟨rfl, hb7⟩; rw [HZ.out])
                  | (go_at_call 11; refine (num6_any _ _).mono ?_; rintro e w8 ⟨rfl, hb8⟩))
                go_roundw
                case rel => exact ⟨c.ps.length + 1, false, by omega, by go_num, rfl, HN, HBB.out.trans ((HC.out.below.trans (hb7.mono HC.out.below.size)).mono HBB.out.size)⟩
                case measure => simp [intOf]
              · have t1 : decide ((checkV (aloneC c c.ps.length)).1 = 0) = false := by simpa using hz
                have t2 : ((checkV (aloneC c c.ps.length)).1 == 0) = false := by simpa using hz
                have HN : Hid (false = accOk c (c.ps.length + 1)) := Lib.hid (by rw [acc_next]; unfold okOne; rw [t1, Bool.and_false])
                clear hz
                go_wp2_with (first
                  | (go_at_call 8; refine CK.out.mono ?_; rintro e w7 ⟨rfl, hb7⟩)
                  | (go_at_call 11; refine (num6_any _ _).mono ?_; rintro e w8 ⟨rfl, hb8⟩))
                go_roundw
                case rel => exact ⟨c.ps.length + 1, false, by omega, by go_num, rfl, HN, HBB.out.trans ((HC.out.below.trans (hb7.mono HC.out.below.size)).mono HBB.out.size)⟩
                case measure => simp [intOf]
            | true =>
              have HAF : Hid (accOk c c.ps.length = true) := Lib.hid HA.out.symm
              by_cases hz : (checkV (aloneC c c.ps.length)).1 = 0
              · have HZ := Lib.hid hz
                have HN : Hid (true = accOk c (c.ps.length + 1)) := Lib.hid (by rw [acc_next, HAF.out]; unfold okOne; rw [hz]; rfl)
                clear hz
                go_wp2_with (first
                  | (go_at_call 8; refine CK.out.mono ?_; rintro e w7 ⟨rfl, hb7⟩; rw [HZ.out])
                  | (go_at_call 11; refine (num6_any _ _).mono ?_; rintro e w8 ⟨rfl, hb8⟩))
                go_roundw
                case rel => exact ⟨c.ps.length + 1, true, by omega, by go_num, rfl, HN, HBB.out.trans ((HC.out.below.trans ((bel_next hb7 hb8).mono HC.out.below.size)).mono HBB.out.size)⟩
                case measure => simp [intOf]
              · have t1 : decide ((checkV (aloneC c c.ps.length)).1 = 0) = false := by simpa using hz
                have t2 : ((checkV (aloneC c c.ps.length)).1 == 0) = false := by simpa using hz
                have HN : Hid (false = accOk c (c.ps.length + 1)) := Lib.hid (by rw [acc_next]; unfold okOne; rw [t1, Bool.and_false])
                clear hz
                go_wp2_with (first
                  | (go_at_call 8; refine CK.out.mono ?_; rintro e w7 ⟨rfl, hb7⟩)
                  | (go_at_call 11; refine (num6_any _ _).mono ?_; rintro e w8 ⟨rfl, hb8⟩))
                go_roundw
                case rel => exact ⟨c.ps.length + 1, false, by omega, by go_num, rfl, HN, HBB.out.trans ((HC.out.below.trans ((bel_next hb7 hb8).mono HC.out.below.size)).mono HBB.out.size)⟩
                case measure => simp [intOf]
    · have tk : decide ((k : Int) ≤ (c.ps.length : Int)) = false := by simp; omega
      have hkn : k = c.ps.length + 1 := by omega
      subst hkn
      have hbe := HA.out
      rw [acc_end] at hbe
      by_cases hz : (checkV c).1 = 0
      · rw [decide_eq_true hz] at hbe
        subst hbe
        have t1 : ((checkV c).1 == 0) = true := by simpa using hz
        have t2 : decide ((checkV c).1 = 0) = true := by simpa using hz
        clear hz
        go_wp2_with (first | (go_at_call 11; refine (num6_any _ _).mono ?_; rintro e w8 ⟨rfl, hb8⟩))
        go_ret
        exact ⟨rfl, HW5.out.trans ((bel_next HBB.out hb8).mono HW5.out.size)⟩
      · rw [decide_eq_false hz] at hbe
        subst hbe
        have t1 : ((checkV c).1 == 0) = false := by simpa using hz
        have t2 : decide ((checkV c).1 = 0) = false := by simpa using hz
        go_wp2_with (first | (go_at_call 11; refine (num6_any _ _).mono ?_; rintro e w8 ⟨rfl, hb8⟩))
        go_ret
        exact ⟨rfl, HW5.out.trans ((bel_next HBB.out hb8).mono HW5.out.size)⟩
theorem ValidParts_body (wa pa ca : Option Addr) (wc pc cc : Nat) (w : World) (c : Cf) (pvs : List Pv) (h : SysL w w.heap.size c pvs wa pa ca wc pc cc) (hin : c.In) :
    Calls Try.prog 5 #[.agg #[.int .i64 c.frame, .int .i64 c.margin, .slice wa c.ws.length wc, .slice pa c.ps.length pc, .slice ca c.cs.length cc]] w fun e w' => e = .returned (.bool true) ∧ Below w.heap.size w w' := by
  cases hlt : lightB c with
  | false => exact ValidParts_few wa pa ca wc pc cc w c pvs h hin (.inl hlt)
  | true =>
    rcases (show c.ps.length < 1 ∨ (1 ≤ c.ps.length ∧ 6 < c.ps.length) ∨ (1 ≤ c.ps.length ∧ c.ps.length ≤ 6) from by omega) with g | ⟨g, g2⟩ | ⟨g, g2⟩
    · exact ValidParts_few wa pa ca wc pc cc w c pvs h hin (.inr (.inl ⟨hlt, g⟩))
    · exact ValidParts_few wa pa ca wc pc cc w c pvs h hin (.inr (.inr ⟨hlt, g, g2⟩))
    · exact ValidParts_is wa pa ca wc pc cc w c pvs h hin hlt g g2
end Go.Proofs.Ytiojmekoemlmkaa
