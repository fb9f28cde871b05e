/- Into, Reaches. -/
import Derived.Test.YtkikapodobeaaaaFlowP
namespace Go.Proofs.Ytkikapodobeaaaa
open Go.ChangeShapes Go.WideShapes Go.ChangeAt Go.RowKit Go.Maps Go.Sort
set_option linter.unusedVariables false
attribute [local go_sem ↓] Go.wp_at_zero Go.wp_at_succ

/-- The first ones of a cut, by numbers. -/
def intsTo (s : List Bool) : Nat → List Int
  | 0 => []
  | k + 1 => intsTo s k ++ (if s.getD k false then [(k : Int)] else [])
theorem intsTo_len (s : List Bool) : ∀ k, (intsTo s k).length ≤ k
  | 0 => by simp [intsTo]
  | k + 1 => by
    have := intsTo_len s k
    rw [intsTo, List.length_append]
    split <;> simp <;> omega
theorem intsTo_in (s : List Bool) : ∀ k, ∀ x ∈ intsTo s k, 0 ≤ x ∧ x < (k : Int)
  | 0 => by simp [intsTo]
  | k + 1 => by
    intro x hx
    rw [intsTo] at hx
    rcases List.mem_append.1 hx with hx | hx
    · have := intsTo_in s k x hx; omega
    · split at hx
      · simp at hx; omega
      · simp at hx
def intsOf (s : List Bool) : List Int := intsTo s s.length
set_option maxRecDepth 100000 in
set_option maxHeartbeats 4000000 in
theorem into_sys {w : World} {hi : Nat} {c : Cf} {pvs : List Pv} {wa pa ca : Option Addr} {wc pc cc : Nat} (f : Few c) (h : SysL w hi c pvs wa pa ca wc pc cc) (hh : hi ≤ w.heap.size)
    (la : Option Addr) (ln lc llo lhi : Nat) (l : List Int) (hln : l.length = ln) (hl : Lies w llo lhi (.slice la ln lc) ln 1 (l.flatMap intCells)) (hlh : lhi ≤ w.heap.size) (hl2 : ln ≤ 1000) :
    Calls Try.prog 15 #[.agg #[.int .i64 c.frame, .int .i64 c.margin, .slice wa c.ws.length wc, .slice pa c.ps.length pc, .slice ca c.cs.length cc], .slice la ln lc] w fun e w' => ∃ (a : Option Addr) (cap : Nat) (s : List Bool), e = .returned (.slice a (intsOf s).length cap) ∧ w'.ownsRow w.heap.size 3 1 (.slice a (intsOf s).length cap) (intsOf s).length ((intsOf s).flatMap intCells) ∧ CutOf c l s ∧ Below w.heap.size w w' := by
  obtain ⟨i0, hi0, hz0, hz1, hz2⟩ := info_parts Try.infoInt
  have HI := Lib.hid hi0
  clear hi0
  obtain ⟨V, hV⟩ : ∃ V, V = w.alloc (.cells #[.int .i64 c.frame, .int .i64 c.margin, .slice wa c.ws.length wc, .slice pa c.ps.length pc, .slice ca c.cs.length cc] 35) := ⟨_, rfl⟩
  have B1 : Below w.heap.size w V := by rw [hV]; exact below1 _ _
  have hblk : CBox V w.heap.size c.frame c.margin wa pa ca c.ws.length wc c.ps.length pc c.cs.length cc := by rw [hV]; exact heap_alloc_new _ _
  have hvs : w.heap.size + 1 ≤ V.heap.size := by rw [hV]; simp
  have z0 : V.cell? ⟨w.heap.size, 0, none⟩ = some (.int .i64 c.frame) := cell_in hblk rfl
  have z1 : V.cell? ⟨w.heap.size, 1, none⟩ = some (.int .i64 c.margin) := cell_in hblk rfl
  have z2 : V.cell? ⟨w.heap.size, 2, none⟩ = some (.slice wa c.ws.length wc) := cell_in hblk rfl
  have z3 : V.cell? ⟨w.heap.size, 3, none⟩ = some (.slice pa c.ps.length pc) := cell_in hblk rfl
  have z4 : V.cell? ⟨w.heap.size, 4, none⟩ = some (.slice ca c.cs.length cc) := cell_in hblk rfl
  have HC := Lib.hid (cut_sys f (h.keep (SameIn.of_below B1 hh)) (by omega) la ln lc llo lhi l hln (hl.keep (SameIn.of_below B1 hlh)) (by omega) hl2)
  have HV := Lib.hid hV; have HB1 := Lib.hid B1
  have hpn := f.2.1
  clear hV B1 hblk h hl f hln
  go_enter Try.func15, Try.ntmps15
  go_wp2_with fail
  rw [← HV.out]
  go_wp2_with (first
    | (go_at_call 18; refine HC.out.mono ?_; rintro e w1 ⟨G, s, rfl, hG, hS, hcut, hb1⟩))
  have HS := Lib.hid hS; have HCT := Lib.hid hcut
  have hb1s := hb1.size
  have hgs := lt_of_block hS
  have hsl := Lib.hid hcut.1
  clear hS hcut z0 z1 z2 z3 z4
  go_loopw [5, 12] (fun s5 i wr => ∃ (k nc : Nat) (na : Option Addr), k ≤ c.ps.length ∧ s5 = .slice na (intsTo s k).length nc ∧ i = .int .i64 k ∧ Hid (wr.ownsRow w1.heap.size 3 1 (.slice na (intsTo s k).length nc) (intsTo s k).length ((intsTo s k).flatMap intCells)) ∧ Below w1.heap.size w1 wr) (fun _ i _ => c.ps.length - (intOf i).toNat)
  case atStart => exact ⟨0, 0, none, by omega, rfl, rfl, Lib.hid (World.ownsRow_nil _ _ _ _), Below.refl _ _⟩
  case round =>
    obtain ⟨k, nc, na, hk, rfl, rfl, HO, hb⟩ := hrel
    have hbs := hb.size
    by_cases hlt : k < c.ps.length
    · have tk : decide ((k : Int) < (c.ps.length : Int)) = true := by simpa using hlt
      have l0 : (0 : Int) ≤ (k : Int) := by omega
      have l1 : (k : Int) < (c.ps.length : Int) := by omega
      obtain ⟨bk, hbk⟩ : ∃ bk, s[k]? = some bk := ⟨_, List.getElem?_eq_getElem (by rw [hsl.out]; exact hlt)⟩
      obtain ⟨c0, _⟩ := (HS.out.later hb).cell hbk
      have hil := intsTo_len s k
      cases bk with
      | true =>
        have HN : Hid (intsTo s (k + 1) = intsTo s k ++ [(k : Int)]) := Lib.hid (by rw [intsTo, List.getD_eq_getElem?_getD, hbk]; rfl)
        have hap : ∀ W : World, W.heap = (wr.alloc (.cells #[.int .i64 (k : Int)] 3)).heap → W.ownsRow w1.heap.size 3 1 (.slice na (intsTo s k).length nc) (intsTo s k).length ((intsTo s k).flatMap intCells) ∧ Lies W wr.heap.size (wr.heap.size + 1) (.slice (some ⟨wr.heap.size, 0, none⟩) 1 1) 1 1 [.int .i64 (k : Int)] ∧ w1.heap.size ≤ W.heap.size := by
          intro W hW
          have hz : W.heap.size = wr.heap.size + 1 := by rw [hW]; simp
          refine ⟨owns_hold HO.out ⟨by omega, fun g hg => ?_⟩, one_lies (cs := #[.int .i64 (k : Int)]) (t := 3) (by rw [hW]; exact heap_alloc_new _ _) rfl, by omega⟩
          have := (owns_own HO.out g hg).2
          rw [hW, heap_at, if_neg (by omega)]
        have HAP := Lib.hid hap
        clear hbk hap
        go_wp2_with (first
          | (refine wpList_append_lie2 (by rfl) (.tmp 18) (.tmp 20) 42 (by rfl) w1.heap.size 3 i0 _ 1 8 Try.underlying42 HI.out hz0 hz1 hz2 rfl (by omega) (.slice na (intsTo s k).length nc) (intsTo s k).length ((intsTo s k).flatMap intCells) (by rfl) (HAP.out _ (by rfl)).1 (.slice (some ⟨wr.heap.size, 0, none⟩) 1 1) wr.heap.size (wr.heap.size + 1) 1 [.int .i64 (k : Int)] (by rfl) (HAP.out _ (by rfl)).2.1 (in_one _) ((intsTo s k).length + 1) rfl (by simp only [maxLen]; omega) (by omega) (HAP.out _ (by rfl)).2.2 ?_; intro ao cap' w6 hown6 hgrow6 hob6)
          | go_in)
        go_roundw
        case rel =>
          refine ⟨k + 1, cap', ao, by omega, by rw [HN.out]; simp, by go_num, Lib.hid ?_, (hb.alloc hbs _).grown hgrow6 (by simp; omega) (fun q hq => (owns_own HO.out q hq).1)⟩
          rw [HN.out, List.length_append, List.flatMap_append]
          exact hown6
        case measure => simp [intOf]; omega
      | false =>
        have HN : Hid (intsTo s (k + 1) = intsTo s k) := Lib.hid (by rw [intsTo, List.getD_eq_getElem?_getD, hbk]; simp)
        clear hbk
        go_wp2
        go_roundw
        case rel =>
          refine ⟨k + 1, nc, na, by omega, by rw [HN.out], by go_num, Lib.hid ?_, hb⟩
          rw [HN.out]; exact HO.out
        case measure => simp [intOf]; omega
    · have tk : decide ((k : Int) < (c.ps.length : Int)) = false := by simp; omega
      have ek : k = c.ps.length := by omega
      have HE : Hid (intsTo s k = intsOf s) := Lib.hid (by unfold intsOf; rw [hsl.out, ek])
      clear ek
      go_wp2
      go_ret
      have hvw : Below w.heap.size w w1 := HB1.out.trans (hb1.mono (by omega))
      refine ⟨na, nc, s, by rw [← HE.out]; rfl, ?_, HCT.out, hvw.trans (hb.mono (by omega))⟩
      rw [← HE.out]
      exact owns_base HO.out (by omega)
set_option maxRecDepth 100000 in
set_option maxHeartbeats 4000000 in
theorem reaches_sys {w : World} {hi : Nat} {c : Cf} {pvs : List Pv} {wa pa ca : Option Addr} {wc pc cc : Nat} (f : Few c) (h : SysL w hi c pvs wa pa ca wc pc cc) (hh : hi ≤ w.heap.size) (x y : Int) :
    Calls Try.prog 19 #[.agg #[.int .i64 c.frame, .int .i64 c.margin, .slice wa c.ws.length wc, .slice pa c.ps.length pc, .slice ca c.cs.length cc], .int .i64 x, .int .i64 y] w fun e w' => ∃ b : Bool, e = .returned (.bool b) ∧ (b = true ↔ Leads c [y] x) ∧ Below w.heap.size w w' := by
  obtain ⟨V, hV⟩ : ∃ V, V = w.alloc (.cells #[.int .i64 c.frame, .int .i64 c.margin, .slice wa c.ws.length wc, .slice pa c.ps.length pc, .slice ca c.cs.length cc] 35) := ⟨_, rfl⟩
  have B1 : Below w.heap.size w V := by rw [hV]; exact below1 _ _
  have hblk : CBox V w.heap.size c.frame c.margin wa pa ca c.ws.length wc c.ps.length pc c.cs.length cc := by rw [hV]; exact heap_alloc_new _ _
  have hvs : w.heap.size + 1 ≤ V.heap.size := by rw [hV]; simp
  have ks : ∀ W : World, Below V.heap.size V W → (W.cell? ⟨w.heap.size, 0, none⟩ = some (.int .i64 c.frame) ∧ W.cell? ⟨w.heap.size, 1, none⟩ = some (.int .i64 c.margin) ∧ W.cell? ⟨w.heap.size, 2, none⟩ = some (.slice wa c.ws.length wc) ∧ W.cell? ⟨w.heap.size, 3, none⟩ = some (.slice pa c.ps.length pc) ∧ W.cell? ⟨w.heap.size, 4, none⟩ = some (.slice ca c.cs.length cc)) := by
    intro W g
    have q := fun (i : Nat) (u : Value) hu => (g.cell (p := ⟨w.heap.size, i, none⟩) (lt_of_block hblk)).trans (cell_in (j := i) (u := u) hblk hu)
    exact ⟨q 0 _ rfl, q 1 _ rfl, q 2 _ rfl, q 3 _ rfl, q 4 _ rfl⟩
  obtain ⟨z0, z1, z2, z3, z4⟩ := ks V (Below.refl _ _)
  have HC : Hid (∀ W : World, Below V.heap.size V W → Calls Try.prog 18 #[.agg #[.int .i64 c.frame, .int .i64 c.margin, .slice wa c.ws.length wc, .slice pa c.ps.length pc, .slice ca c.cs.length cc], .slice (some ⟨W.heap.size, 0, none⟩) 1 1] (W.alloc (.cells #[.int .i64 y] 3)) fun e w' => ∃ (G : Nat) (s : List Bool), e = .returned (.slice (some ⟨G, 0, none⟩) c.ps.length c.ps.length) ∧ BoolAt w' G s ∧ CutOf c [y] s ∧ Below (W.alloc (.cells #[.int .i64 y] 3)).heap.size (W.alloc (.cells #[.int .i64 y] 3)) w') := Lib.hid (fun W hW => by
    have hb2 := (B1.trans (hW.mono (by omega))).alloc (by have := hW.size; omega) (.cells #[.int .i64 y] 3)
    refine (cut_sys f (h.keep (SameIn.of_below hb2 hh)) (by have := hb2.size; omega) (some ⟨W.heap.size, 0, none⟩) 1 1 W.heap.size (W.heap.size + 1) [y] rfl (one_lies (cs := #[.int .i64 y]) (heap_alloc_new _ _) rfl) (by simp) (by omega)).mono ?_
    rintro e w' ⟨G, s, rfl, _, h1, h2, h3⟩
    exact ⟨G, s, rfl, h1, h2, h3⟩)
  have KS := Lib.hid ks; have HV := Lib.hid hV; have HB1 := Lib.hid B1
  clear ks hV B1 hblk h
  cases hh2 : hasB c.ps.length x with
  | false =>
    have HX := Lib.hid hh2; clear hh2
    go_enter Try.func19, Try.ntmps19
    go_wp2_with fail
    rw [← HV.out]
    go_wp2_with (first
      | (go_at_call 20; refine (has_any _ _ _ _ _ _ _ _ _ _ _ _ _).mono ?_; rintro e w5 ⟨rfl, hb5⟩; rw [HX.out]))
    go_ret
    refine ⟨false, rfl, ⟨(fun h => by cases h), fun h => ?_⟩, HB1.out.trans (hb5.mono (by omega))⟩
    have := h.has
    have h2 := hasB_false HX.out
    exact absurd this h2
  | true =>
    have hr := hasB_true hh2
    obtain ⟨j, rfl⟩ : ∃ j : Nat, x = (j : Int) := ⟨x.toNat, by omega⟩
    have hjn : j < c.ps.length := by omega
    have j0 : (0 : Int) ≤ (j : Int) := by omega
    have j1 : (j : Int) < (c.ps.length : Int) := by omega
    have HX := Lib.hid hh2; clear hh2
    go_enter Try.func19, Try.ntmps19
    go_wp2_with fail
    rw [← HV.out]
    go_wp2_with (first
      | (go_at_call 18; refine (HC.out _ hb5).mono ?_; rintro e w6 ⟨G, s, rfl, hS, hcut, hb6⟩; obtain ⟨bj, hbj⟩ : ∃ bj, s[j]? = some bj := ⟨_, List.getElem?_eq_getElem (by rw [hcut.1]; exact hjn)⟩; have q0 := (hS.cell hbj).1; have HCT := Lib.hid hcut; have HBJ := Lib.hid hbj; clear hcut hbj hS)
      | (go_at_call 20; refine (has_any _ _ _ _ _ _ _ _ _ _ _ _ _).mono ?_; rintro e w5 ⟨rfl, hb5⟩; rw [HX.out]; obtain ⟨x0, x1, x2, x3, x4⟩ := KS.out _ hb5))
    go_ret
    refine ⟨bj, rfl, ?_, ?_⟩
    · rw [← HCT.out.2 j, HBJ.out, Option.some.injEq]
    · have h5 := HB1.out.trans (hb5.mono HB1.out.size)
      have h6 := h5.alloc h5.size (.cells #[.int .i64 y] 3)
      exact h6.trans (hb6.mono h6.size)
end Go.Proofs.Ytkikapodobeaaaa
