/- Joined of FrameI, FrameJ, FrameK, FrameL: Walks of the document's table: windows as they may be; the making. -/
import Derived.Test.YtmkohnpdpcefgaaFrameT
import Derived.Test.YtmkohnpdpcefgaaNum
import Derived.Deep.RegionHeld3
import Derived.Test.YtmkohnpdpcefgaaFrameP
import Derived.Deep.CutRange
namespace Go.Proofs.Ytmkohnpdpcefgaa
open Go.ChangeShapes Go.WideShapes Go.ChangeAt Go.RowKit
set_option linter.unusedVariables false

set_option maxRecDepth 100000 in
set_option maxHeartbeats 4000000 in
theorem rRight_any (F m : Int) (la : Option Addr) (ln lc : Nat) (w : World) (lo hi : Nat) (l : List Wn) (hln : l.length = ln) (hl : Lies w lo hi (.slice la ln lc) ln 3 (l.flatMap Wn.cells)) (hhi : hi ≤ w.heap.size) (hin : ∀ x ∈ l, x.In) :
    Calls Try.prog 37 #[.int .i64 F, .int .i64 m, .slice la ln lc] w fun e w' => e = .returned (.bool (rightB F m l)) ∧ Below w.heap.size w w' := by
  have HLN := Lib.hid hln
  rcases (show F < 1 ∨ (1 ≤ F ∧ 256 < F) ∨ (1 ≤ F ∧ F ≤ 256 ∧ m < 0) ∨ (1 ≤ F ∧ F ≤ 256 ∧ 0 ≤ m ∧ 8 < m) ∨ (1 ≤ F ∧ F ≤ 256 ∧ 0 ≤ m ∧ m ≤ 8 ∧ 32 < ln) ∨ (1 ≤ F ∧ F ≤ 256 ∧ 0 ≤ m ∧ m ≤ 8 ∧ ln ≤ 32) from by omega) with h | ⟨h, h3⟩ | ⟨h, h3, h4⟩ | ⟨h, h3, h4, h5⟩ | ⟨h, h3, h4, h5, h6⟩ | ⟨h, h3, h4, h5, h6⟩
  all_goals try
    (have HR : Hid (rightB F m l = false) := Lib.hid (rightB_no (by rw [hln]; omega))
     clear hln hl hhi hin
     go_enter Try.func37, Try.ntmps37
     go_wp2_with fail
     go_ret
     exact ⟨ret_bl HR.out.symm, Below.refl _ _⟩)
  have HR := Lib.hid (rightB_ok (l := l) ⟨h, h3, h4, h5, by rw [hln]; exact h6⟩)
  have HL := Lib.hid hl; have HIN := Lib.hid hin
  clear hl hln hin
  go_enter Try.func37, Try.ntmps37
  go_wp2_with fail
  go_loopw [7, 8] (fun s i wr => ∃ (k : Nat) (z : Int), k ≤ ln ∧ i = .int .i64 k ∧ s = .int .i64 z ∧ 0 ≤ z ∧ z ≤ F ∧ Hid (okW F 0 l = okW F z (l.drop k)) ∧ Below w.heap.size w wr) (fun _ i _ => ln - (intOf i).toNat)
  case atStart => exact ⟨0, 0, by omega, rfl, rfl, by omega, by omega, Lib.hid rfl, Below.refl _ _⟩
  case round =>
    obtain ⟨k, z, hk, rfl, rfl, r0, r1, HA, hb⟩ := hrel
    by_cases hlt : k < ln
    · have tk : decide ((k : Int) < (ln : Int)) = true := by simpa using hlt
      obtain ⟨x, hx⟩ : ∃ x, l[k]? = some x := ⟨_, List.getElem?_eq_getElem (by rw [HLN.out]; exact hlt)⟩
      have hlies := HL.out.keep (SameIn.of_below hb hhi)
      obtain ⟨a2, c2, e2, _, _, hc⟩ := hlies
      cases e2
      rcases hc with h0 | ⟨b, off, rfl, hb1, hb2, hc⟩
      · omega
      obtain ⟨s0, s1, s2⟩ := Lies.wn hc hx
      have q := HIN.out x (List.mem_of_getElem? hx)
      have hd := drop_cons hx
      have l0 : (0 : Int) ≤ (k : Int) := by omega
      have l1 : (k : Int) < (ln : Int) := by omega
      have hbw : b < wr.heap.size := by have := hb.size; omega
      obtain ⟨xa, xn, xp⟩ := x
      simp only at s0 s1 s2 q
      obtain ⟨⟨q1, q2⟩, ⟨q3, q4⟩, ⟨q5, q6⟩⟩ := q
      simp only at q1 q2 q3 q4 q5 q6
      have HBB := Lib.hid hb
      have HD := Lib.hid hd
      clear hc hx hb hd
      rcases (show xa < z ∨ (z ≤ xa ∧ F ≤ xa) ∨ (z ≤ xa ∧ xa < F ∧ xn < 1) ∨ (z ≤ xa ∧ xa < F ∧ 1 ≤ xn ∧ F - xa < xn) ∨ (z ≤ xa ∧ xa < F ∧ 1 ≤ xn ∧ xn ≤ F - xa ∧ xp < 0) ∨ (z ≤ xa ∧ xa < F ∧ 1 ≤ xn ∧ xn ≤ F - xa ∧ 0 ≤ xp ∧ 6 ≤ xp) ∨ (z ≤ xa ∧ xa < F ∧ 1 ≤ xn ∧ xn ≤ F - xa ∧ 0 ≤ xp ∧ xp < 6) from by omega) with g | ⟨g, g3⟩ | ⟨g, g3, g4⟩ | ⟨g, g3, g4, g5⟩ | ⟨g, g3, g4, g5, g6⟩ | ⟨g, g3, g4, g5, g6, g7⟩ | ⟨g, g3, g4, g5, g6, g7⟩
      all_goals try
        (have HN : Hid (okW F 0 l = false) := Lib.hid (by rw [HA.out, HD.out]; exact okW_no (by simp only; omega))
         go_wp2_with fail
         go_ret
         exact ⟨ret_bl (by rw [HR.out, HN.out]), HBB.out.trans ((below1 _ _).mono HBB.out.size)⟩)
      have HN : Hid (okW F 0 l = okW F (xa + xn) (l.drop (k + 1))) := Lib.hid (by rw [HA.out, HD.out]; exact okW_next (by simp only; omega))
      go_wp2_with fail
      go_roundw
      case rel => exact ⟨k + 1, xa + xn, by omega, by go_num, by go_num, by omega, by omega, HN, HBB.out.trans ((below1 _ _).mono HBB.out.size)⟩
      case measure => simp [intOf]; omega
    · have tk : decide ((k : Int) < (ln : Int)) = false := by simp; omega
      have HE : Hid (okW F 0 l = true) := Lib.hid (by rw [HA.out, List.drop_of_length_le (by rw [HLN.out]; omega)]; rfl)
      go_wp2_with fail
      go_ret
      exact ⟨ret_bl (by rw [HR.out, HE.out]), hb⟩

/-- A table in memory, as the document has it: block g. -/
structure RTab (w : World) (lo hi g F : Nat) (m : Int) (la : Option Addr) (ln lc : Nat) (l : List Wn) : Prop where
  blk : w.heap[g]? = some (.cells #[.int .i64 F, .int .i64 m, .slice la ln lc] 88 (0, 0))
  low : lo ≤ g
  high : g < hi
  lies : Lies w lo hi (.slice la ln lc) ln 3 (l.flatMap Wn.cells)
  len : l.length = ln
  few : ln ≤ 1000
  f1 : 1 ≤ F
  f2 : F ≤ 256
  m0 : 0 ≤ m
  m8 : m ≤ 8
  ok : okW F 0 l = true
theorem RTab.keep {w w' : World} {lo hi g F : Nat} {m : Int} {la : Option Addr} {ln lc : Nat} {l : List Wn} (h : RTab w lo hi g F m la ln lc l) {B : Nat} (hb : Below B w w') (hB : hi ≤ B) : RTab w' lo hi g F m la ln lc l :=
  { h with blk := (hb.block g (by have := h.high; omega)).trans h.blk, lies := h.lies.keep (SameIn.of_below hb hB) }
section
variable {w : World} {lo hi g F : Nat} {m : Int} {la : Option Addr} {ln lc : Nat} {l : List Wn}
theorem RTab.c0 (h : RTab w lo hi g F m la ln lc l) : w.cell? ⟨g, 0, none⟩ = some (.int .i64 F) := cell_in h.blk rfl
theorem RTab.c1 (h : RTab w lo hi g F m la ln lc l) : w.cell? ⟨g, 1, none⟩ = some (.int .i64 m) := cell_in h.blk rfl
theorem RTab.c2 (h : RTab w lo hi g F m la ln lc l) : w.cell? ⟨g, 2, none⟩ = some (.slice la ln lc) := cell_in h.blk rfl
end
theorem lies_none {w : World} {lo hi cap : Nat} {a : Option Addr} {sz : Nat} (h : a = none → cap = 0) : Lies w lo hi (.slice a 0 cap) 0 sz [] := ⟨a, cap, rfl, by simp, fun e => ⟨rfl, h e⟩, .inl rfl⟩
set_option maxRecDepth 100000 in
set_option maxHeartbeats 2000000 in
theorem rNew_no (F m : Int) (la : Option Addr) (ln lc : Nat) (w : World) (lo hi : Nat) (l : List Wn) (hln : l.length = ln) (hl : Lies w lo hi (.slice la ln lc) ln 3 (l.flatMap Wn.cells)) (hhi : hi ≤ w.heap.size) (hin : ∀ x ∈ l, x.In) (hr : rightB F m l = false) :
    Calls Try.prog 22 #[.int .i64 F, .int .i64 m, .slice la ln lc] w fun e w' => e = .returned (.pointer none) ∧ Below w.heap.size w w' := by
  have CI := Lib.hid (rRight_any F m la ln lc w lo hi l hln hl hhi hin)
  have HR := Lib.hid hr
  clear hln hl hhi hin hr
  go_enter Try.func22, Try.ntmps22
  go_wp2_with (first | (go_at_call 37; refine CI.out.mono ?_; rintro e w2 ⟨rfl, hb2⟩; rw [HR.out]))
  go_ret
  exact ⟨rfl, hb2⟩
set_option maxRecDepth 100000 in
set_option maxHeartbeats 2000000 in
theorem rNew_yes (F : Nat) (m : Int) (la : Option Addr) (ln lc : Nat) (w : World) (lo hi : Nat) (l : List Wn) (hln : l.length = ln) (hl : Lies w lo hi (.slice la ln lc) ln 3 (l.flatMap Wn.cells)) (hhi : hi ≤ w.heap.size) (hin : ∀ x ∈ l, x.In) (hr : rightB F m l = true) :
    Calls Try.prog 22 #[.int .i64 F, .int .i64 m, .slice la ln lc] w fun e w' => ∃ g la' lc', e = .returned (.pointer (some ⟨g, 0, none⟩)) ∧ RTab w' w.heap.size w'.heap.size g F m la' ln lc' l ∧ Below w.heap.size w w' := by
  obtain ⟨i0, hi0, hz0, hz1, hz2⟩ := info_parts Try.infoWn_parcloseref03
  have HI := Lib.hid hi0
  obtain ⟨⟨h, h3, h4, h5, h6⟩, hok⟩ := rightB_t hr
  have hln2 : ln ≤ 32 := by omega
  have HO := Lib.hid hok
  have HR := Lib.hid hr
  have CI := Lib.hid (rRight_any F m la ln lc w lo hi l hln hl hhi hin)
  have HLN := Lib.hid hln
  have HL := Lib.hid hl
  clear hl hin hr hok hi0
  have H1 := Lib.hid (flat_one Wn.cells (fun x => wn_one x) l)
  clear hln
  go_enter Try.func22, Try.ntmps22
  go_wp2_with (first
    | (go_at_call 37; refine CI.out.mono ?_; rintro e w2 ⟨rfl, hb2⟩; rw [HR.out])
    | (refine wpList_append_lie (by rfl) (.tmp 14) (.tmp 15) 22 (by rfl) w2.heap.size 74 i0 _ 3 24 Try.underlying22 HI.out hz0 hz1 hz2 rfl (by omega) (.slice (some ⟨w2.heap.size, 0, none⟩) 0 0) 0 [] (by rfl) ((fresh_none 3).owns (heap_alloc_new w2 _) (Nat.le_refl _)) (.slice la ln lc) lo hi ln _ (by rfl) (HL.out.keep (SameIn.of_below (b_alloc hb2 (Nat.le_refl _) _) hhi)) H1.out ln (by omega) (by simp [maxLen]; omega) (by omega) (by simp) ?_; intro ao cap' w3 hown hgrow))
  go_ret
  have hs2 := hb2.size
  have hb3 : Below w.heap.size w w3 := (b_alloc hb2 (Nat.le_refl _) _).grown hgrow (by simp; omega) (fun k hk => by simp [Value.ownBlock] at hk; omega)
  have hown' := owns_later hown (below1 w3 (.cells #[.int .i64 F, .int .i64 m, .slice ao ln cap'] 88))
  have hs3 := hb3.size
  refine ⟨w3.heap.size, ao, cap', rfl, ⟨heap_alloc_new _ _, hs3, by simp, (Lies.of_owns hown').wider hs2 (Nat.le_refl _), HLN.out, by omega, by omega, by omega, h4, h5, HO.out⟩, b_alloc hb3 (Nat.le_refl _) _⟩
end Go.Proofs.Ytmkohnpdpcefgaa
namespace Go.Proofs.Ytmkohnpdpcefgaa
open Go.ChangeShapes Go.WideShapes Go.ChangeAt Go.RowKit
set_option linter.unusedVariables false

section
variable {w : World} {lo hi g F : Nat} {m : Int} {la : Option Addr} {ln lc : Nat} {l : List Wn}
/-- What a table's cells say, whatever is made beside it. -/
theorem RTab.says (h : RTab w lo hi g F m la ln lc l) (hhi : hi ≤ w.heap.size) (W : World) (hb : Below w.heap.size w W) : Below w.heap.size w W ∧ W.cell? ⟨g, 0, none⟩ = some (.int .i64 F) ∧ W.cell? ⟨g, 1, none⟩ = some (.int .i64 m) ∧ W.cell? ⟨g, 2, none⟩ = some (.slice la ln lc) :=
  ⟨hb, (h.keep hb hhi).c0, (h.keep hb hhi).c1, (h.keep hb hhi).c2⟩
set_option maxRecDepth 100000 in
set_option maxHeartbeats 4000000 in
theorem rOwner_any (h : RTab w lo hi g F m la ln lc l) (hhi : hi ≤ w.heap.size) (t : Int) (t0 : -9223372036854775808 ≤ t) (t1 : t ≤ 9223372036854775807) :
    Calls Try.prog 30 #[.pointer (some ⟨g, 0, none⟩), .int .i64 t] w fun e w' => e = .returned (.tuple #[.int .i64 (owner F m l t).1, .int .i64 (owner F m l t).2]) ∧ Below w.heap.size w w' := by
  have hF1 : (1 : Int) ≤ (F : Int) := by have := h.f1; omega
  have f2 := h.f2; have m0 := h.m0; have m8 := h.m8; have h2 := h.few
  have z0 : 0 ≤ t % (F : Int) := mod_pos' hF1
  have z1 : t % (F : Int) < F := mod_lt' hF1
  have HLN := Lib.hid h.len; have HL := Lib.hid h.lies; have HOK := Lib.hid h.ok
  have CM := Lib.hid (fun (W : World) => (refMod_any t F W t0 t1 (by omega) : _))
  rw [rest_pos hF1] at CM
  have HO : Hid (owner F m l t = ownAt m l (t % F)) := Lib.hid rfl
  have KS := Lib.hid (h.says hhi)
  have c0 := h.c0; have c1 := h.c1; have c2 := h.c2
  have hgw : g < w.heap.size := by have := h.high; omega
  generalize t % (F : Int) = Z at CM HO z0 z1
  clear h
  go_enter Try.func30, Try.ntmps30
  go_wp2_with (first | (go_at_call 43; refine (CM.out _).mono ?_; rintro e w' ⟨rfl, rfl⟩))
  go_loopw [7] (fun i wr => ∃ k : Nat, k ≤ ln ∧ i = .int .i64 k ∧ Hid (ownAt m l Z = ownAt m (l.drop k) Z) ∧ Below w.heap.size w wr) (fun i _ => ln - (intOf i).toNat)
  case atStart => exact ⟨0, by omega, rfl, Lib.hid rfl, Below.refl _ _⟩
  case round =>
    obtain ⟨k, hk, rfl, HA, hb⟩ := hrel
    by_cases hlt : k < ln
    · have tk : decide ((k : Int) < (ln : Int)) = true := by simpa using hlt
      obtain ⟨x, hx⟩ : ∃ x, l[k]? = some x := ⟨_, List.getElem?_eq_getElem (by rw [HLN.out]; exact hlt)⟩
      have hlies := HL.out.keep (SameIn.of_below hb hhi)
      obtain ⟨a2, c2, e2, _, _, hc⟩ := hlies
      cases e2
      rcases hc with h0 | ⟨b, off, rfl, hb1, hb2, hc⟩
      · omega
      obtain ⟨s0, s1, s2⟩ := Lies.wn hc hx
      have q := okW_from HOK.out x (List.mem_of_getElem? hx)
      have KW := KS.out wr hb
      obtain ⟨_, d0, d1, d2⟩ := KW
      have hgr : g < wr.heap.size := by have := hb.size; omega
      have hd := drop_cons hx
      have l0 : (0 : Int) ≤ (k : Int) := by omega
      have l1 : (k : Int) < (ln : Int) := by omega
      have hbw : b < wr.heap.size := by have := hb.size; omega
      obtain ⟨xa, xn, xp⟩ := x
      simp only at s0 s1 s2 q
      obtain ⟨q1, q2, q3, q4, q5, q6⟩ := q
      have HBB := Lib.hid hb
      have HD := Lib.hid hd
      clear hc hx hb hd
      clear c0 c1 c2
      rcases (show Z < xa ∨ (xa ≤ Z ∧ xn ≤ Z - xa) ∨ (xa ≤ Z ∧ Z - xa < xn ∧ Z - xa < m) ∨ (xa ≤ Z ∧ Z - xa < xn ∧ m ≤ Z - xa) from by omega) with h | ⟨h, h5⟩ | ⟨h, h5, h6⟩ | ⟨h, h5, h6⟩
      · have HN : Hid (ownAt m l Z = ownAt m (l.drop (k + 1)) Z) := Lib.hid (by rw [HA.out, HD.out]; exact ownAt_out (.inl h))
        go_wp2_with fail
        go_roundw
        case rel => exact ⟨k + 1, by omega, by go_num, HN, HBB.out.trans ((below1 _ _).mono HBB.out.size)⟩
        case measure => simp [intOf]; omega
      · have HN : Hid (ownAt m l Z = ownAt m (l.drop (k + 1)) Z) := Lib.hid (by rw [HA.out, HD.out]; exact ownAt_out (.inr (by show xa + xn ≤ Z; omega)))
        go_wp2_with fail
        go_roundw
        case rel => exact ⟨k + 1, by omega, by go_num, HN, HBB.out.trans ((below1 _ _).mono HBB.out.size)⟩
        case measure => simp [intOf]; omega
      · have HN : Hid (ownAt m l Z = (xp, 1)) := Lib.hid (by rw [HA.out, HD.out, ownAt_in h (by show Z < xa + xn; omega), if_pos h6])
        go_wp2_with fail
        have s1 : IntKind.i64.wrap (Z - xa) = Z - xa := IntWalk.i64_in _ (by omega)
        go_region_held3 (fun W => W.cell? ⟨wr.heap.size, 0, none⟩ = some (.int .i64 xa) ∧ W.cell? ⟨g, 1, none⟩ = some (.int .i64 m)) (go_keep) (fail)
        clear s1
        go_wp2_with fail
        go_ret2
        exact ⟨ret_ii (by rw [HO.out, HN.out]) (by rw [HO.out, HN.out]), by repeat first | exact HBB.out.trans ((below1 _ _).mono HBB.out.size) | refine below_drewN _ ?_ | refine Below.drew ?_⟩
      · have HN : Hid (ownAt m l Z = (xp, 2)) := Lib.hid (by rw [HA.out, HD.out, ownAt_in h (by show Z < xa + xn; omega), if_neg (by show ¬ Z - xa < m; omega)])
        go_wp2_with fail
        have s1 : IntKind.i64.wrap (Z - xa) = Z - xa := IntWalk.i64_in _ (by omega)
        go_region_held3 (fun W => W.cell? ⟨wr.heap.size, 0, none⟩ = some (.int .i64 xa) ∧ W.cell? ⟨g, 1, none⟩ = some (.int .i64 m)) (go_keep) (fail)
        clear s1
        go_wp2_with fail
        go_ret2
        exact ⟨ret_ii (by rw [HO.out, HN.out]) (by rw [HO.out, HN.out]), by repeat first | exact HBB.out.trans ((below1 _ _).mono HBB.out.size) | refine below_drewN _ ?_ | refine Below.drew ?_⟩
    · have tk : decide ((k : Int) < (ln : Int)) = false := by simp; omega
      have HE : Hid (ownAt m l Z = (-1, 0)) := Lib.hid (by rw [HA.out, List.drop_of_length_le (by rw [HLN.out]; omega)]; rfl)
      have KW := KS.out wr hb
      obtain ⟨_, d0, d1, d2⟩ := KW
      clear c0 c1 c2
      go_wp2_with fail
      go_ret2
      exact ⟨ret_ii (by rw [HO.out, HE.out]) (by rw [HO.out, HE.out]), hb⟩
set_option maxRecDepth 100000 in
set_option maxHeartbeats 2000000 in
theorem rIs_any (h : RTab w lo hi g F m la ln lc l) (hhi : hi ≤ w.heap.size) (p t : Int) (t0 : -9223372036854775808 ≤ t) (t1 : t ≤ 9223372036854775807) :
    Calls Try.prog 27 #[.pointer (some ⟨g, 0, none⟩), .int .i64 p, .int .i64 t] w fun e w' => e = .returned (.bool (isO F m l p t)) ∧ Below w.heap.size w w' := by
  have CO := Lib.hid (rOwner_any h hhi t t0 t1)
  have HO : Hid (isO F m l p t = ((owner F m l t).2 == 2 && (owner F m l t).1 == p)) := Lib.hid rfl
  generalize owner F m l t = o at CO HO
  obtain ⟨q, kd⟩ := o
  simp only at CO HO
  clear h
  cases e1 : (kd == 2) with
  | false =>
    have HE1 := Lib.hid e1
    have HR : Hid (isO F m l p t = false) := Lib.hid (by rw [HO.out]; simp only [e1, Bool.false_and])
    go_enter Try.func27, Try.ntmps27
    go_wp2_with (first | (go_at_call 30; refine CO.out.mono ?_; rintro e w2 ⟨rfl, hb2⟩))
    go_ret
    exact ⟨ret_bl HR.out.symm, hb2⟩
  | true =>
    have HR : Hid (isO F m l p t = (q == p)) := Lib.hid (by rw [HO.out]; simp only [e1, Bool.true_and])
    go_enter Try.func27, Try.ntmps27
    go_wp2_with (first | (go_at_call 30; refine CO.out.mono ?_; rintro e w2 ⟨rfl, hb2⟩))
    go_ret
    exact ⟨ret_bl HR.out.symm, hb2⟩
end
end Go.Proofs.Ytmkohnpdpcefgaa
namespace Go.Proofs.Ytmkohnpdpcefgaa
open Go.ChangeShapes Go.WideShapes Go.ChangeAt Go.RowKit
set_option linter.unusedVariables false

theorem cnt_yes {f : Int → Bool} {a : Int} {n : Nat} (h : f (a + n) = true) : cnt f a (n + 1) = cnt f a n + 1 := by
  show cnt f a n + _ = _
  rw [if_pos h]
theorem cnt_no {f : Int → Bool} {a : Int} {n : Nat} (h : f (a + n) = false) : cnt f a (n + 1) = cnt f a n := by
  show cnt f a n + _ = _
  rw [if_neg (by rw [h]; simp)]; rfl
section
variable {w : World} {lo hi g F : Nat} {m : Int} {la : Option Addr} {ln lc : Nat} {l : List Wn}
set_option maxRecDepth 100000 in
set_option maxHeartbeats 2000000 in
theorem rNext_any (h : RTab w lo hi g F m la ln lc l) (hhi : hi ≤ w.heap.size) (p t : Int) (t0 : -9223372036854775808 ≤ t) (t1 : t ≤ 9223372036854775807) :
    Calls Try.prog 13 #[.pointer (some ⟨g, 0, none⟩), .int .i64 p, .int .i64 t] w fun e w' => e = .returned (.tuple #[.int .i64 (nextT F m l p t).1, .bool (nextT F m l p t).2]) ∧ Below w.heap.size w w' := by
  have KS := Lib.hid (h.says hhi)
  have f2 := h.f2
  have CI := Lib.hid (fun (W : World) (t : Int) (t0 : -9223372036854775808 ≤ t) (t1 : t ≤ 9223372036854775807) (hb : Below w.heap.size w W) => rIs_any (h.keep hb hhi) (Nat.le_trans hhi hb.size) p t t0 t1)
  obtain ⟨T, hT, hT1, hT2⟩ : ∃ T : Int, T = min t 4611686018427387904 ∧ -9223372036854775808 ≤ T ∧ T ≤ 4611686018427387904 := ⟨_, rfl, by omega, by omega⟩
  have HS : Hid (∀ i, nextI (isO F m l p) T F = some i → nextT F m l p t = (T + i, true)) := Lib.hid fun i hi => by rw [hT] at hi ⊢; exact nextT_some hi
  have HZ : Hid (nextI (isO F m l p) T F = none → nextT F m l p t = (0, false)) := Lib.hid fun hi => by rw [hT] at hi; exact nextT_none hi
  generalize isO F m l p = f at CI HS HZ
  have hgw : g < w.heap.size := by have := h.high; omega
  clear h
  go_enter Try.func13, Try.ntmps13
  go_upto_region 1 with fail
  go_cut [2] from 9 to 27 (fun s wx => s = .int .i64 T ∧ wx = w)
  case first =>
    by_cases hn : t ≤ 4611686018427387904
    · have e : T = t := by omega
      subst e
      clear hT
      go_wp2_with fail
      go_meet
      case rel => exact ⟨rfl, rfl⟩
    · have e : T = 4611686018427387904 := by omega
      subst e
      clear hT
      go_wp2_with fail
      go_meet
      case rel => exact ⟨rfl, rfl⟩
  case rest =>
    obtain ⟨rfl, rfl⟩ := hcut
    clear hT
    go_wp2_with fail
    go_loopw [8] (fun i wr => ∃ k : Nat, k ≤ F ∧ i = .int .i64 k ∧ Hid (nextI f T k = none) ∧ Below wc.heap.size wc wr) (fun i _ => F - (intOf i).toNat)
    case atStart => exact ⟨0, by omega, rfl, Lib.hid rfl, Below.refl _ _⟩
    case round =>
      obtain ⟨k, hk, rfl, HA, hb⟩ := hrel
      have KW := KS.out wr hb
      obtain ⟨_, d0, d1, d2⟩ := KW
      by_cases hlt : k < F
      · have tk : decide ((k : Int) < (F : Int)) = true := by simpa using hlt
        cases hf : f (T + k) with
        | true =>
          have HF := Lib.hid hf
          have HN : Hid (nextT F m l p t = (T + k, true)) := Lib.hid (HS.out k (nextI_of hlt hf (nextI_none HA.out)))
          clear hf
          go_wp2_with (first | (go_at_call 27; refine (CI.out _ _ (by omega) (by omega) hb).mono ?_; rintro e w2 ⟨rfl, hb2⟩; rw [HF.out]))
          go_ret2
          exact ⟨ret_ib (by rw [HN.out]) (by rw [HN.out]), bel_then hb (Nat.le_refl _) hb2⟩
        | false =>
          have HF := Lib.hid hf
          have HN : Hid (nextI f T (k + 1) = none) := Lib.hid (by show (match nextI f T k with | some i => some i | none => if f (T + k) = true then some k else none) = none; rw [HA.out]; simp only; rw [if_neg (by rw [hf]; simp)])
          clear hf
          go_wp2_with (first | (go_at_call 27; refine (CI.out _ _ (by omega) (by omega) hb).mono ?_; rintro e w2 ⟨rfl, hb2⟩; rw [HF.out]))
          go_roundw
          case rel => exact ⟨k + 1, by omega, by go_num, HN, bel_then hb (Nat.le_refl _) hb2⟩
          case measure => simp [intOf]; omega
      · have tk : decide ((k : Int) < (F : Int)) = false := by simp; omega
        have hkk : F = k := by omega
        have HE : Hid (nextT F m l p t = (0, false)) := Lib.hid (HZ.out (by rw [hkk]; exact HA.out))
        clear hkk
        go_wp2_with fail
        go_ret2
        exact ⟨ret_ib (by rw [HE.out]) (by rw [HE.out]), hb⟩
end
end Go.Proofs.Ytmkohnpdpcefgaa
namespace Go.Proofs.Ytmkohnpdpcefgaa
open Go.ChangeShapes Go.WideShapes Go.ChangeAt Go.RowKit
set_option linter.unusedVariables false
section
variable {w : World} {lo hi g F : Nat} {m : Int} {la : Option Addr} {ln lc : Nat} {l : List Wn}
end
end Go.Proofs.Ytmkohnpdpcefgaa
