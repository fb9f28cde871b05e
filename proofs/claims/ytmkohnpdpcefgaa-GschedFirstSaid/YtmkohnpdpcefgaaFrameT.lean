/- Joined of FrameG, FrameH: Walks of the making of a table: windows as they may be. -/
import Derived.Test.YtmkohnpdpcefgaaFrameP
import Derived.Test.YtmkohnpdpcefgaaRead
namespace Go.Proofs.Ytmkohnpdpcefgaa
open Go.ChangeShapes Go.WideShapes Go.ChangeAt Go.RowKit
set_option linter.unusedVariables false

theorem ret_bl {x y : Bool} (h : x = y) : Ending.returned (.bool x) = .returned (.bool y) := by rw [h]
theorem okW_cons (F a : Int) (x : Wn) (xs : List Wn) : okW F a (x :: xs) = (decide (a ≤ x.at_) && (decide (x.at_ < F) && (decide (1 ≤ x.len) && (decide (x.len ≤ F - x.at_) && (decide (0 ≤ x.part) && (decide (x.part < 6) && okW F (x.at_ + x.len) xs)))))) := rfl
theorem okW_no {F a : Int} {x : Wn} {xs : List Wn} (h : ¬ (a ≤ x.at_ ∧ x.at_ < F ∧ 1 ≤ x.len ∧ x.len ≤ F - x.at_ ∧ 0 ≤ x.part ∧ x.part < 6)) : okW F a (x :: xs) = false := by
  rw [okW_cons, Bool.eq_false_iff]
  intro k
  simp only [Bool.and_eq_true, decide_eq_true_eq] at k
  exact h ⟨k.1, k.2.1, k.2.2.1, k.2.2.2.1, k.2.2.2.2.1, k.2.2.2.2.2.1⟩
theorem okW_next {F a : Int} {x : Wn} {xs : List Wn} (h : a ≤ x.at_ ∧ x.at_ < F ∧ 1 ≤ x.len ∧ x.len ≤ F - x.at_ ∧ 0 ≤ x.part ∧ x.part < 6) : okW F a (x :: xs) = okW F (x.at_ + x.len) xs := by
  obtain ⟨h1, h2, h3, h4, h5, h6⟩ := h
  rw [okW_cons]
  simp only [h1, h2, h3, h4, h5, h6, decide_true, Bool.true_and]
/-- May there be such a table? -/
def rightB (F m : Int) (l : List Wn) : Bool := decide (1 ≤ F ∧ F ≤ 256 ∧ 0 ≤ m ∧ m ≤ 8 ∧ l.length ≤ 32) && okW F 0 l
theorem rightB_t {F m : Int} {l : List Wn} (h : rightB F m l = true) : (1 ≤ F ∧ F ≤ 256 ∧ 0 ≤ m ∧ m ≤ 8 ∧ l.length ≤ 32) ∧ okW F 0 l = true := by simpa [rightB] using h
theorem rightB_no {F m : Int} {l : List Wn} (h : ¬ (1 ≤ F ∧ F ≤ 256 ∧ 0 ≤ m ∧ m ≤ 8 ∧ l.length ≤ 32)) : rightB F m l = false := by simp [rightB, h]
theorem rightB_ok {F m : Int} {l : List Wn} (h : 1 ≤ F ∧ F ≤ 256 ∧ 0 ≤ m ∧ m ≤ 8 ∧ l.length ≤ 32) : rightB F m l = okW F 0 l := by simp only [rightB, h, decide_true, Bool.true_and, and_true]
set_option maxRecDepth 100000 in
set_option maxHeartbeats 2000000 in
theorem inARow_any (F : Int) (la : Option Addr) (ln lc : Nat) (w : World) (lo hi : Nat) (l : List Wn) (hln : l.length = ln) (hl : Lies w lo hi (.slice la ln lc) ln 3 (l.flatMap Wn.cells)) (hhi : hi ≤ w.heap.size) (h2 : ln ≤ 1000) (hin : ∀ x ∈ l, x.In) (hF1 : 1 ≤ F) (hF : F ≤ 256) :
    Calls Try.prog 50 #[.int .i64 F, .slice la ln lc] w fun e w' => e = .returned (.bool (okW F 0 l)) ∧ Below w.heap.size w w' := by
  have HL := Lib.hid hl; have HLN := Lib.hid hln; have HIN := Lib.hid hin
  clear hl hln hin
  go_enter Try.func50, Try.ntmps50
  go_wp2_with fail
  go_loopw [5, 10] (fun s i wr => ∃ (k : Nat) (z : Int), k ≤ ln ∧ i = .int .i64 k ∧ s = .int .i64 z ∧ 0 ≤ z ∧ z ≤ F ∧ Hid (okW F 0 l = okW F z (l.drop k)) ∧ Below w.heap.size w wr) (fun _ i _ => ln - (intOf i).toNat)
  case atStart => exact ⟨0, 0, by omega, rfl, rfl, by omega, by omega, Lib.hid rfl, Below.refl _ _⟩
  case round =>
    obtain ⟨k, z, hk, rfl, rfl, r0, r1, HA, hb⟩ := hrel
    by_cases hlt : k < ln
    · have tk : decide ((k : Int) < (ln : Int)) = true := by simpa using hlt
      obtain ⟨x, hx⟩ : ∃ x, l[k]? = some x := ⟨_, List.getElem?_eq_getElem (by rw [HLN.out]; exact hlt)⟩
      have hlies := HL.out.keep (SameIn.of_below hb hhi)
      obtain ⟨a2, c2, e2, _, _, hc⟩ := hlies
      cases e2
      rcases hc with h0 | ⟨b, off, rfl, hb1, hb2, hc⟩
      · omega
      obtain ⟨s0, s1, s2⟩ := Lies.wn hc hx
      have q := HIN.out x (List.mem_of_getElem? hx)
      have hd := drop_cons hx
      have l0 : (0 : Int) ≤ (k : Int) := by omega
      have l1 : (k : Int) < (ln : Int) := by omega
      have hbw : b < wr.heap.size := by have := hb.size; omega
      obtain ⟨xa, xn, xp⟩ := x
      simp only at s0 s1 s2 q
      obtain ⟨⟨q1, q2⟩, ⟨q3, q4⟩, ⟨q5, q6⟩⟩ := q
      simp only at q1 q2 q3 q4 q5 q6
      have HBB := Lib.hid hb
      have HD := Lib.hid hd
      clear hc hx hb hd
      rcases (show xa < z ∨ (z ≤ xa ∧ xn < 1) ∨ (z ≤ xa ∧ 1 ≤ xn ∧ xp < 0) ∨ (z ≤ xa ∧ 1 ≤ xn ∧ 0 ≤ xp ∧ 6 ≤ xp) ∨ (z ≤ xa ∧ 1 ≤ xn ∧ 0 ≤ xp ∧ xp < 6 ∧ F - xa < xn) ∨ (z ≤ xa ∧ 1 ≤ xn ∧ 0 ≤ xp ∧ xp < 6 ∧ xn ≤ F - xa) from by omega) with h | ⟨h, h3⟩ | ⟨h, h3, h4⟩ | ⟨h, h3, h4, h5⟩ | ⟨h, h3, h4, h5, h6⟩ | ⟨h, h3, h4, h5, h6⟩
      all_goals try
        (have HN : Hid (okW F 0 l = false) := Lib.hid (by rw [HA.out, HD.out]; exact okW_no (by simp only; omega))
         go_wp2_with fail
         go_ret
         exact ⟨ret_bl HN.out.symm, HBB.out.trans ((below1 _ _).mono HBB.out.size)⟩)
      have HN : Hid (okW F 0 l = okW F (xa + xn) (l.drop (k + 1))) := Lib.hid (by rw [HA.out, HD.out]; exact okW_next (by simp only; omega))
      go_wp2_with fail
      go_roundw
      case rel => exact ⟨k + 1, xa + xn, by omega, by go_num, by go_num, by omega, by omega, HN, HBB.out.trans ((below1 _ _).mono HBB.out.size)⟩
      case measure => simp [intOf]; omega
    · have tk : decide ((k : Int) < (ln : Int)) = false := by simp; omega
      have HE : Hid (okW F 0 l = true) := Lib.hid (by rw [HA.out, List.drop_of_length_le (by rw [HLN.out]; omega)]; rfl)
      go_wp2_with fail
      go_ret
      exact ⟨ret_bl HE.out.symm, hb⟩
end Go.Proofs.Ytmkohnpdpcefgaa
namespace Go.Proofs.Ytmkohnpdpcefgaa
open Go.ChangeShapes Go.WideShapes Go.ChangeAt Go.RowKit
set_option linter.unusedVariables false

set_option maxRecDepth 100000 in
set_option maxHeartbeats 2000000 in
theorem tNew_no (F m : Int) (la : Option Addr) (ln lc : Nat) (w : World) (lo hi : Nat) (l : List Wn) (hln : l.length = ln) (hl : Lies w lo hi (.slice la ln lc) ln 3 (l.flatMap Wn.cells)) (hhi : hi ≤ w.heap.size) (hin : ∀ x ∈ l, x.In) (hr : rightB F m l = false) :
    Calls Try.prog 32 #[.int .i64 F, .int .i64 m, .slice la ln lc] w fun e w' => e = .returned (.pointer none) ∧ Below w.heap.size w w' := by
  rcases (show F < 1 ∨ (1 ≤ F ∧ 256 < F) ∨ (1 ≤ F ∧ F ≤ 256 ∧ m < 0) ∨ (1 ≤ F ∧ F ≤ 256 ∧ 0 ≤ m ∧ 8 < m) ∨ (1 ≤ F ∧ F ≤ 256 ∧ 0 ≤ m ∧ m ≤ 8 ∧ 32 < ln) ∨ (1 ≤ F ∧ F ≤ 256 ∧ 0 ≤ m ∧ m ≤ 8 ∧ ln ≤ 32) from by omega) with h | ⟨h, h3⟩ | ⟨h, h3, h4⟩ | ⟨h, h3, h4, h5⟩ | ⟨h, h3, h4, h5, h6⟩ | ⟨h, h3, h4, h5, h6⟩
  all_goals try
    (have HLN := Lib.hid hln
     clear hln hl hhi hin hr
     go_enter Try.func32, Try.ntmps32
     go_wp2_with fail
     go_ret
     exact ⟨rfl, Below.refl _ _⟩)
  · have t1 : decide ((32 : Int) < (ln : Int)) = false := by simp; omega
    have t2 : decide (32 < ln) = false := by simp; omega
    have HO : Hid (okW F 0 l = false) := Lib.hid (by rw [rightB_ok ⟨h, h3, h4, h5, by omega⟩] at hr; exact hr)
    have CI := Lib.hid (inARow_any F la ln lc w lo hi l hln hl hhi (by omega) hin h h3)
    clear hln hl hhi hin hr
    go_enter Try.func32, Try.ntmps32
    go_wp2_with (first | (go_at_call 50; refine CI.out.mono ?_; rintro e w2 ⟨rfl, hb2⟩; rw [HO.out]))
    go_ret
    exact ⟨rfl, hb2⟩
set_option maxRecDepth 100000 in
set_option maxHeartbeats 2000000 in
theorem tNew_yes (F : Nat) (m : Int) (la : Option Addr) (ln lc : Nat) (w : World) (lo hi : Nat) (l : List Wn) (hln : l.length = ln) (hl : Lies w lo hi (.slice la ln lc) ln 3 (l.flatMap Wn.cells)) (hhi : hi ≤ w.heap.size) (hin : ∀ x ∈ l, x.In) (hr : rightB F m l = true) :
    Calls Try.prog 32 #[.int .i64 F, .int .i64 m, .slice la ln lc] w fun e w' => ∃ g la' lc', e = .returned (.pointer (some ⟨g, 0, none⟩)) ∧ Tab w' w.heap.size w'.heap.size g F m la' ln lc' l ∧ Below w.heap.size w w' := by
  obtain ⟨i0, hi0, hz0, hz1, hz2⟩ := info_parts Try.infoWn_conf
  have HI := Lib.hid hi0
  obtain ⟨⟨h, h3, h4, h5, h6⟩, hok⟩ := rightB_t hr
  have t1 : decide ((32 : Int) < (ln : Int)) = false := by simp; omega
  have t2 : decide (32 < ln) = false := by simp; omega
  have hln2 : ln ≤ 32 := by omega
  have HO := Lib.hid hok
  have CI := Lib.hid (inARow_any F la ln lc w lo hi l hln hl hhi (by omega) hin h h3)
  have HLN := Lib.hid hln
  have HL := Lib.hid hl
  have H1 := Lib.hid (flat_one Wn.cells (fun x => wn_one x) l)
  clear hln hl hin hr hok hi0
  go_enter Try.func32, Try.ntmps32
  go_wp2_with (first
    | (go_at_call 50; refine CI.out.mono ?_; rintro e w2 ⟨rfl, hb2⟩; rw [HO.out])
    | (refine wpList_append_lie (by rfl) (.const (.slice none 0 0)) (.tmp 31) 32 (by rfl) w2.heap.size 66 i0 _ 3 24 Try.underlying32 HI.out hz0 hz1 hz2 rfl (by omega) (.slice none 0 0) 0 [] (by rfl) (World.ownsRow_nil _ _ _ _) (.slice la ln lc) lo hi ln _ (by rfl) (HL.out.keep (SameIn.of_below hb2 hhi)) H1.out ln (by omega) (by simp [maxLen]; omega) (by omega) (Nat.le_refl _) ?_; intro ao cap' w3 hown hgrow))
  go_ret
  have hb3 : Below w.heap.size w w3 := hb2.grown hgrow hb2.size (fun k hk => by simp [Value.ownBlock] at hk)
  have hown' := owns_later hown (below1 w3 (.cells #[.int .i64 m, .slice ao ln cap', .int .i64 F] 110))
  have hs2 := hb2.size
  have hs3 := hb3.size
  refine ⟨w3.heap.size, ao, cap', rfl, ⟨heap_alloc_new _ _, hs3, by simp, (Lies.of_owns hown').wider hs2 (Nat.le_refl _), HLN.out, by omega, by omega, by omega, h4, h5, HO.out⟩, b_alloc hb3 (Nat.le_refl _) _⟩
theorem Tab.wider {w : World} {lo hi lo' hi' g F : Nat} {m : Int} {la : Option Addr} {ln lc : Nat} {l : List Wn} (h : Tab w lo hi g F m la ln lc l) (h1 : lo' ≤ lo) (h2 : hi ≤ hi') : Tab w lo' hi' g F m la ln lc l :=
  { h with low := Nat.le_trans h1 h.low, high := Nat.lt_of_lt_of_le h.high h2, lies := h.lies.wider h1 h2 }
end Go.Proofs.Ytmkohnpdpcefgaa
