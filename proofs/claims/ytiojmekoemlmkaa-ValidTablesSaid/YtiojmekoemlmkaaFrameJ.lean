/- Walks of the document's table: whose a tick is; is it open. -/
import Derived.Test.YtiojmekoemlmkaaFrameI
import Derived.Test.YtiojmekoemlmkaaNumB
import Derived.Deep.RegionHeld3
namespace Go.Proofs.Ytiojmekoemlmkaa
open Go.ChangeShapes Go.WideShapes Go.ChangeAt Go.RowKit
set_option linter.unusedVariables false

section
variable {w : World} {lo hi g F : Nat} {m : Int} {la : Option Addr} {ln lc : Nat} {l : List Wn}
/-- What a table's cells say, whatever is made beside it. -/
theorem RTab.says (h : RTab w lo hi g F m la ln lc l) (hhi : hi ≤ w.heap.size) (W : World) (hb : Below w.heap.size w W) : Below w.heap.size w W ∧ W.cell? ⟨g, 0, none⟩ = some (.int .i64 F) ∧ W.cell? ⟨g, 1, none⟩ = some (.int .i64 m) ∧ W.cell? ⟨g, 2, none⟩ = some (.slice la ln lc) :=
  ⟨hb, (h.keep hb hhi).c0, (h.keep hb hhi).c1, (h.keep hb hhi).c2⟩
set_option maxRecDepth 100000 in
set_option maxHeartbeats 4000000 in
theorem rOwner_any (h : RTab w lo hi g F m la ln lc l) (hhi : hi ≤ w.heap.size) (t : Int) (t0 : -9223372036854775808 ≤ t) (t1 : t ≤ 9223372036854775807) :
    Calls Try.prog 15 #[.pointer (some ⟨g, 0, none⟩), .int .i64 t] w fun e w' => e = .returned (.tuple #[.int .i64 (owner F m l t).1, .int .i64 (owner F m l t).2]) ∧ Below w.heap.size w w' := by
  have hF1 : (1 : Int) ≤ (F : Int) := by have := h.f1; omega
  have f2 := h.f2; have m0 := h.m0; have m8 := h.m8; have h2 := h.few
  have z0 : 0 ≤ t % (F : Int) := mod_pos' hF1
  have z1 : t % (F : Int) < F := mod_lt' hF1
  have HLN := Lib.hid h.len; have HL := Lib.hid h.lies; have HOK := Lib.hid h.ok
  have CM := Lib.hid (fun (W : World) => (refMod_any t F W t0 t1 (by omega) : _))
  rw [rest_pos hF1] at CM
  have HO : Hid (owner F m l t = ownAt m l (t % F)) := Lib.hid rfl
  have KS := Lib.hid (h.says hhi)
  have c0 := h.c0; have c1 := h.c1; have c2 := h.c2
  have hgw : g < w.heap.size := by have := h.high; omega
  generalize t % (F : Int) = Z at CM HO z0 z1
  clear h
  go_enter Try.func15, Try.ntmps15
  go_wp2_with (first | (go_at_call 37; refine (CM.out _).mono ?_; rintro e w' ⟨rfl, rfl⟩))
  go_loopw [7] (fun i wr => ∃ k : Nat, k ≤ ln ∧ i = .int .i64 k ∧ Hid (ownAt m l Z = ownAt m (l.drop k) Z) ∧ Below w.heap.size w wr) (fun i _ => ln - (intOf i).toNat)
  case atStart => exact ⟨0, by omega, rfl, Lib.hid rfl, Below.refl _ _⟩
  case round =>
    obtain ⟨k, hk, rfl, HA, hb⟩ := hrel
    by_cases hlt : k < ln
    · have tk : decide ((k : Int) < (ln : Int)) = true := by simpa using hlt
      obtain ⟨x, hx⟩ : ∃ x, l[k]? = some x := ⟨_, List.getElem?_eq_getElem (by rw [HLN.out]; exact hlt)⟩
      have hlies := HL.out.keep (SameIn.of_below hb hhi)
      obtain ⟨a2, c2, e2, _, _, hc⟩ := hlies
      cases e2
      rcases hc with h0 | ⟨b, off, rfl, hb1, hb2, hc⟩
      · omega
      obtain ⟨s0, s1, s2⟩ := Lies.wn hc hx
      have q := okW_from HOK.out x (List.mem_of_getElem? hx)
      have KW := KS.out wr hb
      obtain ⟨_, d0, d1, d2⟩ := KW
      have hgr : g < wr.heap.size := by have := hb.size; omega
      have hd := drop_cons hx
      have l0 : (0 : Int) ≤ (k : Int) := by omega
      have l1 : (k : Int) < (ln : Int) := by omega
      have hbw : b < wr.heap.size := by have := hb.size; omega
      obtain ⟨xa, xn, xp⟩ := x
      simp only at s0 s1 s2 q
      obtain ⟨q1, q2, q3, q4, q5, q6⟩ := q
      have HBB := Lib.hid hb
      have HD := Lib.hid hd
      clear hc hx hb hd
      clear c0 c1 c2
      rcases (show Z < xa ∨ (xa ≤ Z ∧ xn ≤ Z - xa) ∨ (xa ≤ Z ∧ Z - xa < xn ∧ Z - xa < m) ∨ (xa ≤ Z ∧ Z - xa < xn ∧ m ≤ Z - xa) from by omega) with h | ⟨h, h5⟩ | ⟨h, h5, h6⟩ | ⟨h, h5, h6⟩
      · have HN : Hid (ownAt m l Z = ownAt m (l.drop (k + 1)) Z) := Lib.hid (by rw [HA.out, HD.out]; exact ownAt_out (.inl h))
        go_wp2_with fail
        go_roundw
        case rel => exact ⟨k + 1, by omega, by go_num, HN, HBB.out.trans ((below1 _ _).mono HBB.out.size)⟩
        case measure => simp [intOf]; omega
      · have HN : Hid (ownAt m l Z = ownAt m (l.drop (k + 1)) Z) := Lib.hid (by rw [HA.out, HD.out]; exact ownAt_out (.inr (by show xa + xn ≤ Z; omega)))
        go_wp2_with fail
        go_roundw
        case rel => exact ⟨k + 1, by omega, by go_num, HN, HBB.out.trans ((below1 _ _).mono HBB.out.size)⟩
        case measure => simp [intOf]; omega
      · have HN : Hid (ownAt m l Z = (xp, 1)) := Lib.hid (by rw [HA.out, HD.out, ownAt_in h (by show Z < xa + xn; omega), if_pos h6])
        go_wp2_with fail
        have s1 : IntKind.i64.wrap (Z - xa) = Z - xa := IntWalk.i64_in _ (by omega)
        go_region_held3 (fun W => W.cell? ⟨wr.heap.size, 0, none⟩ = some (.int .i64 xa) ∧ W.cell? ⟨g, 1, none⟩ = some (.int .i64 m)) (go_keep) (fail)
        clear s1
        go_wp2_with fail
        go_ret2
        exact ⟨ret_ii (by rw [HO.out, HN.out]) (by rw [HO.out, HN.out]), by repeat first | exact HBB.out.trans ((below1 _ _).mono HBB.out.size) | refine below_drewN _ ?_ | refine Below.drew ?_⟩
      · have HN : Hid (ownAt m l Z = (xp, 2)) := Lib.hid (by rw [HA.out, HD.out, ownAt_in h (by show Z < xa + xn; omega), if_neg (by show ¬ Z - xa < m; omega)])
        go_wp2_with fail
        have s1 : IntKind.i64.wrap (Z - xa) = Z - xa := IntWalk.i64_in _ (by omega)
        go_region_held3 (fun W => W.cell? ⟨wr.heap.size, 0, none⟩ = some (.int .i64 xa) ∧ W.cell? ⟨g, 1, none⟩ = some (.int .i64 m)) (go_keep) (fail)
        clear s1
        go_wp2_with fail
        go_ret2
        exact ⟨ret_ii (by rw [HO.out, HN.out]) (by rw [HO.out, HN.out]), by repeat first | exact HBB.out.trans ((below1 _ _).mono HBB.out.size) | refine below_drewN _ ?_ | refine Below.drew ?_⟩
    · have tk : decide ((k : Int) < (ln : Int)) = false := by simp; omega
      have HE : Hid (ownAt m l Z = (-1, 0)) := Lib.hid (by rw [HA.out, List.drop_of_length_le (by rw [HLN.out]; omega)]; rfl)
      have KW := KS.out wr hb
      obtain ⟨_, d0, d1, d2⟩ := KW
      clear c0 c1 c2
      go_wp2_with fail
      go_ret2
      exact ⟨ret_ii (by rw [HO.out, HE.out]) (by rw [HO.out, HE.out]), hb⟩
set_option maxRecDepth 100000 in
set_option maxHeartbeats 2000000 in
theorem rIs_any (h : RTab w lo hi g F m la ln lc l) (hhi : hi ≤ w.heap.size) (p t : Int) (t0 : -9223372036854775808 ≤ t) (t1 : t ≤ 9223372036854775807) :
    Calls Try.prog 39 #[.pointer (some ⟨g, 0, none⟩), .int .i64 p, .int .i64 t] w fun e w' => e = .returned (.bool (isO F m l p t)) ∧ Below w.heap.size w w' := by
  have CO := Lib.hid (rOwner_any h hhi t t0 t1)
  have HO : Hid (isO F m l p t = ((owner F m l t).2 == 2 && (owner F m l t).1 == p)) := Lib.hid rfl
  generalize owner F m l t = o at CO HO
  obtain ⟨q, kd⟩ := o
  simp only at CO HO
  clear h
  cases e1 : (kd == 2) with
  | false =>
    have HE1 := Lib.hid e1
    have HR : Hid (isO F m l p t = false) := Lib.hid (by rw [HO.out]; simp only [e1, Bool.false_and])
    go_enter Try.func39, Try.ntmps39
    go_wp2_with (first | (go_at_call 15; refine CO.out.mono ?_; rintro e w2 ⟨rfl, hb2⟩))
    go_ret
    exact ⟨ret_bl HR.out.symm, hb2⟩
  | true =>
    have HR : Hid (isO F m l p t = (q == p)) := Lib.hid (by rw [HO.out]; simp only [e1, Bool.true_and])
    go_enter Try.func39, Try.ntmps39
    go_wp2_with (first | (go_at_call 15; refine CO.out.mono ?_; rintro e w2 ⟨rfl, hb2⟩))
    go_ret
    exact ⟨ret_bl HR.out.symm, hb2⟩
end
end Go.Proofs.Ytiojmekoemlmkaa
