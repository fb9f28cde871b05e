/- Walks of the document's table: the ticks of a while that are open. -/
import Derived.Test.YtocjeljpekidnaaFrameK
namespace Go.Proofs.Ytocjeljpekidnaa
open Go.ChangeShapes Go.WideShapes Go.ChangeAt Go.RowKit
set_option linter.unusedVariables false
section
variable {w : World} {lo hi g F : Nat} {m : Int} {la : Option Addr} {ln lc : Nat} {l : List Wn}
set_option maxRecDepth 100000 in
set_option maxHeartbeats 2000000 in
theorem rCount_any (h : RTab w lo hi g F m la ln lc l) (hhi : hi ≤ w.heap.size) (p t n : Int) (t0 : -9223372036854775808 ≤ t) (t1 : t ≤ 9223372036854775807) (n0 : -9223372036854775808 ≤ n) (n1 : n ≤ 9223372036854775807) :
    Calls Try.prog 15 #[.pointer (some ⟨g, 0, none⟩), .int .i64 p, .int .i64 t, .int .i64 n] w fun e w' => e = .returned (.int .i64 (countT F m l p t n)) ∧ Below w.heap.size w w' := by
  have hF1 : (1 : Int) ≤ (F : Int) := by have := h.f1; omega
  have f1 := h.f1
  have f2 := h.f2
  have KS := Lib.hid (h.says hhi)
  have z0 : 0 ≤ t % (F : Int) := mod_pos' hF1
  have z1 : t % (F : Int) < F := mod_lt' hF1
  have CM := Lib.hid (fun (W : World) => (refMod_any t F W t0 t1 (by omega) : _))
  rw [rest_pos hF1] at CM
  have CI := Lib.hid (fun (W : World) (t : Int) (t0 : -9223372036854775808 ≤ t) (t1 : t ≤ 9223372036854775807) (hb : Below w.heap.size w W) => rIs_any (h.keep hb hhi) (Nat.le_trans hhi hb.size) p t t0 t1)
  have CO := Lib.hid (fun (W : World) (hb : Below w.heap.size w W) => rOffered_any (h.keep hb hhi) (Nat.le_trans hhi hb.size) p)
  obtain ⟨K, hK, hK1, hK2⟩ : ∃ K : Int, K = min (max n 0) 4611686018427387904 ∧ 0 ≤ K ∧ K ≤ 4611686018427387904 := ⟨_, rfl, by omega, by omega⟩
  obtain ⟨R, hR⟩ : ∃ R : Nat, K % (F : Int) = R := Int.eq_ofNat_of_zero_le (mod_pos' hF1)
  have hR1 : (R : Int) < F := by rw [← hR]; exact mod_lt' hF1
  have HO : Hid (countT F m l p t n = K / F * offeredV F m l p + cnt (isO F m l p) (t % F) R) := Lib.hid (by
    unfold countT
    rw [← hK, countV_split]
    have e1 : ((K.toNat % F : Nat) : Int) = R := by rw [← hR, Int.natCast_emod, show ((K.toNat : Nat) : Int) = K by omega]
    have e2 : ((K.toNat / F : Nat) : Int) = K / F := by rw [Int.natCast_ediv, show ((K.toNat : Nat) : Int) = K by omega]
    have e3 : K.toNat % F = R := by omega
    rw [Int.natCast_add, Int.natCast_mul, e2, e3])
  have ob := offered_le F m l p
  have fb := frames_bd (F := F) (e := K) (B := offeredV F m l p) h.f1 hK1 (by omega) (by omega)
  have c0 := h.c0; have c1 := h.c1; have c2 := h.c2
  have hgw : g < w.heap.size := by have := h.high; omega
  clear h ob
  generalize isO F m l p = f at CI HO
  generalize (offeredV F m l p : Int) = B at CO HO fb
  generalize t % (F : Int) = Z at CM HO z0 z1
  obtain ⟨fb0, fb1, fb2⟩ := fb
  have HR := Lib.hid hR
  clear hR
  go_enter Try.func15, Try.ntmps15
  go_upto_region 1 with fail
  go_cut [3] from 12 to 49 (fun s wx => s = .int .i64 K ∧ wx = w)
  case first =>
    rcases (show (n < 0 ∧ K = 0) ∨ (0 ≤ n ∧ n ≤ 4611686018427387904 ∧ K = n) ∨ (0 ≤ n ∧ 4611686018427387904 < n ∧ K = 4611686018427387904) by omega) with ⟨e1, e2⟩ | ⟨e1, e2, e3⟩ | ⟨e1, e2, e3⟩
    all_goals
      ((first | subst e2 | subst e3)
       clear hK
       go_wp2_with fail
       go_meet
       (case rel => exact ⟨rfl, rfl⟩))
  case rest =>
    obtain ⟨rfl, rfl⟩ := hcut
    clear hK
    go_wp2_with (first | (go_at_call 22; refine (CM.out _).mono ?_; rintro e w' ⟨rfl, rfl⟩))
    have kd := (div_bd (a := K) hF1 hK1).2
    have s0 : IntKind.i64.wrap (K.tdiv (F : Int)) = K / F := by rw [Int.tdiv_eq_ediv_of_nonneg hK1]; exact IntWalk.i64_in _ (by omega)
    have s1 : IntKind.i64.wrap (K / F * B) = K / F * B := IntWalk.i64_in _ (by omega)
    have nz : ((F : Int) == 0) = false := by simp; omega
    have nz1 : ¬ F = 0 := by omega
    have nz2 : ¬ (F : Int) = 0 := by omega
    have nz3 : (F == 0) = false := by simp; omega
    go_region_held3 (fun W => Below wc.heap.size wc W ∧ W.cell? ⟨g, 0, none⟩ = some (.int .i64 F) ∧ W.cell? ⟨g, 1, none⟩ = some (.int .i64 m) ∧ W.cell? ⟨g, 2, none⟩ = some (.slice la ln lc))
      (first | exact KS.out _ ((Below.refl _ _).drew) | exact KS.out _ (by assumption))
      (first
        | (go_at_call 13; refine (CO.out _ (by go_split_ands; assumption)).mono ?_; rintro e w2 ⟨rfl, hb5⟩; have hbn : Below wc.heap.size wc w2 := (by go_split_ands; exact bel_then (by assumption) (Nat.le_refl _) hb5)))
    clear s0 s1 nz nz1 nz2 nz3 c0 c1 c2
    generalize K / (F : Int) * B = A at HO fb1 fb2
    go_wp2_with fail
    go_loopw [10, 11] (fun s i wr => ∃ (k c : Nat), k ≤ R ∧ c ≤ k ∧ i = .int .i64 k ∧ s = .int .i64 (A + c) ∧ Hid (c = cnt f Z k) ∧ Below wc.heap.size wc wr) (fun _ i _ => R - (intOf i).toNat)
    case atStart => exact ⟨0, 0, by omega, by omega, rfl, by go_num, Lib.hid rfl, by assumption⟩
    case round =>
      obtain ⟨k, c, hk, hc, rfl, rfl, HA, hb⟩ := hrel
      have KW := KS.out wr hb
      obtain ⟨_, d0, d1, d2⟩ := KW
      by_cases hlt : k < R
      · have tk : decide ((k : Int) < K % (F : Int)) = true := by rw [HR.out]; simp; omega
        cases hf : f (Z + k) with
        | true =>
          have HF := Lib.hid hf
          have HN : Hid (c + 1 = cnt f Z (k + 1)) := Lib.hid (by rw [cnt_yes hf, ← HA.out])
          clear hf
          go_wp2_with (first | (go_at_call 24; refine (CI.out _ _ (by omega) (by omega) hb).mono ?_; rintro e w2 ⟨rfl, hb2⟩; rw [HF.out]))
          go_roundw
          case rel => exact ⟨k + 1, c + 1, by omega, by omega, by go_num, by go_num, HN, bel_then hb (Nat.le_refl _) hb2⟩
          case measure => simp [intOf]; omega
        | false =>
          have HF := Lib.hid hf
          have HN : Hid (c = cnt f Z (k + 1)) := Lib.hid (by rw [cnt_no hf, ← HA.out])
          clear hf
          go_wp2_with (first | (go_at_call 24; refine (CI.out _ _ (by omega) (by omega) hb).mono ?_; rintro e w2 ⟨rfl, hb2⟩; rw [HF.out]))
          go_roundw
          case rel => exact ⟨k + 1, c, by omega, by omega, by go_num, by go_num, HN, bel_then hb (Nat.le_refl _) hb2⟩
          case measure => simp [intOf]; omega
      · have tk : decide ((k : Int) < K % (F : Int)) = false := by rw [HR.out]; simp; omega
        have hkk : R = k := by omega
        have HE : Hid (countT F m l p t n = A + c) := Lib.hid (by rw [HO.out, HA.out, hkk])
        clear hkk
        go_wp2_with fail
        go_ret
        exact ⟨ret_i (by rw [HE.out]), hb⟩
end
end Go.Proofs.Ytocjeljpekidnaa
