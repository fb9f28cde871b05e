/- Is a budget the document's? -/
import Derived.Test.YtoofkeeoolgpdaaChunkC
import Derived.Test.YtoofkeeoolgpdaaChunkR
import Derived.Test.YtoofkeeoolgpdaaChunkS
import Derived.Test.YtoofkeeoolgpdaaLawSeventeenA
import Derived.Test.YtoofkeeoolgpdaaHand
import Derived.BigQuiet
import Derived.Laws.StructEq
namespace Go.Proofs.Ytoofkeeoolgpdaa
open Go.ChangeShapes Go.WideShapes Go.ChangeAt Go.RowKit
set_option linter.unusedVariables false
set_option linter.unusedSimpArgs false

theorem orow_atW {w : World} {T : TypeId} {g off n c : Nat} {l : List Wn} (h : ORow w T 3 (.slice (some ⟨g, off, none⟩) n c) n (l.flatMap Wn.cells)) {k : Nat} {x : Wn} (hx : l[k]? = some x) (hk : k < n) : w.cell? ⟨g, off + k * 3, none⟩ = some (.int .i64 x.at_) ∧ w.cell? ⟨g, off + k * 3 + 1, none⟩ = some (.int .i64 x.len) ∧ w.cell? ⟨g, off + k * 3 + 2, none⟩ = some (.int .i64 x.part) := by
  obtain ⟨g', off', e, hc, hf, _⟩ := h.at_ (by omega)
  cases e
  refine ⟨?_, ?_, ?_⟩
  · have := hc (k * 3 + 0) _ (flat_at Wn.cells 3 (fun _ => rfl) l k 0 x hx (by omega)); simpa [Nat.add_assoc] using this
  · have := hc (k * 3 + 1) _ (flat_at Wn.cells 3 (fun _ => rfl) l k 1 x hx (by omega)); simpa [Nat.add_assoc] using this
  · have := hc (k * 3 + 2) _ (flat_at Wn.cells 3 (fun _ => rfl) l k 2 x hx (by omega)); simpa [Nat.add_assoc] using this
theorem eqInRc (a b c : Int) (w : World) : (Op.equalIn 10000 63 (.agg #[.int .i64 a, .int .i64 b, .int .i64 c]) (.agg #[.int .i64 a, .int .i64 b, .int .i64 c])).run Try.prog w = .ok true w := by
  have hp : Try.prog.stoodInHeld 63 = false := by kernel_rfl
  have ht : Try.prog.underlying 63 = some (.struct (Try.prog.fieldsOf 63)) := by simp [Program.fieldsOf, Try.underlying63]
  rw [show (10000 : Nat) = 9999 + 1 from rfl, run_equalIn_agg w 9999 _ _ _ ht hp]
  have rI := fun (a b : Int) => run_equalIn_int (P := Try.prog) w 9998 3 .i64 .i64 a b Try.underlying3
  simp [Op.eqFields, part, Program.fieldsOf, Try.underlying63, rI]
theorem eqInRb (a b : Int) (w : World) : (Op.equalIn 10000 62 (.agg #[.int .i64 a, .int .i64 b]) (.agg #[.int .i64 a, .int .i64 b])).run Try.prog w = .ok true w := by
  have hp : Try.prog.stoodInHeld 62 = false := by kernel_rfl
  have ht : Try.prog.underlying 62 = some (.struct (Try.prog.fieldsOf 62)) := by simp [Program.fieldsOf, Try.underlying62]
  rw [show (10000 : Nat) = 9999 + 1 from rfl, run_equalIn_agg w 9999 _ _ _ ht hp]
  have rI := fun (a b : Int) => run_equalIn_int (P := Try.prog) w 9998 3 .i64 .i64 a b Try.underlying3
  simp [Op.eqFields, part, Program.fieldsOf, Try.underlying62, rI]
set_option maxRecDepth 100000 in
set_option maxHeartbeats 8000000 in
theorem same17_of (O : ChunkOk) (w : World) (H rb : Nat) (S R : Nat → Prop) (s : Sv) (b : Bd) (hB : O.Bg H s b w S) (hR : RgAt rb s b w R) :
    Calls Try.prog 20 #[.pointer (some ⟨H, 0, none⟩), .pointer (some ⟨rb, 0, none⟩)] w fun e w' => e = .returned (.bool true) ∧ Below w.heap.size w w' := by
  obtain ⟨hs, hok⟩ := O.bd hB
  have HO := Lib.hid (O.own H s b)
  have HB := Lib.hid hB
  have HR := Lib.hid hR
  have HS := Lib.hid hs
  have HL : Hid (∀ x ∈ b.live, 0 ≤ x.at_ ∧ x.at_ ≤ 1099511627776) := Lib.hid (fun x hx => ⟨(hok.lv x hx).1, (hok.lv x hx).2.1⟩)
  obtain ⟨la, ea, lc, ec, hk, _⟩ := hR
  have HK := Lib.hid hk
  obtain ⟨n, hn⟩ : ∃ n, n = b.live.length := ⟨_, rfl⟩
  obtain ⟨m, hm⟩ : ∃ m, m = b.backs.length := ⟨_, rfl⟩
  have hcb := hok.bounds
  have hsv : 1 ≤ s.c ∧ s.c ≤ s.t ∧ s.t ≤ 1000 := by simpa [okSv] using hs
  have hn3 : n ≤ 1000 := by omega
  have hm3 : m ≤ 1000 := by omega
  have HN := Lib.hid hn
  have HM := Lib.hid hm
  obtain ⟨dv, hdv⟩ : ∃ dv, dv = dueV s.t b := ⟨_, rfl⟩
  obtain ⟨uo, huo⟩ : ∃ uo, uo = useOk b := ⟨_, rfl⟩
  have HDV := Lib.hid hdv
  have HUO := Lib.hid huo
  obtain ⟨f, hf⟩ : ∃ f, f = b.free := ⟨_, rfl⟩
  have HF := Lib.hid hf
  have KS : Hid (∀ W, Below w.heap.size w W → W.cell? ⟨rb, 3, none⟩ = some (.int .i64 f) ∧ W.cell? ⟨rb, 4, none⟩ = some (.slice la n lc) ∧ W.cell? ⟨rb, 5, none⟩ = some (.slice ea m ec)) := Lib.hid (fun W hW => by
    have hk2 := hk.later hW
    rw [hf, hn, hm]
    exact ⟨hk2.c3, hk2.c4, hk2.c5⟩)
  clear hB hs hok hk hn hm hdv huo hf hcb hsv
  go_enter Try.func20, Try.ntmps20
  go_upto_region 5 with (first
    | (go_at_call 37; have _z := b3; refine (rdue_any _ rb R s b ((rg_own rb s b).later HR.out b3.out) HS.out HL.out).mono ?_; rintro e w4 ⟨rfl, b4'⟩; rw [← HDV.out, ← HUO.out]; have b4 := Lib.hid (b3.out.trans (b4'.mono b3.out.size)); have c4 := Lib.hid (c3.out.trans (b4'.mono c3.out.size)); have d4 := Lib.hid (d3.out.trans (b4'.mono d3.out.size)); clear b4')
    | (go_at_call 26; have _z := b2; refine (O.due _ H S s b (HO.out.later HB.out b2.out.1)).mono ?_; rintro e w3 ⟨rfl, b3'⟩; rw [← HDV.out, ← HUO.out]; have b3 := Lib.hid (b2.out.1.trans (b3'.mono b2.out.1.size)); have c3 := Lib.hid (c2.out.trans (b3'.mono c2.out.size)); have d3 := Lib.hid b3'; clear b3')
    | (go_at_call 24; have _z := b1; refine (O.backs _ H S s b (HO.out.later HB.out b1.out.1)).mono ?_; rintro e w2 ⟨ao2, cap2, rfl, l2, b2'⟩; rw [← HM.out]; rw [← HM.out] at l2; have hl2 := Lib.hid (l2.wider (Nat.zero_le _) (Nat.le_refl _)); have c2 := Lib.hid b2'; have b2 := Lib.hid (And.intro (b1.out.1.trans (b2'.mono b1.out.1.size)) b2'); clear b2' l2)
    | (go_at_call 23; refine (O.live _ H S s b HB.out).mono ?_; rintro e w1 ⟨ao1, cap1, rfl, l1, b1'⟩; rw [← HN.out]; rw [← HN.out] at l1; have hl1 := Lib.hid (l1.wider (Nat.zero_le _) (Nat.le_refl _)); have b1 := Lib.hid (And.intro b1' (Nat.le_refl 0)); clear b1' l1)
    | fail "no arm")
  obtain ⟨k3, k4, k5⟩ := KS.out _ b4.out
  go_region_held3 (fun Y => Y.cell? ⟨rb, 3, none⟩ = some (.int .i64 f) ∧ Y.cell? ⟨rb, 4, none⟩ = some (.slice la n lc) ∧ Y.cell? ⟨rb, 5, none⟩ = some (.slice ea m ec))
    (first | exact KS.out _ b5.out | exact KS.out _ b4.out.drew | exact KS.out _ b4.out | fail "no keep")
    (first
    | (go_at_call 22; have _z := b4; refine (O.free _ H S s b (HO.out.later HB.out b4.out.drew)).mono ?_; rintro e w5 ⟨rfl, b5'⟩; rw [← HF.out]; have b5 := Lib.hid (b4.out.drew.trans (b5'.mono b4.out.drew.size)); have c5 := Lib.hid (c4.out.drew.trans (b5'.mono c4.out.drew.size)); have d5 := Lib.hid (d4.out.drew.trans (b5'.mono d4.out.drew.size)); obtain ⟨k3', k4', k5'⟩ := KS.out _ b5.out; clear b5')
    | fail "no arm")
  clear k3 k4 k5 k3' k4' k5'
  have hM : Try.prog.eqGuardType Try.prog.depth 63 = false := by kernel_rfl
  have hM2 : Try.prog.eqGuardType Try.prog.depth 62 = false := by kernel_rfl
  have HL1 : Hid (∀ Y, Below w5.heap.size w5 Y → ∀ i (hi : i < n), ∃ x : Wn, b.live[i]? = some x ∧ (∃ p o, ao1 = some ⟨p, o, none⟩ ∧ Y.cell? ⟨p, o + i * 3, none⟩ = some (.int .i64 x.at_) ∧ Y.cell? ⟨p, o + i * 3 + 1, none⟩ = some (.int .i64 x.len) ∧ Y.cell? ⟨p, o + i * 3 + 2, none⟩ = some (.int .i64 x.part)) ∧ (∃ p o, la = some ⟨p, o, none⟩ ∧ Y.cell? ⟨p, o + i * 3, none⟩ = some (.int .i64 x.at_) ∧ Y.cell? ⟨p, o + i * 3 + 1, none⟩ = some (.int .i64 x.len) ∧ Y.cell? ⟨p, o + i * 3 + 2, none⟩ = some (.int .i64 x.part))) := Lib.hid (fun Y hY i hi => by
    obtain ⟨p, o, ep, y0, y1, y2, _⟩ := wns_read (l := b.live) HN.out.symm hl1.out Y (c5.out.trans (hY.mono c5.out.size)) i hi
    have hx : b.live[i]? = some (b.live[i]'(by rw [← HN.out]; exact hi)) := List.getElem?_eq_getElem _
    have hk := (HK.out.later b5.out).later hY
    have hl := hk.l
    rw [← HN.out] at hl
    obtain ⟨p', o', ep', _⟩ := hl.at_ (by omega)
    rw [ep'] at hl
    obtain ⟨z0, z1, z2⟩ := orow_atW hl hx hi
    exact ⟨_, hx, ⟨p, o, ep, y0, y1, y2⟩, p', o', ep', z0, z1, z2⟩)
  have HL2 : Hid (∀ Y, Below w5.heap.size w5 Y → ∀ i (hi : i < m), ∃ x : Bk, (∃ p o, ao2 = some ⟨p, o, none⟩ ∧ Y.cell? ⟨p, o + i * 2, none⟩ = some (.int .i64 x.at_) ∧ Y.cell? ⟨p, o + i * 2 + 1, none⟩ = some (.int .i64 x.n)) ∧ (∃ p o, ea = some ⟨p, o, none⟩ ∧ Y.cell? ⟨p, o + i * 2, none⟩ = some (.int .i64 x.at_) ∧ Y.cell? ⟨p, o + i * 2 + 1, none⟩ = some (.int .i64 x.n))) := Lib.hid (fun Y hY i hi => by
    obtain ⟨p, o, ep, y0, y1, _⟩ := bks_read (l := b.backs) HM.out.symm hl2.out Y (d5.out.trans (hY.mono d5.out.size)) i hi
    have hx : b.backs[i]? = some (b.backs[i]'(by rw [← HM.out]; exact hi)) := List.getElem?_eq_getElem _
    have hk := (HK.out.later b5.out).later hY
    have hl := hk.e
    rw [← HM.out] at hl
    obtain ⟨p', o', ep', _⟩ := hl.at_ (by omega)
    rw [ep'] at hl
    obtain ⟨z0, z1⟩ := orow_bk hl hx hi
    exact ⟨_, ⟨p, o, ep, y0, y1⟩, p', o', ep', z0, z1⟩)
  go_wp2_with fail
  go_loopw [11] (fun i wr => ∃ k : Nat, k ≤ n ∧ i = .int .i64 k ∧ Hid (Below w5.heap.size w5 wr)) (fun i _ => n - (intOf i).toNat)
  case atStart => exact ⟨0, by omega, rfl, Lib.hid (Below.refl _ _)⟩
  case round =>
    obtain ⟨k, hk, rfl, HP⟩ := hrel
    by_cases hlt : k < n
    · have tk : decide ((k : Int) < (n : Int)) = true := by simpa using hlt
      have l0 : (0 : Int) ≤ (k : Int) := by omega
      have l1 : (k : Int) < (n : Int) := by omega
      obtain ⟨x, _, ⟨p, o, ep, y0, y1, y2⟩, p', o', ep', z0, z1, z2⟩ := HL1.out wr HP.out k hlt
      obtain ⟨q3, q4, q5⟩ := KS.out wr (b5.out.trans (HP.out.mono b5.out.size))
      have hE := eqInRc x.at_ x.len x.part
      subst ep
      subst ep'
      go_upto_region 10 with fail
      go_quiet (fail)
      go_wp2_with fail
      go_roundw
      case rel => exact ⟨k + 1, by omega, by go_num, Lib.hid (below_drewR _ HP.out)⟩
      case measure => simp [intOf]; omega
    · have tk : decide ((k : Int) < (n : Int)) = false := by simp; omega
      have hnk : ¬ k < n := hlt
      obtain ⟨wz, hwz⟩ : ∃ wz, wz = wr := ⟨_, rfl⟩
      subst hwz
      go_wp2_with fail
      go_loopw [12] (fun i wr => ∃ q : Nat, q ≤ m ∧ i = .int .i64 q ∧ Hid (Below w5.heap.size w5 wr)) (fun i _ => m - (intOf i).toNat)
      case atStart => exact ⟨0, by omega, rfl, HP⟩
      case round =>
        clear HP
        obtain ⟨q, hq, rfl, HP⟩ := hrel
        by_cases hlt2 : q < m
        · have tq : decide ((q : Int) < (m : Int)) = true := by simpa using hlt2
          have l0 : (0 : Int) ≤ (q : Int) := by omega
          have l1 : (q : Int) < (m : Int) := by omega
          obtain ⟨x, ⟨p, o, ep, y0, y1⟩, p', o', ep', z0, z1⟩ := HL2.out wr HP.out q hlt2
          obtain ⟨q3, q4, q5⟩ := KS.out wr (b5.out.trans (HP.out.mono b5.out.size))
          have hE := eqInRb x.at_ x.n
          subst ep
          subst ep'
          go_upto_region 15 with fail
          go_quiet (fail)
          go_wp2_with fail
          go_roundw
          case rel => exact ⟨q + 1, by omega, by go_num, Lib.hid (below_drewR _ HP.out)⟩
          case measure => simp [intOf]; omega
        · have tq : decide ((q : Int) < (m : Int)) = false := by simp; omega
          go_wp2_with fail
          go_ret
          exact ⟨rfl, b5.out.trans (HP.out.mono b5.out.size)⟩
end Go.Proofs.Ytoofkeeoolgpdaa
