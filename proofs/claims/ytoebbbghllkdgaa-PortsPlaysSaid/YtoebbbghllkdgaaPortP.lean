/- The program's other channels (those that are no Queue); a port of either kind, behind the interface. -/
import Derived.Test.YtoebbbghllkdgaaPortM
import Derived.Test.YtoebbbghllkdgaaRead
namespace Go.Proofs.Ytoebbbghllkdgaa
open Go.ChangeShapes Go.WideShapes Go.ChangeAt Go.RowKit
set_option linter.unusedVariables false

theorem wrap_cases (x : Int) (h0 : -18446744073709551616 < x) (h1 : x < 18446744073709551616) : (wrap64 x = x ∧ -9223372036854775808 ≤ x ∧ x ≤ 9223372036854775807) ∨ (wrap64 x = x + 18446744073709551616 ∧ x < -9223372036854775808) ∨ (wrap64 x = x - 18446744073709551616 ∧ 9223372036854775807 < x) := by
  unfold wrap64
  omega
set_option maxRecDepth 100000 in
set_option maxHeartbeats 4000000 in
theorem sfresh_any (w : World) (H : Nat) (sz at_ now : Int) (c3 : w.cell? ⟨H, 3, none⟩ = some (.int .i64 sz)) (c6 : w.cell? ⟨H, 6, none⟩ = some (.int .i64 at_)) (i1 : I64 now) (i2 : I64 at_) (i3 : I64 sz) :
    Calls Try.prog 59 #[.pointer (some ⟨H, 0, none⟩), .int .i64 now] w fun e w' => e = .returned (.bool (decide (now - at_ ≤ sz))) ∧ w' = w := by
  obtain ⟨d, hd⟩ : ∃ d, wrap64 (now - at_) = d := ⟨_, rfl⟩
  have hc := wrap_cases (now - at_) (by unfold I64 at i1 i2; omega) (by unfold I64 at i1 i2; omega)
  rw [hd] at hc
  obtain ⟨b, hb⟩ : ∃ b, b = decide (now - at_ ≤ sz) := ⟨_, rfl⟩
  rw [← hb]
  have HX : Hid ((now < at_ → d < 0 → decide (d ≤ sz) = b) ∧ (now < at_ → ¬ d < 0 → b = true) ∧ (¬ now < at_ → d < 0 → b = false) ∧ (¬ now < at_ → ¬ d < 0 → decide (d ≤ sz) = b)) := Lib.hid (by
    unfold I64 at i1 i2 i3
    refine ⟨fun h1 h2 => ?_, fun h1 h2 => ?_, fun h1 h2 => ?_, fun h1 h2 => ?_⟩
    · rw [hb]; rcases hc with ⟨e, _⟩ | ⟨e, _⟩ | ⟨e, _⟩
      · rw [e]
      · omega
      · omega
    · rw [hb]; exact decide_eq_true (by omega)
    · rw [hb]; exact decide_eq_false (by omega)
    · rw [hb]; rcases hc with ⟨e, _⟩ | ⟨e, _⟩ | ⟨e, _⟩
      · rw [e]
      · omega
      · omega)
  clear hb hc i1 i2 i3
  by_cases h1 : now < at_
  · have t1 : decide (now < at_) = true := decide_eq_true h1
    by_cases h2 : d < 0
    · have t2 : decide (d < 0) = true := decide_eq_true h2
      have t3 := HX.out.1 h1 h2
      clear h1 h2
      go_enter Try.func59, Try.ntmps59
      go_wp2_with fail
      go_ret
      exact ⟨rfl, rfl⟩
    · have t2 : decide (d < 0) = false := decide_eq_false h2
      have t3 := Lib.hid (HX.out.2.1 h1 h2)
      clear h1 h2
      go_enter Try.func59, Try.ntmps59
      go_wp2_with fail
      go_ret
      rw [t3.out]
      exact ⟨rfl, rfl⟩
  · have t1 : decide (now < at_) = false := decide_eq_false h1
    by_cases h2 : d < 0
    · have t2 : decide (d < 0) = true := decide_eq_true h2
      have t3 := Lib.hid (HX.out.2.2.1 h1 h2)
      clear h1 h2
      go_enter Try.func59, Try.ntmps59
      go_wp2_with fail
      go_ret
      rw [t3.out]
      exact ⟨rfl, rfl⟩
    · have t2 : decide (d < 0) = false := decide_eq_false h2
      have t3 := HX.out.2.2.2 h1 h2
      clear h1 h2
      go_enter Try.func59, Try.ntmps59
      go_wp2_with fail
      go_ret
      exact ⟨rfl, rfl⟩
set_option maxRecDepth 100000 in
set_option maxHeartbeats 4000000 in
theorem sput_any (w : World) (H : Nat) (c : Ch) (s : Ps) (S : Nat → Prop) (v now : Int) (hnow : I64 now) (h : SaAt H c s w S) :
    Calls Try.prog 56 #[.pointer (some ⟨H, 0, none⟩), .int .i64 v, .int .i64 now] w fun e w' => e = .returned (.tuple #[]) ∧ SaAt H c ⟨[v], s.lost, now⟩ w' S ∧ GrowS S S w w' := by
  obtain ⟨a, u, t, h1, h2, h4⟩ := h
  have u4 : w.frozen? ⟨H, 4, none⟩ = false := free_in h1 _
  have u5 : w.frozen? ⟨H, 5, none⟩ = false := free_in h1 _
  have u6 : w.frozen? ⟨H, 6, none⟩ = false := free_in h1 _
  have c4 : w.cell? ⟨H, 4, none⟩ = some (.bool a) := cell_in h1 rfl
  have c5 : w.cell? ⟨H, 5, none⟩ = some (.int .i64 u) := cell_in h1 rfl
  have c6 : w.cell? ⟨H, 6, none⟩ = some (.int .i64 t) := cell_in h1 rfl
  have H1 := Lib.hid h1
  have H4 := Lib.hid h4
  have HN := Lib.hid hnow
  clear h1 h2 h4 hnow
  go_enter Try.func56, Try.ntmps56
  go_wp2_with fail
  go_end0
  have hB : But H w (((w.setCell ⟨H, 4, none⟩ (.bool true)).setCell ⟨H, 5, none⟩ (.int .i64 v)).setCell ⟨H, 6, none⟩ (.int .i64 now)) := (((But.refl H w).set 4 _).set 5 _).set 6 _
  exact ⟨rfl, ⟨true, v, now, by rw [set_at (set_at (set_at H1.out))]; rfl, .inr ⟨rfl, rfl, rfl, HN.out⟩, H4.out⟩, grow_one H4.out hB⟩
set_option maxRecDepth 100000 in
set_option maxHeartbeats 4000000 in
theorem sempty_any (w : World) (H : Nat) (c : Ch) (s : Ps) (S : Nat → Prop) (h : SaAt H c s w S) :
    Calls Try.prog 55 #[.pointer (some ⟨H, 0, none⟩)] w fun e w' => e = .returned (.tuple #[]) ∧ SaAt H c s.clear w' S ∧ GrowS S S w w' := by
  obtain ⟨a, u, t, h1, h2, h4⟩ := h
  have u4 : w.frozen? ⟨H, 4, none⟩ = false := free_in h1 _
  have u5 : w.frozen? ⟨H, 5, none⟩ = false := free_in h1 _
  have u6 : w.frozen? ⟨H, 6, none⟩ = false := free_in h1 _
  have c4 : w.cell? ⟨H, 4, none⟩ = some (.bool a) := cell_in h1 rfl
  have c5 : w.cell? ⟨H, 5, none⟩ = some (.int .i64 u) := cell_in h1 rfl
  have c6 : w.cell? ⟨H, 6, none⟩ = some (.int .i64 t) := cell_in h1 rfl
  have H1 := Lib.hid h1
  have H4 := Lib.hid h4
  clear h1 h2 h4
  go_enter Try.func55, Try.ntmps55
  go_wp2_with fail
  go_end0
  have hB : But H w (((w.setCell ⟨H, 4, none⟩ (.bool false)).setCell ⟨H, 5, none⟩ (.int .i64 0)).setCell ⟨H, 6, none⟩ (.int .i64 0)) := (((But.refl H w).set 4 _).set 5 _).set 6 _
  exact ⟨rfl, ⟨false, 0, 0, by rw [set_at (set_at (set_at H1.out))]; rfl, .inl ⟨rfl, rfl⟩, H4.out⟩, grow_one H4.out hB⟩
set_option maxRecDepth 100000 in
set_option maxHeartbeats 4000000 in
theorem swait_any (w : World) (H : Nat) (c : Ch) (s : Ps) (S : Nat → Prop) (h : SaAt H c s w S) :
    Calls Try.prog 58 #[.pointer (some ⟨H, 0, none⟩)] w fun e w' => e = .returned (.int .i64 (s.l.length : Nat)) ∧ w' = w := by
  obtain ⟨a, u, t, h1, h2, h4⟩ := h
  have c4 : w.cell? ⟨H, 4, none⟩ = some (.bool a) := cell_in h1 rfl
  rcases h2 with ⟨rfl, h2⟩ | ⟨rfl, h2, _⟩
  · have H2 := Lib.hid h2
    clear h1 h2 h4
    go_enter Try.func58, Try.ntmps58
    go_wp2_with fail
    go_ret
    rw [H2.out]
    exact ⟨rfl, rfl⟩
  · have H2 := Lib.hid h2
    clear h1 h2 h4
    go_enter Try.func58, Try.ntmps58
    go_wp2_with fail
    go_ret
    rw [H2.out]
    exact ⟨rfl, rfl⟩
set_option maxRecDepth 100000 in
set_option maxHeartbeats 4000000 in
theorem stake_any (w : World) (H : Nat) (c : Ch) (s : Ps) (S : Nat → Prop) (now : Int) (i1 : I64 now) (i3 : I64 c.size) (h : SaAt H c s w S) :
    Calls Try.prog 57 #[.pointer (some ⟨H, 0, none⟩), .int .i64 now] w fun e w' => e = .returned (.tuple #[.int .i64 (popV 0 s.l), .int .i64 (if anyV s.l = true then (if now - s.at_ ≤ c.size then 1 else 0) else 0), .bool (anyV s.l)]) ∧ w' = w := by
  obtain ⟨a, u, t, h1, h2, h4⟩ := h
  have c4 : w.cell? ⟨H, 4, none⟩ = some (.bool a) := cell_in h1 rfl
  have c5 : w.cell? ⟨H, 5, none⟩ = some (.int .i64 u) := cell_in h1 rfl
  have c6 : w.cell? ⟨H, 6, none⟩ = some (.int .i64 t) := cell_in h1 rfl
  have c3 : w.cell? ⟨H, 3, none⟩ = some (.int .i64 c.size) := cell_in h1 rfl
  rcases h2 with ⟨rfl, h2⟩ | ⟨rfl, h2, h5, h6⟩
  · rw [h2]
    clear h1 h2 h4
    go_enter Try.func57, Try.ntmps57
    go_wp2_with fail
    go_ret3
    exact ⟨rfl, rfl⟩
  · have HF := Lib.hid (sfresh_any w H c.size t now c3 c6 i1 h6 i3)
    rw [h2, h5]
    obtain ⟨b, hb⟩ : ∃ b, b = decide (now - t ≤ c.size) := ⟨_, rfl⟩
    rw [← hb] at HF
    have HB : Hid ((if anyV [u] = true then (if now - t ≤ c.size then (1 : Int) else 0) else 0) = if b = true then 1 else 0) := Lib.hid (by rw [hb]; simp [anyV])
    rw [HB.out]
    clear h1 h2 h4 h5 h6 hb HB i1 i3
    cases b with
    | true =>
      go_enter Try.func57, Try.ntmps57
      go_wp2_with (first | (go_at_call 59; refine HF.out.mono ?_; rintro e w3 ⟨rfl, hw3⟩; rw [hw3]; clear hw3) | fail "no arm")
      go_ret3
      exact ⟨rfl, rfl⟩
    | false =>
      go_enter Try.func57, Try.ntmps57
      go_wp2_with (first | (go_at_call 59; refine HF.out.mono ?_; rintro e w3 ⟨rfl, hw3⟩; rw [hw3]; clear hw3) | fail "no arm")
      go_ret3
      exact ⟨rfl, rfl⟩
end Go.Proofs.Ytoebbbghllkdgaa
