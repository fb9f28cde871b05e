/- What edges a row adds: addAll, addNext. -/
import Derived.Test.YtkikapodobeaaaaFlowG
namespace Go.Proofs.Ytkikapodobeaaaa
open Go.ChangeShapes Go.WideShapes Go.ChangeAt Go.RowKit Go.Maps
set_option linter.unusedVariables false
attribute [local go_sem ↓] Go.wp_at_zero Go.wp_at_succ

theorem falV_len (l : List Int) : (falV l).length ≤ l.length := falTo_len l _
theorem falV_in {l : List Int} (h : ∀ x ∈ l, I64 x) : ∀ x ∈ falV l, I64 x := fun x hx => h x ((falA_mem x l []).1 (by rw [← falV_is]; exact hx))
set_option maxRecDepth 100000 in
set_option maxHeartbeats 4000000 in
theorem addAll_any (b n0 : Nat) (la : Option Addr) (ln lc : Nat) (w : World) (lo hi : Nat) (l : List Int) (P : Int × Int → Prop) (hln : l.length = ln) (hl : Lies w lo hi (.slice la ln lc) ln 1 (l.flatMap intCells)) (hhi : hi ≤ w.heap.size) (hl2 : ln ≤ 2000) (hin : ∀ x ∈ l, I64 x) (hS : SetP w b n0 P) (hn0 : n0 ≤ 10000000000) :
    Calls Try.prog 24 #[.map (some b), .slice la ln lc] w fun e w' => e = .returned (.tuple #[]) ∧ SetP w' b (n0 + 4000000) (fun e => P e ∨ laterB e.1 e.2 l = true) ∧ But b w w' := by
  have hf := fal_any la ln lc w lo hi l hln hl hhi hl2 hin
  have hm := falV_len l
  have HIN := Lib.hid (falV_in hin)
  have HLA : Hid (∀ e : Int × Int, laterB e.1 e.2 l = true ↔ ∃ x y : Nat, x < y ∧ (falV l)[x]? = some e.1 ∧ (falV l)[y]? = some e.2) := Lib.hid (fun e => by rw [← laterB_falV, laterB_iff])
  have hblt := hS.lt
  obtain ⟨r, hr⟩ : ∃ r, r = falV l := ⟨_, rfl⟩
  obtain ⟨m, hm2⟩ : ∃ m, m = r.length := ⟨_, rfl⟩
  rw [← hr] at hf hm HIN HLA
  rw [← hm2] at hf hm
  rw [hln] at hm
  have HRL := Lib.hid hm2
  have HS := Lib.hid hS
  clear hr hl hin hln hm2 hS
  go_enter Try.func24, Try.ntmps24
  go_wp2_with (first | (go_at_call 34; refine hf.mono ?_; rintro e w1 ⟨a, cap, rfl, hown, hb1⟩))
  have HO := Lib.hid hown
  have HB1 := Lib.hid hb1
  have hsz := hb1.size
  have HS1 := Lib.hid (HS.out.later hb1)
  clear hf hown hb1
  go_loopw [12] (fun i wr => ∃ k : Nat, k ≤ m ∧ i = .int .i64 k ∧ Hid (SetP wr b (n0 + k * m) (fun e => P e ∨ ∃ x y : Nat, x < k ∧ x < y ∧ r[x]? = some e.1 ∧ r[y]? = some e.2)) ∧ But b w1 wr) (fun i _ => m - (intOf i).toNat)
  case atStart => exact ⟨0, by omega, rfl, Lib.hid ((HS1.out.mono (by omega)).congr (fun e => by simp)), But.refl _ _⟩
  case round =>
    obtain ⟨k, hk, rfl, HS2, hb⟩ := hrel
    by_cases hlt : k < m
    · have tk : decide ((k : Int) < (m : Int)) = true := by simpa using hlt
      obtain ⟨x, hx⟩ : ∃ x, r[k]? = some x := ⟨_, List.getElem?_eq_getElem (by rw [← HRL.out]; exact hlt)⟩
      have hxi := HIN.out x (List.mem_of_getElem? hx)
      obtain ⟨a2, c2, ee, _, _, hc⟩ := Lies.of_owns HO.out
      cases ee
      rcases hc with h0 | ⟨g, off, rfl, hb1, hb2, hc⟩
      · omega
      have hcap : m ≤ cap := by
        rcases HO.out.2 with ⟨hv, h0⟩ | ⟨g', cap', cur, hv, _, _, h, _⟩
        · omega
        · cases hv; exact h
      have c0 : wr.cell? ⟨g, off + k, none⟩ = some (.int .i64 x) := (World.cell?_of_block (w := w1) (hb.block g hb2 (by omega))).trans (Lies.int hc hx)
      have HC := Lib.hid hc; have HX := Lib.hid hx; have HXI := Lib.hid hxi
      clear hc hx hxi
      obtain ⟨wo, hwo⟩ : ∃ wo, wo = wr := ⟨_, rfl⟩
      subst hwo
      have HW : Hid (∀ W : World, SetP W b (n0 + k * m + (m - (k + 1))) (fun e => (P e ∨ ∃ x y : Nat, x < k ∧ x < y ∧ r[x]? = some e.1 ∧ r[y]? = some e.2) ∨ (e.1 = x ∧ ∃ y : Nat, k < y ∧ y < m ∧ r[y]? = some e.2)) → SetP W b (n0 + (k + 1) * m) (fun e => P e ∨ ∃ x y : Nat, x < k + 1 ∧ x < y ∧ r[x]? = some e.1 ∧ r[y]? = some e.2)) := Lib.hid (by
        intro W h
        refine (h.mono ?_).congr (fun e => ?_)
        · rw [Nat.add_mul]; omega
        · constructor
          · rintro ((h | ⟨x', y, h1, h2, h3, h4⟩) | ⟨h1, y, h2, h3, h4⟩)
            · exact .inl h
            · exact .inr ⟨x', y, by omega, h2, h3, h4⟩
            · exact .inr ⟨k, y, by omega, h2, by rw [HX.out, h1], h4⟩
          · rintro (h | ⟨x', y, h1, h2, h3, h4⟩)
            · exact .inl (.inl h)
            · by_cases hxk : x' = k
              · subst hxk
                rw [HX.out] at h3
                have := (List.getElem?_eq_some_iff.1 h4).1
                rw [← HRL.out] at this
                exact .inr ⟨(Option.some.inj h3).symm, y, h2, this, h4⟩
              · exact .inl (.inr ⟨x', y, by omega, h2, h3, h4⟩))
      have hkk : k * m ≤ 2000 * 2000 := Nat.mul_le_mul (by omega) (by omega)
      by_cases hend : cap ≤ k + 1
      · have HE : Hid (SetP wo b (n0 + (k + 1) * m) (fun e => P e ∨ ∃ x y : Nat, x < k + 1 ∧ x < y ∧ r[x]? = some e.1 ∧ r[y]? = some e.2)) := Lib.hid (HW.out wo ((HS2.out.mono (by omega)).congr (fun e => by
          constructor
          · exact .inl
          · rintro (h | ⟨_, y, h2, h3, _⟩)
            · exact h
            · omega)))
        have hc2 : cap - (k + 1) = 0 := by omega
        have hc3 : decide (cap - (k + 1) = 0) = true := by simpa using hc2
        have tk2 : decide ((0 : Int) < ((m - (k + 1) : Nat) : Int)) = false := by rw [decide_eq_false_iff_not]; omega
        have HM : Hid (m - (k + 1) = 0) := Lib.hid (by omega)
        go_wp2
        go_loopw [22] (fun i wr => wr = wo ∧ i = .int .i64 0) (fun i _ => 0)
        case atStart => exact ⟨rfl, rfl⟩
        case round =>
          obtain ⟨rfl, rfl⟩ := hrel
          go_wp2
          go_roundw
          case rel => exact ⟨k + 1, by omega, by go_num, HE, hb⟩
          case measure => simp [intOf]; omega
      · have hc1 : ¬ cap = k + 1 := by omega
        have hc2 : ¬ cap - (k + 1) = 0 := by omega
        have hc3 : decide (cap - (k + 1) = 0) = false := by simpa using hc2
        go_wp2
        go_loopw [22] (fun i wr => ∃ j : Nat, j ≤ m - (k + 1) ∧ i = .int .i64 j ∧ Hid (SetP wr b (n0 + k * m + j) (fun e => (P e ∨ ∃ x y : Nat, x < k ∧ x < y ∧ r[x]? = some e.1 ∧ r[y]? = some e.2) ∨ (e.1 = x ∧ ∃ y : Nat, k < y ∧ y < k + 1 + j ∧ r[y]? = some e.2))) ∧ But b w1 wr) (fun i _ => m - (k + 1) - (intOf i).toNat)
        case atStart => exact ⟨0, by omega, rfl, Lib.hid ((HS2.out.mono (by omega)).congr (fun e => by
          constructor
          · exact .inl
          · rintro (h | ⟨_, y, h2, h3, _⟩)
            · exact h
            · omega)), hb⟩
        case round =>
          obtain ⟨j, hj, rfl, HS3, hb3⟩ := hrel
          by_cases hjl : j < m - (k + 1)
          · have tk2 : decide ((j : Int) < ((m - (k + 1) : Nat) : Int)) = true := by rw [decide_eq_true_eq]; omega
            obtain ⟨y, hy⟩ : ∃ y, r[k + 1 + j]? = some y := ⟨_, List.getElem?_eq_getElem (by rw [← HRL.out]; omega)⟩
            have HYI := Lib.hid (HIN.out y (List.mem_of_getElem? hy))
            have c1 : wr.cell? ⟨g, off + (k + 1) + j, none⟩ = some (.int .i64 y) := by
              have := (World.cell?_of_block (w := w1) (a := ⟨g, off + (k + 1 + j), none⟩) (hb3.block g hb2 (by omega))).trans (Lies.int HC.out hy)
              rwa [show off + (k + 1 + j) = off + (k + 1) + j by omega] at this
            have HY := Lib.hid hy
            clear hy
            go_wp2_with (first | (go_at_call 35; refine (addP_any _ _ _ _ _ _ HS3.out (by simp only [maxLen]; omega) HXI.out HYI.out).mono ?_; rintro e w4 ⟨rfl, hs4, hb4⟩))
            go_roundw
            case rel =>
              refine ⟨j + 1, by omega, by go_num, Lib.hid (hs4.congr (fun e => ?_)), hb3.trans hb4⟩
              constructor
              · rintro ((h | ⟨h1, y', h2, h3, h4⟩) | rfl)
                · exact .inl h
                · exact .inr ⟨h1, y', h2, by omega, h4⟩
                · exact .inr ⟨rfl, k + 1 + j, by omega, by omega, HY.out⟩
              · rintro (h | ⟨h1, y', h2, h3, h4⟩)
                · exact .inl (.inl h)
                · by_cases hyj : y' = k + 1 + j
                  · subst hyj
                    rw [HY.out] at h4
                    exact .inr (Prod.ext h1 (Option.some.inj h4).symm)
                  · exact .inl (.inr ⟨h1, y', h2, by omega, h4⟩)
            case measure => simp [intOf]; omega
          · have tk2 : decide ((j : Int) < ((m - (k + 1) : Nat) : Int)) = false := by rw [decide_eq_false_iff_not]; omega
            have ej : j = m - (k + 1) := by omega
            have HE := Lib.hid (HW.out wr (by
              refine (HS3.out.mono (by omega)).congr (fun e => ?_)
              constructor
              · rintro (h | ⟨h1, y, h2, h3, h4⟩)
                · exact .inl h
                · exact .inr ⟨h1, y, h2, by omega, h4⟩
              · rintro (h | ⟨h1, y, h2, h3, h4⟩)
                · exact .inl h
                · exact .inr ⟨h1, y, h2, by omega, h4⟩))
            go_wp2
            go_roundw
            case rel => exact ⟨k + 1, by omega, by go_num, HE, hb3⟩
            case measure => simp [intOf]; omega
    · have tk : decide ((k : Int) < (m : Int)) = false := by simp; omega
      go_wp2
      go_end0
      refine ⟨rfl, ?_, (But.of_below HB1.out).trans hb⟩
      have ek : k = m := by omega
      refine (HS2.out.mono ?_).congr (fun e => ?_)
      · have : k * m ≤ 2000 * 2000 := Nat.mul_le_mul (by omega) (by omega)
        omega
      · rw [HLA.out e]
        constructor
        · rintro (h | ⟨x, y, h1, h2, h3, h4⟩)
          · exact .inl h
          · exact .inr ⟨x, y, h2, h3, h4⟩
        · rintro (h | ⟨x, y, h2, h3, h4⟩)
          · exact .inl h
          · exact .inr ⟨x, y, by have := (List.getElem?_eq_some_iff.1 h3).1; rw [← HRL.out] at this; omega, h2, h3, h4⟩
end Go.Proofs.Ytkikapodobeaaaa
