/- What edges a row adds from each to the next: addNext. -/
import Derived.Test.YtkikapodobeaaaaFlowH
namespace Go.Proofs.Ytkikapodobeaaaa
open Go.ChangeShapes Go.WideShapes Go.ChangeAt Go.RowKit Go.Maps
set_option linter.unusedVariables false
attribute [local go_sem ↓] Go.wp_at_zero Go.wp_at_succ

theorem SetP.not_cells {w : World} {b n : Nat} {P : Int × Int → Prop} (h : SetP w b n P) {g o : Nat} {v : Value} (hc : w.cell? ⟨g, o, none⟩ = some v) : g ≠ b := by
  rintro rfl
  obtain ⟨S, ⟨D, ⟨es, clock, hb, _⟩, _⟩, _⟩ := h
  simp [World.cell?, hb] at hc
theorem cell_lt {w : World} {g o : Nat} {v : Value} (hc : w.cell? ⟨g, o, none⟩ = some v) : g < w.heap.size := by
  cases h : w.heap[g]? with
  | none => simp [World.cell?, h] at hc
  | some x => exact lt_of_block h
theorem nextP_lt {l : List Int} {n : Nat} (hn : l.length = n) (e : Int × Int) : nextP l e ↔ ∃ x : Nat, x + 1 < n ∧ l[x]? = some e.1 ∧ l[x + 1]? = some e.2 := by
  constructor
  · rintro ⟨x, h1, h2⟩; exact ⟨x, by rw [← hn]; exact (List.getElem?_eq_some_iff.1 h2).1, h1, h2⟩
  · rintro ⟨x, _, h1, h2⟩; exact ⟨x, h1, h2⟩
set_option maxRecDepth 100000 in
set_option maxHeartbeats 4000000 in
theorem addNext_any (b n0 : Nat) (la : Option Addr) (ln lc : Nat) (w : World) (lo hi : Nat) (l : List Int) (P : Int × Int → Prop) (hln : l.length = ln) (hl : Lies w lo hi (.slice la ln lc) ln 1 (l.flatMap intCells)) (hl2 : ln ≤ 2000) (hin : ∀ x ∈ l, I64 x) (hS : SetP w b n0 P) (hn0 : n0 ≤ 10000000000) :
    Calls Try.prog 41 #[.map (some b), .slice la ln lc] w fun e w' => e = .returned (.tuple #[]) ∧ SetP w' b (n0 + 2000) (fun e => P e ∨ nextP l e) ∧ But b w w' := by
  have HN := Lib.hid hln; have HS := Lib.hid hS; have HIN := Lib.hid hin; have HL := Lib.hid hl
  clear hln hS hin hl
  go_enter Try.func41, Try.ntmps41
  go_wp2
  go_loopw [4] (fun i wr => ∃ k : Nat, (k ≤ ln ∨ k = 0) ∧ i = .int .i64 ((k : Int) + 1) ∧ Hid (SetP wr b (n0 + k) (fun e => P e ∨ ∃ x : Nat, x < k ∧ x + 1 < ln ∧ l[x]? = some e.1 ∧ l[x + 1]? = some e.2)) ∧ But b w wr) (fun i _ => ln - (intOf i).toNat)
  case atStart => exact ⟨0, .inr rfl, rfl, Lib.hid ((HS.out.mono (by omega)).congr (fun e => by simp)), But.refl _ _⟩
  case round =>
    obtain ⟨k, hk, rfl, HS2, hb⟩ := hrel
    by_cases hlt : k + 1 < ln
    · have tk : decide ((k : Int) + 1 < (ln : Int)) = true := by rw [decide_eq_true_eq]; omega
      obtain ⟨x, hx⟩ : ∃ x, l[k]? = some x := ⟨_, List.getElem?_eq_getElem (by rw [HN.out]; omega)⟩
      obtain ⟨y, hy⟩ : ∃ y, l[k + 1]? = some y := ⟨_, List.getElem?_eq_getElem (by rw [HN.out]; omega)⟩
      have HXI := Lib.hid (HIN.out x (List.mem_of_getElem? hx)); have HYI := Lib.hid (HIN.out y (List.mem_of_getElem? hy))
      obtain ⟨a2, c2, ee, _, _, hc⟩ := HL.out
      cases ee
      rcases hc with h0 | ⟨g, off, rfl, hb1, hb2, hc⟩
      · omega
      have c0w := Lies.int hc hx
      have c1w := Lies.int hc hy
      have hgb := HS.out.not_cells c0w
      have ks : ∀ X : World, But b wr X → (X.cell? ⟨g, off + k, none⟩ = some (.int .i64 x) ∧ X.cell? ⟨g, off + (k + 1), none⟩ = some (.int .i64 y)) := by
        intro X h
        have hg : g < w.heap.size := cell_lt c0w
        exact ⟨(World.cell?_of_block (w := w) (a := ⟨g, off + k, none⟩) ((hb.trans h).block g hg hgb)).trans c0w, (World.cell?_of_block (w := w) (a := ⟨g, off + (k + 1), none⟩) ((hb.trans h).block g hg hgb)).trans c1w⟩
      have KS := Lib.hid ks
      obtain ⟨c0, c1⟩ := ks wr (But.refl _ _)
      have HX := Lib.hid hx; have HY := Lib.hid hy
      have HSD := Lib.hid (HS2.out.later (Below.refl wr.heap.size wr).drew)
      have l0 : (0 : Int) ≤ (k : Int) := by omega
      have l1 : (k : Int) < (ln : Int) := by omega
      have l2 : (0 : Int) ≤ (k : Int) + 1 := by omega
      have l3 : (k : Int) + 1 < (ln : Int) := by omega
      have e1 : ((k : Int) + 1) - 1 = (k : Int) := by omega
      have s1 : IntKind.i64.wrap ((k : Int) + 1 - 1) = (k : Int) := by rw [e1]; exact IntWalk.i64_in _ (by omega)
      have s2 : IntKind.i64.wrap (k : Int) = (k : Int) := IntWalk.i64_in _ (by omega)
      clear hx hy hc ks c0w c1w
      go_wp2_with fail
      go_region_held3 (fun X => X.cell? ⟨g, off + k, none⟩ = some (.int .i64 x) ∧ X.cell? ⟨g, off + (k + 1), none⟩ = some (.int .i64 y))
        (first | exact KS.out _ ((But.refl _ _).drew) | exact KS.out _ (But.refl _ _) | exact KS.out _ (by assumption))
        (first | (go_at_call 35; refine (addP_any _ _ _ _ _ _ HSD.out (by simp only [maxLen]; omega) HXI.out HYI.out).mono ?_; rintro e w4 ⟨rfl, hs4, hb4⟩; have hbn : But b wr w4 := ((But.refl _ _).drew).trans hb4))
      go_wp2
      go_roundw
      case rel =>
        refine ⟨k + 1, by omega, by go_num, Lib.hid ((hs4.mono (by omega)).congr (fun e => ?_)), hb.trans hbn⟩
        constructor
        · rintro ((h | ⟨x', h1, h2, h3, h4⟩) | rfl)
          · exact .inl h
          · exact .inr ⟨x', by omega, h2, h3, h4⟩
          · exact .inr ⟨k, by omega, hlt, HX.out, HY.out⟩
        · rintro (h | ⟨x', h1, h2, h3, h4⟩)
          · exact .inl (.inl h)
          · by_cases hxk : x' = k
            · subst hxk
              rw [HX.out] at h3; rw [HY.out] at h4
              exact .inr (Prod.ext (Option.some.inj h3).symm (Option.some.inj h4).symm)
            · exact .inl (.inr ⟨x', by omega, h2, h3, h4⟩)
      case measure => simp [intOf]; omega
    · have tk : decide ((k : Int) + 1 < (ln : Int)) = false := by rw [decide_eq_false_iff_not]; omega
      go_wp2
      go_end0
      refine ⟨rfl, (HS2.out.mono (by omega)).congr (fun e => ?_), hb⟩
      rw [nextP_lt HN.out]
      constructor
      · rintro (h | ⟨x, h1, h2, h3⟩)
        · exact .inl h
        · exact .inr ⟨x, h2, h3⟩
      · rintro (h | ⟨x, h2, h3⟩)
        · exact .inl h
        · exact .inr ⟨x, by omega, h2, h3⟩
end Go.Proofs.Ytkikapodobeaaaa
