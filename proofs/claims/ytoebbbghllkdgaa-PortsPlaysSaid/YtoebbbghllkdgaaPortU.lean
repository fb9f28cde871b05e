/- The document's channels: every call, whatever the number; Clear. -/
import Derived.Test.YtoebbbghllkdgaaPortT
namespace Go.Proofs.Ytoebbbghllkdgaa
open Go.ChangeShapes Go.WideShapes Go.ChangeAt Go.RowKit
set_option linter.unusedVariables false

theorem rd_of {w : World} {rb G k cap : Nat} {cs : List Ch} {cur : Array Value} {x : Ch} {s : Ps} {la : Option Addr} {lc : Nat} (h1 : w.heap[rb]? = some (.cells #[.slice (some ⟨G, 0, none⟩) cs.length cap] 52 (0, 0))) (hk : k < cs.length)
    (hc : w.heap[G]? = some (.cells cur 54 (0, 0))) (h : ∀ j u, (pcL x s la lc)[j]? = some u → cur[k * 7 + j]? = some u) : RdAt w rb G k cs.length cap x.from_ x.to x.size x.queue la s.l.length lc s.lost s.at_ := by
  obtain ⟨a0, a1, a2, a3, a4, a5, a6, v4, v5, v6⟩ := pc_cells hc h
  exact ⟨cell_in h1 rfl, hk, a0, a1, a2, a3, a4, a5, a6, v4, v5, v6⟩
theorem but_alloc {X : Nat} {a b : World} (h : But X a b) (hz : b.heap.size = a.heap.size) (o : Obj) : But X (a.alloc o) (b.alloc o) :=
  ⟨h.os, h.tape, h.output, by simp [hz], fun k hk hx => by
    rw [heap_at, heap_at, hz]
    by_cases e : k = a.heap.size
    · rw [if_pos e, if_pos e]
    · rw [if_neg e, if_neg e]
      exact h.block k (by simp at hk; omega) hx⟩
def nowOk (now : Int) : Prop := 0 ≤ now ∧ now ≤ 2305843009213693952
section
variable {w : World} {rb : Nat} {cs : List Ch} {st : Nat → Ps} {R : Nat → Prop}
/-- The blocks that are one's own behind a write. -/
abbrev newR (R : Nat → Prop) (w Y : World) : Nat → Prop := fun b => R b ∨ (w.heap.size ≤ b ∧ b < Y.heap.size)
theorem rread_any (h : DpAt rb cs st w R) (p c now : Int) (hn : nowOk now) :
    Calls Try.prog 14 #[.pointer (some ⟨rb, 0, none⟩), .int .i64 p, .int .i64 c, .int .i64 now] w fun e w' => ∃ R', e = .returned (.tuple #[.int .i64 (rdV cs st p c), .int .i64 (rdN cs st p c now), .int .i64 (rdE cs st p c)]) ∧ DpAt rb cs (rdS cs st p c) w' R' ∧ GrowS R R' w w' := by
  unfold rdV rdN rdE rdS
  cases hc : chan cs c with
  | none =>
    refine (rread_none w rb cs st R p c now h hc).mono ?_
    rintro e w' ⟨rfl, rfl⟩
    exact ⟨R, rfl, h, GrowS.of_below (Below.refl _ _)⟩
  | some kx =>
    obtain ⟨k, x⟩ := kx
    obtain ⟨rfl, hx, hk, _⟩ := chan_some hc
    obtain ⟨G, cap, cur, la, lc, h1, h2, h3, h4, h5, h6, h7⟩ := h.at_ hx
    have hrd := rd_of h1 hk h2 h3
    dsimp only
    by_cases hp : x.to = p
    · simp only [if_pos hp]
      subst hp
      obtain ⟨s, hs⟩ : ∃ s, s = st k := ⟨_, rfl⟩
      rw [← hs] at h3 h4 h5 hrd ⊢
      obtain ⟨l, lost, at_⟩ := s
      cases l with
      | nil =>
        refine (rread_walk_empty w rb G k _ cap _ _ _ _ la lc _ _ now hrd).mono ?_
        rintro e w' ⟨rfl, rfl⟩
        refine ⟨R, rfl, ?_, GrowS.of_below (Below.refl _ _)⟩
        have : updF st k (Ps.took x ⟨[], lost, at_⟩) = st := by
          funext i
          by_cases e : i = k
          · subst e; rw [updF_at, ← hs]; unfold Ps.took; rw [if_neg (fun h => by cases h.2)]
          · rw [updF_ne _ _ e]
        rw [this]
        exact h
      | cons v l =>
        obtain ⟨b, off, rfl, hv⟩ := h4.at (i := 0) (by simp)
        rw [Nat.add_zero] at hv
        have hfit : l.length + 1 ≤ lc := h4.fits
        have h53 : l.length + 1 ≤ 4096 := h5.2.2
        have hv' : w.cell? ⟨b, off, none⟩ = some (.int .i64 v) := hv
        cases hq : x.queue with
        | true =>
          rw [hq] at hrd
          refine (rread_walk_queue w rb G k _ cap _ _ _ b off l.length lc _ _ now v hrd hfit h53 hv').mono ?_
          rintro e w' ⟨rfl, rfl⟩
          have hB : But G w ((w.setCell ⟨G, k * 7 + 4, none⟩ (.slice (if lc = 1 then some ⟨b, off, none⟩ else some ⟨b, off + 1, none⟩) l.length (lc - 1))).setCell ⟨G, k * 7 + 5, none⟩ (.int .i64 0)) := ((But.refl G w).set _ _).set _ _
          have hrow : ∃ b' : Option Addr, (if lc = 1 then some (⟨b, off, none⟩ : Addr) else some ⟨b, off + 1, none⟩) = b' ∧ RowI w (fun b => R b ∧ b ≠ rb ∧ b ≠ G) l b' (lc - 1) := by
            by_cases hl : lc = 1
            · subst hl
              have : l = [] := List.eq_nil_of_length_eq_zero (by omega)
              subst this
              exact ⟨_, rfl, by rw [if_pos rfl]; exact h4.none_left ⟨v, by simp⟩ off⟩
            · exact ⟨_, rfl, by rw [if_neg hl]; exact h4.tail⟩
          obtain ⟨a', ha, hrow'⟩ := hrow
          rw [ha] at hB ⊢
          obtain ⟨r1, r2⟩ := dp_set (st := st) (s' := ⟨l, 0, at_⟩) h hx h1 h2 (Below.refl _ _) hB (by rw [set_at (set_at h2)]) (fun m hm => by
              rw [Array.getElem?_setIfInBounds, if_neg (fun e => hm 5 (by omega) e.symm), Array.getElem?_setIfInBounds, if_neg (fun e => hm 4 (by omega) e.symm)])
            ⟨⟨a', lc - 1, pc_set5 (pc_set4 h3 rfl), (hrow'.keep (fun b hb1 hb2 => hB.block b hb2 hb1.2.2) hB.size).mono (fun b hb => ⟨.inl hb.1, hb.2⟩)⟩, h5.1, h5.2.1, by show l.length ≤ 4096; omega⟩
          have e1 : besV x ⟨v :: l, lost, at_⟩ now = lost := by unfold besV; simp [anyV, hq]
          have e2 : Ps.took x ⟨v :: l, lost, at_⟩ = ⟨l, 0, at_⟩ := by unfold Ps.took; rw [if_pos ⟨hq, rfl⟩]; rfl
          exact ⟨_, by rw [e1]; rfl, by rw [e2]; exact r1, r2⟩
        | false =>
          rw [hq] at hrd
          refine (rread_walk_sample w rb G k _ cap _ _ _ b off l.length lc _ _ now v hrd h53 hv' ⟨h5.1, h5.2.1⟩ hn).mono ?_
          rintro e w' ⟨rfl, hb⟩
          have e1 : besV x ⟨v :: l, lost, at_⟩ now = if now - at_ ≤ x.size then 1 else 0 := by unfold besV; simp [anyV, hq]
          have : updF st k (Ps.took x ⟨v :: l, lost, at_⟩) = st := by
            funext i
            by_cases e : i = k
            · subst e; rw [updF_at, ← hs]; unfold Ps.took; rw [if_neg (fun h => by rw [hq] at h; cases h.1)]
            · rw [updF_ne _ _ e]
          rw [this, e1]
          exact ⟨R, rfl, (dp_own rb cs st).later h hb, GrowS.of_below hb⟩
    · simp only [if_neg hp]
      refine (rread_walk_no w rb G k _ cap _ _ _ _ la _ lc _ _ p now hrd hp).mono ?_
      rintro e w' ⟨rfl, rfl⟩
      exact ⟨R, rfl, h, GrowS.of_below (Below.refl _ _)⟩
theorem rwrite_any (h : DpAt rb cs st w R) (p c v now : Int) (hn : nowOk now) :
    Calls Try.prog 12 #[.pointer (some ⟨rb, 0, none⟩), .int .i64 p, .int .i64 c, .int .i64 v, .int .i64 now] w fun e w' => ∃ R', e = .returned (.int .i64 (wrE cs p c)) ∧ DpAt rb cs (wrS cs st p c v now) w' R' ∧ GrowS R R' w w' := by
  unfold wrE wrS
  cases hc : chan cs c with
  | none =>
    refine (rwrite_none w rb cs st R p c v now h hc).mono ?_
    rintro e w' ⟨rfl, rfl⟩
    exact ⟨R, rfl, h, GrowS.of_below (Below.refl _ _)⟩
  | some kx =>
    obtain ⟨k, x⟩ := kx
    obtain ⟨rfl, hx, hk, _⟩ := chan_some hc
    obtain ⟨G, cap, cur, la, lc, h1, h2, h3, h4, h5, h6, h7⟩ := h.at_ hx
    have hrd := rd_of h1 hk h2 h3
    have hlt : ∀ k, R k → k < w.heap.size := (dp_own rb cs st).lt h
    dsimp only
    by_cases hp : x.from_ = p
    · simp only [if_pos hp]
      subst hp
      obtain ⟨s, hs⟩ : ∃ s, s = st k := ⟨_, rfl⟩
      rw [← hs] at h3 h4 h5 hrd ⊢
      obtain ⟨l, lost, at_⟩ := s
      cases hq : x.queue with
      | false =>
        rw [hq] at hrd
        refine (rwrite_walk_sample w rb G k _ cap _ _ _ la _ lc _ _ v now hrd (lt_of_block h2)).mono ?_
        rintro e w' ⟨rfl, rfl⟩
        have hGl := lt_of_block h2
        have hB0 : But G w ((w.setCell ⟨G, k * 7 + 4, none⟩ (.slice (some ⟨w.heap.size, 0, none⟩) 1 1)).setCell ⟨G, k * 7 + 6, none⟩ (.int .i64 now)) := ((But.refl G w).set _ _).set _ _
        have hB := but_alloc hB0 (by simp) (.cells #[.int .i64 v] 3)
        have hb := below1 w (.cells #[.int .i64 v] 3)
        have hGY : (((w.setCell ⟨G, k * 7 + 4, none⟩ (.slice (some ⟨w.heap.size, 0, none⟩) 1 1)).setCell ⟨G, k * 7 + 6, none⟩ (.int .i64 now)).alloc (.cells #[.int .i64 v] 3)).heap[G]? = some (.cells ((cur.setIfInBounds (k * 7 + 4) (.slice (some ⟨w.heap.size, 0, none⟩) 1 1)).setIfInBounds (k * 7 + 6) (.int .i64 now)) 54 (0, 0)) := by
          rw [heap_at, if_neg (by simp; omega), set_at (set_at h2)]
        have hnew : (((w.setCell ⟨G, k * 7 + 4, none⟩ (.slice (some ⟨w.heap.size, 0, none⟩) 1 1)).setCell ⟨G, k * 7 + 6, none⟩ (.int .i64 now)).alloc (.cells #[.int .i64 v] 3)).heap[w.heap.size]? = some (.cells #[.int .i64 v] 3 (0, 0)) := by
          rw [heap_at, if_pos (by simp)]
        have hzz : w.heap.size < (((w.setCell ⟨G, k * 7 + 4, none⟩ (.slice (some ⟨w.heap.size, 0, none⟩) 1 1)).setCell ⟨G, k * 7 + 6, none⟩ (.int .i64 now)).alloc (.cells #[.int .i64 v] 3)).heap.size := by simp
        have hrbl := hlt rb h.2.1
        obtain ⟨r1, r2⟩ := dp_set (st := st) (s' := ⟨[v], lost, now⟩) h hx h1 h2 hb hB hGY (fun m hm => by
            rw [Array.getElem?_setIfInBounds, if_neg (fun e => hm 6 (by omega) e.symm), Array.getElem?_setIfInBounds, if_neg (fun e => hm 4 (by omega) e.symm)])
          ⟨⟨some ⟨w.heap.size, 0, none⟩, 1, pc_set6 (pc_set4 h3 rfl), .inr ⟨w.heap.size, 0, rfl, ⟨.inr ⟨Nat.le_refl _, hzz⟩, by omega, by omega⟩, hzz, by simp, fun i hi => by
            simp at hi
            subst hi
            exact cell_in hnew rfl⟩⟩, hn.1, hn.2, by simp⟩
        have e2 : Ps.put x ⟨l, lost, at_⟩ v now = ⟨[v], lost, now⟩ := by unfold Ps.put; rw [if_neg (by rw [hq]; decide)]
        exact ⟨_, rfl, by rw [e2]; exact r1, r2⟩
      | true =>
        rw [hq] at hrd
        have hroom : ∀ m : Nat, ((m : Int) < roomV x.size ↔ (m : Int) < min x.size 4096) := fun m => by unfold roomV; omega
        by_cases hm : (l.length : Int) < min x.size 4096
        · have hll : Lies w 0 w.heap.size (.slice la l.length lc) l.length 1 (l.flatMap intCells) := h4.lies (Below.refl _ _)
          refine (rwrite_walk_room w rb G k _ cap cur _ _ _ la l.length lc l _ _ v now hrd h2 hll hm).mono ?_
          rintro e w' ⟨rfl, W, ao, cp, hb, ho, rfl⟩
          have hB : But G W (W.setCell ⟨G, k * 7 + 4, none⟩ (.slice ao (l.length + 1) cp)) := (But.refl G W).set _ _
          have hGW := (hb.block G (lt_of_block h2)).trans h2
          have hrow := RowI.of_owns (R := fun b => w.heap.size ≤ b ∧ b < W.heap.size) (l := l ++ [v]) (by rw [List.flatMap_append]; exact ho) (by simp) (fun b h1 h2 => ⟨h1, h2⟩)
          have hGl := lt_of_block h2
          have hrbl := hlt rb h.2.1
          have hzW : (W.setCell ⟨G, k * 7 + 4, none⟩ (.slice ao (l.length + 1) cp)).heap.size = W.heap.size := by simp
          obtain ⟨r1, r2⟩ := dp_set (st := st) (s' := ⟨l ++ [v], lost, at_⟩) h hx h1 h2 hb hB (by rw [set_at hGW]) (fun m hm => by
              rw [Array.getElem?_setIfInBounds, if_neg (fun e => hm 4 (by omega) e.symm)])
            ⟨⟨ao, cp, pc_set4 h3 (by simp), (hrow.keep (fun b hb1 hb2 => hB.block b hb2 (by omega)) hB.size).mono (fun b hb1 => ⟨.inr ⟨hb1.1, by rw [hzW]; exact hb1.2⟩, by omega, by omega⟩)⟩, h5.1, h5.2.1, by
              show (l ++ [v]).length ≤ 4096
              have : (l.length : Int) < 4096 := by omega
              simp; omega⟩
          have e2 : Ps.put x ⟨l, lost, at_⟩ v now = ⟨l ++ [v], lost, at_⟩ := by
            unfold Ps.put
            rw [if_pos hq]
            have hp := pushV_yes (n := roomV x.size) (l := l) (x := v) ((hroom _).2 hm)
            show Ps.mk (pushV (roomV x.size) l v) (lostV (freeV (roomV x.size) l) lost) at_ = _
            rw [hp.1, hp.2]; rfl
          exact ⟨_, rfl, by rw [e2]; exact r1, r2⟩
        · refine (rwrite_walk_full w rb G k _ cap _ _ _ la l.length lc _ _ v now hrd hm).mono ?_
          rintro e w' ⟨rfl, W, hb, hh, rfl⟩
          have hB : But G W (W.setCell ⟨G, k * 7 + 5, none⟩ (.int .i64 (wrap64 (lost + 1)))) := (But.refl G W).set _ _
          have hGW : W.heap[G]? = some (.cells cur 54 (0, 0)) := by rw [hh]; exact h2
          have hsame : ∀ b, b < w.heap.size → b ≠ G → (W.setCell ⟨G, k * 7 + 5, none⟩ (.int .i64 (wrap64 (lost + 1)))).heap[b]? = w.heap[b]? := fun b h1 h2 => (hB.block b (by rw [hh]; exact h1) h2).trans (by rw [hh])
          obtain ⟨r1, r2⟩ := dp_set (st := st) (s' := ⟨l, wrap64 (lost + 1), at_⟩) h hx h1 h2 hb hB (by rw [set_at hGW]) (fun m hm => by
              rw [Array.getElem?_setIfInBounds, if_neg (fun e => hm 5 (by omega) e.symm)])
            ⟨⟨la, lc, pc_set5 h3, (h4.keep (fun b hb1 hb2 => hsame b hb2 hb1.2.2) (Nat.le_trans hb.size hB.size)).mono (fun b hb => ⟨.inl hb.1, hb.2⟩)⟩, h5.1, h5.2.1, h5.2.2⟩
          have e2 : Ps.put x ⟨l, lost, at_⟩ v now = ⟨l, wrap64 (lost + 1), at_⟩ := by
            unfold Ps.put
            rw [if_pos hq]
            have hp := pushV_no (n := roomV x.size) (l := l) (x := v) (fun h => hm ((hroom _).1 h))
            show Ps.mk (pushV (roomV x.size) l v) (lostV (freeV (roomV x.size) l) lost) at_ = _
            rw [hp.1, hp.2]; rfl
          exact ⟨_, rfl, by rw [e2]; exact r1, r2⟩
    · simp only [if_neg hp]
      refine (rwrite_walk_no w rb G k _ cap _ _ _ _ la _ lc _ _ p v now hrd hp).mono ?_
      rintro e w' ⟨rfl, rfl⟩
      exact ⟨R, rfl, h, GrowS.of_below (Below.refl _ _)⟩
end
end Go.Proofs.Ytoebbbghllkdgaa
