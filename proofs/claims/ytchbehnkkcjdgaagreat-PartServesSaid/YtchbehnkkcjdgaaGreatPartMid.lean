/- Joined of PartR, PartS, PartT, PartE, PartU, PartV, PartW: The program's partition in memory: a box, its desks, the table, the police. -/
import Derived.Test.YtchbehnkkcjdgaaGreatPartDsk
import Derived.Test.YtchbehnkkcjdgaaGreatTaskPg
import Derived.Test.YtchbehnkkcjdgaaGreatPolPg
import Derived.Test.YtchbehnkkcjdgaaGreatTaskJ
import Derived.Lib.AppendZeros
namespace Go.Proofs.YtchbehnkkcjdgaaGreat
open Go.ChangeShapes Go.WideShapes Go.ChangeAt Go.RowKit
set_option linter.unusedVariables false
/-- The box and the desks' cells. -/
def PgB (H tb pl n : Nat) (iv : Nat → Value) (rf : Nat → Nat) (tk : Nat → Int) (up : Bool) : Own := fun w S =>
 ∃ ao cap, w.heap[H]? = some (.cells #[.pointer (some ⟨tb, 0, none⟩), .pointer (some ⟨pl, 0, none⟩), .slice ao n cap, .bool up] 109 (0, 0)) ∧
  (n = 0 → ao = none) ∧ (0 < n → ∃ G cur, ao = some ⟨G, 0, none⟩ ∧ G ≠ H ∧ w.heap[G]? = some (.cells cur 119 (0, 0)) ∧ ∀ i, i < n → cur[i * 3]? = some (iv i) ∧ cur[i * 3 + 1]? = some (.pointer (some ⟨rf i, 0, none⟩)) ∧ cur[i * 3 + 2]? = some (.int .i64 (tk i))) ∧
  S = fun k => k = H ∨ ob ao = some k
theorem pgb_own (H tb pl n : Nat) (iv : Nat → Value) (rf : Nat → Nat) (tk : Nat → Int) (up : Bool) : OwnP (PgB H tb pl n iv rf tk up) where
 keep := by
  rintro w w' S ⟨ao, cap, h1, h2, h3, rfl⟩ hs hz
  refine ⟨ao, cap, (hs H (.inl rfl)).trans h1, h2, fun hn => ?_, rfl⟩
  obtain ⟨G, cur, rfl, h4, h5, h6⟩ := h3 hn
  exact ⟨G, cur, rfl, h4, (hs G (.inr rfl)).trans h5, h6⟩
 lt := by
  rintro w S ⟨ao, cap, h1, h2, h3, rfl⟩ k (rfl | hk)
  ·exact lt_of_block h1
  ·rcases Nat.eq_zero_or_pos n with hn | hn
   ·rw [h2 hn] at hk; cases hk
   ·obtain ⟨G, cur, rfl, h4, h5, h6⟩ := h3 hn
    cases hk
    exact lt_of_block h5
/-- The desks. -/
abbrev DskF (bf rf : Nat → Nat) (ss : List Sv) (st : Int) (ds : Nat → Dk) : Nat → Own := fun i => DskAt (bf i) (rf i) (svAt ss i) st (ds i)
theorem dskf_own (bf rf : Nat → Nat) (ss : List Sv) (st : Int) (ds : Nat → Dk) : ∀ i, OwnP (DskF bf rf ss st ds i) := fun i => dsk_own _ _ _ _ _
/-- A partition, with the police's own word on what is dropped. -/
def PgQ (H : Nat) (ts : List Tk) (ss : List Sv) (st : Int) (x : Px) (hp : Bool) : Own := fun w S =>
 ∃ tb pl bf rf, Star (PgB H tb pl ss.length (fun i => budV (bf i) (x.ds i).bud.isR) rf (fun i => (x.ds i).taken) x.up) (Star (tasksOk.Tb tb ts x.hi x.js) (Star (policeOk.Pl pl ts x.la hp) (Fam ss.length (DskF bf rf ss st x.ds)))) w S
abbrev PgAt (H : Nat) (ts : List Tk) (ss : List Sv) (st : Int) (x : Px) : Own := PgQ H ts ss st x x.hi
theorem pq_own (H : Nat) (ts : List Tk) (ss : List Sv) (st : Int) (x : Px) (hp : Bool) : OwnP (PgQ H ts ss st x hp) where
 keep := by
  rintro w w' S ⟨tb, pl, bf, rf, h⟩ hs hz
  exact ⟨tb, pl, bf, rf, (star_own (pgb_own _ _ _ _ _ _ _ _) (star_own (tasksOk.own _ _ _ _) (star_own (policeOk.own _ _ _ _) (fam_own (dskf_own bf rf ss st x.ds))))).keep h hs hz⟩
 lt := by
  rintro w S ⟨tb, pl, bf, rf, h⟩ k hk
  exact (star_own (pgb_own _ _ _ _ _ _ _ _) (star_own (tasksOk.own _ _ _ _) (star_own (policeOk.own _ _ _ _) (fam_own (dskf_own bf rf ss st x.ds))))).lt h k hk
section
variable {H : Nat} {ts : List Tk} {ss : List Sv} {st : Int} {x : Px} {hp : Bool} {w : World} {S : Nat → Prop}
/-- The box's cells. -/
theorem PgQ.box (h : PgQ H ts ss st x hp w S) : ∃ tb pl ao cap, w.heap[H]? = some (.cells #[.pointer (some ⟨tb, 0, none⟩), .pointer (some ⟨pl, 0, none⟩), .slice ao ss.length cap, .bool x.up] 109 (0, 0)) ∧ S H := by
 obtain ⟨tb, pl, bf, rf, h⟩ := h
 obtain ⟨A, hA, hAS, _⟩ := h.left (star_own (tasksOk.own _ _ _ _) (star_own (policeOk.own _ _ _ _) (fam_own (dskf_own bf rf ss st x.ds))))
 obtain ⟨ao, cap, h1, _, _, rfl⟩ := hA
 exact ⟨tb, pl, ao, cap, h1, hAS H (.inl rfl)⟩
theorem PgQ.up (h : PgQ H ts ss st x hp w S) (b : Bool) : PgQ H ts ss st ⟨x.la, x.hi, x.js, x.ds, b⟩ hp (w.setCell ⟨H, 3, none⟩ (.bool b)) S ∧ GrowS S S w (w.setCell ⟨H, 3, none⟩ (.bool b)) := by
 obtain ⟨tb, pl, bf, rf, h⟩ := h
 obtain ⟨A, B, ⟨ao, cap, h1, h2, h3, rfl⟩, hB, hd, hs⟩ := h
 have hBu : But H w (w.setCell ⟨H, 3, none⟩ (.bool b)) := (But.refl H w).set 3 _
 have hO := star_own (tasksOk.own tb ts x.hi x.js) (star_own (policeOk.own pl ts x.la hp) (fam_own (n := ss.length) (dskf_own bf rf ss st x.ds)))
 refine ⟨⟨tb, pl, bf, rf, _, B, ⟨ao, cap, by rw [set_at h1]; rfl, h2, fun hn => ?_, rfl⟩, hO.keep hB (fun k hk => hBu.block k (hO.lt hB k hk) (fun e => hd k (.inl e) hk)) hBu.size, hd, hs⟩, ⟨hBu.os, hBu.tape, hBu.output, hBu.size, fun k hk hS => hBu.block k hk (fun e => hS ((hs k).2 (.inl (.inl e)))), fun k hk => .inl hk⟩⟩
 obtain ⟨G, cur, rfl, h4, h5, h6⟩ := h3 hn
 exact ⟨G, cur, rfl, h4, (hBu.block G (lt_of_block h5) h4).trans h5, h6⟩
/-- What is beside the box. -/
theorem PgQ.rest (h : PgQ H ts ss st x hp w S) : ∃ tb pl bf rf A B ao cap, PgB H tb pl ss.length (fun i => budV (bf i) (x.ds i).bud.isR) rf (fun i => (x.ds i).taken) x.up w A ∧ w.heap[H]? = some (.cells #[.pointer (some ⟨tb, 0, none⟩), .pointer (some ⟨pl, 0, none⟩), .slice ao ss.length cap, .bool x.up] 109 (0, 0)) ∧ (∀ i, i < ss.length → ∃ G, ao = some ⟨G, 0, none⟩ ∧ DskC w G (i * 3) (bf i) (rf i) (x.ds i) ∧ A G) ∧ A H ∧
 Star (tasksOk.Tb tb ts x.hi x.js) (Star (policeOk.Pl pl ts x.la hp) (Fam ss.length (DskF bf rf ss st x.ds))) w B ∧ (∀ k, A k → ¬ B k) ∧ (∀ k, A k → S k) ∧ (∀ k, B k → S k) ∧
 ∀ {w' B'} {hi' js' la' hp'} {ds' : Nat → Dk}, (∀ i, i < ss.length → (ds' i).bud.isR = (x.ds i).bud.isR ∧ (ds' i).taken = (x.ds i).taken) → Star (tasksOk.Tb tb ts hi' js') (Star (policeOk.Pl pl ts la' hp') (Fam ss.length (DskF bf rf ss st ds'))) w' B' → GrowS B B' w w' → ∃ S', PgQ H ts ss st ⟨la', hi', js', ds', x.up⟩ hp' w' S' ∧ GrowS S S' w w' := by
 obtain ⟨tb, pl, bf, rf, h⟩ := h
 obtain ⟨A, B, hA, hB, hd, hAS, hBS, hre⟩ := h.rest (pgb_own _ _ _ _ _ _ _ _)
 obtain ⟨ao, cap, h1, h2, h3, hAe⟩ := id hA
 refine ⟨tb, pl, bf, rf, A, B, ao, cap, hA, h1, fun i hi => ?_, by rw [hAe]; exact .inl rfl, hB, hd, hAS, hBS, fun {w' B' hi' js' la' hp' ds'} he q g => ?_⟩
 ·obtain ⟨G, cur, rfl, h4, h5, h6⟩ := h3 (by omega)
  obtain ⟨c0, c1, c2⟩ := h6 i hi
  exact ⟨G, rfl, ⟨cell_in h5 c0, cell_in h5 c1, cell_in h5 c2, free_in h5 _, lt_of_block h5⟩, by rw [hAe]; exact .inr rfl⟩
 ·obtain ⟨S', q1, q2⟩ := hre q g
  refine ⟨S', ⟨tb, pl, bf, rf, ?_⟩, q2⟩
  obtain ⟨A2, B2, k1, k2, k3, k4⟩ := q1
  refine ⟨A2, B2, ?_, k2, k3, k4⟩
  obtain ⟨ao, cap, m1, m2, m3, m4⟩ := k1
  refine ⟨ao, cap, m1, m2, fun hn => ?_, m4⟩
  obtain ⟨G, cur, n1, n2, n3, n4⟩ := m3 hn
  refine ⟨G, cur, n1, n2, n3, fun i hi => ?_⟩
  have := n4 i hi
  show cur[i * 3]? = some (budV (bf i) (ds' i).bud.isR) ∧ cur[i * 3 + 1]? = some (.pointer (some ⟨rf i, 0, none⟩)) ∧ cur[i * 3 + 2]? = some (.int .i64 (ds' i).taken)
  rw [(he i hi).1, (he i hi).2]
  exact this
theorem PgQ.table (h : PgQ H ts ss st x hp w S) : ∃ tb A, w.cell? ⟨H, 0, none⟩ = some (.pointer (some ⟨tb, 0, none⟩)) ∧ tasksOk.Tb tb ts x.hi x.js w A ∧ (∀ k, A k → S k) ∧ ¬ A H ∧ ∀ {w' A' hi' js'}, tasksOk.Tb tb ts hi' js' w' A' → GrowS A A' w w' → ∃ S', PgQ H ts ss st ⟨x.la, hi', js', x.ds, x.up⟩ hp w' S' ∧ GrowS S S' w w' := by
 obtain ⟨tb, pl, bf, rf, A, B, ao, cap, hA, hbox, hdc, hAH, hB, hd, hAS, hBS, hre⟩ := h.rest
 obtain ⟨C, hC, hCB, hre2⟩ := hB.left (star_own (policeOk.own pl ts x.la hp) (fam_own (n := ss.length) (dskf_own bf rf ss st x.ds)))
 refine ⟨tb, C, cell_in hbox rfl, hC, fun k hk => hBS k (hCB k hk), fun hk => hd H hAH (hCB H hk), fun {w' A' hi' js'} q g => ?_⟩
 obtain ⟨B', q1, q2⟩ := hre2 q g
 exact hre (fun _ _ => ⟨rfl, rfl⟩) q1 q2
theorem PgQ.police (h : PgQ H ts ss st x hp w S) : ∃ pl A, w.cell? ⟨H, 1, none⟩ = some (.pointer (some ⟨pl, 0, none⟩)) ∧ policeOk.Pl pl ts x.la hp w A ∧ (∀ k, A k → S k) ∧ ¬ A H ∧ ∀ {w' A' la' hp'}, policeOk.Pl pl ts la' hp' w' A' → GrowS A A' w w' → ∃ S', PgQ H ts ss st ⟨la', x.hi, x.js, x.ds, x.up⟩ hp' w' S' ∧ GrowS S S' w w' := by
 obtain ⟨tb, pl, bf, rf, A, B, ao, cap, hA, hbox, hdc, hAH, hB, hd, hAS, hBS, hre⟩ := h.rest
 have hO := fam_own (n := ss.length) (dskf_own bf rf ss st x.ds)
 obtain ⟨_, B1, _, hB1, _, _, hB1B, hre1⟩ := hB.rest (tasksOk.own tb ts x.hi x.js)
 obtain ⟨C, hC, hCB, hre2⟩ := hB1.left hO
 refine ⟨pl, C, cell_in hbox rfl, hC, fun k hk => hBS k (hB1B k (hCB k hk)), fun hk => hd H hAH (hB1B H (hCB H hk)), fun {w' A' la' hp'} q g => ?_⟩
 obtain ⟨B', q1, q2⟩ := hre2 q g
 obtain ⟨B'', q3, q4⟩ := hre1 q1 q2
 exact hre (fun _ _ => ⟨rfl, rfl⟩) q3 q4
theorem PgQ.desk (h : PgQ H ts ss st x hp w S) {i : Nat} (hi : i < ss.length) : ∃ G B R A cap, w.cell? ⟨H, 2, none⟩ = some (.slice (some ⟨G, 0, none⟩) ss.length cap) ∧ DskC w G (i * 3) B R (x.ds i) ∧ DskAt B R (svAt ss i) st (x.ds i) w A ∧ ¬ A G ∧ ¬ A H ∧ (∀ k, A k → S k) ∧ ∀ {w' A' d'}, (d'.bud.isR = (x.ds i).bud.isR ∧ d'.taken = (x.ds i).taken) → DskAt B R (svAt ss i) st d' w' A' → GrowS A A' w w' → ∃ S', PgQ H ts ss st ⟨x.la, x.hi, x.js, updD x.ds i d', x.up⟩ hp w' S' ∧ GrowS S S' w w' := by
 obtain ⟨tb, pl, bf, rf, A, B, ao, cap, hA, hbox, hdc, hAH, hB, hd, hAS, hBS, hre⟩ := h.rest
 obtain ⟨G, rfl, hc, hAG⟩ := hdc i hi
 have hO := fam_own (n := ss.length) (dskf_own bf rf ss st x.ds)
 obtain ⟨_, B1, _, hB1, _, _, hB1B, hre1⟩ := hB.rest (tasksOk.own tb ts x.hi x.js)
 obtain ⟨_, B2, _, hB2, _, _, hB2B, hre2⟩ := hB1.rest (policeOk.own pl ts x.la hp)
 obtain ⟨C, hC, hCB, hre3⟩ := hB2.at_ (dskf_own bf rf ss st x.ds) hi
 refine ⟨G, bf i, rf i, C, cap, cell_in hbox rfl, hc, hC, fun hk => hd G hAG (hB1B G (hB2B G (hCB G hk))), fun hk => hd H hAH (hB1B H (hB2B H (hCB H hk))), fun k hk => hBS k (hB1B k (hB2B k (hCB k hk))), fun {w' A' d'} he q g => ?_⟩
 obtain ⟨B3, q1, q2⟩ := hre3 q g
 have q1' : Fam ss.length (DskF bf rf ss st (updD x.ds i d')) w' B3 := q1.congr (fun j hj => by
  unfold updO updD DskF
  by_cases e : j = i
  ·subst e; simp
  ·simp [e])
 obtain ⟨B4, q3, q4⟩ := hre2 q1' q2
 obtain ⟨B5, q5, q6⟩ := hre1 q3 q4
 exact hre (fun j hj => by
  unfold updD
  by_cases e : j = i
  ·subst e; simp [he]
  ·simp [e]) q5 q6
theorem PgQ.bds (h : PgQ H ts ss st x hp w S) : ts.length ≤ 6 ∧ (∀ y ∈ ts, okTk y = true) ∧ JsOk ts x.js ∧ LaOk ts x.la := by
 obtain ⟨tb, A, _, hT, _⟩ := h.table
 obtain ⟨pl, A2, _, hP, _⟩ := h.police
 obtain ⟨a1, a2, a3⟩ := tasksOk.bd hT
 obtain ⟨_, _, a4⟩ := policeOk.bd hP
 exact ⟨a1, a2, a3, a4⟩
end
end Go.Proofs.YtchbehnkkcjdgaaGreat
namespace Go.Proofs.YtchbehnkkcjdgaaGreat
open Go.ChangeShapes Go.WideShapes Go.ChangeAt Go.RowKit
set_option linter.unusedVariables false
set_option linter.unusedSimpArgs false
theorem star_tk {H tb pl n : Nat} {iv : Nat → Value} {rf : Nat → Nat} {tk : Nat → Int} {up : Bool} {Q : Own} {w : World} {S : Nat → Prop} (hQ : OwnP Q) (h : Star (PgB H tb pl n iv rf tk up) Q w S) {i : Nat} (hi : i < n) {G cap : Nat} (hc : w.cell? ⟨H, 2, none⟩ = some (.slice (some ⟨G, 0, none⟩) n cap)) (v : Int) :
 Star (PgB H tb pl n iv rf (fun j => if j = i then v else tk j) up) Q (w.setCell ⟨G, i * 3 + 2, none⟩ (.int .i64 v)) S ∧ GrowS S S w (w.setCell ⟨G, i * 3 + 2, none⟩ (.int .i64 v)) := by
 obtain ⟨A, B, ⟨ao, cap', h1, h2, h3, rfl⟩, hB, hd, hs⟩ := h
 have e := cell_in (j := 2) h1 rfl
 rw [hc] at e
 cases e
 obtain ⟨G', cur, e, h4, h5, h6⟩ := h3 (by omega)
 cases e
 have hBu : But G w (w.setCell ⟨G, i * 3 + 2, none⟩ (.int .i64 v)) := (But.refl G w).set _ _
 refine ⟨⟨_, B, ⟨_, cap, (hBu.block H (lt_of_block h1) (fun e => h4 e.symm)).trans h1, h2, fun _ => ⟨G, _, rfl, h4, set_at h5, fun j hj => ?_⟩, rfl⟩, hQ.keep hB (fun k hk => hBu.block k (hQ.lt hB k hk) (fun e => hd k (.inr (by rw [e]; rfl)) hk)) hBu.size, hd, hs⟩, ⟨hBu.os, hBu.tape, hBu.output, hBu.size, fun k hk hS => hBu.block k hk (fun e => hS ((hs k).2 (.inl (.inr (by rw [e]; rfl))))), fun k hk => .inl hk⟩⟩
 obtain ⟨a0, a1, a2⟩ := h6 j hj
 refine ⟨by rw [Array.getElem?_setIfInBounds_ne (by omega)]; exact a0, by rw [Array.getElem?_setIfInBounds_ne (by omega)]; exact a1, ?_⟩
 show (cur.setIfInBounds (i * 3 + 2) (Value.int .i64 v))[j * 3 + 2]? = some (Value.int .i64 (if j = i then v else tk j))
 by_cases e : j = i
 ·subst e
  rw [Array.getElem?_setIfInBounds_self_of_lt (Array.getElem?_eq_some_iff.1 a2).1, if_pos rfl]
 ·rw [if_neg e, Array.getElem?_setIfInBounds_ne (by omega)]; exact a2
theorem PgQ.take {H : Nat} {ts : List Tk} {ss : List Sv} {st : Int} {x : Px} {hp : Bool} {w : World} {S : Nat → Prop} (h : PgQ H ts ss st x hp w S) {i : Nat} (hi : i < ss.length) : ∃ G B R A cap, w.cell? ⟨H, 2, none⟩ = some (.slice (some ⟨G, 0, none⟩) ss.length cap) ∧ DskC w G (i * 3) B R (x.ds i) ∧ DskAt B R (svAt ss i) st (x.ds i) w A ∧ ¬ A G ∧ ¬ A H ∧ (∀ {w' A' d'}, (d'.bud.isR = (x.ds i).bud.isR) → DskAt B R (svAt ss i) st d' w' A' → GrowS A A' w w' → ∃ S', PgQ H ts ss st ⟨x.la, x.hi, x.js, updD x.ds i d', x.up⟩ hp (w'.setCell ⟨G, i * 3 + 2, none⟩ (.int .i64 d'.taken)) S' ∧ GrowS S S' w (w'.setCell ⟨G, i * 3 + 2, none⟩ (.int .i64 d'.taken))) ∧ ∀ {w' A' d'}, (d'.bud.isR = (x.ds i).bud.isR) → d'.taken = (x.ds i).taken → DskAt B R (svAt ss i) st d' w' A' → GrowS A A' w w' → ∃ S', PgQ H ts ss st ⟨x.la, x.hi, x.js, updD x.ds i d', x.up⟩ hp w' S' ∧ GrowS S S' w w' := by
 obtain ⟨tb, pl, bf, rf, h⟩ := h
 obtain ⟨A, B, hA, hB, hd, hAS, hBS, hre⟩ := h.rest (pgb_own _ _ _ _ _ _ _ _)
 obtain ⟨ao, cap, h1, h2, h3, hAe⟩ := id hA
 obtain ⟨G, cur, rfl, h4, h5, h6⟩ := h3 (by omega)
 have hO := fam_own (n := ss.length) (dskf_own bf rf ss st x.ds)
 obtain ⟨_, B1, _, hB1, _, _, hB1B, hre1⟩ := hB.rest (tasksOk.own tb ts x.hi x.js)
 obtain ⟨_, B2, _, hB2, _, _, hB2B, hre2⟩ := hB1.rest (policeOk.own pl ts x.la hp)
 obtain ⟨C, hC, hCB, hre3⟩ := hB2.at_ (dskf_own bf rf ss st x.ds) hi
 obtain ⟨c0, c1, c2⟩ := h6 i hi
 have hAG : A G := by rw [hAe]; exact .inr rfl
 have hAH : A H := by rw [hAe]; exact .inl rfl
 refine ⟨G, bf i, rf i, C, cap, cell_in h1 rfl, ⟨cell_in h5 c0, cell_in h5 c1, cell_in h5 c2, free_in h5 _, lt_of_block h5⟩, hC, fun hk => hd G hAG (hB1B G (hB2B G (hCB G hk))), fun hk => hd H hAH (hB1B H (hB2B H (hCB H hk))), fun {w' A' d'} he q g => ?_, fun {w' A' d'} he het q g => ?_⟩
 ·obtain ⟨B3, q1, q2⟩ := hre3 q g
  have q1' : Fam ss.length (DskF bf rf ss st (updD x.ds i d')) w' B3 := q1.congr (fun j hj => by
   unfold updO updD DskF
   by_cases e : j = i
   ·subst e; simp
   ·simp [e])
  obtain ⟨B4, q3, q4⟩ := hre2 q1' q2
  obtain ⟨B5, q5, q6⟩ := hre1 q3 q4
  obtain ⟨S', q7, q8⟩ := hre q5 q6
  have hHw : w'.heap[H]? = w.heap[H]? := g.block H (lt_of_block h1) (fun hk => hd H hAH (hB1B H (hB2B H (hCB H hk))))
  obtain ⟨r1, r2⟩ := star_tk (star_own (tasksOk.own _ _ _ _) (star_own (policeOk.own _ _ _ _) (fam_own (dskf_own bf rf ss st (updD x.ds i d'))))) q7 hi (cell_in (hHw.trans h1) rfl) d'.taken
  refine ⟨S', ⟨tb, pl, bf, rf, ?_⟩, q8.trans r2⟩
  have e1 : (fun j => budV (bf j) ((updD x.ds i d') j).bud.isR) = fun j => budV (bf j) (x.ds j).bud.isR := by
   funext j
   unfold updD
   by_cases e : j = i
   ·subst e; simp [he]
   ·simp [e]
  have e2 : (fun j => ((updD x.ds i d') j).taken) = fun j => if j = i then d'.taken else (x.ds j).taken := by
   funext j
   unfold updD
   by_cases e : j = i
   ·subst e; simp
   ·simp [e]
  show Star (PgB H tb pl ss.length (fun j => budV (bf j) ((updD x.ds i d') j).bud.isR) rf (fun j => ((updD x.ds i d') j).taken) x.up) _ _ _
  rw [e1, e2]
  exact r1
 ·obtain ⟨B3, q1, q2⟩ := hre3 q g
  have q1' : Fam ss.length (DskF bf rf ss st (updD x.ds i d')) w' B3 := q1.congr (fun j hj => by
   unfold updO updD DskF
   by_cases e : j = i
   ·subst e; simp
   ·simp [e])
  obtain ⟨B4, q3, q4⟩ := hre2 q1' q2
  obtain ⟨B5, q5, q6⟩ := hre1 q3 q4
  obtain ⟨S', q7, q8⟩ := hre q5 q6
  refine ⟨S', ⟨tb, pl, bf, rf, ?_⟩, q8⟩
  have e1 : (fun j => budV (bf j) ((updD x.ds i d') j).bud.isR) = fun j => budV (bf j) (x.ds j).bud.isR := by
   funext j
   unfold updD
   by_cases e : j = i
   ·subst e; simp [he]
   ·simp [e]
  have e2 : (fun j => ((updD x.ds i d') j).taken) = fun j => (x.ds j).taken := by
   funext j
   unfold updD
   by_cases e : j = i
   ·subst e; simp [het]
   ·simp [e]
  show Star (PgB H tb pl ss.length (fun j => budV (bf j) ((updD x.ds i d') j).bud.isR) rf (fun j => ((updD x.ds i d') j).taken) x.up) _ _ _
  rw [e1, e2]
  exact q7
set_option maxRecDepth 100000 in
set_option maxHeartbeats 8000000 in
theorem pmade_any (w : World) (H : Nat) (S : Nat → Prop) (ts : List Tk) (ss : List Sv) (st : Int) (x : Px) {hp : Bool} (h : PgQ H ts ss st x hp w S) : Calls Tryz.prog 67 #[.pointer (some ⟨H, 0, none⟩)] w fun e w' => e = .returned (.bool true) ∧ w' = w := by
 obtain ⟨tb, pl, ao, cap, hb, _⟩ := h.box
 have c0 := cell_in (j := 0) hb rfl
 clear h hb
 go_enter Tryz.func67, Tryz.ntmps67
 go_wp2_with fail
 go_ret
 exact ⟨rfl, rfl⟩
set_option maxRecDepth 100000 in
set_option maxHeartbeats 8000000 in
theorem pup_any (w : World) (H : Nat) (S : Nat → Prop) (ts : List Tk) (ss : List Sv) (st : Int) (x : Px) {hp : Bool} (h : PgQ H ts ss st x hp w S) : Calls Tryz.prog 30 #[.pointer (some ⟨H, 0, none⟩)] w fun e w' => e = .returned (.bool x.up) ∧ w' = w := by
 obtain ⟨tb, pl, ao, cap, hb, _⟩ := h.box
 have c0 := cell_in (j := 3) hb rfl
 clear h hb
 go_enter Tryz.func30, Tryz.ntmps30
 go_wp2_with fail
 go_ret
 exact ⟨rfl, rfl⟩
set_option maxRecDepth 100000 in
set_option maxHeartbeats 8000000 in
theorem popen_any (w : World) (H : Nat) (S : Nat → Prop) (ts : List Tk) (ss : List Sv) (st : Int) (x : Px) {hp : Bool} (h : PgQ H ts ss st x hp w S) : Calls Tryz.prog 60 #[.pointer (some ⟨H, 0, none⟩)] w fun e w' => e = .returned (.int .i64 (if x.up = true then 0 else 41)) ∧ w' = w := by
 have HM := Lib.hid (pmade_any w H S ts ss st x h)
 obtain ⟨tb, pl, ao, cap, hb, _⟩ := h.box
 have c0 := cell_in (j := 3) hb rfl
 obtain ⟨up, hup⟩ : ∃ up, up = x.up := ⟨_, rfl⟩
 rw [← hup] at c0 ⊢
 clear h hb hup
 cases up with
 | true =>
   go_enter Tryz.func60, Tryz.ntmps60
   go_wp2_with (first
    | (go_at_call 67; refine HM.out.mono ?_; rintro e w3 ⟨rfl, hw3⟩; rw [hw3]; clear hw3)
    | fail "no arm")
   go_ret
   exact ⟨rfl, rfl⟩
 | false =>
   go_enter Tryz.func60, Tryz.ntmps60
   go_wp2_with (first
    | (go_at_call 67; refine HM.out.mono ?_; rintro e w3 ⟨rfl, hw3⟩; rw [hw3]; clear hw3)
    | fail "no arm")
   go_ret
   exact ⟨rfl, rfl⟩
set_option maxRecDepth 100000 in
set_option maxHeartbeats 8000000 in
theorem phas_any (w : World) (H : Nat) (S : Nat → Prop) (ts : List Tk) (ss : List Sv) (st : Int) (x : Px) {hp : Bool} (h : PgQ H ts ss st x hp w S) (i : Int) : Calls Tryz.prog 65 #[.pointer (some ⟨H, 0, none⟩), .int .i64 i] w fun e w' => e = .returned (.bool (hasS ss.length i)) ∧ w' = w := by
 obtain ⟨tb, pl, ao, cap, hb, _⟩ := h.box
 have c0 := cell_in (j := 2) hb rfl
 obtain ⟨n, hn⟩ : ∃ n, n = ss.length := ⟨_, rfl⟩
 rw [← hn] at c0 ⊢
 have HR : Hid (∀ a b, a = decide (0 ≤ i) → b = decide (i < (n : Int)) → hasS n i = (a && b)) := Lib.hid (fun a b h1 h2 => by rw [h1, h2]; rfl)
 clear h hb hn
 by_cases h0 : 0 ≤ i
 ·have t0 : decide (0 ≤ i) = true := decide_eq_true h0
  have HT := Lib.hid t0.symm
  by_cases h1 : i < (n : Int)
  ·have t1 : decide (i < (n : Int)) = true := decide_eq_true h1
   have HU := Lib.hid t1.symm
   go_enter Tryz.func65, Tryz.ntmps65
   go_wp2_with fail
   go_ret
   rw [HR.out _ _ HT.out HU.out]
   exact ⟨rfl, rfl⟩
  ·have t1 : decide (i < (n : Int)) = false := decide_eq_false h1
   have HU := Lib.hid t1.symm
   go_enter Tryz.func65, Tryz.ntmps65
   go_wp2_with fail
   go_ret
   rw [HR.out _ _ HT.out HU.out]
   exact ⟨rfl, rfl⟩
 ·have t0 : decide (0 ≤ i) = false := decide_eq_false h0
  have HT := Lib.hid t0.symm
  go_enter Tryz.func65, Tryz.ntmps65
  go_wp2_with fail
  go_ret
  rw [HR.out _ _ HT.out rfl]
  exact ⟨by simp, rfl⟩
set_option maxRecDepth 100000 in
set_option maxHeartbeats 8000000 in
theorem phigh_any (w : World) (H : Nat) (S : Nat → Prop) (ts : List Tk) (ss : List Sv) (st : Int) (x : Px) (h : PgAt H ts ss st x w S) : Calls Tryz.prog 31 #[.pointer (some ⟨H, 0, none⟩)] w fun e w' => e = .returned (.bool x.hi) ∧ Below w.heap.size w w' := by
 have HM := Lib.hid (pmade_any w H S ts ss st x h)
 obtain ⟨tb, A, c0, hT, _⟩ := h.table
 have HH := Lib.hid (tasksOk.high w tb A ts x.hi x.js hT)
 clear h hT
 go_enter Tryz.func31, Tryz.ntmps31
 go_wp2_with (first
  | (go_at_call 76; refine HH.out.mono ?_; rintro e w4 ⟨rfl, hb4⟩; have B4 := Lib.hid hb4; clear hb4)
  | (go_at_call 67; refine HM.out.mono ?_; rintro e w3 ⟨rfl, hw3⟩; rw [hw3]; clear hw3)
  | fail "no arm")
 go_ret
 exact ⟨rfl, B4.out⟩
set_option maxRecDepth 100000 in
set_option maxHeartbeats 8000000 in
theorem pqueue_any (w : World) (H : Nat) (S : Nat → Prop) (ts : List Tk) (ss : List Sv) (st : Int) (x : Px) (h : PgAt H ts ss st x w S) (i : Int) : Calls Tryz.prog 35 #[.pointer (some ⟨H, 0, none⟩), .int .i64 i] w fun e w' => e = .returned (.int .i64 (quV ss x i)) ∧ w' = w := by
 have HH := Lib.hid (phas_any w H S ts ss st x h i)
 cases hs : hasS ss.length i with
 | false =>
   have HV : Hid (quV ss x i = 0) := Lib.hid (by unfold quV; rw [hs]; rfl)
   rw [hs] at HH
   clear h hs
   go_enter Tryz.func35, Tryz.ntmps35
   go_wp2_with (first
    | (go_at_call 65; refine HH.out.mono ?_; rintro e w3 ⟨rfl, hw3⟩; rw [hw3]; clear hw3)
    | fail "no arm")
   go_ret
   rw [HV.out]
   exact ⟨rfl, rfl⟩
 | true =>
   rw [hs] at HH
   obtain ⟨k, rfl, hk⟩ := hasS_nat hs
   have HV : Hid (quV ss x k = ((x.ds k).q.length : Nat)) := Lib.hid (by unfold quV; rw [hs]; rfl)
   obtain ⟨G, B, R, A, cap, c2, hc, hd, _, _, _, _⟩ := h.desk hk
   obtain ⟨A2, hR, _, _⟩ := hd.right (bud_own B _ st _)
   have HL := Lib.hid (rq_len w R A2 _ hR)
   rw [reqL_len] at HL
   have d1 := hc.c1
   obtain ⟨n, hn⟩ : ∃ n, n = ss.length := ⟨_, rfl⟩
   rw [← hn] at c2 hk
   have l0 : (0 : Int) ≤ (k : Int) := by omega
   have l1 : (k : Int) < (n : Int) := by omega
   clear h hs hc hd hR hn
   go_enter Tryz.func35, Tryz.ntmps35
   go_wp2_with (first
    | (go_at_call 81; refine HL.out.mono ?_; rintro e w4 ⟨rfl, hw4⟩; rw [hw4]; clear hw4)
    | (go_at_call 65; refine HH.out.mono ?_; rintro e w3 ⟨rfl, hw3⟩; rw [hw3]; clear hw3)
    | fail "no arm")
   go_ret
   rw [HV.out]
   exact ⟨rfl, rfl⟩
set_option maxRecDepth 100000 in
set_option maxHeartbeats 8000000 in
theorem bfall_any (w : World) (H : Nat) (S : Nat → Prop) (ts : List Tk) (ss : List Sv) (st : Int) (x : Px) (h : PgAt H ts ss st x w S) : Calls Tryz.prog 99 #[.pointer (some ⟨H, 0, none⟩)] w fun e w' => ∃ S', e = .returned (.bool (falV ts x.hi x.js)) ∧ PgAt H ts ss st ⟨x.la, falH ts x.hi x.js, x.js, x.ds, x.up⟩ w' S' ∧ GrowS S S' w w' := by
 obtain ⟨tb, A, c0, hT, hAS, hAH, hre⟩ := h.table
 have HF : Hid (Calls Tryz.prog 145 #[.pointer (some ⟨tb, 0, none⟩)] w fun e w' => e = .returned (.bool (falV ts x.hi x.js)) ∧ ∃ S', PgQ H ts ss st ⟨x.la, falH ts x.hi x.js, x.js, x.ds, x.up⟩ x.hi w' S' ∧ GrowS S S' w w') := Lib.hid ((tasksOk.fall w tb A ts x.hi x.js hT).mono (by
  rintro e w' ⟨S', rfl, q1, q2⟩
  exact ⟨rfl, hre q1 q2⟩))
 obtain ⟨fv, hfv⟩ : ∃ fv, fv = falV ts x.hi x.js := ⟨_, rfl⟩
 have HE : Hid (fv = false → falH ts x.hi x.js = x.hi) := Lib.hid (fun e => by unfold falH; rw [← hfv, e]; simp)
 have HE2 : Hid (fv = true → falH ts x.hi x.js = false) := Lib.hid (fun e => by unfold falH; rw [← hfv, e]; simp)
 rw [← hfv] at HF ⊢
 clear h hT hAS hAH hre hfv
 cases fv with
 | false =>
   go_enter Tryz.func99, Tryz.ntmps99
   go_wp2_with (first
    | (go_at_call 145; refine HF.out.mono ?_; rintro e w3 ⟨rfl, S3, h3', g3'⟩; have h3 := Lib.hid h3'; have g3 := Lib.hid g3'; clear h3' g3')
    | fail "no arm")
   go_ret
   have hh := h3.out
   have e := HE.out (by trivial)
   first | exact ⟨S3, by trivial, by unfold PgAt; rw [show (⟨x.la, falH ts x.hi x.js, x.js, x.ds, x.up⟩ : Px).hi = x.hi from e]; exact hh, g3.out⟩ | exact ⟨by trivial, S3, by unfold PgAt; rw [show (⟨x.la, falH ts x.hi x.js, x.js, x.ds, x.up⟩ : Px).hi = x.hi from e]; exact hh, g3.out⟩
 | true =>
   go_enter Tryz.func99, Tryz.ntmps99
   go_wp2_with (first
    | (go_at_call 120; have _z := h3; refine HD.out.mono ?_; rintro e w4 ⟨rfl, S4, h4', g4'⟩; have h4 := Lib.hid h4'; have g4 := Lib.hid g4'; clear h4' g4')
    | (go_at_call 145; refine HF.out.mono ?_; rintro e w3 ⟨rfl, S3, h3', g3'⟩; have h3 := Lib.hid h3'; have g3 := Lib.hid g3'
       obtain ⟨pl, A3, p1, hP, _, _, hre3⟩ := h3'.police
       have HD : Hid (Calls Tryz.prog 120 #[.pointer (some ⟨pl, 0, none⟩), .bool false] w3 fun e w' => e = .returned (.tuple #[]) ∧ ∃ S', PgQ H ts ss st ⟨x.la, falH ts x.hi x.js, x.js, x.ds, x.up⟩ false w' S' ∧ GrowS S3 S' w3 w') := Lib.hid ((policeOk.drop w3 pl A3 ts x.la x.hi false hP).mono (by
        rintro e w' ⟨S', rfl, q1, q2⟩
        exact ⟨rfl, hre3 q1 q2⟩))
       clear h3' g3' hP hre3)
    | fail "no arm")
   go_ret
   have hh := h4.out
   have e := HE2.out (by trivial)
   first | exact ⟨S4, by trivial, by unfold PgAt; rw [show (⟨x.la, falH ts x.hi x.js, x.js, x.ds, x.up⟩ : Px).hi = false from e]; exact hh, g3.out.trans g4.out⟩ | exact ⟨by trivial, S4, by unfold PgAt; rw [show (⟨x.la, falH ts x.hi x.js, x.js, x.ds, x.up⟩ : Px).hi = false from e]; exact hh, g3.out.trans g4.out⟩
/-- The table, its blocks the same. -/
theorem PgQ.tableS {H : Nat} {ts : List Tk} {ss : List Sv} {st : Int} {x : Px} {hp : Bool} {w : World} {S : Nat → Prop} (h : PgQ H ts ss st x hp w S) : ∃ tb A, w.cell? ⟨H, 0, none⟩ = some (.pointer (some ⟨tb, 0, none⟩)) ∧ TbP tb ts x.hi x.js w A ∧ ∀ {w' hi' js'}, TbP tb ts hi' js' w' A → GrowS A A w w' → PgQ H ts ss st ⟨x.la, hi', js', x.ds, x.up⟩ hp w' S ∧ GrowS S S w w' := by
 obtain ⟨tb, pl, bf, rf, A, B, hA, ⟨A1, B1, hT, hR, hd1, hs1⟩, hd, hs⟩ := h
 have hO := star_own (policeOk.own pl ts x.la hp) (fam_own (n := ss.length) (dskf_own bf rf ss st x.ds))
 have hOB := pgb_own H tb pl ss.length (fun i => budV (bf i) (x.ds i).bud.isR) rf (fun i => (x.ds i).taken) x.up
 obtain ⟨ao, cap, h1, h2, h3, hAe⟩ := id hA
 refine ⟨tb, A1, cell_in h1 rfl, hT, fun {w' hi' js'} q g => ⟨⟨tb, pl, bf, rf, A, B, hOB.keep hA (fun k hk => g.block k (hOB.lt hA k hk) (fun h => hd k hk ((hs1 k).2 (.inl h)))) g.size, ⟨A1, B1, q, hO.keep hR (fun k hk => g.block k (hO.lt hR k hk) (fun h => hd1 k h hk)) g.size, hd1, hs1⟩, hd, hs⟩, ⟨g.os, g.tape, g.output, g.size, fun k hk hS => g.block k hk (fun h => hS ((hs k).2 (.inr ((hs1 k).2 (.inl h))))), fun k hk => .inl hk⟩⟩⟩
set_option maxRecDepth 100000 in
set_option maxHeartbeats 8000000 in
theorem brise_any (w : World) (H : Nat) (S : Nat → Prop) (ts : List Tk) (ss : List Sv) (st : Int) (x : Px) (h : PgAt H ts ss st x w S) : Calls Tryz.prog 153 #[.pointer (some ⟨H, 0, none⟩)] w fun e w' => ∃ S' z ao cap, e = .returned (.slice ao (riseL ts x.js).length cap) ∧ w.heap.size ≤ z ∧ Lies w' z w'.heap.size (.slice ao (riseL ts x.js).length cap) (riseL ts x.js).length 1 ((riseL ts x.js).flatMap intCells) ∧ (∀ k, S' k → k < z) ∧ PgAt H ts ss st ⟨x.la, true, riseT ts x.js, x.ds, x.up⟩ w' S' ∧ GrowS S S' w w' := by
 obtain ⟨pl, A, c1, hP, hAS, hAH, hre⟩ := h.police
 have HF : Hid (Calls Tryz.prog 120 #[.pointer (some ⟨pl, 0, none⟩), .bool true] w fun e w' => e = .returned (.tuple #[]) ∧ ∃ S', PgQ H ts ss st x true w' S' ∧ GrowS S S' w w') := Lib.hid ((policeOk.drop w pl A ts x.la x.hi true hP).mono (by
  rintro e w' ⟨S', rfl, q1, q2⟩
  exact ⟨rfl, hre q1 q2⟩))
 clear h hP hAS hAH hre
 go_enter Tryz.func153, Tryz.ntmps153
 go_wp2_with (first
  | (go_at_call 187; have _z := h3; refine HD.out.mono ?_; rintro e w4 ⟨ao4, cap4, rfl, hl4', h4', g4'⟩; have h4 := Lib.hid h4'; have g4 := Lib.hid g4'; have hl4 := Lib.hid hl4'; clear h4' g4' hl4')
  | (go_at_call 120; refine HF.out.mono ?_; rintro e w3 ⟨rfl, S3, h3', g3'⟩; have h3 := Lib.hid h3'; have g3 := Lib.hid g3'
     obtain ⟨tb, A3, p1, hT, hre3⟩ := h3'.tableS
     have HD : Hid (Calls Tryz.prog 187 #[.pointer (some ⟨tb, 0, none⟩)] w3 fun e w' => ∃ ao cap, e = .returned (.slice ao (riseL ts x.js).length cap) ∧ Lies w' w3.heap.size w'.heap.size (.slice ao (riseL ts x.js).length cap) (riseL ts x.js).length 1 ((riseL ts x.js).flatMap intCells) ∧ PgQ H ts ss st ⟨x.la, true, riseT ts x.js, x.ds, x.up⟩ true w' S3 ∧ GrowS S3 S3 w3 w') := Lib.hid ((trise_any w3 tb A3 ts x.hi x.js hT).mono (by
      rintro e w' ⟨ao, cap, rfl, q0, q1, q2⟩
      exact ⟨ao, cap, rfl, q0, hre3 q1 q2⟩))
     clear h3' g3' hT hre3)
  | fail "no arm")
 go_ret
 exact ⟨S3, w3.heap.size, ao4, cap4, rfl, g3.out.size, hl4.out, (pq_own H ts ss st x true).lt h3.out, h4.out, g3.out.trans g4.out⟩
end Go.Proofs.YtchbehnkkcjdgaaGreat
namespace Go.Proofs.YtchbehnkkcjdgaaGreat
open Go.ChangeShapes Go.WideShapes Go.ChangeAt Go.RowKit
set_option linter.unusedVariables false
set_option linter.unusedSimpArgs false
set_option maxRecDepth 100000 in
set_option maxHeartbeats 8000000 in
theorem barrive_any (w : World) (H : Nat) (S : Nat → Prop) (ts : List Tk) (ss : List Sv) (st : Int) (x : Px) (h : PgAt H ts ss st x w S) (hup : x.up = true) (now t arr work done : Int) (a : Option Addr) (n c : Nat) (ops : List Wn) (hn : ops.length = n) (hl : Lies w 0 w.heap.size (.slice a n c) n 3 (ops.flatMap Wn.cells)) :
 Calls Tryz.prog 61 #[.pointer (some ⟨H, 0, none⟩), .int .i64 now, .agg #[.int .i64 t, .int .i64 arr, .int .i64 work, .int .i64 done, .slice a n c]] w fun e w' => ∃ S', e = .returned (.int .i64 (arrE ts x now t work done n)) ∧ PgAt H ts ss st (arrX ts x now t work done ops) w' S' ∧ GrowS S S' w w' := by
 obtain ⟨E, hE⟩ : ∃ E, E = w.heap.size := ⟨_, rfl⟩
 obtain ⟨V, hV⟩ : ∃ V, V = w.alloc (.cells #[.int .i64 t, .int .i64 arr, .int .i64 work, .int .i64 done, .slice a n c] 66) := ⟨_, rfl⟩
 have hbV : Below w.heap.size w V := by rw [hV]; exact below1 _ _
 have hEV : V.heap[E]? = some (.cells #[.int .i64 t, .int .i64 arr, .int .i64 work, .int .i64 done, .slice a n c] 66 (0, 0)) := by rw [hV, hE]; exact heap_alloc_new _ _
 have hES : ¬ S E := fun hs => by have := (pq_own H ts ss st x x.hi).lt h E hs; omega
 have hlV : Lies V 0 w.heap.size (.slice a n c) n 3 (ops.flatMap Wn.cells) := hl.keep (SameIn.of_below hbV (Nat.le_refl _))
 replace h := (pq_own H ts ss st x x.hi).later h hbV
 have HGV : Hid (GrowS S S w V) := Lib.hid (GrowS.of_below hbV)
 have HV := Lib.hid hV
 have HE := Lib.hid hE
 have r0 := cell_in (j := 0) hEV rfl
 have r1 := cell_in (j := 1) hEV rfl
 have q1 := free_in hEV 1
 obtain ⟨pl, A, c1, hP, hAS, hAH, hre⟩ := h.police
 obtain ⟨tb, pl', ao, cap, hbox, hSH⟩ := h.box
 have hHE : H ≠ E := fun e => hES (e ▸ hSH)
 have HH := Lib.hid h
 have HSH := Lib.hid hSH
 have HES := Lib.hid hES
 have HEV := Lib.hid hEV
 have K1 : Hid (∀ W : World, Below V.heap.size V W → W.cell? ⟨H, 1, none⟩ = some (.pointer (some ⟨pl, 0, none⟩)) ∧ W.cell? ⟨E, 0, none⟩ = some (.int .i64 t)) := Lib.hid (fun W hW => ⟨(World.cell?_of_block (hW.block H (lt_of_block hbox))).trans c1, (World.cell?_of_block (hW.block E (lt_of_block hEV))).trans r0⟩)
 have HM : Hid (∀ W : World, Below V.heap.size V W → Calls Tryz.prog 114 #[.pointer (some ⟨pl, 0, none⟩), .int .i64 t, .int .i64 now] W fun e w' => e = .returned (.int .i64 (errP ts x.la x.hi t now)) ∧ Below V.heap.size V w') := Lib.hid (fun W hW => (policeOk.may W pl A ts x.la x.hi t now ((policeOk.own _ _ _ _).later hP hW)).mono (by
  rintro e w' ⟨rfl, hb⟩
  exact ⟨rfl, hW.trans (hb.mono hW.size)⟩))
 have HAE : Hid (arrE ts x now t work done n = if errP ts x.la x.hi t now = 0 then errT ts x.hi x.js t now work done n else errP ts x.la x.hi t now) := Lib.hid (by unfold arrE; rw [if_pos hup])
 have HAX : Hid (arrX ts x now t work done ops = if arrE ts x now t work done n = 0 then ⟨takL ts x.la x.hi t now, x.hi, putT ts x.hi x.js t now work done ops, x.ds, x.up⟩ else x) := Lib.hid (by unfold arrX; rw [hn])
 have HLV := Lib.hid hlV
 have HN := Lib.hid hn
 obtain ⟨ep, hep⟩ : ∃ ep, ep = errP ts x.la x.hi t now := ⟨_, rfl⟩
 have HEP := Lib.hid hep
 rw [← hep] at HM HAE
 by_cases he : ep = 0
 ·have e1 : (ep == 0) = true := by simpa using he
  have e2 : (ep != 0) = false := by simp [he]
  subst he
  rw [if_pos rfl] at HAE
  obtain ⟨et, het⟩ : ∃ et, et = errT ts x.hi x.js t now work done n := ⟨_, rfl⟩
  have HET := Lib.hid het
  rw [← het] at HAE
  clear h hP hAS hAH hre hbox hV hE hEV hbV hES hSH hlV hl hn hep het c1 r0
  go_enter Tryz.func61, Tryz.ntmps61
  go_upto_region 1 with fail
  rw [← HV.out, ← HE.out]
  go_region_held3 (fun W => W.cell? ⟨H, 1, none⟩ = some (.pointer (some ⟨pl, 0, none⟩)) ∧ W.cell? ⟨E, 0, none⟩ = some (.int .i64 t))
   (first | exact K1.out _ (Below.refl _ _) | exact K1.out _ (Below.refl _ _).drew | exact K1.out _ b3.out | fail "no keep")
   (first
     | (go_at_call 114; refine (HM.out _ (Below.refl _ _).drew).mono ?_; rintro e w3 ⟨rfl, hb3⟩; have b3 := Lib.hid hb3; clear hb3)
     | fail "no arm")
  have hE3 := (b3.out.block E (lt_of_block HEV.out)).trans HEV.out
  have r31 := cell_in (j := 1) hE3 rfl
  have q31 := free_in hE3 1
  have HE3 := Lib.hid hE3
  clear hE3
  go_upto_region 5 with fail
  obtain ⟨U, hU⟩ : ∃ U, U = w3.setCell ⟨E, 1, none⟩ (.int .i64 now) := ⟨_, rfl⟩
  have hBU : But E w3 U := by rw [hU]; exact (But.refl E w3).set 1 _
  have hEU : U.heap[E]? = some (.cells #[.int .i64 t, .int .i64 now, .int .i64 work, .int .i64 done, .slice a n c] 66 (0, 0)) := by rw [hU, set_at HE3.out]; rfl
  have hH3 := (pq_own H ts ss st x x.hi).later HH.out b3.out
  have hHU : PgAt H ts ss st x U S := (pq_own H ts ss st x x.hi).keep hH3 (fun k hk => hBU.block k ((pq_own H ts ss st x x.hi).lt hH3 k hk) (fun e => HES.out (e ▸ hk))) hBU.size
  have GU : Hid (GrowS S S w U) := Lib.hid (growQ_new (HGV.out.trans (GrowS.of_below b3.out)) (Nat.le_of_eq HE.out.symm) hBU)
  have hlU : Lies U 0 U.heap.size (.slice a n c) n 3 (ops.flatMap Wn.cells) := by
   have h1 : SameIn V U 0 w.heap.size := fun k _ hk => (hBU.block k (by have := HGV.out.size; have := b3.out.size; omega) (by have := HE.out; omega)).trans (b3.out.block k (by have := HGV.out.size; omega))
   exact (HLV.out.keep h1).wider (Nat.le_refl _) GU.out.size
  have HEU := Lib.hid hEU
  have HHU := Lib.hid hHU
  obtain ⟨tb2, A2, d0, hT, _, _, hre2⟩ := hHU.table
  have hHlt := (pq_own H ts ss st x x.hi).lt hHU H HSH.out
  have K2 : Hid (∀ W : World, Below U.heap.size U W → W.cell? ⟨H, 0, none⟩ = some (.pointer (some ⟨tb2, 0, none⟩)) ∧ W.cell? ⟨E, 0, none⟩ = some (.int .i64 t) ∧ W.cell? ⟨E, 1, none⟩ = some (.int .i64 now) ∧ W.cell? ⟨E, 2, none⟩ = some (.int .i64 work) ∧ W.cell? ⟨E, 3, none⟩ = some (.int .i64 done) ∧ W.cell? ⟨E, 4, none⟩ = some (.slice a n c)) := Lib.hid (fun W hW => by
   have he := (hW.block E (lt_of_block HEU.out)).trans HEU.out
   exact ⟨(World.cell?_of_block (hW.block H hHlt)).trans d0, cell_in he rfl, cell_in he rfl, cell_in he rfl, cell_in he rfl, cell_in he rfl⟩)
  have HPU : Hid (∀ W : World, Below U.heap.size U W → Calls Tryz.prog 115 #[.pointer (some ⟨tb2, 0, none⟩), .agg #[.int .i64 t, .int .i64 now, .int .i64 work, .int .i64 done, .slice a n c]] W fun e w' => e = .returned (.int .i64 et) ∧ (w'.cell? ⟨H, 0, none⟩ = some (.pointer (some ⟨tb2, 0, none⟩)) ∧ w'.cell? ⟨E, 0, none⟩ = some (.int .i64 t) ∧ w'.cell? ⟨E, 1, none⟩ = some (.int .i64 now) ∧ w'.cell? ⟨E, 2, none⟩ = some (.int .i64 work) ∧ w'.cell? ⟨E, 3, none⟩ = some (.int .i64 done) ∧ w'.cell? ⟨E, 4, none⟩ = some (.slice a n c)) ∧ ∃ S', PgAt H ts ss st ⟨x.la, x.hi, putT ts x.hi x.js t now work done ops, x.ds, x.up⟩ w' S' ∧ GrowS S S' U w') := Lib.hid (fun W hW => by
   obtain ⟨tb3, A3, d3, hT3, hA3S, hA3H, hre3⟩ := ((pq_own H ts ss st x x.hi).later HHU.out hW).table
   have e3 : tb3 = tb2 := by
    have := (World.cell?_of_block (hW.block H hHlt)).trans d0
    rw [d3] at this
    cases this; rfl
   subst e3
   refine (tasksOk.put W tb3 A3 ts x.hi x.js t now work done a n c ops hT3 HN.out ((hlU.keep (SameIn.of_below hW (Nat.le_refl _))).wider (Nat.le_refl _) hW.size)).mono ?_
   rintro e w' ⟨S', rfl, q1, q2⟩
   rw [← HET.out]
   obtain ⟨S'', q3, q4⟩ := hre3 q1 q2
   have hWH := q2.block H (Nat.lt_of_lt_of_le hHlt hW.size) hA3H
   have hWE := q2.block E (Nat.lt_of_lt_of_le (lt_of_block HEU.out) hW.size) (fun hk => HES.out (hA3S E hk))
   obtain ⟨k0, k1, k2, k3, k4, k5⟩ := K2.out W hW
   exact ⟨rfl, ⟨(World.cell?_of_block hWH).trans k0, (World.cell?_of_block hWE).trans k1, (World.cell?_of_block hWE).trans k2, (World.cell?_of_block hWE).trans k3, (World.cell?_of_block hWE).trans k4, (World.cell?_of_block hWE).trans k5⟩, S'', q3, (GrowS.of_below hW).trans q4⟩)
  rw [← hU]
  clear hU hBU hEU hH3 hHU hlU hT hre2 d0 r31 q31 r1 q1
  go_region_held3 (fun W => W.cell? ⟨H, 0, none⟩ = some (.pointer (some ⟨tb2, 0, none⟩)) ∧ W.cell? ⟨E, 0, none⟩ = some (.int .i64 t) ∧ W.cell? ⟨E, 1, none⟩ = some (.int .i64 now) ∧ W.cell? ⟨E, 2, none⟩ = some (.int .i64 work) ∧ W.cell? ⟨E, 3, none⟩ = some (.int .i64 done) ∧ W.cell? ⟨E, 4, none⟩ = some (.slice a n c))
   (first | exact K2.out _ (Below.refl _ _) | exact K2.out _ (Below.refl _ _).drew | exact k5.out | fail "no keep")
   (first
     | (go_at_call 115; refine (HPU.out _ (Below.refl _ _).drew).mono ?_; rintro e w5 ⟨rfl, k5', S5, h5', g5'⟩; have k5 := Lib.hid k5'; have h5 := Lib.hid h5'; have g5 := Lib.hid g5'; clear k5' h5' g5')
     | fail "no arm")
  by_cases hz : et = 0
  ·have z1 : (et == 0) = true := by simpa using hz
   have z2 : (et != 0) = false := by simp [hz]
   subst hz
   obtain ⟨pl5, A5, d5, hP5, hA5S, hA5H, hre5⟩ := h5.out.police
   have hH5 : H < w5.heap.size := by have := g5.out.size; omega
   have hE5 : E < w5.heap.size := by have := g5.out.size; have := lt_of_block HEU.out; omega
   have hA5E : ¬ A5 E := fun hk => (g5.out.not (lt_of_block HEU.out) HES.out) (hA5S E hk)
   have y1 := k5.out.2.1
   have K5 : Hid (∀ W : World, Below w5.heap.size w5 W → W.cell? ⟨H, 1, none⟩ = some (.pointer (some ⟨pl5, 0, none⟩)) ∧ W.cell? ⟨E, 0, none⟩ = some (.int .i64 t)) := Lib.hid (fun W hW => ⟨(World.cell?_of_block (hW.block H hH5)).trans d5, (World.cell?_of_block (hW.block E hE5)).trans y1⟩)
   have HTK : Hid (∀ W : World, Below w5.heap.size w5 W → Calls Tryz.prog 116 #[.pointer (some ⟨pl5, 0, none⟩), .int .i64 t, .int .i64 now] W fun e w' => e = .returned (.int .i64 0) ∧ (w'.cell? ⟨H, 1, none⟩ = some (.pointer (some ⟨pl5, 0, none⟩)) ∧ w'.cell? ⟨E, 0, none⟩ = some (.int .i64 t)) ∧ ∃ S', PgAt H ts ss st ⟨takL ts x.la x.hi t now, x.hi, putT ts x.hi x.js t now work done ops, x.ds, x.up⟩ w' S' ∧ GrowS S5 S' w5 w') := Lib.hid (fun W hW => by
    obtain ⟨pl6, A6, d6, hP6, hA6S, hA6H, hre6⟩ := ((pq_own H ts ss st _ _).later h5.out hW).police
    have e3 : pl6 = pl5 := by
     have := (World.cell?_of_block (hW.block H hH5)).trans d5
     rw [d6] at this
     cases this; rfl
    subst e3
    refine (policeOk.take W pl6 A6 ts x.la x.hi t now hP6).mono ?_
    rintro e w' ⟨S', rfl, q1, q2⟩
    rw [← HEP.out]
    obtain ⟨S'', q3, q4⟩ := hre6 q1 q2
    have hWH := q2.block H (Nat.lt_of_lt_of_le hH5 hW.size) hA6H
    have hWE := q2.block E (Nat.lt_of_lt_of_le hE5 hW.size) (fun hk => (g5.out.not (lt_of_block HEU.out) HES.out) (hA6S E hk))
    obtain ⟨k0, k1⟩ := K5.out W hW
    exact ⟨rfl, ⟨(World.cell?_of_block hWH).trans k0, (World.cell?_of_block hWE).trans k1⟩, S'', q3, (GrowS.of_below hW).trans q4⟩)
   clear hP5 hre5 d5 y1
   go_upto_region 8 with fail
   go_region_held3 (fun W => W.cell? ⟨H, 1, none⟩ = some (.pointer (some ⟨pl5, 0, none⟩)) ∧ W.cell? ⟨E, 0, none⟩ = some (.int .i64 t))
    (first | exact K5.out _ (Below.refl _ _) | exact K5.out _ (Below.refl _ _).drew | exact k7.out | fail "no keep")
    (first
      | (go_at_call 116; refine (HTK.out _ (Below.refl _ _).drew).mono ?_; rintro e w7 ⟨rfl, k7', S7, h7', g7'⟩; have k7 := Lib.hid k7'; have h7 := Lib.hid h7'; have g7 := Lib.hid g7'; clear k7' h7' g7')
      | fail "no arm")
   go_wp2_with fail
   go_ret
   rw [HAX.out, HAE.out, if_pos rfl]
   first | exact ⟨S7, rfl, h7.out, GU.out.trans (g5.out.trans g7.out)⟩ | exact ⟨rfl, S7, h7.out, GU.out.trans (g5.out.trans g7.out)⟩
  ·have z1 : (et == 0) = false := by simpa using hz
   have z2 : (et != 0) = true := by simp [hz]
   have HZ := Lib.hid hz
   have HJ : Hid (putT ts x.hi x.js t now work done ops = x.js) := Lib.hid (put_no (by rw [HN.out, ← HET.out]; exact hz))
   clear hz
   go_wp2_with fail
   go_ret
   rw [HAX.out, HAE.out, if_neg HZ.out]
   have hh := h5.out
   rw [HJ.out] at hh
   first | exact ⟨S5, rfl, hh, GU.out.trans g5.out⟩ | exact ⟨rfl, S5, hh, GU.out.trans g5.out⟩
 ·have e1 : (ep == 0) = false := by simpa using he
  have e2 : (ep != 0) = true := by simp [he]
  rw [if_neg he] at HAE
  have HZ := Lib.hid he
  clear h hP hAS hAH hre hbox hV hE hEV hbV hES hSH hlV hl hn hep c1 r0 he
  go_enter Tryz.func61, Tryz.ntmps61
  go_upto_region 1 with fail
  rw [← HV.out, ← HE.out]
  go_region_held3 (fun W => W.cell? ⟨H, 1, none⟩ = some (.pointer (some ⟨pl, 0, none⟩)) ∧ W.cell? ⟨E, 0, none⟩ = some (.int .i64 t))
   (first | exact K1.out _ (Below.refl _ _) | exact K1.out _ (Below.refl _ _).drew | exact K1.out _ b3.out | fail "no keep")
   (first
     | (go_at_call 114; refine (HM.out _ (Below.refl _ _).drew).mono ?_; rintro e w3 ⟨rfl, hb3⟩; have b3 := Lib.hid hb3; clear hb3)
     | fail "no arm")
  go_wp2_with fail
  go_ret
  rw [HAX.out, HAE.out, if_neg HZ.out]
  have hh := (pq_own H ts ss st x x.hi).later HH.out b3.out
  have gg := HGV.out.trans (GrowS.of_below (S := S) b3.out)
  first | exact ⟨S, rfl, hh, gg⟩ | exact ⟨rfl, S, hh, gg⟩
set_option maxRecDepth 100000 in
set_option maxHeartbeats 8000000 in
theorem parrive_any (w : World) (H : Nat) (S : Nat → Prop) (ts : List Tk) (ss : List Sv) (st : Int) (x : Px) (h : PgAt H ts ss st x w S) (now t arr work done : Int) (a : Option Addr) (n c : Nat) (ops : List Wn) (hn : ops.length = n) (hl : Lies w 0 w.heap.size (.slice a n c) n 3 (ops.flatMap Wn.cells)) :
 Calls Tryz.prog 19 #[.pointer (some ⟨H, 0, none⟩), .int .i64 now, .agg #[.int .i64 t, .int .i64 arr, .int .i64 work, .int .i64 done, .slice a n c]] w fun e w' => ∃ S', e = .returned (.int .i64 (arrE ts x now t work done n)) ∧ PgAt H ts ss st (arrX ts x now t work done ops) w' S' ∧ GrowS S S' w w' := by
 obtain ⟨E, hE⟩ : ∃ E, E = w.heap.size := ⟨_, rfl⟩
 obtain ⟨V, hV⟩ : ∃ V, V = w.alloc (.cells #[.int .i64 t, .int .i64 arr, .int .i64 work, .int .i64 done, .slice a n c] 66) := ⟨_, rfl⟩
 have hbV : Below w.heap.size w V := by rw [hV]; exact below1 _ _
 have hEV : V.heap[E]? = some (.cells #[.int .i64 t, .int .i64 arr, .int .i64 work, .int .i64 done, .slice a n c] 66 (0, 0)) := by rw [hV, hE]; exact heap_alloc_new _ _
 have hlV : Lies V 0 V.heap.size (.slice a n c) n 3 (ops.flatMap Wn.cells) := (hl.keep (SameIn.of_below hbV (Nat.le_refl _))).wider (Nat.le_refl _) hbV.size
 have hES0 : ¬ S E := fun hs => by have := (pq_own H ts ss st x x.hi).lt h E hs; omega
 replace h := (pq_own H ts ss st x x.hi).later h hbV
 have HGV : Hid (GrowS S S w V) := Lib.hid (GrowS.of_below hbV)
 have HV := Lib.hid hV
 have HE := Lib.hid hE
 have HP := Lib.hid (popen_any V H S ts ss st x h)
 have HH := Lib.hid h
 cases hup : x.up with
 | false =>
   have HAE : Hid (arrE ts x now t work done n = 41) := Lib.hid (by unfold arrE; rw [hup]; rfl)
   have HAX : Hid (arrX ts x now t work done ops = x) := Lib.hid (by unfold arrX arrE; rw [hup]; rfl)
   rw [hup] at HP
   clear h hV hE hEV hbV hlV hl hn
   go_enter Tryz.func19, Tryz.ntmps19
   go_upto_region 1 with fail
   rw [← HV.out, ← HE.out]
   go_wp2_with (first
    | (go_at_call 60; refine HP.out.mono ?_; rintro e w3 ⟨rfl, hw3⟩; rw [hw3, if_neg (by simp)]; clear hw3)
    | fail "no arm")
   go_ret
   rw [HAX.out, HAE.out]
   first | exact ⟨S, rfl, HH.out, HGV.out⟩ | exact ⟨rfl, S, HH.out, HGV.out⟩
 | true =>
   rw [hup] at HP
   have hEl := lt_of_block hEV
   have r0 := cell_in (j := 0) hEV rfl
   have r1 := cell_in (j := 1) hEV rfl
   have r2 := cell_in (j := 2) hEV rfl
   have r3 := cell_in (j := 3) hEV rfl
   have r4 := cell_in (j := 4) hEV rfl
   have K : Hid (∀ W : World, W.heap[E]? = V.heap[E]? → W.cell? ⟨E, 0, none⟩ = some (.int .i64 t) ∧ W.cell? ⟨E, 1, none⟩ = some (.int .i64 arr) ∧ W.cell? ⟨E, 2, none⟩ = some (.int .i64 work) ∧ W.cell? ⟨E, 3, none⟩ = some (.int .i64 done) ∧ W.cell? ⟨E, 4, none⟩ = some (.slice a n c)) := Lib.hid (fun W hW => ⟨(World.cell?_of_block hW).trans r0, (World.cell?_of_block hW).trans r1, (World.cell?_of_block hW).trans r2, (World.cell?_of_block hW).trans r3, (World.cell?_of_block hW).trans r4⟩)
   have hES := hES0
   have HB : Hid (∀ W : World, Below V.heap.size V W → Calls Tryz.prog 61 #[.pointer (some ⟨H, 0, none⟩), .int .i64 now, .agg #[.int .i64 t, .int .i64 arr, .int .i64 work, .int .i64 done, .slice a n c]] W fun e w' => e = .returned (.int .i64 (arrE ts x now t work done n)) ∧ w'.heap[E]? = V.heap[E]? ∧ ∃ S', PgAt H ts ss st (arrX ts x now t work done ops) w' S' ∧ GrowS S S' w w') := Lib.hid (fun W hW => (barrive_any W H S ts ss st x ((pq_own H ts ss st x x.hi).later h hW) hup now t arr work done a n c ops hn ((hlV.keep (SameIn.of_below hW (Nat.le_refl _))).wider (Nat.le_refl _) hW.size)).mono (by
    rintro e w' ⟨S', rfl, q1, q2⟩
    exact ⟨rfl, (q2.block E (Nat.lt_of_lt_of_le hEl hW.size) hES).trans (hW.block E hEl), S', q1, (HGV.out.trans (GrowS.of_below hW)).trans q2⟩))
   clear h hV hE hEV hbV hlV hl hn hES r0 r1 r2 r3 r4
   go_enter Tryz.func19, Tryz.ntmps19
   go_upto_region 1 with fail
   rw [← HV.out, ← HE.out]
   go_wp2_with (first
    | (go_at_call 60; refine HP.out.mono ?_; rintro e w3 ⟨rfl, hw3⟩; rw [hw3, if_pos rfl]; clear hw3)
    | fail "no arm")
   go_region_held3 (fun W => W.cell? ⟨E, 0, none⟩ = some (.int .i64 t) ∧ W.cell? ⟨E, 1, none⟩ = some (.int .i64 arr) ∧ W.cell? ⟨E, 2, none⟩ = some (.int .i64 work) ∧ W.cell? ⟨E, 3, none⟩ = some (.int .i64 done) ∧ W.cell? ⟨E, 4, none⟩ = some (.slice a n c))
    (first | exact K.out _ (by rfl) | exact K.out _ k5.out | fail "no keep")
    (first
      | (go_at_call 61; refine (HB.out _ (Below.refl _ _).drew).mono ?_; rintro e w5 ⟨rfl, k5', S5, h5', g5'⟩; have k5 := Lib.hid k5'; have h5 := Lib.hid h5'; have g5 := Lib.hid g5'; clear k5' h5' g5')
      | fail "no arm")
   go_wp2_with fail
   go_ret
   first | exact ⟨S5, rfl, h5.out, g5.out⟩ | exact ⟨rfl, S5, h5.out, g5.out⟩
set_option maxRecDepth 100000 in
set_option maxHeartbeats 8000000 in
theorem prequest_any (w : World) (H : Nat) (S : Nat → Prop) (ts : List Tk) (ss : List Sv) (st : Int) (x : Px) (h : PgAt H ts ss st x w S) (hok : DsOk ss.length x.ds) (s work : Int) (hlow : DsLow ss.length 1099511627776 x.ds) :
 Calls Tryz.prog 22 #[.pointer (some ⟨H, 0, none⟩), .int .i64 s, .int .i64 work] w fun e w' => ∃ S', e = .returned (.int .i64 (reqE ss x s work)) ∧ PgAt H ts ss st (reqX ss x s work) w' S' ∧ GrowS S S' w w' := by
 have HP := Lib.hid (popen_any w H S ts ss st x h)
 have HH := Lib.hid h
 have HS := Lib.hid (phas_any w H S ts ss st x h s)
 cases hup : x.up with
 | false =>
   have HAE : Hid (reqE ss x s work = 41) := Lib.hid (by unfold reqE; rw [hup]; rfl)
   have HAX : Hid (reqX ss x s work = x) := Lib.hid (by unfold reqX reqE; rw [hup]; rfl)
   rw [hup] at HP
   clear h
   go_enter Tryz.func22, Tryz.ntmps22
   go_wp2_with (first
    | (go_at_call 60; refine HP.out.mono ?_; rintro e w3 ⟨rfl, hw3⟩; rw [hw3, if_neg (by simp)]; clear hw3)
    | fail "no arm")
   go_ret
   rw [HAX.out, HAE.out]
   first | exact ⟨S, rfl, HH.out, GrowS.of_below (Below.refl _ _)⟩ | exact ⟨rfl, S, HH.out, GrowS.of_below (Below.refl _ _)⟩
 | true =>
   rw [hup] at HP
   have hno : (hasS ss.length s && workOk work) = false → reqE ss x s work = 1 ∧ reqX ss x s work = x := fun e => by
    have e1 : reqE ss x s work = 1 := by unfold reqE; rw [hup, e]; rfl
    exact ⟨e1, by unfold reqX; rw [e1]; rfl⟩
   cases hs : hasS ss.length s with
   | false =>
     rw [hs] at HS
     have HN := Lib.hid (hno (by rw [hs]; rfl))
     clear h hs hno
     go_enter Tryz.func22, Tryz.ntmps22
     go_wp2_with (first
      | (go_at_call 65; refine HS.out.mono ?_; rintro e w3 ⟨rfl, hw3⟩; rw [hw3]; clear hw3)
      | (go_at_call 60; refine HP.out.mono ?_; rintro e w3 ⟨rfl, hw3⟩; rw [hw3, if_pos rfl]; clear hw3)
      | fail "no arm")
     go_ret
     rw [HN.out.1, HN.out.2]
     first | exact ⟨S, rfl, HH.out, GrowS.of_below (Below.refl _ _)⟩ | exact ⟨rfl, S, HH.out, GrowS.of_below (Below.refl _ _)⟩
   | true =>
     rw [hs] at HS
     obtain ⟨k, rfl, hk⟩ := hasS_nat hs
     by_cases h1 : work < 1
     ·have t1 : decide (work < 1) = true := decide_eq_true h1
      have HN := Lib.hid (hno (by unfold workOk; rw [decide_eq_false (show ¬ 1 ≤ work by omega)]; simp))
      clear h hs hno
      go_enter Tryz.func22, Tryz.ntmps22
      go_wp2_with (first
       | (go_at_call 65; refine HS.out.mono ?_; rintro e w3 ⟨rfl, hw3⟩; rw [hw3]; clear hw3)
       | (go_at_call 60; refine HP.out.mono ?_; rintro e w3 ⟨rfl, hw3⟩; rw [hw3, if_pos rfl]; clear hw3)
       | fail "no arm")
      go_ret
      rw [HN.out.1, HN.out.2]
      first | exact ⟨S, rfl, HH.out, GrowS.of_below (Below.refl _ _)⟩ | exact ⟨rfl, S, HH.out, GrowS.of_below (Below.refl _ _)⟩
     ·have t1 : decide (work < 1) = false := decide_eq_false h1
      by_cases h2 : 1048576 < work
      ·have t2 : decide (1048576 < work) = true := decide_eq_true h2
       have HN := Lib.hid (hno (by unfold workOk; rw [decide_eq_false (show ¬ work ≤ 1048576 by omega)]; simp))
       clear h hs hno
       go_enter Tryz.func22, Tryz.ntmps22
       go_wp2_with (first
        | (go_at_call 65; refine HS.out.mono ?_; rintro e w3 ⟨rfl, hw3⟩; rw [hw3]; clear hw3)
        | (go_at_call 60; refine HP.out.mono ?_; rintro e w3 ⟨rfl, hw3⟩; rw [hw3, if_pos rfl]; clear hw3)
        | fail "no arm")
       go_ret
       rw [HN.out.1, HN.out.2]
       first | exact ⟨S, rfl, HH.out, GrowS.of_below (Below.refl _ _)⟩ | exact ⟨rfl, S, HH.out, GrowS.of_below (Below.refl _ _)⟩
      ·have t2 : decide (1048576 < work) = false := decide_eq_false h2
       have hw : workOk work = true := by unfold workOk; rw [decide_eq_true (show 1 ≤ work by omega), decide_eq_true (show work ≤ 1048576 by omega)]; rfl
       have hRE : reqE ss x k work = if (x.ds k).room = true then 0 else 5 := by unfold reqE; rw [hup, hs, hw]; rfl
       have hRX : reqX ss x k work = if (x.ds k).room = true then ⟨x.la, x.hi, x.js, updD x.ds k ((x.ds k).take work), x.up⟩ else x := by
        unfold reqX
        rw [hRE]
        cases (x.ds k).room <;> simp
       obtain ⟨G, B, R, A, cap, c2, hc, hd, hAG, hAH, hre, hre0⟩ := h.take hk
       have HT := Lib.hid (dsktake_any w G (k * 3) B R (svAt ss k) st work (x.ds k) A hd hc hAG (hok k hk))
       have HRE := Lib.hid hRE
       have HRX := Lib.hid hRX
       have HFIN : Hid (∀ w' : World, TookAt B R (svAt ss k) st work (x.ds k) G (k * 3) A w w' → ∃ S', PgAt H ts ss st (reqX ss x k work) w' S' ∧ GrowS S S' w w') := Lib.hid (fun w' hw' => by
        obtain ⟨S', w1, q1, q2, q3, q4⟩ := hw'
        rw [hRX]
        cases hr : (x.ds k).room with
        | true =>
          rw [if_pos rfl, q3 hr]
          exact hre (by unfold Dk.take; rw [hr]; rfl) q1 q2
        | false =>
          have e : (x.ds k).take work = x.ds k := by unfold Dk.take; rw [hr]; rfl
          rw [if_neg (by simp), q4 hr]
          rw [e] at q1
          obtain ⟨S'', q5, q6⟩ := hre0 (d' := x.ds k) rfl rfl q1 q2
          have e3 : updD x.ds k (x.ds k) = x.ds := by funext j; unfold updD; split <;> simp_all
          rw [e3] at q5
          exact ⟨S'', q5, q6⟩)
       obtain ⟨rm, hrm⟩ : ∃ rm, rm = (x.ds k).room := ⟨_, rfl⟩
       rw [← hrm] at HT HRE
       obtain ⟨n, hn⟩ : ∃ n, n = ss.length := ⟨_, rfl⟩
       rw [← hn] at c2 hk
       have l0 : (0 : Int) ≤ (k : Int) := by omega
       have l1 : (k : Int) < (n : Int) := by omega
       clear h hs hno hc hd hAG hAH hre hre0 hRE hRX hrm hn hw hok hlow
       cases rm with
       | true =>
         rw [if_pos rfl] at HRE
         go_enter Tryz.func22, Tryz.ntmps22
         go_wp2_with (first
          | (go_at_call 66; refine HT.out.mono ?_; rintro e w5 ⟨rfl, h5'⟩; have h5 := Lib.hid h5'; clear h5')
          | (go_at_call 65; refine HS.out.mono ?_; rintro e w3 ⟨rfl, hw3⟩; rw [hw3]; clear hw3)
          | (go_at_call 60; refine HP.out.mono ?_; rintro e w3 ⟨rfl, hw3⟩; rw [hw3, if_pos rfl]; clear hw3)
          | fail "no arm")
         go_ret
         obtain ⟨S', q1, q2⟩ := HFIN.out _ h5.out
         rw [HRE.out]
         first | exact ⟨S', rfl, q1, q2⟩ | exact ⟨rfl, S', q1, q2⟩
       | false =>
         rw [if_neg (by simp)] at HRE
         go_enter Tryz.func22, Tryz.ntmps22
         go_wp2_with (first
          | (go_at_call 66; refine HT.out.mono ?_; rintro e w5 ⟨rfl, h5'⟩; have h5 := Lib.hid h5'; clear h5')
          | (go_at_call 65; refine HS.out.mono ?_; rintro e w3 ⟨rfl, hw3⟩; rw [hw3]; clear hw3)
          | (go_at_call 60; refine HP.out.mono ?_; rintro e w3 ⟨rfl, hw3⟩; rw [hw3, if_pos rfl]; clear hw3)
          | fail "no arm")
         go_ret
         obtain ⟨S', q1, q2⟩ := HFIN.out _ h5.out
         rw [HRE.out]
         first | exact ⟨S', rfl, q1, q2⟩ | exact ⟨rfl, S', q1, q2⟩
end Go.Proofs.YtchbehnkkcjdgaaGreat
namespace Go.Proofs.YtchbehnkkcjdgaaGreat
open Go.ChangeShapes Go.WideShapes Go.ChangeAt Go.RowKit
set_option linter.unusedVariables false
set_option linter.unusedSimpArgs false
theorem Tryz.infoEv20 : (Tryz.prog.info? 96).map (fun i => (i.zero, i.size, i.bytes)) = some (some (.agg #[.int .i64 0, .int .i64 0, .int .i64 0]), 3, 24) := by kernel_rfl
theorem evK_len (k : Int) (l : List Int) : (evK k l).length = l.length := by simp [evK]
theorem evK_take {k : Int} {l : List Int} {i : Nat} (h : i < l.length) : (evK k (l.take (i + 1))).flatMap Wn.cells = (evK k (l.take i)).flatMap Wn.cells ++ [.int .i64 k, .int .i64 (l.getD i 0), .int .i64 0] := by
 rw [List.take_add_one, List.getElem?_eq_getElem h]
 unfold evK
 rw [List.map_append, List.flatMap_append]
 simp [Wn.cells, List.getD_eq_getElem?_getD, h]
/-- A row of events, the function's own. -/
def EvRow (B : Nat) (l : List Wn) (v : Value) (w : World) : Prop := ∃ ao cap, v = .slice ao l.length cap ∧ w.ownsRow B 96 3 (.slice ao l.length cap) l.length (l.flatMap Wn.cells)
set_option maxRecDepth 100000 in
set_option maxHeartbeats 8000000 in
theorem events_any (w : World) (kind : Int) (a : Option Addr) (n c : Nat) (l : List Int) (hn : l.length = n) (hs : n ≤ 1000) (hl : Lies w 0 w.heap.size (.slice a n c) n 1 (l.flatMap intCells)) :
 Calls Tryz.prog 46 #[.int .i64 kind, .slice a n c] w fun e w' => ∃ v, e = .returned v ∧ EvRow w.heap.size (evK kind l) v w' ∧ Below w.heap.size w w' := by
 obtain ⟨i0, hi, hz0, hz1, hz2⟩ := info_parts Tryz.infoEv20
 have HI := Lib.hid hi
 have HN := Lib.hid hn
 have HC : Hid (∀ W : World, Below w.heap.size w W → ∀ k, k < n → ∃ g off, a = some ⟨g, off, none⟩ ∧ W.cell? ⟨g, off + k, none⟩ = some (.int .i64 (l.getD k 0)) ∧ g < w.heap.size) := Lib.hid (fun W hW k hk => by
  obtain ⟨a', c', e, _, _, hc⟩ := hl.keep (SameIn.of_below hW (Nat.le_refl _))
  cases e
  rcases hc with h0 | ⟨g, off, rfl, _, hg, hc⟩
  ·omega
  ·have hx : l[k]? = some (l.getD k 0) := by rw [List.getD_eq_getElem?_getD, List.getElem?_eq_getElem (by omega)]; rfl
   have := hc _ _ (flat_at intCells 1 (fun _ => rfl) l k 0 _ hx (by omega))
   exact ⟨g, off, rfl, by simpa using this, hg⟩)
 clear hl hn hi
 go_enter Tryz.func46, Tryz.ntmps46
 go_wp2_with fail
 go_loopw [5, 10] (fun s5 s10 wr => ∃ (k : Nat) (ao : Option Addr) (cap : Nat), k ≤ n ∧ s5 = .slice ao k cap ∧ s10 = .int .i64 k ∧ Hid (wr.ownsRow w.heap.size 96 3 (.slice ao k cap) k ((evK kind (l.take k)).flatMap Wn.cells)) ∧ Hid (Below w.heap.size w wr)) (fun _ s _ => n - (intOf s).toNat)
 case atStart => exact ⟨0, none, 0, Nat.zero_le _, rfl, rfl, Lib.hid ⟨rfl, .inl ⟨rfl, rfl⟩⟩, Lib.hid (Below.refl _ _)⟩
 case round =>
  obtain ⟨k, ao, cap, hk, rfl, rfl, HO, HB⟩ := hrel
  by_cases hlt : k < n
  ·have d0 : decide ((k : Int) < (n : Int)) = true := decide_eq_true (by omega)
   have d1 : (0 : Int) ≤ (k : Int) := by omega
   have d2 : (k : Int) < (n : Int) := by omega
   obtain ⟨g, off, rfl, b0, hg⟩ := HC.out wr HB.out k hlt
   have HTK := Lib.hid (evK_take (k := kind) (l := l) (i := k) (by have := HN.out; omega))
   obtain ⟨y, hy⟩ : ∃ y, y = l.getD k 0 := ⟨_, rfl⟩
   rw [← hy] at b0 HTK
   obtain ⟨xs, hxs⟩ : ∃ xs, xs = (evK kind (l.take k)).flatMap Wn.cells := ⟨_, rfl⟩
   rw [← hxs] at HO
   have HXS := Lib.hid hxs
   have HVB : Hid (Below wr.heap.size wr (wr.alloc (.cells #[.int .i64 kind, .int .i64 y, .int .i64 0] 96))) := Lib.hid (below1 _ _)
   have HV : Hid ((wr.alloc (.cells #[.int .i64 kind, .int .i64 y, .int .i64 0] 96)).ownsRow w.heap.size 96 3 (.slice ao k cap) k xs ∧ Lies (wr.alloc (.cells #[.int .i64 kind, .int .i64 y, .int .i64 0] 96)) wr.heap.size (wr.heap.size + 1) (.slice (some ⟨wr.heap.size, 0, none⟩) 1 1) 1 3 [.int .i64 kind, .int .i64 y, .int .i64 0]) := Lib.hid ⟨owns_later HO.out (below1 _ _), one_lies (cs := #[.int .i64 kind, .int .i64 y, .int .i64 0]) (heap_alloc_new wr _) rfl⟩
   clear hg hy hxs
   go_wp2_with (first
    | (refine wpList_append_lie2 (by rfl) (.tmp 14) (.tmp 18) 47 (by rfl) w.heap.size 96 i0 _ 3 24 Tryz.underlying47 HI.out hz0 hz1 hz2 rfl (by omega) (.slice ao k cap) k xs (by rfl) HV.out.1 (.slice (some ⟨wr.heap.size, 0, none⟩) 1 1) wr.heap.size (wr.heap.size + 1) 1 [.int .i64 kind, .int .i64 y, .int .i64 0] (by rfl) HV.out.2 (wn_one ⟨kind, y, 0⟩) (k + 1) rfl (by simp only [maxLen]; omega) (by omega) (by have := HB.out.size; simp; omega) ?_
       intro ao2 cap2 w6 hown6' hgrow6' hob6'
       have hown6 := Lib.hid hown6'
       have hb6 : Hid (Below w.heap.size w w6) := Lib.hid ((HB.out.trans (HVB.out.mono HB.out.size)).grown hgrow6' (by have := HVB.out.size; have := HB.out.size; omega) (fun q hq => (owns_block HV.out.1 q hq).1))
       clear hown6' hgrow6' hob6')
    | fail "no arm")
   go_roundw
   case rel => exact ⟨k + 1, ao2, cap2, by omega, rfl, by go_num, Lib.hid (by
    have h6 := hown6.out
    rw [HXS.out] at h6
    rw [HTK.out]
    exact h6), hb6⟩
   case measure => simp [intOf]; omega
  ·have d0 : decide ((k : Int) < (n : Int)) = false := decide_eq_false (by omega)
   have hkn : k = n := by omega
   subst hkn
   have HF : Hid (EvRow w.heap.size (evK kind l) (.slice ao k cap) wr) := Lib.hid (by
    have h6 := HO.out
    rw [List.take_of_length_le (by have := HN.out; omega)] at h6
    have e : (evK kind l).length = k := by rw [evK_len]; exact HN.out
    exact ⟨ao, cap, by rw [e], by rw [e]; exact h6⟩)
   go_wp2_with fail
   go_ret
   exact ⟨_, rfl, HF.out, HB.out⟩
set_option maxRecDepth 100000 in
set_option maxHeartbeats 8000000 in
theorem growEv_any (w : World) (n : Nat) (hn : n ≤ 100000) :
 Calls Tryz.prog 101 #[.slice none 0 0, .int .i64 n] w fun e w' => ∃ v, e = .returned v ∧ EvRow w.heap.size [] v w' ∧ Below w.heap.size w w' := by
 obtain ⟨i0, hi, hz0, hz1, hz2⟩ := info_parts Tryz.infoEv20
 have t0 : decide ((n : Int) < 0) = false := decide_eq_false (by omega)
 have e1 : IntKind.i64.wrap ((n : Int) - 0) = (n : Int) := (IntWalk.i64_in _ (by omega)).trans (by omega)
 have e2 : IntKind.i64.wrap (n : Int) = (n : Int) := IntWalk.i64_in _ (by omega)
 have e3 : IntKind.i64.wrap (0 - 0) = 0 := by decide
 have e4 : IntKind.i64.wrap 0 = 0 := by decide
 rcases Nat.eq_zero_or_pos n with h0 | h0
 ·have t1 : decide (0 < (n : Int)) = false := decide_eq_false (by omega)
  clear hi hz0 hz1 hz2
  subst h0
  go_enter Tryz.func101, Tryz.ntmps101
  go_wp2_with fail
  go_ret
  exact ⟨_, rfl, ⟨none, 0, rfl, rfl, .inl ⟨rfl, rfl⟩⟩, Below.refl _ _⟩
 ·have t1 : decide (0 < (n : Int)) = true := decide_eq_true (by omega)
  have hge := grownCap_ge w n 0 96
  have hle := grownCap_le_maxLen w n 0 96 (by simp only [maxLen]; omega)
  obtain ⟨cap, hcap⟩ : ∃ cap, cap = grownCap w n 0 96 := ⟨_, rfl⟩
  have hrun := Lib.run_append_nil_zeros (P := Tryz.prog) w 47 3 47 96 i0 _ .i64 .i64 Tryz.underlying47 Tryz.underlying3 hi hz0 n h0 (by rw [hz1]; omega) (by omega) (by rw [hz2]; omega)
  rw [← hcap] at hge hle hrun
  obtain ⟨V, hV⟩ : ∃ V, V = w.drew.alloc (.cells (Builtin.zeroCells (Value.agg #[.int .i64 0, .int .i64 0, .int .i64 0]).cells n ++ Builtin.zeroCells (Value.agg #[.int .i64 0, .int .i64 0, .int .i64 0]).cells (cap - n)) 96) := ⟨_, rfl⟩
  have hbV : Below w.heap.size w V := by rw [hV]; exact b_alloc (Below.refl _ _).drew (Nat.le_refl _) _
  have hVH : V.heap[w.heap.size]? = some (.cells (Builtin.zeroCells (Value.agg #[.int .i64 0, .int .i64 0, .int .i64 0]).cells n ++ Builtin.zeroCells (Value.agg #[.int .i64 0, .int .i64 0, .int .i64 0]).cells (cap - n)) 96 (0, 0)) := by rw [hV]; exact heap_alloc_new _ _
  rw [← hV] at hrun
  have HR := Lib.hid hrun
  have HF : Hid (EvRow w.heap.size [] (.slice (some ⟨w.heap.size, 0, none⟩) 0 cap) V) := Lib.hid ⟨some ⟨w.heap.size, 0, none⟩, cap, rfl, rfl, .inr ⟨w.heap.size, cap, _, rfl, Nat.le_refl _, hVH, Nat.zero_le _, hle, by rw [Array.size_append, size_zeroCells, size_zeroCells]; show n * 3 + (cap - n) * 3 = cap * 3; omega, rfl⟩⟩
  have HB := Lib.hid hbV
  have l1 : (0 : Int) ≤ (cap : Int) := by omega
  clear hrun hV hVH hbV hcap hle hi hz0 hz1 hz2
  go_enter Tryz.func101, Tryz.ntmps101
  go_wp2_with (first
   | (refine Lib.wpList_append_run _ (by rfl) (.tmp 20) (.tmp 21) 47 3 (by rfl) (.slice none 0 0) (.int .i64 n) (by rfl) (by rfl) _ _ HR.out ?_)
   | fail "no arm")
  go_ret
  exact ⟨_, rfl, HF.out, HB.out⟩
theorem EvRow.later {B : Nat} {l : List Wn} {v : Value} {w w' : World} (h : EvRow B l v w) (hb : Below w.heap.size w w') : EvRow B l v w' := by
 obtain ⟨ao, cap, e, h⟩ := h
 exact ⟨ao, cap, e, owns_later h hb⟩
theorem EvRow.lies {B : Nat} {l : List Wn} {v : Value} {w : World} (h : EvRow B l v w) : ∃ ao cap, v = .slice ao l.length cap ∧ Lies w B w.heap.size (.slice ao l.length cap) l.length 3 (l.flatMap Wn.cells) := by
 obtain ⟨ao, cap, e, h⟩ := h
 exact ⟨ao, cap, e, Lies.of_owns h⟩
/-- Where it stays. -/
theorem EvRow.hold {B : Nat} {l : List Wn} {v : Value} {w w' : World} (h : EvRow B l v w) (hz : w.heap.size ≤ w'.heap.size) (hs : ∀ k, B ≤ k → k < w.heap.size → w'.heap[k]? = w.heap[k]?) : EvRow B l v w' := by
 obtain ⟨ao, cap, e, h⟩ := h
 exact ⟨ao, cap, e, owns_hold h ⟨hz, fun g hg => hs g (owns_own h g hg).1 (owns_own h g hg).2⟩⟩
set_option maxRecDepth 100000 in
set_option maxHeartbeats 8000000 in
theorem concat_any (w : World) (B : Nat) (l1 l2 : List Wn) (v1 v2 : Value) (G : Nat) (h1 : EvRow B l1 v1 w) (h2 : EvRow B l2 v2 w) (hl1 : l1.length ≤ 1000) (hl2 : l2.length ≤ 1000) (hG : w.heap[G]? = some (.cells #[v1, v2] 47 (0, 0))) :
 Calls Tryz.prog 50 #[.slice (some ⟨G, 0, none⟩) 2 2] w fun e w' => ∃ v, e = .returned v ∧ EvRow w.heap.size (l1 ++ l2) v w' ∧ Below w.heap.size w w' := by
 obtain ⟨i0, hi, hz0, hz1, hz2⟩ := info_parts Tryz.infoEv20
 have HI := Lib.hid hi
 obtain ⟨a1, c1, e1, m1⟩ := h1.lies
 obtain ⟨a2, c2, e2, m2⟩ := h2.lies
 subst e1
 subst e2
 obtain ⟨n1, hn1⟩ : ∃ n1, n1 = l1.length := ⟨_, rfl⟩
 obtain ⟨n2, hn2⟩ : ∃ n2, n2 = l2.length := ⟨_, rfl⟩
 rw [← hn1] at hG m1 hl1
 rw [← hn2] at hG m2 hl2
 have HN1 := Lib.hid hn1
 have HN2 := Lib.hid hn2
 have g0 : ∀ W : World, Below w.heap.size w W → W.cell? ⟨G, 0, none⟩ = some (.slice a1 n1 c1) ∧ W.cell? ⟨G, 1, none⟩ = some (.slice a2 n2 c2) := fun W hW => by
  have hg := (hW.block G (lt_of_block hG)).trans hG
  exact ⟨cell_in hg rfl, cell_in hg rfl⟩
 obtain ⟨b0, b1⟩ := g0 w (Below.refl _ _)
 have K0 := Lib.hid g0
 have M1 : Hid (∀ W : World, Below w.heap.size w W → Lies W B w.heap.size (.slice a1 n1 c1) n1 3 (l1.flatMap Wn.cells)) := Lib.hid (fun W hW => m1.keep (SameIn.of_below hW (Nat.le_refl _)))
 have M2 : Hid (∀ W : World, Below w.heap.size w W → Lies W B w.heap.size (.slice a2 n2 c2) n2 3 (l2.flatMap Wn.cells)) := Lib.hid (fun W hW => m2.keep (SameIn.of_below hW (Nat.le_refl _)))
 have HGR : Hid (Calls Tryz.prog 101 #[.slice none 0 0, .int .i64 (n1 + n2 : Nat)] w fun e w' => ∃ v, e = .returned v ∧ EvRow w.heap.size [] v w' ∧ Below w.heap.size w w') := Lib.hid (growEv_any w (n1 + n2) (by omega))
 have X1 : Hid (∀ u ∈ l1.flatMap Wn.cells, u.oneCell' = true) := Lib.hid (flat_one Wn.cells wn_one _)
 have X2 : Hid (∀ u ∈ l2.flatMap Wn.cells, u.oneCell' = true) := Lib.hid (flat_one Wn.cells wn_one _)
 have w1 : IntKind.i64.wrap (0 + (n1 : Int)) = (n1 : Int) := (IntWalk.i64_in _ (by omega)).trans (by omega)
 have w1' : IntKind.i64.wrap (n1 : Int) = (n1 : Int) := IntWalk.i64_in _ (by omega)
 have w2 : IntKind.i64.wrap ((n1 : Int) + (n2 : Int)) = ((n1 + n2 : Nat) : Int) := (IntWalk.i64_in _ (by omega)).trans (by omega)
 have t1 : decide ((n1 : Int) < 0) = false := decide_eq_false (by omega)
 have t2 : decide (((n1 + n2 : Nat) : Int) < 0) = false := decide_eq_false (by omega)
 have t3 : decide ((n1 : Int) + (n2 : Int) < 0) = false := decide_eq_false (by omega)
 clear h1 h2 hG g0 m1 m2 hn1 hn2 hi
 go_enter Tryz.func50, Tryz.ntmps50
 go_wp2_with fail
 go_loopw [3, 11] (fun s3 s11 wr => w = wr ∧ ((s11 = .int .i64 0 ∧ s3 = .int .i64 0) ∨ (s11 = .int .i64 1 ∧ s3 = .int .i64 n1) ∨ (s11 = .int .i64 2 ∧ s3 = .int .i64 (n1 + n2 : Nat)))) (fun _ s _ => 2 - (intOf s).toNat)
 case atStart => exact ⟨rfl, .inl ⟨rfl, rfl⟩⟩
 case round =>
  obtain ⟨rfl, ⟨rfl, rfl⟩ | ⟨rfl, rfl⟩ | ⟨rfl, rfl⟩⟩ := hrel
  ·go_wp2_with fail
   go_roundw
   case rel => exact ⟨by first | rfl | trivial, .inr (.inl ⟨by go_num, by first | rfl | go_num⟩)⟩
   case measure => simp [intOf]
  ·go_wp2_with fail
   go_roundw
   case rel => exact ⟨by first | rfl | trivial, .inr (.inr ⟨by go_num, by first | rfl | go_num⟩)⟩
   case measure => simp [intOf]
  ·go_wp2_with (first
    | (go_at_call 101; refine HGR.out.mono ?_; rintro e w4 ⟨v4, rfl, ⟨ao4, cap4, rfl, ho4'⟩, hb4'⟩; have ho4 := Lib.hid ho4'; have hb4 := Lib.hid hb4'; clear ho4' hb4')
    | fail "no arm")
   go_loopw [6, 27] (fun s6 s27 wr => Hid (Below w.heap.size w wr) ∧ ((s27 = .int .i64 0 ∧ ∃ ao cap, s6 = .slice ao 0 cap ∧ Hid (wr.ownsRow w.heap.size 96 3 (.slice ao 0 cap) 0 [])) ∨ (s27 = .int .i64 1 ∧ ∃ ao cap, s6 = .slice ao n1 cap ∧ Hid (wr.ownsRow w.heap.size 96 3 (.slice ao n1 cap) n1 (l1.flatMap Wn.cells))) ∨ (s27 = .int .i64 2 ∧ ∃ ao cap, s6 = .slice ao (n1 + n2) cap ∧ Hid (wr.ownsRow w.heap.size 96 3 (.slice ao (n1 + n2) cap) (n1 + n2) ((l1 ++ l2).flatMap Wn.cells))))) (fun _ s _ => 2 - (intOf s).toNat)
   case atStart => exact ⟨hb4, .inl ⟨rfl, _, _, rfl, ho4⟩⟩
   case round =>
    obtain ⟨HB, ⟨rfl, ao, cap, rfl, HO⟩ | ⟨rfl, ao, cap, rfl, HO⟩ | ⟨rfl, ao, cap, rfl, HO⟩⟩ := hrel
    ·obtain ⟨y0, y1⟩ := K0.out _ HB.out
     go_wp2_with (first
      | (refine wpList_append_lie2 (by rfl) (.tmp 31) (.tmp 32) 47 (by rfl) w.heap.size 96 i0 _ 3 24 Tryz.underlying47 HI.out hz0 hz1 hz2 rfl (by omega) (.slice ao 0 cap) 0 [] (by rfl) HO.out (.slice a1 n1 c1) B w.heap.size n1 (l1.flatMap Wn.cells) (by rfl) (M1.out _ HB.out) X1.out n1 (by omega) (by simp only [maxLen]; omega) (by omega) (by have := HB.out.size; omega) ?_
         intro ao2 cap2 w6 hown6' hgrow6' hob6'
         have hown6 := Lib.hid hown6'
         have hb6 : Hid (Below w.heap.size w w6) := Lib.hid (HB.out.grown hgrow6' (by have := HB.out.size; omega) (fun q hq => (owns_block HO.out q hq).1))
         clear hown6' hgrow6' hob6')
      | fail "no arm")
     go_roundw
     case rel => exact ⟨hb6, .inr (.inl ⟨by go_num, ao2, cap2, rfl, Lib.hid (by simpa using hown6.out)⟩)⟩
     case measure => simp [intOf]
    ·obtain ⟨y0, y1⟩ := K0.out _ HB.out
     go_wp2_with (first
      | (refine wpList_append_lie2 (by rfl) (.tmp 31) (.tmp 32) 47 (by rfl) w.heap.size 96 i0 _ 3 24 Tryz.underlying47 HI.out hz0 hz1 hz2 rfl (by omega) (.slice ao n1 cap) n1 (l1.flatMap Wn.cells) (by rfl) HO.out (.slice a2 n2 c2) B w.heap.size n2 (l2.flatMap Wn.cells) (by rfl) (M2.out _ HB.out) X2.out (n1 + n2) (by omega) (by simp only [maxLen]; omega) (by omega) (by have := HB.out.size; omega) ?_
         intro ao2 cap2 w6 hown6' hgrow6' hob6'
         have hown6 := Lib.hid hown6'
         have hb6 : Hid (Below w.heap.size w w6) := Lib.hid (HB.out.grown hgrow6' (by have := HB.out.size; omega) (fun q hq => (owns_block HO.out q hq).1))
         clear hown6' hgrow6' hob6')
      | fail "no arm")
     go_roundw
     case rel => exact ⟨hb6, .inr (.inr ⟨by go_num, ao2, cap2, rfl, Lib.hid (by simpa using hown6.out)⟩)⟩
     case measure => simp [intOf]
    ·have HF : Hid (EvRow w.heap.size (l1 ++ l2) (.slice ao (n1 + n2) cap) wr) := Lib.hid (by
      have e : (l1 ++ l2).length = n1 + n2 := by rw [List.length_append, HN1.out, HN2.out]
      exact ⟨ao, cap, by rw [e], by rw [e]; exact HO.out⟩)
     go_wp2_with fail
     go_ret
     exact ⟨_, rfl, HF.out, HB.out⟩
end Go.Proofs.YtchbehnkkcjdgaaGreat
namespace Go.Proofs.YtchbehnkkcjdgaaGreat
open Go.ChangeShapes Go.WideShapes Go.ChangeAt Go.RowKit
set_option linter.unusedVariables false
set_option linter.unusedSimpArgs false
def upTo (k : Nat) (f : Nat → Dk → Dk) (ds : Nat → Dk) : Nat → Dk := fun i => if i < k then f i (ds i) else ds i
theorem upTo_at (k : Nat) (f : Nat → Dk → Dk) (ds : Nat → Dk) : upTo k f ds k = ds k := if_neg (Nat.lt_irrefl k)
theorem upTo_next (k : Nat) (f : Nat → Dk → Dk) (ds : Nat → Dk) : updD (upTo k f ds) k (f k (ds k)) = upTo (k + 1) f ds := by
 funext i
 unfold updD upTo
 by_cases e : i = k
 ·subst e; simp
 ·rw [if_neg e]
  by_cases h : i < k
  ·rw [if_pos h, if_pos (by omega)]
  ·rw [if_neg h, if_neg (by omega)]
theorem upTo_zero (f : Nat → Dk → Dk) (ds : Nat → Dk) : upTo 0 f ds = ds := by funext i; simp [upTo]
/-- Past n nobody looks. -/
theorem PgQ.past {H : Nat} {ts : List Tk} {ss : List Sv} {st : Int} {x : Px} {hp : Bool} {w : World} {S : Nat → Prop} (h : PgQ H ts ss st x hp w S) {ds' : Nat → Dk} (he : ∀ i, i < ss.length → ds' i = x.ds i) : PgQ H ts ss st ⟨x.la, x.hi, x.js, ds', x.up⟩ hp w S := by
 obtain ⟨tb, pl, bf, rf, A, B, hA, hB, hd, hs⟩ := h
 obtain ⟨A1, B1, q1, ⟨A2, B2, q2, q3, q4, q5⟩, q6, q7⟩ := hB
 refine ⟨tb, pl, bf, rf, A, B, ?_, ⟨A1, B1, q1, ⟨A2, B2, q2, q3.congr (fun i hi => by show DskAt _ _ _ _ (ds' i) = _; rw [he i hi]), q4, q5⟩, q6, q7⟩, hd, hs⟩
 obtain ⟨ao, cap, m1, m2, m3, m4⟩ := hA
 refine ⟨ao, cap, m1, m2, fun hn => ?_, m4⟩
 obtain ⟨G, cur, n1, n2, n3, n4⟩ := m3 hn
 refine ⟨G, cur, n1, n2, n3, fun i hi => ?_⟩
 have := n4 i hi
 show cur[i * 3]? = some (budV (bf i) (ds' i).bud.isR) ∧ cur[i * 3 + 1]? = some (.pointer (some ⟨rf i, 0, none⟩)) ∧ cur[i * 3 + 2]? = some (.int .i64 (ds' i).taken)
 rw [he i hi]
 exact this
theorem isR_resume (b : Bud) : b.resume.isR = b.isR := by cases b <;> rfl
theorem isR_stop (s : Sv) (b : Bud) : (b.stop s).isR = b.isR := by cases b <;> rfl
theorem isR_go (s : Sv) (st now : Int) (busy : Bool) (b : Bud) : (b.go s st now busy).isR = b.isR := by cases b <;> rfl
theorem isR_use (s : Sv) (b : Bud) : (b.use s).isR = b.isR := by cases b <;> rfl
theorem isR_done (s : Sv) (b : Bud) : (b.done s).isR = b.isR := by cases b <;> rfl
theorem serve_same (s : Sv) (d : Dk) (hb : d.busy = true) : (d.serve s).bud.isR = d.bud.isR ∧ (d.serve s).taken = d.taken := by
 obtain ⟨bud, q, first⟩ := d
 simp only [Dk.busy, decide_eq_true_eq] at hb
 cases q with
 | nil => simp at hb
 | cons y r =>
   unfold Dk.serve
   split
   ·split
    ·rename_i h
     simp only [List.tail_cons] at h
     subst h
     exact ⟨by show ((bud.use s).done s).isR = _; rw [isR_done, isR_use], by simp [Dk.taken]⟩
    ·exact ⟨isR_use _ _, by simp [Dk.taken]; omega⟩
   ·exact ⟨isR_use _ _, by simp [Dk.taken]⟩
set_option maxRecDepth 100000 in
set_option maxHeartbeats 8000000 in
theorem psettle_any (w : World) (H : Nat) (S : Nat → Prop) (ts : List Tk) (ss : List Sv) (st : Int) (x : Px) (h : PgAt H ts ss st x w S) (hss : ss.length ≤ 3) : Calls Tryz.prog 48 #[.pointer (some ⟨H, 0, none⟩)] w fun e w' => ∃ S' v z, e = .returned v ∧ w.heap.size ≤ z ∧ EvRow z (setE ts x) v w' ∧ (∀ k, S' k → k < z) ∧ PgAt H ts ss st (setX ts x) w' S' ∧ GrowS S S' w w' := by
 have HF := Lib.hid (bfall_any w H S ts ss st x h)
 obtain ⟨fv, hfv⟩ : ∃ fv, fv = falV ts x.hi x.js := ⟨_, rfl⟩
 have HFV := Lib.hid hfv
 rw [← hfv] at HF
 obtain ⟨n, hn⟩ : ∃ n, n = ss.length := ⟨_, rfl⟩
 have HN := Lib.hid hn
 have hn3 : n ≤ 3 := by omega
 clear hss
 cases fv with
 | false =>
   have HH : Hid (falH ts x.hi x.js = x.hi ∧ setE ts x = [] ∧ setX ts x = x) := Lib.hid ⟨by unfold falH; rw [← hfv]; simp, by unfold setE; rw [← hfv]; rfl, by unfold setX; rw [← hfv]; rfl⟩
   clear h hn hfv
   go_enter Tryz.func48, Tryz.ntmps48
   go_wp2_with (first
    | (go_at_call 99; refine HF.out.mono ?_; rintro e w3 ⟨S3, rfl, h3', g3'⟩; have h3 := Lib.hid h3'; have g3 := Lib.hid g3'; clear h3' g3')
    | fail "no arm")
   go_ret
   have hh := h3.out
   rw [HH.out.1] at hh
   rw [HH.out.2.1, HH.out.2.2]
   exact ⟨S3, _, w3.heap.size, rfl, g3.out.size, ⟨none, 0, rfl, rfl, .inl ⟨rfl, rfl⟩⟩, (pq_own H ts ss st x x.hi).lt hh, hh, g3.out⟩
 | true =>
   have HH : Hid (falH ts x.hi x.js = false ∧ setE ts x = [⟨5, 0, 0⟩] ∧ setX ts x = ⟨x.la, false, x.js, fun i => (x.ds i).resume, x.up⟩) := Lib.hid ⟨by unfold falH; rw [← hfv]; simp, by unfold setE; rw [← hfv]; rfl, by unfold setX; rw [← hfv]; rfl⟩
   clear h hn hfv
   go_enter Tryz.func48, Tryz.ntmps48
   go_upto_region 3 with (first
    | (go_at_call 99; refine HF.out.mono ?_; rintro e w3 ⟨S3, rfl, h3', g3'⟩; rw [HH.out.1] at h3'; have h3 := Lib.hid h3'; have g3 := Lib.hid g3'; clear h3' g3')
    | fail "no arm")
   obtain ⟨tb0, pl0, ao0, cap0, hb0, hS0⟩ := h3.out.box
   have q2 := cell_in (j := 2) hb0 rfl
   rw [← HN.out] at q2
   clear hb0
   go_wp2_with fail
   go_loopw [14] (fun s wr => ∃ (k : Nat) (S' : Nat → Prop), k ≤ n ∧ s = .int .i64 k ∧ Hid (PgAt H ts ss st ⟨x.la, false, x.js, upTo k (fun _ d => Dk.resume d) x.ds, x.up⟩ wr S') ∧ Hid (GrowS S S' w wr)) (fun s _ => n - (intOf s).toNat)
   case atStart => exact ⟨0, S3, Nat.zero_le _, rfl, Lib.hid (by rw [upTo_zero]; exact h3.out), g3⟩
   case round =>
    obtain ⟨k, S', hk, rfl, HX, HG⟩ := hrel
    by_cases hlt : k < n
    ·have d0 : decide ((k : Int) < (n : Int)) = true := decide_eq_true (by omega)
     have d1 : (0 : Int) ≤ (k : Int) := by omega
     have d2 : (k : Int) < (n : Int) := by omega
     obtain ⟨G, B, R, A, cap, c2, hc, hd, hAG, hAH, hAS, hre⟩ := HX.out.desk (i := k) (by have := HN.out; omega)
     rw [← HN.out] at c2
     replace hc : DskC wr G (k * 3) B R (x.ds k) := by have e := upTo_at k (fun _ d => Dk.resume d) x.ds; rw [← e]; exact hc
     replace hd : DskAt B R (svAt ss k) st (x.ds k) wr A := by have e := upTo_at k (fun _ d => Dk.resume d) x.ds; rw [← e]; exact hd
     replace hre : ∀ {w' : World} {A' : Nat → Prop} {d' : Dk}, (d'.bud.isR = (x.ds k).bud.isR ∧ d'.taken = (x.ds k).taken) → DskAt B R (svAt ss k) st d' w' A' → GrowS A A' wr w' → ∃ S'', PgAt H ts ss st ⟨x.la, false, x.js, updD (upTo k (fun _ d => Dk.resume d) x.ds) k d', x.up⟩ w' S'' ∧ GrowS S' S'' wr w' := fun he q g => hre (by have e := upTo_at k (fun _ d => Dk.resume d) x.ds; show _ = (upTo k (fun _ d => Dk.resume d) x.ds k).bud.isR ∧ _ = (upTo k (fun _ d => Dk.resume d) x.ds k).taken; rw [e]; exact he) q g
     have c0 := hc.c0
     rcases meth_resume B (svAt ss k) st (x.ds k).bud with ⟨hv, hm, hcm⟩ | ⟨hv, hm, hcm⟩
     ·rw [hv] at c0
      have HC : Hid (Calls Tryz.prog 272 #[.pointer (some ⟨B, 0, none⟩)] wr fun e w' => e = .returned (.tuple #[]) ∧ ∃ S'', PgAt H ts ss st ⟨x.la, false, x.js, upTo (k + 1) (fun _ d => Dk.resume d) x.ds, x.up⟩ w' S'' ∧ GrowS S S'' w w') := Lib.hid (by
       obtain ⟨A1, hA1, _, hre1⟩ := hd.left (rq_own R _)
       refine (hcm wr A1 hA1).mono ?_
       rintro e w' ⟨S', rfl, q1, q2⟩
       obtain ⟨S2, q3, q4⟩ := hre1 q1 q2
       obtain ⟨S3, q5, q6⟩ := hre (d' := (fun _ d => Dk.resume d) k (x.ds k)) ⟨isR_resume _, rfl⟩ q3 q4
       rw [upTo_next] at q5
       exact ⟨rfl, S3, q5, HG.out.trans q6⟩)
      clear hv hcm hd hc hre hAG hAH hAS
      go_wp2_with (first
       | (go_at_call 272; refine Calls.mono HC.out ?_; rintro e w9 ⟨rfl, S9, h9', g9'⟩; have h9 := Lib.hid h9'; have g9 := Lib.hid g9'; clear h9' g9')
       | fail "no arm")
      go_roundw
      case rel => exact ⟨k + 1, S9, by omega, by go_num, h9, g9⟩
      case measure => simp [intOf]; omega
     ·rw [hv] at c0
      have HC : Hid (Calls Tryz.prog 256 #[.pointer (some ⟨B, 0, none⟩)] wr fun e w' => e = .returned (.tuple #[]) ∧ ∃ S'', PgAt H ts ss st ⟨x.la, false, x.js, upTo (k + 1) (fun _ d => Dk.resume d) x.ds, x.up⟩ w' S'' ∧ GrowS S S'' w w') := Lib.hid (by
       obtain ⟨A1, hA1, _, hre1⟩ := hd.left (rq_own R _)
       refine (hcm wr A1 hA1).mono ?_
       rintro e w' ⟨S', rfl, q1, q2⟩
       obtain ⟨S2, q3, q4⟩ := hre1 q1 q2
       obtain ⟨S3, q5, q6⟩ := hre (d' := (fun _ d => Dk.resume d) k (x.ds k)) ⟨isR_resume _, rfl⟩ q3 q4
       rw [upTo_next] at q5
       exact ⟨rfl, S3, q5, HG.out.trans q6⟩)
      clear hv hcm hd hc hre hAG hAH hAS
      go_wp2_with (first
       | (go_at_call 256; refine Calls.mono HC.out ?_; rintro e w9 ⟨rfl, S9, h9', g9'⟩; have h9 := Lib.hid h9'; have g9 := Lib.hid g9'; clear h9' g9')
       | fail "no arm")
      go_roundw
      case rel => exact ⟨k + 1, S9, by omega, by go_num, h9, g9⟩
      case measure => simp [intOf]; omega
    ·have d0 : decide ((k : Int) < (n : Int)) = false := decide_eq_false (by omega)
     have hkn : k = ss.length := by have := HN.out; omega
     obtain ⟨tb, pl, ao, cap, hbox, hSH⟩ := HX.out.box
     have hfin : PgAt H ts ss st (setX ts x) wr S' := by
      rw [HH.out.2.2]
      exact HX.out.past (fun i hi => (if_pos (show i < k by omega)).symm)
     have HFIN := Lib.hid hfin
     clear hbox hfin
     go_wp2_with fail
     go_ret
     rw [HH.out.2.1]
     have hz := HG.out.size
     have g2 := HG.out.trans (GrowS.of_below (S := S') (below1 wr (.cells #[.int .i64 5, .int .i64 0, .int .i64 0] 96)))
     have p2 := (pq_own H ts ss st (setX ts x) _).later HFIN.out (below1 wr (.cells #[.int .i64 5, .int .i64 0, .int .i64 0] 96))
     have r2 : EvRow wr.heap.size [⟨5, 0, 0⟩] (.slice (some ⟨wr.heap.size, 0, none⟩) 1 1) (wr.alloc (.cells #[.int .i64 5, .int .i64 0, .int .i64 0] 96)) := ⟨_, 1, rfl, rfl, .inr ⟨wr.heap.size, 1, _, rfl, Nat.le_refl _, heap_alloc_new _ _, Nat.le_refl _, by simp [maxLen], by simp, rfl⟩⟩
     exact ⟨S', _, wr.heap.size, rfl, hz, r2, (pq_own H ts ss st (setX ts x) _).lt HFIN.out, p2, g2⟩
end Go.Proofs.YtchbehnkkcjdgaaGreat
namespace Go.Proofs.YtchbehnkkcjdgaaGreat
open Go.ChangeShapes Go.WideShapes Go.ChangeAt Go.RowKit
set_option linter.unusedVariables false
set_option linter.unusedSimpArgs false
set_option maxRecDepth 100000 in
set_option maxHeartbeats 8000000 in
theorem prise_any (w : World) (H : Nat) (S : Nat → Prop) (ts : List Tk) (ss : List Sv) (st : Int) (x : Px) (h : PgAt H ts ss st x w S) (hss : ss.length ≤ 3) : Calls Tryz.prog 109 #[.pointer (some ⟨H, 0, none⟩)] w fun e w' => ∃ S' v, e = .returned v ∧ EvRow w.heap.size (risE ts x) v w' ∧ PgAt H ts ss st (risX ts ss x) w' S' ∧ GrowS S S' w w' := by
 have HF := Lib.hid (brise_any w H S ts ss st x h)
 obtain ⟨n, hn⟩ : ∃ n, n = ss.length := ⟨_, rfl⟩
 have HN := Lib.hid hn
 have hn3 : n ≤ 3 := by omega
 obtain ⟨m, hm⟩ : ∃ m, m = (riseL ts x.js).length := ⟨_, rfl⟩
 have hm6 : m ≤ 6 := by
  have h1 := lis_len (lowP ts) x.js ts.length
  have h2 := h.bds.1
  show m ≤ 6
  rw [hm]
  unfold riseL
  omega
 rw [← hm] at HF
 have HMM := Lib.hid hm
 obtain ⟨i0, hi0, hz0, hz1, hz2⟩ := info_parts Tryz.infoEv20
 have HI := Lib.hid hi0
 clear h hn hss hm hi0
 go_enter Tryz.func109, Tryz.ntmps109
 go_upto_region 2 with (first
  | (go_at_call 153; refine HF.out.mono ?_; rintro e w3 ⟨S3, z, ao3, cap3, rfl, hz', hl', hlt', h3', g3'⟩; have h3 := Lib.hid h3'; have g3 := Lib.hid g3'; have HZ := Lib.hid hz'; have HL := Lib.hid hl'; have HLT := Lib.hid hlt'; clear h3' g3' hz' hl' hlt')
  | fail "no arm")
 obtain ⟨tb0, pl0, ao0, cap0, hb0, hS0⟩ := h3.out.box
 have q2 := cell_in (j := 2) hb0 rfl
 rw [← HN.out] at q2
 clear hb0
 go_wp2_with fail
 go_loopw [14] (fun s wr => ∃ (k : Nat) (S' : Nat → Prop), k ≤ n ∧ s = .int .i64 k ∧ Hid (PgAt H ts ss st ⟨x.la, true, riseT ts x.js, upTo k (fun i d => Dk.stop (svAt ss i) d) x.ds, x.up⟩ wr S') ∧ Hid (GrowS S3 S' w3 wr)) (fun s _ => n - (intOf s).toNat)
 case atStart => exact ⟨0, S3, Nat.zero_le _, rfl, Lib.hid (by rw [upTo_zero]; exact h3.out), Lib.hid (GrowS.of_below (Below.refl _ _))⟩
 case round =>
  obtain ⟨k, S', hk, rfl, HX, HG⟩ := hrel
  by_cases hlt : k < n
  ·have d0 : decide ((k : Int) < (n : Int)) = true := decide_eq_true (by omega)
   have d1 : (0 : Int) ≤ (k : Int) := by omega
   have d2 : (k : Int) < (n : Int) := by omega
   obtain ⟨G, B, R, A, cap, c2, hc, hd, hAG, hAH, hAS, hre⟩ := HX.out.desk (i := k) (by have := HN.out; omega)
   rw [← HN.out] at c2
   replace hc : DskC wr G (k * 3) B R (x.ds k) := by have e := upTo_at k (fun i d => Dk.stop (svAt ss i) d) x.ds; rw [← e]; exact hc
   replace hd : DskAt B R (svAt ss k) st (x.ds k) wr A := by have e := upTo_at k (fun i d => Dk.stop (svAt ss i) d) x.ds; rw [← e]; exact hd
   replace hre : ∀ {w' : World} {A' : Nat → Prop} {d' : Dk}, (d'.bud.isR = (x.ds k).bud.isR ∧ d'.taken = (x.ds k).taken) → DskAt B R (svAt ss k) st d' w' A' → GrowS A A' wr w' → ∃ S'', PgAt H ts ss st ⟨x.la, true, riseT ts x.js, updD (upTo k (fun i d => Dk.stop (svAt ss i) d) x.ds) k d', x.up⟩ w' S'' ∧ GrowS S' S'' wr w' := fun he q g => hre (by have e := upTo_at k (fun i d => Dk.stop (svAt ss i) d) x.ds; show _ = (upTo k (fun i d => Dk.stop (svAt ss i) d) x.ds k).bud.isR ∧ _ = (upTo k (fun i d => Dk.stop (svAt ss i) d) x.ds k).taken; rw [e]; exact he) q g
   have c0 := hc.c0
   rcases meth_stop B (svAt ss k) st (x.ds k).bud with ⟨hv, hm, hcm⟩ | ⟨hv, hm, hcm⟩
   ·rw [hv] at c0
    have HC : Hid (Calls Tryz.prog 273 #[.pointer (some ⟨B, 0, none⟩)] wr fun e w' => e = .returned (.tuple #[]) ∧ ∃ S'', PgAt H ts ss st ⟨x.la, true, riseT ts x.js, upTo (k + 1) (fun i d => Dk.stop (svAt ss i) d) x.ds, x.up⟩ w' S'' ∧ GrowS S3 S'' w3 w') := Lib.hid (by
     obtain ⟨A1, hA1, _, hre1⟩ := hd.left (rq_own R _)
     refine (hcm wr A1 hA1).mono ?_
     rintro e w' ⟨S', rfl, q1, q2⟩
     obtain ⟨S2, q3, q4⟩ := hre1 q1 q2
     obtain ⟨S3, q5, q6⟩ := hre (d' := (fun i d => Dk.stop (svAt ss i) d) k (x.ds k)) ⟨isR_stop _ _, rfl⟩ q3 q4
     rw [upTo_next] at q5
     exact ⟨rfl, S3, q5, HG.out.trans q6⟩)
    clear hv hcm hd hc hre hAG hAH hAS
    go_wp2_with (first
     | (go_at_call 273; refine Calls.mono HC.out ?_; rintro e w9 ⟨rfl, S9, h9', g9'⟩; have h9 := Lib.hid h9'; have g9 := Lib.hid g9'; clear h9' g9')
     | fail "no arm")
    go_roundw
    case rel => exact ⟨k + 1, S9, by omega, by go_num, h9, g9⟩
    case measure => simp [intOf]; omega
   ·rw [hv] at c0
    have HC : Hid (Calls Tryz.prog 257 #[.pointer (some ⟨B, 0, none⟩)] wr fun e w' => e = .returned (.tuple #[]) ∧ ∃ S'', PgAt H ts ss st ⟨x.la, true, riseT ts x.js, upTo (k + 1) (fun i d => Dk.stop (svAt ss i) d) x.ds, x.up⟩ w' S'' ∧ GrowS S3 S'' w3 w') := Lib.hid (by
     obtain ⟨A1, hA1, _, hre1⟩ := hd.left (rq_own R _)
     refine (hcm wr A1 hA1).mono ?_
     rintro e w' ⟨S', rfl, q1, q2⟩
     obtain ⟨S2, q3, q4⟩ := hre1 q1 q2
     obtain ⟨S3, q5, q6⟩ := hre (d' := (fun i d => Dk.stop (svAt ss i) d) k (x.ds k)) ⟨isR_stop _ _, rfl⟩ q3 q4
     rw [upTo_next] at q5
     exact ⟨rfl, S3, q5, HG.out.trans q6⟩)
    clear hv hcm hd hc hre hAG hAH hAS
    go_wp2_with (first
     | (go_at_call 257; refine Calls.mono HC.out ?_; rintro e w9 ⟨rfl, S9, h9', g9'⟩; have h9 := Lib.hid h9'; have g9 := Lib.hid g9'; clear h9' g9')
     | fail "no arm")
    go_roundw
    case rel => exact ⟨k + 1, S9, by omega, by go_num, h9, g9⟩
    case measure => simp [intOf]; omega
  ·have d0 : decide ((k : Int) < (n : Int)) = false := decide_eq_false (by omega)
   have hkn : k = ss.length := by have := HN.out; omega
   obtain ⟨tb, pl, ao, cap, hbox, hSH⟩ := HX.out.box
   have hfin : PgAt H ts ss st (risX ts ss x) wr S' := HX.out.past (fun i hi => (if_pos (show i < k by omega)).symm)
   have HFIN := Lib.hid hfin
   have hlr : Lies wr 0 wr.heap.size (.slice ao3 m cap3) m 1 ((riseL ts x.js).flatMap intCells) := ((HL.out.keep (fun b h1 h2 => HG.out.block b h2 (fun hs => by have := HLT.out b hs; omega))).wider (Nat.zero_le _) HG.out.size)
   have HEV : Hid (Calls Tryz.prog 46 #[.int .i64 4, .slice ao3 m cap3] wr fun e w' => ∃ ao cap, e = .returned (.slice ao m cap) ∧ Hid (w'.ownsRow wr.heap.size 96 3 (.slice ao m cap) m ((evK 4 (riseL ts x.js)).flatMap Wn.cells)) ∧ Below wr.heap.size wr w') := Lib.hid ((events_any wr 4 ao3 m cap3 (riseL ts x.js) HMM.out.symm (by omega) hlr).mono (by
    rintro e w' ⟨v, rfl, ⟨ao, cap, rfl, ho⟩, hb⟩
    rw [evK_len, ← HMM.out] at ho ⊢
    exact ⟨ao, cap, rfl, Lib.hid ho, hb⟩))
   clear hbox hfin hlr
   go_wp2_with (first
    | (refine wpList_append_lie2 (by rfl) (.tmp 28) (.tmp 30) 47 (by rfl) wr.heap.size 96 i0 _ 3 24 Tryz.underlying47 HI.out hz0 hz1 hz2 rfl (by omega) (.slice ao6 m cap6) m ((evK 4 (riseL ts x.js)).flatMap Wn.cells) (by rfl) (owns_later HO6.out (below1 _ _)) (.slice (some ⟨w6.heap.size, 0, none⟩) 1 1) w6.heap.size (w6.heap.size + 1) 1 [.int .i64 3, .int .i64 0, .int .i64 0] (by rfl) (one_lies (cs := #[.int .i64 3, .int .i64 0, .int .i64 0]) (heap_alloc_new w6 _) rfl) (wn_one ⟨3, 0, 0⟩) (m + 1) rfl (by simp only [maxLen]; omega) (by omega) (by have := HB6.out.size; simp; omega) ?_
       intro ao7 cap7 w7 hown7' hgrow7' hob7'
       have hown7 := Lib.hid hown7'
       have hb7 : Hid (Below wr.heap.size wr w7) := Lib.hid ((b_alloc HB6.out (Nat.le_refl _) _).grown hgrow7' (by have := HB6.out.size; simp; omega) (fun q hq => (owns_block HO6.out q hq).1))
       clear hown7' hgrow7' hob7')
    | (go_at_call 46; refine HEV.out.mono ?_; rintro e w6 ⟨ao6, cap6, rfl, HO6, hb6'⟩; have HB6 := Lib.hid hb6'; clear hb6')
    | fail "no arm")
   go_ret
   have e1 : (risE ts x).length = m + 1 := by unfold risE; rw [List.length_append, evK_len, HMM.out]; rfl
   have hr : EvRow w.heap.size (risE ts x) (.slice ao7 (m + 1) cap7) w7 := ⟨ao7, cap7, by rw [e1], by
    rw [e1]
    have h7 := hown7.out
    have e2 : (risE ts x).flatMap Wn.cells = (evK 4 (riseL ts x.js)).flatMap Wn.cells ++ [.int .i64 3, .int .i64 0, .int .i64 0] := by unfold risE; rw [List.flatMap_append]; rfl
    rw [e2]
    obtain ⟨k1, k2⟩ := h7
    exact ⟨k1, k2.imp id (fun ⟨g, cap, cur, a1, a2, a3⟩ => ⟨g, cap, cur, a1, Nat.le_trans g3.out.size (Nat.le_trans HG.out.size a2), a3⟩)⟩⟩
   have hp := (pq_own H ts ss st (risX ts ss x) true).later HFIN.out hb7.out
   have hg := g3.out.trans (HG.out.trans (GrowS.of_below (S := S') hb7.out))
   first | exact ⟨S', _, rfl, hr, hp, hg⟩ | exact ⟨_, rfl, hr, S', hp, hg⟩
set_option maxRecDepth 100000 in
set_option maxHeartbeats 8000000 in
theorem pleave_any (w : World) (H : Nat) (S : Nat → Prop) (ts : List Tk) (ss : List Sv) (st : Int) (x : Px) (h : PgAt H ts ss st x w S) (hss : ss.length ≤ 3) (kind t : Int) : Calls Tryz.prog 108 #[.pointer (some ⟨H, 0, none⟩), .int .i64 kind, .int .i64 t] w fun e w' => ∃ S' v, e = .returned v ∧ EvRow w.heap.size ([⟨kind, t, 0⟩] ++ setE ts x) v w' ∧ PgAt H ts ss st (setX ts x) w' S' ∧ GrowS S S' w w' := by
 obtain ⟨i0, hi0, hz0, hz1, hz2⟩ := info_parts Tryz.infoEv20
 have HI := Lib.hid hi0
 obtain ⟨V, hV⟩ : ∃ V, V = w.alloc (.cells #[.int .i64 t] 3) := ⟨_, rfl⟩
 have hbV : Below w.heap.size w V := by rw [hV]; exact below1 _ _
 have hlV : Lies V 0 V.heap.size (.slice (some ⟨w.heap.size, 0, none⟩) 1 1) 1 1 ([t].flatMap intCells) := by rw [hV]; exact (one_lies (cs := #[.int .i64 t]) (heap_alloc_new w _) rfl).wider (Nat.zero_le _) (by simp)
 have HBV := Lib.hid hbV
 have HEV : Hid (Calls Tryz.prog 46 #[.int .i64 kind, .slice (some ⟨w.heap.size, 0, none⟩) 1 1] V fun e w' => ∃ ao cap, e = .returned (.slice ao 1 cap) ∧ Hid (w'.ownsRow V.heap.size 96 3 (.slice ao 1 cap) 1 [.int .i64 kind, .int .i64 t, .int .i64 0]) ∧ Below V.heap.size V w') := Lib.hid ((events_any V kind _ 1 1 [t] rfl (by omega) hlV).mono (by
  rintro e w' ⟨v, rfl, ⟨ao, cap, rfl, ho⟩, hb⟩
  exact ⟨ao, cap, rfl, Lib.hid ho, hb⟩))
 have HST : Hid (∀ W : World, Below w.heap.size w W → Calls Tryz.prog 48 #[.pointer (some ⟨H, 0, none⟩)] W fun e w' => ∃ S' ao cap, e = .returned (.slice ao (setE ts x).length cap) ∧ Hid (Lies w' W.heap.size w'.heap.size (.slice ao (setE ts x).length cap) (setE ts x).length 3 ((setE ts x).flatMap Wn.cells)) ∧ PgAt H ts ss st (setX ts x) w' S' ∧ GrowS S S' W w') := Lib.hid (fun W hW => (psettle_any W H S ts ss st x ((pq_own H ts ss st x x.hi).later h hW) hss).mono (by
  rintro e w' ⟨S', v, z, rfl, q0, q1, _, q2, q3⟩
  obtain ⟨ao, cap, rfl, q4⟩ := q1.lies
  exact ⟨S', ao, cap, rfl, Lib.hid (q4.wider q0 (Nat.le_refl _)), q2, q3⟩))
 have HS : Hid (∀ k, S k → k < w.heap.size) := Lib.hid ((pq_own H ts ss st x x.hi).lt h)
 obtain ⟨m, hm⟩ : ∃ m, m = (setE ts x).length := ⟨_, rfl⟩
 have hm1 : m ≤ 1 := by rw [hm]; unfold setE; split <;> simp
 rw [← hm] at HST
 have HMM := Lib.hid hm
 have X1 : Hid (∀ u ∈ (setE ts x).flatMap Wn.cells, u.oneCell' = true) := Lib.hid (flat_one Wn.cells wn_one _)
 have HVV := Lib.hid hV
 clear h hi0 hV hbV hlV hm hss
 go_enter Tryz.func108, Tryz.ntmps108
 go_wp2_with (first
  | (refine wpList_append_lie2 (by rfl) (.tmp 10) (.tmp 12) 47 (by rfl) w.heap.size 96 i0 _ 3 24 Tryz.underlying47 HI.out hz0 hz1 hz2 rfl (by omega) (.slice ao6 1 cap6) 1 [.int .i64 kind, .int .i64 t, .int .i64 0] (by rfl) HO7.out (.slice ao7 m cap7) w6.heap.size w7.heap.size m ((setE ts x).flatMap Wn.cells) (by rfl) HL7.out X1.out (1 + m) (by omega) (by simp only [maxLen]; omega) (by omega) (by have := HB6.out.size; have := g7.out.size; omega) ?_
     intro ao8 cap8 w8 hown8' hgrow8' hob8'
     have hown8 := Lib.hid hown8'
     have hg8 := Lib.hid hgrow8'
     clear hown8' hgrow8' hob8')
  | (go_at_call 48; have _z := HB6; refine (HST.out _ HB6.out).mono ?_; rintro e w7 ⟨S7, ao7, cap7, rfl, HL7, h7', g7'⟩
     have HO7 : Hid (w7.ownsRow w.heap.size 96 3 (.slice ao6 1 cap6) 1 [.int .i64 kind, .int .i64 t, .int .i64 0]) := Lib.hid (by
      have hh := owns_hold HO6.out (w' := w7) ⟨g7'.size, fun g hg => g7'.block g (owns_own HO6.out g hg).2 (fun hs => by have := HS.out g hs; have := (owns_own HO6.out g hg).1; have := HBV.out.size; omega)⟩
      obtain ⟨k1, k2⟩ := hh
      exact ⟨k1, k2.imp id (fun ⟨g, cap, cur, a1, a2, a3⟩ => ⟨g, cap, cur, a1, Nat.le_trans HBV.out.size a2, a3⟩)⟩)
     have OWN6 : Hid (∀ g, (Value.slice ao6 1 cap6).ownBlock = some g → ¬ S7 g ∧ w.heap.size ≤ g) := Lib.hid (fun g hg => ⟨g7'.not (owns_own HO6.out g hg).2 (fun hs => by have := HS.out g hs; have := (owns_own HO6.out g hg).1; have := HBV.out.size; omega), by have := (owns_own HO6.out g hg).1; have := HBV.out.size; omega⟩)
     have h7 := Lib.hid h7'; have g7 := Lib.hid g7'; clear h7' g7')
  | (go_at_call 46; (try rw [← HVV.out]); refine HEV.out.mono ?_; rintro e w6 ⟨ao6, cap6, rfl, HO6, hb6'⟩; have HB6 : Hid (Below w.heap.size w w6) := Lib.hid (HBV.out.trans (hb6'.mono HBV.out.size)); clear hb6')
  | fail "no arm")
 go_ret
 have e1 : ([⟨kind, t, 0⟩] ++ setE ts x : List Wn).length = 1 + m := by rw [List.length_append, HMM.out]; rfl
 have hr : EvRow w.heap.size ([⟨kind, t, 0⟩] ++ setE ts x) (.slice ao8 (1 + m) cap8) w8 := ⟨ao8, cap8, by rw [e1], by rw [e1]; exact hown8.out⟩
 have hp := (pq_own H ts ss st (setX ts x) _).keep h7.out (fun k hk => hg8.out.block k ((pq_own H ts ss st (setX ts x) _).lt h7.out k hk) (fun e => (OWN6.out k e.symm).1 hk)) hg8.out.size
 have g0 := (GrowS.of_below (S := S) HB6.out).trans g7.out
 have hg : GrowS S S7 w w8 := ⟨hg8.out.os.trans g0.os, hg8.out.tape.trans g0.tape, hg8.out.output.trans g0.output, Nat.le_trans g0.size hg8.out.size, fun k hk hs => (hg8.out.block k (Nat.lt_of_lt_of_le hk g0.size) (fun e => by have := (OWN6.out k e.symm).2; omega)).trans (g0.block k hk hs), g0.own⟩
 first | exact ⟨S7, _, rfl, hr, hp, hg⟩ | exact ⟨_, rfl, hr, S7, hp, hg⟩
set_option maxRecDepth 100000 in
set_option maxHeartbeats 8000000 in
theorem prunS_any (w : World) (H : Nat) (S : Nat → Prop) (ts : List Tk) (ss : List Sv) (st : Int) (x : Px) (h : PgAt H ts ss st x w S) (k : Nat) (hk : k < ss.length) (hok : (x.ds k).Ok) (hb : (x.ds k).busy = true) : Calls Tryz.prog 55 #[.pointer (some ⟨H, 0, none⟩), .int .i64 k] w fun e w' => ∃ S' v, e = .returned v ∧ EvRow w.heap.size (runSE x k) v w' ∧ PgAt H ts ss st (runSX ss x k) w' S' ∧ GrowS S S' w w' := by
 obtain ⟨G, B, R, A, cap, c2, hc, hd, hAG, hAH, hAS, hre⟩ := h.desk hk
 obtain ⟨y, r, hq⟩ : ∃ y r, (x.ds k).q = y :: r := by
  simp only [Dk.busy, decide_eq_true_eq] at hb
  cases e : (x.ds k).q with
  | nil => rw [e] at hb; simp at hb
  | cons y r => exact ⟨y, r, rfl⟩
 have HSV : Hid (Calls Tryz.prog 106 #[.pointer (some ⟨G, k * 3, none⟩)] w fun e w' => e = .returned (.tuple #[.int .i64 (x.ds k).served, .bool (x.ds k).ends]) ∧ ∃ S', PgAt H ts ss st (runSX ss x k) w' S' ∧ GrowS S S' w w') := Lib.hid ((dskserve_any w G (k * 3) B R (svAt ss k) st (x.ds k) A hd hc hAG hok y r hq).mono (by
  rintro e w' ⟨S', rfl, q1, q2⟩
  exact ⟨rfl, hre (serve_same _ _ hb) q1 q2⟩))
 obtain ⟨n, hn⟩ : ∃ n, n = ss.length := ⟨_, rfl⟩
 rw [← hn] at c2 hk
 have l0 : (0 : Int) ≤ (k : Int) := by omega
 have l1 : (k : Int) < (n : Int) := by omega
 obtain ⟨en, hen⟩ : ∃ en, en = (x.ds k).ends := ⟨_, rfl⟩
 have HSD : Hid (en = true → (x.ds k).served = (x.ds k).first) := Lib.hid (fun e => by unfold Dk.served; rw [← hen, e]; rfl)
 have HRE : Hid (runSE x k = if en = true then [⟨6, k, (x.ds k).first⟩] else []) := Lib.hid (by unfold runSE; rw [hen])
 obtain ⟨sv, hsv⟩ : ∃ sv, sv = (x.ds k).served := ⟨_, rfl⟩
 rw [← hen, ← hsv] at HSV
 rw [← hsv] at HSD
 clear h hc hd hAG hAH hAS hre hq hn hen hok hb hsv
 cases en with
 | false =>
   rw [if_neg (by simp)] at HRE
   go_enter Tryz.func55, Tryz.ntmps55
   go_wp2_with (first
    | (go_at_call 106; refine HSV.out.mono ?_; rintro e w3 ⟨rfl, S3, h3', g3'⟩; have h3 := Lib.hid h3'; have g3 := Lib.hid g3'; clear h3' g3')
    | fail "no arm")
   go_ret
   rw [HRE.out]
   first | exact ⟨S3, _, rfl, ⟨none, 0, rfl, rfl, .inl ⟨rfl, rfl⟩⟩, h3.out, g3.out⟩ | exact ⟨_, rfl, ⟨none, 0, rfl, rfl, .inl ⟨rfl, rfl⟩⟩, S3, h3.out, g3.out⟩
 | true =>
   rw [if_pos rfl] at HRE
   go_enter Tryz.func55, Tryz.ntmps55
   go_wp2_with (first
    | (go_at_call 106; refine HSV.out.mono ?_; rintro e w3 ⟨rfl, S3, h3', g3'⟩; have h3 := Lib.hid h3'; have g3 := Lib.hid g3'; clear h3' g3')
    | fail "no arm")
   go_ret
   rw [HRE.out, ← HSD.out (by trivial)]
   have r2 : EvRow w.heap.size [⟨6, k, sv⟩] (.slice (some ⟨w3.heap.size, 0, none⟩) 1 1) (w3.alloc (.cells #[.int .i64 6, .int .i64 k, .int .i64 sv] 96)) := ⟨_, 1, rfl, rfl, .inr ⟨w3.heap.size, 1, _, rfl, g3.out.size, heap_alloc_new _ _, Nat.le_refl _, by simp [maxLen], by simp, rfl⟩⟩
   have p2 := (pq_own H ts ss st (runSX ss x k) _).later h3.out (below1 w3 (.cells #[.int .i64 6, .int .i64 k, .int .i64 sv] 96))
   have g2 := g3.out.trans (GrowS.of_below (S := S3) (below1 w3 (.cells #[.int .i64 6, .int .i64 k, .int .i64 sv] 96)))
   first | exact ⟨S3, _, rfl, r2, p2, g2⟩ | exact ⟨_, rfl, r2, S3, p2, g2⟩
end Go.Proofs.YtchbehnkkcjdgaaGreat
namespace Go.Proofs.YtchbehnkkcjdgaaGreat
open Go.ChangeShapes Go.WideShapes Go.ChangeAt Go.RowKit
set_option linter.unusedVariables false
set_option linter.unusedSimpArgs false
theorem resume_by {now : Int} {b : Bud} (h : b.by_ now) : b.resume.by_ now := by cases b <;> exact h
set_option maxRecDepth 100000 in
set_option maxHeartbeats 8000000 in
theorem pbegin_any (w : World) (H : Nat) (S : Nat → Prop) (ts : List Tk) (ss : List Sv) (st : Int) (x : Px) (h : PgAt H ts ss st x w S) (hss : ss.length ≤ 3) (now : Int) (h0 : 0 ≤ now) (h1 : now ≤ 4611687117939015680) (hby : DsBy ss.length now x.ds) : Calls Tryz.prog 14 #[.pointer (some ⟨H, 0, none⟩), .int .i64 now] w fun e w' => ∃ S' v, e = .returned v ∧ EvRow w.heap.size (begE ts x now) v w' ∧ PgAt H ts ss st (begX ts ss st x now) w' S' ∧ GrowS S S' w w' := by
 have HU := Lib.hid (pup_any w H S ts ss st x h)
 cases hup : x.up with
 | false =>
   have HE : Hid (begE ts x now = [] ∧ begX ts ss st x now = x) := Lib.hid ⟨by unfold begE; rw [hup]; rfl, by unfold begX; rw [hup]; rfl⟩
   rw [hup] at HU
   have HH := Lib.hid h
   clear h hss hby
   go_enter Tryz.func14, Tryz.ntmps14
   go_wp2_with (first
    | (go_at_call 30; refine HU.out.mono ?_; rintro e w3 ⟨rfl, hw3⟩; rw [hw3]; clear hw3)
    | fail "no arm")
   go_ret
   rw [HE.out.1, HE.out.2]
   first | exact ⟨S, _, rfl, ⟨none, 0, rfl, rfl, .inl ⟨rfl, rfl⟩⟩, HH.out, GrowS.of_below (Below.refl _ _)⟩ | exact ⟨_, rfl, ⟨none, 0, rfl, rfl, .inl ⟨rfl, rfl⟩⟩, S, HH.out, GrowS.of_below (Below.refl _ _)⟩
 | true =>
   have HE : Hid (begE ts x now = evK 2 (misL ts x.js now) ++ setE ts (misX ts x now) ∧ begX ts ss st x now = goX ss st now (setX ts (misX ts x now))) := Lib.hid ⟨by unfold begE; rw [if_pos hup], by unfold begX; rw [if_pos hup]⟩
   rw [hup] at HU
   have hmm : (misL ts x.js now).length ≤ 6 := by
    have a1 := lis_len (misP ts now) x.js ts.length
    have a2 := h.bds.1
    unfold misL
    omega
   obtain ⟨tbl, A, c0, hT, hAS, hAH, hre⟩ := h.table
   have HM : Hid (Calls Tryz.prog 47 #[.pointer (some ⟨tbl, 0, none⟩), .int .i64 now] w fun e w' => ∃ ao cap, e = .returned (.slice ao (misL ts x.js now).length cap) ∧ Hid (Lies w' w.heap.size w'.heap.size (.slice ao (misL ts x.js now).length cap) (misL ts x.js now).length 1 ((misL ts x.js now).flatMap intCells)) ∧ ∃ S', PgAt H ts ss st (misX ts x now) w' S' ∧ GrowS S S' w w') := Lib.hid ((tasksOk.missed w tbl A ts x.hi x.js now hT).mono (by
    rintro e w' ⟨S', ao, cap, rfl, q0, q1, q2⟩
    exact ⟨ao, cap, rfl, Lib.hid q0, hre q1 q2⟩))
   obtain ⟨m, hm⟩ : ∃ m, m = (misL ts x.js now).length := ⟨_, rfl⟩
   rw [← hm] at HM hmm
   have HMM := Lib.hid hm
   obtain ⟨n, hn⟩ : ∃ n, n = ss.length := ⟨_, rfl⟩
   have HN := Lib.hid hn
   have hn3 : n ≤ 3 := by omega
   have HSS := Lib.hid hss
   have HBY : Hid (∀ k, k < ss.length → ((setX ts (misX ts x now)).ds k).bud.by_ now) := Lib.hid (fun k hk => by
    unfold setX
    split
    ·exact resume_by (hby k hk)
    ·exact hby k hk)
   obtain ⟨y, hy⟩ : ∃ y, y = setX ts (misX ts x now) := ⟨_, rfl⟩
   have HYY := Lib.hid hy
   rw [← hy] at HBY HE
   clear h hss hby hT hAS hAH hre hm hn hy
   go_enter Tryz.func14, Tryz.ntmps14
   go_upto_region 5 with (first
    | (go_at_call 48; have _z := h4; refine HST.out.mono ?_; rintro e w5 ⟨S5, a5, n5, c5, z5, rfl, hz5', r5', l5', h5', g5'⟩; have r5 := Lib.hid r5'; have h5 := Lib.hid h5'; have g5 := Lib.hid g5'; have l5 := Lib.hid l5'; have HZ5 := Lib.hid hz5'; clear r5' h5' g5' l5' hz5')
    | (go_at_call 46; have _z := HL3; refine HEV.out.mono ?_; rintro e w4 ⟨a4, n4, c4, rfl, r4', hb4'⟩
       have h4 := Lib.hid ((pq_own H ts ss st (misX ts x now) _).later h3.out hb4')
       have r4 := Lib.hid r4'; have hb4 := Lib.hid hb4'
       have HST : Hid (Calls Tryz.prog 48 #[.pointer (some ⟨H, 0, none⟩)] w4 fun e w' => ∃ S' a n c z, e = .returned (.slice a n c) ∧ w4.heap.size ≤ z ∧ EvRow z (setE ts (misX ts x now)) (.slice a n c) w' ∧ (∀ k, S' k → k < z) ∧ PgAt H ts ss st y w' S' ∧ GrowS S3 S' w4 w') := Lib.hid (by
        rw [HYY.out]
        refine (psettle_any w4 H S3 ts ss st (misX ts x now) h4.out HSS.out).mono ?_
        rintro e w' ⟨S', v, z, rfl, q1, q2, q3⟩
        obtain ⟨a, c, rfl, q4⟩ := id q2
        exact ⟨S', a, _, c, z, rfl, q1, q2, q3⟩)
       clear r4' hb4')
    | (go_at_call 47; refine HM.out.mono ?_; rintro e w3 ⟨ao3, cap3, rfl, HL3, S3, h3', g3'⟩; have h3 := Lib.hid h3'; have g3 := Lib.hid g3'
       have HEV : Hid (Calls Tryz.prog 46 #[.int .i64 2, .slice ao3 m cap3] w3 fun e w' => ∃ a n c, e = .returned (.slice a n c) ∧ EvRow w3.heap.size (evK 2 (misL ts x.js now)) (.slice a n c) w' ∧ Below w3.heap.size w3 w') := Lib.hid ((events_any w3 2 ao3 m cap3 (misL ts x.js now) HMM.out.symm (by omega) ((HL3.out.wider (Nat.zero_le _) (Nat.le_refl _)))).mono (by
        rintro e w' ⟨v, rfl, q1, q2⟩
        obtain ⟨a, c, rfl, q3⟩ := id q1
        exact ⟨a, _, c, rfl, q1, q2⟩))
       clear h3' g3')
    | (go_at_call 30; refine HU.out.mono ?_; rintro e w2 ⟨rfl, hw2⟩; rw [hw2]; clear hw2)
    | fail "no arm")
   obtain ⟨tb0, pl0, ao0, cap0, hb0, hS0⟩ := h5.out.box
   have q2 := cell_in (j := 2) hb0 rfl
   rw [← HN.out] at q2
   clear hb0
   go_wp2_with fail
   go_loopw [26] (fun s wr => ∃ (k : Nat) (S' : Nat → Prop), k ≤ n ∧ s = .int .i64 k ∧ Hid (PgAt H ts ss st ⟨y.la, y.hi, y.js, upTo k (fun i d => Dk.go (svAt ss i) st now d) y.ds, y.up⟩ wr S') ∧ Hid (GrowS S5 S' w5 wr)) (fun s _ => n - (intOf s).toNat)
   case atStart => exact ⟨0, S5, Nat.zero_le _, rfl, Lib.hid (by rw [upTo_zero]; exact h5.out), Lib.hid (GrowS.of_below (Below.refl _ _))⟩
   case round =>
    obtain ⟨k, S', hk, rfl, HX, HG⟩ := hrel
    by_cases hlt : k < n
    ·have d0 : decide ((k : Int) < (n : Int)) = true := decide_eq_true (by omega)
     have d1 : (0 : Int) ≤ (k : Int) := by omega
     have d2 : (k : Int) < (n : Int) := by omega
     obtain ⟨G, B, R, A, cap, c2, hc, hd, hAG, hAH, hAS, hre⟩ := HX.out.desk (i := k) (by have := HN.out; omega)
     rw [← HN.out] at c2
     replace hc : DskC wr G (k * 3) B R (y.ds k) := by have e := upTo_at k (fun i d => Dk.go (svAt ss i) st now d) y.ds; rw [← e]; exact hc
     replace hd : DskAt B R (svAt ss k) st (y.ds k) wr A := by have e := upTo_at k (fun i d => Dk.go (svAt ss i) st now d) y.ds; rw [← e]; exact hd
     replace hre : ∀ {w' : World} {A' : Nat → Prop} {d' : Dk}, (d'.bud.isR = (y.ds k).bud.isR ∧ d'.taken = (y.ds k).taken) → DskAt B R (svAt ss k) st d' w' A' → GrowS A A' wr w' → ∃ S'', PgAt H ts ss st ⟨y.la, y.hi, y.js, updD (upTo k (fun i d => Dk.go (svAt ss i) st now d) y.ds) k d', y.up⟩ w' S'' ∧ GrowS S' S'' wr w' := fun he q g => hre (by have e := upTo_at k (fun i d => Dk.go (svAt ss i) st now d) y.ds; show _ = (upTo k (fun i d => Dk.go (svAt ss i) st now d) y.ds k).bud.isR ∧ _ = (upTo k (fun i d => Dk.go (svAt ss i) st now d) y.ds k).taken; rw [e]; exact he) q g
     have HC : Hid (Calls Tryz.prog 49 #[.pointer (some ⟨G, k * 3, none⟩), .int .i64 now] wr fun e w' => e = .returned (.tuple #[]) ∧ ∃ S'', PgAt H ts ss st ⟨y.la, y.hi, y.js, upTo (k + 1) (fun i d => Dk.go (svAt ss i) st now d) y.ds, y.up⟩ w' S'' ∧ GrowS S5 S'' w5 w') := Lib.hid (by
      refine (dskbegin_any wr G (k * 3) B R (svAt ss k) st now (y.ds k) A hd hc hAG h0 h1 (HBY.out k (by have := HN.out; omega))).mono ?_
      rintro e w' ⟨S', rfl, q3, q4⟩
      obtain ⟨S3, q5, q6⟩ := hre (d' := (fun i d => Dk.go (svAt ss i) st now d) k (y.ds k)) ⟨isR_go _ _ _ _ _, rfl⟩ q3 q4
      rw [upTo_next] at q5
      exact ⟨rfl, S3, q5, HG.out.trans q6⟩)
     clear hd hc hre hAG hAH hAS
     go_wp2_with (first
      | (go_at_call 49; refine HC.out.mono ?_; rintro e w9 ⟨rfl, S9, h9', g9'⟩; have h9 := Lib.hid h9'; have g9 := Lib.hid g9'; clear h9' g9')
      | fail "no arm")
     go_roundw
     case rel => exact ⟨k + 1, S9, by omega, by go_num, h9, g9⟩
     case measure => simp [intOf]; omega
    ·have d0 : decide ((k : Int) < (n : Int)) = false := decide_eq_false (by omega)
     have hkn : k = ss.length := by have := HN.out; omega
     obtain ⟨tb, pl, ao, cap, hbox, hSH⟩ := HX.out.box
     have hfin : PgAt H ts ss st (goX ss st now y) wr S' := HX.out.past (fun i hi => (if_pos (show i < k by omega)).symm)
     have HFIN := Lib.hid hfin
     have hz4 := hb4.out.size
     have hz5 := g5.out.size
     have hz6 := HG.out.size
     have hlt3 := (pq_own H ts ss st (misX ts x now) _).lt h3.out
     have hr4 : EvRow w3.heap.size (evK 2 (misL ts x.js now)) (.slice a4 n4 c4) wr := r4.out.hold (by omega) (fun k hk1 hk2 => by
      have y3 : ¬ S3 k := fun hs => by have := hlt3 k hs; omega
      have y5 : ¬ S5 k := g5.out.not hk2 y3
      exact (HG.out.block k (by omega) y5).trans (g5.out.block k hk2 y3))
     have hr5 : EvRow z5 (setE ts (misX ts x now)) (.slice a5 n5 c5) wr := r5.out.hold (by omega) (fun k hk1 hk2 => HG.out.block k hk2 (fun hs => by have := l5.out k hs; omega))
     have H7 : Hid (Calls Tryz.prog 50 #[.slice (some ⟨wr.heap.size, 0, none⟩) 2 2] (wr.alloc (.cells #[(.slice a4 n4 c4), (.slice a5 n5 c5)] 47)) fun e w' => ∃ v, e = .returned v ∧ Hid (EvRow w.heap.size (begE ts x now) v w') ∧ Hid (PgAt H ts ss st (begX ts ss st x now) w' S') ∧ Hid (GrowS S S' w w')) := Lib.hid (by
      have hbA := below1 wr (.cells #[(.slice a4 n4 c4), (.slice a5 n5 c5)] 47)
      obtain ⟨b4, d4, e4, o4⟩ := hr4.later hbA
      obtain ⟨b5, d5, e5, o5⟩ := hr5.later hbA
      have k4 : EvRow 0 (evK 2 (misL ts x.js now)) (.slice a4 n4 c4) (wr.alloc (.cells #[(.slice a4 n4 c4), (.slice a5 n5 c5)] 47)) := ⟨b4, d4, e4, o4.1, o4.2.imp id (fun ⟨g, cap, cur, b1, b2, b3⟩ => ⟨g, cap, cur, b1, Nat.zero_le _, b3⟩)⟩
      have k5 : EvRow 0 (setE ts (misX ts x now)) (.slice a5 n5 c5) (wr.alloc (.cells #[(.slice a4 n4 c4), (.slice a5 n5 c5)] 47)) := ⟨b5, d5, e5, o5.1, o5.2.imp id (fun ⟨g, cap, cur, b1, b2, b3⟩ => ⟨g, cap, cur, b1, Nat.zero_le _, b3⟩)⟩
      refine (concat_any (wr.alloc (.cells #[(.slice a4 n4 c4), (.slice a5 n5 c5)] 47)) 0 _ _ (.slice a4 n4 c4) (.slice a5 n5 c5) wr.heap.size k4 k5 (by rw [evK_len, ← HMM.out]; omega) (by unfold setE; split <;> simp) (heap_alloc_new _ _)).mono ?_
      rintro e w' ⟨v, rfl, q1, q2⟩
      have hb := hbA.trans (q2.mono hbA.size)
      obtain ⟨a6, c6, e6, o6⟩ := q1
      refine ⟨v, rfl, Lib.hid ?_, Lib.hid ?_, Lib.hid ?_⟩
      ·rw [HE.out.1]
       refine ⟨a6, c6, e6, o6.1, o6.2.imp id (fun ⟨g, cap, cur, b1, b2, b3⟩ => ⟨g, cap, cur, b1, ?_, b3⟩)⟩
       have := g3.out.size
       have := hbA.size
       omega
      ·rw [HE.out.2]
       exact (pq_own H ts ss st _ _).later HFIN.out hb
      ·exact g3.out.trans ((GrowS.of_below hb4.out).trans (g5.out.trans (HG.out.trans (GrowS.of_below hb)))))
     clear hbox hfin hz4 hz5 hz6 hlt3 hr4 hr5
     go_wp2_with (first
      | (go_at_call 50; refine H7.out.mono ?_; rintro e w7 ⟨v7, rfl, r7, h7, g7⟩)
      | fail "no arm")
     go_ret
     first | exact ⟨S', v7, rfl, r7.out, h7.out, g7.out⟩ | exact ⟨v7, rfl, r7.out, S', h7.out, g7.out⟩
end Go.Proofs.YtchbehnkkcjdgaaGreat
