/- The check of a system. -/
import Derived.Test.YtiojmekoemlmkaaValidG
namespace Go.Proofs.Ytiojmekoemlmkaa
open Go.ChangeShapes Go.WideShapes Go.ChangeAt Go.RowKit
set_option linter.unusedVariables false

theorem must_made (well : Bool) (err at_ : Int) (w : World) : Calls Try.prog 22 #[.bool well, .int .i64 err, .int .i64 at_] w fun e w' => ∃ cap, e = .returned (.func (.func 44) #[] cap) ∧ MustAt w' w.heap.size w'.heap.size (.func (.func 44) #[] cap) well err at_ ∧ Below w.heap.size w w' := by
  refine (must_any well err at_ w).mono ?_
  rintro e w' ⟨v, rfl, h, hb⟩
  obtain ⟨b0, b1, b2, rfl, _⟩ := id h
  exact ⟨_, rfl, h, hb⟩
theorem EachAt.shape {w : World} {lo hi : Nat} {v f : Value} {n : Nat} (h : EachAt w lo hi v n f) : ∃ cap, v = .func (.func 62) #[] cap := by
  obtain ⟨b0, b1, rfl, _⟩ := h
  exact ⟨_, rfl⟩
theorem win_laid (fr mg : Int) (wa pa ca : Option Addr) (wn wc pn pc cn cc : Nat) (w : World) :
    Calls Try.prog 24 #[.agg #[.int .i64 fr, .int .i64 mg, .slice wa wn wc, .slice pa pn pc, .slice ca cn cc]] w fun e w' => ∃ cap be, e = .returned (.func (.func 62) #[] cap) ∧ WinAt w' w.heap.size w'.heap.size be (.func (.func 62) #[] cap) fr mg wa wn wc pa pn pc ca cn cc ∧ Below w.heap.size w w' := by
  refine (win_made fr mg wa pa ca wn wc pn pc cn cc w).mono ?_
  rintro e w' ⟨v, be, rfl, h, hb⟩
  obtain ⟨_, _, he, _⟩ := id h
  obtain ⟨cap, rfl⟩ := he.shape
  exact ⟨cap, be, rfl, h, hb⟩
theorem part_laid (fr mg : Int) (wa pa ca : Option Addr) (wn wc pn pc cn cc : Nat) (w : World) :
    Calls Try.prog 25 #[.agg #[.int .i64 fr, .int .i64 mg, .slice wa wn wc, .slice pa pn pc, .slice ca cn cc]] w fun e w' => ∃ cap, e = .returned (.func (.func 62) #[] cap) ∧ partAt w' w.heap.size w'.heap.size (.func (.func 62) #[] cap) fr mg wa wn wc pa pn pc ca cn cc ∧ Below w.heap.size w w' := by
  refine (part_made fr mg wa pa ca wn wc pn pc cn cc w).mono ?_
  rintro e w' ⟨v, rfl, h, hb⟩
  obtain ⟨_, _, he, _⟩ := id h
  obtain ⟨cap, rfl⟩ := he.shape
  exact ⟨cap, rfl, h, hb⟩
theorem chan_laid (fr mg : Int) (wa pa ca : Option Addr) (wn wc pn pc cn cc : Nat) (w : World) :
    Calls Try.prog 26 #[.agg #[.int .i64 fr, .int .i64 mg, .slice wa wn wc, .slice pa pn pc, .slice ca cn cc]] w fun e w' => ∃ cap, e = .returned (.func (.func 62) #[] cap) ∧ chanAt w' w.heap.size w'.heap.size (.func (.func 62) #[] cap) fr mg wa wn wc pa pn pc ca cn cc ∧ Below w.heap.size w w' := by
  refine (chan_made fr mg wa pa ca wn wc pn pc cn cc w).mono ?_
  rintro e w' ⟨v, rfl, h, hb⟩
  obtain ⟨_, _, he, _⟩ := id h
  obtain ⟨cap, rfl⟩ := he.shape
  exact ⟨cap, rfl, h, hb⟩
theorem MustAt.wider {w : World} {lo hi lo' hi' : Nat} {v : Value} {well : Bool} {err at_ : Int} (h : MustAt w lo hi v well err at_) (h1 : lo' ≤ lo) (h2 : hi ≤ hi') : MustAt w lo' hi' v well err at_ := by
  obtain ⟨b0, b1, b2, e, g0, g1, g2, c⟩ := h
  exact ⟨b0, b1, b2, e, ⟨by omega, by omega⟩, ⟨by omega, by omega⟩, ⟨by omega, by omega⟩, c⟩
theorem WinAt.wider {w : World} {lo hi be lo' hi' : Nat} {v : Value} {fr mg : Int} {wa : Option Addr} {wn wc : Nat} {pa : Option Addr} {pn pc : Nat} {ca : Option Addr} {cn cc : Nat} (h : WinAt w lo hi be v fr mg wa wn wc pa pn pc ca cn cc) (h1 : lo' ≤ lo) (h2 : hi ≤ hi') : WinAt w lo' hi' be v fr mg wa wn wc pa pn pc ca cn cc := by
  obtain ⟨bc, g, he, c⟩ := h
  exact ⟨bc, ⟨by omega, g.2.1, by omega⟩, he.wider (Nat.le_refl _) h2, c⟩
theorem partAt.wider {w : World} {lo hi lo' hi' : Nat} {v : Value} {fr mg : Int} {wa : Option Addr} {wn wc : Nat} {pa : Option Addr} {pn pc : Nat} {ca : Option Addr} {cn cc : Nat} (h : partAt w lo hi v fr mg wa wn wc pa pn pc ca cn cc) (h1 : lo' ≤ lo) (h2 : hi ≤ hi') : partAt w lo' hi' v fr mg wa wn wc pa pn pc ca cn cc := by
  obtain ⟨bc, g, he, c⟩ := h
  exact ⟨bc, ⟨by omega, by omega⟩, he.wider h1 h2, c⟩
theorem chanAt.wider {w : World} {lo hi lo' hi' : Nat} {v : Value} {fr mg : Int} {wa : Option Addr} {wn wc : Nat} {pa : Option Addr} {pn pc : Nat} {ca : Option Addr} {cn cc : Nat} (h : chanAt w lo hi v fr mg wa wn wc pa pn pc ca cn cc) (h1 : lo' ≤ lo) (h2 : hi ≤ hi') : chanAt w lo' hi' v fr mg wa wn wc pa pn pc ca cn cc := by
  obtain ⟨bc, g, he, c⟩ := h
  exact ⟨bc, ⟨by omega, by omega⟩, he.wider h1 h2, c⟩
theorem bel_next {a b d : World} (h : Below a.heap.size a b) (k : Below b.heap.size b d) : Below a.heap.size a d := h.trans (k.mono h.size)
theorem eight_join {V w1 w2 w3 w4 w5 w6 w7 w8 : World} {be : Nat} {v1 v2 v3 v4 v5 v6 v7 v8 : Value} {c : Cf} {wa pa ca : Option Addr} {wc pc cc : Nat}
    (m1 : MustAt w1 V.drew.heap.size w1.heap.size v1 (inB c.frame 1 256) 20 0) (b1 : Below V.drew.heap.size V.drew w1)
    (m2 : MustAt w2 w1.heap.size w2.heap.size v2 (inB c.margin 0 8) 20 0) (b2 : Below w1.heap.size w1 w2)
    (m3 : MustAt w3 w2.heap.size w3.heap.size v3 (inB (c.ps.length : Int) 1 6) 1 0) (b3 : Below w2.heap.size w2 w3)
    (m4 : MustAt w4 w3.heap.size w4.heap.size v4 (decide ((c.ws.length : Int) ≤ 32)) 21 32) (b4 : Below w3.heap.size w3 w4)
    (m5 : WinAt w5 w4.heap.size w5.heap.size be v5 c.frame c.margin wa c.ws.length wc pa c.ps.length pc ca c.cs.length cc) (b5 : Below w4.heap.size w4 w5)
    (m6 : partAt w6 w5.heap.size w6.heap.size v6 c.frame c.margin wa c.ws.length wc pa c.ps.length pc ca c.cs.length cc) (b6 : Below w5.heap.size w5 w6)
    (m7 : MustAt w7 w6.heap.size w7.heap.size v7 (decide ((c.cs.length : Int) ≤ 8)) 25 8) (b7 : Below w6.heap.size w6 w7)
    (m8 : chanAt w8 w7.heap.size w8.heap.size v8 c.frame c.margin wa c.ws.length wc pa c.ps.length pc ca c.cs.length cc) (b8 : Below w7.heap.size w7 w8) :
    Eight w8 V.heap.size be v1 v2 v3 v4 v5 v6 v7 v8 c wa pa ca wc pc cc := by
  have s0 : V.drew.heap.size = V.heap.size := rfl
  have s1 := b1.size; have s2 := b2.size; have s3 := b3.size; have s4 := b4.size; have s5 := b5.size; have s6 := b6.size; have s7 := b7.size; have s8 := b8.size
  obtain ⟨bc, hg, _⟩ := id m5
  have k7 := b8
  have k6 := bel_next b7 k7
  have k5 := bel_next b6 k6
  have k4 := bel_next b5 k5
  have k3 := bel_next b4 k4
  have k2 := bel_next b3 k3
  have k1 := bel_next b2 k2
  have sm : ∀ {a : World} {lo : Nat}, Below a.heap.size a w8 → SameIn a w8 lo a.heap.size := fun h => SameIn.of_below h (Nat.le_refl _)
  exact ⟨by omega, by omega, (m1.keep (sm k1)).wider (by omega) (by omega), (m2.keep (sm k2)).wider (by omega) (by omega), (m3.keep (sm k3)).wider (by omega) (by omega), (m4.keep (sm k4)).wider (by omega) (by omega),
    (m5.keep (sm k5)).wider (by omega) (by omega), (m6.keep (sm k6)).wider (by omega) (by omega), (m7.keep (sm k7)).wider (by omega) (by omega), m8.wider (by omega) (by omega)⟩
set_option maxRecDepth 100000 in
set_option maxHeartbeats 8000000 in
theorem check_sys {w : World} {hi : Nat} {c : Cf} {pvs : List Pv} {wa pa ca : Option Addr} {wc pc cc : Nat} (f : Few c) (h : SysL w hi c pvs wa pa ca wc pc cc) (hh : hi ≤ w.heap.size) (hin : ∀ x ∈ c.ws, x.In) :
    Calls Try.prog 8 #[.agg #[.int .i64 c.frame, .int .i64 c.margin, .slice wa c.ws.length wc, .slice pa c.ps.length pc, .slice ca c.cs.length cc]] w fun e w' => e = .returned (.tuple #[.int .i64 (checkV c).1, .int .i64 (checkV c).2]) ∧ Below w.heap.size w w' := by
  obtain ⟨V, hV⟩ : ∃ V, V = w.alloc (.cells #[.int .i64 c.frame, .int .i64 c.margin, .slice wa c.ws.length wc, .slice pa c.ps.length pc, .slice ca c.cs.length cc] 36) := ⟨_, rfl⟩
  have hB1 : Below w.heap.size w V := by rw [hV]; exact below1 _ _
  have hblk : V.heap[w.heap.size]? = some (.cells #[.int .i64 c.frame, .int .i64 c.margin, .slice wa c.ws.length wc, .slice pa c.ps.length pc, .slice ca c.cs.length cc] 36 (0, 0)) := by rw [hV]; exact heap_alloc_new _ _
  have ks : ∀ W : World, Below V.heap.size V W → (Below V.heap.size V W ∧ W.cell? ⟨w.heap.size, 0, none⟩ = some (.int .i64 c.frame) ∧ W.cell? ⟨w.heap.size, 1, none⟩ = some (.int .i64 c.margin) ∧ W.cell? ⟨w.heap.size, 2, none⟩ = some (.slice wa c.ws.length wc) ∧ W.cell? ⟨w.heap.size, 3, none⟩ = some (.slice pa c.ps.length pc) ∧ W.cell? ⟨w.heap.size, 4, none⟩ = some (.slice ca c.cs.length cc)) := by
    intro W g
    have q := fun (i : Nat) (u : Value) hu => (g.cell (p := ⟨w.heap.size, i, none⟩) (lt_of_block hblk)).trans (cell_in (j := i) (u := u) hblk hu)
    exact ⟨g, q 0 _ rfl, q 1 _ rfl, q 2 _ rfl, q 3 _ rfl, q 4 _ rfl⟩
  have KS := Lib.hid ks; have HF := Lib.hid f; have HS := Lib.hid h; have HIN := Lib.hid hin; have HB1 := Lib.hid hB1
  have HV := Lib.hid hV
  clear ks f h hin hB1 hblk hV
  go_enter Try.func8, Try.ntmps8
  go_wp2_with fail
  rw [← HV.out]
  obtain ⟨_, k0, k1, k2, k3, k4⟩ := KS.out _ (Below.refl _ _)
  go_region_held3 (fun W => Below V.heap.size V W ∧ W.cell? ⟨w.heap.size, 0, none⟩ = some (.int .i64 c.frame) ∧ W.cell? ⟨w.heap.size, 1, none⟩ = some (.int .i64 c.margin) ∧ W.cell? ⟨w.heap.size, 2, none⟩ = some (.slice wa c.ws.length wc) ∧ W.cell? ⟨w.heap.size, 3, none⟩ = some (.slice pa c.ps.length pc) ∧ W.cell? ⟨w.heap.size, 4, none⟩ = some (.slice ca c.cs.length cc))
    (first | exact KS.out _ ((Below.refl _ _).drew) | exact KS.out _ (by assumption) | exact KS.out _ (b_alloc (by assumption) (Nat.le_refl _) _))
    (first
      | (go_at_call 23; refine (within_any _ _ _ _).mono ?_; rintro e w' ⟨rfl, rfl⟩)
      | (go_at_call 22; have _z := m6; refine (must_made _ _ _ _).mono ?_; rintro e w7 ⟨v7, rfl, m7, b7⟩; have n7 : Below V.heap.size V w7 := bel_then (by first | assumption | exact Below.refl _ _ | exact (Below.refl _ _).drew) (Nat.le_refl _) b7)
      | (go_at_call 22; have _z := m3; refine (must_made _ _ _ _).mono ?_; rintro e w4 ⟨v4, rfl, m4, b4⟩; have n4 : Below V.heap.size V w4 := bel_then (by first | assumption | exact Below.refl _ _ | exact (Below.refl _ _).drew) (Nat.le_refl _) b4)
      | (go_at_call 22; have _z := m2; refine (must_made _ _ _ _).mono ?_; rintro e w3 ⟨v3, rfl, m3, b3⟩; have n3 : Below V.heap.size V w3 := bel_then (by first | assumption | exact Below.refl _ _ | exact (Below.refl _ _).drew) (Nat.le_refl _) b3)
      | (go_at_call 22; have _z := m1; refine (must_made _ _ _ _).mono ?_; rintro e w2 ⟨v2, rfl, m2, b2⟩; have n2 : Below V.heap.size V w2 := bel_then (by first | assumption | exact Below.refl _ _ | exact (Below.refl _ _).drew) (Nat.le_refl _) b2)
      | (go_at_call 22; refine (must_made _ _ _ _).mono ?_; rintro e w1 ⟨v1, rfl, m1, b1⟩; have n1 : Below V.heap.size V w1 := bel_then (by first | assumption | exact Below.refl _ _ | exact (Below.refl _ _).drew) (Nat.le_refl _) b1)
      | (go_at_call 24; refine (win_laid _ _ _ _ _ _ _ _ _ _ _ _).mono ?_; rintro e w5 ⟨v5, be, rfl, m5, b5⟩; have n5 : Below V.heap.size V w5 := bel_then (by first | assumption | exact Below.refl _ _ | exact (Below.refl _ _).drew) (Nat.le_refl _) b5)
      | (go_at_call 25; refine (part_laid _ _ _ _ _ _ _ _ _ _ _ _).mono ?_; rintro e w6 ⟨v6, rfl, m6, b6⟩; have n6 : Below V.heap.size V w6 := bel_then (by first | assumption | exact Below.refl _ _ | exact (Below.refl _ _).drew) (Nat.le_refl _) b6)
      | (go_at_call 26; refine (chan_laid _ _ _ _ _ _ _ _ _ _ _ _).mono ?_; rintro e w8 ⟨v8, rfl, m8, b8⟩; have n8 : Below V.heap.size V w8 := bel_then (by first | assumption | exact Below.refl _ _ | exact (Below.refl _ _).drew) (Nat.le_refl _) b8)
      | (go_at_call 21; refine (eight_first (eight_join m1 b1 m2 b2 m3 b3 m4 b4 m5 b5 m6 b6 m7 b7 m8 b8) (below1 _ _) (heap_alloc_new _ _) (Nat.le_refl _) HF.out (HS.out.keep (SameIn.of_below (HB1.out.trans (n8.mono HB1.out.size)) hh)) (Nat.le_trans hh HB1.out.size) HIN.out).mono ?_; rintro e w9 ⟨rfl, hb9⟩; have n9 : Below V.heap.size V w9 := (b_alloc n8 (Nat.le_refl _) _).trans hb9))
  go_wp2_with fail
  go_ret2
  exact ⟨rfl, HB1.out.trans (n9.mono HB1.out.size)⟩
end Go.Proofs.Ytiojmekoemlmkaa
