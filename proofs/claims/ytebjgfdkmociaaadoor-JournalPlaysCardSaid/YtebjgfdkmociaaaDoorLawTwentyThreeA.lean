/- JournalPlays. -/
import Derived.Test.YtebjgfdkmociaaaDoorJrnK
import Derived.Test.YtebjgfdkmociaaaDoorJrnO
import Derived.Test.YtebjgfdkmociaaaDoorJrnS
import Derived.Test.YtebjgfdkmociaaaDoorJrnR
import Derived.Test.YtebjgfdkmociaaaDoorJrnF
import Derived.Test.YtebjgfdkmociaaaDoorJrnG
import Derived.Test.YtebjgfdkmociaaaDoorHand
import Derived.Deep.RegionHeld3
namespace Go.Proofs.YtebjgfdkmociaaaDoor
open Go.ChangeShapes Go.WideShapes Go.ChangeAt Go.RowKit
set_option linter.unusedVariables false

theorem wpAnyH_takeD {P : Program} {md : Region.Mode} {ops : Array Oper} {Q : Exit → Act → World → Prop} {S : World → Prop} {i : Nat} {oi : Oper} {d : Option Tmp} {v : Value} {fuel : Nat} {listed : Array Bool} {a : Act} {w : World} (hi : ops[i]? = some oi) (hd : oi.dst = d)
    (hs : Region.noSelect ops = true) (hf : Region.free md ops listed i = true) (hr : (Region.ready md ops listed).contains i = true)
    (hQ : ∀ c a w, Q (.panic c) (a.put d v) w → Q (.panic c) a w) (hy : YieldsIf P ops S oi v a) (hS : S w)
    (h : wpAnyH P md ops Q S fuel (listed.setIfInBounds i true) (a.put d v) w) : wpAnyH P md ops Q S (fuel + 1) listed a w := wpAnyH_takeE hi hd hs hf hr hQ hy hS h
/-- From here on a stronger condition holds. -/
theorem wpAnyH_turn {P : Program} {md : Region.Mode} {ops : Array Oper} {Q : Exit → Act → World → Prop} {S S' : World → Prop} (hi : ∀ W, S' W → S W) : ∀ (fuel : Nat) (listed : Array Bool) (a : Act) (w : World), wpAnyH P md ops Q S' fuel listed a w → wpAnyH P md ops Q S fuel listed a w
  | 0, _, _, _, h => h
  | fuel + 1, _, _, _, h => ⟨h.1, fun i hr => wpOp_mono (fun a' w' h' => ⟨hi w' h'.1, wpAnyH_turn hi fuel _ a' w' h'.2⟩) (h.2 i hr)⟩
/-- Both logs, alike, behind k rows. -/
structure Pl (w : World) (H G R : Nat) (l : List Ent) (x : Int) (k : Nat) (S T : Nat → Prop) (W : World) : Prop where
  b : Both w W (LgAt H R l x) (DgAt G R l x) S T
  lr : l.length ≤ R
  ll : l.length ≤ 40 * k
  xb : 0 ≤ x ∧ x ≤ 40 * k
set_option maxRecDepth 100000 in
set_option maxHeartbeats 16000000 in
theorem JournalPlays_walk (room : Int) (a1 : Option Addr) (n1 c1 : Nat) (a2 : Option Addr) (n2 c2 : Nat) (w : World) (hT : WdOk w) (l1 : List Er) (l2 : List Int) (_hr : I64 room) (hn1 : l1.length = n1) (hl1 : Lies w 0 w.heap.size (.slice a1 n1 c1) n1 1 (l1.flatMap Er.cells)) (hi1 : ∀ x ∈ l1, x.Ok w) (hn2 : l2.length = n2) (hl2 : Lies w 0 w.heap.size (.slice a2 n2 c2) n2 1 (l2.flatMap intCells)) (_hi2 : ∀ x ∈ l2, I64 x) :
    Calls Tryd.prog 3 #[.int .i64 room, .slice a1 n1 c1, .slice a2 n2 c2] w fun e w' => e = .returned (.bool true) ∧ Below w.heap.size w w' := by
  have HT := Lib.hid hT
  have HK := Lib.hid (fun (W : World) (hW : Below w.heap.size w W) => knows23_any W (HT.out.later hW))
  have HB0 : Hid (Below w.heap.size w w) := Lib.hid (Below.refl _ _)
  by_cases hb1 : 40 < n1
  · have t1 : decide ((40 : Int) < (n1 : Int)) = true := decide_eq_true (by omega)
    clear hl1 hl2 hn1 hn2 hb1 hT hi1
    go_enter Tryd.func3, Tryd.ntmps3
    go_wp2_with (go_at_call 5; refine (HK.out _ HB0.out).mono ?_; rintro e w3 ⟨rfl, hb3⟩)
    go_ret
    exact ⟨rfl, hb3⟩
  have t1 : decide ((40 : Int) < (n1 : Int)) = false := decide_eq_false (by omega)
  by_cases hb2 : 20 < n2
  · have t2 : decide ((20 : Int) < (n2 : Int)) = true := decide_eq_true (by omega)
    clear hl1 hl2 hn1 hn2 hb1 hb2 hT hi1
    go_enter Tryd.func3, Tryd.ntmps3
    go_wp2_with (go_at_call 5; refine (HK.out _ HB0.out).mono ?_; rintro e w3 ⟨rfl, hb3⟩)
    go_ret
    exact ⟨rfl, hb3⟩
  have t2 : decide ((20 : Int) < (n2 : Int)) = false := decide_eq_false (by omega)
  have s1 : n1 ≤ 40 := by omega
  have s2 : n2 ≤ 20 := by omega
  have KA := Lib.hid (ers_read hn1 hl1 hi1)
  have HK2 : Hid (∀ W : World, Below w.heap.size w W → Lies W 0 W.heap.size (.slice a2 n2 c2) n2 1 (l2.flatMap intCells)) := Lib.hid (fun W hW => (hl2.keep (SameIn.of_below hW (Nat.le_refl _))).wider (Nat.zero_le _) hW.size)
  have HN2 := Lib.hid hn2
  clear hl1 hl2 hn1 hn2 hb1 hb2 hT hi1
  obtain ⟨R, hR⟩ : ∃ R, roomJ room = R := ⟨_, rfl⟩
  have HNJ := Lib.hid (fun W : World => newLg_any room W)
  have HNR := Lib.hid (fun W : World => newDg_any room W)
  have hR6 : R ≤ 65536 := by rw [← hR]; exact roomJ_le _
  rw [hR] at HNJ HNR
  clear hR
  go_enter Tryd.func3, Tryd.ntmps3
  go_upto_region 5 with (first
    | (go_at_call 7; have _z := q2; refine (HNR.out _).mono ?_; rintro e w3 ⟨G, rfl, r1, r2, r3⟩; have q3 := Lib.hid (And.intro r1 (And.intro r2 r3)); clear r1 r2 r3)
    | (go_at_call 6; have _z := hb1; refine (HNJ.out _).mono ?_; rintro e w2 ⟨H, rfl, r1, r2, r3⟩; have q2 := Lib.hid (And.intro r1 (And.intro r2 r3)); clear r1 r2 r3)
    | (go_at_call 5; refine (HK.out _ HB0.out).mono ?_; rintro e w1 ⟨rfl, hb1'⟩; have hb1 := Lib.hid hb1'; clear hb1')
    | fail "no arm")
  have HP0 : Hid (Pl w H G R [] 0 0 (fun k => k = H) (fun k => k = G) w3) := Lib.hid (by
    obtain ⟨p1, p2, p3⟩ := q2.out
    obtain ⟨r1, r2, r3⟩ := q3.out
    have z1 := hb1.out.size
    have z2 := p3.size
    exact ⟨⟨(LgAt_own _ _ _ _).later p1 r3, r1, LgAt_own _ _ _ _, DgAt_own _ _ _ _, fun k h1 h2 => by have := (LgAt_own _ _ _ _).lt p1 k h1; omega, fun k hk => by omega, fun k hk => by omega, (hb1.out.trans (p3.mono z1)).trans (r3.mono (Nat.le_trans z1 z2))⟩, Nat.zero_le _, Nat.zero_le _, by omega⟩)
  clear q2 q3 hb1
  go_wp2_with fail
  go_loopw [9] (fun s wr => ∃ (k : Nat) (l : List Ent) (x : Int) (S T : Nat → Prop), k ≤ n1 ∧ s = .int .i64 k ∧ Hid (Pl w H G R l x k S T wr)) (fun s _ => n1 - (intOf s).toNat)
  case atStart => exact ⟨0, [], 0, _, _, Nat.zero_le _, rfl, HP0⟩
  case round =>
    clear HP0
    obtain ⟨k, l, x, S, T, hk, rfl, HP⟩ := hrel
    by_cases hlt : k < n1
    · have d0 : decide ((k : Int) < (n1 : Int)) = true := decide_eq_true (by omega)
      have d1 : (0 : Int) ≤ (k : Int) := by omega
      have d2 : (k : Int) < (n1 : Int) := by omega
      obtain ⟨bb, off, oa, oc, rfl, hcell, hbb, hles⟩ := KA.out k hlt
      obtain ⟨es, hes⟩ : ∃ es, es = (erAt l1 k).l := ⟨_, rfl⟩
      rw [← hes] at hcell hles
      obtain ⟨m, hm⟩ : ∃ m, m = es.length := ⟨_, rfl⟩
      rw [← hm] at hcell hles
      have KC : Hid (∀ W : World, Below w.heap.size w W → W.cell? ⟨bb, off + k, none⟩ = some (.slice oa m oc)) := Lib.hid (fun W hW => hcell W (SameIn.of_below hW (Nat.le_refl _)))
      have KE : Hid (∀ W : World, Below w.heap.size w W → Lies W 0 w.heap.size (.slice oa m oc) m 4 (es.flatMap Ent.cells)) := Lib.hid (fun W hW => hles.keep (SameIn.of_below hW (Nat.le_refl _)))
      have HES := Lib.hid hm.symm
      have x0 := KC.out wr HP.out.b.b
      clear hes hm hcell hles hbb
      by_cases hm40 : 40 < m
      · have t3 : decide ((40 : Int) < (m : Int)) = true := decide_eq_true (by omega)
        go_wp2_with fail
        go_ret
        exact ⟨rfl, HP.out.b.b⟩
      · have t3 : decide ((40 : Int) < (m : Int)) = false := decide_eq_false (by omega)
        have hm41 : m ≤ 40 := by omega
        clear hm40
        obtain ⟨f, hf⟩ : ∃ f, fitJ R l.length m = f := ⟨_, rfl⟩
        obtain ⟨l', hl'⟩ : ∃ l', l ++ es.take f = l' := ⟨_, rfl⟩
        obtain ⟨x', hx'⟩ : ∃ x', x + ((m : Int) - (f : Int)) = x' := ⟨_, rfl⟩
        have HPB : Hid (l'.length ≤ R ∧ l'.length ≤ 40 * (k + 1) ∧ 0 ≤ x' ∧ x' ≤ 40 * ((k + 1 : Nat) : Int)) := Lib.hid (by
          have h1 := HP.out.lr
          have h2 := HP.out.ll
          have h3 := HP.out.xb
          have h4 : f ≤ m ∧ l.length + f ≤ R := by rw [← hf]; unfold fitJ; omega
          have h5 : l'.length ≤ l.length + f := by rw [← hl', List.length_append, List.length_take]; omega
          refine ⟨by omega, by omega, by omega, by omega⟩)
        have HOW : Hid (Calls Tryd.prog 9 #[.slice oa m oc] wr.drew fun e w' => ∃ ao cap, e = .returned (.slice ao m cap) ∧ (Lies w' 0 w'.heap.size (.slice ao m cap) m 4 (es.flatMap Ent.cells) ∧ m ≤ cap ∧ Both w w' (LgAt H R l x) (DgAt G R l x) S T)) := Lib.hid ((jowns_any oa m oc wr.drew es HES.out (by omega) (((KE.out wr.drew HP.out.b.b.drew).wider (Nat.zero_le _) HP.out.b.b.size))).mono (by
          rintro e w' ⟨ao, cap, rfl, q1, q2⟩
          refine ⟨ao, cap, rfl, (Lies.of_owns q1).wider (Nat.zero_le _) (Nat.le_refl _), ?_, (HP.out.b.later (Below.refl _ _).drew).later q2⟩
          rcases q1.2 with ⟨_, h0⟩ | ⟨_, _, _, hv, _, _, h, _⟩
          · omega
          · cases hv; exact h))
        have HADD : Hid (∀ (W : World) (ao : Option Addr) (cap : Nat), (Lies W 0 W.heap.size (.slice ao m cap) m 4 (es.flatMap Ent.cells) ∧ m ≤ cap ∧ Both w W (LgAt H R l x) (DgAt G R l x) S T) → Calls Tryd.prog 8 #[.pointer (some ⟨H, 0, none⟩), .slice ao m cap] W fun e w' => ∃ S', e = .returned (.int .i64 f) ∧ Both w w' (LgAt H R l' x') (DgAt G R l x) S' T) := Lib.hid (fun W ao cap ⟨q1, q2, q3⟩ => (jAdd_any q3.h ao m cap es HES.out q1 hR6 HP.out.lr (by omega) q2 (by have := HP.out.xb; omega)).mono (by
          rintro e w' ⟨S', rfl, p1, p2⟩
          rw [hf, hl', hx'] at p1
          exact ⟨S', by rw [hf], q3.prog p1 p2 (LgAt_own _ _ _ _)⟩))
        have HRADD : Hid (∀ (W : World) (S' : Nat → Prop), Both w W (LgAt H R l' x') (DgAt G R l x) S' T → Calls Tryd.prog 10 #[.pointer (some ⟨G, 0, none⟩), .slice oa m oc] W fun e w' => ∃ T' a5 c5, e = .returned (.int .i64 f) ∧ (Both w w' (LgAt H R l' x') (DgAt G R l' x') S' T' ∧ DgP w' G T' R l' x' a5 c5)) := Lib.hid (fun W S' q3 => (rAdd_any q3.r oa m oc es HES.out ((KE.out W q3.b).wider (Nat.zero_le _) q3.b.size) (fun hm0 b hb g o he hg => by
            subst he
            rcases (KE.out W q3.b) with ⟨a', c', e', h1, h2, h3⟩
            cases e'
            have hbz := q3.rb b hb
            rcases h3 with h3 | ⟨b', o', h3, h4, h5, _⟩
            · omega
            · cases h3; omega) hR6 HP.out.lr (by omega) (by have := HP.out.xb; omega)).mono (by
          rintro e w' ⟨T', rfl, p1, p2⟩
          rw [hf, hl', hx'] at p1
          have h8 := q3.ref p1 p2 (DgAt_own _ _ _ _)
          obtain ⟨a5, c5, h9⟩ := p1
          exact ⟨T', a5, c5, by rw [hf], h8, h9⟩))
        obtain ⟨q', hq'⟩ : ∃ q', q' = l'.length := ⟨_, rfl⟩
        have HLEN : Hid (∀ (W : World) (S' T' : Nat → Prop), Both w W (LgAt H R l' x') (DgAt G R l' x') S' T' → Calls Tryd.prog 11 #[.pointer (some ⟨H, 0, none⟩)] W fun e w' => e = .returned (.int .i64 (q' : Nat)) ∧ w' = W) := Lib.hid (fun W S' T' q => by rw [hq']; exact jLen_any q.h)
        have HLOST : Hid (∀ (W : World) (S' T' : Nat → Prop), Both w W (LgAt H R l' x') (DgAt G R l' x') S' T' → Calls Tryd.prog 12 #[.pointer (some ⟨H, 0, none⟩)] W fun e w' => e = .returned (.int .i64 x') ∧ w' = W) := Lib.hid (fun W S' T' q => jLost_any q.h)
        have HQ := Lib.hid hq'
        clear hf hl' hx' hq'
        go_upto_region 10 with fail
        refine wp_region_held_drew (S := (fun W => W.cell? ⟨bb, off + k, none⟩ = some (.slice oa m oc))) (by kernel_rfl) ?_ (fun hHeld => ?_)
        · exact KC.out _ HP.out.b.b.drew
        refine wpAnyH_takeD (i := 0) (d := some 39) (v := ?_) rfl rfl (by kernel_rfl) (by kernel_rfl) (by kernel_rfl) (fun _ _ _ h => h) (Or.inl ⟨by rfl, ?_⟩) (by assumption) ?_
        rotate_left
        · intro w hSw
          (try dsimp only at hSw)
          go_simp
          try (with_reducible rfl)
        simp only [Act.put, List.setIfInBounds_toArray, List.set_cons_zero, List.set_cons_succ]
        refine wpAnyH_takeD (i := 1) (d := some 40) (v := ?_) rfl rfl (by kernel_rfl) (by kernel_rfl) (by kernel_rfl) (fun _ _ _ h => h) (Or.inl ⟨by rfl, ?_⟩) (by assumption) ?_
        rotate_left
        · intro w hSw
          (try dsimp only at hSw)
          go_simp
          try (with_reducible rfl)
        simp only [Act.put, List.setIfInBounds_toArray, List.set_cons_zero, List.set_cons_succ]
        refine wpAnyH_takeD (i := 2) (d := some 41) (v := ?_) rfl rfl (by kernel_rfl) (by kernel_rfl) (by kernel_rfl) (fun _ _ _ h => h) (Or.inl ⟨by rfl, ?_⟩) (by assumption) ?_
        rotate_left
        · intro w hSw
          (try dsimp only at hSw)
          go_simp
          try (with_reducible rfl)
        simp only [Act.put, List.setIfInBounds_toArray, List.set_cons_zero, List.set_cons_succ]
        refine wpAnyH_takeD (i := 3) (d := some 42) (v := ?_) rfl rfl (by kernel_rfl) (by kernel_rfl) (by kernel_rfl) (fun _ _ _ h => h) (Or.inl ⟨by rfl, ?_⟩) (by assumption) ?_
        rotate_left
        · intro w hSw
          (try dsimp only at hSw)
          go_simp
          try (with_reducible rfl)
        simp only [Act.put, List.setIfInBounds_toArray, List.set_cons_zero, List.set_cons_succ]
        refine wpAnyH_takeD (i := 4) (d := some 43) (v := ?_) rfl rfl (by kernel_rfl) (by kernel_rfl) (by kernel_rfl) (fun _ _ _ h => h) (Or.inl ⟨by rfl, ?_⟩) (by assumption) ?_
        rotate_left
        · intro w hSw
          (try dsimp only at hSw)
          go_simp
          try (with_reducible rfl)
        simp only [Act.put, List.setIfInBounds_toArray, List.set_cons_zero, List.set_cons_succ]
        refine wpAnyH_takeD (i := 7) (d := some 46) (v := ?_) rfl rfl (by kernel_rfl) (by kernel_rfl) (by kernel_rfl) (fun _ _ _ h => h) (Or.inl ⟨by rfl, ?_⟩) (by assumption) ?_
        rotate_left
        · intro w hSw
          (try dsimp only at hSw)
          go_simp
          try (with_reducible rfl)
        simp only [Act.put, List.setIfInBounds_toArray, List.set_cons_zero, List.set_cons_succ]
        refine wpAnyH_takeD (i := 8) (d := some 47) (v := ?_) rfl rfl (by kernel_rfl) (by kernel_rfl) (by kernel_rfl) (fun _ _ _ h => h) (Or.inl ⟨by rfl, ?_⟩) (by assumption) ?_
        rotate_left
        · intro w hSw
          (try dsimp only at hSw)
          go_simp
          try (with_reducible rfl)
        simp only [Act.put, List.setIfInBounds_toArray, List.set_cons_zero, List.set_cons_succ]
        refine wpAnyH_takeD (i := 9) (d := some 48) (v := ?_) rfl rfl (by kernel_rfl) (by kernel_rfl) (by kernel_rfl) (fun _ _ _ h => h) (Or.inl ⟨by rfl, ?_⟩) (by assumption) ?_
        rotate_left
        · intro w hSw
          (try dsimp only at hSw)
          go_simp
          try (with_reducible rfl)
        simp only [Act.put, List.setIfInBounds_toArray, List.set_cons_zero, List.set_cons_succ]
        refine wpAnyH_takeD (i := 10) (d := some 49) (v := ?_) rfl rfl (by kernel_rfl) (by kernel_rfl) (by kernel_rfl) (fun _ _ _ h => h) (Or.inl ⟨by rfl, ?_⟩) (by assumption) ?_
        rotate_left
        · intro w hSw
          (try dsimp only at hSw)
          go_simp
          try (with_reducible rfl)
        simp only [Act.put, List.setIfInBounds_toArray, List.set_cons_zero, List.set_cons_succ]
        refine wpAnyH_takeD (i := 11) (d := some 50) (v := ?_) rfl rfl (by kernel_rfl) (by kernel_rfl) (by kernel_rfl) (fun _ _ _ h => h) (Or.inl ⟨by rfl, ?_⟩) (by assumption) ?_
        rotate_left
        · intro w hSw
          (try dsimp only at hSw)
          go_simp
          try (with_reducible rfl)
        simp only [Act.put, List.setIfInBounds_toArray, List.set_cons_zero, List.set_cons_succ]
        refine wpAnyH_ready (rs := [5]) (by kernel_rfl) (by simp) ?_
        refine AllReadyH.cons rfl (fun K hK => ?_) AllReadyH.nil
        go_simp
        go_at_call 9
        refine HOW.out.mono ?_
        rintro e w5 ⟨ao5, cap5, rfl, p5⟩
        have h5 := Lib.hid p5
        clear p5
        refine hK.out _ _ ?_ (fun hHeld => ?_)
        · exact KC.out _ h5.out.2.2.b
        clear hK K
        try simp only [Act.put, List.setIfInBounds_toArray, List.set_cons_zero, List.set_cons_succ]
        refine wpAnyH_ready (rs := [6]) (by kernel_rfl) (by simp) ?_
        refine AllReadyH.cons rfl (fun K hK => ?_) AllReadyH.nil
        go_simp
        go_at_call 8
        refine (HADD.out _ _ _ h5.out).mono ?_
        rintro e w6 ⟨S6, rfl, p6⟩
        have h6 := Lib.hid p6
        clear p6
        refine hK.out _ _ ?_ (fun hHeld => ?_)
        · exact KC.out _ h6.out.b
        clear hK K
        try simp only [Act.put, List.setIfInBounds_toArray, List.set_cons_zero, List.set_cons_succ]
        refine wpAnyH_ready (rs := [12]) (by kernel_rfl) (by simp) ?_
        refine AllReadyH.cons rfl (fun K hK => ?_) AllReadyH.nil
        go_simp
        go_at_call 10
        refine (HRADD.out _ _ h6.out).mono ?_
        rintro e w7 ⟨T7, a5, c5, rfl, p7⟩
        have h7 := Lib.hid p7
        clear p7
        refine hK.out _ _ ?_ (fun hHeld => ?_)
        · exact KC.out _ h7.out.1.b
        clear hK K
        try simp only [Act.put, List.setIfInBounds_toArray, List.set_cons_zero, List.set_cons_succ]
        refine wpAnyH_turn (S' := (fun W => W.cell? ⟨bb, off + k, none⟩ = some (.slice oa m oc) ∧ W.cell? ⟨G, 1, none⟩ = some (.slice a5 q' c5) ∧ W.cell? ⟨G, 2, none⟩ = some (.int .i64 x'))) (fun W h => h.1) _ _ _ _ ?_
        have hHeld2 := hHeld
        clear hHeld
        have hHeld : (fun W => W.cell? ⟨bb, off + k, none⟩ = some (.slice oa m oc) ∧ W.cell? ⟨G, 1, none⟩ = some (.slice a5 q' c5) ∧ W.cell? ⟨G, 2, none⟩ = some (.int .i64 x')) w7 := ⟨hHeld2, by rw [HQ.out]; exact cell_in h7.out.2.box rfl, cell_in h7.out.2.box rfl⟩
        clear hHeld2
        refine wpAnyH_takeD (i := 13) (d := some 52) (v := ?_) rfl rfl (by kernel_rfl) (by kernel_rfl) (by kernel_rfl) (fun _ _ _ h => h) (Or.inl ⟨by rfl, ?_⟩) (by assumption) ?_
        rotate_left
        · intro w hSw
          (try dsimp only at hSw)
          go_simp
          try (with_reducible rfl)
        simp only [Act.put, List.setIfInBounds_toArray, List.set_cons_zero, List.set_cons_succ]
        refine wpAnyH_takeD (i := 14) (d := some 53) (v := ?_) rfl rfl (by kernel_rfl) (by kernel_rfl) (by kernel_rfl) (fun _ _ _ h => h) (Or.inl ⟨by rfl, ?_⟩) (by assumption) ?_
        rotate_left
        · intro w hSw
          (try dsimp only at hSw)
          go_simp
          try (with_reducible rfl)
        simp only [Act.put, List.setIfInBounds_toArray, List.set_cons_zero, List.set_cons_succ]
        refine wpAnyH_takeD (i := 15) (d := some 54) (v := ?_) rfl rfl (by kernel_rfl) (by kernel_rfl) (by kernel_rfl) (fun _ _ _ h => h) (Or.inl ⟨by rfl, ?_⟩) (by assumption) ?_
        rotate_left
        · intro w hSw
          (try dsimp only at hSw)
          go_simp
          try (with_reducible rfl)
        simp only [Act.put, List.setIfInBounds_toArray, List.set_cons_zero, List.set_cons_succ]
        refine wpAnyH_takeD (i := 17) (d := some 56) (v := ?_) rfl rfl (by kernel_rfl) (by kernel_rfl) (by kernel_rfl) (fun _ _ _ h => h) (Or.inl ⟨by rfl, ?_⟩) (by assumption) ?_
        rotate_left
        · intro w hSw
          (try dsimp only at hSw)
          go_simp
          try (with_reducible rfl)
        simp only [Act.put, List.setIfInBounds_toArray, List.set_cons_zero, List.set_cons_succ]
        refine wpAnyH_takeD (i := 18) (d := some 57) (v := ?_) rfl rfl (by kernel_rfl) (by kernel_rfl) (by kernel_rfl) (fun _ _ _ h => h) (Or.inl ⟨by rfl, ?_⟩) (by assumption) ?_
        rotate_left
        · intro w hSw
          (try dsimp only at hSw)
          go_simp
          try (with_reducible rfl)
        simp only [Act.put, List.setIfInBounds_toArray, List.set_cons_zero, List.set_cons_succ]
        refine wpAnyH_takeD (i := 19) (d := some 58) (v := ?_) rfl rfl (by kernel_rfl) (by kernel_rfl) (by kernel_rfl) (fun _ _ _ h => h) (Or.inl ⟨by rfl, ?_⟩) (by assumption) ?_
        rotate_left
        · intro w hSw
          (try dsimp only at hSw)
          go_simp
          try (with_reducible rfl)
        simp only [Act.put, List.setIfInBounds_toArray, List.set_cons_zero, List.set_cons_succ]
        refine wpAnyH_takeD (i := 20) (d := some 59) (v := ?_) rfl rfl (by kernel_rfl) (by kernel_rfl) (by kernel_rfl) (fun _ _ _ h => h) (Or.inl ⟨by rfl, ?_⟩) (by assumption) ?_
        rotate_left
        · intro w hSw
          (try dsimp only at hSw)
          go_simp
          try (with_reducible rfl)
        simp only [Act.put, List.setIfInBounds_toArray, List.set_cons_zero, List.set_cons_succ]
        refine wpAnyH_takeD (i := 21) (d := some 60) (v := ?_) rfl rfl (by kernel_rfl) (by kernel_rfl) (by kernel_rfl) (fun _ _ _ h => h) (Or.inl ⟨by rfl, ?_⟩) (by assumption) ?_
        rotate_left
        · intro w hSw
          (try dsimp only at hSw)
          go_simp
          try (with_reducible rfl)
        simp only [Act.put, List.setIfInBounds_toArray, List.set_cons_zero, List.set_cons_succ]
        refine wpAnyH_ready (rs := [16]) (by kernel_rfl) (by simp) ?_
        refine AllReadyH.cons rfl (fun K hK => ?_) AllReadyH.nil
        go_simp
        go_at_call 11
        refine (HLEN.out _ _ _ h7.out.1).mono ?_
        rintro e w8 ⟨rfl, rfl⟩
        refine hK.out _ _ ?_ (fun hHeld => ?_)
        · exact hHeld
        clear hK K
        try simp only [Act.put, List.setIfInBounds_toArray, List.set_cons_zero, List.set_cons_succ]
        refine wpAnyH_takeD (i := 22) (d := some 61) (v := ?_) rfl rfl (by kernel_rfl) (by kernel_rfl) (by kernel_rfl) (fun _ _ _ h => h) (Or.inl ⟨by rfl, ?_⟩) (by assumption) ?_
        rotate_left
        · intro w hSw
          (try dsimp only at hSw)
          go_simp
          try (with_reducible rfl)
        simp only [Act.put, List.setIfInBounds_toArray, List.set_cons_zero, List.set_cons_succ]
        refine wpAnyH_takeD (i := 23) (d := some 62) (v := ?_) rfl rfl (by kernel_rfl) (by kernel_rfl) (by kernel_rfl) (fun _ _ _ h => h) (Or.inl ⟨by rfl, ?_⟩) (by assumption) ?_
        rotate_left
        · intro w hSw
          (try dsimp only at hSw)
          go_simp
          try (with_reducible rfl)
        simp only [Act.put, List.setIfInBounds_toArray, List.set_cons_zero, List.set_cons_succ]
        refine wpAnyH_takeD (i := 24) (d := some 63) (v := ?_) rfl rfl (by kernel_rfl) (by kernel_rfl) (by kernel_rfl) (fun _ _ _ h => h) (Or.inl ⟨by rfl, ?_⟩) (by assumption) ?_
        rotate_left
        · intro w hSw
          (try dsimp only at hSw)
          go_simp
          try (with_reducible rfl)
        simp only [Act.put, List.setIfInBounds_toArray, List.set_cons_zero, List.set_cons_succ]
        refine wpAnyH_takeD (i := 25) (d := some 64) (v := ?_) rfl rfl (by kernel_rfl) (by kernel_rfl) (by kernel_rfl) (fun _ _ _ h => h) (Or.inl ⟨by rfl, ?_⟩) (by assumption) ?_
        rotate_left
        · intro w hSw
          (try dsimp only at hSw)
          go_simp
          try (with_reducible rfl)
        simp only [Act.put, List.setIfInBounds_toArray, List.set_cons_zero, List.set_cons_succ]
        refine wpAnyH_takeD (i := 27) (d := some 66) (v := ?_) rfl rfl (by kernel_rfl) (by kernel_rfl) (by kernel_rfl) (fun _ _ _ h => h) (Or.inl ⟨by rfl, ?_⟩) (by assumption) ?_
        rotate_left
        · intro w hSw
          (try dsimp only at hSw)
          go_simp
          try (with_reducible rfl)
        simp only [Act.put, List.setIfInBounds_toArray, List.set_cons_zero, List.set_cons_succ]
        refine wpAnyH_takeD (i := 28) (d := some 67) (v := ?_) rfl rfl (by kernel_rfl) (by kernel_rfl) (by kernel_rfl) (fun _ _ _ h => h) (Or.inl ⟨by rfl, ?_⟩) (by assumption) ?_
        rotate_left
        · intro w hSw
          (try dsimp only at hSw)
          go_simp
          try (with_reducible rfl)
        simp only [Act.put, List.setIfInBounds_toArray, List.set_cons_zero, List.set_cons_succ]
        refine wpAnyH_takeD (i := 29) (d := some 68) (v := ?_) rfl rfl (by kernel_rfl) (by kernel_rfl) (by kernel_rfl) (fun _ _ _ h => h) (Or.inl ⟨by rfl, ?_⟩) (by assumption) ?_
        rotate_left
        · intro w hSw
          (try dsimp only at hSw)
          go_simp
          try (with_reducible rfl)
        simp only [Act.put, List.setIfInBounds_toArray, List.set_cons_zero, List.set_cons_succ]
        refine wpAnyH_takeD (i := 30) (d := some 69) (v := ?_) rfl rfl (by kernel_rfl) (by kernel_rfl) (by kernel_rfl) (fun _ _ _ h => h) (Or.inl ⟨by rfl, ?_⟩) (by assumption) ?_
        rotate_left
        · intro w hSw
          (try dsimp only at hSw)
          go_simp
          try (with_reducible rfl)
        simp only [Act.put, List.setIfInBounds_toArray, List.set_cons_zero, List.set_cons_succ]
        refine wpAnyH_ready (rs := [26]) (by kernel_rfl) (by simp) ?_
        refine AllReadyH.cons rfl (fun K hK => ?_) AllReadyH.nil
        go_simp
        go_at_call 12
        refine (HLOST.out _ _ _ h7.out.1).mono ?_
        rintro e w9 ⟨rfl, rfl⟩
        refine hK.out _ _ ?_ (fun hHeld => ?_)
        · exact hHeld
        clear hK K
        try simp only [Act.put, List.setIfInBounds_toArray, List.set_cons_zero, List.set_cons_succ]
        refine wpAnyH_takeD (i := 31) (d := some 70) (v := ?_) rfl rfl (by kernel_rfl) (by kernel_rfl) (by kernel_rfl) (fun _ _ _ h => h) (Or.inl ⟨by rfl, ?_⟩) (by assumption) ?_
        rotate_left
        · intro w hSw
          (try dsimp only at hSw)
          go_simp
          try (with_reducible rfl)
        simp only [Act.put, List.setIfInBounds_toArray, List.set_cons_zero, List.set_cons_succ]
        refine wpAnyH_takeD (i := 32) (d := some 71) (v := ?_) rfl rfl (by kernel_rfl) (by kernel_rfl) (by kernel_rfl) (fun _ _ _ h => h) (Or.inl ⟨by rfl, ?_⟩) (by assumption) ?_
        rotate_left
        · intro w hSw
          (try dsimp only at hSw)
          go_simp
          try (with_reducible rfl)
        simp only [Act.put, List.setIfInBounds_toArray, List.set_cons_zero, List.set_cons_succ]
        refine wpAnyH_done (by kernel_rfl) ?_ _
        go_wp2_with fail
        go_roundw
        case rel => exact ⟨k + 1, l', x', _, _, by omega, by go_num, Lib.hid ⟨h7.out.1, HPB.out.1, HPB.out.2.1, HPB.out.2.2⟩⟩
        case measure => simp [intOf]; omega
    · have d0 : decide ((k : Int) < (n1 : Int)) = false := decide_eq_false (by omega)
      obtain ⟨wo, hwo⟩ : ∃ wo, wo = wr := ⟨_, rfl⟩
      subst hwo
      obtain ⟨ao, cap, hp⟩ := HP.out.b.r
      have hls : l.length ≤ 100000 := by have := HP.out.ll; omega
      obtain ⟨q, hq⟩ : ∃ q, q = l.length := ⟨_, rfl⟩
      obtain ⟨q2, hq2⟩ : ∃ q2, q2 = (ofJ l l2).length := ⟨_, rfl⟩
      have hq2s : q2 ≤ 100000 := by have := ofJ_len l l2; omega
      have KD : Hid (∀ W : World, Below wo.heap.size wo W → W.cell? ⟨G, 1, none⟩ = some (.slice ao q cap) ∧ Lies W 0 W.heap.size (.slice ao q cap) q 4 (l.flatMap Ent.cells) ∧ DgAt G R l x W T) := Lib.hid (fun W hW => by
        have h := hp.later hW
        rw [hq]
        exact ⟨cell_in h.box rfl, h.lies, _, _, h⟩)
      have HALL : Hid (∀ W : World, Below wo.heap.size wo W → Calls Tryd.prog 15 #[.pointer (some ⟨H, 0, none⟩)] W fun e w' => ∃ a c, e = .returned (.slice a q c) ∧ (Lies w' 0 w'.heap.size (.slice a q c) q 4 (l.flatMap Ent.cells) ∧ Below wo.heap.size wo w')) := Lib.hid (fun W hW => (jAll_any ((LgAt_own _ _ _ _).later HP.out.b.h hW) hls).mono (by
        rintro e w' ⟨a, c, rfl, r1, r2⟩
        rw [hq]
        exact ⟨a, c, rfl, (Lies.of_owns r1).wider (Nat.zero_le _) (Nat.le_refl _), hW.trans (r2.mono hW.size)⟩))
      have HREF : Hid (∀ (W : World) (a : Option Addr) (n c : Nat) (es : List Ent), es.length = n → n ≤ 100000 → (Lies W 0 W.heap.size (.slice a n c) n 4 (es.flatMap Ent.cells) ∧ Below wo.heap.size wo W) → Calls Tryd.prog 14 #[.slice a n c] W fun e w' => ∃ a' c', e = .returned (.slice a' n c') ∧ (Lies w' 0 w'.heap.size (.slice a' n c') n 4 (es.flatMap Ent.cells) ∧ Below wo.heap.size wo w')) := Lib.hid (fun W a n c es h1 h2 ⟨h3, h4⟩ => (jRefs_any a n c W es h1 h2 h3).mono (by
        rintro e w' ⟨a', c', rfl, r1, r2⟩
        exact ⟨a', c', rfl, (Lies.of_owns r1).wider (Nat.zero_le _) (Nat.le_refl _), h4.trans (r2.mono h4.size)⟩))
      have HSAME : Hid (∀ (W : World) (a b : Option Addr) (n c d : Nat) (es : List Ent), es.length = n → n ≤ 100000 → Lies W 0 W.heap.size (.slice a n c) n 4 (es.flatMap Ent.cells) → Lies W 0 W.heap.size (.slice b n d) n 4 (es.flatMap Ent.cells) → Below wo.heap.size wo W → Calls Tryd.prog 13 #[.slice a n c, .slice b n d] W fun e w' => e = .returned (.bool true) ∧ Below wo.heap.size wo w') := Lib.hid (fun W a b n c d es h1 h2 h3 h4 h5 => (rsame23_any a b n c n d W es es h1 h1 h2 h3 h4).mono (by
        rintro e w' ⟨rfl, r⟩
        exact ⟨by rw [decide_eq_true rfl], h5.trans (r.mono h5.size)⟩))
      have HOF : Hid (∀ W : World, Below wo.heap.size wo W → Calls Tryd.prog 16 #[.pointer (some ⟨H, 0, none⟩), .slice a2 n2 c2] W fun e w' => ∃ a c, e = .returned (.slice a q2 c) ∧ (Lies w' 0 w'.heap.size (.slice a q2 c) q2 4 ((ofJ l l2).flatMap Ent.cells) ∧ Below wo.heap.size wo w')) := Lib.hid (fun W hW => (jOf_any ((LgAt_own _ _ _ _).later HP.out.b.h hW) a2 n2 c2 l2 HN2.out (HK2.out W (HP.out.b.b.trans (hW.mono HP.out.b.b.size))) (by omega) hls).mono (by
        rintro e w' ⟨a, c, rfl, r1, r2⟩
        rw [hq2]
        exact ⟨a, c, rfl, (Lies.of_owns r1).wider (Nat.zero_le _) (Nat.le_refl _), hW.trans (r2.mono hW.size)⟩))
      have HROF : Hid (∀ (W : World) (a8 : Option Addr) (c8 : Nat), (Lies W 0 W.heap.size (.slice a8 q2 c8) q2 4 ((ofJ l l2).flatMap Ent.cells) ∧ Below wo.heap.size wo W) → Calls Tryd.prog 17 #[.pointer (some ⟨G, 0, none⟩), .slice a2 n2 c2] W fun e w' => ∃ a c, e = .returned (.slice a q2 c) ∧ (Lies w' 0 w'.heap.size (.slice a q2 c) q2 4 ((ofJ l l2).flatMap Ent.cells) ∧ Lies w' 0 w'.heap.size (.slice a8 q2 c8) q2 4 ((ofJ l l2).flatMap Ent.cells) ∧ Below wo.heap.size wo w')) := Lib.hid (fun W a8 c8 ⟨h8, hW⟩ => (rOf_any (KD.out W hW).2.2 a2 n2 c2 l2 HN2.out (HK2.out W (HP.out.b.b.trans (hW.mono HP.out.b.b.size))) (by omega) hls).mono (by
        rintro e w' ⟨a, c, rfl, r1, r2⟩
        rw [hq2] at h8 ⊢
        exact ⟨a, c, rfl, (Lies.of_owns r1).wider (Nat.zero_le _) (Nat.le_refl _), (h8.keep (SameIn.of_below r2 (Nat.le_refl _))).wider (Nat.zero_le _) r2.size, hW.trans (r2.mono hW.size)⟩))
      have HQ := Lib.hid hq
      have HQ2 := Lib.hid hq2
      have hqs : q ≤ 100000 := by omega
      clear hp hq hq2 hls
      have x1 := (KD.out wo (Below.refl _ _)).1
      go_upto_region 12 with fail
      go_region_held3 (fun W => W.cell? ⟨G, 1, none⟩ = some (.slice ao q cap))
        (first | exact (KD.out _ g7.out).1 | exact (KD.out _ g6.out.2.2).1 | exact (KD.out _ g5.out.2).1 | exact (KD.out _ g4.out.2).1 | exact (KD.out _ g3.out).1 | exact (KD.out _ g2.out.2).1 | exact (KD.out _ g1.out.2).1 | exact (KD.out _ (Below.refl _ _).drew).1 | fail "no")
        (first
        | (go_at_call 13; have _z := g6; refine (HSAME.out _ _ _ _ _ _ _ HQ2.out.symm hq2s g6.out.2.1 g6.out.1 g6.out.2.2).mono ?_; rintro e v7 ⟨rfl, r⟩; have g7 := Lib.hid r; clear r)
        | (go_at_call 17; have _z := g5; refine (HROF.out _ _ _ g5.out).mono ?_; rintro e v6 ⟨b6, e6, rfl, r⟩; have g6 := Lib.hid r; clear r)
        | (go_at_call 14; have _z := g4; refine (HREF.out _ _ _ _ _ HQ2.out.symm hq2s g4.out).mono ?_; rintro e v5 ⟨b5, e5, rfl, r⟩; have g5 := Lib.hid r; clear r)
        | (go_at_call 16; have _z := g3; refine (HOF.out _ g3.out).mono ?_; rintro e v4 ⟨b4, e4, rfl, r⟩; have g4 := Lib.hid r; clear r)
        | (go_at_call 13; have _z := g2; refine (HSAME.out _ _ _ _ _ _ _ HQ.out.symm hqs g2.out.1 (KD.out _ g2.out.2).2.1 g2.out.2).mono ?_; rintro e v3 ⟨rfl, r⟩; have g3 := Lib.hid r; clear r)
        | (go_at_call 14; have _z := g1; refine (HREF.out _ _ _ _ _ HQ.out.symm hqs g1.out).mono ?_; rintro e v2 ⟨b2, e2, rfl, r⟩; have g2 := Lib.hid r; clear r)
        | (go_at_call 15; refine (HALL.out _ (Below.refl _ _).drew).mono ?_; rintro e v1 ⟨b1, e1, rfl, r⟩; have g1 := Lib.hid r; clear r)
        | fail "no arm")
      go_wp2_with fail
      go_ret
      exact ⟨rfl, HP.out.b.b.trans (g7.out.mono HP.out.b.b.size)⟩
end Go.Proofs.YtebjgfdkmociaaaDoor
