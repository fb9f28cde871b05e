/- What a partition must know: a job that ends. -/
import Derived.Test.YtchbehnkkcjdgaaGreatPartNew
import Derived.Test.YtchbehnkkcjdgaaGreatPartRun
namespace Go.Proofs.YtchbehnkkcjdgaaGreat
open Go.ChangeShapes Go.WideShapes Go.ChangeAt Go.RowKit
set_option linter.unusedVariables false
def pkt : List Tk := [⟨false, 9, 9, 9, 2, 2⟩]
def pk0 : Px := newPx pkt [] 0
def pk1 : Px := arrX pkt pk0 0 0 2 0 []
def pk2 : Px := begX pkt [] 0 pk1 0
def pk3 : Px := runX pkt [] pk2
def pk4 : Px := runX pkt [] pk3
theorem num20_any (x : Int) (w : World) : Calls Tryz.prog 18 #[.int .i64 x] w fun e w' => e = .returned (.int .i64 x) ∧ w' = w := by
 go_enter Tryz.func18, Tryz.ntmps18
 go_wp2
 go_ret
 exact ⟨rfl, rfl⟩
theorem ev_at {w : World} {g : Nat} {cur : Array Value} (h : w.heap[g]? = some (.cells cur 96 (0, 0))) (ht : cur.toList.take (1 * 3) = [.int .i64 0, .int .i64 0, .int .i64 0]) :
 w.cell? ⟨g, 0, none⟩ = some (.int .i64 0) ∧ w.cell? ⟨g, 1, none⟩ = some (.int .i64 0) ∧ w.cell? ⟨g, 2, none⟩ = some (.int .i64 0) := by
 have c : ∀ j, j < 3 → cur[j]? = ([.int .i64 0, .int .i64 0, .int .i64 0] : List Value)[j]? := fun j hj => by
  rw [← ht, List.getElem?_take, if_pos (by omega), Array.getElem?_toList]
 exact ⟨cell_in h (c 0 (by omega)), cell_in h (c 1 (by omega)), cell_in h (c 2 (by omega))⟩
set_option maxRecDepth 100000 in
set_option maxHeartbeats 8000000 in
theorem knows20_any (w : World) : Calls Tryz.prog 9 #[] w fun e w' => e = .returned (.bool true) ∧ Below w.heap.size w w' := by
 have hB0 : Below w.heap.size w (w.alloc (.cells #[.bool false, .int .i64 9, .int .i64 9, .int .i64 9, .int .i64 2, .int .i64 2] 111)) := below1 _ _
 have hN := pnew_yes (some ⟨w.heap.size, 0, none⟩) none none 1 1 0 0 0 0 0 0 0 0 (w.alloc (.cells #[.bool false, .int .i64 9, .int .i64 9, .int .i64 9, .int .i64 2, .int .i64 2] 111)) pkt [] rfl rfl ((one_lies (heap_alloc_new _ _) rfl).wider (Nat.zero_le _) (by simp)) (lies_nil _ _ _) (by intro x hx; rw [List.mem_singleton.1 hx]; simp [Tk.In, I64]) (by rfl)
 have HN := Lib.hid hN
 have HB0 := Lib.hid hB0
 have E1 := Lib.hid (show arrE pkt pk0 0 0 2 0 0 = 0 from by rfl)
 have E2 := Lib.hid (show begE pkt pk1 0 = [] from by rfl)
 have E3 := Lib.hid (show (pickV pkt [] pk2).sv = false ∧ (pickV pkt [] pk2).n = 0 ∧ (pickV pkt [] pk2).ok = true from ⟨by rfl, by rfl, by rfl⟩)
 have E4 := Lib.hid (show (pickV pkt [] pk3).sv = false ∧ (pickV pkt [] pk3).n = 0 ∧ (pickV pkt [] pk3).ok = true from ⟨by rfl, by rfl, by rfl⟩)
 have E5 := Lib.hid (show runE pkt [] pk3 = [⟨0, 0, 0⟩] from by rfl)
 have E6 := Lib.hid (show pk4.up = true ∧ pk4.hi = false from ⟨by rfl, by rfl⟩)
 have HRUN : Hid (∀ (x : Px), (pickV pkt [] x).sv = false → (pickV pkt [] x).ok = true → ∀ (W : World) (H : Nat) (S : Nat → Prop), PgAt H pkt [] 0 x W S → Calls Tryz.prog 16 #[.pointer (some ⟨H, 0, none⟩)] W fun e w' => ∃ S' v, e = .returned (.tuple #[.agg #[.bool (pickV pkt [] x).sv, .int .i64 (pickV pkt [] x).n], .agg #[.int .i64 (runO pkt [] x).at_, .int .i64 (runO pkt [] x).len, .int .i64 (runO pkt [] x).part], v]) ∧ EvRow W.heap.size (runE pkt [] x) v w' ∧ PgAt H pkt [] 0 (runX pkt [] x) w' S' ∧ GrowS S S' W w') := Lib.hid (fun x h1 h2 W H S h => prun_any W H S pkt [] 0 x h (by simp) (fun i hi => absurd hi (by simp)) (fun k _ h3 => by rw [h1] at h3; cases h3) (fun h3 => by rw [h1] at h3; cases h3) (fun h3 => by rw [h2] at h3; cases h3))
 clear hN hB0
 go_enter Tryz.func9, Tryz.ntmps9
 go_wp2_with (first
  | (go_at_call 10; refine HN.out.mono ?_; rintro e w3 ⟨H, S3, rfl, h3', s3', b3'⟩; have h3 := Lib.hid h3'; have g3 := Lib.hid (And.intro (HB0.out.trans (b3'.mono HB0.out.size)) (fun k hk => Nat.le_trans HB0.out.size (s3' k hk))); clear h3' s3' b3')
  | (go_at_call 19; have _z := h3; go_loud (refine (parrive_any _ H S3 pkt [] 0 pk0 h3.out 0 0 0 2 0 none 0 0 [] rfl (lies_nil _ _ _)).mono ?_; rintro e w4 ⟨S4, rfl, h4', g4'⟩; rw [E1.out]; have h4 := Lib.hid (show PgAt H pkt [] 0 pk1 w4 S4 from h4'); have g4 := Lib.hid (g4'.step g3.out.1 g3.out.2); clear h4' g4'))
  | (go_at_call 14; have _z := h4; go_loud (refine (pbegin_any _ H S4 pkt [] 0 pk1 h4.out (by simp) 0 (by omega) (by omega) (fun i hi => absurd hi (by simp))).mono ?_; rintro e w5 ⟨S5, v5, rfl, r5, h5', g5'⟩; rw [E2.out] at r5; obtain ⟨ao5, cap5, rfl, _⟩ := r5; have h5 := Lib.hid (show PgAt H pkt [] 0 pk2 w5 S5 from h5'); have g5 := Lib.hid (g5'.step g4.out.1 g4.out.2); clear h5' g5'))
  | (go_at_call 28; have _z := h5; go_loud (refine (ppick_any _ H S5 pkt [] 0 pk2 h5.out (by simp)).mono ?_; rintro e w6 ⟨rfl, b6'⟩; rw [E3.out.1, E3.out.2.1, E3.out.2.2]; have b6 := Lib.hid b6'; clear b6'))
  | (go_at_call 16; have _z := h7; go_loud (refine (HRUN.out pk3 E4.out.1 E4.out.2.2 _ H S7 h7.out).mono ?_; rintro e w8 ⟨S8, v8, rfl, r8, h8', g8'⟩; rw [E5.out] at r8; obtain ⟨ao8, cap8, rfl, r8⟩ := r8; obtain ⟨_, r8 | ⟨g, cp, cur, hv, hg1, hg2, hg3, hg4, hg5, hg6⟩⟩ := r8; exact absurd r8.2 (by simp); cases hv; rw [E4.out.1, E4.out.2.1]; have h8 := Lib.hid (show PgAt H pkt [] 0 pk4 w8 S8 from h8'); have g8 := Lib.hid (g8'.step g7.out.1 g7.out.2); have k8 := Lib.hid ((g8'.block w6.heap.size (lt_of_block k7.out) n7.out).trans k7.out); have q8 := Lib.hid (And.intro hg2 (And.intro hg5 hg6)); clear h8' g8' hg1 hg2 hg3 hg4 hg5 hg6; have x0 : ∀ o p, ((w8.alloc o).alloc p).cell? ⟨w6.heap.size, 0, none⟩ = some (.bool false) := (fun o p => Lib.cell?_alloc_some _ (Lib.cell?_alloc_some _ (cell_in k8.out rfl))); obtain ⟨z0, z1, z2⟩ := ev_at q8.out.1 q8.out.2.2; have y0 : ∀ o p, ((w8.alloc o).alloc p).cell? ⟨g, 0, none⟩ = some (.int .i64 0) := (fun o p => Lib.cell?_alloc_some _ (Lib.cell?_alloc_some _ z0)); have y1 : ∀ o p, ((w8.alloc o).alloc p).cell? ⟨g, 1, none⟩ = some (.int .i64 0) := (fun o p => Lib.cell?_alloc_some _ (Lib.cell?_alloc_some _ z1)); have y2 : ∀ o p, ((w8.alloc o).alloc p).cell? ⟨g, 2, none⟩ = some (.int .i64 0) := (fun o p => Lib.cell?_alloc_some _ (Lib.cell?_alloc_some _ z2)); have h9 : Hid (∀ o p, PgAt H pkt [] 0 pk4 ((w8.alloc o).alloc p) S8 ∧ Below w.heap.size w ((w8.alloc o).alloc p)) := Lib.hid (fun o p => ⟨(pq_own H pkt [] 0 pk4 _).later h8.out (b_alloc (below1 w8 o) (Nat.le_refl _) p), (g8.out.1.alloc g8.out.1.size _).alloc (g8.out.1.alloc g8.out.1.size _).size _⟩)))
  | (go_at_call 18; refine (num20_any _ _).mono ?_; rintro e w20 ⟨rfl, hw20⟩; rw [hw20]; clear hw20)
  | (go_at_call 30; go_loud (refine (pup_any _ H S8 pkt [] 0 pk4 (h9.out _ _).1).mono ?_; rintro e w21 ⟨rfl, hw21⟩; rw [hw21, E6.out.1]; clear hw21))
  | (go_at_call 31; go_loud (refine (phigh_any _ H S8 pkt [] 0 pk4 (h9.out _ _).1).mono ?_; rintro e w22 ⟨rfl, b22'⟩; rw [E6.out.2]; have b22 := Lib.hid b22'; clear b22'))
  | (go_at_call 16; have _z := h5; go_loud (refine (HRUN.out pk2 E3.out.1 E3.out.2.2 _ H S5 ((pq_own H pkt [] 0 pk2 _).later h5.out (b6.out.trans ((below1 w6 (.cells #[.bool false, .int .i64 0] 52)).mono b6.out.size)))).mono ?_; rintro e w7 ⟨S7, v7, rfl, r7, h7', g7'⟩; have h7 := Lib.hid (show PgAt H pkt [] 0 pk3 w7 S7 from h7'); have hb := (below1 w6 (.cells #[.bool false, .int .i64 0] 52)); have g7 := Lib.hid (g7'.step (g5.out.1.trans ((b6.out.trans (hb.mono b6.out.size)).mono g5.out.1.size)) g5.out.2); have n5 : ¬ S5 w6.heap.size := fun hs => (by have := (pq_own H pkt [] 0 pk2 _).lt h5.out _ hs; have := b6.out.size; omega); have n7 := Lib.hid (g7'.not (by simp) n5); have k7 := Lib.hid ((g7'.block w6.heap.size (by simp) n5).trans (heap_alloc_new w6 (.cells #[.bool false, .int .i64 0] 52))); clear h7' g7' n5 hb r7))
  | fail "no arm")
 go_ret
 exact ⟨rfl, (h9.out _ _).2.trans (b22.out.mono (h9.out _ _).2.size)⟩
end Go.Proofs.YtchbehnkkcjdgaaGreat
