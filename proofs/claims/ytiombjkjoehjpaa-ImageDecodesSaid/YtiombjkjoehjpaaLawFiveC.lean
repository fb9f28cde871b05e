/- The walk of a statement of images: any bytes as a system, or why not. -/
import Derived.Test.YtiombjkjoehjpaaImageS
import Derived.Test.YtiombjkjoehjpaaImageZ
namespace Go.Proofs.Ytiombjkjoehjpaa
open Go.ChangeShapes Go.WideShapes Go.ChangeAt Go.RowKit
set_option linter.unusedVariables false

set_option maxRecDepth 100000 in
set_option maxHeartbeats 4000000 in
theorem decodes_long (ba : Option Addr) (bn bc : Nat) (big : Bool) (w : World) (l : List Int) (hln : l.length = bn) (hl : Lies w 0 w.heap.size (.slice ba bn bc) bn 1 (bts l)) (hby : Bytes l) (hbig : bn > 5000) :
    Calls Try.prog 4 #[.slice ba bn bc, .bool big] w fun e w' => e = .returned (.bool true) ∧ Below w.heap.size w w' := by
  have LL := Lib.hid (fun (W : World) (h : Below w.heap.size w W) => hl.keep (SameIn.of_below h (Nat.le_refl _)))
  have HN := Lib.hid hln
  have HBY := Lib.hid hby
  clear hl hby hln
  have t1 : decide ((bn : Int) > 5000) = true := by simp; omega
  go_enter Try.func4, Try.ntmps4
  go_wp2_with (first | (go_at_call 8; refine (knows5_any _).mono ?_; rintro e w2 ⟨rfl, hb2⟩))
  go_ret
  exact ⟨rfl, hb2⟩
set_option maxRecDepth 100000 in
set_option maxHeartbeats 4000000 in
theorem decodes_small (ba : Option Addr) (bn bc : Nat) (w : World) (l : List Int) (hln : l.length = bn) (hl : Lies w 0 w.heap.size (.slice ba bn bc) bn 1 (bts l)) (hby : Bytes l) (hbig : ¬ bn > 5000) :
    Calls Try.prog 4 #[.slice ba bn bc, .bool false] w fun e w' => e = .returned (.bool true) ∧ Below w.heap.size w w' := by
  have LL := Lib.hid (fun (W : World) (h : Below w.heap.size w W) => hl.keep (SameIn.of_below h (Nat.le_refl _)))
  have HN := Lib.hid hln
  have HBY := Lib.hid hby
  clear hl hby hln
  have t1 : decide ((bn : Int) > 5000) = false := by simp; omega
  go_enter Try.func4, Try.ntmps4
  go_wp2_with (first
    | (go_at_call 14
       refine (rDecode_any ba bn bc _ 0 w.heap.size l HN.out HBY.out (LL.out _ (HB5.out.alloc HB5.out.size _)) (by have := HB5.out.size; simp; omega)).mono ?_
       rintro e w6 ⟨rvs, ra, rb, rc, sa, sb, sc, rfl, hsr, _, hb6⟩
       have HSR := Lib.hid hsr
       have kt5 : w6.heap[w5.heap.size]? = some (.cells #[.int .i64 (decW l).1.frame, .int .i64 (decW l).1.margin, .slice ua (decW l).1.ws.length va, .slice ub (decW l).1.ps.length vb, .slice uc (decW l).1.cs.length vc] 37 (0, 0)) := (hb6.block _ (by simp)).trans (heap_new_at rfl)
       have HKT5 := Lib.hid kt5
       have HSU6 := Lib.hid (HSU.out.keep (SameIn.of_below ((below1 w5 _).trans (hb6.mono (by simp))) (Nat.le_refl _)))
       have HB6 := Lib.hid ((HB5.out.alloc HB5.out.size _).trans (hb6.mono (by have := HB5.out.size; simp; omega)))
       have hw56 : w5.heap.size < w6.heap.size := lt_of_block kt5
       clear hsr hb6 kt5)
    | (go_at_call 13
       refine (decode_sys ba bn bc _ 0 w.heap.size l HN.out HBY.out (LL.out _ (Below.refl w.heap.size w)) ((Below.refl w.heap.size w)).size).mono ?_
       rintro e w5 ⟨uvs, ua, ub, uc, va, vb, vc, rfl, hsu, hfu, hb5⟩
       have HSU := Lib.hid hsu
       have HFU := Lib.hid hfu.few
       have HB5 : Hid (Below w.heap.size w w5) := Lib.hid (((Below.refl w.heap.size w)).trans (hb5.mono ((Below.refl w.heap.size w)).size))
       clear hsu hfu hb5))
  obtain ⟨V, hV⟩ : ∃ V, V = w6.alloc (.cells #[.int .i64 (decW l).1.frame, .int .i64 (decW l).1.margin, .slice ra (decW l).1.ws.length sa, .slice rb (decW l).1.ps.length sb, .slice rc (decW l).1.cs.length sc] 26 (0, 0)) := ⟨_, rfl⟩
  rw [← hV]
  have HBV : Hid (Below w.heap.size w V) := Lib.hid (by rw [hV]; exact HB6.out.alloc HB6.out.size _)
  have hv6 : w6.heap.size < V.heap.size := by rw [hV]; simp
  have kt6 : V.heap[w6.heap.size]? = some (.cells #[.int .i64 (decW l).1.frame, .int .i64 (decW l).1.margin, .slice ra (decW l).1.ws.length sa, .slice rb (decW l).1.ps.length sb, .slice rc (decW l).1.cs.length sc] 26 (0, 0)) := by rw [hV]; exact heap_new_at rfl
  have kt5 : V.heap[w5.heap.size]? = some (.cells #[.int .i64 (decW l).1.frame, .int .i64 (decW l).1.margin, .slice ua (decW l).1.ws.length va, .slice ub (decW l).1.ps.length vb, .slice uc (decW l).1.cs.length vc] 37 (0, 0)) := by rw [hV]; exact at_alloc HKT5.out
  have HSV : Hid (SysL V w5.heap.size (decW l).1 uvs ua ub uc va vb vc) := Lib.hid (by rw [hV]; exact HSU6.out.keep (SameIn.of_below (below1 _ _) (by omega)))
  have HRV : Hid (SysL V w6.heap.size (decW l).1 rvs ra rb rc sa sb sc) := Lib.hid (by rw [hV]; exact HSR.out.keep (SameIn.of_below (below1 _ _) (Nat.le_refl _)))
  have KS : Hid (∀ W : World, Below V.heap.size V W → (Below V.heap.size V W ∧ W.cell? ⟨w5.heap.size, 0, none⟩ = some (.int .i64 (decW l).1.frame) ∧ W.cell? ⟨w5.heap.size, 1, none⟩ = some (.int .i64 (decW l).1.margin) ∧ W.cell? ⟨w5.heap.size, 2, none⟩ = some (.slice ua (decW l).1.ws.length va) ∧ W.cell? ⟨w5.heap.size, 3, none⟩ = some (.slice ub (decW l).1.ps.length vb) ∧ W.cell? ⟨w5.heap.size, 4, none⟩ = some (.slice uc (decW l).1.cs.length vc) ∧ W.cell? ⟨w6.heap.size, 0, none⟩ = some (.int .i64 (decW l).1.frame) ∧ W.cell? ⟨w6.heap.size, 1, none⟩ = some (.int .i64 (decW l).1.margin) ∧ W.cell? ⟨w6.heap.size, 2, none⟩ = some (.slice ra (decW l).1.ws.length sa) ∧ W.cell? ⟨w6.heap.size, 3, none⟩ = some (.slice rb (decW l).1.ps.length sb) ∧ W.cell? ⟨w6.heap.size, 4, none⟩ = some (.slice rc (decW l).1.cs.length sc))) := Lib.hid (by
    intro W h
    have y1 := fun (i : Nat) (u : Value) (hu : (#[.int .i64 (decW l).1.frame, .int .i64 (decW l).1.margin, .slice ua (decW l).1.ws.length va, .slice ub (decW l).1.ps.length vb, .slice uc (decW l).1.cs.length vc] : Array Value)[i]? = some u) => (h.cell (p := ⟨w5.heap.size, i, none⟩) (by show w5.heap.size < _; omega)).trans (cell_in kt5 hu)
    have y2 := fun (i : Nat) (u : Value) (hu : (#[.int .i64 (decW l).1.frame, .int .i64 (decW l).1.margin, .slice ra (decW l).1.ws.length sa, .slice rb (decW l).1.ps.length sb, .slice rc (decW l).1.cs.length sc] : Array Value)[i]? = some u) => (h.cell (p := ⟨w6.heap.size, i, none⟩) hv6).trans (cell_in kt6 hu)
    exact ⟨h, y1 0 _ rfl, y1 1 _ rfl, y1 2 _ rfl, y1 3 _ rfl, y1 4 _ rfl, y2 0 _ rfl, y2 1 _ rfl, y2 2 _ rfl, y2 3 _ rfl, y2 4 _ rfl⟩)
  have CF : Hid (∀ W : World, Below V.heap.size V W → Calls Try.prog 16 #[.agg #[.int .i64 (decW l).1.frame, .int .i64 (decW l).1.margin, .slice ua (decW l).1.ws.length va, .slice ub (decW l).1.ps.length vb, .slice uc (decW l).1.cs.length vc]] W fun e w' => ∃ vs i1 i2 i3 j1 j2 j3, e = .returned (.agg #[.int .i64 (decW l).1.frame, .int .i64 (decW l).1.margin, .slice i1 (decW l).1.ws.length j1, .slice i2 (decW l).1.ps.length j2, .slice i3 (decW l).1.cs.length j3]) ∧ SysL w' w'.heap.size (decW l).1 vs i1 i2 i3 j1 j2 j3 ∧ Below W.heap.size W w') := Lib.hid (fun W h => ref_sys HFU.out (HSV.out.keep (SameIn.of_below h (by omega))) (Nat.le_trans (by omega) h.size))
  have CR : Hid (∀ W : World, Below V.heap.size V W → ∀ (vs : List Pv) (i1 i2 i3 : Option Addr) (j1 j2 j3 : Nat), SysL W W.heap.size (decW l).1 vs i1 i2 i3 j1 j2 j3 → Calls Try.prog 15 #[.agg #[.int .i64 (decW l).1.frame, .int .i64 (decW l).1.margin, .slice i1 (decW l).1.ws.length j1, .slice i2 (decW l).1.ps.length j2, .slice i3 (decW l).1.cs.length j3], .agg #[.int .i64 (decW l).1.frame, .int .i64 (decW l).1.margin, .slice ra (decW l).1.ws.length sa, .slice rb (decW l).1.ps.length sb, .slice rc (decW l).1.cs.length sc]] W fun e w' => e = .returned (.bool true) ∧ Below W.heap.size W w') := Lib.hid (by
    intro W h vs i1 i2 i3 j1 j2 j3 hy
    have r := refSame_sys HFU.out hy ((HRV.out.keep (SameIn.of_below h (by omega))).wider (Nat.le_trans (by omega) h.size)) (Nat.le_refl _)
    rw [eqCf_refl] at r
    exact r)
  obtain ⟨_, k0, k1, k2, k3, k4, k5, k6, k7, k8, k9⟩ := KS.out _ (Below.refl _ _)
  clear kt5 kt6 hV
  go_region_held3 (fun W => Below V.heap.size V W ∧ W.cell? ⟨w5.heap.size, 0, none⟩ = some (.int .i64 (decW l).1.frame) ∧ W.cell? ⟨w5.heap.size, 1, none⟩ = some (.int .i64 (decW l).1.margin) ∧ W.cell? ⟨w5.heap.size, 2, none⟩ = some (.slice ua (decW l).1.ws.length va) ∧ W.cell? ⟨w5.heap.size, 3, none⟩ = some (.slice ub (decW l).1.ps.length vb) ∧ W.cell? ⟨w5.heap.size, 4, none⟩ = some (.slice uc (decW l).1.cs.length vc) ∧ W.cell? ⟨w6.heap.size, 0, none⟩ = some (.int .i64 (decW l).1.frame) ∧ W.cell? ⟨w6.heap.size, 1, none⟩ = some (.int .i64 (decW l).1.margin) ∧ W.cell? ⟨w6.heap.size, 2, none⟩ = some (.slice ra (decW l).1.ws.length sa) ∧ W.cell? ⟨w6.heap.size, 3, none⟩ = some (.slice rb (decW l).1.ps.length sb) ∧ W.cell? ⟨w6.heap.size, 4, none⟩ = some (.slice rc (decW l).1.cs.length sc))
    (first | exact KS.out _ ((Below.refl _ _).drew) | exact KS.out _ (by assumption))
    (first
      | (go_at_call 12; refine (num5_any _ _).mono ?_; rintro e9 w9 ⟨rfl, rfl⟩)
      | (go_at_call 16; refine (CF.out _ (by go_split_ands; assumption)).mono ?_; rintro e w7 ⟨vs, i1, i2, i3, j1, j2, j3, rfl, hy, hb3⟩; have hbn : Below V.heap.size V w7 := (by go_split_ands; exact bel_go2 (by assumption) hb3); have HZ := Lib.hid hy; clear hy)
      | (go_at_call 15; refine (CR.out _ (by go_split_ands; assumption) _ _ _ _ _ _ _ HZ.out).mono ?_; rintro e w8 ⟨rfl, hb3⟩; have hbn : Below V.heap.size V w8 := (by go_split_ands; exact bel_go2 (by assumption) hb3))
      | (go_at_call 8; refine (knows5_any _).mono ?_; rintro e w10 ⟨rfl, hb3⟩; have hbn : Below V.heap.size V w10 := (by go_split_ands; exact bel_go2 (by assumption) hb3)))
  go_wp2_with fail
  go_ret
  exact ⟨rfl, HBV.out.trans (hbn.mono HBV.out.size)⟩
set_option maxRecDepth 100000 in
set_option maxHeartbeats 4000000 in
theorem decodes_big (ba : Option Addr) (bn bc : Nat) (w : World) (l : List Int) (hln : l.length = bn) (hl : Lies w 0 w.heap.size (.slice ba bn bc) bn 1 (bts l)) (hby : Bytes l) (hbig : ¬ bn > 5000) :
    Calls Try.prog 4 #[.slice ba bn bc, .bool true] w fun e w' => e = .returned (.bool true) ∧ Below w.heap.size w w' := by
  have LL := Lib.hid (fun (W : World) (h : Below w.heap.size w W) => hl.keep (SameIn.of_below h (Nat.le_refl _)))
  have HN := Lib.hid hln
  have HBY := Lib.hid hby
  clear hl hby hln
  have t1 : decide ((bn : Int) > 5000) = false := by simp; omega
  obtain ⟨i0, hi0, hz0, hz1, hz2⟩ := info_parts Try.infoU8
  have HI := Lib.hid hi0
  obtain ⟨N, hN1, hN2⟩ : ∃ N : Nat, Hid ((16385 : Int) = (N : Int)) ∧ Hid (N = 16385) := ⟨16385, Lib.hid rfl, Lib.hid rfl⟩
  have HV : Hid (decW (List.replicate N 0 ++ []) = (zeroC, 11)) := Lib.hid (decW_big (by rw [hN2.out]; simp))
  have HBZ : Hid (Bytes (List.replicate N (0 : Int) ++ [])) := Lib.hid (by intro x hx; simp at hx; omega)
  clear hi0
  go_enter Try.func4, Try.ntmps4
  go_wp2_with (first
    | (go_at_call 14
       refine (rDecode_any ba bn bc _ 0 w.heap.size l HN.out HBY.out (LL.out _ (HB5.out.alloc HB5.out.size _)) (by have := HB5.out.size; simp; omega)).mono ?_
       rintro e w6 ⟨rvs, ra, rb, rc, sa, sb, sc, rfl, hsr, _, hb6⟩
       have HSR := Lib.hid hsr
       have kt5 : w6.heap[w5.heap.size]? = some (.cells #[.int .i64 (decW l).1.frame, .int .i64 (decW l).1.margin, .slice ua (decW l).1.ws.length va, .slice ub (decW l).1.ps.length vb, .slice uc (decW l).1.cs.length vc] 37 (0, 0)) := (hb6.block _ (by simp)).trans (heap_new_at rfl)
       have HKT5 := Lib.hid kt5
       have HSU6 := Lib.hid (HSU.out.keep (SameIn.of_below ((below1 w5 _).trans (hb6.mono (by simp))) (Nat.le_refl _)))
       have HB6 := Lib.hid ((HB5.out.alloc HB5.out.size _).trans (hb6.mono (by have := HB5.out.size; simp; omega)))
       have hw56 : w5.heap.size < w6.heap.size := lt_of_block kt5
       clear hsr hb6 kt5)
    | (go_at_call 13
       refine (decode_sys ba bn bc _ 0 w.heap.size l HN.out HBY.out (LL.out _ (HBX.out _)) ((HBX.out _)).size).mono ?_
       rintro e w5 ⟨uvs, ua, ub, uc, va, vb, vc, rfl, hsu, hfu, hb5⟩
       have HSU := Lib.hid hsu
       have HFU := Lib.hid hfu.few
       have HB5 : Hid (Below w.heap.size w w5) := Lib.hid (((HBX.out _)).trans (hb5.mono ((HBX.out _)).size))
       clear hsu hfu hb5)
    | (go_at_call 12; refine (num5_any _ _).mono ?_; rintro e9 w9 ⟨rfl, rfl⟩)
    | (go_at_call 13
       refine (decode_sys (some ⟨w.heap.size, 0, none⟩) N N _ w.heap.size w1.heap.size (List.replicate N 0 ++ []) (by simp) HBZ.out (Lies.of_owns HO1.out) (Nat.le_refl _)).mono ?_
       rintro e w2 ⟨zvs, za, zb, zc, zd, ze, zf, rfl, _, _, hb2⟩
       rw [HV.out]
       have HBX : Hid (∀ o : Obj, Below w.heap.size w (w2.alloc o)) := Lib.hid (fun o => (HB1.out.trans (hb2.mono HB1.out.size)).alloc (Nat.le_trans HB1.out.size hb2.size) o)
       clear hb2)
    | (refine wpList_make_full _ (by rfl) _ _ 29 (by rfl) w.heap.size 5 i0 _ 1 Try.underlying29 HI.out hz0 hz1 _ _ 16385 16385 N (by rfl) (by rfl) hN1.out hN1.out (by rw [hz2, hN2.out]; omega) (by rw [hN2.out]; simp [maxLen]) (Nat.le_refl _) ?_
       intro w1 hown hgrow
       rw [mk_u8] at hown
       have HO1 := Lib.hid hown
       have HB1 : Hid (Below w.heap.size w w1) := Lib.hid ((Below.refl _ _).grown hgrow (Nat.le_refl _) (fun k hk => by cases hk))
       clear hown hgrow))
  obtain ⟨V, hV⟩ : ∃ V, V = w6.alloc (.cells #[.int .i64 (decW l).1.frame, .int .i64 (decW l).1.margin, .slice ra (decW l).1.ws.length sa, .slice rb (decW l).1.ps.length sb, .slice rc (decW l).1.cs.length sc] 26 (0, 0)) := ⟨_, rfl⟩
  rw [← hV]
  have HBV : Hid (Below w.heap.size w V) := Lib.hid (by rw [hV]; exact HB6.out.alloc HB6.out.size _)
  have hv6 : w6.heap.size < V.heap.size := by rw [hV]; simp
  have kt6 : V.heap[w6.heap.size]? = some (.cells #[.int .i64 (decW l).1.frame, .int .i64 (decW l).1.margin, .slice ra (decW l).1.ws.length sa, .slice rb (decW l).1.ps.length sb, .slice rc (decW l).1.cs.length sc] 26 (0, 0)) := by rw [hV]; exact heap_new_at rfl
  have kt5 : V.heap[w5.heap.size]? = some (.cells #[.int .i64 (decW l).1.frame, .int .i64 (decW l).1.margin, .slice ua (decW l).1.ws.length va, .slice ub (decW l).1.ps.length vb, .slice uc (decW l).1.cs.length vc] 37 (0, 0)) := by rw [hV]; exact at_alloc HKT5.out
  have HSV : Hid (SysL V w5.heap.size (decW l).1 uvs ua ub uc va vb vc) := Lib.hid (by rw [hV]; exact HSU6.out.keep (SameIn.of_below (below1 _ _) (by omega)))
  have HRV : Hid (SysL V w6.heap.size (decW l).1 rvs ra rb rc sa sb sc) := Lib.hid (by rw [hV]; exact HSR.out.keep (SameIn.of_below (below1 _ _) (Nat.le_refl _)))
  have KS : Hid (∀ W : World, Below V.heap.size V W → (Below V.heap.size V W ∧ W.cell? ⟨w5.heap.size, 0, none⟩ = some (.int .i64 (decW l).1.frame) ∧ W.cell? ⟨w5.heap.size, 1, none⟩ = some (.int .i64 (decW l).1.margin) ∧ W.cell? ⟨w5.heap.size, 2, none⟩ = some (.slice ua (decW l).1.ws.length va) ∧ W.cell? ⟨w5.heap.size, 3, none⟩ = some (.slice ub (decW l).1.ps.length vb) ∧ W.cell? ⟨w5.heap.size, 4, none⟩ = some (.slice uc (decW l).1.cs.length vc) ∧ W.cell? ⟨w6.heap.size, 0, none⟩ = some (.int .i64 (decW l).1.frame) ∧ W.cell? ⟨w6.heap.size, 1, none⟩ = some (.int .i64 (decW l).1.margin) ∧ W.cell? ⟨w6.heap.size, 2, none⟩ = some (.slice ra (decW l).1.ws.length sa) ∧ W.cell? ⟨w6.heap.size, 3, none⟩ = some (.slice rb (decW l).1.ps.length sb) ∧ W.cell? ⟨w6.heap.size, 4, none⟩ = some (.slice rc (decW l).1.cs.length sc))) := Lib.hid (by
    intro W h
    have y1 := fun (i : Nat) (u : Value) (hu : (#[.int .i64 (decW l).1.frame, .int .i64 (decW l).1.margin, .slice ua (decW l).1.ws.length va, .slice ub (decW l).1.ps.length vb, .slice uc (decW l).1.cs.length vc] : Array Value)[i]? = some u) => (h.cell (p := ⟨w5.heap.size, i, none⟩) (by show w5.heap.size < _; omega)).trans (cell_in kt5 hu)
    have y2 := fun (i : Nat) (u : Value) (hu : (#[.int .i64 (decW l).1.frame, .int .i64 (decW l).1.margin, .slice ra (decW l).1.ws.length sa, .slice rb (decW l).1.ps.length sb, .slice rc (decW l).1.cs.length sc] : Array Value)[i]? = some u) => (h.cell (p := ⟨w6.heap.size, i, none⟩) hv6).trans (cell_in kt6 hu)
    exact ⟨h, y1 0 _ rfl, y1 1 _ rfl, y1 2 _ rfl, y1 3 _ rfl, y1 4 _ rfl, y2 0 _ rfl, y2 1 _ rfl, y2 2 _ rfl, y2 3 _ rfl, y2 4 _ rfl⟩)
  have CF : Hid (∀ W : World, Below V.heap.size V W → Calls Try.prog 16 #[.agg #[.int .i64 (decW l).1.frame, .int .i64 (decW l).1.margin, .slice ua (decW l).1.ws.length va, .slice ub (decW l).1.ps.length vb, .slice uc (decW l).1.cs.length vc]] W fun e w' => ∃ vs i1 i2 i3 j1 j2 j3, e = .returned (.agg #[.int .i64 (decW l).1.frame, .int .i64 (decW l).1.margin, .slice i1 (decW l).1.ws.length j1, .slice i2 (decW l).1.ps.length j2, .slice i3 (decW l).1.cs.length j3]) ∧ SysL w' w'.heap.size (decW l).1 vs i1 i2 i3 j1 j2 j3 ∧ Below W.heap.size W w') := Lib.hid (fun W h => ref_sys HFU.out (HSV.out.keep (SameIn.of_below h (by omega))) (Nat.le_trans (by omega) h.size))
  have CR : Hid (∀ W : World, Below V.heap.size V W → ∀ (vs : List Pv) (i1 i2 i3 : Option Addr) (j1 j2 j3 : Nat), SysL W W.heap.size (decW l).1 vs i1 i2 i3 j1 j2 j3 → Calls Try.prog 15 #[.agg #[.int .i64 (decW l).1.frame, .int .i64 (decW l).1.margin, .slice i1 (decW l).1.ws.length j1, .slice i2 (decW l).1.ps.length j2, .slice i3 (decW l).1.cs.length j3], .agg #[.int .i64 (decW l).1.frame, .int .i64 (decW l).1.margin, .slice ra (decW l).1.ws.length sa, .slice rb (decW l).1.ps.length sb, .slice rc (decW l).1.cs.length sc]] W fun e w' => e = .returned (.bool true) ∧ Below W.heap.size W w') := Lib.hid (by
    intro W h vs i1 i2 i3 j1 j2 j3 hy
    have r := refSame_sys HFU.out hy ((HRV.out.keep (SameIn.of_below h (by omega))).wider (Nat.le_trans (by omega) h.size)) (Nat.le_refl _)
    rw [eqCf_refl] at r
    exact r)
  obtain ⟨_, k0, k1, k2, k3, k4, k5, k6, k7, k8, k9⟩ := KS.out _ (Below.refl _ _)
  clear kt5 kt6 hV
  go_region_held3 (fun W => Below V.heap.size V W ∧ W.cell? ⟨w5.heap.size, 0, none⟩ = some (.int .i64 (decW l).1.frame) ∧ W.cell? ⟨w5.heap.size, 1, none⟩ = some (.int .i64 (decW l).1.margin) ∧ W.cell? ⟨w5.heap.size, 2, none⟩ = some (.slice ua (decW l).1.ws.length va) ∧ W.cell? ⟨w5.heap.size, 3, none⟩ = some (.slice ub (decW l).1.ps.length vb) ∧ W.cell? ⟨w5.heap.size, 4, none⟩ = some (.slice uc (decW l).1.cs.length vc) ∧ W.cell? ⟨w6.heap.size, 0, none⟩ = some (.int .i64 (decW l).1.frame) ∧ W.cell? ⟨w6.heap.size, 1, none⟩ = some (.int .i64 (decW l).1.margin) ∧ W.cell? ⟨w6.heap.size, 2, none⟩ = some (.slice ra (decW l).1.ws.length sa) ∧ W.cell? ⟨w6.heap.size, 3, none⟩ = some (.slice rb (decW l).1.ps.length sb) ∧ W.cell? ⟨w6.heap.size, 4, none⟩ = some (.slice rc (decW l).1.cs.length sc))
    (first | exact KS.out _ ((Below.refl _ _).drew) | exact KS.out _ (by assumption))
    (first
      | (go_at_call 12; refine (num5_any _ _).mono ?_; rintro e9 w9 ⟨rfl, rfl⟩)
      | (go_at_call 16; refine (CF.out _ (by go_split_ands; assumption)).mono ?_; rintro e w7 ⟨vs, i1, i2, i3, j1, j2, j3, rfl, hy, hb3⟩; have hbn : Below V.heap.size V w7 := (by go_split_ands; exact bel_go2 (by assumption) hb3); have HZ := Lib.hid hy; clear hy)
      | (go_at_call 15; refine (CR.out _ (by go_split_ands; assumption) _ _ _ _ _ _ _ HZ.out).mono ?_; rintro e w8 ⟨rfl, hb3⟩; have hbn : Below V.heap.size V w8 := (by go_split_ands; exact bel_go2 (by assumption) hb3))
      | (go_at_call 8; refine (knows5_any _).mono ?_; rintro e w10 ⟨rfl, hb3⟩; have hbn : Below V.heap.size V w10 := (by go_split_ands; exact bel_go2 (by assumption) hb3)))
  go_wp2_with fail
  go_ret
  exact ⟨rfl, HBV.out.trans (hbn.mono HBV.out.size)⟩
theorem ImageDecodes_body (ba : Option Addr) (bn bc : Nat) (big : Bool) (w : World) (l : List Int) (hln : l.length = bn) (hl : Lies w 0 w.heap.size (.slice ba bn bc) bn 1 (bts l)) (hby : Bytes l) :
    Calls Try.prog 4 #[.slice ba bn bc, .bool big] w fun e w' => e = .returned (.bool true) ∧ Below w.heap.size w w' := by
  by_cases hbig : bn > 5000
  · exact decodes_long ba bn bc big w l hln hl hby hbig
  · cases big with
    | false => exact decodes_small ba bn bc w l hln hl hby hbig
    | true => exact decodes_big ba bn bc w l hln hl hby hbig
end Go.Proofs.Ytiombjkjoehjpaa
