/- Joined of FlowJ, FlowK, FlowL: The rows along which edges lead: rows. -/
import Derived.Test.YtkikapodobeaaaaFlowRows
import Derived.Test.YtkikapodobeaaaaGrow
import Derived.Test.YtkikapodobeaaaaSys
import Derived.Test.YtkikapodobeaaaaFlowSets
namespace Go.Proofs.Ytkikapodobeaaaa
open Go.ChangeShapes Go.WideShapes Go.ChangeAt Go.RowKit Go.Maps
set_option linter.unusedVariables false
attribute [local go_sem ↓] Go.wp_at_zero Go.wp_at_succ

def rowC (n : Nat) (h : Ch) : List Int := [h.from_, h.to].filter (hasB n)
def rowP (n : Nat) (i : Nat) (p : Pt) : List Int := (i : Int) :: p.ds.filter (hasB n)
def rowsP (n : Nat) : List Pt → Nat → List (List Int)
  | [], _ => []
  | p :: l, i => rowP n i p :: rowsP n l (i + 1)
theorem rowsP_snoc (n : Nat) (p : Pt) : ∀ (l : List Pt) (i : Nat), rowsP n (l ++ [p]) i = rowsP n l i ++ [rowP n (i + l.length) p]
  | [], i => rfl
  | q :: l, i => by rw [List.cons_append, rowsP, rowsP, rowsP_snoc n p l (i + 1), List.cons_append, List.length_cons, show i + 1 + l.length = i + (l.length + 1) by omega]
theorem rowsP_len (n : Nat) : ∀ (l : List Pt) (i : Nat), (rowsP n l i).length = l.length
  | [], i => rfl
  | q :: l, i => by rw [rowsP, List.length_cons, rowsP_len n l, List.length_cons]
def rowsV (c : Cf) : List (List Int) := c.cs.map (rowC c.ps.length) ++ rowsP c.ps.length c.ps 0
theorem rowsV_len (c : Cf) : (rowsV c).length = c.cs.length + c.ps.length := by simp [rowsV, rowsP_len]
theorem Try.infoRow : (Try.prog.info? 42).map (fun i => (i.zero, i.size, i.bytes)) = some (some (.slice none 0 0), 1, 24) := by kernel_rfl
theorem take_snoc {α : Type} {l : List α} {k : Nat} {x : α} (h : l[k]? = some x) : l.take (k + 1) = l.take k ++ [x] := by rw [List.take_add_one, h]; rfl
theorem ints_in {n : Nat} (l : List Int) : (l.filter (hasB n)).length ≤ l.length := List.length_filter_le _ _
/-- What there is behind some rows. -/
structure RowsAt (w wr : World) (ls : List (List Int)) (a : Option Addr) (cap : Nat) (vs : List Value) : Prop where
  own : wr.ownsRow w.heap.size 42 1 (.slice a ls.length cap) ls.length vs
  rows : RowsL wr (Value.slice a ls.length cap).ownBlock vs ls
  below : Below w.heap.size w wr
theorem RowsAt.later {w wr W : World} {ls : List (List Int)} {a : Option Addr} {cap : Nat} {vs : List Value} (h : RowsAt w wr ls a cap vs) (hb : Below wr.heap.size wr W) : RowsAt w W ls a cap vs :=
  ⟨owns_later h.own hb, h.rows.later hb, h.below.trans (hb.mono h.below.size)⟩
/-- A row more: what it is made of lies behind all that was there. -/
theorem RowsAt.next {w wr W W' : World} {ls : List (List Int)} {a ao : Option Addr} {cap cap' : Nat} {vs : List Value} (h : RowsAt w wr ls a cap vs) (hb : Below wr.heap.size wr W) {v : Value} {xs : List Int} {lo hi : Nat} (h1 : wr.heap.size ≤ lo) (h2 : hi ≤ W.heap.size)
    (hv : Lies W lo hi v xs.length 1 (xs.flatMap intCells)) {N : Nat} (hN : ls.length + 1 = N) (hown : W'.ownsRow w.heap.size 42 1 (.slice ao N cap') N (vs ++ [v])) (hg : W.grownBy W' (Value.slice a ls.length cap).ownBlock)
    (ho : (Value.slice ao N cap').ownBlock = (Value.slice a ls.length cap).ownBlock ∨ (Value.slice ao N cap').ownBlock = some W.heap.size) : RowsAt w W' (ls ++ [xs]) ao cap' (vs ++ [v]) := by
  subst hN
  have hl := h.later hb
  have e : (ls ++ [xs]).length = ls.length + 1 := by simp
  have hsz := h.below.size
  have hob : ∀ g, (Value.slice a ls.length cap).ownBlock = some g → g < lo ∨ hi ≤ g := fun g hg' => by have := (owns_own h.own g hg').2; omega
  refine ⟨by rw [e]; exact hown, ?_, ?_⟩
  · rw [e]
    exact (hl.rows.snoc h2 hob hv).grown hg ho
  · exact hl.below.grown hg (by have := hb.size; omega) (fun k hk => (owns_own h.own k hk).1)

set_option maxRecDepth 100000 in
set_option maxHeartbeats 4000000 in
theorem rows_sys {w : World} {hi : Nat} {c : Cf} {pvs : List Pv} {wa pa ca : Option Addr} {wc pc cc : Nat} (f : Few c) (h : SysL w hi c pvs wa pa ca wc pc cc) (hh : hi ≤ w.heap.size) :
    Calls Try.prog 23 #[.agg #[.int .i64 c.frame, .int .i64 c.margin, .slice wa c.ws.length wc, .slice pa c.ps.length pc, .slice ca c.cs.length cc]] w fun e w' => ∃ a cap vs, e = .returned (.slice a (rowsV c).length cap) ∧ RowsAt w w' (rowsV c) a cap vs := by
  obtain ⟨i0, hi0, hz0, hz1, hz2⟩ := info_parts Try.infoInt
  obtain ⟨i1, hi1, hy0, hy1, hy2⟩ := info_parts Try.infoRow
  have HI := Lib.hid hi0; have HJ := Lib.hid hi1
  clear hi0 hi1
  obtain ⟨f1, f2, f3, f4⟩ := f
  obtain ⟨V, hV⟩ : ∃ V, V = w.alloc (.cells #[.int .i64 c.frame, .int .i64 c.margin, .slice wa c.ws.length wc, .slice pa c.ps.length pc, .slice ca c.cs.length cc] 35) := ⟨_, rfl⟩
  have B1 : Below w.heap.size w V := by rw [hV]; exact below1 _ _
  have hblk : CBox V w.heap.size c.frame c.margin wa pa ca c.ws.length wc c.ps.length pc c.cs.length cc := by rw [hV]; exact heap_alloc_new _ _
  have hvs : w.heap.size + 1 ≤ V.heap.size := by rw [hV]; simp
  have ks : ∀ W : World, Below V.heap.size V W → (W.cell? ⟨w.heap.size, 0, none⟩ = some (.int .i64 c.frame) ∧ W.cell? ⟨w.heap.size, 1, none⟩ = some (.int .i64 c.margin) ∧ W.cell? ⟨w.heap.size, 2, none⟩ = some (.slice wa c.ws.length wc) ∧ W.cell? ⟨w.heap.size, 3, none⟩ = some (.slice pa c.ps.length pc) ∧ W.cell? ⟨w.heap.size, 4, none⟩ = some (.slice ca c.cs.length cc)) ∧ SysL W hi c pvs wa pa ca wc pc cc := by
    intro W g
    have q := fun (i : Nat) (u : Value) hu => (g.cell (p := ⟨w.heap.size, i, none⟩) (lt_of_block hblk)).trans (cell_in (j := i) (u := u) hblk hu)
    exact ⟨⟨q 0 _ rfl, q 1 _ rfl, q 2 _ rfl, q 3 _ rfl, q 4 _ rfl⟩, h.keep (SameIn.of_below (B1.trans (g.mono (by omega))) hh)⟩
  obtain ⟨⟨z0, z1, z2, z3, z4⟩, _⟩ := ks V (Below.refl _ _)
  have KS := Lib.hid ks; have HV := Lib.hid hV; have HB1 := Lib.hid B1; have HF := Lib.hid f4
  have hlp := h.l3.length
  have HLP := Lib.hid hlp
  clear ks hV B1 hblk h hlp f4
  go_enter Try.func23, Try.ntmps23
  go_wp2_with fail
  rw [← HV.out]
  go_wp2_with fail
  go_loopw [3, 11] (fun s3 i wr => ∃ (k : Nat) (a : Option Addr) (cap : Nat) (vs : List Value), k ≤ c.cs.length ∧ s3 = .slice a k cap ∧ i = .int .i64 k ∧ Hid (RowsAt V wr ((c.cs.take k).map (rowC c.ps.length)) a cap vs)) (fun _ i _ => c.cs.length - (intOf i).toNat)
  case atStart => exact ⟨0, none, 0, [], by omega, rfl, rfl, Lib.hid ⟨World.ownsRow_nil _ _ _ _, RowsL.nil _ _, Below.refl _ _⟩⟩
  case round =>
    obtain ⟨k, a, cap, vs, hk, rfl, rfl, HR⟩ := hrel
    have hbv : Below V.heap.size V wr := HR.out.below
    obtain ⟨⟨y0, y1, y2, y3, y4⟩, hS⟩ := KS.out wr hbv
    by_cases hlt : k < c.cs.length
    · have tk : decide ((k : Int) < (c.cs.length : Int)) = true := by simpa using hlt
      obtain ⟨x, hx⟩ : ∃ x, c.cs[k]? = some x := ⟨_, List.getElem?_eq_getElem hlt⟩
      obtain ⟨a2, c2, ee, _, _, hc⟩ := hS.l4
      cases ee
      rcases hc with h0 | ⟨g, off, rfl, hb1, hb2, hc⟩
      · omega
      obtain ⟨s0, s1, s2, s3⟩ := Lies.ch hc hx
      have hlen : ((c.cs.take k).map (rowC c.ps.length)).length = k := by simp; omega
      have HX := Lib.hid hx; have HLN := Lib.hid hlen
      have hbsz := hbv.size
      have hlt0 : w.heap.size < wr.heap.size := by omega
      have l0 : (0 : Int) ≤ (k : Int) := by omega
      have l1 : (k : Int) < (c.cs.length : Int) := by omega
      -- the world behind the channel's box and the pair
      obtain ⟨U, hU⟩ : ∃ U, U = (wr.alloc (.cells #[.bool x.queue, .int .i64 x.from_, .int .i64 x.to, .int .i64 x.size] 58)).alloc (.cells #[.int .i64 x.from_, .int .i64 x.to] 3) := ⟨_, rfl⟩
      have hBU : Below wr.heap.size wr U := by rw [hU]; exact (below1 _ _).alloc (by simp) _
      have hUs : U.heap.size = wr.heap.size + 2 := by rw [hU]; simp
      have hUb : U.heap[wr.heap.size + 1]? = some (.cells #[.int .i64 x.from_, .int .i64 x.to] 3 (0, 0)) := by
        rw [hU]
        have := heap_alloc_new (wr.alloc (.cells #[.bool x.queue, .int .i64 x.from_, .int .i64 x.to, .int .i64 x.size] 58)) (.cells #[.int .i64 x.from_, .int .i64 x.to] 3)
        simpa using this
      have hpair : Lies U (wr.heap.size + 1) (wr.heap.size + 2) (.slice (some ⟨wr.heap.size + 1, 0, none⟩) 2 2) 2 1 ([x.from_, x.to].flatMap intCells) :=
        ⟨_, _, rfl, rfl, (fun h => by cases h), .inr ⟨wr.heap.size + 1, 0, rfl, Nat.le_refl _, by omega, fun j u hu => by rw [Nat.zero_add]; exact cell_in hUb (by simpa [intCells] using hu)⟩⟩
      have hkn := known_any c.frame c.margin wa pa (some ⟨g, off, none⟩) (some ⟨wr.heap.size + 1, 0, none⟩) c.ws.length wc c.ps.length pc c.cs.length cc 2 2 U _ _ [x.from_, x.to] rfl hpair (by omega) (by omega)
      obtain ⟨rl, hrl⟩ : ∃ rl, rl = [x.from_, x.to].filter (hasB c.ps.length) := ⟨_, rfl⟩
      have HRL : Hid (rowC c.ps.length x = rl) := Lib.hid (by rw [hrl]; rfl)
      rw [← hrl] at hkn
      have HU := Lib.hid hU; have HBU := Lib.hid hBU; have HKN := Lib.hid hkn
      clear hx hc hlen hU hUb hpair hrl hS hBU hkn z0 z1 z2 z3 z4
      go_wp2_with (first
        | (refine wpList_append_lie2 (by rfl) (.tmp 15) (.tmp 23) 72 (by rfl) V.heap.size 42 i1 _ 1 24 Try.underlying72 HJ.out hy0 hy1 hy2 rfl (by omega) (.slice a k cap) k vs (by rfl) HO2.out (.slice (some ⟨w2.heap.size, 0, none⟩) 1 1) w2.heap.size (w2.heap.size + 1) 1 [.slice a2 rl.length c2] (by rfl) (one_lies (cs := #[.slice a2 rl.length c2]) (t := 42) (heap_alloc_new _ _) rfl) (by intro u hu; simp at hu; subst hu; rfl) (k + 1) rfl (by simp only [maxLen]; omega) (by omega) (by have := hb2.size; simp; omega) ?_; intro ao cap' w3 hown hgrow hob)
        | (go_at_call 33; rw [← HU.out]; refine HKN.out.mono ?_; rintro e w2 ⟨a2, c2, rfl, hl2, hb2⟩; have HO2 : Hid ((w2.alloc (.cells #[.slice a2 rl.length c2] 42)).ownsRow V.heap.size 42 1 (.slice a k cap) k vs) := Lib.hid (by have := owns_later HR.out.own ((HBU.out.trans (hb2.mono (by omega))).alloc (by have := hb2.size; omega) (.cells #[.slice a2 rl.length c2] 42)); rwa [HLN.out] at this))
        | go_in)
      go_roundw
      case rel =>
        refine ⟨k + 1, ao, cap', vs ++ [.slice a2 rl.length c2], by omega, rfl, by go_num, Lib.hid ?_⟩
        rw [take_snoc HX.out, List.map_append, List.map_cons, List.map_nil, HRL.out]
        have hb3 : Below wr.heap.size wr (w2.alloc (.cells #[.slice a2 rl.length c2] 42)) := (HBU.out.trans (hb2.mono (by omega))).alloc (by have := hb2.size; omega) _
        exact HR.out.next hb3 (lo := U.heap.size) (hi := w2.heap.size) (by omega) (by simp) (hl2.keep (SameIn.of_below (below1 _ _) (Nat.le_refl _))) (by rw [HLN.out]) hown (by rw [HLN.out]; exact hgrow) (by rw [HLN.out]; exact hob)
      case measure => simp [intOf]; omega
    · have tk : decide ((k : Int) < (c.cs.length : Int)) = false := by simp; omega
      have ek : k = c.cs.length := by omega
      subst ek
      rw [List.take_length] at HR
      have hbsz := hbv.size
      clear hS
      go_wp2
      go_loopw [3, 29] (fun s3 i wr => ∃ (k : Nat) (a : Option Addr) (cap : Nat) (vs : List Value), k ≤ c.ps.length ∧ s3 = .slice a (c.cs.length + k) cap ∧ i = .int .i64 k ∧ Hid (RowsAt V wr (c.cs.map (rowC c.ps.length) ++ rowsP c.ps.length (c.ps.take k) 0) a cap vs)) (fun _ i _ => c.ps.length - (intOf i).toNat)
      case atStart => exact ⟨0, a, cap, vs, by omega, rfl, rfl, Lib.hid (by simpa [rowsP] using HR.out)⟩
      case round =>
        clear HR
        obtain ⟨k, a, cap, vs, hk, rfl, rfl, HR⟩ := hrel
        have hbv : Below V.heap.size V wr := HR.out.below
        obtain ⟨⟨y0, y1, y2, y3, y4⟩, hS⟩ := KS.out wr hbv
        by_cases hlt : k < c.ps.length
        · have tk : decide ((k : Int) < (c.ps.length : Int)) = true := by simpa using hlt
          obtain ⟨x, hx⟩ : ∃ x, c.ps[k]? = some x := ⟨_, List.getElem?_eq_getElem hlt⟩
          obtain ⟨pv, hpv⟩ : ∃ x, pvs[k]? = some x := ⟨_, List.getElem?_eq_getElem (by rw [HLP.out]; exact hlt)⟩
          have hpl := hS.l3.at hpv hx
          obtain ⟨ta, sa, da, tc, sc, dc, e1, e2, e3⟩ := hpl.slices
          have hds := hpl.2.2.1
          rw [e3] at hds
          have hdl : x.ds.length ≤ 1000 := (HF.out x (List.mem_of_getElem? hx)).2.2
          obtain ⟨a2, c2, ee, _, _, hc⟩ := hS.l2
          cases ee
          rcases hc with h0 | ⟨g, off, rfl, hb1, hb2, hc⟩
          · omega
          obtain ⟨s0, s1, s2, s3, s4, s5⟩ := Lies.pv hc hpv
          rw [e1] at s0; rw [e2] at s1; rw [e3] at s2
          have hlen : (c.cs.map (rowC c.ps.length) ++ rowsP c.ps.length (c.ps.take k) 0).length = c.cs.length + k := by simp [rowsP_len]; omega
          have hil : (c.ps.take k).length = k := by simp; omega
          have HIL := Lib.hid hil
          have HX := Lib.hid hx; have HLN := Lib.hid hlen
          have hbsz := hbv.size
          have hlt0 : w.heap.size < wr.heap.size := by omega
          have l0 : (0 : Int) ≤ (k : Int) := by omega
          have l1 : (k : Int) < (c.ps.length : Int) := by omega
          obtain ⟨U0, hU0⟩ : ∃ U0, U0 = wr.alloc (.cells #[.slice ta x.ts.length tc, .slice sa x.ss.length sc, .slice da x.ds.length dc, .int .u8 pv.a0, .int .u8 pv.a1, .int .u8 pv.a2] 69) := ⟨_, rfl⟩
          have hB0 : Below wr.heap.size wr U0 := by rw [hU0]; exact below1 _ _
          have hU0s : U0.heap.size = wr.heap.size + 1 := by rw [hU0]; simp
          obtain ⟨U, hU⟩ : ∃ U, U = U0.alloc (.cells #[.int .i64 (k : Int)] 3) := ⟨_, rfl⟩
          have hBU : Below wr.heap.size wr U := by rw [hU]; exact hB0.alloc (by omega) _
          have hUs : U.heap.size = wr.heap.size + 2 := by rw [hU]; simp [hU0s]
          have hone : U.ownsRow U0.heap.size 3 1 (.slice (some ⟨wr.heap.size + 1, 0, none⟩) 1 1) 1 [.int .i64 (k : Int)] := by
            have := owns_one (w := U0) (e := 3) (base := U0.heap.size) (x := .int .i64 (k : Int)) (Nat.le_refl _)
            rw [hU0s] at this ⊢
            rw [hU]; exact this
          have hkn := known_any c.frame c.margin wa (some ⟨g, off, none⟩) ca da c.ws.length wc c.ps.length pc c.cs.length cc x.ds.length dc U 0 hi x.ds rfl (hds.keep (SameIn.of_below hBU (by omega))) (by omega) hdl
          obtain ⟨rl, hrl⟩ : ∃ rl, rl = x.ds.filter (hasB c.ps.length) := ⟨_, rfl⟩
          have hrll : rl.length ≤ 1000 := by rw [hrl]; exact Nat.le_trans (List.length_filter_le _ _) hdl
          have HRL : Hid (rowP c.ps.length k x = (k : Int) :: rl) := Lib.hid (by rw [hrl]; rfl)
          rw [← hrl] at hkn
          have HU := Lib.hid (show U = (wr.alloc (.cells #[.slice ta x.ts.length tc, .slice sa x.ss.length sc, .slice da x.ds.length dc, .int .u8 pv.a0, .int .u8 pv.a1, .int .u8 pv.a2] 69)).alloc (.cells #[.int .i64 (k : Int)] 3) by rw [hU, hU0]); have HBU := Lib.hid hBU; have HKN := Lib.hid hkn; have HONE := Lib.hid (show U.ownsRow (wr.heap.size + 1) 3 1 (.slice (some ⟨wr.heap.size + 1, 0, none⟩) 1 1) 1 [.int .i64 (k : Int)] from owns_base hone (by omega))
          have hUs2 : wr.heap.size + 2 ≤ U.heap.size := by omega
          clear hx hc hlen hU hU0 hUs hU0s hone hpl hds hrl hS hBU hB0 hkn z0 z1 z2 z3 z4 e1 e2 e3 hpv hil
          go_wp2_with (first
            | (refine wpList_append_lie2 (by rfl) (.tmp 34) (.tmp 42) 72 (by rfl) V.heap.size 42 i1 _ 1 24 Try.underlying72 HJ.out hy0 hy1 hy2 rfl (by omega) (.slice a (c.cs.length + k) cap) (c.cs.length + k) vs (by rfl) HO3.out (.slice (some ⟨w3.heap.size, 0, none⟩) 1 1) w3.heap.size (w3.heap.size + 1) 1 [.slice ao3 (1 + rl.length) cap3] (by rfl) (one_lies (cs := #[.slice ao3 (1 + rl.length) cap3]) (t := 42) (heap_alloc_new _ _) rfl) (by intro u hu; simp at hu; subst hu; rfl) (c.cs.length + k + 1) rfl (by simp only [maxLen]; omega) (by omega) (by have := hbw3.size; simp; omega) ?_; intro ao cap' w4 hown hgrow hob)
            | (refine wpList_append_lie2 (by rfl) (.tmp 36) (.tmp 40) 42 (by rfl) (wr.heap.size + 1) 3 i0 _ 1 8 Try.underlying42 HI.out hz0 hz1 hz2 rfl (by omega) (.slice (some ⟨wr.heap.size + 1, 0, none⟩) 1 1) 1 [.int .i64 (k : Int)] (by rfl) (owns_later HONE.out hb2) (.slice a2 rl.length c2) U.heap.size w2.heap.size rl.length (rl.flatMap intCells) (by rfl) hl2 (flat_one intCells in_one _) (1 + rl.length) rfl (by simp only [maxLen]; omega) (by omega) (by have := hb2.size; omega) ?_; intro ao3 cap3 w3 hown3 hgrow3 hob3; have hbw3 : Below wr.heap.size wr w3 := (HBU.out.trans (hb2.mono (by omega))).grown hgrow3 (by have := hb2.size; omega) (fun q hq => by cases hq; exact Nat.le_succ _); have HO3 : Hid ((w3.alloc (.cells #[.slice ao3 (1 + rl.length) cap3] 42)).ownsRow V.heap.size 42 1 (.slice a (c.cs.length + k) cap) (c.cs.length + k) vs) := Lib.hid (by have := owns_later HR.out.own (hbw3.alloc (by have := hbw3.size; omega) (.cells #[.slice ao3 (1 + rl.length) cap3] 42)); rwa [HLN.out] at this))
            | (go_at_call 33; rw [← HU.out]; refine HKN.out.mono ?_; rintro e w2 ⟨a2, c2, rfl, hl2, hb2⟩)
            | go_in)
          go_roundw
          case rel =>
            refine ⟨k + 1, ao, cap', vs ++ [.slice ao3 (1 + rl.length) cap3], by omega, rfl, by go_num, Lib.hid ?_⟩
            rw [take_snoc HX.out, rowsP_snoc, ← List.append_assoc, HIL.out, Nat.zero_add, HRL.out]
            have hb3 : Below wr.heap.size wr (w3.alloc (.cells #[.slice ao3 (1 + rl.length) cap3] 42)) := hbw3.alloc (by have := hbw3.size; omega) _
            have hl3 : Lies w3 (wr.heap.size + 1) w3.heap.size (.slice ao3 (1 + rl.length) cap3) ((k : Int) :: rl).length 1 (((k : Int) :: rl).flatMap intCells) := by
              have := Lies.of_owns hown3
              rwa [Nat.add_comm 1 rl.length] at this ⊢
            exact HR.out.next hb3 (lo := wr.heap.size + 1) (hi := w3.heap.size) (by omega) (by simp) (hl3.keep (SameIn.of_below (below1 _ _) (Nat.le_refl _))) (by rw [HLN.out]) hown (by rw [HLN.out]; exact hgrow) (by rw [HLN.out]; exact hob)
          case measure => simp [intOf]; omega
        · have tk : decide ((k : Int) < (c.ps.length : Int)) = false := by simp; omega
          have ek : k = c.ps.length := by omega
          subst ek
          rw [List.take_length] at HR
          clear hS
          go_wp2
          go_ret
          refine ⟨a, cap, vs, ?_, ?_⟩
          · rw [rowsV_len]; rfl
          · have HV2 : Below w.heap.size w V := HB1.out
            have q := HR.out
            exact ⟨owns_base q.own (by omega), q.rows, HV2.trans (q.below.mono (by omega))⟩
end Go.Proofs.Ytkikapodobeaaaa
namespace Go.Proofs.Ytkikapodobeaaaa
open Go.ChangeShapes Go.WideShapes Go.ChangeAt Go.RowKit Go.Maps Go.Sort
set_option linter.unusedVariables false
attribute [local go_sem ↓] Go.wp_at_zero Go.wp_at_succ

theorem sorted_same : ∀ {l m : List (Int × Int)}, l.Pairwise (fun x y => ltE x y = true) → m.Pairwise (fun x y => ltE x y = true) → (∀ e, e ∈ l ↔ e ∈ m) → l = m
  | [], [], _, _, _ => rfl
  | [], y :: m, _, _, h => by have := (h y).2 (by simp); simp at this
  | x :: l, [], _, _, h => by have := (h x).1 (by simp); simp at this
  | x :: l, y :: m, h1, h2, h => by
    rw [List.pairwise_cons] at h1 h2
    have irr : ∀ z : Int × Int, ltE z z = false := fun z => by simp [ltE]
    have asy : ∀ a b : Int × Int, ltE a b = true → ltE b a = true → False := fun a b p q => by simp [ltE] at p q; omega
    have e : x = y := by
      rcases List.mem_cons.1 ((h x).1 (by simp)) with hx | hx
      · exact hx
      · rcases List.mem_cons.1 ((h y).2 (by simp)) with hy | hy
        · exact hy.symm
        · exact (asy _ _ (h2.1 _ hx) (h1.1 _ hy)).elim
    subst e
    rw [sorted_same h1.2 h2.2 (fun z => ?_)]
    constructor
    · intro hz
      rcases List.mem_cons.1 ((h z).1 (List.mem_cons_of_mem _ hz)) with rfl | hz'
      · have := h1.1 _ hz; rw [irr] at this; cases this
      · exact hz'
    · intro hz
      rcases List.mem_cons.1 ((h z).2 (List.mem_cons_of_mem _ hz)) with rfl | hz'
      · have := h2.1 _ hz; rw [irr] at this; cases this
      · exact hz'
theorem sortV_strict {ss : List (Int × Int)} (h : ss.Nodup) : (sortV ss).Pairwise (fun x y => ltE x y = true) := by
  have hs : (sortV ss).Pairwise (fun x y => (!(ltOf cmpE) y x) = true) := by
    unfold sortV
    apply List.pairwise_mergeSort
    · intro a b c h1 h2
      rw [lt_cmpE] at *
      simp [ltE] at *
      omega
    · intro a b
      rw [lt_cmpE]
      simp [ltE]
      omega
  have hn : (sortV ss).Pairwise (fun x y => x ≠ y) := (List.mergeSort_perm ss _).nodup_iff.2 h
  refine (hs.and hn).imp fun {a b} h => ?_
  obtain ⟨h1, h2⟩ := h
  rw [lt_cmpE] at h1
  obtain ⟨a1, a2⟩ := a
  obtain ⟨b1, b2⟩ := b
  simp only [ne_eq, Prod.mk.injEq] at h2
  simp [ltE] at h1 ⊢
  omega
/-- The edges of a system, as ints. -/
def edgesI (c : Cf) : List (Int × Int) := (edgesV c).map fun e => ((e.1 : Int), (e.2 : Int))
theorem edgesI_mem {c : Cf} {e : Int × Int} : e ∈ edgesI c ↔ isE c e.1 e.2 = true := by
  unfold edgesI
  rw [List.mem_map]
  constructor
  · rintro ⟨⟨a, b⟩, h, rfl⟩; exact edges_mem.1 h
  · intro h
    have q := isE_has h
    refine ⟨(e.1.toNat, e.2.toNat), edges_mem.2 ?_, ?_⟩
    · rw [show ((e.1.toNat : Nat) : Int) = e.1 by omega, show ((e.2.toNat : Nat) : Int) = e.2 by omega]; exact h
    · exact Prod.ext (by simp; omega) (by simp; omega)
theorem edgesI_strict (c : Cf) : (edgesI c).Pairwise (fun x y => ltE x y = true) := by
  unfold edgesI edgesV
  rw [List.pairwise_map, List.pairwise_flatMap]
  constructor
  · intro a _
    rw [List.pairwise_map]
    refine ((List.pairwise_lt_range (n := c.ps.length)).filter _).imp fun {x y} h => ?_
    simp [ltE]; omega
  · refine (List.pairwise_lt_range (n := c.ps.length)).imp fun {x y} h => ?_
    intro p hp q hq
    obtain ⟨u, _, rfl⟩ := List.mem_map.1 hp
    obtain ⟨v, _, rfl⟩ := List.mem_map.1 hq
    simp [ltE]; omega
theorem edges_sorted {c : Cf} {ss : List (Int × Int)} (h1 : ss.Nodup) (h2 : ∀ e, e ∈ ss ↔ isE c e.1 e.2 = true) : sortV ss = edgesI c :=
  sorted_same (sortV_strict h1) (edgesI_strict c) fun e => by
    rw [edgesI_mem, ← h2 e]
    exact (List.mergeSort_perm ss _).mem_iff
set_option maxRecDepth 100000 in
set_option maxHeartbeats 4000000 in
theorem sorted_any (Bm b nn : Nat) (P : Int × Int → Prop) (w : World) (hm : w.cell? ⟨Bm, 0, none⟩ = some (.map (some b))) (hBm : Bm < w.heap.size) (hS : SetP w b nn P) (hN : nn * 16 ≤ 140737488355328) :
    Calls Try.prog 36 #[.func (.func 50) #[] #[.pointer (some ⟨Bm, 0, none⟩)], .func (.func 38) #[] #[]] w fun e w' => ∃ (a : Option Addr) (cap : Nat) (ss : List (Int × Int)), e = .returned (.slice a ss.length cap) ∧ ss.Nodup ∧ (∀ e ∈ ss, EIn e) ∧ (∀ e, EIn e → (e ∈ ss ↔ P e)) ∧ w'.ownsRow w.heap.size 41 2 (.slice a ss.length cap) ss.length ((sortV ss).flatMap eC) ∧ Below w.heap.size w w' := by
  obtain ⟨S, hSE, hSP⟩ := hS
  have hc := collectE_any Bm b nn S w hm hBm hSE hN
  have HSP := Lib.hid hSP
  clear hSP hSE
  go_enter Try.func36, Try.ntmps36
  go_wp2_with (first
    | (go_at_call 49; refine (sortE_any _ _ _ _ HO.out hlen).mono ?_; rintro e w2 ⟨rfl, hown2, hb2⟩)
    | (go_at_call 48; refine hc.mono ?_; rintro e w1 ⟨v, ss, rfl, ⟨hA, hAn⟩, hown, hb1⟩; obtain ⟨⟨a, cap, rfl⟩, _⟩ := owns_slice hown; have hlen : ss.length < 4611686018427387904 := (by omega); clear hAn; have HO := Lib.hid hown; have HA := Lib.hid hA; clear hown hA))
  go_ret
  exact ⟨a, cap, ss, rfl, HA.out.1, HA.out.2.1, fun e he => (HA.out.2.2 e he).trans (HSP.out e he), hown2, hb1.trans hb2⟩
set_option maxRecDepth 100000 in
set_option maxHeartbeats 4000000 in
theorem rising_any (b nn : Nat) (P : Int × Int → Prop) (w : World) (hS : SetP w b nn P) (hN : nn * 16 ≤ 140737488355328) :
    Calls Try.prog 25 #[.map (some b)] w fun e w' => ∃ (a : Option Addr) (cap : Nat) (ss : List (Int × Int)), e = .returned (.slice a ss.length cap) ∧ ss.Nodup ∧ (∀ e ∈ ss, EIn e) ∧ (∀ e, EIn e → (e ∈ ss ↔ P e)) ∧ w'.ownsRow w.heap.size 41 2 (.slice a ss.length cap) ss.length ((sortV ss).flatMap eC) ∧ Below w.heap.size w w' := by
  have hk := keysMade_any (some b) w
  obtain ⟨V, hV⟩ : ∃ V, V = w.alloc (.cells #[.map (some b)] 71) := ⟨_, rfl⟩
  have B1 : Below w.heap.size w V := by rw [hV]; exact below1 _ _
  have hvs : V.heap.size = w.heap.size + 1 := by rw [hV]; simp
  have hcl : V.cell? ⟨w.heap.size, 0, none⟩ = some (.map (some b)) := by rw [hV]; exact cell_in (heap_alloc_new _ _) rfl
  have hso := sorted_any w.heap.size b nn P V hcl (by omega) (hS.later B1) hN
  rw [← hV] at hk
  have HB1 := Lib.hid B1; have HV := Lib.hid hvs
  clear hV hvs hcl B1
  go_enter Try.func25, Try.ntmps25
  go_wp2_with (first
    | (go_at_call 36; refine hso.mono ?_; rintro e w2 ⟨a, cap, ss, rfl, q1, q2, q3, hown2, hb2⟩)
    | (go_at_call 37; refine hk.mono ?_; rintro e w1 ⟨rfl, rfl⟩))
  go_ret
  exact ⟨a, cap, ss, rfl, q1, q2, q3, owns_base hown2 (by rw [HV.out]; omega), HB1.out.trans (hb2.mono HB1.out.size)⟩
end Go.Proofs.Ytkikapodobeaaaa
namespace Go.Proofs.Ytkikapodobeaaaa
open Go.ChangeShapes Go.WideShapes Go.ChangeAt Go.RowKit Go.Maps Go.Sort
set_option linter.unusedVariables false
attribute [local go_sem ↓] Go.wp_at_zero Go.wp_at_succ

theorem laterB_filter (f : Int → Bool) (a b : Int) : ∀ l : List Int, laterB a b (l.filter f) = (laterB a b l && (f a && f b))
  | [] => by simp [laterB]
  | x :: l => by
    rw [List.filter_cons]
    have ih := laterB_filter f a b l
    rw [Bool.eq_iff_iff]
    simp only [Bool.and_eq_true]
    split
    · rename_i hx
      simp only [laterB, Bool.or_eq_true, Bool.and_eq_true, List.contains_iff_mem, List.mem_filter, beq_iff_eq, ih]
      constructor
      · rintro (⟨h1, h2, h3⟩ | h)
        · exact ⟨.inl ⟨h1, h2⟩, by rw [← h1]; exact hx, h3⟩
        · exact ⟨.inr h.1, h.2⟩
      · rintro ⟨⟨h1, h2⟩ | h, h3, h4⟩
        · exact .inl ⟨h1, h2, h4⟩
        · exact .inr ⟨h, h3, h4⟩
    · rename_i hx
      rw [ih]
      simp only [laterB, Bool.or_eq_true, Bool.and_eq_true, List.contains_iff_mem, beq_iff_eq]
      constructor
      · rintro ⟨h, h3⟩; exact ⟨.inr h, h3⟩
      · rintro ⟨⟨h1, h2⟩ | h, h3, h4⟩
        · exact absurd (by rw [h1]; exact h3) hx
        · exact ⟨h, h3, h4⟩
theorem rowP_is {n i : Nat} (hi : i < n) (p : Pt) : rowP n i p = ((i : Int) :: p.ds).filter (hasB n) := by
  unfold rowP
  rw [List.filter_cons, if_pos]
  unfold hasB
  simp; omega
theorem rowC_later {n : Nat} {h : Ch} {a b : Int} : laterB a b (rowC n h) = true ↔ chB a b h = true ∧ hasB n a = true ∧ hasB n b = true := by
  unfold rowC chB
  rw [laterB_filter, Bool.and_eq_true, Bool.and_eq_true]
  refine and_congr_left' ?_
  simp [laterB]
  intro _
  exact eq_comm
theorem rowsP_at {n : Nat} : ∀ {l : List Pt} {i k : Nat}, (rowsP n l i)[k]? = (l[k]?).map (rowP n (i + k))
  | [], i, k => by simp [rowsP]
  | p :: l, i, 0 => by simp [rowsP]
  | p :: l, i, k + 1 => by
    rw [rowsP, List.getElem?_cons_succ, List.getElem?_cons_succ, rowsP_at, show i + 1 + k = i + (k + 1) by omega]
/-- The edges are those of the rows. -/
theorem isE_rows {c : Cf} {a b : Int} : isE c a b = true ↔ ∃ r ∈ rowsV c, laterB a b r = true := by
  unfold isE rowsV
  rw [Bool.and_eq_true, Bool.and_eq_true, Bool.or_eq_true, List.any_eq_true, donB_any]
  constructor
  · rintro ⟨ha, hb, ⟨h, hm, hh⟩ | ⟨k, p, hp, hl⟩⟩
    · exact ⟨_, List.mem_append_left _ (List.mem_map_of_mem hm), rowC_later.2 ⟨hh, ha, hb⟩⟩
    · have hk := (List.getElem?_eq_some_iff.1 hp).1
      refine ⟨rowP c.ps.length k p, List.mem_append_right _ (List.mem_of_getElem? (i := k) ?_), ?_⟩
      · rw [rowsP_at, hp, Nat.zero_add]; rfl
      · rw [rowP_is hk, laterB_filter, ha, hb]
        rw [Nat.zero_add] at hl
        simpa using hl
  · rintro ⟨r, hr, hl⟩
    rcases List.mem_append.1 hr with hr | hr
    · obtain ⟨h, hm, rfl⟩ := List.mem_map.1 hr
      obtain ⟨h1, h2, h3⟩ := rowC_later.1 hl
      exact ⟨h2, h3, .inl ⟨h, hm, h1⟩⟩
    · obtain ⟨k, hk, e⟩ := List.mem_iff_getElem.1 hr
      have e2 := List.getElem?_eq_getElem hk
      rw [e, rowsP_at, Nat.zero_add] at e2
      cases hp : c.ps[k]? with
      | none => rw [hp] at e2; simp at e2
      | some p =>
        rw [hp] at e2
        simp at e2
        have hk2 := (List.getElem?_eq_some_iff.1 hp).1
        rw [← e2, rowP_is hk2, laterB_filter, Bool.and_eq_true, Bool.and_eq_true] at hl
        exact ⟨hl.2.1, hl.2.2, .inr ⟨k, p, hp, by rw [Nat.zero_add]; exact hl.1⟩⟩
theorem rowsV_has {c : Cf} {r : List Int} (hr : r ∈ rowsV c) : ∀ x ∈ r, hasB c.ps.length x = true := by
  rcases List.mem_append.1 hr with hr | hr
  · obtain ⟨h, hm, rfl⟩ := List.mem_map.1 hr
    intro x hx
    exact (List.mem_filter.1 hx).2
  · obtain ⟨k, hk, e⟩ := List.mem_iff_getElem.1 hr
    have e2 := List.getElem?_eq_getElem hk
    rw [e, rowsP_at, Nat.zero_add] at e2
    cases hp : c.ps[k]? with
    | none => rw [hp] at e2; simp at e2
    | some p =>
      rw [hp] at e2
      simp at e2
      rw [← e2, rowP_is (List.getElem?_eq_some_iff.1 hp).1]
      intro x hx
      exact (List.mem_filter.1 hx).2
theorem rowsV_short {c : Cf} (f : Few c) {r : List Int} (hr : r ∈ rowsV c) : r.length ≤ 1001 := by
  rcases List.mem_append.1 hr with hr | hr
  · obtain ⟨h, hm, rfl⟩ := List.mem_map.1 hr
    have := List.length_filter_le (hasB c.ps.length) [h.from_, h.to]
    unfold rowC
    simp at this ⊢
    omega
  · obtain ⟨k, hk, e⟩ := List.mem_iff_getElem.1 hr
    have e2 := List.getElem?_eq_getElem hk
    rw [e, rowsP_at, Nat.zero_add] at e2
    cases hp : c.ps[k]? with
    | none => rw [hp] at e2; simp at e2
    | some p =>
      rw [hp] at e2
      simp at e2
      have h1 := (f.2.2.2 p (List.mem_of_getElem? hp)).2.2
      have h2 := List.length_filter_le (hasB c.ps.length) p.ds
      rw [← e2]
      unfold rowP
      simp
      omega
theorem has_i64 {n : Nat} (hn : n ≤ 1000) {x : Int} (h : hasB n x = true) : I64 x := by
  have := hasB_true h
  unfold I64
  constructor <;> omega
theorem eIn_of {c : Cf} (f : Few c) {e : Int × Int} (h : isE c e.1 e.2 = true) : EIn e := by
  have := isE_has h
  have := f.2.1
  exact ⟨⟨by omega, by omega⟩, ⟨by omega, by omega⟩⟩
theorem Lies.map_but {w w' : World} {b n0 : Nat} {P : Int × Int → Prop} (hS : SetP w b n0 P) (hb : But b w w') {lo hi n sz : Nat} {v : Value} {cs : List Value} (h : Lies w lo hi v n sz cs) : Lies w' lo hi v n sz cs := by
  obtain ⟨a, cap, e, h1, h2, h3⟩ := h
  refine ⟨a, cap, e, h1, h2, ?_⟩
  rcases h3 with h0 | ⟨g, off, e2, h4, h5, h6⟩
  · exact .inl h0
  · refine .inr ⟨g, off, e2, h4, h5, fun k u hu => ?_⟩
    have hc := h6 k u hu
    exact (World.cell?_of_block (w := w) (a := ⟨g, off + k, none⟩) (hb.block g (cell_lt hc) (hS.not_cells hc))).trans hc
set_option maxRecDepth 100000 in
set_option maxHeartbeats 4000000 in
theorem edges_sys {w : World} {hi : Nat} {c : Cf} {pvs : List Pv} {wa pa ca : Option Addr} {wc pc cc : Nat} (f : Few c) (h : SysL w hi c pvs wa pa ca wc pc cc) (hh : hi ≤ w.heap.size) :
    Calls Try.prog 9 #[.agg #[.int .i64 c.frame, .int .i64 c.margin, .slice wa c.ws.length wc, .slice pa c.ps.length pc, .slice ca c.cs.length cc]] w fun e w' => ∃ (a : Option Addr) (cap : Nat), e = .returned (.slice a (edgesI c).length cap) ∧ w'.ownsRow w.heap.size 41 2 (.slice a (edgesI c).length cap) (edgesI c).length ((edgesI c).flatMap eC) ∧ Below w.heap.size w w' := by
  obtain ⟨V, hV⟩ : ∃ V, V = (w.alloc (.cells #[.int .i64 c.frame, .int .i64 c.margin, .slice wa c.ws.length wc, .slice pa c.ps.length pc, .slice ca c.cs.length cc] 35)).alloc (.map #[] 0) := ⟨_, rfl⟩
  have B1 : Below w.heap.size w V := by rw [hV]; exact (below1 _ _).alloc (by simp) _
  have hvs : w.heap.size + 2 = V.heap.size := by rw [hV]; simp
  have hblk : CBox V w.heap.size c.frame c.margin wa pa ca c.ws.length wc c.ps.length pc c.cs.length cc := by
    rw [hV]
    unfold CBox
    rw [heap_at, if_neg (by simp)]
    exact heap_alloc_new _ _
  have hset : SetP V (w.heap.size + 1) 0 (fun _ => False) := by
    rw [hV]
    have := SetP.made (w.alloc (.cells #[.int .i64 c.frame, .int .i64 c.margin, .slice wa c.ws.length wc, .slice pa c.ps.length pc, .slice ca c.cs.length cc] 35))
    simpa using this
  have hc := rows_sys f (h.keep (SameIn.of_below B1 hh)) (by omega)
  obtain ⟨rs, hrs⟩ : ∃ rs, rs = rowsV c := ⟨_, rfl⟩
  have HR1 : Hid (∀ e : Int × Int, isE c e.1 e.2 = true ↔ ∃ r ∈ rs, laterB e.1 e.2 r = true) := Lib.hid (fun e => by rw [hrs]; exact isE_rows)
  have HR2 : Hid (∀ r ∈ rs, r.length ≤ 1001 ∧ ∀ x ∈ r, I64 x) := Lib.hid (fun r hr => by rw [hrs] at hr; exact ⟨rowsV_short f hr, fun x hx => has_i64 f.2.1 (rowsV_has hr x hx)⟩)
  have hrl : rs.length ≤ 2000 := by rw [hrs, rowsV_len]; have := f.1; have := f.2.1; have := f.2.2.1; omega
  rw [← hrs] at hc
  obtain ⟨m, hm⟩ : ∃ m, m = rs.length := ⟨_, rfl⟩
  rw [← hm] at hc hrl
  have c0 : V.cell? ⟨w.heap.size, 0, none⟩ = some (.int .i64 c.frame) := cell_in hblk rfl
  have c1 : V.cell? ⟨w.heap.size, 1, none⟩ = some (.int .i64 c.margin) := cell_in hblk rfl
  have c2 : V.cell? ⟨w.heap.size, 2, none⟩ = some (.slice wa c.ws.length wc) := cell_in hblk rfl
  have c3 : V.cell? ⟨w.heap.size, 3, none⟩ = some (.slice pa c.ps.length pc) := cell_in hblk rfl
  have c4 : V.cell? ⟨w.heap.size, 4, none⟩ = some (.slice ca c.cs.length cc) := cell_in hblk rfl
  have HV := Lib.hid hV; have HB1 := Lib.hid B1; have HS := Lib.hid hset; have HC := Lib.hid hc; have HM := Lib.hid hm; have HF := Lib.hid f; have HVS := Lib.hid hvs
  clear hV B1 hblk hset hc hrs hm h f hvs
  have hmm := @run_makeMap Try.prog
  go_enter Try.func9, Try.ntmps9
  go_wp2_with fail
  rw [← HV.out]
  go_wp2_with (first | (go_at_call 23; refine HC.out.mono ?_; rintro e w1 ⟨ra, rcap, vs, rfl, hra⟩))
  have HRA := Lib.hid hra
  have hb1 := hra.below
  have hb1s := hb1.size
  have HS1 := Lib.hid (HS.out.later hb1)
  clear hra c0 c1 c2 c3 c4
  go_loopw [10] (fun i wr => ∃ k : Nat, k ≤ m ∧ i = .int .i64 k ∧ Hid (SetP wr (w.heap.size + 1) (k * 4000000) (fun e => ∃ r ∈ rs.take k, laterB e.1 e.2 r = true)) ∧ But (w.heap.size + 1) w1 wr) (fun i _ => m - (intOf i).toNat)
  case atStart => exact ⟨0, by omega, rfl, Lib.hid (HS1.out.congr (fun e => by simp)), But.refl _ _⟩
  case round =>
    obtain ⟨k, hk, rfl, HS2, hb⟩ := hrel
    by_cases hlt : k < m
    · have tk : decide ((k : Int) < (m : Int)) = true := by simpa using hlt
      obtain ⟨x, hx⟩ : ∃ x, rs[k]? = some x := ⟨_, List.getElem?_eq_getElem (by rw [← HM.out]; exact hlt)⟩
      obtain ⟨v, hv⟩ : ∃ v, vs[k]? = some v := ⟨_, List.getElem?_eq_getElem (by rw [HRA.out.rows.1, ← HM.out]; exact hlt)⟩
      have hown := HRA.out.own
      rw [← HM.out] at hown
      obtain ⟨a2, c2, ee, _, _, hc⟩ := Lies.of_owns hown
      cases ee
      rcases hc with h0 | ⟨g, off, rfl, hq1, hq2, hc⟩
      · omega
      obtain ⟨lo, hi2, r1, r2, r3⟩ := HRA.out.rows.2 k v x hv hx
      have hvsz := HVS.out
      obtain ⟨xa, xc, rfl, _, _, _⟩ := id r3
      have hc0 : wr.cell? ⟨g, off + k, none⟩ = some (.slice xa x.length xc) := (World.cell?_of_block (w := w1) (a := ⟨g, off + k, none⟩) (hb.block g hq2 (by omega))).trans (hc k _ hv)
      have hx2 := HR2.out x (List.mem_of_getElem? hx)
      have HAA := Lib.hid (addAll_any (w.heap.size + 1) (k * 4000000) xa x.length xc wr lo hi2 x _ rfl (r3.map_but HS1.out hb) (Nat.le_trans r1 hb.size) (by omega) hx2.2 HS2.out (by omega))
      have l0 : (0 : Int) ≤ (k : Int) := by omega
      have l1 : (k : Int) < (m : Int) := by omega
      have HX := Lib.hid hx
      clear hx hv hc r3 hx2 hown hvsz
      go_wp2_with (first | (go_at_call 24; refine HAA.out.mono ?_; rintro e w4 ⟨rfl, hs4, hb4⟩))
      go_roundw
      case rel =>
        refine ⟨k + 1, by omega, by go_num, Lib.hid ((hs4.mono (by omega)).congr (fun e => ?_)), hb.trans hb4⟩
        rw [take_snoc HX.out]
        constructor
        · rintro (⟨r, h1, h2⟩ | h)
          · exact ⟨r, List.mem_append_left _ h1, h2⟩
          · exact ⟨x, by simp, h⟩
        · rintro ⟨r, h1, h2⟩
          rcases List.mem_append.1 h1 with h1 | h1
          · exact .inl ⟨r, h1, h2⟩
          · simp at h1; subst h1; exact .inr h2
      case measure => simp [intOf]; omega
    · have tk : decide ((k : Int) < (m : Int)) = false := by simp; omega
      have ek : k = m := by omega
      have HE : Hid (SetP wr (w.heap.size + 1) (k * 4000000) (fun e => isE c e.1 e.2 = true)) := Lib.hid (HS2.out.congr (fun e => by
        rw [HR1.out e, List.take_of_length_le (by rw [← HM.out]; omega)]))
      have HRI := Lib.hid (rising_any (w.heap.size + 1) (k * 4000000) _ wr HE.out (by omega))
      go_wp2_with (first | (go_at_call 25; refine HRI.out.mono ?_; rintro e w5 ⟨ea, ecap, ss, rfl, q1, q2, q3, hown5, hb5⟩))
      go_ret
      have hsorted : sortV ss = edgesI c := edges_sorted q1 (fun e => by
        constructor
        · intro he; exact (q3 e (q2 e he)).1 he
        · intro he; exact (q3 e (eIn_of HF.out he)).2 he)
      have hln : ss.length = (edgesI c).length := by rw [← hsorted, sortV_len]
      have hvsz := HVS.out
      have hwr : Below w.heap.size w wr := (HB1.out.trans (hb1.mono (by omega))).trans (hb.below (by omega) (by omega))
      rw [hsorted, hln] at hown5
      refine ⟨ea, ecap, by rw [hln]; rfl, owns_base hown5 hwr.size, hwr.trans (hb5.mono hwr.size)⟩
end Go.Proofs.Ytkikapodobeaaaa
