/- The rows along which edges lead: rows. -/
import Derived.Test.YtkikapodobeaaaaFlowI
import Derived.Test.YtkikapodobeaaaaGrow
import Derived.Test.YtkikapodobeaaaaSys
namespace Go.Proofs.Ytkikapodobeaaaa
open Go.ChangeShapes Go.WideShapes Go.ChangeAt Go.RowKit Go.Maps
set_option linter.unusedVariables false
attribute [local go_sem ↓] Go.wp_at_zero Go.wp_at_succ

def rowC (n : Nat) (h : Ch) : List Int := [h.from_, h.to].filter (hasB n)
def rowP (n : Nat) (i : Nat) (p : Pt) : List Int := (i : Int) :: p.ds.filter (hasB n)
def rowsP (n : Nat) : List Pt → Nat → List (List Int)
  | [], _ => []
  | p :: l, i => rowP n i p :: rowsP n l (i + 1)
theorem rowsP_snoc (n : Nat) (p : Pt) : ∀ (l : List Pt) (i : Nat), rowsP n (l ++ [p]) i = rowsP n l i ++ [rowP n (i + l.length) p]
  | [], i => rfl
  | q :: l, i => by rw [List.cons_append, rowsP, rowsP, rowsP_snoc n p l (i + 1), List.cons_append, List.length_cons, show i + 1 + l.length = i + (l.length + 1) by omega]
theorem rowsP_len (n : Nat) : ∀ (l : List Pt) (i : Nat), (rowsP n l i).length = l.length
  | [], i => rfl
  | q :: l, i => by rw [rowsP, List.length_cons, rowsP_len n l, List.length_cons]
def rowsV (c : Cf) : List (List Int) := c.cs.map (rowC c.ps.length) ++ rowsP c.ps.length c.ps 0
theorem rowsV_len (c : Cf) : (rowsV c).length = c.cs.length + c.ps.length := by simp [rowsV, rowsP_len]
theorem Try.infoRow : (Try.prog.info? 42).map (fun i => (i.zero, i.size, i.bytes)) = some (some (.slice none 0 0), 1, 24) := by kernel_rfl
theorem take_snoc {α : Type} {l : List α} {k : Nat} {x : α} (h : l[k]? = some x) : l.take (k + 1) = l.take k ++ [x] := by rw [List.take_add_one, h]; rfl
theorem ints_in {n : Nat} (l : List Int) : (l.filter (hasB n)).length ≤ l.length := List.length_filter_le _ _
/-- What there is behind some rows. -/
structure RowsAt (w wr : World) (ls : List (List Int)) (a : Option Addr) (cap : Nat) (vs : List Value) : Prop where
  own : wr.ownsRow w.heap.size 42 1 (.slice a ls.length cap) ls.length vs
  rows : RowsL wr (Value.slice a ls.length cap).ownBlock vs ls
  below : Below w.heap.size w wr
theorem RowsAt.later {w wr W : World} {ls : List (List Int)} {a : Option Addr} {cap : Nat} {vs : List Value} (h : RowsAt w wr ls a cap vs) (hb : Below wr.heap.size wr W) : RowsAt w W ls a cap vs :=
  ⟨owns_later h.own hb, h.rows.later hb, h.below.trans (hb.mono h.below.size)⟩
/-- A row more: what it is made of lies behind all that was there. -/
theorem RowsAt.next {w wr W W' : World} {ls : List (List Int)} {a ao : Option Addr} {cap cap' : Nat} {vs : List Value} (h : RowsAt w wr ls a cap vs) (hb : Below wr.heap.size wr W) {v : Value} {xs : List Int} {lo hi : Nat} (h1 : wr.heap.size ≤ lo) (h2 : hi ≤ W.heap.size)
    (hv : Lies W lo hi v xs.length 1 (xs.flatMap intCells)) {N : Nat} (hN : ls.length + 1 = N) (hown : W'.ownsRow w.heap.size 42 1 (.slice ao N cap') N (vs ++ [v])) (hg : W.grownBy W' (Value.slice a ls.length cap).ownBlock)
    (ho : (Value.slice ao N cap').ownBlock = (Value.slice a ls.length cap).ownBlock ∨ (Value.slice ao N cap').ownBlock = some W.heap.size) : RowsAt w W' (ls ++ [xs]) ao cap' (vs ++ [v]) := by
  subst hN
  have hl := h.later hb
  have e : (ls ++ [xs]).length = ls.length + 1 := by simp
  have hsz := h.below.size
  have hob : ∀ g, (Value.slice a ls.length cap).ownBlock = some g → g < lo ∨ hi ≤ g := fun g hg' => by have := (owns_own h.own g hg').2; omega
  refine ⟨by rw [e]; exact hown, ?_, ?_⟩
  · rw [e]
    exact (hl.rows.snoc h2 hob hv).grown hg ho
  · exact hl.below.grown hg (by have := hb.size; omega) (fun k hk => (owns_own h.own k hk).1)

set_option maxRecDepth 100000 in
set_option maxHeartbeats 4000000 in
theorem rows_sys {w : World} {hi : Nat} {c : Cf} {pvs : List Pv} {wa pa ca : Option Addr} {wc pc cc : Nat} (f : Few c) (h : SysL w hi c pvs wa pa ca wc pc cc) (hh : hi ≤ w.heap.size) :
    Calls Try.prog 23 #[.agg #[.int .i64 c.frame, .int .i64 c.margin, .slice wa c.ws.length wc, .slice pa c.ps.length pc, .slice ca c.cs.length cc]] w fun e w' => ∃ a cap vs, e = .returned (.slice a (rowsV c).length cap) ∧ RowsAt w w' (rowsV c) a cap vs := by
  obtain ⟨i0, hi0, hz0, hz1, hz2⟩ := info_parts Try.infoInt
  obtain ⟨i1, hi1, hy0, hy1, hy2⟩ := info_parts Try.infoRow
  have HI := Lib.hid hi0; have HJ := Lib.hid hi1
  clear hi0 hi1
  obtain ⟨f1, f2, f3, f4⟩ := f
  obtain ⟨V, hV⟩ : ∃ V, V = w.alloc (.cells #[.int .i64 c.frame, .int .i64 c.margin, .slice wa c.ws.length wc, .slice pa c.ps.length pc, .slice ca c.cs.length cc] 35) := ⟨_, rfl⟩
  have B1 : Below w.heap.size w V := by rw [hV]; exact below1 _ _
  have hblk : CBox V w.heap.size c.frame c.margin wa pa ca c.ws.length wc c.ps.length pc c.cs.length cc := by rw [hV]; exact heap_alloc_new _ _
  have hvs : w.heap.size + 1 ≤ V.heap.size := by rw [hV]; simp
  have ks : ∀ W : World, Below V.heap.size V W → (W.cell? ⟨w.heap.size, 0, none⟩ = some (.int .i64 c.frame) ∧ W.cell? ⟨w.heap.size, 1, none⟩ = some (.int .i64 c.margin) ∧ W.cell? ⟨w.heap.size, 2, none⟩ = some (.slice wa c.ws.length wc) ∧ W.cell? ⟨w.heap.size, 3, none⟩ = some (.slice pa c.ps.length pc) ∧ W.cell? ⟨w.heap.size, 4, none⟩ = some (.slice ca c.cs.length cc)) ∧ SysL W hi c pvs wa pa ca wc pc cc := by
    intro W g
    have q := fun (i : Nat) (u : Value) hu => (g.cell (p := ⟨w.heap.size, i, none⟩) (lt_of_block hblk)).trans (cell_in (j := i) (u := u) hblk hu)
    exact ⟨⟨q 0 _ rfl, q 1 _ rfl, q 2 _ rfl, q 3 _ rfl, q 4 _ rfl⟩, h.keep (SameIn.of_below (B1.trans (g.mono (by omega))) hh)⟩
  obtain ⟨⟨z0, z1, z2, z3, z4⟩, _⟩ := ks V (Below.refl _ _)
  have KS := Lib.hid ks; have HV := Lib.hid hV; have HB1 := Lib.hid B1; have HF := Lib.hid f4
  have hlp := h.l3.length
  have HLP := Lib.hid hlp
  clear ks hV B1 hblk h hlp f4
  go_enter Try.func23, Try.ntmps23
  go_wp2_with fail
  rw [← HV.out]
  go_wp2_with fail
  go_loopw [3, 11] (fun s3 i wr => ∃ (k : Nat) (a : Option Addr) (cap : Nat) (vs : List Value), k ≤ c.cs.length ∧ s3 = .slice a k cap ∧ i = .int .i64 k ∧ Hid (RowsAt V wr ((c.cs.take k).map (rowC c.ps.length)) a cap vs)) (fun _ i _ => c.cs.length - (intOf i).toNat)
  case atStart => exact ⟨0, none, 0, [], by omega, rfl, rfl, Lib.hid ⟨World.ownsRow_nil _ _ _ _, RowsL.nil _ _, Below.refl _ _⟩⟩
  case round =>
    obtain ⟨k, a, cap, vs, hk, rfl, rfl, HR⟩ := hrel
    have hbv : Below V.heap.size V wr := HR.out.below
    obtain ⟨⟨y0, y1, y2, y3, y4⟩, hS⟩ := KS.out wr hbv
    by_cases hlt : k < c.cs.length
    · have tk : decide ((k : Int) < (c.cs.length : Int)) = true := by simpa using hlt
      obtain ⟨x, hx⟩ : ∃ x, c.cs[k]? = some x := ⟨_, List.getElem?_eq_getElem hlt⟩
      obtain ⟨a2, c2, ee, _, _, hc⟩ := hS.l4
      cases ee
      rcases hc with h0 | ⟨g, off, rfl, hb1, hb2, hc⟩
      · omega
      obtain ⟨s0, s1, s2, s3⟩ := Lies.ch hc hx
      have hlen : ((c.cs.take k).map (rowC c.ps.length)).length = k := by simp; omega
      have HX := Lib.hid hx; have HLN := Lib.hid hlen
      have hbsz := hbv.size
      have hlt0 : w.heap.size < wr.heap.size := by omega
      have l0 : (0 : Int) ≤ (k : Int) := by omega
      have l1 : (k : Int) < (c.cs.length : Int) := by omega
      -- the world behind the channel's box and the pair
      obtain ⟨U, hU⟩ : ∃ U, U = (wr.alloc (.cells #[.bool x.queue, .int .i64 x.from_, .int .i64 x.to, .int .i64 x.size] 58)).alloc (.cells #[.int .i64 x.from_, .int .i64 x.to] 3) := ⟨_, rfl⟩
      have hBU : Below wr.heap.size wr U := by rw [hU]; exact (below1 _ _).alloc (by simp) _
      have hUs : U.heap.size = wr.heap.size + 2 := by rw [hU]; simp
      have hUb : U.heap[wr.heap.size + 1]? = some (.cells #[.int .i64 x.from_, .int .i64 x.to] 3 (0, 0)) := by
        rw [hU]
        have := heap_alloc_new (wr.alloc (.cells #[.bool x.queue, .int .i64 x.from_, .int .i64 x.to, .int .i64 x.size] 58)) (.cells #[.int .i64 x.from_, .int .i64 x.to] 3)
        simpa using this
      have hpair : Lies U (wr.heap.size + 1) (wr.heap.size + 2) (.slice (some ⟨wr.heap.size + 1, 0, none⟩) 2 2) 2 1 ([x.from_, x.to].flatMap intCells) :=
        ⟨_, _, rfl, rfl, (fun h => by cases h), .inr ⟨wr.heap.size + 1, 0, rfl, Nat.le_refl _, by omega, fun j u hu => by rw [Nat.zero_add]; exact cell_in hUb (by simpa [intCells] using hu)⟩⟩
      have hkn := known_any c.frame c.margin wa pa (some ⟨g, off, none⟩) (some ⟨wr.heap.size + 1, 0, none⟩) c.ws.length wc c.ps.length pc c.cs.length cc 2 2 U _ _ [x.from_, x.to] rfl hpair (by omega) (by omega)
      obtain ⟨rl, hrl⟩ : ∃ rl, rl = [x.from_, x.to].filter (hasB c.ps.length) := ⟨_, rfl⟩
      have HRL : Hid (rowC c.ps.length x = rl) := Lib.hid (by rw [hrl]; rfl)
      rw [← hrl] at hkn
      have HU := Lib.hid hU; have HBU := Lib.hid hBU; have HKN := Lib.hid hkn
      clear hx hc hlen hU hUb hpair hrl hS hBU hkn z0 z1 z2 z3 z4
      go_wp2_with (first
        | (refine wpList_append_lie2 (by rfl) (.tmp 15) (.tmp 23) 72 (by rfl) V.heap.size 42 i1 _ 1 24 Try.underlying72 HJ.out hy0 hy1 hy2 rfl (by omega) (.slice a k cap) k vs (by rfl) HO2.out (.slice (some ⟨w2.heap.size, 0, none⟩) 1 1) w2.heap.size (w2.heap.size + 1) 1 [.slice a2 rl.length c2] (by rfl) (one_lies (cs := #[.slice a2 rl.length c2]) (t := 42) (heap_alloc_new _ _) rfl) (by intro u hu; simp at hu; subst hu; rfl) (k + 1) rfl (by simp only [maxLen]; omega) (by omega) (by have := hb2.size; simp; omega) ?_; intro ao cap' w3 hown hgrow hob)
        | (go_at_call 33; rw [← HU.out]; refine HKN.out.mono ?_; rintro e w2 ⟨a2, c2, rfl, hl2, hb2⟩; have HO2 : Hid ((w2.alloc (.cells #[.slice a2 rl.length c2] 42)).ownsRow V.heap.size 42 1 (.slice a k cap) k vs) := Lib.hid (by have := owns_later HR.out.own ((HBU.out.trans (hb2.mono (by omega))).alloc (by have := hb2.size; omega) (.cells #[.slice a2 rl.length c2] 42)); rwa [HLN.out] at this))
        | go_in)
      go_roundw
      case rel =>
        refine ⟨k + 1, ao, cap', vs ++ [.slice a2 rl.length c2], by omega, rfl, by go_num, Lib.hid ?_⟩
        rw [take_snoc HX.out, List.map_append, List.map_cons, List.map_nil, HRL.out]
        have hb3 : Below wr.heap.size wr (w2.alloc (.cells #[.slice a2 rl.length c2] 42)) := (HBU.out.trans (hb2.mono (by omega))).alloc (by have := hb2.size; omega) _
        exact HR.out.next hb3 (lo := U.heap.size) (hi := w2.heap.size) (by omega) (by simp) (hl2.keep (SameIn.of_below (below1 _ _) (Nat.le_refl _))) (by rw [HLN.out]) hown (by rw [HLN.out]; exact hgrow) (by rw [HLN.out]; exact hob)
      case measure => simp [intOf]; omega
    · have tk : decide ((k : Int) < (c.cs.length : Int)) = false := by simp; omega
      have ek : k = c.cs.length := by omega
      subst ek
      rw [List.take_length] at HR
      have hbsz := hbv.size
      clear hS
      go_wp2
      go_loopw [3, 29] (fun s3 i wr => ∃ (k : Nat) (a : Option Addr) (cap : Nat) (vs : List Value), k ≤ c.ps.length ∧ s3 = .slice a (c.cs.length + k) cap ∧ i = .int .i64 k ∧ Hid (RowsAt V wr (c.cs.map (rowC c.ps.length) ++ rowsP c.ps.length (c.ps.take k) 0) a cap vs)) (fun _ i _ => c.ps.length - (intOf i).toNat)
      case atStart => exact ⟨0, a, cap, vs, by omega, rfl, rfl, Lib.hid (by simpa [rowsP] using HR.out)⟩
      case round =>
        clear HR
        obtain ⟨k, a, cap, vs, hk, rfl, rfl, HR⟩ := hrel
        have hbv : Below V.heap.size V wr := HR.out.below
        obtain ⟨⟨y0, y1, y2, y3, y4⟩, hS⟩ := KS.out wr hbv
        by_cases hlt : k < c.ps.length
        · have tk : decide ((k : Int) < (c.ps.length : Int)) = true := by simpa using hlt
          obtain ⟨x, hx⟩ : ∃ x, c.ps[k]? = some x := ⟨_, List.getElem?_eq_getElem hlt⟩
          obtain ⟨pv, hpv⟩ : ∃ x, pvs[k]? = some x := ⟨_, List.getElem?_eq_getElem (by rw [HLP.out]; exact hlt)⟩
          have hpl := hS.l3.at hpv hx
          obtain ⟨ta, sa, da, tc, sc, dc, e1, e2, e3⟩ := hpl.slices
          have hds := hpl.2.2.1
          rw [e3] at hds
          have hdl : x.ds.length ≤ 1000 := (HF.out x (List.mem_of_getElem? hx)).2.2
          obtain ⟨a2, c2, ee, _, _, hc⟩ := hS.l2
          cases ee
          rcases hc with h0 | ⟨g, off, rfl, hb1, hb2, hc⟩
          · omega
          obtain ⟨s0, s1, s2, s3, s4, s5⟩ := Lies.pv hc hpv
          rw [e1] at s0; rw [e2] at s1; rw [e3] at s2
          have hlen : (c.cs.map (rowC c.ps.length) ++ rowsP c.ps.length (c.ps.take k) 0).length = c.cs.length + k := by simp [rowsP_len]; omega
          have hil : (c.ps.take k).length = k := by simp; omega
          have HIL := Lib.hid hil
          have HX := Lib.hid hx; have HLN := Lib.hid hlen
          have hbsz := hbv.size
          have hlt0 : w.heap.size < wr.heap.size := by omega
          have l0 : (0 : Int) ≤ (k : Int) := by omega
          have l1 : (k : Int) < (c.ps.length : Int) := by omega
          obtain ⟨U0, hU0⟩ : ∃ U0, U0 = wr.alloc (.cells #[.slice ta x.ts.length tc, .slice sa x.ss.length sc, .slice da x.ds.length dc, .int .u8 pv.a0, .int .u8 pv.a1, .int .u8 pv.a2] 69) := ⟨_, rfl⟩
          have hB0 : Below wr.heap.size wr U0 := by rw [hU0]; exact below1 _ _
          have hU0s : U0.heap.size = wr.heap.size + 1 := by rw [hU0]; simp
          obtain ⟨U, hU⟩ : ∃ U, U = U0.alloc (.cells #[.int .i64 (k : Int)] 3) := ⟨_, rfl⟩
          have hBU : Below wr.heap.size wr U := by rw [hU]; exact hB0.alloc (by omega) _
          have hUs : U.heap.size = wr.heap.size + 2 := by rw [hU]; simp [hU0s]
          have hone : U.ownsRow U0.heap.size 3 1 (.slice (some ⟨wr.heap.size + 1, 0, none⟩) 1 1) 1 [.int .i64 (k : Int)] := by
            have := owns_one (w := U0) (e := 3) (base := U0.heap.size) (x := .int .i64 (k : Int)) (Nat.le_refl _)
            rw [hU0s] at this ⊢
            rw [hU]; exact this
          have hkn := known_any c.frame c.margin wa (some ⟨g, off, none⟩) ca da c.ws.length wc c.ps.length pc c.cs.length cc x.ds.length dc U 0 hi x.ds rfl (hds.keep (SameIn.of_below hBU (by omega))) (by omega) hdl
          obtain ⟨rl, hrl⟩ : ∃ rl, rl = x.ds.filter (hasB c.ps.length) := ⟨_, rfl⟩
          have hrll : rl.length ≤ 1000 := by rw [hrl]; exact Nat.le_trans (List.length_filter_le _ _) hdl
          have HRL : Hid (rowP c.ps.length k x = (k : Int) :: rl) := Lib.hid (by rw [hrl]; rfl)
          rw [← hrl] at hkn
          have HU := Lib.hid (show U = (wr.alloc (.cells #[.slice ta x.ts.length tc, .slice sa x.ss.length sc, .slice da x.ds.length dc, .int .u8 pv.a0, .int .u8 pv.a1, .int .u8 pv.a2] 69)).alloc (.cells #[.int .i64 (k : Int)] 3) by rw [hU, hU0]); have HBU := Lib.hid hBU; have HKN := Lib.hid hkn; have HONE := Lib.hid (show U.ownsRow (wr.heap.size + 1) 3 1 (.slice (some ⟨wr.heap.size + 1, 0, none⟩) 1 1) 1 [.int .i64 (k : Int)] from owns_base hone (by omega))
          have hUs2 : wr.heap.size + 2 ≤ U.heap.size := by omega
          clear hx hc hlen hU hU0 hUs hU0s hone hpl hds hrl hS hBU hB0 hkn z0 z1 z2 z3 z4 e1 e2 e3 hpv hil
          go_wp2_with (first
            | (refine wpList_append_lie2 (by rfl) (.tmp 34) (.tmp 42) 72 (by rfl) V.heap.size 42 i1 _ 1 24 Try.underlying72 HJ.out hy0 hy1 hy2 rfl (by omega) (.slice a (c.cs.length + k) cap) (c.cs.length + k) vs (by rfl) HO3.out (.slice (some ⟨w3.heap.size, 0, none⟩) 1 1) w3.heap.size (w3.heap.size + 1) 1 [.slice ao3 (1 + rl.length) cap3] (by rfl) (one_lies (cs := #[.slice ao3 (1 + rl.length) cap3]) (t := 42) (heap_alloc_new _ _) rfl) (by intro u hu; simp at hu; subst hu; rfl) (c.cs.length + k + 1) rfl (by simp only [maxLen]; omega) (by omega) (by have := hbw3.size; simp; omega) ?_; intro ao cap' w4 hown hgrow hob)
            | (refine wpList_append_lie2 (by rfl) (.tmp 36) (.tmp 40) 42 (by rfl) (wr.heap.size + 1) 3 i0 _ 1 8 Try.underlying42 HI.out hz0 hz1 hz2 rfl (by omega) (.slice (some ⟨wr.heap.size + 1, 0, none⟩) 1 1) 1 [.int .i64 (k : Int)] (by rfl) (owns_later HONE.out hb2) (.slice a2 rl.length c2) U.heap.size w2.heap.size rl.length (rl.flatMap intCells) (by rfl) hl2 (flat_one intCells in_one _) (1 + rl.length) rfl (by simp only [maxLen]; omega) (by omega) (by have := hb2.size; omega) ?_; intro ao3 cap3 w3 hown3 hgrow3 hob3; have hbw3 : Below wr.heap.size wr w3 := (HBU.out.trans (hb2.mono (by omega))).grown hgrow3 (by have := hb2.size; omega) (fun q hq => by cases hq; exact Nat.le_succ _); have HO3 : Hid ((w3.alloc (.cells #[.slice ao3 (1 + rl.length) cap3] 42)).ownsRow V.heap.size 42 1 (.slice a (c.cs.length + k) cap) (c.cs.length + k) vs) := Lib.hid (by have := owns_later HR.out.own (hbw3.alloc (by have := hbw3.size; omega) (.cells #[.slice ao3 (1 + rl.length) cap3] 42)); rwa [HLN.out] at this))
            | (go_at_call 33; rw [← HU.out]; refine HKN.out.mono ?_; rintro e w2 ⟨a2, c2, rfl, hl2, hb2⟩)
            | go_in)
          go_roundw
          case rel =>
            refine ⟨k + 1, ao, cap', vs ++ [.slice ao3 (1 + rl.length) cap3], by omega, rfl, by go_num, Lib.hid ?_⟩
            rw [take_snoc HX.out, rowsP_snoc, ← List.append_assoc, HIL.out, Nat.zero_add, HRL.out]
            have hb3 : Below wr.heap.size wr (w3.alloc (.cells #[.slice ao3 (1 + rl.length) cap3] 42)) := hbw3.alloc (by have := hbw3.size; omega) _
            have hl3 : Lies w3 (wr.heap.size + 1) w3.heap.size (.slice ao3 (1 + rl.length) cap3) ((k : Int) :: rl).length 1 (((k : Int) :: rl).flatMap intCells) := by
              have := Lies.of_owns hown3
              rwa [Nat.add_comm 1 rl.length] at this ⊢
            exact HR.out.next hb3 (lo := wr.heap.size + 1) (hi := w3.heap.size) (by omega) (by simp) (hl3.keep (SameIn.of_below (below1 _ _) (Nat.le_refl _))) (by rw [HLN.out]) hown (by rw [HLN.out]; exact hgrow) (by rw [HLN.out]; exact hob)
          case measure => simp [intOf]; omega
        · have tk : decide ((k : Int) < (c.ps.length : Int)) = false := by simp; omega
          have ek : k = c.ps.length := by omega
          subst ek
          rw [List.take_length] at HR
          clear hS
          go_wp2
          go_ret
          refine ⟨a, cap, vs, ?_, ?_⟩
          · rw [rowsV_len]; rfl
          · have HV2 : Below w.heap.size w V := HB1.out
            have q := HR.out
            exact ⟨owns_base q.own (by omega), q.rows, HV2.trans (q.below.mono (by omega))⟩
end Go.Proofs.Ytkikapodobeaaaa
