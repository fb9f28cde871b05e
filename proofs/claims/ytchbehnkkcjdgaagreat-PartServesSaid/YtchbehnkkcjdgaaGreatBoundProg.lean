/- Joined of BoundO, BoundP: Ints gathered in a row of their own; the program's each and greatest. -/
import Derived.Test.YtchbehnkkcjdgaaGreatPlains
import Derived.Test.YtchbehnkkcjdgaaGreatRights
import Derived.Test.YtchbehnkkcjdgaaGreatDemandOne
import Derived.Test.YtchbehnkkcjdgaaGreatNumD
import Derived.Test.YtchbehnkkcjdgaaGreatGrow
namespace Go.Proofs.YtchbehnkkcjdgaaGreat
open Go.ChangeShapes Go.WideShapes Go.ChangeAt Go.RowKit
set_option linter.unusedVariables false
attribute [local go_sem ↓] Go.wp_at_zero Go.wp_at_succ
theorem boxK6 (w : World) (v0 v1 v2 v3 v4 v5 : Value) (T : TypeId) (W : World) (h : Below (w.alloc (.cells #[v0, v1, v2, v3, v4, v5] T)).heap.size (w.alloc (.cells #[v0, v1, v2, v3, v4, v5] T)) W) :
 W.cell? ⟨w.heap.size, 0, none⟩ = some v0 ∧ W.cell? ⟨w.heap.size, 1, none⟩ = some v1 ∧ W.cell? ⟨w.heap.size, 2, none⟩ = some v2 ∧ W.cell? ⟨w.heap.size, 3, none⟩ = some v3 ∧ W.cell? ⟨w.heap.size, 4, none⟩ = some v4 ∧ W.cell? ⟨w.heap.size, 5, none⟩ = some v5 :=
 have k := box_says w #[v0, v1, v2, v3, v4, v5] T W h
 ⟨k 0 _ rfl, k 1 _ rfl, k 2 _ rfl, k 3 _ rfl, k 4 _ rfl, k 5 _ rfl⟩
theorem boxK3 (w : World) (v0 v1 v2 : Value) (T : TypeId) (W : World) (h : Below (w.alloc (.cells #[v0, v1, v2] T)).heap.size (w.alloc (.cells #[v0, v1, v2] T)) W) :
 W.cell? ⟨w.heap.size, 0, none⟩ = some v0 ∧ W.cell? ⟨w.heap.size, 1, none⟩ = some v1 ∧ W.cell? ⟨w.heap.size, 2, none⟩ = some v2 :=
 have k := box_says w #[v0, v1, v2] T W h
 ⟨k 0 _ rfl, k 1 _ rfl, k 2 _ rfl⟩
theorem Lies.int' {w : World} {b off : Nat} {xs : List Int} {i : Nat} {x : Int} (h : ∀ k u, (xs.flatMap intCells)[k]? = some u → w.cell? ⟨b, off + k, none⟩ = some u) (hx : xs[i]? = some x) : w.cell? ⟨b, off + i, none⟩ = some (.int .i64 x) := by
 have := flat_at intCells 1 (fun _ => rfl) xs i 0 x hx (by omega)
 rw [Nat.mul_one, Nat.add_zero] at this
 exact h i _ (this.trans rfl)
/-- A row of ints of its own. -/
def Ints (W : World) (B : Nat) (a : Option Addr) (cap : Nat) (ls : List Int) : Prop := W.ownsRow B 3 1 (.slice a ls.length cap) ls.length (ls.flatMap intCells)
theorem Ints.nil (W : World) (B : Nat) : Ints W B none 0 [] := World.ownsRow_nil _ _ _ _
theorem Ints.later {W W' : World} {B : Nat} {a : Option Addr} {cap : Nat} {ls : List Int} (h : Ints W B a cap ls) (hb : Below W.heap.size W W') : Ints W' B a cap ls := owns_later h hb
theorem Ints.base {W : World} {B B' : Nat} {a : Option Addr} {cap : Nat} {ls : List Int} (h : Ints W B a cap ls) (hb : B' ≤ B) : Ints W B' a cap ls := owns_base h hb
theorem Ints.lies {W : World} {B : Nat} {a : Option Addr} {cap : Nat} {ls : List Int} (h : Ints W B a cap ls) : Lies W B W.heap.size (.slice a ls.length cap) ls.length 1 (ls.flatMap intCells) := Lies.of_owns h
theorem Ints.is {W : World} {B : Nat} {a : Option Addr} {cap : Nat} {ls ls' : List Int} (h : Ints W B a cap ls) (e : ls = ls') : Ints W B a cap ls' := by subst e; exact h
theorem Ints.row {W : World} {B : Nat} {a : Option Addr} {cap : Nat} {ls : List Int} (h : Ints W B a cap ls) (h64 : ∀ x ∈ ls, -9223372036854775808 ≤ x ∧ x ≤ 9223372036854775807) : IntRow W a ls.length ls := by
 obtain ⟨a2, c2, e2, _, _, hc⟩ := h.lies
 obtain ⟨_, hm⟩ := owns_slice h
 cases e2
 rcases hc with h0 | ⟨b, off, rfl, hb1, hb2, hc⟩
 ·exact .inl ⟨h0, List.eq_nil_of_length_eq_zero h0⟩
 ·refine .inr ⟨b, off, rfl, rfl, hm, fun i hi => ?_, fun i hi => ?_⟩
  ·have : ls[i]? = some (ls.getD i 0) := by rw [List.getElem?_eq_getElem hi]; simp [hi]
   exact Lies.int' hc this
  ·rw [List.getD_eq_getElem?_getD, List.getElem?_eq_getElem hi]
   exact h64 _ (List.getElem_mem hi)
/-- What an append of one number more wants. -/
theorem Ints.hap {wr : World} {B : Nat} {a : Option Addr} {cap : Nat} {ls : List Int} (h : Ints wr B a cap ls) (hB : B ≤ wr.heap.size) (x : Int) : ∀ w5 : World, Below wr.heap.size wr w5 → ∀ W : World, W.heap = (w5.alloc (.cells #[.int .i64 x] 3)).heap → W.ownsRow B 3 1 (.slice a ls.length cap) ls.length (ls.flatMap intCells) ∧ Lies W w5.heap.size (w5.heap.size + 1) (.slice (some ⟨w5.heap.size, 0, none⟩) 1 1) 1 1 [.int .i64 x] ∧ B ≤ W.heap.size := by
 intro w5 hb5 W hW
 have hz : W.heap.size = w5.heap.size + 1 := by rw [hW]; simp
 have h5 := hb5.size
 refine ⟨owns_hold (owns_later h hb5) ⟨by omega, fun g hg => ?_⟩, one_lies (cs := #[.int .i64 x]) (t := 3) (by rw [hW]; exact heap_alloc_new _ _) rfl, by omega⟩
 have := (owns_own (owns_later h hb5) g hg).2
 rw [hW, heap_at, if_neg (by omega)]
theorem Ints.more {w6 : World} {B : Nat} {ao : Option Addr} {cap : Nat} {ls : List Int} {x : Int} (h : w6.ownsRow B 3 1 (.slice ao (ls.length + 1) cap) (ls.length + 1) (ls.flatMap intCells ++ [.int .i64 x])) : Ints w6 B ao cap (ls ++ [x]) := by
 unfold Ints
 rw [List.length_append, List.flatMap_append]
 exact h
/-- All that was there stays, where an append wrote. -/
theorem ints_below {V wr w5 w6 : World} {B : Nat} {a : Option Addr} {cap : Nat} {ls : List Int} {o : Obj} {W : World} (h : Ints wr B a cap ls) (hb : Below B V wr) (hB : B ≤ wr.heap.size) (h5 : Below wr.heap.size wr w5) (hW : W = w5.alloc o) (hg : W.grownBy w6 (Value.slice a ls.length cap).ownBlock) : Below B V w6 := by
 have h15 : Below B V w5 := hb.trans (h5.mono hB)
 subst hW
 exact (h15.alloc (Nat.le_trans hB h5.size) o).grown hg (by simp; exact Nat.le_succ_of_le (Nat.le_trans hB h5.size)) (fun q hq => (owns_own h q hq).1)
theorem ret_sl {a : Option Addr} {cap : Nat} {ls ls' : List Int} (h : ls = ls') : Ending.returned (.slice a ls.length cap) = .returned (.slice a ls'.length cap) := by subst h; rfl
theorem snoc_slice (a : Option Addr) (cap : Nat) (ls : List Int) (x : Int) : (Value.slice a (ls.length + 1) cap) = Value.slice a (ls ++ [x]).length cap := by simp
set_option maxRecDepth 100000 in
theorem greatest_any (a : Option Addr) (n cap : Nat) (ls : List Int) (w : World) (lo hi : Nat) (hn : ls.length = n) (hl : Lies w lo hi (.slice a n cap) n 1 (ls.flatMap intCells)) (h2 : n ≤ 2000) :
 Calls Tryz.prog 170 #[.slice a n cap] w fun e w' => e = .returned (.int .i64 (mostI 1 ls)) ∧ w = w' := by
 have HL := Lib.hid hl
 have HN := Lib.hid hn
 clear hl hn
 go_enter Tryz.func170, Tryz.ntmps170
 go_wp2
 go_loopw [3, 8] (fun m i wr => ∃ k : Nat, k ≤ n ∧ m = .int .i64 (mostI 1 (ls.take k)) ∧ i = .int .i64 k ∧ wr = w) (fun _ i _ => n - (intOf i).toNat)
 case atStart => exact ⟨0, by omega, rfl, rfl, rfl⟩
 case round =>
  obtain ⟨k, hk, rfl, rfl, rfl⟩ := hrel
  by_cases hlt : k < n
  ·have tk : decide ((k : Int) < (n : Int)) = true := by simpa using hlt
   obtain ⟨x, hx⟩ : ∃ x, ls[k]? = some x := ⟨_, List.getElem?_eq_getElem (by rw [HN.out]; exact hlt)⟩
   obtain ⟨a2, c2, e2, _, _, hc⟩ := HL.out
   cases e2
   rcases hc with h0 | ⟨b, off, rfl, hb1, hb2, hc⟩
   ·omega
   have s0 := Lies.int' hc hx
   have HM : Hid (mostI 1 (ls.take (k + 1)) = max (mostI 1 (ls.take k)) x) := Lib.hid (by rw [List.take_add_one, hx]; exact mostI_snoc _ _ _)
   clear hc hx
   generalize mostI 1 (ls.take k) = y at *
   have l0 : (0 : Int) ≤ (k : Int) := by omega
   have l1 : (k : Int) < (n : Int) := by omega
   go_wp2_with fail
   all_goals go_roundw
   case rel => exact ⟨k + 1, by omega, by rw [HM.out]; (first | rfl | (congr 1; omega) | go_num), by go_num, by trivial⟩
   case measure => simp [intOf]; omega
  ·have tk : decide ((k : Int) < (n : Int)) = false := by simp; omega
   have HE : Hid (mostI 1 (ls.take k) = mostI 1 ls) := Lib.hid (by rw [List.take_of_length_le (show ls.length ≤ k by rw [HN.out]; omega)])
   go_wp2_with fail
   go_ret
   exact ⟨ret_iD HE.out, rfl⟩
set_option maxRecDepth 100000 in
theorem pickT_any (b : Bool) (t d v lo top : Int) (w : World) :
 Calls Tryz.prog 134 #[.agg #[.bool b, .int .i64 t, .int .i64 d, .int .i64 v, .int .i64 lo, .int .i64 top]] w fun e w' => e = .returned (.int .i64 t) ∧ Below w.heap.size w w' := by
 go_enter Tryz.func134, Tryz.ntmps134
 go_wp2
 go_ret
 exact ⟨rfl, below1 _ _⟩
set_option maxRecDepth 100000 in
theorem pickD_any (b : Bool) (t d v lo top : Int) (w : World) :
 Calls Tryz.prog 171 #[.agg #[.bool b, .int .i64 t, .int .i64 d, .int .i64 v, .int .i64 lo, .int .i64 top]] w fun e w' => e = .returned (.int .i64 d) ∧ Below w.heap.size w w' := by
 go_enter Tryz.func171, Tryz.ntmps171
 go_wp2
 go_ret
 exact ⟨rfl, below1 _ _⟩
set_option maxRecDepth 100000 in
set_option maxHeartbeats 4000000 in
theorem eachT_any (ta sa da : Option Addr) (tn tc sn sc dn dc : Nat) (x0 x1 x2 : Int) (w : World) (lo hi : Nat) (p : Pt) (htn : p.ts.length = tn) (hsn : p.ss.length = sn)
 (hts : Lies w lo hi (.slice ta tn tc) tn 6 (p.ts.flatMap Tk.cells)) (hss : Lies w lo hi (.slice sa sn sc) sn 3 (p.ss.flatMap Sv.cells)) (hhi : hi ≤ w.heap.size) (ht2 : tn ≤ 1000) (hs2 : sn ≤ 1000) :
 Calls Tryz.prog 133 #[.agg #[.slice ta tn tc, .slice sa sn sc, .slice da dn dc, .int .u8 x0, .int .u8 x1, .int .u8 x2], .func (.func 134) #[] #[]] w fun e w' => ∃ a cap, e = .returned (.slice a (periodsV p).length cap) ∧ Ints w' w.heap.size a cap (periodsV p) ∧ Below w.heap.size w w' := by
 obtain ⟨i0, hi0, hz0, hz1, hz2⟩ := info_parts Tryz.infoInt
 have HI := Lib.hid hi0
 obtain ⟨V, hV⟩ : ∃ V, V = w.alloc (.cells #[.slice ta tn tc, .slice sa sn sc, .slice da dn dc, .int .u8 x0, .int .u8 x1, .int .u8 x2] 37) := ⟨_, rfl⟩
 have ks : ∀ W : World, Below V.heap.size V W → W.cell? ⟨w.heap.size, 0, none⟩ = some (.slice ta tn tc) ∧ W.cell? ⟨w.heap.size, 1, none⟩ = some (.slice sa sn sc) := fun W h => by
  rw [hV] at h
  have k := box_says w #[.slice ta tn tc, .slice sa sn sc, .slice da dn dc, .int .u8 x0, .int .u8 x1, .int .u8 x2] 37 W h
  exact ⟨k 0 _ rfl, k 1 _ rfl⟩
 have hBV : Below w.heap.size w V := by rw [hV]; exact below1 _ _
 have hVw : w.heap.size < V.heap.size := by rw [hV]; simp
 have HT := Lib.hid hts; have HS := Lib.hid hss; have HTN := Lib.hid htn; have HSN := Lib.hid hsn
 have HV := Lib.hid hV; have HBV := Lib.hid hBV; have KS := Lib.hid ks
 clear hV hBV ks hts hss htn hsn hi0
 go_enter Tryz.func133, Tryz.ntmps133
 go_wp2_with fail
 rw [← HV.out]
 obtain ⟨z0, z1⟩ := KS.out V (Below.refl _ _)
 go_wp2_with fail
 clear z0 z1
 go_loopw [5, 13] (fun s i wr => ∃ (k nc : Nat) (na : Option Addr), k ≤ tn ∧ s = .slice na (gath okTk Tk.t p.ts k).length nc ∧ i = .int .i64 k ∧ Hid (Ints wr V.heap.size na nc (gath okTk Tk.t p.ts k)) ∧ Below V.heap.size V wr) (fun _ i _ => tn - (intOf i).toNat)
 case atStart => exact ⟨0, 0, none, by omega, rfl, rfl, Lib.hid (Ints.nil _ _), Below.refl _ _⟩
 case round =>
  obtain ⟨k, nc, na, hk, rfl, rfl, HO, hb⟩ := hrel
  by_cases hlt : k < tn
  ·have tk : decide ((k : Int) < (tn : Int)) = true := by simpa using hlt
   obtain ⟨x, hx⟩ : ∃ x, p.ts[k]? = some x := ⟨_, List.getElem?_eq_getElem (by rw [HTN.out]; exact hlt)⟩
   have hlies := HT.out.keep (SameIn.of_below (HBV.out.trans (hb.mono (Nat.le_of_lt hVw))) hhi)
   obtain ⟨a2, c2, e2, _, _, hc⟩ := hlies
   cases e2
   rcases hc with h0 | ⟨b, off, rfl, hb1, hb2, hc⟩
   ·omega
   obtain ⟨s0, s1, s2, s3, s4, s5⟩ := Lies.tk hc hx
   have HX := Lib.hid hx
   have hbw : b < wr.heap.size := by have := hb.size; omega
   have l0 : (0 : Int) ≤ (k : Int) := by omega
   have l1 : (k : Int) < (tn : Int) := by omega
   clear hc hx
   obtain ⟨xb, xt, xd, xv, xlo, xtop⟩ := x
   simp only at s0 s1 s2 s3 s4 s5
   have KB := Lib.hid (boxK6 wr (.bool xb) (.int .i64 xt) (.int .i64 xd) (.int .i64 xv) (.int .i64 xlo) (.int .i64 xtop) 111)
   have BB := Lib.hid (below1 wr (.cells #[.bool xb, .int .i64 xt, .int .i64 xd, .int .i64 xv, .int .i64 xlo, .int .i64 xtop] 111))
   have hgl := gath_len okTk Tk.t p.ts k
   cases hok : okTk ⟨xb, xt, xd, xv, xlo, xtop⟩ with
   | true =>
     have HN := Lib.hid (gath_yes (c := okTk) (g := Tk.t) HX.out hok)
     have HOK := Lib.hid hok
     clear hok
     obtain ⟨ls, hls⟩ : ∃ ls, ls = gath okTk Tk.t p.ts k := ⟨_, rfl⟩
     rw [← hls] at HO HN hgl
     rw [← hls]
     have HAP := Lib.hid (HO.out.hap hb.size (Tk.t ⟨xb, xt, xd, xv, xlo, xtop⟩))
     clear hls
     go_wp2_with (first
      | (go_at_call 134; refine (pickT_any _ _ _ _ _ _ _).mono ?_; rintro e w2 ⟨rfl, hb2⟩; have HB5 := Lib.hid (bel_thenD HB1.out (Nat.le_refl _) hb2); clear hb2)
      | (go_at_call 175; refine (taskRight_any _ _ _ _ _ _ _).mono ?_; rintro e w1 ⟨rfl, hb1'⟩; rw [HOK.out]; obtain ⟨b0, b1, b2, b3, b4, b5⟩ := KB.out _ hb1'; have HB1 := Lib.hid (bel_thenD BB.out (Nat.le_refl _) hb1'); clear hb1')
      | (refine wpList_append_lie2 (by rfl) (.tmp 19) (.tmp 23) 24 (by rfl) V.heap.size 3 i0 _ 1 8 Tryz.underlying24 HI.out hz0 hz1 hz2 rfl (by omega) (.slice na ls.length nc) ls.length (ls.flatMap intCells) (by rfl) (HAP.out w2 HB5.out _ (by rfl)).1 (.slice (some ⟨w2.heap.size, 0, none⟩) 1 1) w2.heap.size (w2.heap.size + 1) 1 [.int .i64 (Tk.t ⟨xb, xt, xd, xv, xlo, xtop⟩)] (by rfl) (HAP.out w2 HB5.out _ (by rfl)).2.1 (in_one _) (ls.length + 1) rfl (by simp only [maxLen]; omega) (by omega) (HAP.out w2 HB5.out _ (by rfl)).2.2 ?_; intro ao cap' w6 hown6 hgrow6 hob6)
      | go_in)
     go_roundw
     case rel => exact ⟨k + 1, cap', ao, by omega, by rw [HN.out]; exact snoc_slice _ _ _ _, by go_num, Lib.hid (by rw [HN.out]; exact Ints.more hown6), ints_below HO.out hb hb.size HB5.out rfl hgrow6⟩
     case measure => simp [intOf]; omega
   | false =>
     have HN := Lib.hid (gath_no (c := okTk) (g := Tk.t) HX.out hok)
     have HOK := Lib.hid hok
     clear hok
     obtain ⟨ls, hls⟩ : ∃ ls, ls = gath okTk Tk.t p.ts k := ⟨_, rfl⟩
     rw [← hls] at HO HN hgl
     rw [← hls]
     clear hls
     go_wp2_with (first
      | (go_at_call 175; refine (taskRight_any _ _ _ _ _ _ _).mono ?_; rintro e w1 ⟨rfl, hb1'⟩; rw [HOK.out]; have HB1 := Lib.hid (bel_thenD BB.out (Nat.le_refl _) hb1'); clear hb1'))
     go_roundw
     case rel => exact ⟨k + 1, nc, na, by omega, by rw [HN.out], by go_num, Lib.hid (by rw [HN.out]; exact HO.out.later HB1.out), hb.trans (HB1.out.mono hb.size)⟩
     case measure => simp [intOf]; omega
  ·have tk : decide ((k : Int) < (tn : Int)) = false := by simp; omega
   have hgl := gath_len okTk Tk.t p.ts k
   have HG := Lib.hid (gath_end (c := okTk) (g := Tk.t) (xs := p.ts) (k := k) (by rw [HTN.out]; omega))
   obtain ⟨pre, hpre⟩ : ∃ pre, pre = gath okTk Tk.t p.ts k := ⟨_, rfl⟩
   rw [← hpre] at HO HG hgl
   rw [← hpre]
   clear hpre HT HTN
   obtain ⟨z0, z1⟩ := KS.out wr hb
   obtain ⟨wo, hwo⟩ : ∃ wo, wo = wr := ⟨_, rfl⟩
   subst hwo
   go_wp2_with fail
   clear z0 z1
   go_loopw [5, 29] (fun s i wr => ∃ (j nc : Nat) (na : Option Addr), j ≤ sn ∧ s = .slice na (pre ++ gath okSv Sv.t p.ss j).length nc ∧ i = .int .i64 j ∧ Hid (Ints wr V.heap.size na nc (pre ++ gath okSv Sv.t p.ss j)) ∧ Below V.heap.size V wr) (fun _ i _ => sn - (intOf i).toNat)
   case atStart => exact ⟨0, nc, na, by omega, by rw [gath_zero, List.append_nil], rfl, Lib.hid (by rw [gath_zero, List.append_nil]; exact HO.out), hb⟩
   case round =>
    clear hb HO
    obtain ⟨j, nc, na, hj, rfl, rfl, HO, hb⟩ := hrel
    by_cases hlt2 : j < sn
    ·have tj : decide ((j : Int) < (sn : Int)) = true := by simpa using hlt2
     obtain ⟨x, hx⟩ : ∃ x, p.ss[j]? = some x := ⟨_, List.getElem?_eq_getElem (by rw [HSN.out]; exact hlt2)⟩
     have hlies := HS.out.keep (SameIn.of_below (HBV.out.trans (hb.mono (Nat.le_of_lt hVw))) hhi)
     obtain ⟨a2, c2, e2, _, _, hc⟩ := hlies
     cases e2
     rcases hc with h0 | ⟨b, off, rfl, hb1, hb2, hc⟩
     ·omega
     obtain ⟨s0, s1, s2⟩ := Lies.sv hc hx
     have HX := Lib.hid hx
     have hbw : b < wr.heap.size := by have := hb.size; omega
     have l0 : (0 : Int) ≤ (j : Int) := by omega
     have l1 : (j : Int) < (sn : Int) := by omega
     clear hc hx
     obtain ⟨xr, xc, xt⟩ := x
     simp only at s0 s1 s2
     have KB := Lib.hid (boxK3 wr (.bool xr) (.int .i64 xc) (.int .i64 xt) 114)
     have BB := Lib.hid (below1 wr (.cells #[.bool xr, .int .i64 xc, .int .i64 xt] 114))
     have hgl2 : (pre ++ gath okSv Sv.t p.ss j).length ≤ 2000 := by
      have := gath_len okSv Sv.t p.ss j
      rw [List.length_append]; omega
     cases hok : okSv ⟨xr, xc, xt⟩ with
     | true =>
       have HN : Hid (pre ++ gath okSv Sv.t p.ss (j + 1) = (pre ++ gath okSv Sv.t p.ss j) ++ [xt]) := Lib.hid (by rw [gath_yes (c := okSv) (g := Sv.t) HX.out hok, List.append_assoc])
       have HOK := Lib.hid hok
       clear hok
       obtain ⟨ls, hls⟩ : ∃ ls, ls = pre ++ gath okSv Sv.t p.ss j := ⟨_, rfl⟩
       rw [← hls] at HO HN hgl2
       rw [← hls]
       have HAP := Lib.hid (HO.out.hap hb.size xt)
       clear hls
       go_wp2_with (first
        | (go_at_call 139; refine (serverRight_any _ _ _ _).mono ?_; rintro e w2 ⟨rfl, hb1'⟩; rw [HOK.out]; obtain ⟨b0, b1, b2⟩ := KB.out _ hb1'; have HB5 := Lib.hid (bel_thenD BB.out (Nat.le_refl _) hb1'); clear hb1')
        | (refine wpList_append_lie2 (by rfl) (.tmp 35) (.tmp 38) 24 (by rfl) V.heap.size 3 i0 _ 1 8 Tryz.underlying24 HI.out hz0 hz1 hz2 rfl (by omega) (.slice na ls.length nc) ls.length (ls.flatMap intCells) (by rfl) (HAP.out w2 HB5.out _ (by rfl)).1 (.slice (some ⟨w2.heap.size, 0, none⟩) 1 1) w2.heap.size (w2.heap.size + 1) 1 [.int .i64 xt] (by rfl) (HAP.out w2 HB5.out _ (by rfl)).2.1 (in_one _) (ls.length + 1) rfl (by simp only [maxLen]; omega) (by omega) (HAP.out w2 HB5.out _ (by rfl)).2.2 ?_; intro ao cap' w6 hown6 hgrow6 hob6)
        | go_in)
       go_roundw
       case rel => exact ⟨j + 1, cap', ao, by omega, by rw [HN.out]; exact snoc_slice _ _ _ _, by go_num, Lib.hid (by rw [HN.out]; exact Ints.more hown6), ints_below HO.out hb hb.size HB5.out rfl hgrow6⟩
       case measure => simp [intOf]; omega
     | false =>
       have HN : Hid (pre ++ gath okSv Sv.t p.ss (j + 1) = pre ++ gath okSv Sv.t p.ss j) := Lib.hid (by rw [gath_no (c := okSv) (g := Sv.t) HX.out hok])
       have HOK := Lib.hid hok
       clear hok
       obtain ⟨ls, hls⟩ : ∃ ls, ls = pre ++ gath okSv Sv.t p.ss j := ⟨_, rfl⟩
       rw [← hls] at HO HN hgl2
       rw [← hls]
       clear hls
       go_wp2_with (first
        | (go_at_call 139; refine (serverRight_any _ _ _ _).mono ?_; rintro e w1 ⟨rfl, hb1'⟩; rw [HOK.out]; have HB1 := Lib.hid (bel_thenD BB.out (Nat.le_refl _) hb1'); clear hb1'))
       go_roundw
       case rel => exact ⟨j + 1, nc, na, by omega, by rw [HN.out], by go_num, Lib.hid (by rw [HN.out]; exact HO.out.later HB1.out), hb.trans (HB1.out.mono hb.size)⟩
       case measure => simp [intOf]; omega
    ·have tj : decide ((j : Int) < (sn : Int)) = false := by simp; omega
     have HL : Hid (pre ++ gath okSv Sv.t p.ss j = periodsV p) := Lib.hid (by rw [HG.out, gath_end (c := okSv) (g := Sv.t) (xs := p.ss) (k := j) (by rw [HSN.out]; omega)]; rfl)
     obtain ⟨ls, hls⟩ : ∃ ls, ls = pre ++ gath okSv Sv.t p.ss j := ⟨_, rfl⟩
     rw [← hls] at HO HL
     rw [← hls]
     clear hls
     go_wp2_with fail
     go_ret
     exact ⟨na, nc, ret_sl HL.out, (HO.out.is HL.out).base (Nat.le_of_lt hVw), HBV.out.trans (hb.mono (Nat.le_of_lt hVw))⟩
set_option maxRecDepth 100000 in
set_option maxHeartbeats 4000000 in
theorem eachD_any (ta sa da : Option Addr) (tn tc sn sc dn dc : Nat) (x0 x1 x2 : Int) (w : World) (lo hi : Nat) (p : Pt) (htn : p.ts.length = tn) (hsn : p.ss.length = sn)
 (hts : Lies w lo hi (.slice ta tn tc) tn 6 (p.ts.flatMap Tk.cells)) (hss : Lies w lo hi (.slice sa sn sc) sn 3 (p.ss.flatMap Sv.cells)) (hhi : hi ≤ w.heap.size) (ht2 : tn ≤ 1000) (hs2 : sn ≤ 1000) :
 Calls Tryz.prog 133 #[.agg #[.slice ta tn tc, .slice sa sn sc, .slice da dn dc, .int .u8 x0, .int .u8 x1, .int .u8 x2], .func (.func 171) #[] #[]] w fun e w' => ∃ a cap, e = .returned (.slice a (farsV p).length cap) ∧ Ints w' w.heap.size a cap (farsV p) ∧ Below w.heap.size w w' := by
 obtain ⟨i0, hi0, hz0, hz1, hz2⟩ := info_parts Tryz.infoInt
 have HI := Lib.hid hi0
 obtain ⟨V, hV⟩ : ∃ V, V = w.alloc (.cells #[.slice ta tn tc, .slice sa sn sc, .slice da dn dc, .int .u8 x0, .int .u8 x1, .int .u8 x2] 37) := ⟨_, rfl⟩
 have ks : ∀ W : World, Below V.heap.size V W → W.cell? ⟨w.heap.size, 0, none⟩ = some (.slice ta tn tc) ∧ W.cell? ⟨w.heap.size, 1, none⟩ = some (.slice sa sn sc) := fun W h => by
  rw [hV] at h
  have k := box_says w #[.slice ta tn tc, .slice sa sn sc, .slice da dn dc, .int .u8 x0, .int .u8 x1, .int .u8 x2] 37 W h
  exact ⟨k 0 _ rfl, k 1 _ rfl⟩
 have hBV : Below w.heap.size w V := by rw [hV]; exact below1 _ _
 have hVw : w.heap.size < V.heap.size := by rw [hV]; simp
 have HT := Lib.hid hts; have HS := Lib.hid hss; have HTN := Lib.hid htn; have HSN := Lib.hid hsn
 have HV := Lib.hid hV; have HBV := Lib.hid hBV; have KS := Lib.hid ks
 clear hV hBV ks hts hss htn hsn hi0
 go_enter Tryz.func133, Tryz.ntmps133
 go_wp2_with fail
 rw [← HV.out]
 obtain ⟨z0, z1⟩ := KS.out V (Below.refl _ _)
 go_wp2_with fail
 clear z0 z1
 go_loopw [5, 13] (fun s i wr => ∃ (k nc : Nat) (na : Option Addr), k ≤ tn ∧ s = .slice na (gath okTk Tk.d p.ts k).length nc ∧ i = .int .i64 k ∧ Hid (Ints wr V.heap.size na nc (gath okTk Tk.d p.ts k)) ∧ Below V.heap.size V wr) (fun _ i _ => tn - (intOf i).toNat)
 case atStart => exact ⟨0, 0, none, by omega, rfl, rfl, Lib.hid (Ints.nil _ _), Below.refl _ _⟩
 case round =>
  obtain ⟨k, nc, na, hk, rfl, rfl, HO, hb⟩ := hrel
  by_cases hlt : k < tn
  ·have tk : decide ((k : Int) < (tn : Int)) = true := by simpa using hlt
   obtain ⟨x, hx⟩ : ∃ x, p.ts[k]? = some x := ⟨_, List.getElem?_eq_getElem (by rw [HTN.out]; exact hlt)⟩
   have hlies := HT.out.keep (SameIn.of_below (HBV.out.trans (hb.mono (Nat.le_of_lt hVw))) hhi)
   obtain ⟨a2, c2, e2, _, _, hc⟩ := hlies
   cases e2
   rcases hc with h0 | ⟨b, off, rfl, hb1, hb2, hc⟩
   ·omega
   obtain ⟨s0, s1, s2, s3, s4, s5⟩ := Lies.tk hc hx
   have HX := Lib.hid hx
   have hbw : b < wr.heap.size := by have := hb.size; omega
   have l0 : (0 : Int) ≤ (k : Int) := by omega
   have l1 : (k : Int) < (tn : Int) := by omega
   clear hc hx
   obtain ⟨xb, xt, xd, xv, xlo, xtop⟩ := x
   simp only at s0 s1 s2 s3 s4 s5
   have KB := Lib.hid (boxK6 wr (.bool xb) (.int .i64 xt) (.int .i64 xd) (.int .i64 xv) (.int .i64 xlo) (.int .i64 xtop) 111)
   have BB := Lib.hid (below1 wr (.cells #[.bool xb, .int .i64 xt, .int .i64 xd, .int .i64 xv, .int .i64 xlo, .int .i64 xtop] 111))
   have hgl := gath_len okTk Tk.d p.ts k
   cases hok : okTk ⟨xb, xt, xd, xv, xlo, xtop⟩ with
   | true =>
     have HN := Lib.hid (gath_yes (c := okTk) (g := Tk.d) HX.out hok)
     have HOK := Lib.hid hok
     clear hok
     obtain ⟨ls, hls⟩ : ∃ ls, ls = gath okTk Tk.d p.ts k := ⟨_, rfl⟩
     rw [← hls] at HO HN hgl
     rw [← hls]
     have HAP := Lib.hid (HO.out.hap hb.size (Tk.d ⟨xb, xt, xd, xv, xlo, xtop⟩))
     clear hls
     go_wp2_with (first
      | (go_at_call 171; refine (pickD_any _ _ _ _ _ _ _).mono ?_; rintro e w2 ⟨rfl, hb2⟩; have HB5 := Lib.hid (bel_thenD HB1.out (Nat.le_refl _) hb2); clear hb2)
      | (go_at_call 175; refine (taskRight_any _ _ _ _ _ _ _).mono ?_; rintro e w1 ⟨rfl, hb1'⟩; rw [HOK.out]; obtain ⟨b0, b1, b2, b3, b4, b5⟩ := KB.out _ hb1'; have HB1 := Lib.hid (bel_thenD BB.out (Nat.le_refl _) hb1'); clear hb1')
      | (refine wpList_append_lie2 (by rfl) (.tmp 19) (.tmp 23) 24 (by rfl) V.heap.size 3 i0 _ 1 8 Tryz.underlying24 HI.out hz0 hz1 hz2 rfl (by omega) (.slice na ls.length nc) ls.length (ls.flatMap intCells) (by rfl) (HAP.out w2 HB5.out _ (by rfl)).1 (.slice (some ⟨w2.heap.size, 0, none⟩) 1 1) w2.heap.size (w2.heap.size + 1) 1 [.int .i64 (Tk.d ⟨xb, xt, xd, xv, xlo, xtop⟩)] (by rfl) (HAP.out w2 HB5.out _ (by rfl)).2.1 (in_one _) (ls.length + 1) rfl (by simp only [maxLen]; omega) (by omega) (HAP.out w2 HB5.out _ (by rfl)).2.2 ?_; intro ao cap' w6 hown6 hgrow6 hob6)
      | go_in)
     go_roundw
     case rel => exact ⟨k + 1, cap', ao, by omega, by rw [HN.out]; exact snoc_slice _ _ _ _, by go_num, Lib.hid (by rw [HN.out]; exact Ints.more hown6), ints_below HO.out hb hb.size HB5.out rfl hgrow6⟩
     case measure => simp [intOf]; omega
   | false =>
     have HN := Lib.hid (gath_no (c := okTk) (g := Tk.d) HX.out hok)
     have HOK := Lib.hid hok
     clear hok
     obtain ⟨ls, hls⟩ : ∃ ls, ls = gath okTk Tk.d p.ts k := ⟨_, rfl⟩
     rw [← hls] at HO HN hgl
     rw [← hls]
     clear hls
     go_wp2_with (first
      | (go_at_call 175; refine (taskRight_any _ _ _ _ _ _ _).mono ?_; rintro e w1 ⟨rfl, hb1'⟩; rw [HOK.out]; have HB1 := Lib.hid (bel_thenD BB.out (Nat.le_refl _) hb1'); clear hb1'))
     go_roundw
     case rel => exact ⟨k + 1, nc, na, by omega, by rw [HN.out], by go_num, Lib.hid (by rw [HN.out]; exact HO.out.later HB1.out), hb.trans (HB1.out.mono hb.size)⟩
     case measure => simp [intOf]; omega
  ·have tk : decide ((k : Int) < (tn : Int)) = false := by simp; omega
   have hgl := gath_len okTk Tk.d p.ts k
   have HG := Lib.hid (gath_end (c := okTk) (g := Tk.d) (xs := p.ts) (k := k) (by rw [HTN.out]; omega))
   obtain ⟨pre, hpre⟩ : ∃ pre, pre = gath okTk Tk.d p.ts k := ⟨_, rfl⟩
   rw [← hpre] at HO HG hgl
   rw [← hpre]
   clear hpre HT HTN
   obtain ⟨z0, z1⟩ := KS.out wr hb
   obtain ⟨wo, hwo⟩ : ∃ wo, wo = wr := ⟨_, rfl⟩
   subst hwo
   go_wp2_with fail
   clear z0 z1
   go_loopw [5, 29] (fun s i wr => ∃ (j nc : Nat) (na : Option Addr), j ≤ sn ∧ s = .slice na (pre ++ gath okSv Sv.t p.ss j).length nc ∧ i = .int .i64 j ∧ Hid (Ints wr V.heap.size na nc (pre ++ gath okSv Sv.t p.ss j)) ∧ Below V.heap.size V wr) (fun _ i _ => sn - (intOf i).toNat)
   case atStart => exact ⟨0, nc, na, by omega, by rw [gath_zero, List.append_nil], rfl, Lib.hid (by rw [gath_zero, List.append_nil]; exact HO.out), hb⟩
   case round =>
    clear hb HO
    obtain ⟨j, nc, na, hj, rfl, rfl, HO, hb⟩ := hrel
    by_cases hlt2 : j < sn
    ·have tj : decide ((j : Int) < (sn : Int)) = true := by simpa using hlt2
     obtain ⟨x, hx⟩ : ∃ x, p.ss[j]? = some x := ⟨_, List.getElem?_eq_getElem (by rw [HSN.out]; exact hlt2)⟩
     have hlies := HS.out.keep (SameIn.of_below (HBV.out.trans (hb.mono (Nat.le_of_lt hVw))) hhi)
     obtain ⟨a2, c2, e2, _, _, hc⟩ := hlies
     cases e2
     rcases hc with h0 | ⟨b, off, rfl, hb1, hb2, hc⟩
     ·omega
     obtain ⟨s0, s1, s2⟩ := Lies.sv hc hx
     have HX := Lib.hid hx
     have hbw : b < wr.heap.size := by have := hb.size; omega
     have l0 : (0 : Int) ≤ (j : Int) := by omega
     have l1 : (j : Int) < (sn : Int) := by omega
     clear hc hx
     obtain ⟨xr, xc, xt⟩ := x
     simp only at s0 s1 s2
     have KB := Lib.hid (boxK3 wr (.bool xr) (.int .i64 xc) (.int .i64 xt) 114)
     have BB := Lib.hid (below1 wr (.cells #[.bool xr, .int .i64 xc, .int .i64 xt] 114))
     have hgl2 : (pre ++ gath okSv Sv.t p.ss j).length ≤ 2000 := by
      have := gath_len okSv Sv.t p.ss j
      rw [List.length_append]; omega
     cases hok : okSv ⟨xr, xc, xt⟩ with
     | true =>
       have HN : Hid (pre ++ gath okSv Sv.t p.ss (j + 1) = (pre ++ gath okSv Sv.t p.ss j) ++ [xt]) := Lib.hid (by rw [gath_yes (c := okSv) (g := Sv.t) HX.out hok, List.append_assoc])
       have HOK := Lib.hid hok
       clear hok
       obtain ⟨ls, hls⟩ : ∃ ls, ls = pre ++ gath okSv Sv.t p.ss j := ⟨_, rfl⟩
       rw [← hls] at HO HN hgl2
       rw [← hls]
       have HAP := Lib.hid (HO.out.hap hb.size xt)
       clear hls
       go_wp2_with (first
        | (go_at_call 139; refine (serverRight_any _ _ _ _).mono ?_; rintro e w2 ⟨rfl, hb1'⟩; rw [HOK.out]; obtain ⟨b0, b1, b2⟩ := KB.out _ hb1'; have HB5 := Lib.hid (bel_thenD BB.out (Nat.le_refl _) hb1'); clear hb1')
        | (refine wpList_append_lie2 (by rfl) (.tmp 35) (.tmp 38) 24 (by rfl) V.heap.size 3 i0 _ 1 8 Tryz.underlying24 HI.out hz0 hz1 hz2 rfl (by omega) (.slice na ls.length nc) ls.length (ls.flatMap intCells) (by rfl) (HAP.out w2 HB5.out _ (by rfl)).1 (.slice (some ⟨w2.heap.size, 0, none⟩) 1 1) w2.heap.size (w2.heap.size + 1) 1 [.int .i64 xt] (by rfl) (HAP.out w2 HB5.out _ (by rfl)).2.1 (in_one _) (ls.length + 1) rfl (by simp only [maxLen]; omega) (by omega) (HAP.out w2 HB5.out _ (by rfl)).2.2 ?_; intro ao cap' w6 hown6 hgrow6 hob6)
        | go_in)
       go_roundw
       case rel => exact ⟨j + 1, cap', ao, by omega, by rw [HN.out]; exact snoc_slice _ _ _ _, by go_num, Lib.hid (by rw [HN.out]; exact Ints.more hown6), ints_below HO.out hb hb.size HB5.out rfl hgrow6⟩
       case measure => simp [intOf]; omega
     | false =>
       have HN : Hid (pre ++ gath okSv Sv.t p.ss (j + 1) = pre ++ gath okSv Sv.t p.ss j) := Lib.hid (by rw [gath_no (c := okSv) (g := Sv.t) HX.out hok])
       have HOK := Lib.hid hok
       clear hok
       obtain ⟨ls, hls⟩ : ∃ ls, ls = pre ++ gath okSv Sv.t p.ss j := ⟨_, rfl⟩
       rw [← hls] at HO HN hgl2
       rw [← hls]
       clear hls
       go_wp2_with (first
        | (go_at_call 139; refine (serverRight_any _ _ _ _).mono ?_; rintro e w1 ⟨rfl, hb1'⟩; rw [HOK.out]; have HB1 := Lib.hid (bel_thenD BB.out (Nat.le_refl _) hb1'); clear hb1'))
       go_roundw
       case rel => exact ⟨j + 1, nc, na, by omega, by rw [HN.out], by go_num, Lib.hid (by rw [HN.out]; exact HO.out.later HB1.out), hb.trans (HB1.out.mono hb.size)⟩
       case measure => simp [intOf]; omega
    ·have tj : decide ((j : Int) < (sn : Int)) = false := by simp; omega
     have HL : Hid (pre ++ gath okSv Sv.t p.ss j = farsV p) := Lib.hid (by rw [HG.out, gath_end (c := okSv) (g := Sv.t) (xs := p.ss) (k := j) (by rw [HSN.out]; omega)]; rfl)
     obtain ⟨ls, hls⟩ : ∃ ls, ls = pre ++ gath okSv Sv.t p.ss j := ⟨_, rfl⟩
     rw [← hls] at HO HL
     rw [← hls]
     clear hls
     go_wp2_with fail
     go_ret
     exact ⟨na, nc, ret_sl HL.out, (HO.out.is HL.out).base (Nat.le_of_lt hVw), HBV.out.trans (hb.mono (Nat.le_of_lt hVw))⟩
end Go.Proofs.YtchbehnkkcjdgaaGreat
namespace Go.Proofs.YtchbehnkkcjdgaaGreat
open Go.ChangeShapes Go.WideShapes Go.ChangeAt Go.RowKit
set_option linter.unusedVariables false
attribute [local go_sem ↓] Go.wp_at_zero Go.wp_at_succ
theorem IntRow.snoc {W : World} {a : Option Addr} {ls : List Int} {x : Int} (h : IntRow W a (ls ++ [x]).length (ls ++ [x])) : IntRow W a (ls.length + 1) (ls ++ [x]) := by
 rw [List.length_append] at h; exact h
theorem h64_last {p : Pt} {F : Int} (hF : -9223372036854775808 ≤ F ∧ F ≤ 9223372036854775807) : ∀ x ∈ periodsV p ++ [F], -9223372036854775808 ≤ x ∧ x ≤ 9223372036854775807 := fun x hx => by
 rcases List.mem_append.1 hx with h | h
 ·have := periods_in h; omega
 ·simp at h; subst h; exact hF
theorem periods_len (p : Pt) : (periodsV p).length ≤ p.ts.length + p.ss.length := by
 unfold periodsV
 rw [List.length_append, List.length_map, List.length_map]
 have := List.length_filter_le okTk p.ts
 have := List.length_filter_le okSv p.ss
 omega
theorem fars_len (p : Pt) : (farsV p).length ≤ p.ts.length + p.ss.length := by
 unfold farsV
 rw [List.length_append, List.length_map, List.length_map]
 have := List.length_filter_le okTk p.ts
 have := List.length_filter_le okSv p.ss
 omega
set_option maxRecDepth 100000 in
set_option maxHeartbeats 2000000 in
theorem hyper_any (F : Int) (ta sa da : Option Addr) (tn tc sn sc dn dc : Nat) (x0 x1 x2 : Int) (w : World) (lo hi : Nat) (p : Pt) (hF : -9223372036854775808 ≤ F ∧ F ≤ 9223372036854775807) (htn : p.ts.length = tn) (hsn : p.ss.length = sn)
 (hts : Lies w lo hi (.slice ta tn tc) tn 6 (p.ts.flatMap Tk.cells)) (hss : Lies w lo hi (.slice sa sn sc) sn 3 (p.ss.flatMap Sv.cells)) (hhi : hi ≤ w.heap.size) (ht2 : tn ≤ 1000) (hs2 : sn ≤ 1000) :
 Calls Tryz.prog 85 #[.int .i64 F, .agg #[.slice ta tn tc, .slice sa sn sc, .slice da dn dc, .int .u8 x0, .int .u8 x1, .int .u8 x2]] w fun e w' => e = .returned (.tuple #[.int .i64 (hyperV F p), .bool (hyperOk F p)]) ∧ Below w.heap.size w w' := by
 obtain ⟨i0, hi0, hz0, hz1, hz2⟩ := info_parts Tryz.infoInt
 have HI := Lib.hid hi0
 have hb1 := below1 w (.cells #[.slice ta tn tc, .slice sa sn sc, .slice da dn dc, .int .u8 x0, .int .u8 x1, .int .u8 x2] 37)
 have B1 := Lib.hid hb1
 have CE := Lib.hid (eachT_any ta sa da tn tc sn sc dn dc x0 x1 x2 (w.alloc (.cells #[.slice ta tn tc, .slice sa sn sc, .slice da dn dc, .int .u8 x0, .int .u8 x1, .int .u8 x2] 37)) lo hi p htn hsn (hts.keep (SameIn.of_below hb1 hhi)) (hss.keep (SameIn.of_below hb1 hhi)) (by simp; omega) ht2 hs2)
 have HL := Lib.hid (hyper_last F p)
 have H64 := Lib.hid (h64_last (p := p) hF)
 have hlen : (periodsV p).length ≤ 2000 := by have := periods_len p; omega
 clear hb1 hts hss hi0
 generalize periodsV p = ls at *
 go_enter Tryz.func85, Tryz.ntmps85
 go_wp2_with (first
  | (go_at_call 133; refine CE.out.mono ?_; rintro e w1 ⟨na, nc, rfl, ho, hb1⟩; have HO := Lib.hid ho; have HB1 := Lib.hid hb1; clear ho hb1; have HAP := Lib.hid (HO.out.hap HB1.out.size F))
  | (refine wpList_append_lie2 (by rfl) (.tmp 9) (.tmp 11) 24 (by rfl) (w.alloc (.cells #[.slice ta tn tc, .slice sa sn sc, .slice da dn dc, .int .u8 x0, .int .u8 x1, .int .u8 x2] 37)).heap.size 3 i0 _ 1 8 Tryz.underlying24 HI.out hz0 hz1 hz2 rfl (by omega) (.slice na ls.length nc) ls.length (ls.flatMap intCells) (by rfl) (HAP.out w1 (Below.refl _ _) _ (by rfl)).1 (.slice (some ⟨w1.heap.size, 0, none⟩) 1 1) w1.heap.size (w1.heap.size + 1) 1 [.int .i64 F] (by rfl) (HAP.out w1 (Below.refl _ _) _ (by rfl)).2.1 (in_one _) (ls.length + 1) rfl (by simp only [maxLen]; omega) (by omega) (HAP.out w1 (Below.refl _ _) _ (by rfl)).2.2 ?_; intro ao cap' w6 hown6 hgrow6 hob6; have HO6 := Lib.hid (IntRow.snoc ((Ints.more hown6).row H64.out)); have HB6 := Lib.hid (ints_below HO.out HB1.out HB1.out.size (Below.refl _ _) rfl hgrow6); clear hown6 hgrow6 hob6)
  | (go_at_call 135; refine (numLcm_any _ _ _ _ _ _ HO6.out).mono ?_; rintro e w7 ⟨rfl, n7, rfl⟩; rw [HL.out.1, HL.out.2])
  | go_in)
 go_ret2
 exact ⟨rfl, below_drewD _ (bel_thenD B1.out (Nat.le_refl _) HB6.out)⟩
set_option maxRecDepth 100000 in
set_option maxHeartbeats 2000000 in
theorem far_any (ta sa da : Option Addr) (tn tc sn sc dn dc : Nat) (x0 x1 x2 : Int) (w : World) (lo hi : Nat) (p : Pt) (htn : p.ts.length = tn) (hsn : p.ss.length = sn)
 (hts : Lies w lo hi (.slice ta tn tc) tn 6 (p.ts.flatMap Tk.cells)) (hss : Lies w lo hi (.slice sa sn sc) sn 3 (p.ss.flatMap Sv.cells)) (hhi : hi ≤ w.heap.size) (ht2 : tn ≤ 1000) (hs2 : sn ≤ 1000) :
 Calls Tryz.prog 129 #[.agg #[.slice ta tn tc, .slice sa sn sc, .slice da dn dc, .int .u8 x0, .int .u8 x1, .int .u8 x2]] w fun e w' => e = .returned (.int .i64 (farV p)) ∧ Below w.heap.size w w' := by
 have hb1 := below1 w (.cells #[.slice ta tn tc, .slice sa sn sc, .slice da dn dc, .int .u8 x0, .int .u8 x1, .int .u8 x2] 37)
 have B1 := Lib.hid hb1
 have CE := Lib.hid (eachD_any ta sa da tn tc sn sc dn dc x0 x1 x2 (w.alloc (.cells #[.slice ta tn tc, .slice sa sn sc, .slice da dn dc, .int .u8 x0, .int .u8 x1, .int .u8 x2] 37)) lo hi p htn hsn (hts.keep (SameIn.of_below hb1 hhi)) (hss.keep (SameIn.of_below hb1 hhi)) (by simp; omega) ht2 hs2)
 have HL := Lib.hid (fars_most p)
 have hlen : (farsV p).length ≤ 2000 := by have := fars_len p; omega
 clear hb1 hts hss
 generalize farsV p = ls at *
 go_enter Tryz.func129, Tryz.ntmps129
 go_wp2_with (first
  | (go_at_call 170; refine (greatest_any _ _ _ ls _ _ _ rfl HO.out.lies hlen).mono ?_; rintro e w7 ⟨rfl, rfl⟩; rw [HL.out])
  | (go_at_call 133; refine CE.out.mono ?_; rintro e w1 ⟨na, nc, rfl, ho, hb1⟩; have HO := Lib.hid ho; have HB1 := Lib.hid hb1; clear ho hb1))
 go_ret
 exact ⟨rfl, bel_thenD B1.out (Nat.le_refl _) HB1.out⟩
set_option maxRecDepth 100000 in
set_option maxHeartbeats 2000000 in
theorem bound_any (F : Int) (ta sa da : Option Addr) (tn tc sn sc dn dc : Nat) (x0 x1 x2 : Int) (w : World) (lo hi : Nat) (p : Pt) (hF : -9223372036854775808 ≤ F ∧ F ≤ 9223372036854775807) (htn : p.ts.length = tn) (hsn : p.ss.length = sn)
 (hts : Lies w lo hi (.slice ta tn tc) tn 6 (p.ts.flatMap Tk.cells)) (hss : Lies w lo hi (.slice sa sn sc) sn 3 (p.ss.flatMap Sv.cells)) (hhi : hi ≤ w.heap.size) (ht2 : tn ≤ 1000) (hs2 : sn ≤ 1000) :
 Calls Tryz.prog 82 #[.int .i64 F, .agg #[.slice ta tn tc, .slice sa sn sc, .slice da dn dc, .int .u8 x0, .int .u8 x1, .int .u8 x2]] w fun e w' => e = .returned (.tuple #[.int .i64 (boundV F p), .bool (boundOk F p)]) ∧ Below w.heap.size w w' := by
 have hb1 := below1 w (.cells #[.slice ta tn tc, .slice sa sn sc, .slice da dn dc, .int .u8 x0, .int .u8 x1, .int .u8 x2] 37)
 have B1 := Lib.hid hb1
 have KS := Lib.hid (boxK6 w (.slice ta tn tc) (.slice sa sn sc) (.slice da dn dc) (.int .u8 x0) (.int .u8 x1) (.int .u8 x2) 37)
 have hwa : hi ≤ (w.alloc (.cells #[.slice ta tn tc, .slice sa sn sc, .slice da dn dc, .int .u8 x0, .int .u8 x1, .int .u8 x2] 37)).heap.size := by simp; omega
 have CH := Lib.hid (hyper_any F ta sa da tn tc sn sc dn dc x0 x1 x2 (w.alloc (.cells #[.slice ta tn tc, .slice sa sn sc, .slice da dn dc, .int .u8 x0, .int .u8 x1, .int .u8 x2] 37)) lo hi p hF htn hsn (hts.keep (SameIn.of_below hb1 hhi)) (hss.keep (SameIn.of_below hb1 hhi)) hwa ht2 hs2)
 have CF := Lib.hid (fun (W : World) (hb : Below (w.alloc (.cells #[.slice ta tn tc, .slice sa sn sc, .slice da dn dc, .int .u8 x0, .int .u8 x1, .int .u8 x2] 37)).heap.size (w.alloc (.cells #[.slice ta tn tc, .slice sa sn sc, .slice da dn dc, .int .u8 x0, .int .u8 x1, .int .u8 x2] 37)) W) =>
  far_any ta sa da tn tc sn sc dn dc x0 x1 x2 W lo hi p htn hsn ((hts.keep (SameIn.of_below hb1 hhi)).keep (SameIn.of_below hb hwa)) ((hss.keep (SameIn.of_below hb1 hhi)).keep (SameIn.of_below hb hwa)) (Nat.le_trans hwa hb.size) ht2 hs2)
 clear hts hss hb1 hwa
 obtain ⟨h0, h1⟩ := hyper_bd F p
 obtain ⟨f0, f1⟩ := farV_bd p
 cases ho : hyperOk F p with
 | false =>
   have hO : boundOk F p = false := by unfold boundOk; rw [ho]; rfl
   have HO := Lib.hid ho; have HO2 := Lib.hid hO; have HV := Lib.hid (bound_no hO).1
   clear ho hO
   generalize hyperV F p = h at *
   generalize farV p = f at *
   go_enter Tryz.func82, Tryz.ntmps82
   go_wp2_with (first
    | (go_at_call 129; refine (CF.out _ (by assumption)).mono ?_; rintro e w2 ⟨rfl, hb2⟩)
    | (go_at_call 85; refine CH.out.mono ?_; rintro e w1 ⟨rfl, hb1⟩; rw [HO.out]; obtain ⟨k0, k1, k2, k3, k4, k5⟩ := KS.out _ hb1))
   go_ret2
   exact ⟨ret_tup HV.out.symm HO2.out.symm, bel_thenD (bel_thenD B1.out (Nat.le_refl _) hb1) (Nat.le_refl _) hb2⟩
 | true =>
   have HO := Lib.hid ho
   cases hO : boundOk F p with
   | false =>
     have HO2 := Lib.hid hO; have HV := Lib.hid (bound_no hO).1
     have hg : 65536 < hyperV F p + farV p := by
      rcases (bound_no hO).2 with h | h
      ·rw [ho] at h; cases h
      ·exact h
     clear ho hO
     generalize hyperV F p = h at *
     generalize farV p = f at *
     have S1 : IntKind.i64.wrap (h + f) = h + f := IntWalk.i64_in _ (by omega)
     go_enter Tryz.func82, Tryz.ntmps82
     go_wp2_with (first
      | (go_at_call 129; refine (CF.out _ (by assumption)).mono ?_; rintro e w2 ⟨rfl, hb2⟩)
      | (go_at_call 85; refine CH.out.mono ?_; rintro e w1 ⟨rfl, hb1⟩; rw [HO.out]; obtain ⟨k0, k1, k2, k3, k4, k5⟩ := KS.out _ hb1))
     go_ret2
     exact ⟨ret_tup HV.out.symm rfl, bel_thenD (bel_thenD B1.out (Nat.le_refl _) hb1) (Nat.le_refl _) hb2⟩
   | true =>
     have HO2 := Lib.hid hO; have HV := Lib.hid (bound_ok hO).2.2
     have hg := (bound_ok hO).2.1
     clear ho hO
     generalize hyperV F p = h at *
     generalize farV p = f at *
     have S1 : IntKind.i64.wrap (h + f) = h + f := IntWalk.i64_in _ (by omega)
     go_enter Tryz.func82, Tryz.ntmps82
     go_wp2_with (first
      | (go_at_call 129; refine (CF.out _ (by assumption)).mono ?_; rintro e w2 ⟨rfl, hb2⟩)
      | (go_at_call 85; refine CH.out.mono ?_; rintro e w1 ⟨rfl, hb1⟩; rw [HO.out]; obtain ⟨k0, k1, k2, k3, k4, k5⟩ := KS.out _ hb1))
     go_ret2
     exact ⟨ret_tup HV.out.symm rfl, bel_thenD (bel_thenD B1.out (Nat.le_refl _) hb1) (Nat.le_refl _) hb2⟩
end Go.Proofs.YtchbehnkkcjdgaaGreat
