/- The document's edges: Edges. -/
import Derived.Test.YtkikapodobeaaaaFlowR
import Derived.Test.YtkikapodobeaaaaFlowL
namespace Go.Proofs.Ytkikapodobeaaaa
open Go.ChangeShapes Go.WideShapes Go.ChangeAt Go.RowKit
set_option linter.unusedVariables false
attribute [local go_sem ↓] Go.wp_at_zero Go.wp_at_succ

def rowTo (c : Cf) (a : Nat) : Nat → List (Int × Int)
  | 0 => []
  | b + 1 => rowTo c a b ++ (if isE c (a : Int) (b : Int) then [((a : Int), (b : Int))] else [])
def allTo (c : Cf) (n : Nat) : Nat → List (Int × Int)
  | 0 => []
  | a + 1 => allTo c n a ++ rowTo c a n
theorem rowTo_len (c : Cf) (a : Nat) : ∀ b, (rowTo c a b).length ≤ b
  | 0 => by simp [rowTo]
  | b + 1 => by
    have := rowTo_len c a b
    rw [rowTo, List.length_append]
    split <;> simp <;> omega
theorem allTo_len (c : Cf) (n : Nat) : ∀ a, (allTo c n a).length ≤ a * n
  | 0 => by simp [allTo]
  | a + 1 => by
    have := allTo_len c n a
    have := rowTo_len c a n
    rw [allTo, List.length_append, Nat.add_mul]
    omega
theorem rowTo_is (c : Cf) (a : Nat) : ∀ b, ((((List.range b).filter fun (y : Nat) => isE c (a : Int) (y : Int)).map fun (y : Nat) => (a, y)).map fun (e : Nat × Nat) => ((e.1 : Int), (e.2 : Int))) = rowTo c a b
  | 0 => rfl
  | b + 1 => by
    rw [List.range_succ, List.filter_append, List.map_append, List.map_append, rowTo_is c a b, rowTo]
    congr 1
    by_cases he : isE c (a : Int) (b : Int) = true <;> simp [he]
theorem allTo_is (c : Cf) (n : Nat) : ∀ a, (((List.range a).flatMap fun (x : Nat) => ((List.range n).filter fun (y : Nat) => isE c (x : Int) (y : Int)).map fun (y : Nat) => (x, y)).map fun (e : Nat × Nat) => ((e.1 : Int), (e.2 : Int))) = allTo c n a
  | 0 => rfl
  | a + 1 => by
    rw [List.range_succ, List.flatMap_append, List.map_append, allTo_is c n a, allTo]
    congr 1
    rw [List.flatMap_cons, List.flatMap_nil, List.append_nil]
    exact rowTo_is c a n
theorem edgesI_is (c : Cf) : edgesI c = allTo c c.ps.length c.ps.length := allTo_is c _ _
theorem Try.infoRE : (Try.prog.info? 40).map (fun i => (i.zero, i.size, i.bytes)) = some (some (.agg #[.int .i64 0, .int .i64 0]), 2, 16) := by kernel_rfl
set_option maxRecDepth 100000 in
set_option maxHeartbeats 4000000 in
theorem refEdges_sys {w : World} {hi : Nat} {c : Cf} {pvs : List Pv} {wa pa ca : Option Addr} {wc pc cc : Nat} (f : Few c) (h : SysL w hi c pvs wa pa ca wc pc cc) (hh : hi ≤ w.heap.size) :
    Calls Try.prog 11 #[.agg #[.int .i64 c.frame, .int .i64 c.margin, .slice wa c.ws.length wc, .slice pa c.ps.length pc, .slice ca c.cs.length cc]] w fun e w' => ∃ (a : Option Addr) (cap : Nat), e = .returned (.slice a (edgesI c).length cap) ∧ w'.ownsRow w.heap.size 40 2 (.slice a (edgesI c).length cap) (edgesI c).length ((edgesI c).flatMap eC) ∧ Below w.heap.size w w' := by
  obtain ⟨i0, hi0, hz0, hz1, hz2⟩ := info_parts Try.infoRE
  have HI := Lib.hid hi0
  clear hi0
  obtain ⟨V, hV⟩ : ∃ V, V = w.alloc (.cells #[.int .i64 c.frame, .int .i64 c.margin, .slice wa c.ws.length wc, .slice pa c.ps.length pc, .slice ca c.cs.length cc] 26) := ⟨_, rfl⟩
  have B1 : Below w.heap.size w V := by rw [hV]; exact below1 _ _
  have hblk : V.heap[w.heap.size]? = some (.cells #[.int .i64 c.frame, .int .i64 c.margin, .slice wa c.ws.length wc, .slice pa c.ps.length pc, .slice ca c.cs.length cc] 26 (0, 0)) := by rw [hV]; exact heap_alloc_new _ _
  have hvs : w.heap.size + 1 ≤ V.heap.size := by rw [hV]; simp
  have ks : ∀ W : World, Below V.heap.size V W → (W.cell? ⟨w.heap.size, 0, none⟩ = some (.int .i64 c.frame) ∧ W.cell? ⟨w.heap.size, 1, none⟩ = some (.int .i64 c.margin) ∧ W.cell? ⟨w.heap.size, 2, none⟩ = some (.slice wa c.ws.length wc) ∧ W.cell? ⟨w.heap.size, 3, none⟩ = some (.slice pa c.ps.length pc) ∧ W.cell? ⟨w.heap.size, 4, none⟩ = some (.slice ca c.cs.length cc)) ∧ SysL W hi c pvs wa pa ca wc pc cc := by
    intro W g
    have q := fun (i : Nat) (u : Value) hu => (g.cell (p := ⟨w.heap.size, i, none⟩) (lt_of_block hblk)).trans (cell_in (j := i) (u := u) hblk hu)
    exact ⟨⟨q 0 _ rfl, q 1 _ rfl, q 2 _ rfl, q 3 _ rfl, q 4 _ rfl⟩, h.keep (SameIn.of_below (B1.trans (g.mono (by omega))) hh)⟩
  have KS := Lib.hid ks; have HV := Lib.hid hV; have HB1 := Lib.hid B1; have HF := Lib.hid f
  have hpn := f.2.1
  obtain ⟨n, hn⟩ : ∃ n, n = c.ps.length := ⟨_, rfl⟩
  have HIS : Hid (edgesI c = allTo c n n) := Lib.hid (by rw [hn]; exact edgesI_is c)
  have HFI : Hid (∀ W : World, Below V.heap.size V W → ∀ a b : Int, Calls Try.prog 27 #[.agg #[.int .i64 c.frame, .int .i64 c.margin, .slice wa c.ws.length wc, .slice pa n pc, .slice ca c.cs.length cc], .int .i64 a, .int .i64 b] W fun e w' => e = .returned (.bool (isE c a b)) ∧ Below W.heap.size W w') := Lib.hid (fun W hW a b => by rw [hn]; exact is_sys HF.out (KS.out W hW).2 (by have := hW.size; omega) a b)
  have hbig : n * n ≤ 1000 * 1000 := Nat.mul_le_mul (by omega) (by omega)
  rw [← hn] at KS hpn HV ⊢
  clear ks hV B1 hblk h f
  clear hn
  go_enter Try.func11, Try.ntmps11
  go_wp2_with fail
  rw [← HV.out]
  go_wp2_with fail
  go_loopw [3, 4] (fun s3 i wr => ∃ (k nc : Nat) (na : Option Addr), k ≤ n ∧ s3 = .slice na (allTo c n k).length nc ∧ i = .int .i64 k ∧ Hid (wr.ownsRow V.heap.size 40 2 (.slice na (allTo c n k).length nc) (allTo c n k).length ((allTo c n k).flatMap eC)) ∧ Below V.heap.size V wr) (fun _ i _ => n - (intOf i).toNat)
  case atStart => exact ⟨0, 0, none, by omega, rfl, rfl, Lib.hid (World.ownsRow_nil _ _ _ _), Below.refl _ _⟩
  case round =>
    obtain ⟨k, nc, na, hk, rfl, rfl, HO, hb⟩ := hrel
    obtain ⟨⟨y0, y1, y2, y3, y4⟩, _⟩ := KS.out _ hb
    have hall := allTo_len c n k
    have hkn : k * n ≤ n * n := Nat.mul_le_mul_right _ hk
    by_cases hlt : k < n
    · have tk : decide ((k : Int) < (n : Int)) = true := by simpa using hlt
      go_wp2
      clear y0 y1 y2 y3 y4
      go_loopw [3, 5] (fun s3 i wr => ∃ (b nc : Nat) (na : Option Addr), b ≤ n ∧ s3 = .slice na (allTo c n k ++ rowTo c k b).length nc ∧ i = .int .i64 b ∧ Hid (wr.ownsRow V.heap.size 40 2 (.slice na (allTo c n k ++ rowTo c k b).length nc) (allTo c n k ++ rowTo c k b).length ((allTo c n k ++ rowTo c k b).flatMap eC)) ∧ Below V.heap.size V wr) (fun _ i _ => n - (intOf i).toNat)
      case atStart => exact ⟨0, nc, na, by omega, by simp [rowTo], rfl, Lib.hid (by simpa [rowTo] using HO.out), hb⟩
      case round =>
        clear HO hb
        obtain ⟨b, nc, na, hbn, rfl, rfl, HO, hb⟩ := hrel
        obtain ⟨⟨y0, y1, y2, y3, y4⟩, _⟩ := KS.out _ hb
        have hrow := rowTo_len c k b
        obtain ⟨pre, hpre⟩ : ∃ pre, pre = allTo c n k ++ rowTo c k b := ⟨_, rfl⟩
        have hpl : pre.length ≤ 2000000 := by rw [hpre, List.length_append]; omega
        rw [← hpre] at HO ⊢
        by_cases hlb : b < n
        · have tk2 : decide ((b : Int) < (n : Int)) = true := by simpa using hlb
          cases he : isE c (k : Int) (b : Int) with
          | true =>
            have HN : Hid (allTo c n k ++ rowTo c k (b + 1) = pre ++ [((k : Int), (b : Int))]) := Lib.hid (by rw [rowTo, he, if_pos rfl, ← List.append_assoc, hpre])
            have HE := Lib.hid he
            clear hpre he
            go_wp2_with (first
              | (refine wpList_append_lie2 (by rfl) (.tmp 24) (.tmp 28) 37 (by rfl) V.heap.size 40 i0 _ 2 16 Try.underlying37 HI.out hz0 hz1 hz2 rfl (by omega) (.slice na pre.length nc) pre.length (pre.flatMap eC) (by rfl) hO5 (.slice (some ⟨w5.heap.size, 0, none⟩) 1 1) w5.heap.size (w5.heap.size + 1) 1 [.int .i64 (k : Int), .int .i64 (b : Int)] (by rfl) (one_lies (cs := #[.int .i64 (k : Int), .int .i64 (b : Int)]) (t := 40) (heap_alloc_new _ _) rfl) (eC_one ((k : Int), (b : Int))) (pre.length + 1) rfl (by simp only [maxLen]; omega) (by omega) (by have := hb.size; have := hb5.size; simp; omega) ?_; intro ao cap' w6 hown6 hgrow6 hob6)
              | (go_at_call 27; refine (HFI.out _ hb _ _).mono ?_; rintro e w5 ⟨rfl, hb5⟩; rw [HE.out]; have hO5 := owns_later HO.out (hb5.alloc hb5.size (.cells #[.int .i64 (k : Int), .int .i64 (b : Int)] 40)))
              | go_in)
            go_roundw
            case rel =>
              refine ⟨b + 1, cap', ao, by omega, by rw [HN.out]; simp, by go_num, Lib.hid ?_, ?_⟩
              · rw [HN.out, List.length_append, List.flatMap_append]
                exact hown6
              · exact (((hb.trans (hb5.mono hb.size)).alloc (by have := hb.size; have := hb5.size; omega) _).grown hgrow6 (by have := hb.size; have := hb5.size; simp; omega) (fun q hq => (owns_own hO5 q hq).1))
            case measure => simp [intOf]; omega
          | false =>
            have HN : Hid (allTo c n k ++ rowTo c k (b + 1) = pre) := Lib.hid (by rw [rowTo, he, hpre]; simp)
            have HE := Lib.hid he
            clear hpre he
            go_wp2_with (first
              | (go_at_call 27; refine (HFI.out _ hb _ _).mono ?_; rintro e w5 ⟨rfl, hb5⟩; rw [HE.out]))
            go_roundw
            case rel =>
              refine ⟨b + 1, nc, na, by omega, by rw [HN.out], by go_num, Lib.hid ?_, hb.trans (hb5.mono hb.size)⟩
              rw [HN.out]; exact owns_later HO.out hb5
            case measure => simp [intOf]; omega
        · have tk2 : decide ((b : Int) < (n : Int)) = false := by simp; omega
          have eb : b = n := by omega
          have HN : Hid (allTo c n (k + 1) = pre) := Lib.hid (by rw [allTo, hpre, eb])
          clear hpre eb
          go_wp2
          go_roundw
          case rel =>
            refine ⟨k + 1, nc, na, by omega, by rw [HN.out], by go_num, Lib.hid ?_, hb⟩
            rw [HN.out]; exact HO.out
          case measure => simp [intOf]; omega
    · have tk : decide ((k : Int) < (n : Int)) = false := by simp; omega
      have HE : Hid (edgesI c = allTo c n k) := Lib.hid (by rw [HIS.out]; congr 1; omega)
      go_wp2
      go_ret
      refine ⟨na, nc, by rw [HE.out]; rfl, ?_, HB1.out.trans (hb.mono (by omega))⟩
      rw [HE.out]
      exact owns_base HO.out (by omega)
end Go.Proofs.Ytkikapodobeaaaa
