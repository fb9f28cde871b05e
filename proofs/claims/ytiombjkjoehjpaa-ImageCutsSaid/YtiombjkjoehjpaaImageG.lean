/- What was put, as bytes. -/
import Derived.Test.YtiombjkjoehjpaaImageF
namespace Go.Proofs.Ytiombjkjoehjpaa
open Go.ChangeShapes Go.WideShapes Go.ChangeAt Go.RowKit
set_option linter.unusedVariables false

def bts (l : List Int) : List Value := l.map fun x => .int .u8 x
theorem putN_cons : ∀ (k : Nat) (n : Int), putN (k + 1) n = n / 256 ^ k % 256 :: putN k n
  | 0, n => by simp [putN]
  | k + 1, n => by
    rw [putN, putN_cons k (n / 256), putN, List.cons_append, pow_succ', Int.ediv_ediv_of_nonneg (by omega)]
theorem pow7 {s : Nat} (h : s ≤ 7) : (256 : Int) ^ s ≤ 72057594037927936 := by
  rcases (by omega : s = 0 ∨ s = 1 ∨ s = 2 ∨ s = 3 ∨ s = 4 ∨ s = 5 ∨ s = 6 ∨ s = 7) with rfl | rfl | rfl | rfl | rfl | rfl | rfl | rfl <;> decide
theorem bts_set {a : Nat} {T : List Int} {v : Int} : (bts (List.replicate (a + 1) 0 ++ T)).set a (.int .u8 v) = bts (List.replicate a 0 ++ (v :: T)) := by
  unfold bts
  rw [List.replicate_succ', List.append_assoc, List.singleton_append, List.map_append, List.map_append, List.set_append_right _ _ (by simp)]
  simp
theorem szL_reverse (l : List Fl) : szL l.reverse = szL l := by
  induction l with
  | nil => rfl
  | cons f l ih => rw [List.reverse_cons, szL_append, ih]; simp [szL]; omega
theorem bts_len (l : List Int) : (bts l).length = l.length := by simp [bts]
theorem mk_u8 (n : Nat) : (madeCells (Value.int .u8 0).cells (n * 1)).toList = bts (List.replicate n 0 ++ []) := by
  simp [madeCells, Value.cells, bts]
  exact List.ext_getElem (by simp) (fun i _ _ => by simp [Nat.mod_one])
theorem Try.infoU8 : (Try.prog.info? 5).map (fun i => (i.zero, i.size, i.bytes)) = some (some (.int .u8 0), 1, 1) := by kernel_rfl
set_option maxRecDepth 100000 in
set_option maxHeartbeats 2000000 in
theorem bytes_any (X : Nat) (fs : List Fl) (w : World) (hw : WrS w X (some fs)) (hb : szL fs ≤ 281474976710656) :
    Calls Try.prog 21 #[.pointer (some ⟨X, 0, none⟩)] w fun e w' => e = .returned (.slice (some ⟨w.heap.size, 0, none⟩) (szL fs) (szL fs)) ∧ w'.ownsRow w.heap.size 5 1 (.slice (some ⟨w.heap.size, 0, none⟩) (szL fs) (szL fs)) (szL fs) (bts (encB fs)) ∧ Below w.heap.size w w' := by
  obtain ⟨i0, hi0, hz0, hz1, hz2⟩ := info_parts Try.infoU8
  have HI := Lib.hid hi0
  obtain ⟨e, m, p, hX0, g⟩ := hw
  obtain ⟨rfl, rfl, hsz, hch⟩ := g
  have c0 : w.cell? ⟨X, 0, none⟩ = some (.int .i64 0) := cell_in hX0 rfl
  have c1 : w.cell? ⟨X, 1, none⟩ = some (.pointer p) := cell_in hX0 rfl
  have c2 : w.cell? ⟨X, 2, none⟩ = some (.int .i64 (szL fs : Nat)) := cell_in hX0 rfl
  have hXw : X < w.heap.size := lt_of_block hX0
  have HSZ := Lib.hid hsz; have HCH := Lib.hid hch
  clear hi0 hX0 hsz hch
  generalize hn : szL fs = n at *
  have HN := Lib.hid hn
  clear hn
  go_enter Try.func21, Try.ntmps21
  go_wp2_with (first
    | (refine wpList_make_full _ (by rfl) (.tmp 12) (.tmp 12) 29 (by rfl) w.heap.size 5 i0 _ 1 Try.underlying29 HI.out hz0 hz1 _ _ n n n (by rfl) (by rfl) rfl rfl (by rw [hz2]; omega) (by simp [maxLen]; omega) (Nat.le_refl _) ?_
       intro w1 hown hgrow
       have hb1 : Below w.heap.size w w1 := (Below.refl _ _).grown hgrow (Nat.le_refl _) (fun k hk => by cases hk)
       rw [mk_u8] at hown
       have k1 : w1.cell? ⟨X, 1, none⟩ = some (.pointer p) := (hb1.cell (p := ⟨X, 1, none⟩) hXw).trans c1
       have k2 : w1.cell? ⟨X, 2, none⟩ = some (.int .i64 (n : Nat)) := (hb1.cell (p := ⟨X, 2, none⟩) hXw).trans c2
       have HOW := Lib.hid hown
       have HB1 := Lib.hid hb1
       clear hown hgrow hb1))
  go_loopw [4, 5] (fun a q wr => ∃ (rs sfx : List Fl) (p' : Option Addr), a = .int .i64 (szL rs : Nat) ∧ q = .pointer p' ∧ Hid (chain w X rs p') ∧ Hid (fs = rs.reverse ++ sfx) ∧ Hid (wr.ownsRow w.heap.size 5 1 (.slice (some ⟨w.heap.size, 0, none⟩) n n) n (bts (List.replicate (szL rs) 0 ++ encB sfx))) ∧ Hid (Below w.heap.size w wr)) (fun a _ _ => (intOf a).toNat)
  case atStart => exact ⟨fs.reverse, [], p, by rw [szL_reverse, HN.out], rfl, HCH, Lib.hid (by simp), Lib.hid (by rw [szL_reverse, HN.out]; exact HOW.out), HB1⟩
  case round =>
    obtain ⟨rs, sfx, p', rfl, rfl, HC, HE, HO, HB⟩ := hrel
    cases rs with
    | nil =>
      have hp : p' = none := HC.out
      subst hp
      go_wp2_with fail
      go_ret
      have hE : fs = sfx := by simpa using HE.out
      have hO := HO.out
      rw [show List.replicate (szL []) (0 : Int) = [] from rfl, List.nil_append, ← hE] at hO
      exact ⟨rfl, hO, HB.out⟩
    | cons f rs =>
      obtain ⟨b, ah, rfl, hXb, hblk, hch⟩ := HC.out
      have hbw : b < w.heap.size := lt_of_block hblk
      have HBK := Lib.hid ((HB.out.block b hbw).trans hblk)
      have HBLK := Lib.hid hblk
      have k4 : wr.cell? ⟨b, 1, none⟩ = some (.int .i64 (f.1 : Int)) := cell_in (j := 1) HBK.out rfl
      have k5 : wr.cell? ⟨b, 2, none⟩ = some (.int .i64 f.2) := cell_in (j := 2) HBK.out rfl
      have HCN := Lib.hid hch
      have hf : f ∈ fs := by rw [HE.out]; simp
      obtain ⟨f1, f7, f0, ff⟩ := HSZ.out f hf
      have HFF := Lib.hid ff
      have hle : szL (f :: rs) ≤ n := by
        have := HE.out
        rw [← HN.out, this, szL_append, szL_reverse]; omega
      obtain ⟨fz, fn⟩ := f
      simp only [szL] at hle f1 f7 f0 k4 k5
      have fn63 : fn < 72057594037927936 := Int.lt_of_lt_of_le HFF.out (pow7 f7)
      generalize hA : szL rs = A at *
      have HA := Lib.hid hA
      have HO2 : Hid (wr.ownsRow w.heap.size 5 1 (.slice (some ⟨w.heap.size, 0, none⟩) n n) n (bts (List.replicate (fz + A - 0) 0 ++ (putN 0 fn ++ encB sfx)))) := Lib.hid (by have := HO.out; rw [show szL ((fz, fn) :: rs) = fz + A from by rw [← hA]; rfl] at this; exact this)
      have hst : (szL ((fz, fn) :: rs) : Nat) = fz + A := by rw [← hA]; rfl
      rw [hst]
      clear hblk hch hf ff hA HO HFF hst
      go_wp2_with fail
      go_loopw [4, 6, 36] (fun a q i wx => ∃ (k : Nat), k ≤ fz ∧ i = .int .i64 k ∧ a = .int .i64 ((fz + A - k : Nat) : Int) ∧ q = .int .i64 (fn / 256 ^ k) ∧ Hid (wx.ownsRow w.heap.size 5 1 (.slice (some ⟨w.heap.size, 0, none⟩) n n) n (bts (List.replicate (fz + A - k) 0 ++ (putN k fn ++ encB sfx)))) ∧ Hid (Below w.heap.size w wx)) (fun _ _ i _ => fz - (intOf i).toNat)
      case atStart => exact ⟨0, by omega, rfl, by simp, by simp, HO2, HB⟩
      case round =>
        obtain ⟨k, hk, rfl, rfl, rfl, HOX, HBX⟩ := hrel
        by_cases hlt : k < fz
        · have tk : decide ((k : Int) < (fz : Int)) = true := by simpa using hlt
          obtain ⟨a, ha⟩ : ∃ a, fz + A - k = a + 1 := ⟨fz + A - k - 1, by omega⟩
          rw [ha] at HOX ⊢
          have w1' : IntKind.i64.wrap (((a + 1 : Nat) : Int) - 1) = (a : Int) := by rw [show ((a + 1 : Nat) : Int) - 1 = (a : Int) by omega]; exact IntWalk.i64_in _ (by omega)
          have l0 : (0 : Int) ≤ (a : Int) := by omega
          have l1 : (a : Int) < (n : Int) := by omega
          obtain ⟨_, hz | ⟨g, cap, cur, hv, hg, hgr, hcn, hcm, hcs, hct⟩⟩ := HOX.out
          · cases hz.1
          simp only [Value.slice.injEq, Option.some.injEq, Addr.mk.injEq] at hv
          obtain ⟨⟨rfl, _, _⟩, _, rfl⟩ := hv
          have fz0 : wr.frozen? ⟨w.heap.size, a, none⟩ = false := free_in hgr a
          obtain ⟨u, hu⟩ : ∃ u, cur[a]? = some u := ⟨_, Array.getElem?_eq_getElem (by omega)⟩
          have cz0 : wr.cell? ⟨w.heap.size, a, none⟩ = some u := (cell_of_row _ _ _ _ _ _ hgr).trans hu
          have ha2 : fz + A - (k + 1) = a := by omega
          clear hg hgr hcn hcm hcs hct hu
          go_wp2_with fail
          go_roundw
          case rel =>
            refine ⟨k + 1, by omega, by go_num, by rw [ha2], ?_, ?_, Lib.hid (HBX.out.setCell (Nat.le_refl _) _)⟩
            · congr 1
              rw [Int.pow_succ, Int.ediv_ediv_of_nonneg (Int.le_of_lt (Int.pow_pos (by omega)))]
            · rw [ha2]
              have h := (HOX.out.stored a (.int .u8 (fn / 256 ^ k % 256))).1
              rw [bts_set, ← List.cons_append, ← putN_cons] at h
              exact Lib.hid h
          case measure => simp [intOf]; omega
        · have tk : decide ((k : Int) < (fz : Int)) = false := by simp; omega
          have hkf : k = fz := by omega
          subst hkf
          have kq : wr.cell? ⟨b, 0, none⟩ = some (.pointer ah) := cell_in (j := 0) ((HBX.out.block b hbw).trans HBLK.out) rfl
          rw [show k + A - k = A by omega] at HOX ⊢
          go_wp2_with fail
          go_roundw
          case rel =>
            refine ⟨rs, (k, fn) :: sfx, ah, by rw [HA.out], rfl, HCN, Lib.hid (by rw [HE.out]; simp), Lib.hid (by rw [HA.out, encB_cons]; exact HOX.out), HBX⟩
          case measure => simp [intOf]; omega
end Go.Proofs.Ytiombjkjoehjpaa
