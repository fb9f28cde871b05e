/- Numbers put into a writer in memory. -/
import Derived.Test.YtiombjkjoehjpaaImageA
namespace Go.Proofs.Ytiombjkjoehjpaa
open Go.ChangeShapes Go.WideShapes Go.ChangeAt Go.RowKit
set_option linter.unusedVariables false

def ints (l : List Int) : List Value := l.flatMap intCells
def sized (s : Nat) (l : List Int) : List Fl := l.map fun n => (s, n)
theorem szL_sized (s : Nat) : ∀ l : List Int, szL (sized s l) = s * l.length
  | [] => rfl
  | n :: l => by show s + szL (sized s l) = _; rw [szL_sized s l, List.length_cons, Nat.mul_succ, Nat.add_comm]
theorem sized_take (s : Nat) (l : List Int) (k : Nat) (x : Int) (h : l[k]? = some x) : sized s (l.take (k + 1)) = sized s (l.take k) ++ [(s, x)] := by
  rw [List.take_add_one, h]; simp [sized]
theorem fit_take {s : Nat} {l : List Int} {k : Nat} {x : Int} (h : l[k]? = some x) (hf : fitL (sized s (l.take k)) = true) (hx : fitsB s x = true) : fitL (sized s (l.take (k + 1))) = true := by
  rw [sized_take s l k x h, fitL_append, hf]; simp [fitL, hx]
theorem fit_not {s : Nat} {l : List Int} {k : Nat} {x : Int} (h : l[k]? = some x) (hx : fitsB s x = false) : fitL (sized s l) = false := by
  simp only [fitL, sized, List.all_map, List.all_eq_false]
  exact ⟨x, List.mem_of_getElem? h, by simp [hx]⟩
theorem WrS.put {w : World} {X : Nat} {n : Int} {p : Option Addr} {fs : List Fl} {f : Fl} (h : w.heap[X]? = some (.cells #[.int .i64 0, .pointer p, .int .i64 n] 63 (0, 0))) (hn : n = (szL fs : Nat)) (hs : sizedL fs) (hc : chain w X fs.reverse p) (hf : 1 ≤ f.1 ∧ f.1 ≤ 7 ∧ 0 ≤ f.2 ∧ f.2 < 256 ^ f.1) (m : Int) (hm : m = n + f.1) :
    WrS (((w.setCell ⟨X, 1, none⟩ (.pointer (some ⟨w.heap.size, 0, none⟩))).setCell ⟨X, 2, none⟩ (.int .i64 m)).alloc (.cells #[.pointer p, .int .i64 (f.1 : Int), .int .i64 f.2] 117 (0, 0))) X (some (fs ++ [f])) := by
  have hX := lt_of_block h
  have h1 := set_at (j := 1) (u := .pointer (some ⟨w.heap.size, 0, none⟩)) h
  have h2 := set_at (j := 2) (u := .int .i64 m) h1
  have hsz : ((w.setCell ⟨X, 1, none⟩ (.pointer (some ⟨w.heap.size, 0, none⟩))).setCell ⟨X, 2, none⟩ (.int .i64 m)).heap.size = w.heap.size := by simp [World.setCell]
  refine ⟨0, m, some ⟨w.heap.size, 0, none⟩, (Below.heap_alloc _ _ X (by rw [hsz]; exact hX)).trans h2, rfl, ?_, ?_, ?_⟩
  · rw [hm, hn, szL_append]; simp [szL]
  · intro g hg
    rcases List.mem_append.1 hg with hg | hg
    · exact hs g hg
    · rw [List.mem_singleton] at hg; subst hg; exact hf
  · rw [List.reverse_append]
    have hb : But X w (((w.setCell ⟨X, 1, none⟩ (.pointer (some ⟨w.heap.size, 0, none⟩))).setCell ⟨X, 2, none⟩ (.int .i64 m)).alloc (.cells #[.pointer p, .int .i64 (f.1 : Int), .int .i64 f.2] 117 (0, 0))) := (((But.refl X w).set 1 _).set 2 _).alloc _
    refine ⟨w.heap.size, p, rfl, hX, ?_, hc.keep hb⟩
    have := heap_alloc_new ((w.setCell ⟨X, 1, none⟩ (.pointer (some ⟨w.heap.size, 0, none⟩))).setCell ⟨X, 2, none⟩ (.int .i64 m)) (.cells #[.pointer p, .int .i64 (f.1 : Int), .int .i64 f.2] 117 (0, 0))
    rw [hsz] at this
    exact this
theorem sized_szL {fs : List Fl} (h : sizedL fs) : fs.length ≤ szL fs := by
  induction fs with
  | nil => simp
  | cons f fs ih =>
    have := ih fun g hg => h g (by simp [hg])
    have := (h f (by simp)).1
    simp [szL]; omega

set_option maxRecDepth 100000 in
set_option maxHeartbeats 2000000 in
theorem put_any (X : Nat) (s : Option (List Fl)) (sz : Nat) (l : List Int) (a : Option Addr) (n c : Nat) (w : World) (lo hi : Nat) (hw : WrS w X s) (hn : l.length = n) (hl : Lies w lo hi (.slice a n c) n 1 (ints l)) (hX : X < lo ∨ hi ≤ X) (hhi : hi ≤ w.heap.size) (s1 : 1 ≤ sz) (s7 : sz ≤ 7) (hb : ∀ fs, s = some fs → szL fs + sz * n ≤ 4611686018427387904) :
    Calls Try.prog 39 #[.pointer (some ⟨X, 0, none⟩), .int .i64 (sz : Int), .slice a n c] w fun e w' => e = .returned (.tuple #[]) ∧ WrS w' X (putS s (sized sz l)) ∧ But X w w' := by
  obtain ⟨e, m, p, hX0, hs⟩ := hw
  have c0 : w.cell? ⟨X, 0, none⟩ = some (.int .i64 e) := cell_in hX0 rfl
  cases s with
  | none =>
    simp only at hs
    subst hs
    have H0 := Lib.hid hX0
    clear hX0 hl hb
    go_enter Try.func39, Try.ntmps39
    go_wp2_with (first | (go_at_call 57; refine (failed_any X _ _ c0).mono ?_; rintro e w' ⟨rfl, rfl⟩))
    (first | go_end0 | refine bodyPost_ret (results_none rfl _ _ _) rfl ?_)
    exact ⟨rfl, ⟨2, m, p, H0.out, rfl⟩, But.refl _ _⟩
  | some fs =>
    simp only at hs
    obtain ⟨rfl, hm, hsz, hch⟩ := hs
    have HB : szL fs + sz * n ≤ 4611686018427387904 := hb fs rfl
    have hnb : n ≤ 4611686018427387904 := Nat.le_trans (Nat.le_trans (Nat.le_mul_of_pos_left n s1) (Nat.le_add_left _ _)) HB
    have HF := Lib.hid (fun (W : World) (x : Int) (h : W.heap[X]? = some (.cells #[.int .i64 0, .pointer p, .int .i64 m] 63 (0, 0))) => fail_any X W x (cell_in h rfl) (free_in h 0))
    have HL := Lib.hid hl
    have HN := Lib.hid hn
    have H0 := Lib.hid (show WrS w X (some (fs ++ sized sz (l.take 0))) from ⟨0, m, p, hX0, rfl, by simpa [sized] using hm, by simpa [sized] using hsz, by simpa [sized] using hch⟩)
    clear hX0 hl hb hn hch hm hsz HF
    go_enter Try.func39, Try.ntmps39
    go_wp2_with (first
      | (go_at_call 57; refine (failed_any X _ _ c0).mono ?_; rintro e w' ⟨rfl, rfl⟩)
      | (go_at_call 61; refine (isSize_any _ _ (by omega) (by omega)).mono ?_; rintro e w' ⟨rfl, rfl⟩))
    clear c0
    go_loopw [25] (fun i wr => ∃ (k : Nat), k ≤ n ∧ i = .int .i64 k ∧ Hid (fitL (sized sz (l.take k)) = true) ∧ Hid (WrS wr X (some (fs ++ sized sz (l.take k)))) ∧ Hid (But X w wr)) (fun i _ => n - (intOf i).toNat)
    case atStart => exact ⟨0, by omega, rfl, Lib.hid rfl, H0, Lib.hid (But.refl _ _)⟩
    case round =>
      obtain ⟨k, hk, rfl, HFT, HW, HBT⟩ := hrel
      by_cases hlt : k < n
      · have tk : decide ((k : Int) < (n : Int)) = true := by simpa using hlt
        obtain ⟨x, hx⟩ : ∃ x, l[k]? = some x := ⟨_, List.getElem?_eq_getElem (by rw [HN.out]; exact hlt)⟩
        have HX := Lib.hid hx
        have hlies := HL.out.keep (HBT.out.same hX hhi)
        obtain ⟨a2, c2, e2, _, _, hc⟩ := hlies
        cases e2
        rcases hc with h0 | ⟨b, off, rfl, hb1, hb2, hc⟩
        · omega
        have q0 : wr.cell? ⟨b, off + k, none⟩ = some (.int .i64 x) := by
          have := hc k (.int .i64 x) (by have := flat_at intCells 1 (fun _ => rfl) l k 0 x hx (by omega); simpa [ints, intCells] using this)
          exact this
        have l0 : (0 : Int) ≤ (k : Int) := by omega
        have l1 : (k : Int) < (n : Int) := by omega
        clear hc hx
        cases hfx : fitsB sz x with
        | false =>
          have HNO : Hid (fitL (sized sz l) = false) := Lib.hid (fit_not HX.out hfx)
          obtain ⟨e2, m2, p2, hX2, g⟩ := HW.out
          obtain ⟨rfl, _, _, _⟩ := g
          have k0 : wr.cell? ⟨X, 0, none⟩ = some (.int .i64 0) := cell_in hX2 rfl
          have k1 : wr.frozen? ⟨X, 0, none⟩ = false := free_in hX2 0
          have HX2 := Lib.hid hX2
          clear hX2
          go_wp2_with (first
            | (go_at_call 63; refine (isOf_any _ _ _ s1 s7).mono ?_; rintro e w' ⟨rfl, rfl⟩)
            | (go_at_call 62; refine (fail_any X _ _ k0 k1).mono ?_; rintro e w' ⟨rfl, rfl⟩))
          (first | go_end0 | refine bodyPost_ret (results_none rfl _ _ _) rfl ?_)
          refine ⟨rfl, ?_, HBT.out.set 0 _⟩
          rw [putS_no HNO.out]
          exact ⟨2, m2, p2, set_at (j := 0) HX2.out, rfl⟩
        | true =>
          have HYES : Hid (fitL (sized sz (l.take (k + 1))) = true) := Lib.hid (fit_take HX.out HFT.out hfx)
          obtain ⟨e2, m2, p2, hX2, g⟩ := HW.out
          obtain ⟨rfl, hm2, hsz2, hch2⟩ := g
          have k0 : wr.cell? ⟨X, 0, none⟩ = some (.int .i64 0) := cell_in hX2 rfl
          have k1 : wr.cell? ⟨X, 1, none⟩ = some (.pointer p2) := cell_in hX2 rfl
          have k2 : wr.cell? ⟨X, 2, none⟩ = some (.int .i64 m2) := cell_in hX2 rfl
          have f1 : wr.frozen? ⟨X, 1, none⟩ = false := free_in hX2 1
          have f2 : wr.frozen? ⟨X, 2, none⟩ = false := free_in hX2 2
          have hXs : X < wr.heap.size := lt_of_block hX2
          have HFX := Lib.hid (fitsB_iff.1 hfx)
          have HR := Lib.hid (fun (mm : Int) (hmm : mm = m2 + sz) => WrS.put (f := (sz, x)) hX2 hm2 hsz2 hch2 ⟨s1, s7, HFX.out.1, HFX.out.2⟩ mm hmm)
          have hmb : m2 = (szL fs + sz * k : Nat) := by
            rw [hm2, szL_append, szL_sized, List.length_take, HN.out, Nat.min_eq_left hk]
          have hkn : sz * (k + 1) ≤ sz * n := Nat.mul_le_mul_left _ hlt
          rw [Nat.mul_succ] at hkn
          have HM : IntKind.i64.wrap (m2 + (sz : Int)) = m2 + (sz : Int) := IntWalk.i64_in _ (by omega)
          clear hX2 hm2 hsz2 hch2 hmb
          go_wp2_with (first
            | (go_at_call 63; refine (isOf_any _ _ _ s1 s7).mono ?_; rintro e w' ⟨rfl, rfl⟩))
          go_roundw
          case rel => exact ⟨k + 1, by omega, by go_num, HYES, Lib.hid (by rw [sized_take _ _ _ _ HX.out, ← List.append_assoc]; exact HR.out _ rfl), Lib.hid (((HBT.out.set 1 _).set 2 _).alloc _)⟩
          case measure => simp [intOf]; omega
      · have tk : decide ((k : Int) < (n : Int)) = false := by simp; omega
        have HE : Hid (l.take k = l) := Lib.hid (List.take_of_length_le (by rw [HN.out]; omega))
        go_wp2_with fail
        (first | go_end0 | refine bodyPost_ret (results_none rfl _ _ _) rfl ?_)
        rw [HE.out] at HFT HW
        refine ⟨rfl, ?_, HBT.out⟩
        rw [putS_yes HFT.out]
        exact HW.out
end Go.Proofs.Ytiombjkjoehjpaa
