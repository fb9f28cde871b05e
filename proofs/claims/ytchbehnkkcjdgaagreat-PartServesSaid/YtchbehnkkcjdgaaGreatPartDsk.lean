/- Joined of PartP, PartQ: The program's desks in memory: a budget behind an interface, and a row of requests; busy, take, begin, due, serve, empty; New of both. -/
import Derived.Test.YtchbehnkkcjdgaaGreatPlains
import Derived.Test.YtchbehnkkcjdgaaGreatReqPg
import Derived.Test.YtchbehnkkcjdgaaGreatChunkPg
import Derived.Test.YtchbehnkkcjdgaaGreatRefillPg
namespace Go.Proofs.YtchbehnkkcjdgaaGreat
open Go.ChangeShapes Go.WideShapes Go.ChangeAt Go.RowKit
set_option linter.unusedVariables false
def BudAt (B : Nat) (s : Sv) (st : Int) : Bud → World → (Nat → Prop) → Prop
 | .c b => BgAt B s b
 | .r b => refillOk.Rg B s st b
theorem bud_own (B : Nat) (s : Sv) (st : Int) (b : Bud) : OwnP (BudAt B s st b) := by
 cases b with
 | c b => exact bg_own B s b
 | r b => exact refillOk.own B s st b
/-- The interface's value. -/
def budV (B : Nat) (r : Bool) : Value := if r = true then .iface 219 (.pointer (some ⟨B, 0, none⟩)) else .iface 221 (.pointer (some ⟨B, 0, none⟩))
/-- The requests as the row has them: the number and what is left. -/
def reqL : Int → List Int → List Bk
 | _, [] => []
 | n, x :: r => ⟨n, x⟩ :: reqL (n + 1) r
theorem reqL_len : ∀ (n : Int) (q : List Int), (reqL n q).length = q.length
 | _, [] => rfl
 | n, x :: r => by simp [reqL, reqL_len (n + 1) r]
theorem reqL_snoc : ∀ (n : Int) (q : List Int) (x : Int), reqL n (q ++ [x]) = reqL n q ++ [⟨n + q.length, x⟩]
 | n, [], x => by simp [reqL]
 | n, y :: r, x => by simp [reqL, reqL_snoc (n + 1) r x]; omega
theorem meth_go (B : Nat) (s : Sv) (st : Int) (b : Bud) : (budV B b.isR = .iface 221 (.pointer (some ⟨B, 0, none⟩)) ∧ (∀ w, (method 427 221 (Value.pointer (some ⟨B, 0, none⟩)) "Go").run Tryz.prog w = .ok (270, Value.pointer (some ⟨B, 0, none⟩)) w) ∧ ∀ (w : World) (S : Nat → Prop) (now : Int) (busy : Bool), 0 ≤ now → now ≤ 4611687117939015680 → b.by_ now → BudAt B s st b w S → Calls Tryz.prog 270 #[.pointer (some ⟨B, 0, none⟩), .int .i64 now, .bool busy] w fun e w' => ∃ S', e = .returned (.tuple #[]) ∧ BudAt B s st (b.go s st now busy) w' S' ∧ GrowS S S' w w') ∨ (budV B b.isR = .iface 219 (.pointer (some ⟨B, 0, none⟩)) ∧ (∀ w, (method 427 219 (Value.pointer (some ⟨B, 0, none⟩)) "Go").run Tryz.prog w = .ok (254, Value.pointer (some ⟨B, 0, none⟩)) w) ∧ ∀ (w : World) (S : Nat → Prop) (now : Int) (busy : Bool), 0 ≤ now → now ≤ 4611687117939015680 → b.by_ now → BudAt B s st b w S → Calls Tryz.prog 254 #[.pointer (some ⟨B, 0, none⟩), .int .i64 now, .bool busy] w fun e w' => ∃ S', e = .returned (.tuple #[]) ∧ BudAt B s st (b.go s st now busy) w' S' ∧ GrowS S S' w w') := by
 cases b with
 | c b => exact .inl ⟨rfl, fun _ => by kernel_rfl, by intro w S now busy h0 h1 hb h; exact chunkOk.go w B S s b now busy h0 h1 h⟩
 | r b => exact .inr ⟨rfl, fun _ => by kernel_rfl, by intro w S now busy h0 h1 hb h; exact refillOk.go w B S s st b now busy hb h1 h⟩
theorem meth_use (B : Nat) (s : Sv) (st : Int) (b : Bud) : (budV B b.isR = .iface 221 (.pointer (some ⟨B, 0, none⟩)) ∧ (∀ w, (method 427 221 (Value.pointer (some ⟨B, 0, none⟩)) "Use").run Tryz.prog w = .ok (274, Value.pointer (some ⟨B, 0, none⟩)) w) ∧ ∀ (w : World) (S : Nat → Prop) , BudAt B s st b w S → Calls Tryz.prog 274 #[.pointer (some ⟨B, 0, none⟩)] w fun e w' => ∃ S', e = .returned (.bool b.has) ∧ BudAt B s st (b.use s) w' S' ∧ GrowS S S' w w') ∨ (budV B b.isR = .iface 219 (.pointer (some ⟨B, 0, none⟩)) ∧ (∀ w, (method 427 219 (Value.pointer (some ⟨B, 0, none⟩)) "Use").run Tryz.prog w = .ok (258, Value.pointer (some ⟨B, 0, none⟩)) w) ∧ ∀ (w : World) (S : Nat → Prop) , BudAt B s st b w S → Calls Tryz.prog 258 #[.pointer (some ⟨B, 0, none⟩)] w fun e w' => ∃ S', e = .returned (.bool b.has) ∧ BudAt B s st (b.use s) w' S' ∧ GrowS S S' w w') := by
 cases b with
 | c b => exact .inl ⟨rfl, fun _ => by kernel_rfl, by intro w S h; exact chunkOk.use w B S s b h⟩
 | r b => exact .inr ⟨rfl, fun _ => by kernel_rfl, by intro w S h; exact refillOk.use w B S s st b h⟩
theorem meth_done (B : Nat) (s : Sv) (st : Int) (b : Bud) : (budV B b.isR = .iface 221 (.pointer (some ⟨B, 0, none⟩)) ∧ (∀ w, (method 427 221 (Value.pointer (some ⟨B, 0, none⟩)) "Done").run Tryz.prog w = .ok (268, Value.pointer (some ⟨B, 0, none⟩)) w) ∧ ∀ (w : World) (S : Nat → Prop) , BudAt B s st b w S → Calls Tryz.prog 268 #[.pointer (some ⟨B, 0, none⟩)] w fun e w' => ∃ S', e = .returned (.tuple #[]) ∧ BudAt B s st (b.done s) w' S' ∧ GrowS S S' w w') ∨ (budV B b.isR = .iface 219 (.pointer (some ⟨B, 0, none⟩)) ∧ (∀ w, (method 427 219 (Value.pointer (some ⟨B, 0, none⟩)) "Done").run Tryz.prog w = .ok (252, Value.pointer (some ⟨B, 0, none⟩)) w) ∧ ∀ (w : World) (S : Nat → Prop) , BudAt B s st b w S → Calls Tryz.prog 252 #[.pointer (some ⟨B, 0, none⟩)] w fun e w' => ∃ S', e = .returned (.tuple #[]) ∧ BudAt B s st (b.done s) w' S' ∧ GrowS S S' w w') := by
 cases b with
 | c b => exact .inl ⟨rfl, fun _ => by kernel_rfl, by intro w S h; exact chunkOk.done_ w B S s b h⟩
 | r b => exact .inr ⟨rfl, fun _ => by kernel_rfl, by intro w S h; exact refillOk.done_ w B S s st b h⟩
theorem meth_stop (B : Nat) (s : Sv) (st : Int) (b : Bud) : (budV B b.isR = .iface 221 (.pointer (some ⟨B, 0, none⟩)) ∧ (∀ w, (method 427 221 (Value.pointer (some ⟨B, 0, none⟩)) "Stop").run Tryz.prog w = .ok (273, Value.pointer (some ⟨B, 0, none⟩)) w) ∧ ∀ (w : World) (S : Nat → Prop) , BudAt B s st b w S → Calls Tryz.prog 273 #[.pointer (some ⟨B, 0, none⟩)] w fun e w' => ∃ S', e = .returned (.tuple #[]) ∧ BudAt B s st (b.stop s) w' S' ∧ GrowS S S' w w') ∨ (budV B b.isR = .iface 219 (.pointer (some ⟨B, 0, none⟩)) ∧ (∀ w, (method 427 219 (Value.pointer (some ⟨B, 0, none⟩)) "Stop").run Tryz.prog w = .ok (257, Value.pointer (some ⟨B, 0, none⟩)) w) ∧ ∀ (w : World) (S : Nat → Prop) , BudAt B s st b w S → Calls Tryz.prog 257 #[.pointer (some ⟨B, 0, none⟩)] w fun e w' => ∃ S', e = .returned (.tuple #[]) ∧ BudAt B s st (b.stop s) w' S' ∧ GrowS S S' w w') := by
 cases b with
 | c b => exact .inl ⟨rfl, fun _ => by kernel_rfl, by intro w S h; exact chunkOk.stop w B S s b h⟩
 | r b => exact .inr ⟨rfl, fun _ => by kernel_rfl, by intro w S h; exact refillOk.stop w B S s st b h⟩
theorem meth_resume (B : Nat) (s : Sv) (st : Int) (b : Bud) : (budV B b.isR = .iface 221 (.pointer (some ⟨B, 0, none⟩)) ∧ (∀ w, (method 427 221 (Value.pointer (some ⟨B, 0, none⟩)) "Resume").run Tryz.prog w = .ok (272, Value.pointer (some ⟨B, 0, none⟩)) w) ∧ ∀ (w : World) (S : Nat → Prop) , BudAt B s st b w S → Calls Tryz.prog 272 #[.pointer (some ⟨B, 0, none⟩)] w fun e w' => ∃ S', e = .returned (.tuple #[]) ∧ BudAt B s st b.resume w' S' ∧ GrowS S S' w w') ∨ (budV B b.isR = .iface 219 (.pointer (some ⟨B, 0, none⟩)) ∧ (∀ w, (method 427 219 (Value.pointer (some ⟨B, 0, none⟩)) "Resume").run Tryz.prog w = .ok (256, Value.pointer (some ⟨B, 0, none⟩)) w) ∧ ∀ (w : World) (S : Nat → Prop) , BudAt B s st b w S → Calls Tryz.prog 256 #[.pointer (some ⟨B, 0, none⟩)] w fun e w' => ∃ S', e = .returned (.tuple #[]) ∧ BudAt B s st b.resume w' S' ∧ GrowS S S' w w') := by
 cases b with
 | c b => exact .inl ⟨rfl, fun _ => by kernel_rfl, by intro w S h; exact chunkOk.resume w B S s b h⟩
 | r b => exact .inr ⟨rfl, fun _ => by kernel_rfl, by intro w S h; exact refillOk.resume w B S s st b h⟩
theorem meth_due (B : Nat) (s : Sv) (st : Int) (b : Bud) : (budV B b.isR = .iface 221 (.pointer (some ⟨B, 0, none⟩)) ∧ (∀ w, (method 427 221 (Value.pointer (some ⟨B, 0, none⟩)) "Due").run Tryz.prog w = .ok (269, Value.pointer (some ⟨B, 0, none⟩)) w) ∧ ∀ (w : World) (S : Nat → Prop) , BudAt B s st b w S → Calls Tryz.prog 269 #[.pointer (some ⟨B, 0, none⟩)] w fun e w' => e = .returned (.tuple #[.int .i64 (b.due s), .bool b.has]) ∧ Below w.heap.size w w') ∨ (budV B b.isR = .iface 219 (.pointer (some ⟨B, 0, none⟩)) ∧ (∀ w, (method 427 219 (Value.pointer (some ⟨B, 0, none⟩)) "Due").run Tryz.prog w = .ok (253, Value.pointer (some ⟨B, 0, none⟩)) w) ∧ ∀ (w : World) (S : Nat → Prop) , BudAt B s st b w S → Calls Tryz.prog 253 #[.pointer (some ⟨B, 0, none⟩)] w fun e w' => e = .returned (.tuple #[.int .i64 (b.due s), .bool b.has]) ∧ Below w.heap.size w w') := by
 cases b with
 | c b => exact .inl ⟨rfl, fun _ => by kernel_rfl, by intro w S h; exact chunkOk.due w B S s b h⟩
 | r b => exact .inr ⟨rfl, fun _ => by kernel_rfl, by intro w S h; exact refillOk.due w B S s st b h⟩
set_option maxRecDepth 100000 in
set_option maxHeartbeats 8000000 in
theorem dbusy_any (w : World) (G o R : Nat) (SR : Nat → Prop) (l : List Bk) (h : Rq R l w SR) (c1 : w.cell? ⟨G, o + 1, none⟩ = some (.pointer (some ⟨R, 0, none⟩))) : Calls Tryz.prog 100 #[.pointer (some ⟨G, o, none⟩)] w fun e w' => e = .returned (.bool (decide (0 < l.length))) ∧ w' = w := by
 have HL := Lib.hid (rq_len w R SR l h)
 obtain ⟨n, hn⟩ : ∃ n, n = l.length := ⟨_, rfl⟩
 rw [← hn] at HL ⊢
 have e : decide ((0 : Int) < (n : Int)) = decide (0 < n) := by simp
 have HE := Lib.hid e
 clear h hn e
 go_enter Tryz.func100, Tryz.ntmps100
 go_wp2_with (first
  | (go_at_call 81; refine HL.out.mono ?_; rintro e w3 ⟨rfl, hw3⟩; rw [hw3]; clear hw3)
  | fail "no arm")
 go_ret
 exact ⟨by first | rfl | rw [HE.out] | simp, rfl⟩
set_option maxRecDepth 100000 in
set_option maxHeartbeats 8000000 in
theorem dbegin_any (w : World) (G o B R : Nat) (s : Sv) (st now : Int) (b : Bud) (S SR : Nat → Prop) (l : List Bk) (h : BudAt B s st b w S) (hr : Rq R l w SR) (h0 : 0 ≤ now) (h1 : now ≤ 4611687117939015680) (hb : b.by_ now)
 (c0 : w.cell? ⟨G, o, none⟩ = some (budV B b.isR)) (c1 : w.cell? ⟨G, o + 1, none⟩ = some (.pointer (some ⟨R, 0, none⟩))) (hG : ¬ S G) :
 Calls Tryz.prog 49 #[.pointer (some ⟨G, o, none⟩), .int .i64 now] w fun e w' => ∃ S', e = .returned (.tuple #[]) ∧ BudAt B s st (b.go s st now (decide (0 < l.length))) w' S' ∧ GrowS S S' w w' := by
 rcases meth_go B s st b with ⟨hv, hm, hc⟩ | ⟨hv, hm, hc⟩
 ·rw [hv] at c0
  obtain ⟨busy, hbz⟩ : ∃ busy, busy = decide (0 < l.length) := ⟨_, rfl⟩
  have hz : G < w.heap.size := World.block_lt_of_cell? _ _ c0
  have HB : Hid (∀ W : World, Below w.heap.size w W → Calls Tryz.prog 100 #[.pointer (some ⟨G, o, none⟩)] W fun e w' => e = .returned (.bool busy) ∧ w' = W) := Lib.hid (fun W hW => by rw [hbz]; exact dbusy_any W G o R SR l ((rq_own R l).later hr hW) ((World.cell?_of_block (hW.block G hz)).trans c1))
  have HC : Hid (∀ W : World, Below w.heap.size w W → Calls Tryz.prog 270 #[.pointer (some ⟨B, 0, none⟩), .int .i64 now, .bool busy] W fun e w' => ∃ S', e = .returned (.tuple #[]) ∧ BudAt B s st (b.go s st now busy) w' S' ∧ GrowS S S' w w' ∧ w'.cell? ⟨G, o, none⟩ = some (.iface 221 (.pointer (some ⟨B, 0, none⟩)))) := Lib.hid (fun W hW => (hc W S now busy h0 h1 hb ((bud_own B s st b).later h hW)).mono (by
   rintro e w' ⟨S', rfl, q1, q2⟩
   exact ⟨S', rfl, q1, (GrowS.of_below hW).trans q2, (World.cell?_of_block ((q2.block G (Nat.lt_of_lt_of_le hz hW.size) hG).trans (hW.block G hz))).trans c0⟩))
  have K0 : Hid (∀ W : World, Below w.heap.size w W → W.cell? ⟨G, o, none⟩ = some (.iface 221 (.pointer (some ⟨B, 0, none⟩)))) := Lib.hid (fun W hW => (World.cell?_of_block (hW.block G hz)).trans c0)
  rw [← hbz]
  clear h hr hb hv hc hG hbz hz
  go_enter Tryz.func49, Tryz.ntmps49
  go_region_held3 (fun W => W.cell? ⟨G, o, none⟩ = some (.iface 221 (.pointer (some ⟨B, 0, none⟩))))
   (first | exact K0.out _ (Below.refl _ _) | exact K0.out _ (Below.refl _ _).drew | exact k9.out | fail "no keep")
   (first
     | (go_at_call 100; refine (HB.out _ (Below.refl _ _).drew).mono ?_; rintro e w3 ⟨rfl, hw3⟩; rw [hw3]; clear hw3)
     | (go_at_call 270; refine Calls.mono (HC.out _ (Below.refl _ _).drew) ?_; rintro e w9 ⟨S9, rfl, h9', g9', k9'⟩; have h9 := Lib.hid h9'; have g9 := Lib.hid g9'; have k9 := Lib.hid k9'; clear h9' g9' k9')
     | fail "no arm")
  go_wp2_with fail
  go_end0
  first | exact ⟨S9, rfl, h9.out, g9.out⟩ | exact ⟨rfl, S9, h9.out, g9.out⟩
 ·rw [hv] at c0
  obtain ⟨busy, hbz⟩ : ∃ busy, busy = decide (0 < l.length) := ⟨_, rfl⟩
  have hz : G < w.heap.size := World.block_lt_of_cell? _ _ c0
  have HB : Hid (∀ W : World, Below w.heap.size w W → Calls Tryz.prog 100 #[.pointer (some ⟨G, o, none⟩)] W fun e w' => e = .returned (.bool busy) ∧ w' = W) := Lib.hid (fun W hW => by rw [hbz]; exact dbusy_any W G o R SR l ((rq_own R l).later hr hW) ((World.cell?_of_block (hW.block G hz)).trans c1))
  have HC : Hid (∀ W : World, Below w.heap.size w W → Calls Tryz.prog 254 #[.pointer (some ⟨B, 0, none⟩), .int .i64 now, .bool busy] W fun e w' => ∃ S', e = .returned (.tuple #[]) ∧ BudAt B s st (b.go s st now busy) w' S' ∧ GrowS S S' w w' ∧ w'.cell? ⟨G, o, none⟩ = some (.iface 219 (.pointer (some ⟨B, 0, none⟩)))) := Lib.hid (fun W hW => (hc W S now busy h0 h1 hb ((bud_own B s st b).later h hW)).mono (by
   rintro e w' ⟨S', rfl, q1, q2⟩
   exact ⟨S', rfl, q1, (GrowS.of_below hW).trans q2, (World.cell?_of_block ((q2.block G (Nat.lt_of_lt_of_le hz hW.size) hG).trans (hW.block G hz))).trans c0⟩))
  have K0 : Hid (∀ W : World, Below w.heap.size w W → W.cell? ⟨G, o, none⟩ = some (.iface 219 (.pointer (some ⟨B, 0, none⟩)))) := Lib.hid (fun W hW => (World.cell?_of_block (hW.block G hz)).trans c0)
  rw [← hbz]
  clear h hr hb hv hc hG hbz hz
  go_enter Tryz.func49, Tryz.ntmps49
  go_region_held3 (fun W => W.cell? ⟨G, o, none⟩ = some (.iface 219 (.pointer (some ⟨B, 0, none⟩))))
   (first | exact K0.out _ (Below.refl _ _) | exact K0.out _ (Below.refl _ _).drew | exact k9.out | fail "no keep")
   (first
     | (go_at_call 100; refine (HB.out _ (Below.refl _ _).drew).mono ?_; rintro e w3 ⟨rfl, hw3⟩; rw [hw3]; clear hw3)
     | (go_at_call 254; refine Calls.mono (HC.out _ (Below.refl _ _).drew) ?_; rintro e w9 ⟨S9, rfl, h9', g9', k9'⟩; have h9 := Lib.hid h9'; have g9 := Lib.hid g9'; have k9 := Lib.hid k9'; clear h9' g9' k9')
     | fail "no arm")
  go_wp2_with fail
  go_end0
  first | exact ⟨S9, rfl, h9.out, g9.out⟩ | exact ⟨rfl, S9, h9.out, g9.out⟩
/-- A desk: its budget beside its row. -/
def DskAt (B R : Nat) (s : Sv) (st : Int) (d : Dk) : Own := Star (BudAt B s st d.bud) (Rq R (reqL d.first d.q))
theorem dsk_own (B R : Nat) (s : Sv) (st : Int) (d : Dk) : OwnP (DskAt B R s st d) := star_own (bud_own B s st d.bud) (rq_own R _)
theorem Dk.Ok.head {d : Dk} (h : d.Ok) {x : Int} {r : List Int} (e : d.q = x :: r) : 1 ≤ x ∧ x ≤ 1048576 := h.bd x (by rw [e]; exact List.mem_cons_self)
/-- What a desk's own cells are. -/
structure DskC (w : World) (G o B R : Nat) (d : Dk) : Prop where
 c0 : w.cell? ⟨G, o, none⟩ = some (budV B d.bud.isR)
 c1 : w.cell? ⟨G, o + 1, none⟩ = some (.pointer (some ⟨R, 0, none⟩))
 c2 : w.cell? ⟨G, o + 2, none⟩ = some (.int .i64 d.taken)
 fz : w.frozen? ⟨G, o + 2, none⟩ = false
 z : G < w.heap.size
theorem DskC.same {w w' : World} {G o B R : Nat} {d : Dk} (h : DskC w G o B R d) (hs : w'.heap[G]? = w.heap[G]?) : DskC w' G o B R d :=
 ⟨(World.cell?_of_block hs).trans h.c0, (World.cell?_of_block hs).trans h.c1, (World.cell?_of_block hs).trans h.c2, by have := h.fz; unfold World.frozen? at this ⊢; rw [hs]; exact this, by
   obtain ⟨cs, hc⟩ : ∃ cs, w.heap[G]? = some cs := ⟨_, Array.getElem?_eq_getElem h.z⟩
   exact (Array.getElem?_eq_some_iff.1 (hs.trans hc)).1⟩
theorem DskC.later {w w' : World} {G o B R : Nat} {d : Dk} (h : DskC w G o B R d) (hb : Below w.heap.size w w') : DskC w' G o B R d := h.same (hb.block G h.z)
theorem dskbegin_any (w : World) (G o B R : Nat) (s : Sv) (st now : Int) (d : Dk) (S : Nat → Prop) (h : DskAt B R s st d w S) (c : DskC w G o B R d) (hG : ¬ S G) (h0 : 0 ≤ now) (h1 : now ≤ 4611687117939015680) (hb : d.bud.by_ now) :
 Calls Tryz.prog 49 #[.pointer (some ⟨G, o, none⟩), .int .i64 now] w fun e w' => ∃ S', e = .returned (.tuple #[]) ∧ DskAt B R s st (d.go s st now) w' S' ∧ GrowS S S' w w' := by
 obtain ⟨A, hA, hAS, hre⟩ := h.left (rq_own R _)
 obtain ⟨A2, hR, _, _⟩ := h.right (bud_own B s st d.bud)
 refine (dbegin_any w G o B R s st now d.bud A A2 _ hA hR h0 h1 hb c.c0 c.c1 (fun h => hG (hAS G h))).mono ?_
 rintro e w' ⟨S', rfl, q1, q2⟩
 rw [reqL_len] at q1
 obtain ⟨S2, q3, q4⟩ := hre q1 q2
 exact ⟨S2, rfl, q3, q4⟩
set_option maxRecDepth 100000 in
set_option maxHeartbeats 8000000 in
theorem dskdue_any (w : World) (G o B R : Nat) (s : Sv) (st : Int) (d : Dk) (S : Nat → Prop) (h : DskAt B R s st d w S) (c : DskC w G o B R d) :
 Calls Tryz.prog 73 #[.pointer (some ⟨G, o, none⟩)] w fun e w' => e = .returned (.tuple #[.int .i64 (d.dueV s), .bool d.dueOk]) ∧ Below w.heap.size w w' := by
 obtain ⟨A, hA, hAS, _⟩ := h.left (rq_own R _)
 obtain ⟨A2, hR, _, _⟩ := h.right (bud_own B s st d.bud)
 have c0 := c.c0
 have HB := Lib.hid (dbusy_any w G o R A2 _ hR c.c1)
 rw [reqL_len] at HB
 have hdv : d.dueV s = if decide (0 < d.q.length) = true then d.bud.due s else 0 := rfl
 have hdo : d.dueOk = (decide (0 < d.q.length) && d.bud.has) := rfl
 obtain ⟨busy, hbz⟩ : ∃ busy, busy = decide (0 < d.q.length) := ⟨_, rfl⟩
 rw [← hbz] at HB hdv hdo
 cases busy with
 | false =>
   rw [if_neg (by simp)] at hdv
   rw [hdv, hdo, Bool.false_and]
   clear h hA hR hAS c c0 hbz hdv hdo
   go_enter Tryz.func73, Tryz.ntmps73
   go_wp2_with (first
    | (go_at_call 100; refine HB.out.mono ?_; rintro e w3 ⟨rfl, hw3⟩; rw [hw3]; clear hw3)
    | fail "no arm")
   go_ret2
   exact ⟨rfl, Below.refl _ _⟩
 | true =>
   rw [if_pos rfl] at hdv
   rw [hdv, hdo, Bool.true_and]
   clear hbz hdv hdo
   rcases meth_due B s st d.bud with ⟨hv, hm, hc⟩ | ⟨hv, hm, hc⟩
   ·rw [hv] at c0
    have HC : Hid (Calls Tryz.prog 269 #[.pointer (some ⟨B, 0, none⟩)] w fun e w' => e = .returned (.tuple #[.int .i64 (d.bud.due s), .bool d.bud.has]) ∧ Below w.heap.size w w') := Lib.hid (hc w A hA)
    clear h hA hR hAS c hv hc
    go_enter Tryz.func73, Tryz.ntmps73
    go_wp2_with (first
     | (go_at_call 100; refine HB.out.mono ?_; rintro e w3 ⟨rfl, hw3⟩; rw [hw3]; clear hw3)
     | (go_at_call 269; refine Calls.mono HC.out ?_; rintro e w9 ⟨rfl, hb9⟩; have h9 := Lib.hid hb9; clear hb9)
     | fail "no arm")
    go_ret2
    exact ⟨rfl, h9.out⟩
   ·rw [hv] at c0
    have HC : Hid (Calls Tryz.prog 253 #[.pointer (some ⟨B, 0, none⟩)] w fun e w' => e = .returned (.tuple #[.int .i64 (d.bud.due s), .bool d.bud.has]) ∧ Below w.heap.size w w') := Lib.hid (hc w A hA)
    clear h hA hR hAS c hv hc
    go_enter Tryz.func73, Tryz.ntmps73
    go_wp2_with (first
     | (go_at_call 100; refine HB.out.mono ?_; rintro e w3 ⟨rfl, hw3⟩; rw [hw3]; clear hw3)
     | (go_at_call 253; refine Calls.mono HC.out ?_; rintro e w9 ⟨rfl, hb9⟩; have h9 := Lib.hid hb9; clear hb9)
     | fail "no arm")
    go_ret2
    exact ⟨rfl, h9.out⟩
end Go.Proofs.YtchbehnkkcjdgaaGreat
namespace Go.Proofs.YtchbehnkkcjdgaaGreat
open Go.ChangeShapes Go.WideShapes Go.ChangeAt Go.RowKit
set_option linter.unusedVariables false
set_option linter.unusedSimpArgs false
/-- The number of who was served, or 0. -/
def Dk.served (d : Dk) : Int := if d.ends = true then d.first else 0
/-- What take leaves. -/
def TookAt (B R : Nat) (s : Sv) (st work : Int) (d : Dk) (G o : Nat) (S : Nat → Prop) (w w' : World) : Prop := ∃ S' w1, DskAt B R s st (d.take work) w1 S' ∧ GrowS S S' w w1 ∧ (d.room = true → w' = w1.setCell ⟨G, o + 2, none⟩ (.int .i64 (d.take work).taken)) ∧ (d.room = false → w' = w1)
set_option maxRecDepth 100000 in
set_option maxHeartbeats 8000000 in
theorem dsktake_any (w : World) (G o B R : Nat) (s : Sv) (st work : Int) (d : Dk) (S : Nat → Prop) (h : DskAt B R s st d w S) (c : DskC w G o B R d) (hG : ¬ S G) (hd : d.Ok) :
 Calls Tryz.prog 66 #[.pointer (some ⟨G, o, none⟩), .int .i64 work] w fun e w' => e = .returned (.bool d.room) ∧ TookAt B R s st work d G o S w w' := by
 obtain ⟨A2, hR, hRS, hre⟩ := h.right (bud_own B s st d.bud)
 have c1 := c.c1
 have c2 := c.c2
 have htk : d.taken + 1 = d.first + d.q.length := by unfold Dk.taken; omega
 have hf0 := hd.f0
 have hf1 := hd.f1
 have e1 : IntKind.i64.wrap (d.taken + 1) = d.taken + 1 := IntWalk.i64_in _ (by omega)
 obtain ⟨tk, htk'⟩ : ∃ tk, tk = d.taken := ⟨_, rfl⟩
 rw [← htk'] at c2 e1 htk
 have HP : Hid (∀ W : World, Below w.heap.size w W → Calls Tryz.prog 118 #[.pointer (some ⟨R, 0, none⟩), .agg #[.int .i64 (tk + 1), .int .i64 work]] W fun e w' => e = .returned (.bool d.room) ∧ w'.cell? ⟨G, o + 1, none⟩ = some (.pointer (some ⟨R, 0, none⟩)) ∧ w'.cell? ⟨G, o + 2, none⟩ = some (.int .i64 tk) ∧ w'.frozen? ⟨G, o + 2, none⟩ = false ∧ ∃ S', DskAt B R s st (d.take work) w' S' ∧ GrowS S S' w w') := Lib.hid (fun W hW => (rq_push W R A2 _ (tk + 1) work ((rq_own R _).later hR hW)).mono (by
  rintro e w' ⟨S', rfl, q1, q2⟩
  rw [reqL_len] at q1 ⊢
  have hk := (q2.block G (Nat.lt_of_lt_of_le c.z hW.size) (fun h => hG (hRS G h))).trans (hW.block G c.z)
  have hc := c.same hk
  refine ⟨rfl, hc.c1, by rw [hc.c2, htk'], hc.fz, ?_⟩
  have e2 : reqL (d.take work).first (d.take work).q = if d.q.length < 8 then reqL d.first d.q ++ [⟨tk + 1, work⟩] else reqL d.first d.q := by
   unfold Dk.take Dk.room
   by_cases hl : d.q.length < 8
   ·rw [decide_eq_true hl, if_pos rfl, if_pos hl, htk]; exact reqL_snoc _ _ _
   ·rw [decide_eq_false hl, if_neg (by simp), if_neg hl]
  have e3 : (d.take work).bud = d.bud := by unfold Dk.take; split <;> rfl
  rw [← e2] at q1
  have := hre q1 ((GrowS.of_below hW).trans q2)
  unfold DskAt
  rw [e3]
  exact this))
 have K0 : Hid (∀ W : World, Below w.heap.size w W → W.cell? ⟨G, o + 1, none⟩ = some (.pointer (some ⟨R, 0, none⟩)) ∧ W.cell? ⟨G, o + 2, none⟩ = some (.int .i64 tk)) := Lib.hid (fun W hW => ⟨(c.later hW).c1, by rw [(c.later hW).c2, htk']⟩)
 have HT : Hid (d.room = true → (d.take work).taken = tk + 1) := Lib.hid (fun hr => by rw [htk]; unfold Dk.take; rw [if_pos hr]; unfold Dk.taken; simp; omega)
 obtain ⟨room, hroom⟩ : ∃ room, room = d.room := ⟨_, rfl⟩
 rw [← hroom] at HP ⊢
 have HRM := Lib.hid hroom.symm
 clear h hR hRS hre hd c hG hf0 hf1 htk htk' hroom
 go_enter Tryz.func66, Tryz.ntmps66
 go_wp2_with fail
 go_region_held3 (fun W => W.cell? ⟨G, o + 1, none⟩ = some (.pointer (some ⟨R, 0, none⟩)) ∧ W.cell? ⟨G, o + 2, none⟩ = some (.int .i64 tk))
  (first | exact K0.out _ (Below.refl _ _) | exact K0.out _ (Below.refl _ _).drew | exact k9.out | fail "no keep")
  (first
    | (go_at_call 118; refine (HP.out _ (Below.refl _ _).drew).mono ?_; rintro e w9 ⟨rfl, y1, y2, y3, S9, h9', g9'⟩; have h9 := Lib.hid h9'; have g9 := Lib.hid g9'; have k9 := Lib.hid (And.intro y1 y2); have fz9 := y3; clear h9' g9')
    | fail "no arm")
 cases room with
 | false =>
   go_wp2_with fail
   go_ret
   exact ⟨rfl, S9, w9, h9.out, g9.out, (fun h => by rw [HRM.out] at h; cases h), fun _ => rfl⟩
 | true =>
   go_wp2_with fail
   go_ret
   exact ⟨rfl, S9, w9, h9.out, g9.out, (fun _ => by rw [HT.out HRM.out]), fun h => by rw [HRM.out] at h; cases h⟩
set_option maxRecDepth 100000 in
set_option maxHeartbeats 8000000 in
theorem dskserve_any (w : World) (G o B R : Nat) (s : Sv) (st : Int) (d : Dk) (S : Nat → Prop) (h : DskAt B R s st d w S) (c : DskC w G o B R d) (hG : ¬ S G) (hd : d.Ok) (x : Int) (r : List Int) (hq : d.q = x :: r) :
 Calls Tryz.prog 106 #[.pointer (some ⟨G, o, none⟩)] w fun e w' => ∃ S', e = .returned (.tuple #[.int .i64 d.served, .bool d.ends]) ∧ DskAt B R s st (d.serve s) w' S' ∧ GrowS S S' w w' := by
 have c0 := c.c0
 have c1 := c.c1
 have hx := hd.head hq
 obtain ⟨y, hy⟩ : ∃ y, y = x - 1 := ⟨_, rfl⟩
 have hend : d.ends = decide (y ≤ 0) := by unfold Dk.ends; rw [hq, hy]; rfl
 obtain ⟨fs, hfs⟩ : ∃ fs, fs = d.first := ⟨_, rfl⟩
 have e1 : IntKind.i64.wrap (x - 1) = y := (IntWalk.i64_in _ (by omega)).trans hy.symm
 rcases meth_use B s st d.bud with ⟨hv, hm, hc⟩ | ⟨hv, hm, hc⟩
 ·have hv0 := hv
  have hmd : ∀ w, (method 427 221 (Value.pointer (some ⟨B, 0, none⟩)) "Done").run Tryz.prog w = .ok (268, Value.pointer (some ⟨B, 0, none⟩)) w := fun _ => by kernel_rfl
  rw [hv] at c0
  have HDN : Hid (∀ (W : World) (S1 : Nat → Prop), Star (BudAt B s st (d.bud.use s)) (Rq R []) W S1 → Calls Tryz.prog 268 #[.pointer (some ⟨B, 0, none⟩)] W fun e w' => e = .returned (.tuple #[]) ∧ ∃ S', Star (BudAt B s st ((d.bud.use s).done s)) (Rq R []) w' S' ∧ GrowS S1 S' W w') := Lib.hid (fun W S1 hW => by
   obtain ⟨A, hA, _, hre2⟩ := hW.left (rq_own R _)
   have hvd : budV B (d.bud.use s).isR = .iface 221 (.pointer (some ⟨B, 0, none⟩)) := by rw [← hv]; cases d.bud <;> rfl
   rcases meth_done B s st (d.bud.use s) with ⟨hv1, _, hc1⟩ | ⟨hv1, _, hc1⟩
   all_goals
    first
    | (refine (hc1 W A hA).mono ?_
       rintro e w' ⟨S', rfl, q1, q2⟩
       exact ⟨rfl, hre2 q1 q2⟩)
    | (rw [hvd] at hv1; cases hv1))
  obtain ⟨A, hA, hAS, hre⟩ := h.left (rq_own R _)
  have HU : Hid (Calls Tryz.prog 274 #[.pointer (some ⟨B, 0, none⟩)] w fun e w' => e = .returned (.bool d.bud.has) ∧ ∃ S', Star (BudAt B s st (d.bud.use s)) (Rq R (⟨fs, x⟩ :: reqL (fs + 1) r)) w' S' ∧ GrowS S S' w w') := Lib.hid ((hc w A hA).mono (by
   rintro e w' ⟨S', rfl, q1, q2⟩
   have := hre q1 q2
   rw [hq, ← hfs] at this
   exact ⟨rfl, this⟩))
  have HC := Lib.hid c
  have HGS := Lib.hid hG
  have HD : Hid (d.serve s = if d.ends = true then (if r = [] then ⟨(d.bud.use s).done s, [], fs + 1⟩ else ⟨d.bud.use s, r, fs + 1⟩) else ⟨d.bud.use s, y :: r, fs⟩) := Lib.hid (by unfold Dk.serve; rw [hq, ← hfs, hy]; rfl)
  have HFS := Lib.hid hfs
  clear h hA hAS hre hv hc hd c hG hfs hy
  go_enter Tryz.func106, Tryz.ntmps106
  go_upto_region 4 with (first
   | (go_at_call 148; have _z := h3; refine (HAT.out).mono ?_; rintro e w4 ⟨rfl, hb4⟩; have B4 := Lib.hid hb4; clear hb4)
   | (go_at_call 274; refine Calls.mono HU.out ?_; rintro e w3 ⟨rfl, S3, h3', g3'⟩
      have h3 := Lib.hid h3'; have g3 := Lib.hid g3'
      have HAT : Hid (Calls Tryz.prog 148 #[.pointer (some ⟨R, 0, none⟩), .int .i64 0] w3 fun e w' => e = .returned (.tuple #[.agg #[.int .i64 fs, .int .i64 x], .bool true]) ∧ Below w3.heap.size w3 w') := Lib.hid (by
       obtain ⟨A2, hR, _, _⟩ := h3'.right (bud_own B s st _)
       exact rq_at w3 R A2 ⟨fs, x⟩ _ hR)
      have k1 := (HC.out.same (g3'.block G HC.out.z HGS.out)).c1
      clear h3' g3')
   | fail "no arm")
  obtain ⟨E, hE⟩ : ∃ E, E = w4.heap.size := ⟨_, rfl⟩
  obtain ⟨V, hV⟩ : ∃ V, V = w4.alloc (.cells #[.int .i64 fs, .int .i64 y] 153) := ⟨_, rfl⟩
  have hbV : Below w3.heap.size w3 V := by rw [hV]; exact B4.out.trans ((below1 _ _).mono B4.out.size)
  have hEV : V.heap[E]? = some (.cells #[.int .i64 fs, .int .i64 y] 153 (0, 0)) := by rw [hV, hE]; exact heap_alloc_new _ _
  have hSt := star_own (bud_own B s st (d.bud.use s)) (rq_own R (⟨fs, x⟩ :: reqL (fs + 1) r))
  have hES : ¬ S3 E := fun hs => by have := hSt.lt h3.out E hs; have := B4.out.size; omega
  have hGE : G ≠ E := by have := HC.out.z; have := g3.out.size; have := B4.out.size; omega
  have HV4 := Lib.hid (hSt.later h3.out hbV)
  have GV := Lib.hid (g3.out.trans (GrowS.of_below hbV))
  have CV := Lib.hid ((HC.out.same (g3.out.block G HC.out.z HGS.out)).later hbV)
  have GSV : Hid (¬ S3 G) := Lib.hid (g3.out.not HC.out.z HGS.out)
  have HEV := Lib.hid hEV
  have HES := Lib.hid hES
  have HEE := Lib.hid hE
  have HVV := Lib.hid hV
  have r0 := cell_in (j := 0) hEV rfl
  have r1 := cell_in (j := 1) hEV rfl
  have k2 := CV.out.c1
  have k3 := CV.out.c0
  rw [hv0] at k3
  rw [← hV, ← hE]
  clear hV hE hbV hEV hSt hES k1
  by_cases hz : 0 < y
  ·have t0 : decide (0 < y) = true := decide_eq_true hz
   have HF : Hid (d.ends = false) := Lib.hid (by rw [hend]; exact decide_eq_false (by omega))
   have HSV : Hid (d.served = 0) := Lib.hid (by unfold Dk.served; rw [HF.out]; rfl)
   have K0 : Hid (∀ W : World, Below V.heap.size V W → W.cell? ⟨G, o + 1, none⟩ = some (.pointer (some ⟨R, 0, none⟩)) ∧ W.cell? ⟨E, 0, none⟩ = some (.int .i64 fs) ∧ W.cell? ⟨E, 1, none⟩ = some (.int .i64 y)) := Lib.hid (fun W hW => ⟨(CV.out.later hW).c1, (World.cell?_of_block (hW.block E (lt_of_block HEV.out))).trans r0, (World.cell?_of_block (hW.block E (lt_of_block HEV.out))).trans r1⟩)
   have HS : Hid (∀ W : World, Below V.heap.size V W → Calls Tryz.prog 149 #[.pointer (some ⟨R, 0, none⟩), .int .i64 0, .agg #[.int .i64 fs, .int .i64 y]] W fun e w' => e = .returned (.bool true) ∧ (w'.cell? ⟨G, o + 1, none⟩ = some (.pointer (some ⟨R, 0, none⟩)) ∧ w'.cell? ⟨E, 0, none⟩ = some (.int .i64 fs) ∧ w'.cell? ⟨E, 1, none⟩ = some (.int .i64 y)) ∧ ∃ S', Star (BudAt B s st (d.bud.use s)) (Rq R (⟨fs, y⟩ :: reqL (fs + 1) r)) w' S' ∧ GrowS S S' w w') := Lib.hid (fun W hW => by
    obtain ⟨A2, hR, hRS, hre⟩ := ((star_own (bud_own B s st (d.bud.use s)) (rq_own R (⟨fs, x⟩ :: reqL (fs + 1) r))).later HV4.out hW).right (bud_own B s st _)
    refine (rq_set W R A2 ⟨fs, x⟩ _ hR fs y).mono ?_
    rintro e w' ⟨rfl, q1, q2⟩
    obtain ⟨S', q3, q4⟩ := hre q1 q2
    have hWG := (q2.block G (by have := CV.out.z; have := hW.size; omega) (fun h => GSV.out (hRS G h)))
    have hWE := (q2.block E (by have := lt_of_block HEV.out; have := hW.size; omega) (fun h => HES.out (hRS E h)))
    have kk := K0.out W hW
    exact ⟨rfl, ⟨(World.cell?_of_block hWG).trans kk.1, (World.cell?_of_block hWE).trans kk.2.1, (World.cell?_of_block hWE).trans kk.2.2⟩, S', q3, (GV.out.trans (GrowS.of_below hW)).trans q4⟩)
   clear hz hend
   go_wp2_with fail
   go_region_held3 (fun W => W.cell? ⟨G, o + 1, none⟩ = some (.pointer (some ⟨R, 0, none⟩)) ∧ W.cell? ⟨E, 0, none⟩ = some (.int .i64 fs) ∧ W.cell? ⟨E, 1, none⟩ = some (.int .i64 y))
    (first | exact K0.out _ (Below.refl _ _) | exact K0.out _ (Below.refl _ _).drew | exact k9.out | fail "no keep")
    (first
      | (go_at_call 149; refine (HS.out _ (Below.refl _ _).drew).mono ?_; rintro e w9 ⟨rfl, k9', S9, h9', g9'⟩; have h9 := Lib.hid h9'; have g9 := Lib.hid g9'; have k9 := Lib.hid k9'; clear h9' g9' k9')
      | fail "no arm")
   go_wp2_with fail
   go_ret2
   rw [HSV.out, HF.out, HD.out]
   simp only [HF.out, if_true, if_false, Bool.false_eq_true, reduceIte, reduceCtorEq]
   first | exact ⟨rfl, S9, h9.out, g9.out⟩ | exact ⟨S9, rfl, h9.out, g9.out⟩
  ·have t0 : decide (0 < y) = false := decide_eq_false hz
   have HF : Hid (d.ends = true) := Lib.hid (by rw [hend]; exact decide_eq_true (by omega))
   have HSV : Hid (d.served = fs) := Lib.hid (by unfold Dk.served; rw [HF.out, HFS.out]; rfl)
   have HP : Hid (Calls Tryz.prog 150 #[.pointer (some ⟨R, 0, none⟩)] V fun e w' => e = .returned (.tuple #[.agg #[.int .i64 fs, .int .i64 x], .bool true]) ∧ DskC w' G o B R d ∧ w'.cell? ⟨E, 0, none⟩ = some (.int .i64 fs) ∧ ∃ S', Star (BudAt B s st (d.bud.use s)) (Rq R (reqL (fs + 1) r)) w' S' ∧ GrowS S S' w w' ∧ ¬ S' G ∧ ¬ S' E ∧ E < w'.heap.size) := Lib.hid (by
    obtain ⟨A2, hR, hRS, hre⟩ := HV4.out.right (bud_own B s st _)
    refine (rq_pop V R A2 ⟨fs, x⟩ _ hR).mono ?_
    rintro e w' ⟨rfl, q1, q2⟩
    obtain ⟨S', q3, q4⟩ := hre q1 q2
    have hWG := (q2.block G CV.out.z (fun h => GSV.out (hRS G h)))
    have hWE := (q2.block E (lt_of_block HEV.out) (fun h => HES.out (hRS E h)))
    exact ⟨rfl, CV.out.same hWG, (World.cell?_of_block hWE).trans r0, S', q3, GV.out.trans q4, q4.not CV.out.z GSV.out, q4.not (lt_of_block HEV.out) HES.out, Nat.lt_of_lt_of_le (lt_of_block HEV.out) q2.size⟩)
   have HBU : Hid (∀ (W : World) (S1 : Nat → Prop), DskC W G o B R d → Star (BudAt B s st (d.bud.use s)) (Rq R (reqL (fs + 1) r)) W S1 → Calls Tryz.prog 100 #[.pointer (some ⟨G, o, none⟩)] W fun e w' => e = .returned (.bool (decide (0 < r.length))) ∧ w' = W) := Lib.hid (fun W S1 hc' hW => by
    obtain ⟨A2, hR, _, _⟩ := hW.right (bud_own B s st _)
    have := dbusy_any W G o R A2 _ hR hc'.c1
    rw [reqL_len] at this
    exact this)
   clear hz hend
   cases r with
   | nil =>
     have hlr : decide (0 < ([] : List Int).length) = false := by simp
     go_wp2_with (first
      | (go_at_call 268; have _z := h5; refine Calls.mono (HDN.out _ _ h5.out) ?_; rintro e w7 ⟨rfl, S7, h7', g7'⟩
         have h7 := Lib.hid h7'; have g7 := Lib.hid (g5.out.trans g7')
         have y2 : w7.cell? ⟨E, 0, none⟩ = some (.int .i64 fs) := (World.cell?_of_block (g7'.block E n5.out.2.2 n5.out.2.1)).trans y1
         clear h7' g7')
      | (go_at_call 100; have _z := h5; refine (HBU.out _ _ c5.out h5.out).mono ?_; rintro e w6 ⟨rfl, hw6⟩; rw [hw6, hlr]; clear hw6)
      | (go_at_call 150; refine HP.out.mono ?_; rintro e w5 ⟨rfl, c5', y1, S5, h5', g5', n5'⟩
         have h5 := Lib.hid h5'; have g5 := Lib.hid g5'; have c5 := Lib.hid c5'; have n5 := Lib.hid n5'
         have y0 := c5'.c0
         rw [hv0] at y0
         have y3 := c5'.c1
         clear h5' g5' c5' n5')
      | fail "no arm")
     go_ret2
     rw [HSV.out, HF.out, HD.out]
     simp only [HF.out, if_true, if_false, Bool.false_eq_true, reduceIte, reduceCtorEq]
     first | exact ⟨rfl, S7, h7.out, g7.out⟩ | exact ⟨S7, rfl, h7.out, g7.out⟩
   | cons z rr =>
     have hlr : decide (0 < (z :: rr).length) = true := by simp
     go_wp2_with (first
      | (go_at_call 100; have _z := h5; refine (HBU.out _ _ c5.out h5.out).mono ?_; rintro e w6 ⟨rfl, hw6⟩; rw [hw6, hlr]; clear hw6)
      | (go_at_call 150; refine HP.out.mono ?_; rintro e w5 ⟨rfl, c5', y1, S5, h5', g5', n5'⟩
         have h5 := Lib.hid h5'; have g5 := Lib.hid g5'; have c5 := Lib.hid c5'; have n5 := Lib.hid n5'
         have y0 := c5'.c0
         rw [hv0] at y0
         have y3 := c5'.c1
         clear h5' g5' c5' n5')
      | fail "no arm")
     go_ret2
     rw [HSV.out, HF.out, HD.out]
     simp only [HF.out, if_true, if_false, Bool.false_eq_true, reduceIte, reduceCtorEq]
     first | exact ⟨rfl, S5, h5.out, g5.out⟩ | exact ⟨S5, rfl, h5.out, g5.out⟩
 ·have hv0 := hv
  have hmd : ∀ w, (method 427 219 (Value.pointer (some ⟨B, 0, none⟩)) "Done").run Tryz.prog w = .ok (252, Value.pointer (some ⟨B, 0, none⟩)) w := fun _ => by kernel_rfl
  rw [hv] at c0
  have HDN : Hid (∀ (W : World) (S1 : Nat → Prop), Star (BudAt B s st (d.bud.use s)) (Rq R []) W S1 → Calls Tryz.prog 252 #[.pointer (some ⟨B, 0, none⟩)] W fun e w' => e = .returned (.tuple #[]) ∧ ∃ S', Star (BudAt B s st ((d.bud.use s).done s)) (Rq R []) w' S' ∧ GrowS S1 S' W w') := Lib.hid (fun W S1 hW => by
   obtain ⟨A, hA, _, hre2⟩ := hW.left (rq_own R _)
   have hvd : budV B (d.bud.use s).isR = .iface 219 (.pointer (some ⟨B, 0, none⟩)) := by rw [← hv]; cases d.bud <;> rfl
   rcases meth_done B s st (d.bud.use s) with ⟨hv1, _, hc1⟩ | ⟨hv1, _, hc1⟩
   all_goals
    first
    | (refine (hc1 W A hA).mono ?_
       rintro e w' ⟨S', rfl, q1, q2⟩
       exact ⟨rfl, hre2 q1 q2⟩)
    | (rw [hvd] at hv1; cases hv1))
  obtain ⟨A, hA, hAS, hre⟩ := h.left (rq_own R _)
  have HU : Hid (Calls Tryz.prog 258 #[.pointer (some ⟨B, 0, none⟩)] w fun e w' => e = .returned (.bool d.bud.has) ∧ ∃ S', Star (BudAt B s st (d.bud.use s)) (Rq R (⟨fs, x⟩ :: reqL (fs + 1) r)) w' S' ∧ GrowS S S' w w') := Lib.hid ((hc w A hA).mono (by
   rintro e w' ⟨S', rfl, q1, q2⟩
   have := hre q1 q2
   rw [hq, ← hfs] at this
   exact ⟨rfl, this⟩))
  have HC := Lib.hid c
  have HGS := Lib.hid hG
  have HD : Hid (d.serve s = if d.ends = true then (if r = [] then ⟨(d.bud.use s).done s, [], fs + 1⟩ else ⟨d.bud.use s, r, fs + 1⟩) else ⟨d.bud.use s, y :: r, fs⟩) := Lib.hid (by unfold Dk.serve; rw [hq, ← hfs, hy]; rfl)
  have HFS := Lib.hid hfs
  clear h hA hAS hre hv hc hd c hG hfs hy
  go_enter Tryz.func106, Tryz.ntmps106
  go_upto_region 4 with (first
   | (go_at_call 148; have _z := h3; refine (HAT.out).mono ?_; rintro e w4 ⟨rfl, hb4⟩; have B4 := Lib.hid hb4; clear hb4)
   | (go_at_call 258; refine Calls.mono HU.out ?_; rintro e w3 ⟨rfl, S3, h3', g3'⟩
      have h3 := Lib.hid h3'; have g3 := Lib.hid g3'
      have HAT : Hid (Calls Tryz.prog 148 #[.pointer (some ⟨R, 0, none⟩), .int .i64 0] w3 fun e w' => e = .returned (.tuple #[.agg #[.int .i64 fs, .int .i64 x], .bool true]) ∧ Below w3.heap.size w3 w') := Lib.hid (by
       obtain ⟨A2, hR, _, _⟩ := h3'.right (bud_own B s st _)
       exact rq_at w3 R A2 ⟨fs, x⟩ _ hR)
      have k1 := (HC.out.same (g3'.block G HC.out.z HGS.out)).c1
      clear h3' g3')
   | fail "no arm")
  obtain ⟨E, hE⟩ : ∃ E, E = w4.heap.size := ⟨_, rfl⟩
  obtain ⟨V, hV⟩ : ∃ V, V = w4.alloc (.cells #[.int .i64 fs, .int .i64 y] 153) := ⟨_, rfl⟩
  have hbV : Below w3.heap.size w3 V := by rw [hV]; exact B4.out.trans ((below1 _ _).mono B4.out.size)
  have hEV : V.heap[E]? = some (.cells #[.int .i64 fs, .int .i64 y] 153 (0, 0)) := by rw [hV, hE]; exact heap_alloc_new _ _
  have hSt := star_own (bud_own B s st (d.bud.use s)) (rq_own R (⟨fs, x⟩ :: reqL (fs + 1) r))
  have hES : ¬ S3 E := fun hs => by have := hSt.lt h3.out E hs; have := B4.out.size; omega
  have hGE : G ≠ E := by have := HC.out.z; have := g3.out.size; have := B4.out.size; omega
  have HV4 := Lib.hid (hSt.later h3.out hbV)
  have GV := Lib.hid (g3.out.trans (GrowS.of_below hbV))
  have CV := Lib.hid ((HC.out.same (g3.out.block G HC.out.z HGS.out)).later hbV)
  have GSV : Hid (¬ S3 G) := Lib.hid (g3.out.not HC.out.z HGS.out)
  have HEV := Lib.hid hEV
  have HES := Lib.hid hES
  have HEE := Lib.hid hE
  have HVV := Lib.hid hV
  have r0 := cell_in (j := 0) hEV rfl
  have r1 := cell_in (j := 1) hEV rfl
  have k2 := CV.out.c1
  have k3 := CV.out.c0
  rw [hv0] at k3
  rw [← hV, ← hE]
  clear hV hE hbV hEV hSt hES k1
  by_cases hz : 0 < y
  ·have t0 : decide (0 < y) = true := decide_eq_true hz
   have HF : Hid (d.ends = false) := Lib.hid (by rw [hend]; exact decide_eq_false (by omega))
   have HSV : Hid (d.served = 0) := Lib.hid (by unfold Dk.served; rw [HF.out]; rfl)
   have K0 : Hid (∀ W : World, Below V.heap.size V W → W.cell? ⟨G, o + 1, none⟩ = some (.pointer (some ⟨R, 0, none⟩)) ∧ W.cell? ⟨E, 0, none⟩ = some (.int .i64 fs) ∧ W.cell? ⟨E, 1, none⟩ = some (.int .i64 y)) := Lib.hid (fun W hW => ⟨(CV.out.later hW).c1, (World.cell?_of_block (hW.block E (lt_of_block HEV.out))).trans r0, (World.cell?_of_block (hW.block E (lt_of_block HEV.out))).trans r1⟩)
   have HS : Hid (∀ W : World, Below V.heap.size V W → Calls Tryz.prog 149 #[.pointer (some ⟨R, 0, none⟩), .int .i64 0, .agg #[.int .i64 fs, .int .i64 y]] W fun e w' => e = .returned (.bool true) ∧ (w'.cell? ⟨G, o + 1, none⟩ = some (.pointer (some ⟨R, 0, none⟩)) ∧ w'.cell? ⟨E, 0, none⟩ = some (.int .i64 fs) ∧ w'.cell? ⟨E, 1, none⟩ = some (.int .i64 y)) ∧ ∃ S', Star (BudAt B s st (d.bud.use s)) (Rq R (⟨fs, y⟩ :: reqL (fs + 1) r)) w' S' ∧ GrowS S S' w w') := Lib.hid (fun W hW => by
    obtain ⟨A2, hR, hRS, hre⟩ := ((star_own (bud_own B s st (d.bud.use s)) (rq_own R (⟨fs, x⟩ :: reqL (fs + 1) r))).later HV4.out hW).right (bud_own B s st _)
    refine (rq_set W R A2 ⟨fs, x⟩ _ hR fs y).mono ?_
    rintro e w' ⟨rfl, q1, q2⟩
    obtain ⟨S', q3, q4⟩ := hre q1 q2
    have hWG := (q2.block G (by have := CV.out.z; have := hW.size; omega) (fun h => GSV.out (hRS G h)))
    have hWE := (q2.block E (by have := lt_of_block HEV.out; have := hW.size; omega) (fun h => HES.out (hRS E h)))
    have kk := K0.out W hW
    exact ⟨rfl, ⟨(World.cell?_of_block hWG).trans kk.1, (World.cell?_of_block hWE).trans kk.2.1, (World.cell?_of_block hWE).trans kk.2.2⟩, S', q3, (GV.out.trans (GrowS.of_below hW)).trans q4⟩)
   clear hz hend
   go_wp2_with fail
   go_region_held3 (fun W => W.cell? ⟨G, o + 1, none⟩ = some (.pointer (some ⟨R, 0, none⟩)) ∧ W.cell? ⟨E, 0, none⟩ = some (.int .i64 fs) ∧ W.cell? ⟨E, 1, none⟩ = some (.int .i64 y))
    (first | exact K0.out _ (Below.refl _ _) | exact K0.out _ (Below.refl _ _).drew | exact k9.out | fail "no keep")
    (first
      | (go_at_call 149; refine (HS.out _ (Below.refl _ _).drew).mono ?_; rintro e w9 ⟨rfl, k9', S9, h9', g9'⟩; have h9 := Lib.hid h9'; have g9 := Lib.hid g9'; have k9 := Lib.hid k9'; clear h9' g9' k9')
      | fail "no arm")
   go_wp2_with fail
   go_ret2
   rw [HSV.out, HF.out, HD.out]
   simp only [HF.out, if_true, if_false, Bool.false_eq_true, reduceIte, reduceCtorEq]
   first | exact ⟨rfl, S9, h9.out, g9.out⟩ | exact ⟨S9, rfl, h9.out, g9.out⟩
  ·have t0 : decide (0 < y) = false := decide_eq_false hz
   have HF : Hid (d.ends = true) := Lib.hid (by rw [hend]; exact decide_eq_true (by omega))
   have HSV : Hid (d.served = fs) := Lib.hid (by unfold Dk.served; rw [HF.out, HFS.out]; rfl)
   have HP : Hid (Calls Tryz.prog 150 #[.pointer (some ⟨R, 0, none⟩)] V fun e w' => e = .returned (.tuple #[.agg #[.int .i64 fs, .int .i64 x], .bool true]) ∧ DskC w' G o B R d ∧ w'.cell? ⟨E, 0, none⟩ = some (.int .i64 fs) ∧ ∃ S', Star (BudAt B s st (d.bud.use s)) (Rq R (reqL (fs + 1) r)) w' S' ∧ GrowS S S' w w' ∧ ¬ S' G ∧ ¬ S' E ∧ E < w'.heap.size) := Lib.hid (by
    obtain ⟨A2, hR, hRS, hre⟩ := HV4.out.right (bud_own B s st _)
    refine (rq_pop V R A2 ⟨fs, x⟩ _ hR).mono ?_
    rintro e w' ⟨rfl, q1, q2⟩
    obtain ⟨S', q3, q4⟩ := hre q1 q2
    have hWG := (q2.block G CV.out.z (fun h => GSV.out (hRS G h)))
    have hWE := (q2.block E (lt_of_block HEV.out) (fun h => HES.out (hRS E h)))
    exact ⟨rfl, CV.out.same hWG, (World.cell?_of_block hWE).trans r0, S', q3, GV.out.trans q4, q4.not CV.out.z GSV.out, q4.not (lt_of_block HEV.out) HES.out, Nat.lt_of_lt_of_le (lt_of_block HEV.out) q2.size⟩)
   have HBU : Hid (∀ (W : World) (S1 : Nat → Prop), DskC W G o B R d → Star (BudAt B s st (d.bud.use s)) (Rq R (reqL (fs + 1) r)) W S1 → Calls Tryz.prog 100 #[.pointer (some ⟨G, o, none⟩)] W fun e w' => e = .returned (.bool (decide (0 < r.length))) ∧ w' = W) := Lib.hid (fun W S1 hc' hW => by
    obtain ⟨A2, hR, _, _⟩ := hW.right (bud_own B s st _)
    have := dbusy_any W G o R A2 _ hR hc'.c1
    rw [reqL_len] at this
    exact this)
   clear hz hend
   cases r with
   | nil =>
     have hlr : decide (0 < ([] : List Int).length) = false := by simp
     go_wp2_with (first
      | (go_at_call 252; have _z := h5; refine Calls.mono (HDN.out _ _ h5.out) ?_; rintro e w7 ⟨rfl, S7, h7', g7'⟩
         have h7 := Lib.hid h7'; have g7 := Lib.hid (g5.out.trans g7')
         have y2 : w7.cell? ⟨E, 0, none⟩ = some (.int .i64 fs) := (World.cell?_of_block (g7'.block E n5.out.2.2 n5.out.2.1)).trans y1
         clear h7' g7')
      | (go_at_call 100; have _z := h5; refine (HBU.out _ _ c5.out h5.out).mono ?_; rintro e w6 ⟨rfl, hw6⟩; rw [hw6, hlr]; clear hw6)
      | (go_at_call 150; refine HP.out.mono ?_; rintro e w5 ⟨rfl, c5', y1, S5, h5', g5', n5'⟩
         have h5 := Lib.hid h5'; have g5 := Lib.hid g5'; have c5 := Lib.hid c5'; have n5 := Lib.hid n5'
         have y0 := c5'.c0
         rw [hv0] at y0
         have y3 := c5'.c1
         clear h5' g5' c5' n5')
      | fail "no arm")
     go_ret2
     rw [HSV.out, HF.out, HD.out]
     simp only [HF.out, if_true, if_false, Bool.false_eq_true, reduceIte, reduceCtorEq]
     first | exact ⟨rfl, S7, h7.out, g7.out⟩ | exact ⟨S7, rfl, h7.out, g7.out⟩
   | cons z rr =>
     have hlr : decide (0 < (z :: rr).length) = true := by simp
     go_wp2_with (first
      | (go_at_call 100; have _z := h5; refine (HBU.out _ _ c5.out h5.out).mono ?_; rintro e w6 ⟨rfl, hw6⟩; rw [hw6, hlr]; clear hw6)
      | (go_at_call 150; refine HP.out.mono ?_; rintro e w5 ⟨rfl, c5', y1, S5, h5', g5', n5'⟩
         have h5 := Lib.hid h5'; have g5 := Lib.hid g5'; have c5 := Lib.hid c5'; have n5 := Lib.hid n5'
         have y0 := c5'.c0
         rw [hv0] at y0
         have y3 := c5'.c1
         clear h5' g5' c5' n5')
      | fail "no arm")
     go_ret2
     rw [HSV.out, HF.out, HD.out]
     simp only [HF.out, if_true, if_false, Bool.false_eq_true, reduceIte, reduceCtorEq]
     first | exact ⟨rfl, S5, h5.out, g5.out⟩ | exact ⟨S5, rfl, h5.out, g5.out⟩
end Go.Proofs.YtchbehnkkcjdgaaGreat
