/- Plain facts of a partition, tick by tick. An event is a Wn (kind, a, b). -/
import Derived.Test.YtchbehnkkcjdgaaGreatChunkM
import Derived.Test.YtchbehnkkcjdgaaGreatRefillM
import Derived.Test.YtchbehnkkcjdgaaGreatTaskM
namespace Go.Proofs.YtchbehnkkcjdgaaGreat
open Go.ChangeShapes Go.WideShapes Go.ChangeAt Go.RowKit
set_option linter.unusedVariables false

/-- A budget, of one kind or the other. -/
inductive Bud where
  | c (b : Bd)
  | r (b : Rd)
def Bud.go (s : Sv) (st now : Int) (busy : Bool) : Bud → Bud
  | .c b => .c (goB b now busy)
  | .r b => .r (rGo s.c s.t st b now busy)
def Bud.use (s : Sv) : Bud → Bud
  | .c b => .c (useB s.t b)
  | .r b => .r (rUse b)
def Bud.done (s : Sv) : Bud → Bud
  | .c b => .c (doneB s.t b)
  | .r b => .r (rDone b)
def Bud.stop (s : Sv) : Bud → Bud
  | .c b => .c (stopB (doneB s.t b) true)
  | .r b => .r (rStop (rDone b) true)
def Bud.resume : Bud → Bud
  | .c b => .c (stopB b false)
  | .r b => .r (rStop b false)
def Bud.reset (s : Sv) : Bud → Bud
  | .c b => .c (resetB s.c)
  | .r b => .r (rReset s.c b)
def Bud.due (s : Sv) : Bud → Int
  | .c b => dueV s.t b
  | .r b => rDue s.t b
def Bud.has : Bud → Bool
  | .c b => useOk b
  | .r b => rUseOk b
def Bud.new (s : Sv) (st : Int) : Bud := if s.re = true then .r ⟨st, s.c, [], false⟩ else .c (resetB s.c)
/-- Which kind. -/
def Bud.isR : Bud → Bool
  | .c _ => false
  | .r _ => true
/-- When it went last, at the latest. -/
def Bud.by_ (now : Int) : Bud → Prop
  | .c _ => True
  | .r b => b.now ≤ now
/-- A desk: its budget; what is left of each request; the number of the first one. -/
structure Dk where
  bud : Bud
  q : List Int
  first : Int
def Dk.busy (d : Dk) : Bool := decide (0 < d.q.length)
def Dk.taken (d : Dk) : Int := d.first + d.q.length - 1
def Dk.room (d : Dk) : Bool := decide (d.q.length < 8)
def Dk.take (work : Int) (d : Dk) : Dk := if d.room = true then ⟨d.bud, d.q ++ [work], d.first⟩ else d
def Dk.go (s : Sv) (st now : Int) (d : Dk) : Dk := ⟨d.bud.go s st now d.busy, d.q, d.first⟩
def Dk.dueOk (d : Dk) : Bool := d.busy && d.bud.has
def Dk.dueV (s : Sv) (d : Dk) : Int := if d.busy = true then d.bud.due s else 0
def Dk.stop (s : Sv) (d : Dk) : Dk := ⟨d.bud.stop s, d.q, d.first⟩
def Dk.resume (d : Dk) : Dk := ⟨d.bud.resume, d.q, d.first⟩
def Dk.empty (s : Sv) (d : Dk) : Dk := ⟨d.bud.reset s, [], d.first + d.q.length⟩
def Dk.new (s : Sv) (st : Int) : Dk := ⟨Bud.new s st, [], 1⟩
/-- A tick of it: is the first request done; what is left. -/
def Dk.ends (d : Dk) : Bool := decide (d.q.headD 1 - 1 ≤ 0)
def Dk.serve (s : Sv) (d : Dk) : Dk :=
  if d.ends = true then (if d.q.tail = [] then ⟨(d.bud.use s).done s, [], d.first + 1⟩ else ⟨d.bud.use s, d.q.tail, d.first + 1⟩)
  else ⟨d.bud.use s, (d.q.headD 1 - 1) :: d.q.tail, d.first⟩
structure Dk.Ok (d : Dk) : Prop where
  len : d.q.length ≤ 8
  bd : ∀ x ∈ d.q, 1 ≤ x ∧ x ≤ 1048576
  f0 : 1 ≤ d.first
  f1 : d.first + d.q.length ≤ 2199023255552
def svAt (ss : List Sv) (i : Nat) : Sv := ss.getD i ⟨false, 0, 0⟩
theorem svAt_eq {ss : List Sv} {i : Nat} (h : i < ss.length) : svAt ss i = ss[i] := by unfold svAt; rw [List.getD_eq_getElem?_getD, List.getElem?_eq_getElem h]; rfl
theorem Dk.Ok.new (s : Sv) (st : Int) : (Dk.new s st).Ok := ⟨by simp [Dk.new], by simp [Dk.new], by simp [Dk.new], by simp [Dk.new]⟩
theorem Dk.Ok.same {d d' : Dk} (h : d.Ok) (h1 : d'.q = d.q) (h2 : d'.first = d.first) : d'.Ok := ⟨by rw [h1]; exact h.len, by rw [h1]; exact h.bd, by rw [h2]; exact h.f0, by rw [h1, h2]; exact h.f1⟩
theorem Dk.Ok.empty {d : Dk} (h : d.Ok) (s : Sv) : (d.empty s).Ok := ⟨by simp [Dk.empty], by simp [Dk.empty], by have := h.f0; simp only [Dk.empty]; omega, by have := h.f1; simp only [Dk.empty, List.length_nil]; omega⟩
theorem Dk.Ok.take {d : Dk} (h : d.Ok) {work : Int} (h1 : 1 ≤ work ∧ work ≤ 1048576) (h2 : d.first + d.q.length < 2199023255552) : (d.take work).Ok := by
  unfold Dk.take
  split
  · rename_i hr
    simp only [Dk.room, decide_eq_true_eq] at hr
    exact ⟨by simp; omega, fun x hx => by
      rcases List.mem_append.1 hx with h3 | h3
      · exact h.bd x h3
      · rw [List.mem_singleton.1 h3]; exact h1, h.f0, by simp only [List.length_append, List.length_cons, List.length_nil]; omega⟩
  · exact h
theorem Dk.Ok.serve {d : Dk} (h : d.Ok) (s : Sv) (hb : d.busy = true) : (d.serve s).Ok := by
  obtain ⟨bud, q, first⟩ := d
  obtain ⟨h1, h2, h3, h4⟩ := h
  simp only [Dk.busy, decide_eq_true_eq] at hb
  cases q with
  | nil => simp at hb
  | cons x r =>
    have hx := h2 x List.mem_cons_self
    simp only [List.length_cons] at h1 h4
    replace h3 : 1 ≤ first := h3
    replace h4 : first + ((r.length + 1 : Nat) : Int) ≤ 2199023255552 := h4
    unfold Dk.serve
    split
    · split
      · exact ⟨by simp, by simp, by show 1 ≤ first + 1; omega, by show first + 1 + ((0 : Nat) : Int) ≤ _; omega⟩
      · exact ⟨by simp only [List.tail_cons]; omega, fun y hy => h2 y (List.mem_cons_of_mem _ (by simpa using hy)), by show 1 ≤ first + 1; omega, by show first + 1 + (r.length : Int) ≤ _; omega⟩
    · rename_i he
      have he : 0 < x - 1 := by simpa [Dk.ends] using he
      refine ⟨by simp only [List.tail_cons, List.length_cons]; omega, fun y hy => ?_, h3, by show first + ((r.length + 1 : Nat) : Int) ≤ _; omega⟩
      simp only [List.headD_cons, List.tail_cons] at hy
      rcases List.mem_cons.1 hy with e | hy
      · omega
      · exact h2 y (List.mem_cons_of_mem _ hy)
/-- A partition: when each task's job came last; the mode; the jobs; the desks; is it up. -/
structure Px where
  la : List Int
  hi : Bool
  js : Js
  ds : Nat → Dk
  up : Bool
def evK (k : Int) (l : List Int) : List Wn := l.map fun t => ⟨k, t, 0⟩
def newPx (ts : List Tk) (ss : List Sv) (st : Int) : Px := ⟨List.replicate ts.length (-1), false, fun _ => none, fun i => Dk.new (svAt ss i) st, true⟩
/-- Arrive. -/
def arrE (ts : List Tk) (x : Px) (now t work done : Int) (n : Nat) : Int :=
  if x.up = true then (if errP ts x.la x.hi t now = 0 then errT ts x.hi x.js t now work done n else errP ts x.la x.hi t now) else 41
def arrX (ts : List Tk) (x : Px) (now t work done : Int) (ops : List Wn) : Px :=
  if arrE ts x now t work done ops.length = 0 then ⟨takL ts x.la x.hi t now, x.hi, putT ts x.hi x.js t now work done ops, x.ds, x.up⟩ else x
/-- Request. -/
def hasS (n : Nat) (s : Int) : Bool := decide (0 ≤ s) && decide (s < (n : Int))
def workOk (work : Int) : Bool := decide (1 ≤ work) && decide (work ≤ 1048576)
def reqE (ss : List Sv) (x : Px) (s work : Int) : Int :=
  if x.up = true then (if hasS ss.length s && workOk work then (if (x.ds s.toNat).room = true then 0 else 5) else 1) else 41
def updD (ds : Nat → Dk) (i : Nat) (d : Dk) : Nat → Dk := fun j => if j = i then d else ds j
def reqX (ss : List Sv) (x : Px) (s work : Int) : Px :=
  if reqE ss x s work = 0 then ⟨x.la, x.hi, x.js, updD x.ds s.toNat ((x.ds s.toNat).take work), x.up⟩ else x
/-- Settle, rise. -/
def setE (ts : List Tk) (x : Px) : List Wn := if falV ts x.hi x.js = true then [⟨5, 0, 0⟩] else []
def setX (ts : List Tk) (x : Px) : Px := if falV ts x.hi x.js = true then ⟨x.la, false, x.js, fun i => (x.ds i).resume, x.up⟩ else x
def risE (ts : List Tk) (x : Px) : List Wn := evK 4 (riseL ts x.js) ++ [⟨3, 0, 0⟩]
def risX (ts : List Tk) (ss : List Sv) (x : Px) : Px := ⟨x.la, true, riseT ts x.js, fun i => (x.ds i).stop (svAt ss i), x.up⟩
/-- Begin. -/
def misX (ts : List Tk) (x : Px) (now : Int) : Px := ⟨x.la, x.hi, misT ts x.js now, x.ds, x.up⟩
def begE (ts : List Tk) (x : Px) (now : Int) : List Wn := if x.up = true then evK 2 (misL ts x.js now) ++ setE ts (misX ts x now) else []
def goX (ss : List Sv) (st now : Int) (x : Px) : Px := ⟨x.la, x.hi, x.js, fun i => (x.ds i).go (svAt ss i) st now, x.up⟩
def begX (ts : List Tk) (ss : List Sv) (st : Int) (x : Px) (now : Int) : Px := if x.up = true then goX ss st now (setX ts (misX ts x now)) else x
/-- Pick. -/
structure Pk where
  ok : Bool
  sv : Bool
  n : Int
  due : Int
def pickT (ts : List Tk) (ss : List Sv) (x : Px) : Nat → Pk
  | 0 => ⟨foV ts x.hi x.js, false, fkV ts x.hi x.js, fdV ts x.hi x.js⟩
  | k + 1 => if (x.ds k).dueOk && (!(pickT ts ss x k).ok || decide ((x.ds k).bud.due (svAt ss k) < (pickT ts ss x k).due)) then ⟨true, true, k, (x.ds k).bud.due (svAt ss k)⟩ else pickT ts ss x k
def noPk : Pk := ⟨false, false, 0, 0⟩
def pickV (ts : List Tk) (ss : List Sv) (x : Px) : Pk := if x.up = true then pickT ts ss x ss.length else noPk
/-- Run. -/
def jobX (ts : List Tk) (x : Px) (t : Int) : Px := ⟨x.la, x.hi, runT ts x.hi x.js t, x.ds, x.up⟩
def runJE (ts : List Tk) (x : Px) (t : Int) : List Wn :=
  if outT ts x.hi x.js t = 1 then [⟨0, t, 0⟩] ++ setE ts (jobX ts x t) else if outT ts x.hi x.js t = 2 then [⟨1, t, 0⟩] ++ setE ts (jobX ts x t) else if outT ts x.hi x.js t = 3 then risE ts (jobX ts x t) else []
def runJX (ts : List Tk) (ss : List Sv) (x : Px) (t : Int) : Px :=
  if outT ts x.hi x.js t = 1 then setX ts (jobX ts x t) else if outT ts x.hi x.js t = 2 then setX ts (jobX ts x t) else if outT ts x.hi x.js t = 3 then risX ts ss (jobX ts x t) else jobX ts x t
def runSE (x : Px) (i : Nat) : List Wn := if (x.ds i).ends = true then [⟨6, i, (x.ds i).first⟩] else []
def runSX (ss : List Sv) (x : Px) (i : Nat) : Px := ⟨x.la, x.hi, x.js, updD x.ds i ((x.ds i).serve (svAt ss i)), x.up⟩
def runE (ts : List Tk) (ss : List Sv) (x : Px) : List Wn := if (pickV ts ss x).ok = true then (if (pickV ts ss x).sv = true then runSE x (pickV ts ss x).n.toNat else runJE ts x (pickV ts ss x).n) else []
def runO (ts : List Tk) (ss : List Sv) (x : Px) : Wn := if (pickV ts ss x).ok = true ∧ (pickV ts ss x).sv = false then opT ts x.js (pickV ts ss x).n else zWn
def runX (ts : List Tk) (ss : List Sv) (x : Px) : Px := if (pickV ts ss x).ok = true then (if (pickV ts ss x).sv = true then runSX ss x (pickV ts ss x).n.toNat else runJX ts ss x (pickV ts ss x).n) else x
/-- Stop, Restart. -/
def stopX (ss : List Sv) (up : Bool) (x : Px) : Px := ⟨x.la, false, fun _ => none, fun i => (x.ds i).empty (svAt ss i), up⟩
def quV (ss : List Sv) (x : Px) (s : Int) : Int := if hasS ss.length s = true then ((x.ds s.toNat).q.length : Int) else 0
/-- All desks are in order. -/
def DsOk (n : Nat) (ds : Nat → Dk) : Prop := ∀ i, i < n → (ds i).Ok
def DsBy (n : Nat) (now : Int) (ds : Nat → Dk) : Prop := ∀ i, i < n → (ds i).bud.by_ now
def DsLow (n : Nat) (m : Int) (ds : Nat → Dk) : Prop := ∀ i, i < n → (ds i).first + (ds i).q.length ≤ m
theorem hasS_nat {n : Nat} {s : Int} (h : hasS n s = true) : ∃ i : Nat, s = i ∧ i < n := by
  simp only [hasS, Bool.and_eq_true, decide_eq_true_eq] at h
  exact ⟨s.toNat, by omega, by omega⟩
theorem hasS_of {n i : Nat} (h : i < n) : hasS n i = true := by unfold hasS; rw [decide_eq_true (by omega), decide_eq_true (by omega)]; rfl
end Go.Proofs.YtchbehnkkcjdgaaGreat
