/- Numbers as bytes and back; things as fields, fields as bytes, and back: no program in it. -/
import Derived.Test.YtiombjkjoehjpaaConfZ
namespace Go.Proofs.Ytiombjkjoehjpaa
set_option linter.unusedVariables false

/-- A number of a size as bytes, the highest first. -/
def putN : Nat → Int → List Int
  | 0, _ => []
  | s + 1, n => putN s (n / 256) ++ [n % 256]
def fitsB (s : Nat) (n : Int) : Bool := decide (0 ≤ n ∧ n < 256 ^ s)
/-- Bytes as a number. -/
def getL (bs : List Int) : Int := bs.foldl (fun a b => 256 * a + b) 0
def Bytes (l : List Int) : Prop := ∀ x ∈ l, 0 ≤ x ∧ x < 256
theorem fitsB_iff {s : Nat} {n : Int} : fitsB s n = true ↔ 0 ≤ n ∧ n < 256 ^ s := by simp [fitsB]
theorem putN_len : ∀ (s : Nat) (n : Int), (putN s n).length = s
  | 0, _ => rfl
  | s + 1, n => by simp [putN, putN_len s]
theorem putN_bytes : ∀ (s : Nat) (n : Int), Bytes (putN s n)
  | 0, _ => by simp [putN, Bytes]
  | s + 1, n => by
    intro x hx
    rw [putN, List.mem_append] at hx
    rcases hx with h | h
    · exact putN_bytes s _ x h
    · rw [List.mem_singleton] at h; subst h; omega
theorem getL_snoc (bs : List Int) (b : Int) : getL (bs ++ [b]) = 256 * getL bs + b := by simp [getL]
theorem pow_succ' (s : Nat) : (256 : Int) ^ (s + 1) = 256 * 256 ^ s := by rw [Int.pow_succ, Int.mul_comm]
theorem getL_putN : ∀ (s : Nat) (n : Int), 0 ≤ n → n < 256 ^ s → getL (putN s n) = n
  | 0, n, h0, h1 => by simp at h1; show (0 : Int) = n; omega
  | s + 1, n, h0, h1 => by
    rw [pow_succ'] at h1
    rw [putN, getL_snoc, getL_putN s (n / 256) (by omega) (by omega)]
    omega
theorem snoc_ind {α : Type} {P : List α → Prop} (h0 : P []) (h1 : ∀ l x, P l → P (l ++ [x])) : ∀ (n : Nat) (l : List α), l.length = n → P l
  | 0, l, h => by rw [List.eq_nil_of_length_eq_zero h]; exact h0
  | n + 1, l, h => by
    have hne : l ≠ [] := by intro e; subst e; cases h
    rw [← List.dropLast_concat_getLast hne]
    exact h1 _ _ (snoc_ind h0 h1 n _ (by rw [List.length_dropLast]; omega))
theorem getL_bd : ∀ (bs : List Int), Bytes bs → 0 ≤ getL bs ∧ getL bs < 256 ^ bs.length := by
  intro bs
  refine snoc_ind (P := fun bs => Bytes bs → 0 ≤ getL bs ∧ getL bs < 256 ^ bs.length) ?_ ?_ _ bs rfl
  · intro _; simp [getL]
  · intro bs b ih h
    have hb := h b (by simp)
    have := ih fun x hx => h x (by simp [hx])
    rw [getL_snoc, List.length_append, List.length_singleton, pow_succ']
    omega
theorem putN_getL : ∀ (bs : List Int), Bytes bs → putN bs.length (getL bs) = bs := by
  intro bs
  refine snoc_ind (P := fun bs => Bytes bs → putN bs.length (getL bs) = bs) ?_ ?_ _ bs rfl
  · intro _; rfl
  · intro bs b ih h
    have hb := h b (by simp)
    have := ih fun x hx => h x (by simp [hx])
    rw [List.length_append, List.length_singleton, putN, getL_snoc, show (256 * getL bs + b) / 256 = getL bs by omega, show (256 * getL bs + b) % 256 = b by omega, this]

/-- What is put: numbers, each of a size. -/
abbrev Fl := Nat × Int
def encB (l : List Fl) : List Int := l.flatMap fun f => putN f.1 f.2
def fitL (l : List Fl) : Bool := l.all fun f => fitsB f.1 f.2
theorem encB_append (a b : List Fl) : encB (a ++ b) = encB a ++ encB b := by simp [encB]
theorem encB_cons (f : Fl) (b : List Fl) : encB (f :: b) = putN f.1 f.2 ++ encB b := by simp [encB]
theorem encB_nil : encB [] = [] := rfl
theorem fitL_append (a b : List Fl) : fitL (a ++ b) = (fitL a && fitL b) := by simp [fitL]
theorem fitL_cons (f : Fl) (b : List Fl) : fitL (f :: b) = (fitsB f.1 f.2 && fitL b) := by simp [fitL]
theorem encB_bytes (l : List Fl) : Bytes (encB l) := by
  intro x hx
  obtain ⟨f, _, h⟩ := List.mem_flatMap.1 hx
  exact putN_bytes _ _ x h

/-- What is read: a thing, and what is left; none, if it is not there. -/
abbrev Rd (α : Type) := List Int → Option (α × List Int)
def rdN (s : Nat) : Rd Int := fun l => if l.length < s then none else some (getL (l.take s), l.drop s)
def rdList {α : Type} (p : Rd α) : Nat → Rd (List α)
  | 0 => fun l => some ([], l)
  | n + 1 => fun l => match rdList p n l with
    | none => none
    | some (xs, l1) => match p l1 with
      | none => none
      | some (x, l2) => some (xs ++ [x], l2)
def rdFlag : Rd Bool := fun l => match rdN 1 l with
  | none => none
  | some (n, l1) => if n = 0 then some (false, l1) else if n = 1 then some (true, l1) else none
def rdMany {α : Type} (p : Rd α) : Rd (List α) := fun l => match rdN 1 l with
  | none => none
  | some (n, l1) => rdList p n.toNat l1
def rdTwo {α β : Type} (p : Rd α) (q : Rd β) : Rd (α × β) := fun l => match p l with
  | none => none
  | some (x, l1) => match q l1 with
    | none => none
    | some (y, l2) => some ((x, y), l2)
def rdMap {α β : Type} (g : α → β) (p : Rd α) : Rd β := fun l => match p l with
  | none => none
  | some (x, l1) => some (g x, l1)
/-- What is put is read as it was, and what is read is put as it was. -/
structure Codec {α : Type} (f : α → List Fl) (p : Rd α) : Prop where
  there : ∀ x r, fitL (f x) = true → p (encB (f x) ++ r) = some (x, r)
  back : ∀ l x r, Bytes l → p l = some (x, r) → l = encB (f x) ++ r ∧ fitL (f x) = true ∧ Bytes r
theorem codec_num (s : Nat) : Codec (fun n => [(s, n)]) (rdN s) where
  there x r h := by
    rw [fitL_cons, Bool.and_eq_true, fitsB_iff] at h
    unfold rdN
    have e : encB [(s, x)] = putN s x := by simp [encB]
    rw [e, if_neg (by rw [List.length_append, putN_len]; omega)]
    rw [List.take_left' (putN_len s x), List.drop_left' (putN_len s x), getL_putN s x h.1.1 h.1.2]
  back l x r hb h := by
    unfold rdN at h
    split at h
    · cases h
    · rename_i hl
      simp only [Option.some.injEq, Prod.mk.injEq] at h
      obtain ⟨rfl, rfl⟩ := h
      have ht : Bytes (l.take s) := fun x hx => hb x (List.mem_of_mem_take hx)
      have hlen : (l.take s).length = s := by rw [List.length_take]; omega
      have h1 := putN_getL _ ht
      have h2 := getL_bd _ ht
      rw [hlen] at h1 h2
      refine ⟨?_, ?_, fun x hx => hb x (List.mem_of_mem_drop hx)⟩
      · show l = encB [(s, getL (l.take s))] ++ _
        rw [show encB [(s, getL (l.take s))] = putN s (getL (l.take s)) by simp [encB], h1, List.take_append_drop]
      · rw [fitL_cons, fitsB_iff.2 h2]; rfl
theorem codec_two {α β : Type} {f : α → List Fl} {g : β → List Fl} {p : Rd α} {q : Rd β} (hp : Codec f p) (hq : Codec g q) : Codec (fun x : α × β => f x.1 ++ g x.2) (rdTwo p q) where
  there x r h := by
    rw [fitL_append, Bool.and_eq_true] at h
    unfold rdTwo
    rw [encB_append, List.append_assoc, hp.there _ _ h.1]
    simp only
    rw [hq.there _ _ h.2]
  back l x r hb h := by
    unfold rdTwo at h
    split at h
    · cases h
    · rename_i x1 l1 h1
      split at h
      · cases h
      · rename_i x2 l2 h2
        cases h
        obtain ⟨e1, g1, b1⟩ := hp.back _ _ _ hb h1
        obtain ⟨e2, g2, b2⟩ := hq.back _ _ _ b1 h2
        exact ⟨by rw [e1, e2, encB_append, List.append_assoc], by rw [fitL_append, g1, g2]; rfl, b2⟩
theorem codec_map {α β : Type} {f : α → List Fl} {p : Rd α} (hp : Codec f p) (g : α → β) (k : β → α) (h1 : ∀ y, g (k y) = y) (h2 : ∀ x, k (g x) = x) : Codec (fun y => f (k y)) (rdMap g p) where
  there x r h := by unfold rdMap; rw [hp.there _ _ h]; simp only; rw [h1]
  back l x r hb h := by
    unfold rdMap at h
    split at h
    · cases h
    · rename_i x1 l1 e
      cases h
      rw [h2]
      exact hp.back _ _ _ hb e
theorem codec_list {α : Type} {f : α → List Fl} {p : Rd α} (hp : Codec f p) : ∀ n : Nat, (∀ xs : List α, xs.length = n → ∀ r, fitL (xs.flatMap f) = true → rdList p n (encB (xs.flatMap f) ++ r) = some (xs, r)) ∧
    ∀ l xs r, Bytes l → rdList p n l = some (xs, r) → xs.length = n ∧ l = encB (xs.flatMap f) ++ r ∧ fitL (xs.flatMap f) = true ∧ Bytes r
  | 0 => ⟨fun xs h r _ => by
      have : xs = [] := List.eq_nil_of_length_eq_zero h
      subst this; rfl, fun l xs r hb h => by
      have h' : some (([] : List α), l) = some (xs, r) := h
      cases h'
      exact ⟨rfl, rfl, rfl, hb⟩⟩
  | n + 1 => by
    obtain ⟨i1, i2⟩ := codec_list hp n
    refine ⟨fun xs h r hf => ?_, fun l xs r hb h => ?_⟩
    · obtain ⟨ys, y, rfl⟩ : ∃ ys y, xs = ys ++ [y] := ⟨xs.dropLast, xs.getLast (by intro e; subst e; simp at h), (List.dropLast_concat_getLast _).symm⟩
      have hl : ys.length = n := by simpa using h
      rw [List.flatMap_append, fitL_append, Bool.and_eq_true] at hf
      rw [List.flatMap_append, encB_append, List.append_assoc]
      unfold rdList
      rw [i1 ys hl _ hf.1]
      simp only
      have e : List.flatMap f [y] = f y := by simp
      rw [e] at hf ⊢
      rw [hp.there _ _ hf.2]
    · unfold rdList at h
      split at h
      · cases h
      · rename_i ys l1 e1
        split at h
        · cases h
        · rename_i y l2 e2
          cases h
          obtain ⟨g1, g2, g3, g4⟩ := i2 _ _ _ hb e1
          obtain ⟨k1, k2, k3⟩ := hp.back _ _ _ g4 e2
          have e : List.flatMap f [y] = f y := by simp
          refine ⟨by simp [g1], ?_, ?_, k3⟩
          · rw [g2, k1, List.flatMap_append, encB_append, List.append_assoc, e]
          · rw [List.flatMap_append, fitL_append, g3, e, k2]; rfl
theorem codec_many {α : Type} {f : α → List Fl} {p : Rd α} (hp : Codec f p) : Codec (fun xs : List α => ((1, (xs.length : Int)) : Fl) :: xs.flatMap f) (rdMany p) where
  there x r h := by
    rw [fitL_cons, Bool.and_eq_true] at h
    unfold rdMany
    have h1 := (codec_num 1).there (x.length : Int) (encB (x.flatMap f) ++ r) (by rw [fitL_cons, h.1]; rfl)
    rw [encB_cons, List.append_assoc]
    rw [show encB [((1, (x.length : Int)) : Fl)] = putN 1 (x.length : Int) by simp [encB]] at h1
    rw [h1]
    exact (codec_list hp _).1 x (by simp) r h.2
  back l x r hb h := by
    unfold rdMany at h
    split at h
    · cases h
    · rename_i n l1 e1
      obtain ⟨g1, g2, g3⟩ := (codec_num 1).back _ _ _ hb e1
      obtain ⟨k1, k2, k3, k4⟩ := (codec_list hp _).2 _ _ _ g3 h
      have hn : (x.length : Int) = n := by
        rw [fitL_cons, Bool.and_eq_true, fitsB_iff] at g2
        omega
      rw [hn]
      refine ⟨?_, ?_, k4⟩
      · rw [g1, k2]; simp only [encB_cons, encB_nil, List.append_nil, List.append_assoc]
      · rw [fitL_cons, k3, Bool.and_true]
        rw [fitL_cons, Bool.and_eq_true] at g2
        exact g2.1
def flagV (b : Bool) : Int := if b then 1 else 0
theorem codec_flag : Codec (fun b => [(1, flagV b)]) rdFlag where
  there x r h := by
    unfold rdFlag
    rw [(codec_num 1).there _ _ h]
    cases x <;> simp [flagV]
  back l x r hb h := by
    unfold rdFlag at h
    split at h
    · cases h
    · rename_i n l1 e1
      obtain ⟨g1, g2, g3⟩ := (codec_num 1).back _ _ _ hb e1
      split at h
      · rename_i h0
        cases h
        subst h0
        exact ⟨g1, g2, g3⟩
      · split at h
        · rename_i _ h0
          cases h
          subst h0
          exact ⟨g1, g2, g3⟩
        · cases h

def tkF (k : Tk) : List Fl := [(1, flagV k.hi), (2, k.t), (2, k.d), (2, k.v), (2, k.lo), (2, k.top)]
def svF (k : Sv) : List Fl := [(1, flagV k.re), (2, k.c), (2, k.t)]
def wnF (k : Wn) : List Fl := [(2, k.at_), (2, k.len), (1, k.part)]
def chF (k : Ch) : List Fl := [(1, flagV k.queue), (1, k.from_), (1, k.to), (2, k.size)]
def manyF {α : Type} (f : α → List Fl) (xs : List α) : List Fl := ((1, (xs.length : Int)) : Fl) :: xs.flatMap f
def ptF (k : Pt) : List Fl := manyF tkF k.ts ++ (manyF svF k.ss ++ (manyF (fun d => [(1, d)]) k.ds ++ [(1, k.a0), (1, k.a1), (1, k.a2)]))
def magicV : Int := 1346458187
/-- An image: its numbers, each of its size. -/
def cfF (k : Cf) : List Fl := [(4, magicV)] ++ ([(2, k.frame), (2, k.margin)] ++ (manyF wnF k.ws ++ (manyF ptF k.ps ++ manyF chF k.cs)))
def rdTk : Rd Tk := rdMap (fun x : Bool × Int × Int × Int × Int × Int => ⟨x.1, x.2.1, x.2.2.1, x.2.2.2.1, x.2.2.2.2.1, x.2.2.2.2.2⟩) (rdTwo rdFlag (rdTwo (rdN 2) (rdTwo (rdN 2) (rdTwo (rdN 2) (rdTwo (rdN 2) (rdN 2))))))
def rdSv : Rd Sv := rdMap (fun x : Bool × Int × Int => ⟨x.1, x.2.1, x.2.2⟩) (rdTwo rdFlag (rdTwo (rdN 2) (rdN 2)))
def rdWn : Rd Wn := rdMap (fun x : Int × Int × Int => ⟨x.1, x.2.1, x.2.2⟩) (rdTwo (rdN 2) (rdTwo (rdN 2) (rdN 1)))
def rdCh : Rd Ch := rdMap (fun x : Bool × Int × Int × Int => ⟨x.1, x.2.1, x.2.2.1, x.2.2.2⟩) (rdTwo rdFlag (rdTwo (rdN 1) (rdTwo (rdN 1) (rdN 2))))
def rdPt : Rd Pt := rdMap (fun x : List Tk × List Sv × List Int × Int × Int × Int => ⟨x.1, x.2.1, x.2.2.1, x.2.2.2.1, x.2.2.2.2.1, x.2.2.2.2.2⟩) (rdTwo (rdMany rdTk) (rdTwo (rdMany rdSv) (rdTwo (rdMany (rdN 1)) (rdTwo (rdN 1) (rdTwo (rdN 1) (rdN 1))))))
/-- What stands behind the Magic. -/
def rdBody : Rd Cf := rdMap (fun x : Int × Int × List Wn × List Pt × List Ch => ⟨x.1, x.2.1, x.2.2.1, x.2.2.2.1, x.2.2.2.2⟩) (rdTwo (rdN 2) (rdTwo (rdN 2) (rdTwo (rdMany rdWn) (rdTwo (rdMany rdPt) (rdMany rdCh)))))
theorem codec_tk : Codec tkF rdTk := codec_map (codec_two codec_flag (codec_two (codec_num 2) (codec_two (codec_num 2) (codec_two (codec_num 2) (codec_two (codec_num 2) (codec_num 2)))))) _ (fun k : Tk => (k.hi, k.t, k.d, k.v, k.lo, k.top)) (fun _ => rfl) (fun _ => rfl)
theorem codec_sv : Codec svF rdSv := codec_map (codec_two codec_flag (codec_two (codec_num 2) (codec_num 2))) _ (fun k : Sv => (k.re, k.c, k.t)) (fun _ => rfl) (fun _ => rfl)
theorem codec_wn : Codec wnF rdWn := codec_map (codec_two (codec_num 2) (codec_two (codec_num 2) (codec_num 1))) _ (fun k : Wn => (k.at_, k.len, k.part)) (fun _ => rfl) (fun _ => rfl)
theorem codec_ch : Codec chF rdCh := codec_map (codec_two codec_flag (codec_two (codec_num 1) (codec_two (codec_num 1) (codec_num 2)))) _ (fun k : Ch => (k.queue, k.from_, k.to, k.size)) (fun _ => rfl) (fun _ => rfl)
theorem codec_pt : Codec ptF rdPt := codec_map (codec_two (codec_many codec_tk) (codec_two (codec_many codec_sv) (codec_two (codec_many (codec_num 1)) (codec_two (codec_num 1) (codec_two (codec_num 1) (codec_num 1)))))) _ (fun k : Pt => (k.ts, k.ss, k.ds, k.a0, k.a1, k.a2)) (fun _ => rfl) (fun _ => rfl)
def bodyF (k : Cf) : List Fl := [(2, k.frame), (2, k.margin)] ++ (manyF wnF k.ws ++ (manyF ptF k.ps ++ manyF chF k.cs))
theorem codec_body : Codec bodyF rdBody := codec_map (codec_two (codec_num 2) (codec_two (codec_num 2) (codec_two (codec_many codec_wn) (codec_two (codec_many codec_pt) (codec_many codec_ch))))) _ (fun k : Cf => (k.frame, k.margin, k.ws, k.ps, k.cs)) (fun _ => rfl) (fun _ => rfl)
theorem cfF_body (k : Cf) : cfF k = (4, magicV) :: bodyF k := rfl
/-- Bytes as a system; none, if they are no image (of any length). -/
def decV (l : List Int) : Option Cf := match rdN 4 l with
  | none => none
  | some (n, l1) => if n = magicV then (match rdBody l1 with
      | some (c, []) => some c
      | _ => none) else none
theorem magic_fits : fitsB 4 magicV = true := by decide
theorem decV_enc (c : Cf) (h : fitL (cfF c) = true) : decV (encB (cfF c)) = some c := by
  rw [cfF_body, fitL_cons, Bool.and_eq_true] at h
  unfold decV
  have h1 := (codec_num 4).there magicV (encB (bodyF c)) (by rw [fitL_cons, h.1]; rfl)
  rw [show encB [((4, magicV) : Fl)] = putN 4 magicV by simp [encB]] at h1
  rw [cfF_body, encB_cons, h1]
  have h2 := codec_body.there c [] h.2
  rw [List.append_nil] at h2
  simp only [if_true]
  rw [h2]
theorem enc_decV {l : List Int} {c : Cf} (hb : Bytes l) (h : decV l = some c) : encB (cfF c) = l ∧ fitL (cfF c) = true := by
  unfold decV at h
  split at h
  · cases h
  · rename_i n l1 e1
    split at h
    · rename_i hn
      split at h
      · rename_i c' e2
        cases h
        obtain ⟨g1, g2, g3⟩ := (codec_num 4).back _ _ _ hb e1
        obtain ⟨k1, k2, k3⟩ := codec_body.back _ _ _ g3 e2
        subst hn
        rw [List.append_nil] at k1
        rw [cfF_body]
        refine ⟨?_, ?_⟩
        · rw [encB_cons, g1, k1]; simp only [encB_cons, encB_nil, List.append_nil]
        · rw [fitL_cons, k2, magic_fits]; rfl
      · cases h
    · cases h
end Go.Proofs.Ytiombjkjoehjpaa
