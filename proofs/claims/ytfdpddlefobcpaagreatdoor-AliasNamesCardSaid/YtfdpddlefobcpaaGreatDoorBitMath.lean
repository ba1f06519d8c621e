/- Bit strings as lists of bytes: what the calls of layer 7 answer, and how it hangs together. No function of the program. -/
import Derived.Lib.SlTrimSet
import Derived.Lib.Bytealg
import Derived.Lib.LastIndexByte
import Derived.Lib.Repeat
namespace Go.Proofs.YtfdpddlefobcpaaGreatDoor
set_option linter.unusedVariables false
namespace N
def isbit (c : UInt8) : Bool := c == 48 || c == 49
/-- all are bitsL -/
def bitsL (l : List UInt8) : Bool := l.all isbit
def isB (l : List UInt8) : Bool := decide (l.length ≤ 1024) && bitsL l
theorem isbit_iff {c : UInt8} : isbit c = true ↔ c = 48 ∨ c = 49 := by simp [isbit]
theorem bitsL_iff {l : List UInt8} : bitsL l = true ↔ ∀ c ∈ l, c = 48 ∨ c = 49 := by simp [bitsL, isbit]
theorem bitsL_nil : bitsL [] = true := rfl
theorem bitsL_cons {c : UInt8} {l : List UInt8} : bitsL (c :: l) = (isbit c && bitsL l) := rfl
theorem bitsL_append {a b : List UInt8} : bitsL (a ++ b) = (bitsL a && bitsL b) := by simp [bitsL]
theorem bitsL_rep (n : Nat) {c : UInt8} (h : isbit c = true) : bitsL (List.replicate n c) = true := by
  unfold bitsL; simp [List.all_replicate, h]
theorem bitsL_take {l : List UInt8} (h : bitsL l = true) (k : Nat) : bitsL (l.take k) = true := bitsL_iff.2 fun c hc => bitsL_iff.1 h c (List.mem_of_mem_take hc)
theorem bitsL_drop {l : List UInt8} (h : bitsL l = true) (k : Nat) : bitsL (l.drop k) = true := bitsL_iff.2 fun c hc => bitsL_iff.1 h c (List.mem_of_mem_drop hc)
theorem isB_iff {l : List UInt8} : isB l = true ↔ l.length ≤ 1024 ∧ bitsL l = true := by simp [isB]
theorem btrim_nil {l : List UInt8} : (Lib.trimS l [48, 49] == []) = bitsL l := by
  have h1 : ∀ c : UInt8, ([48, 49] : List UInt8).contains c = isbit c := fun c => by simp [isbit]; rfl
  unfold Lib.trimS Lib.trimLeftS Lib.trimRightS bitsL
  simp only [h1]
  have h2 : ∀ m : List UInt8, (m.dropWhile isbit = [] ↔ m.all isbit = true) := by
    intro m
    induction m with
    | nil => simp
    | cons c m ih =>
      rw [List.dropWhile_cons, List.all_cons]
      split
      · rename_i h; rw [ih, h]; simp
      · rename_i h; simp [h]
  cases hb : l.all isbit with
  | true =>
    have h3 : l.reverse.dropWhile isbit = [] := (h2 _).2 (by rw [List.all_reverse]; exact hb)
    rw [h3]; rfl
  | false =>
    rw [beq_eq_false_iff_ne]
    intro h
    rw [h2] at h
    rw [List.all_reverse] at h
    have h4 : l.reverse.dropWhile isbit = [] := by
      cases hd : l.reverse.dropWhile isbit with
      | nil => rfl
      | cons c m =>
        exfalso
        have hc : isbit c = true := by rw [hd, List.all_cons, Bool.and_eq_true] at h; exact h.1
        have := List.head?_dropWhile_not isbit l.reverse
        rw [hd] at this
        simp [hc] at this
    rw [h2, List.all_reverse, hb] at h4
    cases h4
/-! the number -/
def numB : List UInt8 → Nat
  | [] => 0
  | c :: r => (c.toNat - 48) * 2 ^ r.length + numB r
theorem numB_snoc (l : List UInt8) (c : UInt8) : numB (l ++ [c]) = 2 * numB l + (c.toNat - 48) := by
  induction l with
  | nil => simp [numB]
  | cons d l ih =>
    rw [List.cons_append, numB, ih, numB, List.length_append]
    simp only [List.length_singleton, Nat.pow_succ]
    rw [← Nat.mul_assoc]
    omega
theorem numB_append (a b : List UInt8) : numB (a ++ b) = numB a * 2 ^ b.length + numB b := by
  induction a with
  | nil => simp [numB]
  | cons c a ih =>
    rw [List.cons_append, numB, ih, numB, List.length_append, Nat.pow_add, Nat.add_mul, Nat.mul_assoc]
    omega
theorem isbit_val {c : UInt8} (h : isbit c = true) : (c = 48 ∧ c.toNat - 48 = 0) ∨ (c = 49 ∧ c.toNat - 48 = 1) := by
  rcases isbit_iff.1 h with e | e
  · exact .inl ⟨e, by rw [e]; rfl⟩
  · exact .inr ⟨e, by rw [e]; rfl⟩
theorem numB_lt {l : List UInt8} (h : bitsL l = true) : numB l < 2 ^ l.length := by
  induction l with
  | nil => simp [numB]
  | cons c l ih =>
    rw [bitsL_cons, Bool.and_eq_true] at h
    have := ih h.2
    rw [numB, List.length_cons, Nat.pow_succ]
    rcases isbit_val h.1 with ⟨_, e⟩ | ⟨_, e⟩ <;> rw [e] <;> omega
theorem numB_zeros (n : Nat) : numB (List.replicate n 48) = 0 := by
  induction n with
  | zero => rfl
  | succ n ih => rw [List.replicate_succ, numB, ih]; simp
theorem numB_ones (n : Nat) : numB (List.replicate n 49) + 1 = 2 ^ n := by
  induction n with
  | zero => rfl
  | succ n ih =>
    rw [List.replicate_succ, numB, List.length_replicate, Nat.pow_succ]
    have : (49 : UInt8).toNat - 48 = 1 := rfl
    rw [this]; omega
theorem numB_inj {a b : List UInt8} (ha : bitsL a = true) (hb : bitsL b = true) (hl : a.length = b.length) (h : numB a = numB b) : a = b := by
  induction a generalizing b with
  | nil => cases b with
    | nil => rfl
    | cons => cases hl
  | cons c a ih =>
    cases b with
    | nil => cases hl
    | cons d b =>
      rw [bitsL_cons, Bool.and_eq_true] at ha hb
      have hl' : a.length = b.length := by simpa using hl
      have h1 := numB_lt ha.2
      have h2 := numB_lt hb.2
      rw [numB, numB, hl'] at h
      rw [hl'] at h1
      rcases isbit_val ha.1 with ⟨e1, e2⟩ | ⟨e1, e2⟩ <;> rcases isbit_val hb.1 with ⟨f1, f2⟩ | ⟨f1, f2⟩ <;> rw [e2, f2] at h
      · rw [e1, f1, ih ha.2 hb.2 hl' (by omega)]
      · omega
      · omega
      · rw [e1, f1, ih ha.2 hb.2 hl' (by omega)]
/-! the order -/
open Lib (compareBytes)
def cmpN (a b : Nat) : Int := if a < b then -1 else if b < a then 1 else 0
/-- what Cmp answers -/
def cmpB (a b : List UInt8) : Int := if a.length = b.length then compareBytes a b else cmpN a.length b.length
theorem cb_range (a b : List UInt8) : compareBytes a b = -1 ∨ compareBytes a b = 0 ∨ compareBytes a b = 1 := by
  induction a generalizing b with
  | nil => cases b <;> simp [compareBytes]
  | cons c a ih =>
    cases b with
    | nil => simp [compareBytes]
    | cons d b =>
      unfold compareBytes
      split
      · exact .inl rfl
      · split
        · exact .inr (.inr rfl)
        · exact ih b
theorem cb_swap (a b : List UInt8) : compareBytes b a = - compareBytes a b := by
  induction a generalizing b with
  | nil => cases b <;> simp [compareBytes]
  | cons c a ih =>
    cases b with
    | nil => simp [compareBytes]
    | cons d b =>
      unfold compareBytes
      by_cases h : c < d
      · have h' : ¬ d < c := by rw [UInt8.lt_iff_toNat_lt] at h ⊢; omega
        rw [if_pos h, if_neg h', if_pos h]; rfl
      · by_cases h' : d < c
        · simp [h, h']
        · simp only [if_neg h, if_neg h']; exact ih b
theorem cb_self (a : List UInt8) : compareBytes a a = 0 := by
  have := cb_swap a a; omega
theorem cb_eq {a b : List UInt8} : compareBytes a b = 0 ↔ a = b := by
  constructor
  · intro h
    induction a generalizing b with
    | nil => cases b with
      | nil => rfl
      | cons => simp [compareBytes] at h
    | cons c a ih =>
      cases b with
      | nil => simp [compareBytes] at h
      | cons d b =>
        unfold compareBytes at h
        split at h
        · cases h
        · split at h
          · cases h
          · rename_i h1 h2
            have e : c = d := by
              apply UInt8.toNat_inj.1
              rw [UInt8.lt_iff_toNat_lt] at h1 h2; omega
            rw [e, ih h]
  · intro h; rw [h]; exact cb_self b
theorem cb_cons (c : UInt8) (a b : List UInt8) : compareBytes (c :: a) (c :: b) = compareBytes a b := by
  have h : ¬ c < c := by rw [UInt8.lt_iff_toNat_lt]; omega
  rw [compareBytes, if_neg h, if_neg h]
theorem cb_left (c a b : List UInt8) : compareBytes (c ++ a) (c ++ b) = compareBytes a b := by
  induction c with
  | nil => rfl
  | cons d c ih => rw [List.cons_append, List.cons_append, cb_cons, ih]
theorem cb_right {a b : List UInt8} (h : a.length = b.length) (c : List UInt8) : compareBytes (a ++ c) (b ++ c) = compareBytes a b := by
  induction a generalizing b with
  | nil => cases b with
    | nil => simp [cb_self]
    | cons => cases h
  | cons d a ih =>
    cases b with
    | nil => cases h
    | cons e b =>
      rw [List.cons_append, List.cons_append]
      unfold compareBytes
      rw [ih (by simpa using h)]
theorem cb_trans {a b c : List UInt8} (h1 : compareBytes a b ≤ 0) (h2 : compareBytes b c ≤ 0) : compareBytes a c ≤ 0 := by
  induction a generalizing b c with
  | nil => cases c <;> simp [compareBytes]
  | cons x a ih =>
    cases b with
    | nil => simp [compareBytes] at h1
    | cons y b =>
      cases c with
      | nil => simp [compareBytes] at h2
      | cons z c =>
        unfold compareBytes at h1 h2 ⊢
        simp only [UInt8.lt_iff_toNat_lt] at *
        by_cases p1 : x.toNat < y.toNat
        · by_cases p2 : y.toNat < z.toNat
          · rw [if_pos (by omega)]; decide
          · rw [if_neg p2] at h2
            by_cases p3 : z.toNat < y.toNat
            · rw [if_pos p3] at h2; omega
            · rw [if_pos (by omega)]; decide
        · rw [if_neg p1] at h1
          by_cases p3 : y.toNat < x.toNat
          · rw [if_pos p3] at h1; omega
          · rw [if_neg p3] at h1
            by_cases p2 : y.toNat < z.toNat
            · rw [if_pos (by omega)]; decide
            · rw [if_neg p2] at h2
              by_cases p4 : z.toNat < y.toNat
              · rw [if_pos p4] at h2; omega
              · rw [if_neg p4] at h2
                rw [if_neg (by omega), if_neg (by omega)]
                exact ih h1 h2
theorem cmpN_add (z x y : Nat) : cmpN (z + x) (z + y) = cmpN x y := by
  unfold cmpN
  by_cases h : x < y
  · rw [if_pos h, if_pos (by omega)]
  · by_cases h' : y < x
    · rw [if_neg h, if_neg (by omega), if_pos h', if_pos (by omega)]
    · rw [if_neg h, if_neg (by omega), if_neg h', if_neg (by omega)]
theorem cmpN_swap (a b : Nat) : cmpN b a = - cmpN a b := by
  unfold cmpN; by_cases h : a < b
  · rw [if_neg (by omega), if_pos h, if_pos h]; rfl
  · by_cases h' : b < a
    · rw [if_pos h', if_neg h, if_pos h']
    · rw [if_neg h', if_neg h, if_neg h, if_neg h']; rfl
theorem cmpN_range (a b : Nat) : (a < b ∧ cmpN a b = -1) ∨ (a = b ∧ cmpN a b = 0) ∨ (b < a ∧ cmpN a b = 1) := by
  unfold cmpN; by_cases h : a < b
  · exact .inl ⟨h, if_pos h⟩
  · by_cases h' : b < a
    · exact .inr (.inr ⟨h', by rw [if_neg h, if_pos h']⟩)
    · exact .inr (.inl ⟨by omega, by rw [if_neg h, if_neg h']⟩)
theorem cmpB_swap (a b : List UInt8) : cmpB b a = - cmpB a b := by
  unfold cmpB
  by_cases h : a.length = b.length
  · rw [if_pos h, if_pos h.symm]; exact cb_swap a b
  · rw [if_neg h, if_neg (fun e => h e.symm)]; exact cmpN_swap _ _
theorem cmpB_range (a b : List UInt8) : cmpB a b = -1 ∨ cmpB a b = 0 ∨ cmpB a b = 1 := by
  unfold cmpB
  split
  · exact cb_range a b
  · rcases cmpN_range a.length b.length with h | h | h
    · exact .inl h.2
    · exact .inr (.inl h.2)
    · exact .inr (.inr h.2)
theorem cmpB_eq {a b : List UInt8} : cmpB a b = 0 ↔ a = b := by
  unfold cmpB
  by_cases h : a.length = b.length
  · rw [if_pos h]; exact cb_eq
  · rw [if_neg h]
    rcases cmpN_range a.length b.length with ⟨_, e⟩ | ⟨e', e⟩ | ⟨_, e⟩
    · rw [e]; exact ⟨fun h' => by omega, fun h' => absurd (congrArg List.length h') h⟩
    · exact absurd e' h
    · rw [e]; exact ⟨fun h' => by omega, fun h' => absurd (congrArg List.length h') h⟩
theorem cmpB_right {a b : List UInt8} (h : a.length = b.length) (c : List UInt8) : cmpB (a ++ c) (b ++ c) = cmpB a b := by
  unfold cmpB; rw [if_pos h, if_pos (by simp [h]), cb_right h]
theorem cmpB_left (c a b : List UInt8) : cmpB (c ++ a) (c ++ b) = cmpB a b := by
  unfold cmpB
  by_cases h : a.length = b.length
  · rw [if_pos h, if_pos (by simp [h]), cb_left]
  · rw [if_neg h, if_neg (by simp [h]), List.length_append, List.length_append, cmpN_add]
theorem cmpB_trans {a b c : List UInt8} (h1 : cmpB a b ≤ 0) (h2 : cmpB b c ≤ 0) : cmpB a c ≤ 0 := by
  unfold cmpB at *
  by_cases e1 : a.length = b.length <;> by_cases e2 : b.length = c.length
  · rw [if_pos e1] at h1; rw [if_pos e2] at h2; rw [if_pos (e1.trans e2)]; exact cb_trans h1 h2
  · rw [if_neg e2] at h2; rw [if_neg (by omega), e1]; exact h2
  · rw [if_neg e1] at h1; rw [if_neg (by omega), ← e2]; exact h1
  · rw [if_neg e1] at h1; rw [if_neg e2] at h2
    have f1 : a.length < b.length := by
      rcases cmpN_range a.length b.length with ⟨h, _⟩ | ⟨h, _⟩ | ⟨_, h⟩
      · exact h
      · exact absurd h e1
      · rw [h] at h1; omega
    have f2 : b.length < c.length := by
      rcases cmpN_range b.length c.length with ⟨h, _⟩ | ⟨h, _⟩ | ⟨_, h⟩
      · exact h
      · exact absurd h e2
      · rw [h] at h2; omega
    rw [if_neg (by omega)]
    unfold cmpN; rw [if_pos (by omega)]; decide
theorem cb_num {a b : List UInt8} (ha : bitsL a = true) (hb : bitsL b = true) (hl : a.length = b.length) : compareBytes a b = cmpN (numB a) (numB b) := by
  induction a generalizing b with
  | nil => cases b with
    | nil => rfl
    | cons => cases hl
  | cons c a ih =>
    cases b with
    | nil => cases hl
    | cons d b =>
      rw [bitsL_cons, Bool.and_eq_true] at ha hb
      have hl' : a.length = b.length := by simpa using hl
      have h1 := numB_lt ha.2
      have h2 := numB_lt hb.2
      have hi := ih ha.2 hb.2 hl'
      rw [hl'] at h1
      rcases isbit_val ha.1 with ⟨e1, e2⟩ | ⟨e1, e2⟩ <;> rcases isbit_val hb.1 with ⟨f1, f2⟩ | ⟨f1, f2⟩
      · rw [e1, f1, cb_cons, hi, numB, numB]; simp
      · rw [numB, numB, hl', e2, f2, e1, f1, compareBytes, if_pos (by decide)]
        unfold cmpN; rw [if_pos (by omega)]
      · rw [numB, numB, hl', e2, f2, e1, f1, compareBytes, if_neg (by decide), if_pos (by decide)]
        unfold cmpN; rw [if_neg (by omega), if_pos (by omega)]
      · rw [e1, f1, cb_cons, hi, numB, numB, hl', cmpN_add]
/-- the order of bit strings, by their numbers -/
theorem cmpB_num {a b : List UInt8} (ha : bitsL a = true) (hb : bitsL b = true) : cmpB a b = if a.length = b.length then cmpN (numB a) (numB b) else cmpN a.length b.length := by
  unfold cmpB
  split
  · rename_i h; exact cb_num ha hb h
  · rfl
/-! a number as bitsL -/
def bitOf (n : Nat) : UInt8 := UInt8.ofNat (48 + n % 2)
def ofB : Nat → Nat → List UInt8
  | 0, _ => []
  | w + 1, n => ofB w (n / 2) ++ [bitOf n]
theorem bitOf_nat (n : Nat) : (bitOf n).toNat = 48 + n % 2 := by
  unfold bitOf; rw [UInt8.toNat_ofNat']; omega
theorem bitOf_bit (n : Nat) : isbit (bitOf n) = true := by
  rw [isbit_iff]
  rcases Nat.mod_two_eq_zero_or_one n with h | h
  · left; unfold bitOf; rw [h]; rfl
  · right; unfold bitOf; rw [h]; rfl
theorem ofB_length (w n : Nat) : (ofB w n).length = w := by
  induction w generalizing n with
  | zero => rfl
  | succ w ih => rw [ofB, List.length_append, ih]; rfl
theorem ofB_bits (w n : Nat) : bitsL (ofB w n) = true := by
  induction w generalizing n with
  | zero => rfl
  | succ w ih => rw [ofB, bitsL_append, ih]; simp [bitsL, bitOf_bit]
theorem ofB_num (w n : Nat) : numB (ofB w n) = n % 2 ^ w := by
  induction w generalizing n with
  | zero => simp [ofB, numB, Nat.mod_one]
  | succ w ih =>
    rw [ofB, numB_snoc, ih, bitOf_nat, Nat.pow_succ, Nat.mul_comm (2 ^ w) 2, Nat.mod_mul]
    omega
theorem ofB_front (w n : Nat) : ofB (w + 1) n = bitOf (n / 2 ^ w) :: ofB w n := by
  induction w generalizing n with
  | zero => simp [ofB]
  | succ w ih =>
    rw [ofB, ih, List.cons_append, Nat.div_div_eq_div_mul, ← Nat.pow_succ']
    rfl
theorem ofB_of {l : List UInt8} (h : bitsL l = true) : ofB l.length (numB l) = l :=
  numB_inj (ofB_bits _ _) h (ofB_length _ _) (by rw [ofB_num, Nat.mod_eq_of_lt (numB_lt h)])
/-! all of a length -/
def allS : Nat → List (List UInt8)
  | 0 => [[]]
  | k + 1 => (allS k).flatMap fun s => [s ++ [48], s ++ [49]]
theorem flat_length {α : Type} (f g : α → α) (l : List α) : (l.flatMap fun s => [f s, g s]).length = 2 * l.length := by
  induction l with
  | nil => rfl
  | cons c l ih => rw [List.flatMap_cons, List.length_append, ih]; simp; omega
theorem allS_length (k : Nat) : (allS k).length = 2 ^ k := by
  induction k with
  | zero => rfl
  | succ k ih => rw [allS, flat_length, ih, Nat.pow_succ]; omega
theorem allS_range (k : Nat) : allS k = (List.range (2 ^ k)).map (ofB k) := by
  induction k with
  | zero => rfl
  | succ k ih =>
    rw [allS, ih, Nat.pow_succ]
    generalize 2 ^ k = m
    induction m with
    | zero => rfl
    | succ m im =>
      rw [List.range_succ, List.map_append, List.flatMap_append, im, show (m + 1) * 2 = m * 2 + 1 + 1 by omega, List.range_succ, List.range_succ]
      simp only [List.map_append, List.map_cons, List.map_nil, List.flatMap_cons, List.flatMap_nil, List.append_assoc]
      congr 1
      have e1 : ofB (k + 1) (m * 2) = ofB k m ++ [48] := by
        rw [ofB, show m * 2 / 2 = m by omega]; congr 2; unfold bitOf; rw [show m * 2 % 2 = 0 by omega]; rfl
      have e2 : ofB (k + 1) (m * 2 + 1) = ofB k m ++ [49] := by
        rw [ofB, show (m * 2 + 1) / 2 = m by omega]; congr 2; unfold bitOf; rw [show (m * 2 + 1) % 2 = 1 by omega]; rfl
      rw [e1, e2]; rfl
/-- the element that comes behind so many -/
theorem allS_at {k : Nat} {pre post : List (List UInt8)} {x : List UInt8} (h : allS k = pre ++ x :: post) : x = ofB k pre.length ∧ pre.length < 2 ^ k := by
  have hl : pre.length < (allS k).length := by rw [h]; simp
  have hx : (allS k)[pre.length]? = some x := by rw [h]; simp
  rw [allS_length] at hl
  rw [allS_range, List.getElem?_map, List.getElem?_range hl] at hx
  exact ⟨(by simpa using hx.symm), hl⟩
/-! the next one -/
def nxt : List UInt8 → Option (List UInt8)
  | [] => none
  | c :: r => match nxt r with
    | some r' => some (c :: r')
    | none => if c = 48 then some (49 :: List.replicate r.length 48) else none
theorem nxt_none {q : List UInt8} (h : ∀ c ∈ q, c ≠ 48) : nxt q = none := by
  induction q with
  | nil => rfl
  | cons c q ih =>
    rw [nxt, ih (fun d hd => h d (List.mem_cons_of_mem _ hd))]
    simp [h c List.mem_cons_self]
theorem nxt_split (p q : List UInt8) (h : ∀ c ∈ q, c ≠ 48) : nxt (p ++ 48 :: q) = some (p ++ 49 :: List.replicate q.length 48) := by
  induction p with
  | nil => rw [List.nil_append, nxt, nxt_none h]; simp
  | cons c p ih => rw [List.cons_append, nxt, ih]; rfl
def nextB (l : List UInt8) : List UInt8 × Bool :=
  if isB l then (match nxt l with
    | some x => (x, true)
    | none => if l.length < 1024 then (List.replicate (l.length + 1) 48, true) else ([], false)) else ([], false)
theorem nxt_ones {l : List UInt8} (hb : bitsL l = true) (h : nxt l = none) : l = List.replicate l.length 49 := by
  induction l with
  | nil => rfl
  | cons c l ih =>
    rw [bitsL_cons, Bool.and_eq_true] at hb
    rw [nxt] at h
    cases hn : nxt l with
    | some r => rw [hn] at h; cases h
    | none =>
      rw [hn] at h
      have e : c ≠ 48 := fun e => by rw [e] at h; cases h
      have e' : c = 49 := (isbit_iff.1 hb.1).resolve_left e
      rw [List.length_cons, List.replicate_succ, ← ih hb.2 hn, e']
theorem nxt_some {l x : List UInt8} (hb : bitsL l = true) (h : nxt l = some x) : numB x = numB l + 1 ∧ x.length = l.length ∧ bitsL x = true := by
  induction l generalizing x with
  | nil => cases h
  | cons c l ih =>
    rw [bitsL_cons, Bool.and_eq_true] at hb
    rw [nxt] at h
    cases hn : nxt l with
    | some r =>
      rw [hn] at h
      obtain rfl : c :: r = x := by simpa using h
      obtain ⟨h1, h2, h3⟩ := ih hb.2 hn
      refine ⟨?_, by simp [h2], by rw [bitsL_cons, hb.1, h3]; rfl⟩
      rw [numB, numB, h1, h2]; omega
    | none =>
      rw [hn] at h
      by_cases e : c = 48
      · subst e
        obtain rfl : 49 :: List.replicate l.length 48 = x := by simpa using h
        refine ⟨?_, by simp, by rw [bitsL_cons, bitsL_rep _ (by decide)]; rfl⟩
        rw [numB, numB, numB_zeros, List.length_replicate]
        have hone : numB l + 1 = 2 ^ l.length := by
          have := numB_ones l.length
          rwa [← nxt_ones hb.2 hn] at this
        have e1 : (49 : UInt8).toNat - 48 = 1 := rfl
        have e2 : (48 : UInt8).toNat - 48 = 0 := rfl
        rw [e1, e2]; omega
      · simp [e] at h
/-- what the next one is, in numbers -/
theorem nextB_no {l : List UInt8} (h : isB l = false) : nextB l = ([], false) := by unfold nextB; rw [h]; rfl
theorem nextB_in {l x : List UInt8} (h : isB l = true) (hn : nxt l = some x) : nextB l = (x, true) := by unfold nextB; rw [h, hn]; rfl
theorem nextB_up {l : List UInt8} (h : isB l = true) (hn : nxt l = none) (hl : l.length < 1024) : nextB l = (List.replicate (l.length + 1) 48, true) := by unfold nextB; rw [h, hn]; simp [hl]
theorem nextB_top {l : List UInt8} (h : isB l = true) (hn : nxt l = none) (hl : ¬ l.length < 1024) : nextB l = ([], false) := by unfold nextB; rw [h, hn]; simp [hl]
/-! the parts -/
def cutB (l : List UInt8) (at' n : Nat) : List UInt8 := l.take at' ++ l.drop (at' + n)
def clearB (l : List UInt8) (at' n : Nat) : List UInt8 := l.take at' ++ List.replicate n 48 ++ l.drop (at' + n)
def downB (l : List UInt8) (at' : Nat) : List UInt8 := l.take at' ++ [48] ++ List.replicate (l.length - at' - 1) 49
/-- is there a part of n bitsL at a place -/
def isPart (l : List UInt8) (at' n : Int) : Prop := 0 ≤ at' ∧ 1 ≤ n ∧ at' + n ≤ l.length
instance (l : List UInt8) (a n : Int) : Decidable (isPart l a n) := by unfold isPart; infer_instance
/-- what the error of a part is -/
def partE (l : List UInt8) (at' n : Int) : Int := if isB l then (if isPart l at' n then 0 else 1) else 3
theorem rep_snoc (n : Nat) (c : UInt8) : List.replicate n c ++ [c] = List.replicate (n + 1) c := (List.replicate_succ' (n := n) (a := c)).symm
theorem repeatL_one (c : UInt8) (n : Nat) : Lib.repeatL [c] n = List.replicate n c := by
  induction n with
  | zero => rfl
  | succ n ih => rw [Lib.repeatL, ih]; rfl
end N
end Go.Proofs.YtfdpddlefobcpaaGreatDoor
