/- Gathered: WordMath, WordDivMath, NatMath, NatMath2, DecMath, QuoMath, QuoRound, DecGroup. -/
import Derived.Lib.BitFns
import Derived.Lib.ItoaNum
import GoSem.Op.String
import Derived.OwnWalkIn
import Derived.OrdersIn
import Derived.OrdersHeld
import Derived.Deep.RegionHeld
import Derived.RangeFuncCalls
import Derived.Lib.SlTrimSet
/- Plain arithmetic on words of 64 bits (Int): what the calls of layer 1 answer, and the laws of it. No program, no walk. -/
namespace Go.Proofs.YtfdpddlefobcpaaGreatDoor
set_option linter.unusedVariables false
set_option maxRecDepth 20000
namespace W
/-- a word -/
def Wd (x : Int) : Prop := 0 ≤ x ∧ x < 18446744073709551616
/-- the sum modulo 2^64; what is carried -/
def addS (a b c : Int) : Int := (a + b + min c 1) % 18446744073709551616
def addC (a b c : Int) : Int := (a + b + min c 1) / 18446744073709551616
def subS (a b c : Int) : Int := (a - b - min c 1) % 18446744073709551616
def subC (a b c : Int) : Int := -((a - b - min c 1) / 18446744073709551616)
def mulH (a b : Int) : Int := a * b / 18446744073709551616
def mulL (a b : Int) : Int := a * b % 18446744073709551616
def divQ (h l d : Int) : Int := (h * 18446744073709551616 + l) / d
def divR (h l d : Int) : Int := (h * 18446744073709551616 + l) % d
def lenN (n : Nat) : Nat := if n = 0 then 0 else n.log2 + 1
def len (a : Int) : Int := (lenN a.toNat : Int)
def shlH (a n : Int) : Int := a * 2 ^ n.toNat / 18446744073709551616
def shlL (a n : Int) : Int := a * 2 ^ n.toNat % 18446744073709551616
def shr (h l n : Int) : Int := (h * 18446744073709551616 + l) / 2 ^ n.toNat % 18446744073709551616

theorem wd_addS (a b c : Int) : Wd (addS a b c) := by unfold Wd addS; omega
theorem wd_subS (a b c : Int) : Wd (subS a b c) := by unfold Wd subS; omega
theorem wd_addC {a b c : Int} (ha : Wd a) (hb : Wd b) (hc : Wd c) : Wd (addC a b c) := by unfold Wd addC at *; omega
theorem addC_le {a b c : Int} (ha : Wd a) (hb : Wd b) (hc : Wd c) : 0 ≤ addC a b c ∧ addC a b c ≤ 1 := by unfold Wd addC at *; omega
theorem wd_subC {a b c : Int} (ha : Wd a) (hb : Wd b) (hc : Wd c) : Wd (subC a b c) := by unfold Wd subC at *; omega
theorem wd_0 : Wd 0 := by unfold Wd; omega
theorem wd_1 : Wd 1 := by unfold Wd; omega
/-- a product of two words is below 2^128 -/
theorem mul_lt {a b : Int} (ha : Wd a) (hb : Wd b) : 0 ≤ a * b ∧ a * b ≤ 340282366920938463426481119284349108225 := by
  obtain ⟨a0, a1⟩ := ha; obtain ⟨b0, b1⟩ := hb
  refine ⟨Int.mul_nonneg a0 b0, ?_⟩
  have := Int.mul_le_mul (show a ≤ 18446744073709551615 by omega) (show b ≤ 18446744073709551615 by omega) b0 (by omega)
  simpa using this
theorem wd_mulH {a b : Int} (ha : Wd a) (hb : Wd b) : Wd (mulH a b) := by have := mul_lt ha hb; unfold Wd mulH; omega
theorem wd_mulL (a b : Int) : Wd (mulL a b) := by unfold Wd mulL; omega
/-- twice two words -/
theorem dbl {h l T : Int} (hh : Wd h) (hl : Wd l) (e : h * 18446744073709551616 + l = T) (hT : 2 * T < 340282366920938463463374607431768211456) :
    addS h h (addC l l 0) * 18446744073709551616 + addS l l 0 = 2 * T := by
  unfold Wd addS addC at *; omega
/-- a word more -/
theorem plus {h l T a : Int} (hh : Wd h) (hl : Wd l) (ha : Wd a) (e : h * 18446744073709551616 + l = T) (hT : T + a < 340282366920938463463374607431768211456) :
    addS h 0 (addC l a 0) * 18446744073709551616 + addS l a 0 = T + a := by
  unfold Wd addS addC at *; omega
theorem two_words {h l T : Int} (hl : Wd l) (e : h * 18446744073709551616 + l = T) : h = T / 18446744073709551616 ∧ l = T % 18446744073709551616 := by
  unfold Wd at *; omega
theorem pow_succ (k : Nat) : (2 : Int) ^ (k + 1) = 2 * 2 ^ k := by rw [Int.pow_succ]; omega
theorem pow_pos (k : Nat) : (0 : Int) < 2 ^ k := Int.pow_pos (by omega)
theorem div_div2 (b : Int) (k : Nat) : b / 2 ^ (k + 1) = b / 2 ^ k / 2 := by
  rw [Int.pow_succ, Int.ediv_ediv_of_nonneg (Int.le_of_lt (pow_pos k))]
theorem div_le (b : Int) (k : Nat) (hb : 0 ≤ b) : 0 ≤ b / 2 ^ k ∧ b / 2 ^ k ≤ b := ⟨Int.ediv_nonneg hb (Int.le_of_lt (pow_pos k)), Int.ediv_le_self _ hb⟩
/-- the products' step: one bit of b more -/
theorem mul_bit0 (a b : Int) (k : Nat) (h : b / 2 ^ k % 2 = 0) : a * (b / 2 ^ k) = 2 * (a * (b / 2 ^ (k + 1))) := by
  rw [div_div2]
  have : b / 2 ^ k = 2 * (b / 2 ^ k / 2) := by omega
  rw [show a * (b / 2 ^ k) = a * (2 * (b / 2 ^ k / 2)) by rw [← this], Int.mul_left_comm]
theorem mul_bit1 (a b : Int) (k : Nat) (h : b / 2 ^ k % 2 = 1) : a * (b / 2 ^ k) = 2 * (a * (b / 2 ^ (k + 1))) + a := by
  rw [div_div2]
  have : b / 2 ^ k = 2 * (b / 2 ^ k / 2) + 1 := by omega
  rw [show a * (b / 2 ^ k) = a * (2 * (b / 2 ^ k / 2) + 1) by rw [← this], Int.mul_add, Int.mul_left_comm, Int.mul_one]

theorem lenN_spec (n : Nat) : n < 2 ^ lenN n ∧ (lenN n = 0 ∨ 2 ^ (lenN n - 1) ≤ n) := by
  unfold lenN
  split
  · subst_vars; simp
  · rename_i h; exact ⟨Nat.lt_log2_self, Or.inr (by simpa using Nat.log2_self_le h)⟩
theorem pow_unique (n k j : Nat) (h1 : n < 2 ^ k) (h2 : k = 0 ∨ 2 ^ (k - 1) ≤ n) (h3 : n < 2 ^ j) (h4 : j = 0 ∨ 2 ^ (j - 1) ≤ n) : k = j := by
  rcases Nat.lt_trichotomy k j with h | h | h
  · rcases h4 with h4 | h4
    · omega
    · have := Nat.pow_le_pow_right (show 0 < 2 by omega) (show k ≤ j - 1 by omega); omega
  · exact h
  · rcases h2 with h2 | h2
    · omega
    · have := Nat.pow_le_pow_right (show 0 < 2 by omega) (show j ≤ k - 1 by omega); omega
theorem lenN_of (n k : Nat) (h1 : n < 2 ^ k) (h2 : k = 0 ∨ 2 ^ (k - 1) ≤ n) : lenN n = k :=
  pow_unique n _ _ (lenN_spec n).1 (lenN_spec n).2 h1 h2
theorem lt_pow_of (a : Int) (k : Nat) (h : a / 2 ^ k = 0) : a < 2 ^ k := by
  have h1 := Int.mul_ediv_add_emod a (2 ^ k)
  have h2 := Int.emod_lt_of_pos a (pow_pos k)
  rw [h, Int.mul_zero] at h1; omega
theorem pow_le_of (a : Int) (k : Nat) (h : 0 < a / 2 ^ k) : 2 ^ k ≤ a := by
  have := (Int.le_ediv_iff_mul_le (pow_pos k)).1 (show 1 ≤ a / 2 ^ k by omega)
  omega
theorem cast_pow (k : Nat) : ((2 ^ k : Nat) : Int) = 2 ^ k := by simp
theorem len_of (a : Int) (k : Nat) (ha : 0 ≤ a) (h1 : a / 2 ^ k = 0) (h2 : k = 0 ∨ 0 < a / 2 ^ (k - 1)) : len a = k := by
  have g1 := lt_pow_of a k h1
  have g2 : k = 0 ∨ 2 ^ (k - 1) ≤ a := h2.imp id (pow_le_of a _)
  obtain ⟨n, rfl⟩ := Int.eq_ofNat_of_zero_le ha
  unfold len
  rw [Int.toNat_natCast]
  rw [← cast_pow] at g1
  rw [← cast_pow] at g2
  rw [lenN_of n k (by omega) (by omega)]
theorem div_pos_lt (a : Int) (k : Nat) (ha : Wd a) (h : 0 < a / 2 ^ k) : k < 64 := by
  apply Classical.byContradiction
  intro hk
  have h1 := pow_le_of a k h
  have h2 : (2 : Int) ^ 64 ≤ 2 ^ k := by rw [← cast_pow, ← cast_pow]; exact Int.ofNat_le.2 (Nat.pow_le_pow_right (by omega) (by omega))
  unfold Wd at ha
  omega
theorem div_div256 (b : Int) (k : Nat) : b / 2 ^ (k + 8) = b / 2 ^ k / 256 := by
  rw [Int.pow_add, Int.ediv_ediv_of_nonneg (Int.le_of_lt (pow_pos k))]; rfl
theorem div_div128 (b : Int) (k : Nat) : b / 2 ^ (k + 7) = b / 2 ^ k / 128 := by
  rw [Int.pow_add, Int.ediv_ediv_of_nonneg (Int.le_of_lt (pow_pos k))]; rfl

theorem pow_split (m : Nat) (h : m ≤ 64) : (18446744073709551616 : Int) = 2 ^ (64 - m) * 2 ^ m := by
  rw [← Int.pow_add, show 64 - m + m = 64 by omega]; rfl
theorem shlH_eq (a n : Int) (h0 : 0 ≤ n) (h1 : n ≤ 64) : shlH a n = a / 2 ^ (64 - n).toNat := by
  obtain ⟨m, rfl⟩ := Int.eq_ofNat_of_zero_le h0
  unfold shlH
  rw [show ((64 : Int) - m).toNat = 64 - m by omega, Int.toNat_natCast, pow_split m (by omega), Int.mul_comm a, Int.mul_comm (2 ^ (64 - m)), Int.mul_ediv_mul_of_pos _ _ (pow_pos m)]
theorem wd_shlH {a n : Int} (ha : Wd a) (h0 : 0 ≤ n) (h1 : n ≤ 64) : Wd (shlH a n) := by
  rw [shlH_eq a n h0 h1]
  obtain ⟨g0, g1⟩ := ha
  have := div_le a (64 - n).toNat g0
  unfold Wd; omega
theorem wd_shlL (a n : Int) : Wd (shlL a n) := by unfold Wd shlL; omega
theorem wd_shr (h l n : Int) : Wd (shr h l n) := by unfold Wd shr; omega
theorem nat_or (x y k : Nat) (h : y < 2 ^ k) : y ||| x * 2 ^ k = x * 2 ^ k + y := by
  rw [Nat.mul_comm, Nat.or_comm, ← Nat.two_pow_add_eq_or_of_lt h]
/-- two words, divided by 2 to the power of n: what the low one keeps, and what comes down from the high one -/
theorem shr_eq (h l n : Int) (hl : Wd l) (h0 : 0 ≤ n) (h1 : n ≤ 64) :
    shr h l n = h * 2 ^ (64 - n).toNat % 18446744073709551616 + l / 2 ^ n.toNat ∧ ∃ x y k : Nat, h * 2 ^ (64 - n).toNat % 18446744073709551616 = ((x * 2 ^ k : Nat) : Int) ∧ l / 2 ^ n.toNat = (y : Int) ∧ y < 2 ^ k ∧ x * 2 ^ k + y < 18446744073709551616 := by
  obtain ⟨m, rfl⟩ := Int.eq_ofNat_of_zero_le h0
  obtain ⟨g0, g1⟩ := hl
  rw [show ((64 : Int) - m).toNat = 64 - m by omega, Int.toNat_natCast]
  have hp := pow_pos m
  have hq := pow_pos (64 - m)
  have hs := pow_split m (by omega)
  have e1 : h * 2 ^ (64 - m) % 18446744073709551616 = h % 2 ^ m * 2 ^ (64 - m) := by
    rw [hs, Int.mul_comm h, Int.mul_emod_mul_of_pos _ _ hq, Int.mul_comm]
  have e2 : l / 2 ^ m < 2 ^ (64 - m) := by
    refine Int.ediv_lt_of_lt_mul hp ?_
    rw [← hs]; exact g1
  have e3 : 0 ≤ l / 2 ^ m := Int.ediv_nonneg g0 (Int.le_of_lt hp)
  have e4 : (h * 18446744073709551616 + l) / 2 ^ m = h * 2 ^ (64 - m) + l / 2 ^ m := by
    rw [hs, ← Int.mul_assoc, Int.add_comm, Int.add_mul_ediv_right _ _ (Int.ne_of_gt hp), Int.add_comm]
  have e5 : 0 ≤ h % 2 ^ m := Int.emod_nonneg _ (Int.ne_of_gt hp)
  have e6 : h % 2 ^ m < 2 ^ m := Int.emod_lt_of_pos _ hp
  have e7 : h % 2 ^ m * 2 ^ (64 - m) + l / 2 ^ m < 18446744073709551616 := by
    have h8 : (h % 2 ^ m + 1) * 2 ^ (64 - m) ≤ 2 ^ m * 2 ^ (64 - m) := Int.mul_le_mul_of_nonneg_right (by omega) (Int.le_of_lt hq)
    rw [Int.add_mul, Int.one_mul, Int.mul_comm (2 ^ m) (2 ^ (64 - m)), ← hs] at h8
    omega
  have e8 : 0 ≤ h % 2 ^ m * 2 ^ (64 - m) := Int.mul_nonneg e5 (Int.le_of_lt hq)
  refine ⟨?_, (h % 2 ^ m).toNat, (l / 2 ^ m).toNat, 64 - m, ?_, ?_, ?_, ?_⟩
  · unfold shr
    rw [Int.toNat_natCast, e4, Int.add_emod, e1, Int.emod_eq_of_lt e3 (by omega), Int.emod_eq_of_lt (by omega) e7]
  · rw [e1, Int.natCast_mul, cast_pow, Int.toNat_of_nonneg e5]
  · rw [Int.toNat_of_nonneg e3]
  · rw [← Int.ofNat_lt, Int.toNat_of_nonneg e3, cast_pow]; exact e2
  · rw [← Int.ofNat_lt, Int.natCast_add, Int.natCast_mul, cast_pow, Int.toNat_of_nonneg e3, Int.toNat_of_nonneg e5]; exact e7
/-- one place more -/
theorem shr_step (h l : Int) (k : Nat) (hl : Wd l) : shr h l ((k + 1 : Nat) : Int) = shr h l (k : Int) / 2 + h / 2 ^ k % 2 * 9223372036854775808 := by
  have hp := pow_pos k
  obtain ⟨l0, l1⟩ := hl
  unfold shr
  rw [Int.toNat_natCast, Int.toNat_natCast, div_div2]
  have e1 : (h * 18446744073709551616 + l) / 2 ^ k / 18446744073709551616 = (h * 18446744073709551616 + l) / 18446744073709551616 / 2 ^ k := by
    rw [Int.ediv_ediv_of_nonneg (Int.le_of_lt hp), Int.ediv_ediv_of_nonneg (by omega), Int.mul_comm (2 ^ k)]
  have e2 : (h * 18446744073709551616 + l) / 18446744073709551616 = h := by omega
  rw [e2] at e1
  generalize (h * 18446744073709551616 + l) / 2 ^ k = X at *
  generalize h / 2 ^ k = Y at *
  omega

theorem shl_lt (a : Int) (ha : Wd a) (k : Nat) (hk : k ≤ 64) : 0 ≤ a * 2 ^ k ∧ a * 2 ^ k < 340282366920938463463374607431768211456 := by
  obtain ⟨a0, a1⟩ := ha
  have hp := pow_pos k
  have hq : (2 : Int) ^ k ≤ 18446744073709551616 := by
    have := pow_split k hk
    have h2 := pow_pos (64 - k)
    rw [this]
    have := Int.mul_le_mul_of_nonneg_right (show (1 : Int) ≤ 2 ^ (64 - k) by omega) (Int.le_of_lt hp)
    omega
  refine ⟨Int.mul_nonneg a0 (Int.le_of_lt hp), ?_⟩
  have h3 := Int.mul_le_mul_of_nonneg_right (show a ≤ 18446744073709551615 by omega) (Int.le_of_lt hp)
  omega

theorem div_le' (a d : Int) (ha : 0 ≤ a) (hd : 0 < d) : 0 ≤ a / d ∧ a / d ≤ a := ⟨Int.ediv_nonneg ha (Int.le_of_lt hd), Int.ediv_le_self _ ha⟩
end W
end Go.Proofs.YtfdpddlefobcpaaGreatDoor
/- Plain arithmetic of the division of two words by one, with two guesses of half a word each (Knuth's Algorithm D as math/bits has it). -/
namespace Go.Proofs.YtfdpddlefobcpaaGreatDoor
set_option linter.unusedVariables false
set_option maxRecDepth 20000
namespace W
/-- the guess is not too low -/
theorem d_start {u v y1 y0 Q : Int} (hu : 0 ≤ u) (hv0 : 0 ≤ v) (hv : v < 4294967296) (h1 : 2147483648 ≤ y1) (h0 : 0 ≤ y0) (huY : u < y1 * 4294967296 + y0)
    (hQ : Q = (u * 4294967296 + v) / (y1 * 4294967296 + y0)) : Q ≤ u / y1 ∧ 0 ≤ Q ∧ Q < 4294967296 := by
  subst hQ
  have hY : 0 < y1 * 4294967296 + y0 := by omega
  have e0 : 0 ≤ (u * 4294967296 + v) / (y1 * 4294967296 + y0) := Int.ediv_nonneg (by omega) (by omega)
  refine ⟨?_, e0, ?_⟩
  · have h := Int.ediv_mul_le (u * 4294967296 + v) (b := y1 * 4294967296 + y0) (by omega)
    generalize (u * 4294967296 + v) / (y1 * 4294967296 + y0) = Q at *
    rw [Int.le_ediv_iff_mul_le (by omega)]
    have h2 : Q * (y1 * 4294967296 + y0) = (Q * y1) * 4294967296 + Q * y0 := by grind
    have h3 : 0 ≤ Q * y0 := Int.mul_nonneg e0 h0
    rw [h2] at h
    generalize Q * y1 = A at *
    generalize Q * y0 = B at *
    omega
  · refine Int.ediv_lt_of_lt_mul hY ?_
    omega
theorem d_le {u v Y q Q : Int} (hY : 0 < Y) (hQ : Q = (u * 4294967296 + v) / Y) (h : q * Y ≤ u * 4294967296 + v) : q ≤ Q := by
  subst hQ; exact (Int.le_ediv_iff_mul_le hY).2 h
theorem d_gt {u v Y q Q : Int} (hY : 0 < Y) (hQ : Q = (u * 4294967296 + v) / Y) (h : u * 4294967296 + v < q * Y) : Q < q := by
  subst hQ; exact Int.ediv_lt_of_lt_mul hY h
theorem d_prod {u y1 y0 q r : Int} (e : q * y1 + r = u) : q * (y1 * 4294967296 + y0) = (u - r) * 4294967296 + q * y0 := by
  subst e; grind
theorem d_down {u v y1 y0 q r Q : Int} (h1 : 2147483648 ≤ y1) (h0 : 0 ≤ y0) (hQ : Q = (u * 4294967296 + v) / (y1 * 4294967296 + y0)) (e : q * y1 + r = u)
    (h : 4294967296 * r + v < q * y0) : Q ≤ q - 1 := by
  have g := d_gt (q := q) (show 0 < y1 * 4294967296 + y0 by omega) hQ (by rw [d_prod e]; omega)
  omega
theorem d_stop {u v y1 y0 q r Q : Int} (h1 : 2147483648 ≤ y1) (h0 : 0 ≤ y0) (hQ : Q = (u * 4294967296 + v) / (y1 * 4294967296 + y0)) (e : q * y1 + r = u)
    (hq : Q ≤ q) (h : q * y0 ≤ 4294967296 * r + v) : q = Q := by
  have g := d_le (q := q) (show 0 < y1 * 4294967296 + y0 by omega) hQ (by rw [d_prod e]; omega)
  omega
theorem d_break {u v y1 y0 q r Q : Int} (hv0 : 0 ≤ v) (h1 : 2147483648 ≤ y1) (h0 : 0 ≤ y0) (h0' : y0 < 4294967296) (hQ : Q = (u * 4294967296 + v) / (y1 * 4294967296 + y0)) (e : q * y1 + r = u)
    (hQ0 : 0 ≤ Q) (hq : Q ≤ q) (huY : u < y1 * 4294967296 + y0) (hr : 4294967296 ≤ r) : q = Q := by
  have hlt : q < 4294967296 := by
    apply Classical.byContradiction
    intro hn
    have := Int.mul_le_mul_of_nonneg_right (show 4294967296 ≤ q by omega) (show 0 ≤ y1 by omega)
    omega
  have hp : q * y0 ≤ 4294967295 * 4294967295 := Int.mul_le_mul (by omega) (by omega) h0 (by omega)
  exact d_stop h1 h0 hQ e hq (by omega)
/-- of a guess that has been found: no product is greater than a word -/
theorem d_small {q y0 : Int} (hq : 0 ≤ q) (hq' : q < 4294967296) (h0 : 0 ≤ y0) (h0' : y0 < 4294967296) : 0 ≤ q * y0 ∧ q * y0 ≤ 18446744065119617025 :=
  ⟨Int.mul_nonneg hq h0, Int.mul_le_mul (c := 4294967295) (d := 4294967295) (by omega) (by omega) h0 (by omega)⟩
/-- what is left of a step -/
theorem d_rest {u v Y Q : Int} (hY : 0 < Y) (hQ : Q = (u * 4294967296 + v) / Y) : u * 4294967296 + v - Q * Y = (u * 4294967296 + v) % Y ∧ 0 ≤ u * 4294967296 + v - Q * Y ∧ u * 4294967296 + v - Q * Y < Y := by
  subst hQ
  have h1 := Int.mul_ediv_add_emod (u * 4294967296 + v) Y
  have h2 := Int.emod_nonneg (u * 4294967296 + v) (b := Y) (by omega)
  have h3 := Int.emod_lt_of_pos (u * 4294967296 + v) hY
  rw [Int.mul_comm] at h1
  omega
/-- both steps: the quotient and what is left, of what was shifted -/
theorem d_all {N y P Q1 Q0 R1 R0 U1 un1 un0 : Int} (hy : 0 < y) (hP : 0 < P) (hN : N * P = U1 * 18446744073709551616 + un1 * 4294967296 + un0)
    (e1 : U1 * 4294967296 + un1 - Q1 * (y * P) = R1) (e0 : R1 * 4294967296 + un0 - Q0 * (y * P) = R0) (h0 : 0 ≤ R0) (hR : R0 < y * P) :
    Q1 * 4294967296 + Q0 = N / y ∧ R0 / P = N % y := by
  have h : N * P = (Q1 * 4294967296 + Q0) * y * P + R0 := by subst e0; subst e1; rw [hN]; grind
  have h2 : R0 = (N - (Q1 * 4294967296 + Q0) * y) * P := by rw [Int.sub_mul]; omega
  generalize Q1 * 4294967296 + Q0 = q at *
  have h3 : R0 / P = N - q * y := by rw [h2]; exact Int.mul_ediv_cancel _ (Int.ne_of_gt hP)
  have h4 : 0 ≤ N - q * y := by rw [← h3]; exact Int.ediv_nonneg h0 (Int.le_of_lt hP)
  have h5 : N - q * y < y := by rw [← h3]; exact Int.ediv_lt_of_lt_mul hP hR
  have h6 := Int.mul_ediv_add_emod N y
  have h7 : N = N - q * y + q * y := by omega
  have h8 : N / y = q := by
    rw [h7, Int.add_mul_ediv_right _ _ (Int.ne_of_gt hy), Int.ediv_eq_zero_of_lt h4 h5]; omega
  refine ⟨h8.symm, ?_⟩
  rw [h3]
  rw [h8, Int.mul_comm] at h6
  omega
/-- a word, shifted to the left end -/
theorem d_norm {y : Int} (h0 : 0 < y) (hy : y < 18446744073709551616) : ∃ s : Nat, len y = 64 - s ∧ s ≤ 63 ∧ 9223372036854775808 ≤ y * 2 ^ s ∧ y * 2 ^ s < 18446744073709551616 := by
  obtain ⟨n, rfl⟩ := Int.eq_ofNat_of_zero_le (Int.le_of_lt h0)
  have h := lenN_spec n
  have hl : lenN n ≤ 64 := by
    have : ¬ 64 < lenN n := by
      intro hc
      rcases h.2 with h2 | h2
      · omega
      · have := Nat.pow_le_pow_right (show 0 < 2 by omega) (show 64 ≤ lenN n - 1 by omega); omega
    omega
  have hp : 1 ≤ lenN n := by
    rcases Nat.eq_zero_or_pos (lenN n) with h2 | h2
    · rw [h2] at h; omega
    · exact h2
  refine ⟨64 - lenN n, ?_, by omega, ?_, ?_⟩
  · unfold len; rw [Int.toNat_natCast]; omega
  · have h2 : 2 ^ (lenN n - 1) ≤ n := by rcases h.2 with h2 | h2 <;> omega
    have h3 := Nat.mul_le_mul_right (2 ^ (64 - lenN n)) h2
    rw [← Nat.pow_add, show lenN n - 1 + (64 - lenN n) = 63 by omega] at h3
    rw [← cast_pow, ← Int.natCast_mul]; omega
  · have h3 := Nat.mul_lt_mul_of_pos_right h.1 (Nat.two_pow_pos (64 - lenN n))
    rw [← Nat.pow_add, show lenN n + (64 - lenN n) = 64 by omega] at h3
    rw [← cast_pow, ← Int.natCast_mul]; omega
/-- two words, shifted to the left by what the divisor is shifted -/
theorem d_shift {hi lo y : Int} {s : Nat} (hs : s ≤ 63) (h0 : 0 ≤ hi) (hl : Wd lo) (hy : hi < y) (hY : y * 2 ^ s < 18446744073709551616) :
    0 ≤ hi * 2 ^ s ∧ hi * 2 ^ s < 18446744073709551616 ∧ 0 ≤ lo / 2 ^ (64 - s) ∧ (∃ x z : Nat, hi * 2 ^ s = ((x * 2 ^ s : Nat) : Int) ∧ lo / 2 ^ (64 - s) = (z : Int) ∧ z < 2 ^ s) ∧
    hi * 2 ^ s + lo / 2 ^ (64 - s) < y * 2 ^ s ∧ (hi * 18446744073709551616 + lo) * 2 ^ s = (hi * 2 ^ s + lo / 2 ^ (64 - s)) * 18446744073709551616 + lo * 2 ^ s % 18446744073709551616 := by
  obtain ⟨l0, l1⟩ := hl
  have hp := pow_pos s
  have hq := pow_pos (64 - s)
  have hs' := pow_split s (by omega)
  have a1 : 0 ≤ hi * 2 ^ s := Int.mul_nonneg h0 (Int.le_of_lt hp)
  have a2 : (hi + 1) * 2 ^ s ≤ y * 2 ^ s := Int.mul_le_mul_of_nonneg_right (by omega) (Int.le_of_lt hp)
  rw [Int.add_mul, Int.one_mul] at a2
  have a3 : 0 ≤ lo / 2 ^ (64 - s) := Int.ediv_nonneg l0 (Int.le_of_lt hq)
  have a4 : lo / 2 ^ (64 - s) < 2 ^ s := Int.ediv_lt_of_lt_mul hq (by rw [Int.mul_comm, ← hs']; exact l1)
  refine ⟨a1, by omega, a3, ⟨hi.toNat, (lo / 2 ^ (64 - s)).toNat, ?_, ?_, ?_⟩, by omega, ?_⟩
  · rw [Int.natCast_mul, cast_pow, Int.toNat_of_nonneg h0]
  · rw [Int.toNat_of_nonneg a3]
  · rw [← Int.ofNat_lt, Int.toNat_of_nonneg a3, cast_pow]; exact a4
  · have b1 : lo * 2 ^ s / 18446744073709551616 = lo / 2 ^ (64 - s) := by
      rw [hs', Int.mul_comm lo, Int.mul_comm (2 ^ (64 - s)), Int.mul_ediv_mul_of_pos _ _ hp]
    have b2 := Int.mul_ediv_add_emod (lo * 2 ^ s) 18446744073709551616
    rw [b1] at b2
    have b3 : (hi * 18446744073709551616 + lo) * 2 ^ s = hi * 2 ^ s * 18446744073709551616 + lo * 2 ^ s := by grind
    rw [b3, Int.add_mul]
    omega

/-- long division, bit by bit: what the next bit makes of the number -/
theorem r_bit (h l : Int) (j : Nat) (hj : j < 64) (c : Int) (hc : l / 2 ^ j % 2 = c) : (h * 18446744073709551616 + l) / 2 ^ j = 2 * ((h * 18446744073709551616 + l) / 2 ^ (j + 1)) + c := by
  have e : (h * 18446744073709551616 + l) / 2 ^ j % 2 = c := by
    have hs := pow_split j (by omega)
    have hp := pow_pos j
    rw [hs, ← Int.mul_assoc, Int.add_comm, Int.add_mul_ediv_right _ _ (Int.ne_of_gt hp), show 64 - j = (63 - j) + 1 by omega, Int.pow_succ, ← Int.mul_assoc h]
    omega
  rw [div_div2]; omega
/-- the step that takes the divisor off -/
theorem r_yes {q r d c N N' : Int} (hd : 0 < d) (hc : 0 ≤ c ∧ c ≤ 1) (e : q * d + r = N) (hN : N' = 2 * N + c) (hge : d ≤ 2 * r + c) :
    (2 * q + 1) * d + (2 * r + c - d) = N' := by subst hN; subst e; grind
theorem r_no {q r d c N N' : Int} (e : q * d + r = N) (hN : N' = 2 * N + c) : (2 * q) * d + (2 * r + c) = N' := by subst hN; subst e; grind
theorem r_lt {q r d N T : Int} (hd : 0 < d) (hr : 0 ≤ r) (e : q * d + r = N) (hN : N ≤ T) (hT : T < d * 18446744073709551616) : q < 18446744073709551616 := by
  apply Classical.byContradiction
  intro hn
  have := Int.mul_le_mul_of_nonneg_right (show 18446744073709551616 ≤ q by omega) (Int.le_of_lt hd)
  rw [Int.mul_comm 18446744073709551616] at this
  omega
theorem r_unique {q r d N : Int} (hd : 0 < d) (e : q * d + r = N) (h0 : 0 ≤ r) (h1 : r < d) : q = N / d ∧ r = N % d := by
  subst e
  rw [Int.add_comm, Int.add_mul_ediv_right _ _ (Int.ne_of_gt hd), Int.ediv_eq_zero_of_lt h0 h1, Int.add_mul_emod_self_right, Int.emod_eq_of_lt h0 h1]
  omega
theorem two_lt {h l d : Int} (hh : 0 ≤ h) (hl : Wd l) (hlt : h < d) : h * 18446744073709551616 + l < d * 18446744073709551616 := by
  unfold Wd at hl; omega
/-- what the sum of what is left, twice, and a bit, tells -/
theorem r_out {r d c : Int} (hr : 0 ≤ r) (hrd : r < d) (hd : d < 18446744073709551616) (hc : 0 ≤ c ∧ c ≤ 1) :
    (2 * r + c < d → addS r r c = 2 * r + c ∧ (addC r r c == 1) = false ∧ ¬ d ≤ addS r r c) ∧
    (d ≤ 2 * r + c → subS (addS r r c) d 0 = 2 * r + c - d) ∧
    (18446744073709551616 ≤ 2 * r + c → (addC r r c == 1) = true) ∧
    (2 * r + c < 18446744073709551616 → addS r r c = 2 * r + c ∧ (addC r r c == 1) = false) := by
  have e : min c 1 = c := by omega
  unfold addS addC subS
  rw [e]
  simp only [beq_iff_eq, beq_eq_false_iff_ne]
  refine ⟨fun _ => ⟨by omega, by omega, by omega⟩, fun _ => by omega, fun _ => by omega, fun _ => ⟨by omega, by omega⟩⟩
end W
end Go.Proofs.YtfdpddlefobcpaaGreatDoor
/- Plain arithmetic on rows of digits to a base (Int): values, what is cut at the end, the canonical digits. No program, no walk. -/
namespace Go.Proofs.YtfdpddlefobcpaaGreatDoor
set_option linter.unusedVariables false
set_option maxRecDepth 20000
namespace N
/-- the place j of a row; 0 beyond it -/
def lim (xs : List Int) (j : Nat) : Int := xs.getD j 0
def Q (b : Int) (i : Nat) : Int := b ^ i
/-- the value of a row to the base b -/
def val (b : Int) : List Int → Int
  | [] => 0
  | x :: t => x + b * val b t
/-- each place is a digit -/
def Dg (b : Int) (xs : List Int) : Prop := ∀ x ∈ xs, 0 ≤ x ∧ x < b
/-- how many places are left without 0s at the end -/
def nn : List Int → Nat
  | [] => 0
  | x :: t => if x = 0 ∧ nn t = 0 then 0 else nn t + 1
/-- the value of the i lowest places -/
def lo (b : Int) (xs : List Int) (i : Nat) : Int := val b (xs.take i)

theorem Q_zero (b : Int) : Q b 0 = 1 := by simp [Q]
theorem Q_succ (b : Int) (i : Nat) : Q b (i + 1) = Q b i * b := Int.pow_succ ..
theorem Q_succ' (b : Int) (i : Nat) : Q b (i + 1) = b * Q b i := by rw [Q_succ, Int.mul_comm]
theorem Q_add (b : Int) (i j : Nat) : Q b (i + j) = Q b i * Q b j := Int.pow_add ..
theorem Q_pos {b : Int} (hb : 0 < b) (i : Nat) : 0 < Q b i := Int.pow_pos hb
theorem lim_nil (j : Nat) : lim [] j = 0 := by simp [lim]
theorem lim_cons_zero (x : Int) (t : List Int) : lim (x :: t) 0 = x := by simp [lim]
theorem lim_cons_succ (x : Int) (t : List Int) (j : Nat) : lim (x :: t) (j + 1) = lim t j := by simp [lim]
theorem lim_over (xs : List Int) (j : Nat) (h : xs.length ≤ j) : lim xs j = 0 := by simp [lim, List.getD, List.getElem?_eq_none h]
theorem lim_lt (xs : List Int) (j : Nat) (h : j < xs.length) : lim xs j = xs[j] := by simp [lim, List.getD, List.getElem?_eq_getElem h]
theorem lim_get? (xs : List Int) (j : Nat) (h : j < xs.length) : xs[j]? = some (lim xs j) := by rw [lim_lt xs j h, List.getElem?_eq_getElem h]
theorem Dg.lim {b : Int} {xs : List Int} (hb : 0 < b) (h : Dg b xs) (j : Nat) : 0 ≤ lim xs j ∧ lim xs j < b := by
  by_cases hj : j < xs.length
  · rw [lim_lt xs j hj]; exact h _ (List.getElem_mem hj)
  · rw [lim_over xs j (by omega)]; omega
theorem Dg.nil {b : Int} : Dg b [] := by intro x hx; cases hx
theorem Dg.cons {b x : Int} {t : List Int} (h0 : 0 ≤ x) (h1 : x < b) (h : Dg b t) : Dg b (x :: t) := by
  intro y hy
  rcases List.mem_cons.1 hy with e | e
  · subst e; exact ⟨h0, h1⟩
  · exact h y e
theorem Dg.of_cons {b x : Int} {t : List Int} (h : Dg b (x :: t)) : (0 ≤ x ∧ x < b) ∧ Dg b t := ⟨h x (by simp), fun y hy => h y (by simp [hy])⟩
theorem Dg.set {b : Int} {xs : List Int} (h : Dg b xs) (k : Nat) {v : Int} (h0 : 0 ≤ v) (h1 : v < b) : Dg b (xs.set k v) := by
  intro y hy
  rcases List.mem_or_eq_of_mem_set hy with e | e
  · exact h y e
  · subst e; exact ⟨h0, h1⟩
theorem Dg.take {b : Int} {xs : List Int} (h : Dg b xs) (k : Nat) : Dg b (xs.take k) := fun y hy => h y (List.mem_of_mem_take hy)
theorem Dg.drop {b : Int} {xs : List Int} (h : Dg b xs) (k : Nat) : Dg b (xs.drop k) := fun y hy => h y (List.mem_of_mem_drop hy)
theorem Dg.append {b : Int} {xs ys : List Int} (h : Dg b xs) (h' : Dg b ys) : Dg b (xs ++ ys) := by
  intro y hy
  rcases List.mem_append.1 hy with e | e
  · exact h y e
  · exact h' y e
theorem Dg.zeros {b : Int} (hb : 0 < b) (n : Nat) : Dg b (List.replicate n 0) := by
  intro y hy; rw [List.eq_of_mem_replicate hy]; omega
theorem Dg.one {b v : Int} (h0 : 0 ≤ v) (h1 : v < b) : Dg b [v] := Dg.cons h0 h1 Dg.nil

theorem val_nonneg {b : Int} (hb : 0 < b) : ∀ {xs : List Int}, Dg b xs → 0 ≤ val b xs
  | [], _ => by simp [val]
  | x :: t, h => by
    have h1 := h.of_cons
    have h2 := val_nonneg hb h1.2
    have h3 : 0 ≤ b * val b t := Int.mul_nonneg (by omega) h2
    unfold val; omega
theorem val_lt {b : Int} (hb : 0 < b) : ∀ {xs : List Int}, Dg b xs → val b xs < Q b xs.length
  | [], _ => by simp [val, Q]
  | x :: t, h => by
    have h1 := h.of_cons
    have h2 := val_lt hb h1.2
    have h3 : b * val b t ≤ b * (Q b t.length - 1) := Int.mul_le_mul_of_nonneg_left (by omega) (by omega)
    rw [Int.mul_sub, Int.mul_one] at h3
    rw [List.length_cons, Q_succ']
    unfold val; omega
theorem val_append (b : Int) : ∀ xs ys : List Int, val b (xs ++ ys) = val b xs + Q b xs.length * val b ys
  | [], ys => by simp [val, Q]
  | x :: t, ys => by
    rw [List.cons_append]
    show x + b * val b (t ++ ys) = x + b * val b t + Q b (x :: t).length * val b ys
    rw [val_append b t ys, List.length_cons, Q_succ', Int.mul_add, Int.mul_assoc]; omega
theorem val_zeros (b : Int) : ∀ n, val b (List.replicate n 0) = 0
  | 0 => rfl
  | n + 1 => by rw [List.replicate_succ]; unfold val; rw [val_zeros b n]; simp
theorem val_set (b : Int) : ∀ (xs : List Int) (k : Nat) (v : Int), k < xs.length → val b (xs.set k v) = val b xs + (v - lim xs k) * Q b k
  | [], k, v, h => by simp at h
  | x :: t, 0, v, h => by rw [List.set_cons_zero, lim_cons_zero, Q_zero]; unfold val; omega
  | x :: t, k + 1, v, h => by
    rw [List.set_cons_succ, lim_cons_succ, Q_succ']; unfold val
    rw [val_set b t k v (by simpa using h), Int.mul_add]
    rw [show b * ((v - lim t k) * Q b k) = (v - lim t k) * (b * Q b k) by rw [Int.mul_left_comm]]; omega
theorem lim_set (xs : List Int) (k j : Nat) (v : Int) (hk : k < xs.length) : lim (xs.set k v) j = if j = k then v else lim xs j := by
  unfold lim
  simp only [List.getD, List.getElem?_set]
  split <;> rename_i h
  · subst h; simp
  · rw [if_neg (by omega)]
theorem lim_zeros (n j : Nat) : lim (List.replicate n 0) j = 0 := by
  unfold lim
  simp only [List.getD, List.getElem?_replicate]
  split <;> rfl
theorem lim_take (xs : List Int) (i j : Nat) : lim (xs.take i) j = if j < i then lim xs j else 0 := by
  unfold lim
  simp only [List.getD, List.getElem?_take]
  split <;> rfl
theorem lim_drop (xs : List Int) (i j : Nat) : lim (xs.drop i) j = lim xs (i + j) := by
  unfold lim; simp only [List.getD, List.getElem?_drop]
theorem lim_append (xs ys : List Int) (j : Nat) : lim (xs ++ ys) j = if j < xs.length then lim xs j else lim ys (j - xs.length) := by
  unfold lim
  simp only [List.getD]
  split <;> rename_i h
  · rw [List.getElem?_append_left h]
  · rw [List.getElem?_append_right (by omega)]
theorem take_all (xs : List Int) (i : Nat) (h : xs.length ≤ i) : xs.take i = xs := List.take_of_length_le h
theorem lo_zero (b : Int) (xs : List Int) : lo b xs 0 = 0 := by simp [lo, val]
theorem lo_all (b : Int) (xs : List Int) (i : Nat) (h : xs.length ≤ i) : lo b xs i = val b xs := by rw [lo, take_all xs i h]
theorem lo_succ (b : Int) (xs : List Int) (i : Nat) : lo b xs (i + 1) = lo b xs i + lim xs i * Q b i := by
  unfold lo
  by_cases h : i < xs.length
  · rw [List.take_succ_eq_append_getElem h, val_append, lim_lt xs i h, List.length_take, Nat.min_eq_left (by omega)]
    simp only [val]; rw [Int.mul_zero, Int.add_zero, Int.mul_comm]
  · rw [take_all xs (i + 1) (by omega), take_all xs i (by omega), lim_over xs i (by omega)]; omega
theorem val_split (b : Int) (xs : List Int) (i : Nat) : val b xs = lo b xs i + Q b i * val b (xs.drop i) := by
  by_cases h : i ≤ xs.length
  · have e : val b xs = val b (xs.take i ++ xs.drop i) := by rw [List.take_append_drop]
    rw [e, val_append, List.length_take, Nat.min_eq_left h]; rfl
  · rw [lo_all b xs i (by omega), List.drop_of_length_le (by omega)]; simp [val]
theorem val_div {b : Int} (hb : 0 < b) {xs : List Int} (h : Dg b xs) (i : Nat) : val b xs / Q b i = val b (xs.drop i) ∧ val b xs % Q b i = lo b xs i := by
  have hq := Q_pos hb i
  have h0 : 0 ≤ lo b xs i := val_nonneg hb (h.take i)
  have h1 : lo b xs i < Q b i := by
    have := val_lt hb (h.take i)
    by_cases hi : i ≤ xs.length
    · rw [List.length_take, Nat.min_eq_left hi] at this; exact this
    · have e := val_lt hb h
      rw [lo_all b xs i (by omega)]
      have h2 : Q b i = Q b xs.length * Q b (i - xs.length) := by rw [← Q_add]; congr 1; omega
      have h3 := Q_pos hb (i - xs.length)
      have h4 : Q b xs.length * 1 ≤ Q b xs.length * Q b (i - xs.length) := Int.mul_le_mul_of_nonneg_left (by omega) (Int.le_of_lt (Q_pos hb _))
      rw [h2]; omega
  rw [val_split b xs i]
  constructor
  · rw [Int.add_mul_ediv_left _ _ (by omega), Int.ediv_eq_zero_of_lt h0 h1]; omega
  · rw [Int.add_mul_emod_self_left, Int.emod_eq_of_lt h0 h1]
theorem lo_lt {b : Int} (hb : 0 < b) {xs : List Int} (h : Dg b xs) (i : Nat) : 0 ≤ lo b xs i ∧ lo b xs i < Q b i := by
  rw [← (val_div hb h i).2]
  exact ⟨Int.emod_nonneg _ (by have := Q_pos hb i; omega), Int.emod_lt_of_pos _ (Q_pos hb i)⟩
theorem lim_div {b : Int} (hb : 0 < b) {xs : List Int} (h : Dg b xs) (i : Nat) : lim xs i = val b xs / Q b i % b := by
  rw [(val_div hb h i).1]
  have e : lim xs i = lim (xs.drop i) 0 := by rw [lim_drop]; rfl
  have hd := h.drop i
  rw [e]
  generalize xs.drop i = ys at hd
  cases ys with
  | nil => simp [lim_nil, val]
  | cons x t =>
    have := hd.of_cons
    rw [lim_cons_zero]; unfold val
    rw [Int.add_mul_emod_self_left, Int.emod_eq_of_lt this.1.1 this.1.2]

theorem nn_le : ∀ xs : List Int, nn xs ≤ xs.length
  | [] => by simp [nn]
  | x :: t => by have := nn_le t; unfold nn; split <;> simp <;> omega
theorem nn_zero : ∀ (xs : List Int) (k : Nat), nn xs ≤ k → lim xs k = 0
  | [], k, _ => lim_nil k
  | x :: t, k, h => by
    unfold nn at h
    split at h <;> rename_i hc
    · cases k with
      | zero => rw [lim_cons_zero]; exact hc.1
      | succ k => rw [lim_cons_succ]; exact nn_zero t k (by omega)
    · cases k with
      | zero => omega
      | succ k => rw [lim_cons_succ]; exact nn_zero t k (by omega)
theorem nn_top : ∀ (xs : List Int), 0 < nn xs → lim xs (nn xs - 1) ≠ 0
  | [], h => by simp [nn] at h
  | x :: t, h => by
    unfold nn at h ⊢
    split at h <;> rename_i hc
    · omega
    · rw [if_neg hc]
      by_cases h0 : nn t = 0
      · rw [h0]; show lim (x :: t) 0 ≠ 0
        rw [lim_cons_zero]; intro hx; exact hc ⟨hx, h0⟩
      · have := nn_top t (by omega)
        rw [show nn t + 1 - 1 = (nn t - 1) + 1 by omega, lim_cons_succ]; exact this
/-- a place that is not 0: the row reaches beyond it -/
theorem lt_nn (xs : List Int) (k : Nat) (h : lim xs k ≠ 0) : k < nn xs := by
  apply Classical.byContradiction; intro hk; exact h (nn_zero xs k (by omega))
theorem nn_eq (xs : List Int) (k : Nat) (h : nn xs ≤ k) (h0 : k = 0 ∨ lim xs (k - 1) ≠ 0) : nn xs = k := by
  rcases h0 with h0 | h0
  · omega
  · have := lt_nn xs _ h0; omega
theorem nn_step (xs : List Int) (k : Nat) (h : nn xs ≤ k + 1) (h0 : lim xs k = 0) : nn xs ≤ k := by
  apply Classical.byContradiction; intro hk
  have e : nn xs = k + 1 := by omega
  have := nn_top xs (by omega)
  rw [e] at this; exact this h0
def tr (xs : List Int) : List Int := xs.take (nn xs)
theorem tr_length (xs : List Int) : (tr xs).length = nn xs := by unfold tr; rw [List.length_take, Nat.min_eq_left (nn_le xs)]
theorem lim_tr (xs : List Int) (j : Nat) : lim (tr xs) j = lim xs j := by
  unfold tr; rw [lim_take]
  split
  · rfl
  · rw [nn_zero xs j (by omega)]
/-- two rows of the same length with the same places are the same -/
theorem ext_lim {xs ys : List Int} (hl : xs.length = ys.length) (h : ∀ j, lim xs j = lim ys j) : xs = ys := by
  apply List.ext_getElem hl
  intro i h1 h2
  rw [← lim_lt xs i h1, ← lim_lt ys i h2]; exact h i
theorem nn_of_lim {xs ys : List Int} (h : ∀ j, lim xs j = lim ys j) : nn xs = nn ys := by
  apply Nat.le_antisymm
  · apply Classical.byContradiction; intro hc
    have := nn_top xs (by omega)
    rw [h] at this; exact this (nn_zero ys _ (by omega))
  · apply Classical.byContradiction; intro hc
    have := nn_top ys (by omega)
    rw [← h] at this; exact this (nn_zero xs _ (by omega))
/-- rows of digits with the same value have the same places -/
theorem tr_of_val {b : Int} (hb : 0 < b) {xs ys : List Int} (hx : Dg b xs) (hy : Dg b ys) (h : val b xs = val b ys) : tr xs = tr ys := by
  have e : ∀ j, lim xs j = lim ys j := fun j => by rw [lim_div hb hx, lim_div hb hy, h]
  apply ext_lim
  · rw [tr_length, tr_length, nn_of_lim e]
  · intro j; rw [lim_tr, lim_tr]; exact e j
theorem val_tr (b : Int) : ∀ xs : List Int, val b (tr xs) = val b xs := by
  intro xs
  have h1 := val_split b xs (nn xs)
  have h2 : ∀ ys : List Int, (∀ j, lim ys j = 0) → val b ys = 0 := by
    intro ys
    induction ys with
    | nil => intro _; rfl
    | cons y t ih =>
      intro h
      unfold val
      have := h 0
      rw [lim_cons_zero] at this
      rw [this, ih (fun j => by have := h (j + 1); rwa [lim_cons_succ] at this)]; simp
  rw [h2 (xs.drop (nn xs)) (fun j => by rw [lim_drop]; exact nn_zero xs _ (by omega))] at h1
  rw [h1]; unfold lo tr; simp
/-- the canonical digits of a natural -/
def cnN (b : Nat) (hb : 1 < b) (n : Nat) : List Int :=
  if h : n = 0 then [] else ((n % b : Nat) : Int) :: cnN b hb (n / b)
termination_by n
decreasing_by exact Nat.div_lt_self (by omega) hb
theorem cnN_zero (b : Nat) (hb : 1 < b) : cnN b hb 0 = [] := by unfold cnN; simp
theorem cnN_pos (b : Nat) (hb : 1 < b) (n : Nat) (h : n ≠ 0) : cnN b hb n = ((n % b : Nat) : Int) :: cnN b hb (n / b) := by rw [cnN.eq_1 b hb n, dif_neg h]
theorem cnN_dg (b : Nat) (hb : 1 < b) (n : Nat) : Dg b (cnN b hb n) := by
  induction n using Nat.strongRecOn with
  | ind n ih =>
    by_cases h : n = 0
    · subst h; rw [cnN_zero]; exact Dg.nil
    · rw [cnN_pos b hb n h]
      have := Nat.mod_lt n (show 0 < b by omega)
      exact Dg.cons (by omega) (by omega) (ih _ (Nat.div_lt_self (by omega) hb))
theorem cnN_val (b : Nat) (hb : 1 < b) (n : Nat) : val b (cnN b hb n) = n := by
  induction n using Nat.strongRecOn with
  | ind n ih =>
    by_cases h : n = 0
    · subst h; rw [cnN_zero]; rfl
    · rw [cnN_pos b hb n h]; unfold val
      rw [ih _ (Nat.div_lt_self (by omega) hb)]
      have := Nat.mod_add_div n b
      rw [← Int.natCast_mul, ← Int.natCast_add, this]
theorem cnN_nn (b : Nat) (hb : 1 < b) (n : Nat) : nn (cnN b hb n) = (cnN b hb n).length := by
  induction n using Nat.strongRecOn with
  | ind n ih =>
    by_cases h : n = 0
    · subst h; rw [cnN_zero]; rfl
    · have ih' := ih _ (Nat.div_lt_self (show 0 < n by omega) hb)
      rw [cnN_pos b hb n h, List.length_cons]; unfold nn
      rw [if_neg ?_, ih']
      intro ⟨h1, h2⟩
      rw [ih'] at h2
      have h3 : n / b = 0 := by
        apply Classical.byContradiction; intro hc
        rw [cnN_pos b hb _ hc] at h2; simp at h2
      have := Nat.mod_add_div n b
      rw [h3] at this
      omega
/-- the canonical digits of a natural, to the base 2 to the power of 64, and of 16 -/
def limbs (n : Int) : List Int := cnN 18446744073709551616 (by omega) n.toNat
def digs (n : Int) : List Int := cnN 65536 (by omega) n.toNat
abbrev B : Int := 18446744073709551616
abbrev D : Int := 65536
theorem limbs_dg (n : Int) : Dg B (limbs n) := cnN_dg 18446744073709551616 (by omega) _
theorem digs_dg (n : Int) : Dg D (digs n) := cnN_dg 65536 (by omega) _
theorem limbs_val {n : Int} (h : 0 ≤ n) : val B (limbs n) = n := by
  have := cnN_val 18446744073709551616 (by omega) n.toNat
  unfold limbs; rw [Int.toNat_of_nonneg h] at this; exact this
theorem digs_val {n : Int} (h : 0 ≤ n) : val D (digs n) = n := by
  have := cnN_val 65536 (by omega) n.toNat
  unfold digs; rw [Int.toNat_of_nonneg h] at this; exact this
theorem limbs_nn (n : Int) : nn (limbs n) = (limbs n).length := cnN_nn _ _ _
theorem digs_nn (n : Int) : nn (digs n) = (digs n).length := cnN_nn _ _ _
theorem tr_full {xs : List Int} (h : nn xs = xs.length) : tr xs = xs := by unfold tr; rw [h, List.take_length]
theorem limbs_of {xs : List Int} (h : Dg B xs) : limbs (val B xs) = tr xs := by
  rw [← tr_full (limbs_nn (val B xs))]
  exact tr_of_val (by decide) (limbs_dg _) h (limbs_val (val_nonneg (by decide) h))
theorem digs_of {xs : List Int} (h : Dg D xs) : digs (val D xs) = tr xs := by
  rw [← tr_full (digs_nn (val D xs))]
  exact tr_of_val (by decide) (digs_dg _) h (digs_val (val_nonneg (by decide) h))
theorem limbs_inj {a b : Int} (ha : 0 ≤ a) (hb : 0 ≤ b) : limbs a = limbs b ↔ a = b := by
  constructor
  · intro h; rw [← limbs_val ha, ← limbs_val hb, h]
  · intro h; rw [h]
theorem len_le_iff {b : Int} (hb : 1 < b) {xs : List Int} (h : Dg b xs) (hn : nn xs = xs.length) (k : Nat) : xs.length ≤ k ↔ val b xs < Q b k := by
  have hq := Q_pos (show 0 < b by omega) k
  have hd := val_div (show 0 < b by omega) h k
  constructor
  · intro hk
    have e := Int.mul_ediv_add_emod (val b xs) (Q b k)
    rw [hd.1, List.drop_of_length_le hk] at e
    have := Int.emod_lt_of_pos (val b xs) hq
    simp only [val] at e; rw [Int.mul_zero] at e; omega
  · intro hk
    apply Classical.byContradiction; intro hc
    have ht := nn_top xs (by omega)
    have e : lim xs (nn xs - 1) = lim (xs.drop k) (nn xs - 1 - k) := by rw [lim_drop]; congr 1; omega
    have h0 : val b xs / Q b k = 0 := Int.ediv_eq_zero_of_lt (val_nonneg (by omega) h) hk
    rw [e, lim_div (by omega) (h.drop k), ← hd.1, h0] at ht
    simp at ht
theorem limbs_len_le {n : Int} (hn : 0 ≤ n) (k : Nat) : (limbs n).length ≤ k ↔ n < Q B k := by
  have := len_le_iff (b := B) (by decide) (limbs_dg n) (limbs_nn n) k
  rwa [limbs_val hn] at this
theorem digs_len_le {n : Int} (hn : 0 ≤ n) (k : Nat) : (digs n).length ≤ k ↔ n < Q D k := by
  have := len_le_iff (b := D) (by decide) (digs_dg n) (digs_nn n) k
  rwa [digs_val hn] at this
theorem limbs_zero : limbs 0 = [] := cnN_zero _ _
theorem limbs_lit (xs : List Int) (n : Int) (h : Dg B xs) (h1 : nn xs = xs.length) (h2 : val B xs = n) : limbs n = xs := by
  rw [← h2, limbs_of h, tr_full h1]
end N
end Go.Proofs.YtfdpddlefobcpaaGreatDoor
/- Plain arithmetic: lengths in bits, places, powers of 2. No program, no walk. -/
namespace Go.Proofs.YtfdpddlefobcpaaGreatDoor
set_option linter.unusedVariables false
set_option maxRecDepth 20000
namespace N
theorem Q_two (k : Nat) : Q B k = 2 ^ (64 * k) := by
  unfold Q
  rw [Int.pow_mul]; rfl
theorem len_of' (a : Int) (k : Nat) (h0 : 0 ≤ a) (h1 : a < 2 ^ k) (h2 : k = 0 ∨ 2 ^ (k - 1) ≤ a) : W.len a = k := by
  obtain ⟨n, rfl⟩ := Int.eq_ofNat_of_zero_le h0
  unfold W.len
  rw [Int.toNat_natCast, W.lenN_of n k]
  · rw [← W.cast_pow] at h1; omega
  · rcases h2 with h2 | h2
    · exact .inl h2
    · right; rw [← W.cast_pow] at h2; omega
theorem len_spec (a : Int) (h0 : 0 ≤ a) : ∃ k : Nat, W.len a = k ∧ a < 2 ^ k ∧ (k = 0 ∨ 2 ^ (k - 1) ≤ a) := by
  obtain ⟨n, rfl⟩ := Int.eq_ofNat_of_zero_le h0
  have := W.lenN_spec n
  refine ⟨W.lenN n, by unfold W.len; rw [Int.toNat_natCast], ?_, ?_⟩
  · rw [← W.cast_pow]; omega
  · rcases this.2 with h2 | h2
    · exact .inl h2
    · right; rw [← W.cast_pow]; omega
theorem len_0 : W.len 0 = 0 := len_of' 0 0 (by omega) (by decide) (.inl rfl)
theorem len_nonneg (a : Int) : 0 ≤ W.len a := by unfold W.len; omega
/-- a value by its places up to one beyond which there is none -/
theorem val_top (b : Int) (xs : List Int) (h : 0 < nn xs) : val b xs = lo b xs (nn xs - 1) + lim xs (nn xs - 1) * Q b (nn xs - 1) := by
  rw [← lo_succ, show nn xs - 1 + 1 = nn xs by omega]
  exact (val_tr b xs).symm
theorem len_top {xs : List Int} (hd : Dg B xs) (h : 0 < nn xs) : W.len (val B xs) = ((nn xs - 1 : Nat) : Int) * 64 + W.len (lim xs (nn xs - 1)) := by
  have hv := val_top B xs h
  have hl := lo_lt (by decide) hd (nn xs - 1)
  have ht := nn_top xs h
  have hg := hd.lim (by decide) (nn xs - 1)
  generalize lim xs (nn xs - 1) = x at *
  generalize nn xs - 1 = t at *
  obtain ⟨k, hk, h1, h2⟩ := len_spec x hg.1
  have hk0 : k ≠ 0 := by
    rintro rfl
    simp at h1; omega
  have h2' : 2 ^ (k - 1) ≤ x := by rcases h2 with h2 | h2; exact absurd h2 hk0; exact h2
  have hq := Q_pos (b := B) (by decide) t
  rw [hk, len_of' (val B xs) (64 * t + k) (val_nonneg (by decide) hd)]
  · omega
  · rw [hv, Int.pow_add, ← Q_two]
    have : (x + 1) * Q B t ≤ 2 ^ k * Q B t := Int.mul_le_mul_of_nonneg_right (by omega) (by omega)
    rw [Int.add_mul, Int.one_mul] at this
    rw [Int.mul_comm (Q B t)]; omega
  · right
    rw [hv, show 64 * t + k - 1 = 64 * t + (k - 1) by omega, Int.pow_add, ← Q_two, Int.mul_comm (Q B t)]
    have : 2 ^ (k - 1) * Q B t ≤ x * Q B t := Int.mul_le_mul_of_nonneg_right h2' (by omega)
    omega
theorem nn_limbs {xs : List Int} (h : Dg B xs) : nn xs = (limbs (val B xs)).length := by rw [limbs_of h, tr_length]
theorem nn_zero_iff {xs : List Int} (h : Dg B xs) : nn xs = 0 ↔ val B xs = 0 := by
  have := limbs_len_le (val_nonneg (by decide) h) 0
  rw [← nn_limbs h, Q_zero] at this
  have h0 := val_nonneg (b := B) (by decide) h
  omega
theorem nn_one_iff {xs : List Int} (h : Dg B xs) : nn xs ≤ 1 ↔ val B xs < 18446744073709551616 := by
  have := limbs_len_le (val_nonneg (by decide) h) 1
  rw [← nn_limbs h] at this
  have e : Q B 1 = 18446744073709551616 := by unfold Q; rfl
  rwa [e] at this
theorem lim_zero {xs : List Int} (h : Dg B xs) (hv : val B xs < 18446744073709551616) : lim xs 0 = val B xs := by
  rw [lim_div (by decide) h 0, Q_zero, Int.ediv_one]
  exact Int.emod_eq_of_lt (val_nonneg (by decide) h) hv
/-- a place of a value, by its limb -/
theorem bit_lim {xs : List Int} (h : Dg B xs) (n : Nat) : lim xs (n / 64) / 2 ^ (n % 64) % 2 = val B xs / 2 ^ n % 2 := by
  rw [lim_div (by decide) h, Q_two]
  have e : (2 : Int) ^ n = 2 ^ (64 * (n / 64)) * 2 ^ (n % 64) := by rw [← Int.pow_add]; congr 1; omega
  rw [e, ← Int.ediv_ediv_of_nonneg (Int.le_of_lt (W.pow_pos _))]
  generalize val B xs / 2 ^ (64 * (n / 64)) = v
  have hr : n % 64 < 64 := Nat.mod_lt _ (by omega)
  generalize n % 64 = r at *
  have e2 : (B : Int) = 2 ^ r * (2 * 2 ^ (63 - r)) := by
    rw [← W.pow_succ, ← Int.pow_add, show r + (63 - r + 1) = 64 by omega]; rfl
  rw [e2]
  have hp := W.pow_pos r
  generalize (2 : Int) ^ (63 - r) = s
  generalize (2 : Int) ^ r = p at *
  have e3 := Int.mul_ediv_add_emod v (p * (2 * s))
  generalize v % (p * (2 * s)) = m at *
  generalize v / (p * (2 * s)) = q at *
  rw [← e3, show p * (2 * s) * q + m = m + p * (2 * (s * q)) by rw [Int.mul_assoc, Int.mul_assoc]; omega, Int.add_mul_ediv_left _ _ (by omega)]
  omega
end N
end Go.Proofs.YtfdpddlefobcpaaGreatDoor
/- Plain arithmetic of decimal texts: the value of a row of digits and back, groups of digits, order. No program, no walk. -/
namespace Go.Proofs.YtfdpddlefobcpaaGreatDoor
set_option linter.unusedVariables false
set_option maxRecDepth 20000
namespace N
open Go.Lib (decDigits nDigits nDigits_small nDigits_big nDigits_pos lt_pow_nDigits decDigits_length)
/-- what a row of digits tells -/
def dv (bs : List UInt8) : Nat := bs.foldl (fun a b => a * 10 + (b.toNat - 48)) 0
def IsD (b : UInt8) : Prop := 48 ≤ b.toNat ∧ b.toNat ≤ 57
instance (b : UInt8) : Decidable (IsD b) := by unfold IsD; infer_instance
/-- the digits of a natural, and nothing else -/
def GoodD (bs : List UInt8) : Prop := bs ≠ [] ∧ (∀ b ∈ bs, IsD b) ∧ (bs.head? = some 48 → bs.length = 1)
theorem dv_nil : dv [] = 0 := rfl
theorem dv_snoc (bs : List UInt8) (b : UInt8) : dv (bs ++ [b]) = dv bs * 10 + (b.toNat - 48) := by
  unfold dv; rw [List.foldl_append]; rfl
theorem dv_fold (bs : List UInt8) (a : Nat) : bs.foldl (fun a b => a * 10 + (b.toNat - 48)) a = a * 10 ^ bs.length + dv bs := by
  induction bs generalizing a with
  | nil => simp [dv]
  | cons b t ih =>
    unfold dv
    rw [List.foldl_cons, List.foldl_cons, ih, ih (0 * 10 + (b.toNat - 48)), List.length_cons, Nat.pow_succ, Nat.add_mul, Nat.add_mul, Nat.zero_mul, Nat.zero_add, Nat.mul_assoc, Nat.mul_comm 10, Nat.add_assoc]
theorem dv_append (x y : List UInt8) : dv (x ++ y) = dv x * 10 ^ y.length + dv y := by
  rw [← dv_fold y (dv x)]; unfold dv; rw [List.foldl_append]
theorem dv_cons (b : UInt8) (t : List UInt8) : dv (b :: t) = (b.toNat - 48) * 10 ^ t.length + dv t := by
  have h := dv_append [b] t
  rw [show dv [b] = b.toNat - 48 by simp [dv]] at h
  exact h
theorem dv_one (b : UInt8) : dv [b] = b.toNat - 48 := by simp [dv]
theorem dig_nat {d : Nat} (h : d < 10) : (UInt8.ofNat (48 + d)).toNat = 48 + d := by
  rw [UInt8.toNat_ofNat']; omega
theorem dig_isD {d : Nat} (h : d < 10) : IsD (UInt8.ofNat (48 + d)) := by unfold IsD; rw [dig_nat h]; omega
theorem isD_dig {b : UInt8} (h : IsD b) : UInt8.ofNat (48 + (b.toNat - 48)) = b := by
  unfold IsD at h
  rw [show 48 + (b.toNat - 48) = b.toNat by omega]
  exact UInt8.ofNat_toNat
theorem dd_small {u : Nat} (h : u < 10) : decDigits u = [UInt8.ofNat (48 + u)] := by rw [decDigits, dif_pos h]
theorem dd_big {u : Nat} (h : ¬ u < 10) : decDigits u = decDigits (u / 10) ++ [UInt8.ofNat (48 + u % 10)] := by rw [decDigits, dif_neg h]
theorem dd_zero : decDigits 0 = [48] := by rw [dd_small (by omega)]; rfl
theorem dv_dd (u : Nat) : dv (decDigits u) = u := by
  induction u using Nat.strongRecOn with
  | _ u ih =>
    by_cases h : u < 10
    · rw [dd_small h, dv_one, dig_nat h]; omega
    · rw [dd_big h, dv_snoc, ih (u / 10) (by omega), dig_nat (by omega)]; omega
theorem dd_isD (u : Nat) : ∀ b ∈ decDigits u, IsD b := by
  induction u using Nat.strongRecOn with
  | _ u ih =>
    by_cases h : u < 10
    · rw [dd_small h]; intro b hb; rw [List.mem_singleton.1 hb]; exact dig_isD h
    · rw [dd_big h]; intro b hb
      rcases List.mem_append.1 hb with hb | hb
      · exact ih (u / 10) (by omega) b hb
      · rw [List.mem_singleton.1 hb]; exact dig_isD (by omega)
theorem dd_ne (u : Nat) : decDigits u ≠ [] := by
  intro h; have h1 := decDigits_length u; rw [h] at h1; have := nDigits_pos u; simp at h1; omega
theorem dd_inj {u v : Nat} (h : decDigits u = decDigits v) : u = v := by rw [← dv_dd u, ← dv_dd v, h]
theorem head_append {x y : List UInt8} (h : x ≠ []) : (x ++ y).head? = x.head? := by cases x with | nil => exact absurd rfl h | cons a t => rfl
theorem dd_head (u : Nat) (h : 0 < u) : (decDigits u).head? ≠ some 48 := by
  induction u using Nat.strongRecOn with
  | _ u ih =>
    by_cases h' : u < 10
    · rw [dd_small h']; intro e
      have e1 : UInt8.ofNat (48 + u) = 48 := by simpa using e
      have e2 := dig_nat h'
      rw [e1] at e2
      have : (48 : UInt8).toNat = 48 := rfl
      omega
    · rw [dd_big h', head_append (dd_ne _)]
      exact ih (u / 10) (by omega) (by omega)
theorem good_dd (u : Nat) : GoodD (decDigits u) := by
  refine ⟨dd_ne u, dd_isD u, fun h => ?_⟩
  by_cases h0 : u = 0
  · rw [h0, dd_zero]; rfl
  · exact absurd h (dd_head u (by omega))
theorem dd_ten {u d : Nat} (hu : 0 < u) (hd : d < 10) : decDigits (u * 10 + d) = decDigits u ++ [UInt8.ofNat (48 + d)] := by
  rw [dd_big (by omega), show (u * 10 + d) / 10 = u by omega, show (u * 10 + d) % 10 = d by omega]
theorem dd_dv : ∀ (k : Nat) (bs : List UInt8), bs.length = k → GoodD bs → decDigits (dv bs) = bs := by
  intro k
  induction k with
  | zero => intro bs hl h; exact absurd (List.eq_nil_of_length_eq_zero hl) h.1
  | succ k ih =>
    intro bs hl ⟨h0, hd, hz⟩
    have hs : bs = bs.dropLast ++ [bs.getLast h0] := (List.dropLast_concat_getLast h0).symm
    obtain ⟨t, ht⟩ : ∃ t, bs.dropLast = t := ⟨_, rfl⟩
    obtain ⟨b, hb⟩ : ∃ b, bs.getLast h0 = b := ⟨_, rfl⟩
    rw [ht, hb] at hs
    clear ht hb
    subst hs
    have hbD : IsD b := hd b (by simp)
    have hbd := hbD
    unfold IsD at hbd
    by_cases htn : t = []
    · subst htn
      rw [List.nil_append, dv_one, dd_small (by omega), isD_dig hbD]
    · have hg : GoodD t := ⟨htn, fun c hc => hd c (List.mem_append_left _ hc), fun h => by
        rw [← head_append (y := [b]) htn] at h
        have h1 := hz h
        have h2 : t.length ≠ 0 := fun e => htn (List.eq_nil_of_length_eq_zero e)
        rw [List.length_append, List.length_singleton] at h1
        omega⟩
      have he := ih t (by rw [List.length_append, List.length_singleton] at hl; omega) hg
      have hp : 0 < dv t := by
        rcases Nat.eq_zero_or_pos (dv t) with e | e
        · rw [e, dd_zero] at he
          have h1 := hz (by rw [head_append htn, ← he]; rfl)
          rw [← he] at h1
          simp at h1
        · exact e
      rw [dv_snoc, dd_ten hp (by omega), he, isD_dig hbD]
theorem dd_of_good {bs : List UInt8} (h : GoodD bs) : decDigits (dv bs) = bs := dd_dv _ bs rfl h
theorem dv_lt (bs : List UInt8) (h : ∀ b ∈ bs, IsD b) : dv bs < 10 ^ bs.length := by
  induction bs with
  | nil => simp [dv]
  | cons b t ih =>
    have h1 := ih fun c hc => h c (List.mem_cons_of_mem _ hc)
    have hb := h b List.mem_cons_self
    unfold IsD at hb
    rw [dv_cons, List.length_cons, Nat.pow_succ]
    have : (b.toNat - 48) * 10 ^ t.length ≤ 9 * 10 ^ t.length := Nat.mul_le_mul_right _ (by omega)
    omega
theorem pow_le_nDigits {u : Nat} (h : 0 < u) : 10 ^ (nDigits u - 1) ≤ u := by
  induction u using Nat.strongRecOn with
  | _ u ih =>
    by_cases h' : u < 10
    · rw [nDigits_small h']; exact (show 1 ≤ u from h)
    · rw [nDigits_big h']
      have h1 := ih (u / 10) (by omega) (by omega)
      have h2 := nDigits_pos (u / 10)
      rw [show nDigits (u / 10) + 1 - 1 = (nDigits (u / 10) - 1) + 1 by omega, Nat.pow_succ]
      omega
theorem lt_of_nDigits {u v : Nat} (h : nDigits u < nDigits v) : u < v := by
  have h1 := lt_pow_nDigits u
  rcases Nat.eq_zero_or_pos v with e | e
  · subst e; rw [nDigits_small (u := 0) (by omega)] at h; have := nDigits_pos u; omega
  · have h2 := pow_le_nDigits e
    have h3 : 10 ^ nDigits u ≤ 10 ^ (nDigits v - 1) := Nat.pow_le_pow_right (by omega) (by omega)
    omega
theorem less_dv : ∀ (x y : List UInt8), x.length = y.length → (∀ b ∈ x, IsD b) → (∀ b ∈ y, IsD b) → Go.Op.bytesLess x y = decide (dv x < dv y) := by
  intro x
  induction x with
  | nil => intro y hl _ _; cases y with
    | nil => rfl
    | cons b t => simp at hl
  | cons a x ih =>
    intro y hl hx hy
    cases y with
    | nil => simp at hl
    | cons b y =>
      have hl' : x.length = y.length := by simpa using hl
      have hx' : ∀ c ∈ x, IsD c := fun c hc => hx c (List.mem_cons_of_mem _ hc)
      have hy' : ∀ c ∈ y, IsD c := fun c hc => hy c (List.mem_cons_of_mem _ hc)
      have h1 := dv_lt x hx'
      have h2 := dv_lt y hy'
      have ha := hx a List.mem_cons_self
      have hb := hy b List.mem_cons_self
      unfold IsD at ha hb
      rw [← hl'] at h2
      unfold Go.Op.bytesLess
      rw [ih y hl' hx' hy', dv_cons, dv_cons, ← hl']
      have hlt : (a < b) = (a.toNat < b.toNat) := propext UInt8.lt_iff_toNat_lt
      have heq : (a == b) = decide (a.toNat = b.toNat) := by
        rw [Bool.eq_iff_iff, beq_iff_eq, decide_eq_true_iff, UInt8.toNat_inj]
      rw [heq]
      obtain ⟨P, hP⟩ : ∃ P, 10 ^ x.length = P := ⟨_, rfl⟩
      rw [hP] at h1 h2 ⊢
      rw [Bool.eq_iff_iff, Bool.or_eq_true, Bool.and_eq_true, decide_eq_true_iff, decide_eq_true_iff, decide_eq_true_iff, decide_eq_true_iff, hlt]
      obtain ⟨p, hp⟩ : ∃ p, a.toNat - 48 = p := ⟨_, rfl⟩
      obtain ⟨q, hq⟩ : ∃ q, b.toNat - 48 = q := ⟨_, rfl⟩
      rw [hp, hq]
      constructor
      · rintro (h | ⟨h, h'⟩)
        · have : (p + 1) * P ≤ q * P := Nat.mul_le_mul_right _ (by omega)
          rw [Nat.add_mul, Nat.one_mul] at this; omega
        · have : p = q := by omega
          rw [this]; omega
      · intro h
        rcases Nat.lt_trichotomy p q with h' | h' | h'
        · left; omega
        · right; subst h'; exact ⟨by omega, by omega⟩
        · have : (q + 1) * P ≤ p * P := Nat.mul_le_mul_right _ (by omega)
          rw [Nat.add_mul, Nat.one_mul] at this; omega
/-- of as many digits the texts stand as the naturals do -/
theorem less_dd {u v : Nat} (h : (decDigits u).length = (decDigits v).length) : Go.Op.bytesLess (decDigits u) (decDigits v) = decide (u < v) := by
  rw [less_dv _ _ h (dd_isD u) (dd_isD v), dv_dd, dv_dd]
/-- just k digits, 0s ahead -/
def padD : Nat → Nat → List UInt8
  | 0, _ => []
  | k + 1, r => padD k (r / 10) ++ [UInt8.ofNat (48 + r % 10)]
theorem padD_length : ∀ k r, (padD k r).length = k := by
  intro k; induction k with
  | zero => intro r; rfl
  | succ k ih => intro r; unfold padD; rw [List.length_append, ih, List.length_singleton]
theorem padD_isD : ∀ k r, ∀ b ∈ padD k r, IsD b := by
  intro k; induction k with
  | zero => intro r b hb; cases hb
  | succ k ih =>
    intro r b hb; unfold padD at hb
    rcases List.mem_append.1 hb with hb | hb
    · exact ih _ b hb
    · rw [List.mem_singleton.1 hb]; exact dig_isD (by omega)
/-- digits, and a group of k digits behind them -/
theorem dd_pad : ∀ (k q r : Nat), 0 < q → r < 10 ^ k → decDigits (q * 10 ^ k + r) = decDigits q ++ padD k r := by
  intro k; induction k with
  | zero => intro q r hq hr; rw [show r = 0 by simpa using hr]; simp [padD]
  | succ k ih =>
    intro q r hq hr
    rw [Nat.pow_succ] at hr ⊢
    have h1 := ih q (r / 10) hq (by omega)
    have hp : 0 < 10 ^ k := Nat.pow_pos (by omega)
    have hq1 : 1 * 10 ^ k ≤ q * 10 ^ k := Nat.mul_le_mul_right _ hq
    rw [← Nat.mul_assoc]
    unfold padD
    rw [show q * 10 ^ k * 10 + r = (q * 10 ^ k + r / 10) * 10 + r % 10 by omega, dd_ten (by omega) (by omega), h1, List.append_assoc]
theorem padD_add : ∀ (k j q r : Nat), r < 10 ^ k → padD (j + k) (q * 10 ^ k + r) = padD j q ++ padD k r := by
  intro k; induction k with
  | zero => intro j q r hr; rw [show r = 0 by simpa using hr]; simp [padD]
  | succ k ih =>
    intro j q r hr
    rw [Nat.pow_succ] at hr ⊢
    have h1 := ih j q (r / 10) (by omega)
    rw [← Nat.mul_assoc, ← Nat.add_assoc]
    rw [show padD (j + k + 1) (q * 10 ^ k * 10 + r) = padD (j + k) ((q * 10 ^ k * 10 + r) / 10) ++ [UInt8.ofNat (48 + (q * 10 ^ k * 10 + r) % 10)] from rfl]
    rw [show padD (k + 1) r = padD k (r / 10) ++ [UInt8.ofNat (48 + r % 10)] from rfl]
    rw [show (q * 10 ^ k * 10 + r) / 10 = q * 10 ^ k + r / 10 by omega, show (q * 10 ^ k * 10 + r) % 10 = r % 10 by omega, h1, List.append_assoc]
theorem dv_pad : ∀ (k r : Nat), r < 10 ^ k → dv (padD k r) = r := by
  intro k; induction k with
  | zero => intro r hr; rw [show r = 0 by simpa using hr]; rfl
  | succ k ih =>
    intro r hr
    rw [Nat.pow_succ] at hr
    unfold padD
    rw [dv_snoc, ih (r / 10) (by omega), dig_nat (by omega)]; omega
theorem padD_zero : ∀ k, padD k 0 = List.replicate k 48 := by
  intro k; induction k with
  | zero => rfl
  | succ k ih => unfold padD; rw [show (0 : Nat) / 10 = 0 from rfl, ih, List.replicate_succ']; rfl
/-- a group's digits: its own, with 0s ahead -/
theorem padD_dd : ∀ (k r : Nat), r < 10 ^ k → 1 ≤ k → nDigits r ≤ k ∧ padD k r = List.replicate (k - nDigits r) 48 ++ decDigits r := by
  intro k; induction k with
  | zero => intro r hr hk; omega
  | succ k ih =>
    intro r hr _
    by_cases h : r < 10
    · rw [nDigits_small h, dd_small h]
      refine ⟨by omega, ?_⟩
      unfold padD
      rw [show r / 10 = 0 by omega, padD_zero, show k + 1 - 1 = k by omega, show r % 10 = r by omega]
    · have hk : 1 ≤ k := by
        rcases Nat.eq_zero_or_pos k with e | e
        · subst e; simp at hr; omega
        · exact e
      rw [Nat.pow_succ] at hr
      obtain ⟨h1, h2⟩ := ih (r / 10) (by omega) hk
      rw [nDigits_big h, dd_big h]
      refine ⟨by omega, ?_⟩
      unfold padD
      rw [h2, show k + 1 - (nDigits (r / 10) + 1) = k - nDigits (r / 10) by omega, List.append_assoc]
/-- is it a digit? -/
def isDb (b : UInt8) : Bool := decide (48 ≤ b.toNat) && decide (b.toNat ≤ 57)
theorem isDb_iff (b : UInt8) : isDb b = true ↔ IsD b := by unfold isDb IsD; rw [Bool.and_eq_true, decide_eq_true_iff, decide_eq_true_iff]
/-- why a text is no natural's digits, 0 if it is -/
def rdE (bs : List UInt8) : Int := if bs.length = 0 then 4 else if bs.all isDb = false then 3 else if (bs.getD 0 0).toNat = 48 ∧ 1 < bs.length then 3 else if 20000 < bs.length then 5 else 0
/-- what a text tells, 0 if nothing -/
def rdV (bs : List UInt8) : Int := if rdE bs = 0 then (dv bs : Int) else 0
theorem rdV_nonneg (bs : List UInt8) : 0 ≤ rdV bs := by unfold rdV; split <;> omega
theorem all_iff (bs : List UInt8) : bs.all isDb = true ↔ ∀ j, j < bs.length → IsD (bs.getD j 0) := by
  rw [List.all_eq_true]
  constructor
  · intro h j hj
    rw [List.getD_eq_getElem?_getD, List.getElem?_eq_getElem hj]
    exact (isDb_iff _).1 (h _ (List.getElem_mem hj))
  · intro h b hb
    obtain ⟨j, hj, rfl⟩ := List.mem_iff_getElem.1 hb
    have := h j hj
    rw [List.getD_eq_getElem?_getD, List.getElem?_eq_getElem hj] at this
    exact (isDb_iff _).2 this
theorem rdE_short {bs : List UInt8} (h : bs.length = 0) : rdE bs = 4 := by unfold rdE; rw [if_pos h]
theorem rdE_form {bs : List UInt8} {k : Nat} (h : k < bs.length) (h1 : ¬ IsD (bs.getD k 0)) : rdE bs = 3 := by
  unfold rdE; rw [if_neg (by omega), if_pos]
  cases e : bs.all isDb
  · rfl
  · exact absurd ((all_iff bs).1 e k h) h1
theorem rdE_zero {bs : List UInt8} (h : bs.all isDb = true) (h1 : (bs.getD 0 0).toNat = 48) (h2 : 1 < bs.length) : rdE bs = 3 := by
  unfold rdE; rw [if_neg (by omega), if_neg (by rw [h]; decide), if_pos ⟨h1, h2⟩]
theorem rdE_long {bs : List UInt8} (h : bs.all isDb = true) (h1 : ¬ ((bs.getD 0 0).toNat = 48 ∧ 1 < bs.length)) (h2 : 20000 < bs.length) : rdE bs = 5 := by
  unfold rdE; rw [if_neg (by omega), if_neg (by rw [h]; decide), if_neg h1, if_pos h2]
theorem rdE_ok {bs : List UInt8} (h0 : bs.length ≠ 0) (h : bs.all isDb = true) (h1 : ¬ ((bs.getD 0 0).toNat = 48 ∧ 1 < bs.length)) (h2 : ¬ 20000 < bs.length) : rdE bs = 0 := by
  unfold rdE; rw [if_neg h0, if_neg (by rw [h]; decide), if_neg h1, if_neg h2]
theorem rdE_cases (bs : List UInt8) : rdE bs = 0 ∨ rdE bs = 3 ∨ rdE bs = 4 ∨ rdE bs = 5 := by
  unfold rdE; repeat' split
  all_goals simp
theorem head_getD (bs : List UInt8) (h : bs ≠ []) : bs.head? = some 48 ↔ (bs.getD 0 0).toNat = 48 := by
  cases bs with
  | nil => exact absurd rfl h
  | cons b t =>
    show some b = some 48 ↔ b.toNat = 48
    rw [Option.some.injEq]
    exact ⟨fun e => by rw [e]; rfl, fun e => UInt8.toNat_inj.1 e⟩
theorem rdE_iff (bs : List UInt8) : rdE bs = 0 ↔ GoodD bs ∧ bs.length ≤ 20000 := by
  constructor
  · intro h
    unfold rdE at h
    split at h
    · omega
    · rename_i h0
      split at h
      · omega
      · rename_i h1
        split at h
        · omega
        · rename_i h2
          split at h
          · omega
          · rename_i h3
            have hne : bs ≠ [] := fun e => h0 (by rw [e]; rfl)
            have ha : bs.all isDb = true := by cases e : bs.all isDb; exact absurd e h1; rfl
            refine ⟨⟨hne, fun b hb => (isDb_iff b).1 (List.all_eq_true.1 ha b hb), fun e => ?_⟩, by omega⟩
            rw [head_getD bs hne] at e
            have : ¬ 1 < bs.length := fun e' => h2 ⟨e, e'⟩
            omega
  · rintro ⟨⟨h0, h1, h2⟩, h3⟩
    refine rdE_ok (fun e => h0 (List.eq_nil_of_length_eq_zero e)) (List.all_eq_true.2 fun b hb => (isDb_iff b).2 (h1 b hb)) (fun ⟨e, e'⟩ => ?_) (by omega)
    rw [← head_getD bs h0] at e
    have := h2 e
    omega
theorem rdV_dd {v : Nat} (h : nDigits v ≤ 20000) : rdE (decDigits v) = 0 ∧ rdV (decDigits v) = (v : Int) := by
  have e : rdE (decDigits v) = 0 := (rdE_iff _).2 ⟨good_dd v, by rw [decDigits_length]; exact h⟩
  refine ⟨e, ?_⟩
  unfold rdV; rw [if_pos e, dv_dd]
theorem dd_rdV {bs : List UInt8} (h : rdE bs = 0) : decDigits (rdV bs).toNat = bs := by
  have hg := ((rdE_iff bs).1 h).1
  unfold rdV; rw [if_pos h, Int.toNat_natCast, dd_of_good hg]
end N
end Go.Proofs.YtfdpddlefobcpaaGreatDoor
/- Plain arithmetic of a division limb by limb: what an estimate from the highest limbs comes to, one step, the steps in a row. No program, no walk. -/
namespace Go.Proofs.YtfdpddlefobcpaaGreatDoor
set_option linter.unusedVariables false
set_option maxRecDepth 20000
namespace N
/-- the limb below place i -/
def bel (xs : List Int) (i : Nat) : Int := lim (0 :: xs) i
theorem bel_zero (xs : List Int) : bel xs 0 = 0 := lim_cons_zero _ _
theorem bel_succ (xs : List Int) (i : Nat) : bel xs (i + 1) = lim xs i := lim_cons_succ _ _ _
/-- one limb of a row, shifted by k places -/
def shd (xs : List Int) (i : Nat) (k : Int) : Int := W.shr (lim xs i) (bel xs i) (64 - k)
theorem wd_shd (xs : List Int) (i : Nat) (k : Int) : W.Wd (shd xs i k) := W.wd_shr _ _ _
theorem drop_two (b : Int) (xs : List Int) (i : Nat) : val b (xs.drop i) = lim xs i + b * (lim xs (i + 1) + b * val b (xs.drop (i + 2))) := by
  have e : ∀ (ys : List Int), val b ys = lim ys 0 + b * val b (ys.drop 1) := by
    intro ys
    cases ys with
    | nil => simp [val, lim_nil]
    | cons y t => simp [val, lim_cons_zero]
  rw [e (xs.drop i), List.drop_drop, e (xs.drop (i + 1)), List.drop_drop, lim_drop, lim_drop]
  rfl
theorem shd_eq {xs : List Int} (h : Dg B xs) (i k : Nat) (hk : k ≤ 64) : shd xs i k = val B xs * 2 ^ k / Q B i % B := by
  have h0 : Dg B (0 :: xs) := Dg.cons (by omega) (by decide) h
  have e1 := (val_div (by decide) h0 i).1
  rw [drop_two] at e1
  have e2 : val B (0 :: xs) = 2 ^ (64 - k) * (val B xs * 2 ^ k) := by
    show 0 + B * val B xs = _
    rw [Int.mul_left_comm, ← Int.pow_add, show 64 - k + k = 64 by omega, Int.mul_comm]; simp
  have hp := W.pow_pos (64 - k)
  have hp' := W.pow_pos k
  have hq := Q_pos (b := B) (by decide) i
  have e3 : val B xs * 2 ^ k / Q B i = val B (0 :: xs) / Q B i / 2 ^ (64 - k) := by
    rw [Int.ediv_ediv_of_nonneg (Int.le_of_lt hq), Int.mul_comm (Q B i), e2, Int.mul_ediv_mul_of_pos _ _ hp]
  rw [e3, e1, lim_cons_succ]
  unfold shd W.shr bel
  rw [show ((64 : Int) - k).toNat = 64 - k by omega]
  generalize val B ((0 :: xs).drop (i + 2)) = z
  generalize lim (0 :: xs) i = l0
  generalize lim xs i = l1
  have e4 : l0 + B * (l1 + B * z) = (l1 * 18446744073709551616 + l0) + 2 ^ (64 - k) * (2 ^ k * (B * z)) := by
    rw [← Int.mul_assoc (2 ^ (64 - k)), ← Int.pow_add, show 64 - k + k = 64 by omega]
    have : (2 : Int) ^ 64 = 18446744073709551616 := by decide
    rw [this]; simp only [B]; omega
  rw [e4, Int.add_mul_ediv_left _ _ (Int.ne_of_gt hp), Int.mul_left_comm (2 ^ k), Int.add_mul_emod_self_left]
/-- an estimate of u divided by y, y's two highest limbs being v and w, u's two highest ones T -/
def estD (T v w : Int) : Int := if v ≤ T / 18446744073709551616 then 18446744073709551615 else if T % v < T / v * w / 18446744073709551616 then T / v - 1 else T / v
theorem estD_top {T v w : Int} (h : v ≤ T / 18446744073709551616) : estD T v w = 18446744073709551615 := if_pos h
theorem estD_less {T v w : Int} (h : ¬ v ≤ T / 18446744073709551616) (h2 : T % v < T / v * w / 18446744073709551616) : estD T v w = T / v - 1 := by unfold estD; rw [if_neg h, if_pos h2]
theorem estD_just {T v w : Int} (h : ¬ v ≤ T / 18446744073709551616) (h2 : ¬ T % v < T / v * w / 18446744073709551616) : estD T v w = T / v := by unfold estD; rw [if_neg h, if_neg h2]
theorem div_lt_B {T v : Int} (hT : 0 ≤ T) (h : ¬ v ≤ T / 18446744073709551616) : 0 < v ∧ 0 ≤ T / v ∧ T / v < 18446744073709551616 ∧ 0 ≤ T % v ∧ T % v < v := by
  have hv : 0 < v := by omega
  refine ⟨hv, Int.ediv_nonneg hT (by omega), ?_, Int.emod_nonneg _ (by omega), Int.emod_lt_of_pos _ hv⟩
  refine Int.ediv_lt_of_lt_mul hv ?_
  omega
theorem less_pos {T v w : Int} (hw : 0 ≤ w) (hT : 0 ≤ T) (h : ¬ v ≤ T / 18446744073709551616) (h2 : T % v < T / v * w / 18446744073709551616) : 0 < T / v := by
  obtain ⟨h1, h3, h4, h5, h6⟩ := div_lt_B hT h
  apply Classical.byContradiction; intro hn
  have : T / v = 0 := by omega
  rw [this, Int.zero_mul] at h2
  simp at h2; omega
theorem wd_estD {T v w : Int} (hT : 0 ≤ T) (hw : 0 ≤ w) : W.Wd (estD T v w) := by
  unfold estD
  split
  · unfold W.Wd; omega
  · rename_i h
    obtain ⟨h1, h3, h4, h5, h6⟩ := div_lt_B hT h
    split
    · have := less_pos hw hT h (by assumption)
      unfold W.Wd; omega
    · unfold W.Wd; omega
/-- an estimate is right, or one too much (Knuth's Algorithm D, in plain numbers) -/
theorem est_ok {u y T v w R : Int} (hR : 0 < R) (hT : 0 ≤ T) (hv : 9223372036854775808 ≤ v) (hw : 0 ≤ w) (hw' : w < 18446744073709551616)
    (h1 : T * R * 18446744073709551616 ≤ u) (h2 : u < T * R * 18446744073709551616 + R * 18446744073709551616)
    (h3 : v * R * 18446744073709551616 + w * R ≤ y) (h4 : y < v * R * 18446744073709551616 + w * R + R) (h5 : u < 18446744073709551616 * y) :
    estD T v w * y ≤ u + y ∧ u < (estD T v w + 1) * y := by
  have hwR : 0 ≤ w * R := Int.mul_nonneg hw (by omega)
  have hwR' : w * R ≤ 18446744073709551615 * R := Int.mul_le_mul_of_nonneg_right (by omega) (by omega)
  have hvR : 9223372036854775808 * R ≤ v * R := Int.mul_le_mul_of_nonneg_right hv (by omega)
  by_cases ht : v ≤ T / 18446744073709551616
  · rw [estD_top ht]
    refine ⟨?_, by omega⟩
    have g1 : v * 18446744073709551616 * R ≤ T * R := Int.mul_le_mul_of_nonneg_right (by omega) (by omega)
    rw [Int.mul_right_comm] at g1
    omega
  · obtain ⟨q1, q2, q3, q4, q5⟩ := div_lt_B hT ht
    have e : v * (T / v) + T % v = T := Int.mul_ediv_add_emod T v
    have hDw := Int.mul_nonneg q2 hw
    by_cases h6 : T % v < T / v * w / 18446744073709551616
    · have hD := less_pos hw hT ht h6
      rw [estD_less ht h6, show T / v - 1 + 1 = T / v by omega, Int.sub_mul, Int.one_mul]
      generalize T / v = D at *
      generalize T % v = r at *
      have g1 : D * (v * R * 18446744073709551616 + w * R) ≤ D * y := Int.mul_le_mul_of_nonneg_left h3 q2
      have g2 : D * y ≤ D * (v * R * 18446744073709551616 + w * R + R) := Int.mul_le_mul_of_nonneg_left (by omega) q2
      have g3 : T * R = D * (v * R) + r * R := by rw [← e, Int.add_mul, ← Int.mul_assoc, Int.mul_comm D v]
      have g4 : D * R ≤ 18446744073709551615 * R := Int.mul_le_mul_of_nonneg_right (by omega) (by omega)
      have g5 : (r + 1) * 18446744073709551616 * R ≤ D * w * R := Int.mul_le_mul_of_nonneg_right (by omega) (by omega)
      have g6 : D * (w * R) ≤ D * (18446744073709551615 * R) := Int.mul_le_mul_of_nonneg_left hwR' q2
      have g7 : 0 ≤ r * R := Int.mul_nonneg q4 (by omega)
      rw [Int.mul_assoc D w R, Int.mul_right_comm, Int.add_mul, Int.one_mul] at g5
      rw [Int.mul_add, ← Int.mul_assoc D (v * R)] at g1
      rw [Int.mul_add, Int.mul_add, ← Int.mul_assoc D (v * R)] at g2
      rw [show D * (18446744073709551615 * R) = 18446744073709551615 * (D * R) from Int.mul_left_comm ..] at g6
      generalize D * (v * R) = a1 at *
      generalize D * (w * R) = a2 at *
      generalize D * R = a3 at *
      generalize r * R = a4 at *
      generalize D * y = a5 at *
      constructor <;> omega
    · rw [estD_just ht h6]
      rw [Int.add_mul, Int.one_mul]
      generalize T / v = D at *
      generalize T % v = r at *
      have g1 : D * (v * R * 18446744073709551616 + w * R) ≤ D * y := Int.mul_le_mul_of_nonneg_left h3 q2
      have g2 : D * y ≤ D * (v * R * 18446744073709551616 + w * R + R) := Int.mul_le_mul_of_nonneg_left (by omega) q2
      have g3 : T * R = D * (v * R) + r * R := by rw [← e, Int.add_mul, ← Int.mul_assoc, Int.mul_comm D v]
      have g4 : D * R ≤ 18446744073709551615 * R := Int.mul_le_mul_of_nonneg_right (by omega) (by omega)
      have g5 : D * w * R ≤ (r + 1) * 18446744073709551616 * R := Int.mul_le_mul_of_nonneg_right (by omega) (by omega)
      have g7 : 0 ≤ r * R := Int.mul_nonneg q4 (by omega)
      have g8 : (r + 1) * R ≤ v * R := Int.mul_le_mul_of_nonneg_right (by omega) (by omega)
      have g9 : 0 ≤ D * (w * R) := by rw [← Int.mul_assoc]; exact Int.mul_nonneg hDw (by omega)
      rw [Int.mul_assoc D w R, Int.mul_right_comm, Int.add_mul, Int.one_mul] at g5
      rw [Int.mul_add, ← Int.mul_assoc D (v * R)] at g1
      rw [Int.mul_add, Int.mul_add, ← Int.mul_assoc D (v * R)] at g2
      rw [Int.add_mul, Int.one_mul] at g8
      generalize D * (v * R) = a1 at *
      generalize D * (w * R) = a2 at *
      generalize D * R = a3 at *
      generalize r * R = a4 at *
      generalize D * y = a5 at *
      constructor <;> omega
end N
end Go.Proofs.YtfdpddlefobcpaaGreatDoor
/- A region that draws its order, in the body of a range over a function: whatever order serves without a fence serves there. No function of the program. -/
namespace Go.Proofs.YtfdpddlefobcpaaGreatDoor
open Go.RowKit
set_option linter.unusedVariables false
set_option maxRecDepth 20000
namespace Rd
variable {P : Program} {ops : Array Oper} {Q : Exit → Act → World → Prop} {md : Region.Mode}
theorem rows_round {n l : Nat} {row : String} {args : Array Value} {w : World} {R : Value → World → Prop} (h : Rows P row args w R) : RowsIn (Fence.wide.inRound l) n P row args w R :=
  fun c cs _ => let ⟨v, w', r, s⟩ := h c cs; ⟨v, w', r, stepsIn_wide.2 s⟩
theorem op_round {n l : Nat} {o : Oper} {a : Act} {w : World} {K K' : Act → World → Prop} (hd : ∀ c, o.op ≠ .defer c) (hK : ∀ a w, K a w → K' a w) (h : o.wp P a w K Q) :
    o.wpIn (Fence.wide.inRound l) n P a w K' Q := by
  refine ⟨fun _ _ => trivial, ?_⟩
  rw [Oper.semAt_plain _ _ _ hd]
  unfold Oper.wp at h
  generalize (execOp a.eval o).run P w = r at *
  cases r with
  | ok x w' =>
    cases x with
    | value v => exact hK _ _ h
    | skip => exact hK _ _ h
    | defer d => exact hK _ _ h
    | enter f args =>
      refine ⟨(fun e => by cases e), CallsIn.inRound l (callsIn_wide.2 (Calls.mono h fun e w'' he => ?_))⟩
      cases e with
      | returned v => exact hK _ _ he
      | panicked c => exact he
      | outgrown => exact he
    | row row args => exact ⟨(fun e => by cases e), rows_round (Rows.mono h fun _ _ he => hK _ _ he)⟩
    | _ => exact h.elim
  | halt x w' => cases x <;> exact h
theorem any_round {n l : Nat} (hd : ∀ (i : Nat) (o : Oper), ops[i]? = some o → ∀ c, o.op ≠ .defer c) (hL : ¬ LetsOut Q) : ∀ (fuel : Nat) (listed : Array Bool) (a : Act) (w : World),
    wpAny P md ops Q fuel listed a w → wpAnyIn (Fence.wide.inRound l) n P md ops Q fuel listed a w
  | 0, _, _, _, h => h
  | fuel + 1, listed, a, w, h => ⟨h.1, fun i hi => by
    have h2 := h.2 i hi
    unfold wpOp at h2
    unfold wpOpIn
    cases ho : ops[i]? with
    | none => rw [ho] at h2; exact any_round hd hL fuel _ _ _ h2
    | some o =>
      rw [ho] at h2
      simp only at h2 ⊢
      split
      · rename_i hw
        rw [if_pos hw] at h2
        rcases h2 with h2 | h2
        · exact op_round (hd i o ho) (fun a w h => any_round hd hL fuel _ a w h) h2
        · exact absurd h2.2 hL
      · rename_i hw
        rw [if_neg hw] at h2
        exact ⟨fun _ _ => trivial, any_round hd hL fuel _ _ _ h2⟩⟩
/-- no operation is a 'defer' -/
def calm (ops : Array Oper) : Bool := ops.all fun o => match o.op with | .defer _ => false | _ => true
theorem calm_spec (h : calm ops = true) : ∀ (i : Nat) (o : Oper), ops[i]? = some o → ∀ c, o.op ≠ .defer c := by
  intro i o ho c e
  unfold calm at h
  rw [Array.all_eq_true] at h
  obtain ⟨hi, ho'⟩ := Array.getElem?_eq_some_iff.1 ho
  have := h i hi
  rw [ho', e] at this
  cases this
theorem held_round {n l id : Nat} {a : Act} {w : World} {S : World → Prop} (hm : P.follows .mixedOrders = true) (hd : calm ops = true) (hL : ¬ LetsOut Q) (hS : S w.drew)
    (h : S w.drew → wpAnyH P .any ops Q S ops.size (Array.replicate ops.size false) a w.drew) : (Code.region id ops true).wpIn (Fence.wide.inRound l) n P Q a w :=
  wpIn_region_any hm (any_round (calm_spec hd) hL _ _ _ _ (wpAny_of_held _ _ _ _ (h hS)))
end Rd
end Go.Proofs.YtfdpddlefobcpaaGreatDoor
/- Plain arithmetic of groups of digits, the lowest one first, and of a number's end in 0s cut off. No program, no walk. -/
namespace Go.Proofs.YtfdpddlefobcpaaGreatDoor
set_option linter.unusedVariables false
set_option maxRecDepth 20000
namespace N
open Go.Lib (decDigits nDigits nDigits_small nDigits_big nDigits_pos lt_pow_nDigits decDigits_length)
theorem padD_split : ∀ (k j u : Nat), padD (j + k) u = padD j (u / 10 ^ k) ++ padD k u := by
  intro k; induction k with
  | zero => intro j u; simp [padD]
  | succ k ih =>
    intro j u
    show padD (j + k) (u / 10) ++ _ = _ ++ (padD k (u / 10) ++ _)
    rw [ih j (u / 10), List.append_assoc, Nat.div_div_eq_div_mul, Nat.pow_succ, Nat.mul_comm 10]
theorem padD_mod : ∀ (k u : Nat), padD k (u % 10 ^ k) = padD k u := by
  intro k; induction k with
  | zero => intro u; rfl
  | succ k ih =>
    intro u
    show padD k (u % 10 ^ (k + 1) / 10) ++ [UInt8.ofNat (48 + u % 10 ^ (k + 1) % 10)] = padD k (u / 10) ++ [UInt8.ofNat (48 + u % 10)]
    have e1 : u % 10 ^ (k + 1) / 10 = u / 10 % 10 ^ k := by rw [Nat.pow_succ, Nat.mul_comm, Nat.mod_mul_right_div_self]
    have e2 : u % 10 ^ (k + 1) % 10 = u % 10 := by rw [Nat.pow_succ, Nat.mul_comm, Nat.mod_mul_right_mod]
    rw [e1, e2, ih]
/-- the k lowest digits, the lowest one first -/
def lowD (k u : Nat) : List UInt8 := (padD k u).reverse
theorem lowD_zero (u : Nat) : lowD 0 u = [] := rfl
theorem lowD_length (k u : Nat) : (lowD k u).length = k := by unfold lowD; rw [List.length_reverse, padD_length]
theorem lowD_split (k j u : Nat) : lowD (j + k) u = lowD k u ++ lowD j (u / 10 ^ k) := by
  unfold lowD; rw [padD_split, List.reverse_append]
theorem lowD_mod (k u : Nat) : lowD k (u % 10 ^ k) = lowD k u := by unfold lowD; rw [padD_mod]
theorem lowD_succ (k u : Nat) : lowD (k + 1) u = lowD k u ++ [UInt8.ofNat (48 + u / 10 ^ k % 10)] := by
  rw [Nat.add_comm, lowD_split]; rfl
/-- the digits of words, the lowest one first, a group of 19 each -/
def gdI (xs : List Int) : List UInt8 := xs.flatMap fun x => lowD 19 x.toNat
theorem gdI_snoc (xs : List Int) (x : Int) : gdI (xs ++ [x]) = gdI xs ++ lowD 19 x.toNat := by unfold gdI; simp
theorem gdI_length (xs : List Int) : (gdI xs).length = 19 * xs.length := by
  unfold gdI
  induction xs with
  | nil => rfl
  | cons x t ih => rw [List.flatMap_cons, List.length_append, ih, lowD_length, List.length_cons]; omega
/-- the i lowest groups of a number -/
def grI (i u : Nat) : List Int := (List.range i).map fun j => ((u / 10 ^ (19 * j) % 10 ^ 19 : Nat) : Int)
theorem grI_length (i u : Nat) : (grI i u).length = i := by simp [grI]
theorem grI_succ (i u : Nat) : grI (i + 1) u = grI i u ++ [((u / 10 ^ (19 * i) % 10 ^ 19 : Nat) : Int)] := by
  unfold grI; rw [List.range_succ, List.map_append]; rfl
theorem grI_dg (i u : Nat) : Dg B (grI i u) := by
  induction i with
  | zero => exact Dg.nil
  | succ i ih =>
    rw [grI_succ]
    refine ih.append (Dg.one (by omega) ?_)
    have : u / 10 ^ (19 * i) % 10 ^ 19 < 10 ^ 19 := Nat.mod_lt _ (by decide)
    show _ < (18446744073709551616 : Int)
    omega
theorem gdI_grI (i u : Nat) : gdI (grI i u) = lowD (19 * i) u := by
  induction i with
  | zero => rfl
  | succ i ih =>
    rw [grI_succ, gdI_snoc, ih, Int.toNat_natCast, lowD_mod, Nat.mul_succ, Nat.add_comm, lowD_split]
theorem grI_pad (u i : Nat) (h : u / 10 ^ (19 * i) = 0) : ∀ d, grI (i + d) u = grI i u ++ List.replicate d 0 := by
  intro d; induction d with
  | zero => simp
  | succ d ih =>
    rw [← Nat.add_assoc, grI_succ, ih, List.append_assoc, List.replicate_succ', show u / 10 ^ (19 * (i + d)) = 0 by
      rw [Nat.mul_add, Nat.pow_add, ← Nat.div_div_eq_div_mul, h, Nat.zero_div]]
    rfl
theorem grI_take (i j u : Nat) (h : i ≤ j) : (grI j u).take i = grI i u := by
  unfold grI; rw [← List.map_take, List.take_range, Nat.min_eq_left h]
/-- one more group -/
theorem grI_set (i u d : Nat) : (grI i u ++ List.replicate (d + 1) 0).set i ((u / 10 ^ (19 * i) % 10 ^ 19 : Nat) : Int) = grI (i + 1) u ++ List.replicate d 0 := by
  rw [List.set_append_right _ _ (by rw [grI_length]; exact Nat.le_refl _), grI_length, Nat.sub_self, List.replicate_succ, List.set_cons_zero, grI_succ, List.append_assoc]
  rfl
/-- with the 0s at the end cut off, and turned about, the digits of a number that has no more are its own -/
theorem trim_lowD (K v : Nat) (h : v < 10 ^ K) : (Go.Lib.trimRightS (lowD K v) [48]).reverse = if v = 0 then [] else decDigits v := by
  unfold Go.Lib.trimRightS lowD
  rw [List.reverse_reverse, List.reverse_reverse]
  by_cases h0 : v = 0
  · rw [if_pos h0, h0, padD_zero]
    clear h
    induction K with
    | zero => rfl
    | succ K ih => rw [List.replicate_succ, List.dropWhile_cons, if_pos (by decide)]; exact ih
  · rw [if_neg h0]
    have hK : 1 ≤ K := by
      rcases Nat.eq_zero_or_pos K with e | e
      · subst e; simp at h; omega
      · exact e
    rw [(padD_dd K v h hK).2]
    generalize K - nDigits v = m
    induction m with
    | zero =>
      rw [List.replicate_zero, List.nil_append]
      cases e : decDigits v with
      | nil => exact absurd e (dd_ne v)
      | cons b t =>
        have hh := dd_head v (by omega)
        rw [e] at hh
        have hb : b ≠ 48 := fun e' => hh (by rw [e']; rfl)
        rw [List.dropWhile_cons, if_neg]
        simpa using hb
    | succ m ih => rw [List.replicate_succ, List.cons_append, List.dropWhile_cons, if_pos (by decide)]; exact ih
theorem trim_le (l cs : List UInt8) : (Go.Lib.trimRightS l cs).length ≤ l.length := by
  unfold Go.Lib.trimRightS
  rw [List.length_reverse]
  exact Nat.le_trans (List.dropWhile_sublist _).length_le (Nat.le_of_eq List.length_reverse)
/-- how many groups there may be, and their digits -/
def RM : Nat := 64
def KD : Nat := 19 * RM
theorem two_le_ten (m : Nat) : (2 : Nat) ^ (63 * m) ≤ 10 ^ (19 * m) := by
  rw [Nat.pow_mul, Nat.pow_mul]; exact Nat.pow_le_pow_left (by decide) m
theorem fits_core {v K R : Nat} (hR : R = 64) (hK : K = 19 * R) (h : W.len (v : Int) ≤ 4032) : v < 10 ^ K := by
  obtain ⟨k, hk, h1, _⟩ := len_spec (v : Int) (by omega)
  have h2 : v < 2 ^ k := by exact_mod_cast h1
  have h3 : 2 ^ k ≤ 2 ^ (63 * R) := Nat.pow_le_pow_right (by omega) (by omega)
  have h4 := two_le_ten R
  rw [← hK] at h4
  exact Nat.lt_of_lt_of_le h2 (Nat.le_trans h3 h4)
/-- a number of at most 4032 bits has no more digits than 64 groups -/
theorem fits_yes {v : Nat} (h : W.len (v : Int) ≤ 4032) : v < 10 ^ KD := fits_core (R := RM) rfl rfl h
theorem fits_no {v : Nat} (h : ¬ W.len (v : Int) ≤ 4032) : 0 < v := by
  rcases Nat.eq_zero_or_pos v with e | e
  · subst e; exact absurd (by rw [show ((0 : Nat) : Int) = 0 from rfl, len_0]; omega) h
  · exact e
theorem ten_ok : W.len (10 : Int) = 4 := len_of' 10 4 (by omega) (by decide) (.inr (by decide))
/-- the value of the first digits, and a group more -/
theorem dv_take_more (bs : List UInt8) (k n : Nat) : dv (bs.take (k + n)) = dv (bs.take k) * 10 ^ ((bs.drop k).take n).length + dv ((bs.drop k).take n) := by
  rw [← dv_append, List.take_add]
end N
end Go.Proofs.YtfdpddlefobcpaaGreatDoor
