/- Plain arithmetic on words of 64 bits (Int): what the calls of layer 1 answer, and the laws of it. No program, no walk. -/
import Derived.Lib.BitFns
namespace Go.Proofs.YtbadbjmhmadbmaaDoor
set_option linter.unusedVariables false
set_option maxRecDepth 20000
namespace W
/-- a word -/
def Wd (x : Int) : Prop := 0 ≤ x ∧ x < 18446744073709551616
/-- the sum modulo 2^64; what is carried -/
def addS (a b c : Int) : Int := (a + b + min c 1) % 18446744073709551616
def addC (a b c : Int) : Int := (a + b + min c 1) / 18446744073709551616
def subS (a b c : Int) : Int := (a - b - min c 1) % 18446744073709551616
def subC (a b c : Int) : Int := -((a - b - min c 1) / 18446744073709551616)
def mulH (a b : Int) : Int := a * b / 18446744073709551616
def mulL (a b : Int) : Int := a * b % 18446744073709551616
def divQ (h l d : Int) : Int := (h * 18446744073709551616 + l) / d
def divR (h l d : Int) : Int := (h * 18446744073709551616 + l) % d
def lenN (n : Nat) : Nat := if n = 0 then 0 else n.log2 + 1
def len (a : Int) : Int := (lenN a.toNat : Int)
def shlH (a n : Int) : Int := a * 2 ^ n.toNat / 18446744073709551616
def shlL (a n : Int) : Int := a * 2 ^ n.toNat % 18446744073709551616
def shr (h l n : Int) : Int := (h * 18446744073709551616 + l) / 2 ^ n.toNat % 18446744073709551616

theorem wd_addS (a b c : Int) : Wd (addS a b c) := by unfold Wd addS; omega
theorem wd_subS (a b c : Int) : Wd (subS a b c) := by unfold Wd subS; omega
theorem wd_addC {a b c : Int} (ha : Wd a) (hb : Wd b) (hc : Wd c) : Wd (addC a b c) := by unfold Wd addC at *; omega
theorem addC_le {a b c : Int} (ha : Wd a) (hb : Wd b) (hc : Wd c) : 0 ≤ addC a b c ∧ addC a b c ≤ 1 := by unfold Wd addC at *; omega
theorem wd_subC {a b c : Int} (ha : Wd a) (hb : Wd b) (hc : Wd c) : Wd (subC a b c) := by unfold Wd subC at *; omega
theorem wd_0 : Wd 0 := by unfold Wd; omega
theorem wd_1 : Wd 1 := by unfold Wd; omega
/-- a product of two words is below 2^128 -/
theorem mul_lt {a b : Int} (ha : Wd a) (hb : Wd b) : 0 ≤ a * b ∧ a * b ≤ 340282366920938463426481119284349108225 := by
  obtain ⟨a0, a1⟩ := ha; obtain ⟨b0, b1⟩ := hb
  refine ⟨Int.mul_nonneg a0 b0, ?_⟩
  have := Int.mul_le_mul (show a ≤ 18446744073709551615 by omega) (show b ≤ 18446744073709551615 by omega) b0 (by omega)
  simpa using this
theorem wd_mulH {a b : Int} (ha : Wd a) (hb : Wd b) : Wd (mulH a b) := by have := mul_lt ha hb; unfold Wd mulH; omega
theorem wd_mulL (a b : Int) : Wd (mulL a b) := by unfold Wd mulL; omega
/-- twice two words -/
theorem dbl {h l T : Int} (hh : Wd h) (hl : Wd l) (e : h * 18446744073709551616 + l = T) (hT : 2 * T < 340282366920938463463374607431768211456) :
    addS h h (addC l l 0) * 18446744073709551616 + addS l l 0 = 2 * T := by
  unfold Wd addS addC at *; omega
/-- a word more -/
theorem plus {h l T a : Int} (hh : Wd h) (hl : Wd l) (ha : Wd a) (e : h * 18446744073709551616 + l = T) (hT : T + a < 340282366920938463463374607431768211456) :
    addS h 0 (addC l a 0) * 18446744073709551616 + addS l a 0 = T + a := by
  unfold Wd addS addC at *; omega
theorem two_words {h l T : Int} (hl : Wd l) (e : h * 18446744073709551616 + l = T) : h = T / 18446744073709551616 ∧ l = T % 18446744073709551616 := by
  unfold Wd at *; omega
theorem pow_succ (k : Nat) : (2 : Int) ^ (k + 1) = 2 * 2 ^ k := by rw [Int.pow_succ]; omega
theorem pow_pos (k : Nat) : (0 : Int) < 2 ^ k := Int.pow_pos (by omega)
theorem div_div2 (b : Int) (k : Nat) : b / 2 ^ (k + 1) = b / 2 ^ k / 2 := by
  rw [Int.pow_succ, Int.ediv_ediv_of_nonneg (Int.le_of_lt (pow_pos k))]
theorem div_le (b : Int) (k : Nat) (hb : 0 ≤ b) : 0 ≤ b / 2 ^ k ∧ b / 2 ^ k ≤ b := ⟨Int.ediv_nonneg hb (Int.le_of_lt (pow_pos k)), Int.ediv_le_self _ hb⟩
/-- the products' step: one bit of b more -/
theorem mul_bit0 (a b : Int) (k : Nat) (h : b / 2 ^ k % 2 = 0) : a * (b / 2 ^ k) = 2 * (a * (b / 2 ^ (k + 1))) := by
  rw [div_div2]
  have : b / 2 ^ k = 2 * (b / 2 ^ k / 2) := by omega
  rw [show a * (b / 2 ^ k) = a * (2 * (b / 2 ^ k / 2)) by rw [← this], Int.mul_left_comm]
theorem mul_bit1 (a b : Int) (k : Nat) (h : b / 2 ^ k % 2 = 1) : a * (b / 2 ^ k) = 2 * (a * (b / 2 ^ (k + 1))) + a := by
  rw [div_div2]
  have : b / 2 ^ k = 2 * (b / 2 ^ k / 2) + 1 := by omega
  rw [show a * (b / 2 ^ k) = a * (2 * (b / 2 ^ k / 2) + 1) by rw [← this], Int.mul_add, Int.mul_left_comm, Int.mul_one]

theorem lenN_spec (n : Nat) : n < 2 ^ lenN n ∧ (lenN n = 0 ∨ 2 ^ (lenN n - 1) ≤ n) := by
  unfold lenN
  split
  · subst_vars; simp
  · rename_i h; exact ⟨Nat.lt_log2_self, Or.inr (by simpa using Nat.log2_self_le h)⟩
theorem pow_unique (n k j : Nat) (h1 : n < 2 ^ k) (h2 : k = 0 ∨ 2 ^ (k - 1) ≤ n) (h3 : n < 2 ^ j) (h4 : j = 0 ∨ 2 ^ (j - 1) ≤ n) : k = j := by
  rcases Nat.lt_trichotomy k j with h | h | h
  · rcases h4 with h4 | h4
    · omega
    · have := Nat.pow_le_pow_right (show 0 < 2 by omega) (show k ≤ j - 1 by omega); omega
  · exact h
  · rcases h2 with h2 | h2
    · omega
    · have := Nat.pow_le_pow_right (show 0 < 2 by omega) (show j ≤ k - 1 by omega); omega
theorem lenN_of (n k : Nat) (h1 : n < 2 ^ k) (h2 : k = 0 ∨ 2 ^ (k - 1) ≤ n) : lenN n = k :=
  pow_unique n _ _ (lenN_spec n).1 (lenN_spec n).2 h1 h2
theorem lt_pow_of (a : Int) (k : Nat) (h : a / 2 ^ k = 0) : a < 2 ^ k := by
  have h1 := Int.mul_ediv_add_emod a (2 ^ k)
  have h2 := Int.emod_lt_of_pos a (pow_pos k)
  rw [h, Int.mul_zero] at h1; omega
theorem pow_le_of (a : Int) (k : Nat) (h : 0 < a / 2 ^ k) : 2 ^ k ≤ a := by
  have := (Int.le_ediv_iff_mul_le (pow_pos k)).1 (show 1 ≤ a / 2 ^ k by omega)
  omega
theorem cast_pow (k : Nat) : ((2 ^ k : Nat) : Int) = 2 ^ k := by simp
theorem len_of (a : Int) (k : Nat) (ha : 0 ≤ a) (h1 : a / 2 ^ k = 0) (h2 : k = 0 ∨ 0 < a / 2 ^ (k - 1)) : len a = k := by
  have g1 := lt_pow_of a k h1
  have g2 : k = 0 ∨ 2 ^ (k - 1) ≤ a := h2.imp id (pow_le_of a _)
  obtain ⟨n, rfl⟩ := Int.eq_ofNat_of_zero_le ha
  unfold len
  rw [Int.toNat_natCast]
  rw [← cast_pow] at g1
  rw [← cast_pow] at g2
  rw [lenN_of n k (by omega) (by omega)]
theorem div_pos_lt (a : Int) (k : Nat) (ha : Wd a) (h : 0 < a / 2 ^ k) : k < 64 := by
  apply Classical.byContradiction
  intro hk
  have h1 := pow_le_of a k h
  have h2 : (2 : Int) ^ 64 ≤ 2 ^ k := by rw [← cast_pow, ← cast_pow]; exact Int.ofNat_le.2 (Nat.pow_le_pow_right (by omega) (by omega))
  unfold Wd at ha
  omega
theorem div_div256 (b : Int) (k : Nat) : b / 2 ^ (k + 8) = b / 2 ^ k / 256 := by
  rw [Int.pow_add, Int.ediv_ediv_of_nonneg (Int.le_of_lt (pow_pos k))]; rfl
theorem div_div128 (b : Int) (k : Nat) : b / 2 ^ (k + 7) = b / 2 ^ k / 128 := by
  rw [Int.pow_add, Int.ediv_ediv_of_nonneg (Int.le_of_lt (pow_pos k))]; rfl

theorem pow_split (m : Nat) (h : m ≤ 64) : (18446744073709551616 : Int) = 2 ^ (64 - m) * 2 ^ m := by
  rw [← Int.pow_add, show 64 - m + m = 64 by omega]; rfl
theorem shlH_eq (a n : Int) (h0 : 0 ≤ n) (h1 : n ≤ 64) : shlH a n = a / 2 ^ (64 - n).toNat := by
  obtain ⟨m, rfl⟩ := Int.eq_ofNat_of_zero_le h0
  unfold shlH
  rw [show ((64 : Int) - m).toNat = 64 - m by omega, Int.toNat_natCast, pow_split m (by omega), Int.mul_comm a, Int.mul_comm (2 ^ (64 - m)), Int.mul_ediv_mul_of_pos _ _ (pow_pos m)]
theorem wd_shlH {a n : Int} (ha : Wd a) (h0 : 0 ≤ n) (h1 : n ≤ 64) : Wd (shlH a n) := by
  rw [shlH_eq a n h0 h1]
  obtain ⟨g0, g1⟩ := ha
  have := div_le a (64 - n).toNat g0
  unfold Wd; omega
theorem wd_shlL (a n : Int) : Wd (shlL a n) := by unfold Wd shlL; omega
theorem wd_shr (h l n : Int) : Wd (shr h l n) := by unfold Wd shr; omega
theorem nat_or (x y k : Nat) (h : y < 2 ^ k) : y ||| x * 2 ^ k = x * 2 ^ k + y := by
  rw [Nat.mul_comm, Nat.or_comm, ← Nat.two_pow_add_eq_or_of_lt h]
/-- two words, divided by 2 to the power of n: what the low one keeps, and what comes down from the high one -/
theorem shr_eq (h l n : Int) (hl : Wd l) (h0 : 0 ≤ n) (h1 : n ≤ 64) :
    shr h l n = h * 2 ^ (64 - n).toNat % 18446744073709551616 + l / 2 ^ n.toNat ∧ ∃ x y k : Nat, h * 2 ^ (64 - n).toNat % 18446744073709551616 = ((x * 2 ^ k : Nat) : Int) ∧ l / 2 ^ n.toNat = (y : Int) ∧ y < 2 ^ k ∧ x * 2 ^ k + y < 18446744073709551616 := by
  obtain ⟨m, rfl⟩ := Int.eq_ofNat_of_zero_le h0
  obtain ⟨g0, g1⟩ := hl
  rw [show ((64 : Int) - m).toNat = 64 - m by omega, Int.toNat_natCast]
  have hp := pow_pos m
  have hq := pow_pos (64 - m)
  have hs := pow_split m (by omega)
  have e1 : h * 2 ^ (64 - m) % 18446744073709551616 = h % 2 ^ m * 2 ^ (64 - m) := by
    rw [hs, Int.mul_comm h, Int.mul_emod_mul_of_pos _ _ hq, Int.mul_comm]
  have e2 : l / 2 ^ m < 2 ^ (64 - m) := by
    refine Int.ediv_lt_of_lt_mul hp ?_
    rw [← hs]; exact g1
  have e3 : 0 ≤ l / 2 ^ m := Int.ediv_nonneg g0 (Int.le_of_lt hp)
  have e4 : (h * 18446744073709551616 + l) / 2 ^ m = h * 2 ^ (64 - m) + l / 2 ^ m := by
    rw [hs, ← Int.mul_assoc, Int.add_comm, Int.add_mul_ediv_right _ _ (Int.ne_of_gt hp), Int.add_comm]
  have e5 : 0 ≤ h % 2 ^ m := Int.emod_nonneg _ (Int.ne_of_gt hp)
  have e6 : h % 2 ^ m < 2 ^ m := Int.emod_lt_of_pos _ hp
  have e7 : h % 2 ^ m * 2 ^ (64 - m) + l / 2 ^ m < 18446744073709551616 := by
    have h8 : (h % 2 ^ m + 1) * 2 ^ (64 - m) ≤ 2 ^ m * 2 ^ (64 - m) := Int.mul_le_mul_of_nonneg_right (by omega) (Int.le_of_lt hq)
    rw [Int.add_mul, Int.one_mul, Int.mul_comm (2 ^ m) (2 ^ (64 - m)), ← hs] at h8
    omega
  have e8 : 0 ≤ h % 2 ^ m * 2 ^ (64 - m) := Int.mul_nonneg e5 (Int.le_of_lt hq)
  refine ⟨?_, (h % 2 ^ m).toNat, (l / 2 ^ m).toNat, 64 - m, ?_, ?_, ?_, ?_⟩
  · unfold shr
    rw [Int.toNat_natCast, e4, Int.add_emod, e1, Int.emod_eq_of_lt e3 (by omega), Int.emod_eq_of_lt (by omega) e7]
  · rw [e1, Int.natCast_mul, cast_pow, Int.toNat_of_nonneg e5]
  · rw [Int.toNat_of_nonneg e3]
  · rw [← Int.ofNat_lt, Int.toNat_of_nonneg e3, cast_pow]; exact e2
  · rw [← Int.ofNat_lt, Int.natCast_add, Int.natCast_mul, cast_pow, Int.toNat_of_nonneg e3, Int.toNat_of_nonneg e5]; exact e7
/-- one place more -/
theorem shr_step (h l : Int) (k : Nat) (hl : Wd l) : shr h l ((k + 1 : Nat) : Int) = shr h l (k : Int) / 2 + h / 2 ^ k % 2 * 9223372036854775808 := by
  have hp := pow_pos k
  obtain ⟨l0, l1⟩ := hl
  unfold shr
  rw [Int.toNat_natCast, Int.toNat_natCast, div_div2]
  have e1 : (h * 18446744073709551616 + l) / 2 ^ k / 18446744073709551616 = (h * 18446744073709551616 + l) / 18446744073709551616 / 2 ^ k := by
    rw [Int.ediv_ediv_of_nonneg (Int.le_of_lt hp), Int.ediv_ediv_of_nonneg (by omega), Int.mul_comm (2 ^ k)]
  have e2 : (h * 18446744073709551616 + l) / 18446744073709551616 = h := by omega
  rw [e2] at e1
  generalize (h * 18446744073709551616 + l) / 2 ^ k = X at *
  generalize h / 2 ^ k = Y at *
  omega

theorem shl_lt (a : Int) (ha : Wd a) (k : Nat) (hk : k ≤ 64) : 0 ≤ a * 2 ^ k ∧ a * 2 ^ k < 340282366920938463463374607431768211456 := by
  obtain ⟨a0, a1⟩ := ha
  have hp := pow_pos k
  have hq : (2 : Int) ^ k ≤ 18446744073709551616 := by
    have := pow_split k hk
    have h2 := pow_pos (64 - k)
    rw [this]
    have := Int.mul_le_mul_of_nonneg_right (show (1 : Int) ≤ 2 ^ (64 - k) by omega) (Int.le_of_lt hp)
    omega
  refine ⟨Int.mul_nonneg a0 (Int.le_of_lt hp), ?_⟩
  have h3 := Int.mul_le_mul_of_nonneg_right (show a ≤ 18446744073709551615 by omega) (Int.le_of_lt hp)
  omega

theorem div_le' (a d : Int) (ha : 0 ≤ a) (hd : 0 < d) : 0 ≤ a / d ∧ a / d ≤ a := ⟨Int.ediv_nonneg ha (Int.le_of_lt hd), Int.ediv_le_self _ ha⟩
end W
end Go.Proofs.YtbadbjmhmadbmaaDoor
