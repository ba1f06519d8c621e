/- Plain arithmetic: lengths in bits, places, powers of 2. No program, no walk. -/
import Derived.Test.YtbadbjmhmadbmaaDoorNatMath
namespace Go.Proofs.YtbadbjmhmadbmaaDoor
set_option linter.unusedVariables false
set_option maxRecDepth 20000
namespace N
theorem Q_two (k : Nat) : Q B k = 2 ^ (64 * k) := by
  unfold Q
  rw [Int.pow_mul]; rfl
theorem len_of' (a : Int) (k : Nat) (h0 : 0 ≤ a) (h1 : a < 2 ^ k) (h2 : k = 0 ∨ 2 ^ (k - 1) ≤ a) : W.len a = k := by
  obtain ⟨n, rfl⟩ := Int.eq_ofNat_of_zero_le h0
  unfold W.len
  rw [Int.toNat_natCast, W.lenN_of n k]
  · rw [← W.cast_pow] at h1; omega
  · rcases h2 with h2 | h2
    · exact .inl h2
    · right; rw [← W.cast_pow] at h2; omega
theorem len_spec (a : Int) (h0 : 0 ≤ a) : ∃ k : Nat, W.len a = k ∧ a < 2 ^ k ∧ (k = 0 ∨ 2 ^ (k - 1) ≤ a) := by
  obtain ⟨n, rfl⟩ := Int.eq_ofNat_of_zero_le h0
  have := W.lenN_spec n
  refine ⟨W.lenN n, by unfold W.len; rw [Int.toNat_natCast], ?_, ?_⟩
  · rw [← W.cast_pow]; omega
  · rcases this.2 with h2 | h2
    · exact .inl h2
    · right; rw [← W.cast_pow]; omega
theorem len_0 : W.len 0 = 0 := len_of' 0 0 (by omega) (by decide) (.inl rfl)
theorem len_nonneg (a : Int) : 0 ≤ W.len a := by unfold W.len; omega
/-- a value by its places up to one beyond which there is none -/
theorem val_top (b : Int) (xs : List Int) (h : 0 < nn xs) : val b xs = lo b xs (nn xs - 1) + lim xs (nn xs - 1) * Q b (nn xs - 1) := by
  rw [← lo_succ, show nn xs - 1 + 1 = nn xs by omega]
  exact (val_tr b xs).symm
theorem len_top {xs : List Int} (hd : Dg B xs) (h : 0 < nn xs) : W.len (val B xs) = ((nn xs - 1 : Nat) : Int) * 64 + W.len (lim xs (nn xs - 1)) := by
  have hv := val_top B xs h
  have hl := lo_lt (by decide) hd (nn xs - 1)
  have ht := nn_top xs h
  have hg := hd.lim (by decide) (nn xs - 1)
  generalize lim xs (nn xs - 1) = x at *
  generalize nn xs - 1 = t at *
  obtain ⟨k, hk, h1, h2⟩ := len_spec x hg.1
  have hk0 : k ≠ 0 := by
    rintro rfl
    simp at h1; omega
  have h2' : 2 ^ (k - 1) ≤ x := by rcases h2 with h2 | h2; exact absurd h2 hk0; exact h2
  have hq := Q_pos (b := B) (by decide) t
  rw [hk, len_of' (val B xs) (64 * t + k) (val_nonneg (by decide) hd)]
  · omega
  · rw [hv, Int.pow_add, ← Q_two]
    have : (x + 1) * Q B t ≤ 2 ^ k * Q B t := Int.mul_le_mul_of_nonneg_right (by omega) (by omega)
    rw [Int.add_mul, Int.one_mul] at this
    rw [Int.mul_comm (Q B t)]; omega
  · right
    rw [hv, show 64 * t + k - 1 = 64 * t + (k - 1) by omega, Int.pow_add, ← Q_two, Int.mul_comm (Q B t)]
    have : 2 ^ (k - 1) * Q B t ≤ x * Q B t := Int.mul_le_mul_of_nonneg_right h2' (by omega)
    omega
theorem nn_limbs {xs : List Int} (h : Dg B xs) : nn xs = (limbs (val B xs)).length := by rw [limbs_of h, tr_length]
theorem nn_zero_iff {xs : List Int} (h : Dg B xs) : nn xs = 0 ↔ val B xs = 0 := by
  have := limbs_len_le (val_nonneg (by decide) h) 0
  rw [← nn_limbs h, Q_zero] at this
  have h0 := val_nonneg (b := B) (by decide) h
  omega
theorem nn_one_iff {xs : List Int} (h : Dg B xs) : nn xs ≤ 1 ↔ val B xs < 18446744073709551616 := by
  have := limbs_len_le (val_nonneg (by decide) h) 1
  rw [← nn_limbs h] at this
  have e : Q B 1 = 18446744073709551616 := by unfold Q; rfl
  rwa [e] at this
theorem lim_zero {xs : List Int} (h : Dg B xs) (hv : val B xs < 18446744073709551616) : lim xs 0 = val B xs := by
  rw [lim_div (by decide) h 0, Q_zero, Int.ediv_one]
  exact Int.emod_eq_of_lt (val_nonneg (by decide) h) hv
/-- a place of a value, by its limb -/
theorem bit_lim {xs : List Int} (h : Dg B xs) (n : Nat) : lim xs (n / 64) / 2 ^ (n % 64) % 2 = val B xs / 2 ^ n % 2 := by
  rw [lim_div (by decide) h, Q_two]
  have e : (2 : Int) ^ n = 2 ^ (64 * (n / 64)) * 2 ^ (n % 64) := by rw [← Int.pow_add]; congr 1; omega
  rw [e, ← Int.ediv_ediv_of_nonneg (Int.le_of_lt (W.pow_pos _))]
  generalize val B xs / 2 ^ (64 * (n / 64)) = v
  have hr : n % 64 < 64 := Nat.mod_lt _ (by omega)
  generalize n % 64 = r at *
  have e2 : (B : Int) = 2 ^ r * (2 * 2 ^ (63 - r)) := by
    rw [← W.pow_succ, ← Int.pow_add, show r + (63 - r + 1) = 64 by omega]; rfl
  rw [e2]
  have hp := W.pow_pos r
  generalize (2 : Int) ^ (63 - r) = s
  generalize (2 : Int) ^ r = p at *
  have e3 := Int.mul_ediv_add_emod v (p * (2 * s))
  generalize v % (p * (2 * s)) = m at *
  generalize v / (p * (2 * s)) = q at *
  rw [← e3, show p * (2 * s) * q + m = m + p * (2 * (s * q)) by rw [Int.mul_assoc, Int.mul_assoc]; omega, Int.add_mul_ediv_left _ _ (by omega)]
  omega
end N
end Go.Proofs.YtbadbjmhmadbmaaDoor
