/- Plain arithmetic of the division of two words by one, with two guesses of half a word each (Knuth's Algorithm D as math/bits has it). -/
import Derived.Test.YtbadbjmhmadbmaaDoorWordMath
namespace Go.Proofs.YtbadbjmhmadbmaaDoor
set_option linter.unusedVariables false
set_option maxRecDepth 20000
namespace W
/-- the guess is not too low -/
theorem d_start {u v y1 y0 Q : Int} (hu : 0 ≤ u) (hv0 : 0 ≤ v) (hv : v < 4294967296) (h1 : 2147483648 ≤ y1) (h0 : 0 ≤ y0) (huY : u < y1 * 4294967296 + y0)
    (hQ : Q = (u * 4294967296 + v) / (y1 * 4294967296 + y0)) : Q ≤ u / y1 ∧ 0 ≤ Q ∧ Q < 4294967296 := by
  subst hQ
  have hY : 0 < y1 * 4294967296 + y0 := by omega
  have e0 : 0 ≤ (u * 4294967296 + v) / (y1 * 4294967296 + y0) := Int.ediv_nonneg (by omega) (by omega)
  refine ⟨?_, e0, ?_⟩
  · have h := Int.ediv_mul_le (u * 4294967296 + v) (b := y1 * 4294967296 + y0) (by omega)
    generalize (u * 4294967296 + v) / (y1 * 4294967296 + y0) = Q at *
    rw [Int.le_ediv_iff_mul_le (by omega)]
    have h2 : Q * (y1 * 4294967296 + y0) = (Q * y1) * 4294967296 + Q * y0 := by grind
    have h3 : 0 ≤ Q * y0 := Int.mul_nonneg e0 h0
    rw [h2] at h
    generalize Q * y1 = A at *
    generalize Q * y0 = B at *
    omega
  · refine Int.ediv_lt_of_lt_mul hY ?_
    omega
theorem d_le {u v Y q Q : Int} (hY : 0 < Y) (hQ : Q = (u * 4294967296 + v) / Y) (h : q * Y ≤ u * 4294967296 + v) : q ≤ Q := by
  subst hQ; exact (Int.le_ediv_iff_mul_le hY).2 h
theorem d_gt {u v Y q Q : Int} (hY : 0 < Y) (hQ : Q = (u * 4294967296 + v) / Y) (h : u * 4294967296 + v < q * Y) : Q < q := by
  subst hQ; exact Int.ediv_lt_of_lt_mul hY h
theorem d_prod {u y1 y0 q r : Int} (e : q * y1 + r = u) : q * (y1 * 4294967296 + y0) = (u - r) * 4294967296 + q * y0 := by
  subst e; grind
theorem d_down {u v y1 y0 q r Q : Int} (h1 : 2147483648 ≤ y1) (h0 : 0 ≤ y0) (hQ : Q = (u * 4294967296 + v) / (y1 * 4294967296 + y0)) (e : q * y1 + r = u)
    (h : 4294967296 * r + v < q * y0) : Q ≤ q - 1 := by
  have g := d_gt (q := q) (show 0 < y1 * 4294967296 + y0 by omega) hQ (by rw [d_prod e]; omega)
  omega
theorem d_stop {u v y1 y0 q r Q : Int} (h1 : 2147483648 ≤ y1) (h0 : 0 ≤ y0) (hQ : Q = (u * 4294967296 + v) / (y1 * 4294967296 + y0)) (e : q * y1 + r = u)
    (hq : Q ≤ q) (h : q * y0 ≤ 4294967296 * r + v) : q = Q := by
  have g := d_le (q := q) (show 0 < y1 * 4294967296 + y0 by omega) hQ (by rw [d_prod e]; omega)
  omega
theorem d_break {u v y1 y0 q r Q : Int} (hv0 : 0 ≤ v) (h1 : 2147483648 ≤ y1) (h0 : 0 ≤ y0) (h0' : y0 < 4294967296) (hQ : Q = (u * 4294967296 + v) / (y1 * 4294967296 + y0)) (e : q * y1 + r = u)
    (hQ0 : 0 ≤ Q) (hq : Q ≤ q) (huY : u < y1 * 4294967296 + y0) (hr : 4294967296 ≤ r) : q = Q := by
  have hlt : q < 4294967296 := by
    apply Classical.byContradiction
    intro hn
    have := Int.mul_le_mul_of_nonneg_right (show 4294967296 ≤ q by omega) (show 0 ≤ y1 by omega)
    omega
  have hp : q * y0 ≤ 4294967295 * 4294967295 := Int.mul_le_mul (by omega) (by omega) h0 (by omega)
  exact d_stop h1 h0 hQ e hq (by omega)
/-- of a guess that has been found: no product is greater than a word -/
theorem d_small {q y0 : Int} (hq : 0 ≤ q) (hq' : q < 4294967296) (h0 : 0 ≤ y0) (h0' : y0 < 4294967296) : 0 ≤ q * y0 ∧ q * y0 ≤ 18446744065119617025 :=
  ⟨Int.mul_nonneg hq h0, Int.mul_le_mul (c := 4294967295) (d := 4294967295) (by omega) (by omega) h0 (by omega)⟩
/-- what is left of a step -/
theorem d_rest {u v Y Q : Int} (hY : 0 < Y) (hQ : Q = (u * 4294967296 + v) / Y) : u * 4294967296 + v - Q * Y = (u * 4294967296 + v) % Y ∧ 0 ≤ u * 4294967296 + v - Q * Y ∧ u * 4294967296 + v - Q * Y < Y := by
  subst hQ
  have h1 := Int.mul_ediv_add_emod (u * 4294967296 + v) Y
  have h2 := Int.emod_nonneg (u * 4294967296 + v) (b := Y) (by omega)
  have h3 := Int.emod_lt_of_pos (u * 4294967296 + v) hY
  rw [Int.mul_comm] at h1
  omega
/-- both steps: the quotient and what is left, of what was shifted -/
theorem d_all {N y P Q1 Q0 R1 R0 U1 un1 un0 : Int} (hy : 0 < y) (hP : 0 < P) (hN : N * P = U1 * 18446744073709551616 + un1 * 4294967296 + un0)
    (e1 : U1 * 4294967296 + un1 - Q1 * (y * P) = R1) (e0 : R1 * 4294967296 + un0 - Q0 * (y * P) = R0) (h0 : 0 ≤ R0) (hR : R0 < y * P) :
    Q1 * 4294967296 + Q0 = N / y ∧ R0 / P = N % y := by
  have h : N * P = (Q1 * 4294967296 + Q0) * y * P + R0 := by subst e0; subst e1; rw [hN]; grind
  have h2 : R0 = (N - (Q1 * 4294967296 + Q0) * y) * P := by rw [Int.sub_mul]; omega
  generalize Q1 * 4294967296 + Q0 = q at *
  have h3 : R0 / P = N - q * y := by rw [h2]; exact Int.mul_ediv_cancel _ (Int.ne_of_gt hP)
  have h4 : 0 ≤ N - q * y := by rw [← h3]; exact Int.ediv_nonneg h0 (Int.le_of_lt hP)
  have h5 : N - q * y < y := by rw [← h3]; exact Int.ediv_lt_of_lt_mul hP hR
  have h6 := Int.mul_ediv_add_emod N y
  have h7 : N = N - q * y + q * y := by omega
  have h8 : N / y = q := by
    rw [h7, Int.add_mul_ediv_right _ _ (Int.ne_of_gt hy), Int.ediv_eq_zero_of_lt h4 h5]; omega
  refine ⟨h8.symm, ?_⟩
  rw [h3]
  rw [h8, Int.mul_comm] at h6
  omega
/-- a word, shifted to the left end -/
theorem d_norm {y : Int} (h0 : 0 < y) (hy : y < 18446744073709551616) : ∃ s : Nat, len y = 64 - s ∧ s ≤ 63 ∧ 9223372036854775808 ≤ y * 2 ^ s ∧ y * 2 ^ s < 18446744073709551616 := by
  obtain ⟨n, rfl⟩ := Int.eq_ofNat_of_zero_le (Int.le_of_lt h0)
  have h := lenN_spec n
  have hl : lenN n ≤ 64 := by
    have : ¬ 64 < lenN n := by
      intro hc
      rcases h.2 with h2 | h2
      · omega
      · have := Nat.pow_le_pow_right (show 0 < 2 by omega) (show 64 ≤ lenN n - 1 by omega); omega
    omega
  have hp : 1 ≤ lenN n := by
    rcases Nat.eq_zero_or_pos (lenN n) with h2 | h2
    · rw [h2] at h; omega
    · exact h2
  refine ⟨64 - lenN n, ?_, by omega, ?_, ?_⟩
  · unfold len; rw [Int.toNat_natCast]; omega
  · have h2 : 2 ^ (lenN n - 1) ≤ n := by rcases h.2 with h2 | h2 <;> omega
    have h3 := Nat.mul_le_mul_right (2 ^ (64 - lenN n)) h2
    rw [← Nat.pow_add, show lenN n - 1 + (64 - lenN n) = 63 by omega] at h3
    rw [← cast_pow, ← Int.natCast_mul]; omega
  · have h3 := Nat.mul_lt_mul_of_pos_right h.1 (Nat.two_pow_pos (64 - lenN n))
    rw [← Nat.pow_add, show lenN n + (64 - lenN n) = 64 by omega] at h3
    rw [← cast_pow, ← Int.natCast_mul]; omega
/-- two words, shifted to the left by what the divisor is shifted -/
theorem d_shift {hi lo y : Int} {s : Nat} (hs : s ≤ 63) (h0 : 0 ≤ hi) (hl : Wd lo) (hy : hi < y) (hY : y * 2 ^ s < 18446744073709551616) :
    0 ≤ hi * 2 ^ s ∧ hi * 2 ^ s < 18446744073709551616 ∧ 0 ≤ lo / 2 ^ (64 - s) ∧ (∃ x z : Nat, hi * 2 ^ s = ((x * 2 ^ s : Nat) : Int) ∧ lo / 2 ^ (64 - s) = (z : Int) ∧ z < 2 ^ s) ∧
    hi * 2 ^ s + lo / 2 ^ (64 - s) < y * 2 ^ s ∧ (hi * 18446744073709551616 + lo) * 2 ^ s = (hi * 2 ^ s + lo / 2 ^ (64 - s)) * 18446744073709551616 + lo * 2 ^ s % 18446744073709551616 := by
  obtain ⟨l0, l1⟩ := hl
  have hp := pow_pos s
  have hq := pow_pos (64 - s)
  have hs' := pow_split s (by omega)
  have a1 : 0 ≤ hi * 2 ^ s := Int.mul_nonneg h0 (Int.le_of_lt hp)
  have a2 : (hi + 1) * 2 ^ s ≤ y * 2 ^ s := Int.mul_le_mul_of_nonneg_right (by omega) (Int.le_of_lt hp)
  rw [Int.add_mul, Int.one_mul] at a2
  have a3 : 0 ≤ lo / 2 ^ (64 - s) := Int.ediv_nonneg l0 (Int.le_of_lt hq)
  have a4 : lo / 2 ^ (64 - s) < 2 ^ s := Int.ediv_lt_of_lt_mul hq (by rw [Int.mul_comm, ← hs']; exact l1)
  refine ⟨a1, by omega, a3, ⟨hi.toNat, (lo / 2 ^ (64 - s)).toNat, ?_, ?_, ?_⟩, by omega, ?_⟩
  · rw [Int.natCast_mul, cast_pow, Int.toNat_of_nonneg h0]
  · rw [Int.toNat_of_nonneg a3]
  · rw [← Int.ofNat_lt, Int.toNat_of_nonneg a3, cast_pow]; exact a4
  · have b1 : lo * 2 ^ s / 18446744073709551616 = lo / 2 ^ (64 - s) := by
      rw [hs', Int.mul_comm lo, Int.mul_comm (2 ^ (64 - s)), Int.mul_ediv_mul_of_pos _ _ hp]
    have b2 := Int.mul_ediv_add_emod (lo * 2 ^ s) 18446744073709551616
    rw [b1] at b2
    have b3 : (hi * 18446744073709551616 + lo) * 2 ^ s = hi * 2 ^ s * 18446744073709551616 + lo * 2 ^ s := by grind
    rw [b3, Int.add_mul]
    omega

/-- long division, bit by bit: what the next bit makes of the number -/
theorem r_bit (h l : Int) (j : Nat) (hj : j < 64) (c : Int) (hc : l / 2 ^ j % 2 = c) : (h * 18446744073709551616 + l) / 2 ^ j = 2 * ((h * 18446744073709551616 + l) / 2 ^ (j + 1)) + c := by
  have e : (h * 18446744073709551616 + l) / 2 ^ j % 2 = c := by
    have hs := pow_split j (by omega)
    have hp := pow_pos j
    rw [hs, ← Int.mul_assoc, Int.add_comm, Int.add_mul_ediv_right _ _ (Int.ne_of_gt hp), show 64 - j = (63 - j) + 1 by omega, Int.pow_succ, ← Int.mul_assoc h]
    omega
  rw [div_div2]; omega
/-- the step that takes the divisor off -/
theorem r_yes {q r d c N N' : Int} (hd : 0 < d) (hc : 0 ≤ c ∧ c ≤ 1) (e : q * d + r = N) (hN : N' = 2 * N + c) (hge : d ≤ 2 * r + c) :
    (2 * q + 1) * d + (2 * r + c - d) = N' := by subst hN; subst e; grind
theorem r_no {q r d c N N' : Int} (e : q * d + r = N) (hN : N' = 2 * N + c) : (2 * q) * d + (2 * r + c) = N' := by subst hN; subst e; grind
theorem r_lt {q r d N T : Int} (hd : 0 < d) (hr : 0 ≤ r) (e : q * d + r = N) (hN : N ≤ T) (hT : T < d * 18446744073709551616) : q < 18446744073709551616 := by
  apply Classical.byContradiction
  intro hn
  have := Int.mul_le_mul_of_nonneg_right (show 18446744073709551616 ≤ q by omega) (Int.le_of_lt hd)
  rw [Int.mul_comm 18446744073709551616] at this
  omega
theorem r_unique {q r d N : Int} (hd : 0 < d) (e : q * d + r = N) (h0 : 0 ≤ r) (h1 : r < d) : q = N / d ∧ r = N % d := by
  subst e
  rw [Int.add_comm, Int.add_mul_ediv_right _ _ (Int.ne_of_gt hd), Int.ediv_eq_zero_of_lt h0 h1, Int.add_mul_emod_self_right, Int.emod_eq_of_lt h0 h1]
  omega
theorem two_lt {h l d : Int} (hh : 0 ≤ h) (hl : Wd l) (hlt : h < d) : h * 18446744073709551616 + l < d * 18446744073709551616 := by
  unfold Wd at hl; omega
/-- what the sum of what is left, twice, and a bit, tells -/
theorem r_out {r d c : Int} (hr : 0 ≤ r) (hrd : r < d) (hd : d < 18446744073709551616) (hc : 0 ≤ c ∧ c ≤ 1) :
    (2 * r + c < d → addS r r c = 2 * r + c ∧ (addC r r c == 1) = false ∧ ¬ d ≤ addS r r c) ∧
    (d ≤ 2 * r + c → subS (addS r r c) d 0 = 2 * r + c - d) ∧
    (18446744073709551616 ≤ 2 * r + c → (addC r r c == 1) = true) ∧
    (2 * r + c < 18446744073709551616 → addS r r c = 2 * r + c ∧ (addC r r c == 1) = false) := by
  have e : min c 1 = c := by omega
  unfold addS addC subS
  rw [e]
  simp only [beq_iff_eq, beq_eq_false_iff_ne]
  refine ⟨fun _ => ⟨by omega, by omega, by omega⟩, fun _ => by omega, fun _ => by omega, fun _ => ⟨by omega, by omega⟩⟩
end W
end Go.Proofs.YtbadbjmhmadbmaaDoor
