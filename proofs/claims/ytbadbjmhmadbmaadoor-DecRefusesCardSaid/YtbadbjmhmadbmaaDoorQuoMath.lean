/- Plain arithmetic of a division limb by limb: what an estimate from the highest limbs comes to, one step, the steps in a row. No program, no walk. -/
import Derived.Test.YtbadbjmhmadbmaaDoorNatMath2
namespace Go.Proofs.YtbadbjmhmadbmaaDoor
set_option linter.unusedVariables false
set_option maxRecDepth 20000
namespace N
/-- the limb below place i -/
def bel (xs : List Int) (i : Nat) : Int := lim (0 :: xs) i
theorem bel_zero (xs : List Int) : bel xs 0 = 0 := lim_cons_zero _ _
theorem bel_succ (xs : List Int) (i : Nat) : bel xs (i + 1) = lim xs i := lim_cons_succ _ _ _
/-- one limb of a row, shifted by k places -/
def shd (xs : List Int) (i : Nat) (k : Int) : Int := W.shr (lim xs i) (bel xs i) (64 - k)
theorem wd_shd (xs : List Int) (i : Nat) (k : Int) : W.Wd (shd xs i k) := W.wd_shr _ _ _
theorem drop_two (b : Int) (xs : List Int) (i : Nat) : val b (xs.drop i) = lim xs i + b * (lim xs (i + 1) + b * val b (xs.drop (i + 2))) := by
  have e : ∀ (ys : List Int), val b ys = lim ys 0 + b * val b (ys.drop 1) := by
    intro ys
    cases ys with
    | nil => simp [val, lim_nil]
    | cons y t => simp [val, lim_cons_zero]
  rw [e (xs.drop i), List.drop_drop, e (xs.drop (i + 1)), List.drop_drop, lim_drop, lim_drop]
  rfl
theorem shd_eq {xs : List Int} (h : Dg B xs) (i k : Nat) (hk : k ≤ 64) : shd xs i k = val B xs * 2 ^ k / Q B i % B := by
  have h0 : Dg B (0 :: xs) := Dg.cons (by omega) (by decide) h
  have e1 := (val_div (by decide) h0 i).1
  rw [drop_two] at e1
  have e2 : val B (0 :: xs) = 2 ^ (64 - k) * (val B xs * 2 ^ k) := by
    show 0 + B * val B xs = _
    rw [Int.mul_left_comm, ← Int.pow_add, show 64 - k + k = 64 by omega, Int.mul_comm]; simp
  have hp := W.pow_pos (64 - k)
  have hp' := W.pow_pos k
  have hq := Q_pos (b := B) (by decide) i
  have e3 : val B xs * 2 ^ k / Q B i = val B (0 :: xs) / Q B i / 2 ^ (64 - k) := by
    rw [Int.ediv_ediv_of_nonneg (Int.le_of_lt hq), Int.mul_comm (Q B i), e2, Int.mul_ediv_mul_of_pos _ _ hp]
  rw [e3, e1, lim_cons_succ]
  unfold shd W.shr bel
  rw [show ((64 : Int) - k).toNat = 64 - k by omega]
  generalize val B ((0 :: xs).drop (i + 2)) = z
  generalize lim (0 :: xs) i = l0
  generalize lim xs i = l1
  have e4 : l0 + B * (l1 + B * z) = (l1 * 18446744073709551616 + l0) + 2 ^ (64 - k) * (2 ^ k * (B * z)) := by
    rw [← Int.mul_assoc (2 ^ (64 - k)), ← Int.pow_add, show 64 - k + k = 64 by omega]
    have : (2 : Int) ^ 64 = 18446744073709551616 := by decide
    rw [this]; simp only [B]; omega
  rw [e4, Int.add_mul_ediv_left _ _ (Int.ne_of_gt hp), Int.mul_left_comm (2 ^ k), Int.add_mul_emod_self_left]
/-- an estimate of u divided by y, y's two highest limbs being v and w, u's two highest ones T -/
def estD (T v w : Int) : Int := if v ≤ T / 18446744073709551616 then 18446744073709551615 else if T % v < T / v * w / 18446744073709551616 then T / v - 1 else T / v
theorem estD_top {T v w : Int} (h : v ≤ T / 18446744073709551616) : estD T v w = 18446744073709551615 := if_pos h
theorem estD_less {T v w : Int} (h : ¬ v ≤ T / 18446744073709551616) (h2 : T % v < T / v * w / 18446744073709551616) : estD T v w = T / v - 1 := by unfold estD; rw [if_neg h, if_pos h2]
theorem estD_just {T v w : Int} (h : ¬ v ≤ T / 18446744073709551616) (h2 : ¬ T % v < T / v * w / 18446744073709551616) : estD T v w = T / v := by unfold estD; rw [if_neg h, if_neg h2]
theorem div_lt_B {T v : Int} (hT : 0 ≤ T) (h : ¬ v ≤ T / 18446744073709551616) : 0 < v ∧ 0 ≤ T / v ∧ T / v < 18446744073709551616 ∧ 0 ≤ T % v ∧ T % v < v := by
  have hv : 0 < v := by omega
  refine ⟨hv, Int.ediv_nonneg hT (by omega), ?_, Int.emod_nonneg _ (by omega), Int.emod_lt_of_pos _ hv⟩
  refine Int.ediv_lt_of_lt_mul hv ?_
  omega
theorem less_pos {T v w : Int} (hw : 0 ≤ w) (hT : 0 ≤ T) (h : ¬ v ≤ T / 18446744073709551616) (h2 : T % v < T / v * w / 18446744073709551616) : 0 < T / v := by
  obtain ⟨h1, h3, h4, h5, h6⟩ := div_lt_B hT h
  apply Classical.byContradiction; intro hn
  have : T / v = 0 := by omega
  rw [this, Int.zero_mul] at h2
  simp at h2; omega
theorem wd_estD {T v w : Int} (hT : 0 ≤ T) (hw : 0 ≤ w) : W.Wd (estD T v w) := by
  unfold estD
  split
  · unfold W.Wd; omega
  · rename_i h
    obtain ⟨h1, h3, h4, h5, h6⟩ := div_lt_B hT h
    split
    · have := less_pos hw hT h (by assumption)
      unfold W.Wd; omega
    · unfold W.Wd; omega
/-- an estimate is right, or one too much (Knuth's Algorithm D, in plain numbers) -/
theorem est_ok {u y T v w R : Int} (hR : 0 < R) (hT : 0 ≤ T) (hv : 9223372036854775808 ≤ v) (hw : 0 ≤ w) (hw' : w < 18446744073709551616)
    (h1 : T * R * 18446744073709551616 ≤ u) (h2 : u < T * R * 18446744073709551616 + R * 18446744073709551616)
    (h3 : v * R * 18446744073709551616 + w * R ≤ y) (h4 : y < v * R * 18446744073709551616 + w * R + R) (h5 : u < 18446744073709551616 * y) :
    estD T v w * y ≤ u + y ∧ u < (estD T v w + 1) * y := by
  have hwR : 0 ≤ w * R := Int.mul_nonneg hw (by omega)
  have hwR' : w * R ≤ 18446744073709551615 * R := Int.mul_le_mul_of_nonneg_right (by omega) (by omega)
  have hvR : 9223372036854775808 * R ≤ v * R := Int.mul_le_mul_of_nonneg_right hv (by omega)
  by_cases ht : v ≤ T / 18446744073709551616
  · rw [estD_top ht]
    refine ⟨?_, by omega⟩
    have g1 : v * 18446744073709551616 * R ≤ T * R := Int.mul_le_mul_of_nonneg_right (by omega) (by omega)
    rw [Int.mul_right_comm] at g1
    omega
  · obtain ⟨q1, q2, q3, q4, q5⟩ := div_lt_B hT ht
    have e : v * (T / v) + T % v = T := Int.mul_ediv_add_emod T v
    have hDw := Int.mul_nonneg q2 hw
    by_cases h6 : T % v < T / v * w / 18446744073709551616
    · have hD := less_pos hw hT ht h6
      rw [estD_less ht h6, show T / v - 1 + 1 = T / v by omega, Int.sub_mul, Int.one_mul]
      generalize T / v = D at *
      generalize T % v = r at *
      have g1 : D * (v * R * 18446744073709551616 + w * R) ≤ D * y := Int.mul_le_mul_of_nonneg_left h3 q2
      have g2 : D * y ≤ D * (v * R * 18446744073709551616 + w * R + R) := Int.mul_le_mul_of_nonneg_left (by omega) q2
      have g3 : T * R = D * (v * R) + r * R := by rw [← e, Int.add_mul, ← Int.mul_assoc, Int.mul_comm D v]
      have g4 : D * R ≤ 18446744073709551615 * R := Int.mul_le_mul_of_nonneg_right (by omega) (by omega)
      have g5 : (r + 1) * 18446744073709551616 * R ≤ D * w * R := Int.mul_le_mul_of_nonneg_right (by omega) (by omega)
      have g6 : D * (w * R) ≤ D * (18446744073709551615 * R) := Int.mul_le_mul_of_nonneg_left hwR' q2
      have g7 : 0 ≤ r * R := Int.mul_nonneg q4 (by omega)
      rw [Int.mul_assoc D w R, Int.mul_right_comm, Int.add_mul, Int.one_mul] at g5
      rw [Int.mul_add, ← Int.mul_assoc D (v * R)] at g1
      rw [Int.mul_add, Int.mul_add, ← Int.mul_assoc D (v * R)] at g2
      rw [show D * (18446744073709551615 * R) = 18446744073709551615 * (D * R) from Int.mul_left_comm ..] at g6
      generalize D * (v * R) = a1 at *
      generalize D * (w * R) = a2 at *
      generalize D * R = a3 at *
      generalize r * R = a4 at *
      generalize D * y = a5 at *
      constructor <;> omega
    · rw [estD_just ht h6]
      rw [Int.add_mul, Int.one_mul]
      generalize T / v = D at *
      generalize T % v = r at *
      have g1 : D * (v * R * 18446744073709551616 + w * R) ≤ D * y := Int.mul_le_mul_of_nonneg_left h3 q2
      have g2 : D * y ≤ D * (v * R * 18446744073709551616 + w * R + R) := Int.mul_le_mul_of_nonneg_left (by omega) q2
      have g3 : T * R = D * (v * R) + r * R := by rw [← e, Int.add_mul, ← Int.mul_assoc, Int.mul_comm D v]
      have g4 : D * R ≤ 18446744073709551615 * R := Int.mul_le_mul_of_nonneg_right (by omega) (by omega)
      have g5 : D * w * R ≤ (r + 1) * 18446744073709551616 * R := Int.mul_le_mul_of_nonneg_right (by omega) (by omega)
      have g7 : 0 ≤ r * R := Int.mul_nonneg q4 (by omega)
      have g8 : (r + 1) * R ≤ v * R := Int.mul_le_mul_of_nonneg_right (by omega) (by omega)
      have g9 : 0 ≤ D * (w * R) := by rw [← Int.mul_assoc]; exact Int.mul_nonneg hDw (by omega)
      rw [Int.mul_assoc D w R, Int.mul_right_comm, Int.add_mul, Int.one_mul] at g5
      rw [Int.mul_add, ← Int.mul_assoc D (v * R)] at g1
      rw [Int.mul_add, Int.mul_add, ← Int.mul_assoc D (v * R)] at g2
      rw [Int.add_mul, Int.one_mul] at g8
      generalize D * (v * R) = a1 at *
      generalize D * (w * R) = a2 at *
      generalize D * R = a3 at *
      generalize r * R = a4 at *
      generalize D * y = a5 at *
      constructor <;> omega
end N
end Go.Proofs.YtbadbjmhmadbmaaDoor
