/- The cost of a number as a fraction: how it stands to others. No function of the program. -/
import Derived.Test.YtfmhghemlcbapaaGreatDoorBelMath
import Derived.Test.YtfmhghemlcbapaaGreatDoorRatMath
namespace Go.Proofs.YtfmhghemlcbapaaGreatDoor
set_option linter.unusedVariables false
set_option linter.unusedSimpArgs false
namespace N
theorem rs_mk2 {x z : Int} {y u : Nat} (hy : 0 < y) (hu : 0 < u) : rs (mkRat x y - mkRat z u) = sgn (x * u - z * y) := by
  have h := rs_sub (sg x) (sg z) (v := mg x) (v' := mg z) (d := (y : Int)) (d' := (u : Int)) (by omega) (by omega)
  unfold rv at h
  rw [iv_sm, iv_sm, Int.toNat_natCast, Int.toNat_natCast] at h
  exact h.symm
theorem sgn_nn9 {x : Int} (h : 0 ≤ x) : ¬ sgn x < 0 := by unfold sgn; split <;> (try split) <;> omega
theorem sgn_np9 {x : Int} (h : x ≤ 0) : sgn x ≤ 0 := by unfold sgn; split <;> (try split) <;> omega
theorem sgn_lt9 {x : Int} (h : x < 0) : ¬ 0 ≤ sgn x := by unfold sgn; split <;> (try split) <;> omega
/-- not below the width -/
theorem cost_ge {b P m : Nat} (hm : 0 < m) (hP : m ≤ P) : ¬ rs (mkRat ((b : Int) * P) m - mkRat (b : Int) 1) < 0 := by
  rw [rs_mk2 hm (by decide)]
  refine sgn_nn9 ?_
  have : (b : Int) * m ≤ b * P := Int.mul_le_mul_of_nonneg_left (by omega) (by omega)
  simp only [Int.natCast_one, Int.mul_one]
  omega
/-- below twice the width -/
theorem cost_lt {b P m : Nat} (hm : 0 < m) (hb : 0 < b) (hP : P < 2 * m) : ¬ 0 ≤ rs (mkRat ((b : Int) * P) m - mkRat (2 * (b : Int)) 1) := by
  rw [rs_mk2 hm (by decide)]
  refine sgn_lt9 ?_
  have : (b : Int) * P < b * (2 * m) := Int.mul_lt_mul_of_pos_left (by omega) (by omega)
  have h2 : (b : Int) * (2 * m) = 2 * b * m := by rw [← Int.mul_assoc, Int.mul_comm (b : Int) 2]
  simp only [Int.natCast_one, Int.mul_one]
  omega
/-- the width, and, as often as a try fails, the cost again -/
theorem cost_renew {b P m : Nat} (hm : 0 < m) (hP : 0 < P) : mkRat (b : Int) 1 + mkRat ((P : Int) - m) P * mkRat ((b : Int) * P) m = mkRat ((b : Int) * P) m := by
  have h1 : ((m : Nat) : Rat) ≠ 0 := by
    have : (m : Rat) ≠ ((0 : Nat) : Rat) := by simp; omega
    simpa using this
  have h2 : ((P : Nat) : Rat) ≠ 0 := by
    have : (P : Rat) ≠ ((0 : Nat) : Rat) := by simp; omega
    simpa using this
  simp only [Rat.mkRat_eq_div, Rat.intCast_mul, Rat.intCast_sub, Rat.intCast_natCast]
  grind
/-- at most the cost -/
theorem cost_most {b P m x y : Nat} (hm : 0 < m) (hy : 0 < y) (h : x * m ≤ b * P * y) : rs (mkRat (x : Int) y - mkRat ((b : Int) * P) m) ≤ 0 := by
  rw [rs_mk2 hy hm]
  refine sgn_np9 ?_
  have h1 : ((x * m : Nat) : Int) ≤ ((b * P * y : Nat) : Int) := Int.ofNat_le.2 h
  simp only [Int.natCast_mul] at h1
  omega
end N
end Go.Proofs.YtfmhghemlcbapaaGreatDoor
