/- A natural as a row of digits of 16 bits, one place set: what the document's Div of layer 6 writes. No function of the program. -/
import Derived.Test.YtfdpddlefobcpaaGreatDoorGMath
import Derived.Test.YtfdpddlefobcpaaGreatDoorGMem
import Derived.Test.YtfdpddlefobcpaaGreatDoorGRef
namespace Go.Proofs.YtfdpddlefobcpaaGreatDoor
open Go.RowKit
set_option linter.unusedVariables false
set_option linter.unusedSimpArgs false
namespace N
def qd (L N : Nat) : List Int := (List.range L).map fun k => ((N / 65536 ^ k % 65536 : Nat) : Int)
theorem qd_len (L N : Nat) : (qd L N).length = L := by simp [qd]
theorem qd_get {L N p : Nat} (h : p < L) : (qd L N)[p]? = some ((N / 65536 ^ p % 65536 : Nat) : Int) := by simp [qd, h]
theorem qd_dg (L N : Nat) : Dg D (qd L N) := fun x hx => by
  unfold qd at hx
  obtain ⟨k, _, rfl⟩ := List.mem_map.1 hx
  have := Nat.mod_lt (N / 65536 ^ k) (show 0 < 65536 by decide)
  exact ⟨by omega, by show _ < (65536 : Int); omega⟩
theorem qd_succ (L N : Nat) : qd (L + 1) N = ((N % 65536 : Nat) : Int) :: qd L (N / 65536) := by
  unfold qd
  rw [List.range_succ_eq_map, List.map_cons, List.map_map]
  congr 1
  · simp
  · apply List.map_congr_left
    intro k _
    show ((N / 65536 ^ (k + 1) % 65536 : Nat) : Int) = _
    rw [Nat.pow_succ', ← Nat.div_div_eq_div_mul]
theorem qd_val : ∀ (L N : Nat), N < 65536 ^ L → val D (qd L N) = (N : Int)
  | 0, N, h => by
    have : N = 0 := by simpa using h
    subst this; rfl
  | L + 1, N, h => by
    rw [qd_succ]
    have h2 : N / 65536 < 65536 ^ L := by rw [Nat.div_lt_iff_lt_mul (by decide), ← Nat.pow_succ]; exact h
    show ((N % 65536 : Nat) : Int) + D * val D (qd L (N / 65536)) = _
    rw [qd_val L _ h2]
    show ((N % 65536 : Nat) : Int) + 65536 * ((N / 65536 : Nat) : Int) = _
    omega
theorem qd_zero (L : Nat) : qd L 0 = List.replicate L 0 := by
  unfold qd
  apply List.ext_getElem?
  intro k
  by_cases hk : k < L
  · simp [hk]
  · rw [List.getElem?_eq_none (by simp; omega), List.getElem?_eq_none (by simp; omega)]
theorem p16 (k : Nat) : (65536 : Nat) ^ k = 2 ^ (16 * k) := by rw [Nat.pow_mul]
theorem mul_pow_mod (a : Nat) {m : Nat} (h : 16 ≤ m) : a * 2 ^ m % 65536 = 0 := by
  obtain ⟨d, rfl⟩ := Nat.exists_eq_add_of_le h
  rw [Nat.pow_add, show (2 : Nat) ^ 16 = 65536 from rfl, show a * (65536 * 2 ^ d) = 65536 * (a * 2 ^ d) by rw [Nat.mul_left_comm]]
  exact Nat.mul_mod_right _ _
theorem top_room (M s : Nat) (hs : s < 16) : M * 2 ^ (s + 1) % 65536 + 2 ^ s < 65536 := by
  have e : (65536 : Nat) = 2 ^ (15 - s) * 2 ^ (s + 1) := by rw [← Nat.pow_add, show 15 - s + (s + 1) = 16 by omega]
  rw [e, Nat.mul_mod_mul_right]
  have h1 : M % 2 ^ (15 - s) < 2 ^ (15 - s) := Nat.mod_lt _ (Nat.two_pow_pos _)
  have h2 : (M % 2 ^ (15 - s) + 1) * 2 ^ (s + 1) ≤ 2 ^ (15 - s) * 2 ^ (s + 1) := Nat.mul_le_mul_right _ h1
  have h3 : 2 ^ s < 2 ^ (s + 1) := Nat.pow_lt_pow_right (by decide) (by omega)
  rw [Nat.add_mul, Nat.one_mul] at h2
  omega
theorem digit_same {M i p s k : Nat} (hi : i = 16 * p + s) (hs : s < 16) (hk : k ≠ p) : (M * 2 ^ (i + 1) + 2 ^ i) / 65536 ^ k % 65536 = M * 2 ^ (i + 1) / 65536 ^ k % 65536 := by
  rw [p16]
  rcases Nat.lt_or_gt_of_ne hk with h | h
  · have e1 : (2 : Nat) ^ (i + 1) = 2 ^ (i + 1 - 16 * k) * 2 ^ (16 * k) := by rw [← Nat.pow_add]; congr 1; omega
    have e2 : (2 : Nat) ^ i = 2 ^ (i - 16 * k) * 2 ^ (16 * k) := by rw [← Nat.pow_add]; congr 1; omega
    have hp := Nat.two_pow_pos (16 * k)
    have e3 : M * 2 ^ (i + 1) + 2 ^ i = (M * 2 ^ (i + 1 - 16 * k) + 2 ^ (i - 16 * k)) * 2 ^ (16 * k) := by
      rw [Nat.add_mul, ← e2, Nat.mul_assoc, ← e1]
    have e4 : M * 2 ^ (i + 1) = (M * 2 ^ (i + 1 - 16 * k)) * 2 ^ (16 * k) := by rw [Nat.mul_assoc, ← e1]
    rw [e3, e4, Nat.mul_div_cancel _ hp, Nat.mul_div_cancel _ hp, Nat.add_mod, mul_pow_mod M (by omega)]
    have := mul_pow_mod 1 (show 16 ≤ i - 16 * k by omega)
    rw [Nat.one_mul] at this
    rw [this]
  · obtain ⟨d, hd⟩ := Nat.exists_eq_add_of_le (show i + 1 ≤ 16 * k by omega)
    have e5 : (2 : Nat) ^ (16 * k) = 2 ^ (i + 1) * 2 ^ d := by rw [hd, ← Nat.pow_add]
    rw [e5, ← Nat.div_div_eq_div_mul, ← Nat.div_div_eq_div_mul, Nat.mul_div_cancel _ (Nat.two_pow_pos _), Nat.mul_comm M, Nat.mul_add_div (Nat.two_pow_pos _), Nat.div_eq_of_lt (Nat.pow_lt_pow_right (by decide) (by omega))]
    simp
theorem digit_set {M i p s : Nat} (hi : i = 16 * p + s) (hs : s < 16) : (M * 2 ^ (i + 1) + 2 ^ i) / 65536 ^ p % 65536 = M * 2 ^ (i + 1) / 65536 ^ p % 65536 + 2 ^ s ∧ M * 2 ^ (i + 1) / 65536 ^ p % 65536 + 2 ^ s < 65536 := by
  rw [p16]
  have e1 : (2 : Nat) ^ (i + 1) = 2 ^ (s + 1) * 2 ^ (16 * p) := by rw [← Nat.pow_add]; congr 1; omega
  have e2 : (2 : Nat) ^ i = 2 ^ s * 2 ^ (16 * p) := by rw [← Nat.pow_add]; congr 1; omega
  have hp := Nat.two_pow_pos (16 * p)
  have e3 : M * 2 ^ (i + 1) + 2 ^ i = (M * 2 ^ (s + 1) + 2 ^ s) * 2 ^ (16 * p) := by rw [Nat.add_mul, ← e2, Nat.mul_assoc, ← e1]
  have e4 : M * 2 ^ (i + 1) = (M * 2 ^ (s + 1)) * 2 ^ (16 * p) := by rw [Nat.mul_assoc, ← e1]
  have h5 := top_room M s hs
  rw [e3, e4, Nat.mul_div_cancel _ hp, Nat.mul_div_cancel _ hp]
  refine ⟨?_, h5⟩
  have h6 : 2 ^ s % 65536 = 2 ^ s := Nat.mod_eq_of_lt (by omega)
  rw [Nat.add_mod, h6, Nat.mod_eq_of_lt h5]
/-- one place set -/
theorem qd_set {L M i p s : Nat} (hi : i = 16 * p + s) (hs : s < 16) (hp : p < L) : (qd L (M * 2 ^ (i + 1))).set p ((M * 2 ^ (i + 1) / 65536 ^ p % 65536 + 2 ^ s : Nat) : Int) = qd L (M * 2 ^ (i + 1) + 2 ^ i) := by
  apply List.ext_getElem?
  intro k
  by_cases hk : k < L
  · rw [qd_get hk]
    by_cases e : k = p
    · subst e
      rw [List.getElem?_set_self (by rw [qd_len]; exact hk), (digit_set hi hs).1]
    · rw [List.getElem?_set_ne (fun h => e h.symm), qd_get hk, digit_same hi hs e]
  · rw [List.getElem?_eq_none (by rw [List.length_set, qd_len]; omega), List.getElem?_eq_none (by rw [qd_len]; omega)]
theorem uv_set (xs : List Int) (p : Nat) (y : Int) : (uv xs).set p (.int .u64 y) = uv (xs.set p y) := by
  unfold uv
  rw [List.map_set]
end N
end Go.Proofs.YtfdpddlefobcpaaGreatDoor
