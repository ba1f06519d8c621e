/- Plain: greatest common divisors by halving (the document's way in layer 6). -/
import Derived.Test.YtfdpddlefobcpaaGreatDoorRatMath
namespace Go.Proofs.YtfdpddlefobcpaaGreatDoor
set_option linter.unusedVariables false
namespace N
theorem ms {α : Type} {a : α} {l : List α} : a ∈ a :: l := List.mem_cons_self
theorem mo {α : Type} {y a : α} {l : List α} (h : a ∈ l) : a ∈ y :: l := List.mem_cons_of_mem y h
theorem gI_nat (m n : Nat) : gI (m : Int) (n : Int) = ((Nat.gcd m n : Nat) : Int) := by unfold gI; rw [Int.toNat_natCast, Int.toNat_natCast]
theorem gI_even {a b : Int} (ha : 0 ≤ a) (hb : 0 ≤ b) (h1 : a % 2 = 0) (h2 : b % 2 = 0) : gI a b = 2 * gI (a / 2) (b / 2) := by
  obtain ⟨m, rfl⟩ : ∃ m : Nat, a = 2 * (m : Int) := ⟨(a / 2).toNat, by omega⟩
  obtain ⟨n, rfl⟩ : ∃ n : Nat, b = 2 * (n : Int) := ⟨(b / 2).toNat, by omega⟩
  rw [show (2 * (m : Int)) / 2 = m by omega, show (2 * (n : Int)) / 2 = n by omega, gI_nat, show (2 * (m : Int)) = ((2 * m : Nat) : Int) by omega, show (2 * (n : Int)) = ((2 * n : Nat) : Int) by omega, gI_nat, Nat.gcd_mul_left]
  omega
theorem gI_comm' (a b : Int) : gI a b = gI b a := by unfold gI; rw [Nat.gcd_comm]
theorem gI_half {a b : Int} (ha : 0 ≤ a) (hb : 0 ≤ b) (h1 : a % 2 = 0) (h2 : b % 2 = 1) : gI (a / 2) b = gI a b := by
  obtain ⟨m, rfl⟩ : ∃ m : Nat, a = 2 * (m : Int) := ⟨(a / 2).toNat, by omega⟩
  obtain ⟨n, rfl⟩ := Int.eq_ofNat_of_zero_le hb
  have hc : Nat.Coprime 2 n := by
    rw [Nat.coprime_iff_gcd_eq_one, Nat.gcd_rec, show n % 2 = 1 by omega, Nat.gcd_one_left]
  rw [show (2 * (m : Int)) / 2 = m by omega, show (2 * (m : Int)) = ((2 * m : Nat) : Int) by omega, gI_nat, gI_nat, Nat.Coprime.gcd_mul_left_cancel _ hc]
theorem gI_sub {a b : Int} (hb : 0 ≤ b) (h : b ≤ a) : gI (a - b) b = gI a b := by
  obtain ⟨m, rfl⟩ := Int.eq_ofNat_of_zero_le (show 0 ≤ a by omega)
  obtain ⟨n, rfl⟩ := Int.eq_ofNat_of_zero_le hb
  rw [show (m : Int) - (n : Int) = ((m - n : Nat) : Int) by omega, gI_nat, gI_nat, Nat.gcd_sub_self_left (by omega)]
theorem gI_odd {a b : Int} (ha : 0 ≤ a) (hb : 0 ≤ b) (h : a % 2 = 1 ∨ b % 2 = 1) (hp : 0 < a ∨ 0 < b) : gI a b % 2 = 1 := by
  obtain ⟨m, rfl⟩ := Int.eq_ofNat_of_zero_le ha
  obtain ⟨n, rfl⟩ := Int.eq_ofNat_of_zero_le hb
  rw [gI_nat]
  have h1 := Nat.gcd_dvd_left m n
  have h2 := Nat.gcd_dvd_right m n
  generalize Nat.gcd m n = g at *
  rcases Nat.mod_two_eq_zero_or_one g with e | e
  · exfalso
    have hd : 2 ∣ g := Nat.dvd_of_mod_eq_zero e
    have h3 := Nat.dvd_trans hd h1
    have h4 := Nat.dvd_trans hd h2
    omega
  · omega
end N
end Go.Proofs.YtfdpddlefobcpaaGreatDoor
