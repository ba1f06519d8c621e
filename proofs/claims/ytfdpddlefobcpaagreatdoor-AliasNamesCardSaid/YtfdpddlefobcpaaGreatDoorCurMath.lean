/- A cursor as a string of bits, how many of it were read, whether it is over: what a Take tells, and how it hangs together. No function of the program. -/
import Derived.Test.YtfdpddlefobcpaaGreatDoorBitMath
import Derived.Test.YtfdpddlefobcpaaGreatDoorGMem
namespace Go.Proofs.YtfdpddlefobcpaaGreatDoor
open Go.RowKit
set_option linter.unusedVariables false
set_option linter.unusedSimpArgs false
namespace N
/-- the cells of a cursor -/
def cu (l : List UInt8) (a : Nat) (o : Bool) : List Value := [.string ⟨l.toArray⟩, .int .i64 (a : Int), .bool o]
/-- does a Take of n tell a number? -/
def tkG (l : List UInt8) (a : Nat) (o : Bool) (n : Int) : Bool := !o && decide (0 ≤ n) && decide (n ≤ 64) && decide ((a : Int) + n ≤ l.length)
/-- the number -/
def tkV (l : List UInt8) (a : Nat) (o : Bool) (n : Int) : Nat := if tkG l a o n then numB ((l.drop a).take n.toNat) else 0
/-- where it stands then -/
def tkA (l : List UInt8) (a : Nat) (o : Bool) (n : Int) : Nat := if tkG l a o n then a + n.toNat else a
/-- whether it is over then -/
def tkO (l : List UInt8) (a : Nat) (o : Bool) (n : Int) : Bool := o || (decide (0 ≤ n) && decide (n ≤ 64) && decide ((l.length : Int) < a + n))
section
variable {l : List UInt8} {a : Nat} {o : Bool} {n : Int}
theorem tk_bad (h : o = true ∨ n < 0 ∨ 64 < n) : tkG l a o n = false ∧ tkV l a o n = 0 ∧ tkA l a o n = a ∧ tkO l a o n = o := by
  have hg : tkG l a o n = false := by
    unfold tkG
    rcases h with h | h | h
    · rw [h]; rfl
    · have : decide (0 ≤ n) = false := by simp; omega
      rw [this]; simp
    · have : decide (n ≤ 64) = false := by simp; omega
      rw [this]; simp
  refine ⟨hg, by unfold tkV; rw [hg]; rfl, by unfold tkA; rw [hg]; rfl, ?_⟩
  unfold tkO
  rcases h with h | h | h
  · rw [h]; rfl
  · have : decide (0 ≤ n) = false := by simp; omega
    rw [this]; simp
  · have : decide (n ≤ 64) = false := by simp; omega
    rw [this]; simp
theorem tk_over (h0 : 0 ≤ n) (h1 : n ≤ 64) (h2 : (l.length : Int) < a + n) : tkG l a o n = false ∧ tkV l a o n = 0 ∧ tkA l a o n = a ∧ tkO l a o n = true := by
  have hg : tkG l a o n = false := by
    unfold tkG
    have : decide ((a : Int) + n ≤ l.length) = false := by simp; omega
    rw [this]; simp
  refine ⟨hg, by unfold tkV; rw [hg]; rfl, by unfold tkA; rw [hg]; rfl, ?_⟩
  unfold tkO
  simp [h0, h1, h2]
theorem tk_good {k : Nat} (h1 : k ≤ 64) (h2 : a + k ≤ l.length) : tkG l a false k = true ∧ tkV l a false k = numB ((l.drop a).take k) ∧ tkA l a false k = a + k ∧ tkO l a false k = false := by
  have hg : tkG l a false k = true := by
    unfold tkG
    simp; omega
  refine ⟨hg, by unfold tkV; rw [hg]; simp, by unfold tkA; rw [hg]; simp, ?_⟩
  unfold tkO
  simp; omega
/-- the three ways of a Take -/
theorem tk_ways (l : List UInt8) (a : Nat) (o : Bool) (n : Int) : (o = true ∨ n < 0 ∨ 64 < n) ∨ (o = false ∧ 0 ≤ n ∧ n ≤ 64 ∧ (l.length : Int) < a + n) ∨ (o = false ∧ ∃ k : Nat, n = k ∧ k ≤ 64 ∧ a + k ≤ l.length) := by
  cases o with
  | true => exact .inl (.inl rfl)
  | false =>
    by_cases h0 : n < 0
    · exact .inl (.inr (.inl h0))
    · by_cases h1 : 64 < n
      · exact .inl (.inr (.inr h1))
      · by_cases h2 : (l.length : Int) < a + n
        · exact .inr (.inl ⟨rfl, by omega, by omega, h2⟩)
        · exact .inr (.inr ⟨rfl, n.toNat, by omega, by omega, by omega⟩)
theorem tkA_le (h : a ≤ l.length) : tkA l a o n ≤ l.length := by
  rcases tk_ways l a o n with h1 | ⟨h1, h2, h3, h4⟩ | ⟨rfl, k, rfl, h3, h4⟩
  · rw [(tk_bad h1).2.2.1]; exact h
  · rw [(tk_over h2 h3 h4).2.2.1]; exact h
  · rw [(tk_good h3 h4).2.2.1]; exact h4
theorem tkA_ge : a ≤ tkA l a o n := by
  unfold tkA; split
  · omega
  · exact Nat.le_refl _
theorem tkV_lt (hb : bitsL l = true) : tkV l a o n < 18446744073709551616 := by
  rcases tk_ways l a o n with h1 | ⟨h1, h2, h3, h4⟩ | ⟨rfl, k, rfl, h3, h4⟩
  · rw [(tk_bad h1).2.1]; decide
  · rw [(tk_over h2 h3 h4).2.1]; decide
  · rw [(tk_good h3 h4).2.1]
    have h5 := numB_lt (bitsL_take (bitsL_drop hb a) k)
    exact Nat.lt_of_lt_of_le h5 (Nat.le_trans (Nat.pow_le_pow_right (by decide) (by rw [List.length_take]; omega)) (show 2 ^ 64 ≤ 18446744073709551616 by decide))
end
theorem drop_getD (l : List UInt8) (a k : Nat) : (l.drop a).getD k 0 = l.getD (a + k) 0 := by
  simp [List.getD_eq_getElem?_getD, List.getElem?_drop]
theorem drop_bat (l : List UInt8) (a k : Nat) : bat (l.drop a) k = bat l (a + k) := by unfold bat; rw [drop_getD]
end N
end Go.Proofs.YtfdpddlefobcpaaGreatDoor
