/- Bit strings: the next one of so many bits; what the rounds of layer 7's laws know. -/
import Derived.Test.YtcpkkceoobioiaaDoorBitMath3
import Derived.Test.YtcpkkceoobioiaaDoorBitAwake
namespace Go.Proofs.YtcpkkceoobioiaaDoor
open Go.RowKit
set_option linter.unusedVariables false
set_option linter.unusedSimpArgs false
namespace N
theorem next_of {k i : Nat} (hk : k ≤ 1024) (h : i + 1 < 2 ^ k) : nextB (ofB k i) = (ofB k (i + 1), true) := by
  have hB : isB (ofB k i) = true := isB_iff.2 ⟨by rw [ofB_length]; exact hk, ofB_bits _ _⟩
  have hn : numB (ofB k i) = i := by rw [ofB_num, Nat.mod_eq_of_lt (by omega)]
  cases hx : nxt (ofB k i) with
  | none =>
    have h1 := numB_ones (ofB k i).length
    rw [← nxt_ones (ofB_bits k i) hx, hn, ofB_length] at h1
    omega
  | some y =>
    obtain ⟨h1, h2, h3⟩ := nxt_some (ofB_bits k i) hx
    have e : y = ofB k (i + 1) := numB_inj h3 (ofB_bits _ _) (by rw [h2, ofB_length, ofB_length]) (by rw [h1, hn, ofB_num, Nat.mod_eq_of_lt h])
    rw [nextB_in hB hx, e]
/-- what came last -/
def lastS (k n : Nat) : List UInt8 := if n = 0 then [] else ofB k (n - 1)
theorem lastS_len (k n : Nat) : (lastS k n).length ≤ k := by
  unfold lastS; split
  · simp
  · rw [ofB_length]; exact Nat.le_refl _
theorem lastS_succ (k n : Nat) : lastS k (n + 1) = ofB k n := by unfold lastS; simp
theorem nu_ofB {k i : Nat} (hk : k ≤ 64) (h : i < 2 ^ k) : nuE (ofB k i) = 0 ∧ nuV (ofB k i) = (i : Int) := by
  obtain ⟨h1, h2⟩ := nu_of (l := ofB k i) (isB_iff.2 ⟨by rw [ofB_length]; omega, ofB_bits _ _⟩) (by rw [ofB_length]; exact hk)
  exact ⟨h1, by rw [h2, ofB_num, Nat.mod_eq_of_lt h]⟩
end N
end Go.Proofs.YtcpkkceoobioiaaDoor
