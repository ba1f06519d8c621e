/- Bit strings: the next one among all; parts and numbers. No function of the program. -/
import Derived.Test.YtcpkkceoobioiaaDoorBitPart
namespace Go.Proofs.YtcpkkceoobioiaaDoor
set_option linter.unusedVariables false
namespace N
/-! what the next one is among all -/
theorem isB_bits {l : List UInt8} (h : isB l = true) : bitsL l = true := (isB_iff.1 h).2
theorem cmpB_lt {a b : List UInt8} (ha : bitsL a = true) (hb : bitsL b = true) (h : a.length < b.length ∨ (a.length = b.length ∧ numB a < numB b)) : cmpB a b = -1 := by
  rw [cmpB_num ha hb]
  unfold cmpN
  rcases h with h | ⟨h, h'⟩
  · rw [if_neg (by omega), if_pos h]
  · rw [if_pos h, if_pos h']
theorem cmpB_pos {a b : List UInt8} (ha : bitsL a = true) (hb : bitsL b = true) (h : 0 < cmpB a b) : b.length < a.length ∨ (b.length = a.length ∧ numB b < numB a) := by
  rw [cmpB_num ha hb] at h
  by_cases e : a.length = b.length
  · rw [if_pos e] at h
    rcases cmpN_range (numB a) (numB b) with ⟨_, h'⟩ | ⟨_, h'⟩ | ⟨h1, _⟩
    · rw [h'] at h; omega
    · rw [h'] at h; omega
    · exact .inr ⟨e.symm, h1⟩
  · rw [if_neg e] at h
    rcases cmpN_range a.length b.length with ⟨_, h'⟩ | ⟨_, h'⟩ | ⟨h1, _⟩
    · rw [h'] at h; omega
    · rw [h'] at h; omega
    · exact .inl h1
theorem cmpB_le {a b : List UInt8} (ha : bitsL a = true) (hb : bitsL b = true) (h : a.length < b.length ∨ (a.length = b.length ∧ numB a ≤ numB b)) : cmpB a b ≤ 0 := by
  rcases Int.lt_or_le 0 (cmpB a b) with h1 | h1
  · rcases cmpB_pos ha hb h1 with h2 | ⟨h2, h3⟩ <;> omega
  · exact h1
theorem next_up {l x : List UInt8} (h : isB l = true) (hx : nextB l = (x, true)) : isB x = true ∧ cmpB l x = -1 ∧ ∀ t, isB t = true → 0 < cmpB t l → cmpB x t ≤ 0 := by
  have hb := isB_bits h
  have hl := (isB_iff.1 h).1
  cases hn : nxt l with
  | some y =>
    rw [nextB_in h hn] at hx
    obtain rfl : y = x := by simpa using hx
    obtain ⟨h1, h2, h3⟩ := nxt_some hb hn
    refine ⟨isB_iff.2 ⟨by omega, h3⟩, cmpB_lt hb h3 (.inr ⟨h2.symm, by omega⟩), fun t ht hp => ?_⟩
    have htb := isB_bits ht
    rcases cmpB_pos htb hb hp with h4 | ⟨h4, h5⟩
    · exact cmpB_le h3 htb (.inl (by omega))
    · exact cmpB_le h3 htb (.inr ⟨by omega, by omega⟩)
  | none =>
    by_cases hlt : l.length < 1024
    · rw [nextB_up h hn hlt] at hx
      obtain rfl : List.replicate (l.length + 1) 48 = x := by simpa using hx
      have hz : bitsL (List.replicate (l.length + 1) 48) = true := bitsL_rep _ (by decide)
      have hzl : (List.replicate (l.length + 1) (48 : UInt8)).length = l.length + 1 := List.length_replicate
      refine ⟨isB_iff.2 ⟨by omega, hz⟩, cmpB_lt hb hz (.inl (by omega)), fun t ht hp => ?_⟩
      have htb := isB_bits ht
      rcases cmpB_pos htb hb hp with h4 | ⟨h4, h5⟩
      · by_cases e : t.length = l.length + 1
        · exact cmpB_le hz htb (.inr ⟨by omega, by rw [numB_zeros]; omega⟩)
        · exact cmpB_le hz htb (.inl (by omega))
      · exfalso
        have h6 := numB_lt htb
        have h7 := numB_ones l.length
        rw [← nxt_ones hb hn] at h7
        rw [← h4] at h6
        omega
    · rw [nextB_top h hn hlt] at hx
      cases hx
theorem next_top {l : List UInt8} (h : isB l = true) (hx : (nextB l).2 = false) : nextB l = ([], false) ∧ ∀ t, isB t = true → cmpB t l ≤ 0 := by
  have hb := isB_bits h
  have hl := (isB_iff.1 h).1
  cases hn : nxt l with
  | some y => rw [nextB_in h hn] at hx; cases hx
  | none =>
    by_cases hlt : l.length < 1024
    · rw [nextB_up h hn hlt] at hx; cases hx
    · refine ⟨nextB_top h hn hlt, fun t ht => ?_⟩
      have htb := isB_bits ht
      have htl := (isB_iff.1 ht).1
      by_cases e : t.length = l.length
      · refine cmpB_le htb hb (.inr ⟨e, ?_⟩)
        have h6 := numB_lt htb
        have h7 := numB_ones l.length
        rw [← nxt_ones hb hn] at h7
        rw [e] at h6
        omega
      · exact cmpB_le htb hb (.inl (by omega))
/-! numbers, there and back -/
theorem nu_bad {l : List UInt8} (h : nuE l ≠ 0) : nuV l = 0 := by
  unfold nuE at h
  unfold nuV
  rw [if_neg]
  intro ⟨h1, h2⟩
  rw [if_pos h1, if_pos h2] at h
  exact h rfl
theorem nu_good {l : List UInt8} (h : nuE l = 0) : isB l = true ∧ l.length ≤ 64 ∧ nuV l = ((numB l : Nat) : Int) := by
  unfold nuE at h
  by_cases h1 : isB l = true
  · rw [if_pos h1] at h
    by_cases h2 : l.length ≤ 64
    · exact ⟨h1, h2, by unfold nuV; rw [if_pos ⟨h1, h2⟩]⟩
    · rw [if_neg h2] at h; cases h
  · rw [if_neg h1] at h; cases h
theorem nu_of {l : List UInt8} (h1 : isB l = true) (h2 : l.length ≤ 64) : nuE l = 0 ∧ nuV l = ((numB l : Nat) : Int) := by
  unfold nuE nuV
  rw [if_pos h1, if_pos h2, if_pos ⟨h1, h2⟩]
  exact ⟨rfl, rfl⟩
theorem of_back {x n : Int} (h : ofFits x n) (h0 : 0 ≤ x) : ((ofV x n).length : Int) = n ∧ isB (ofV x n) = true ∧ nuV (ofV x n) = x ∧ nuE (ofV x n) = 0 ∧ ofE x n = 0 := by
  obtain ⟨a, b, c⟩ := h
  obtain ⟨m, rfl⟩ := Int.eq_ofNat_of_zero_le a
  obtain ⟨y, rfl⟩ := Int.eq_ofNat_of_zero_le h0
  have hv : ofV (y : Int) (m : Int) = ofB m y := by unfold ofV; rw [if_pos ⟨a, b, c⟩]; rfl
  have hl := ofB_length m y
  have hB : isB (ofB m y) = true := isB_iff.2 ⟨by omega, ofB_bits _ _⟩
  have hy : y < 2 ^ m := by rw [Int.toNat_natCast, ← W.cast_pow] at c; omega
  obtain ⟨h1, h2⟩ := nu_of hB (by omega)
  rw [hv]
  exact ⟨by omega, hB, by rw [h2, ofB_num, Nat.mod_eq_of_lt hy], h1, by unfold ofE; rw [if_pos ⟨a, b, c⟩]⟩
theorem of_num {l : List UInt8} (h1 : isB l = true) (h2 : l.length ≤ 64) : ofV ((numB l : Nat) : Int) (l.length : Int) = l ∧ ofE ((numB l : Nat) : Int) (l.length : Int) = 0 := by
  have hlt := numB_lt (isB_bits h1)
  have hf : ofFits ((numB l : Nat) : Int) (l.length : Int) := ⟨by omega, by omega, by rw [Int.toNat_natCast, ← W.cast_pow]; omega⟩
  constructor
  · unfold ofV; rw [if_pos hf]; exact ofB_of (isB_bits h1)
  · unfold ofE; rw [if_pos hf]
theorem num_cmp {a b : List UInt8} (h1 : isB a = true) (h2 : isB b = true) (hl : a.length = b.length) :
    (cmpB a b = -1 ∧ numB a < numB b ∧ a ≠ b) ∨ (cmpB a b = 0 ∧ numB a = numB b ∧ a = b) ∨ (cmpB a b = 1 ∧ numB b < numB a ∧ a ≠ b) := by
  rw [cmpB_num (isB_bits h1) (isB_bits h2), if_pos hl]
  rcases cmpN_range (numB a) (numB b) with ⟨h, e⟩ | ⟨h, e⟩ | ⟨h, e⟩
  · exact .inl ⟨e, h, fun e' => by rw [e'] at h; omega⟩
  · exact .inr (.inl ⟨e, h, numB_inj (isB_bits h1) (isB_bits h2) hl h⟩)
  · exact .inr (.inr ⟨e, h, fun e' => by rw [e'] at h; omega⟩)
end N
end Go.Proofs.YtcpkkceoobioiaaDoor
