/- Gathered: RefMul, RefDiv, RefShift. -/
import Derived.Test.YtgahnchfefngeaaDoorGRef
import Derived.Test.YtgahnchfefngeaaDoorGNatB
import Derived.Deep.QuietTactic
import Derived.BigQuiet
/- What the document's own Mul of layer 2 (digit by digit) answers, over this translation. -/
namespace Go.Proofs.YtgahnchfefngeaaDoor
open Go.RowKit
set_option linter.unusedVariables false
set_option maxRecDepth 20000
open N
theorem mul_digits {x y : Int} (hx : 0 ≤ x ∧ x < 65536) (hy : 0 ≤ y ∧ y < 65536) : 0 ≤ x * y ∧ x * y ≤ 4294836225 := by
  refine ⟨Int.mul_nonneg hx.1 hy.1, ?_⟩
  have := Int.mul_le_mul (show x ≤ 65535 by omega) (show y ≤ 65535 by omega) hy.1 (by omega)
  simpa using this
/-- a row of the product, k digits of it done -/
structure RMst (X Y : List Int) (i k : Nat) (q : Int) (zs : List Int) : Prop where
  len : zs.length = X.length + Y.length + 1
  dg : Dg D zs
  q0 : 0 ≤ q
  q1 : q < 65536
  k1 : k ≤ Y.length + 1
  fin : Y.length < k → q = 0
  zero : ∀ j, i + Y.length ≤ j → i + k ≤ j → lim zs j = 0
  sum : val D zs + q * Q D (i + k) = lo D X i * val D Y + lim X i * lo D Y k * Q D i
theorem RMst.step {X Y : List Int} {i k : Nat} {q : Int} {zs : List Int} (h : RMst X Y i k q zs) (hX : Dg D X) (hY : Dg D Y) (hi : i < X.length) (hk : k ≤ Y.length) :
    RMst X Y i (k + 1) ((lim zs (i + k) + q + lim X i * lim Y k) / 65536) (zs.set (i + k) ((lim zs (i + k) + q + lim X i * lim Y k) % 65536)) ∧ 0 ≤ lim zs (i + k) + q + lim X i * lim Y k ∧ lim zs (i + k) + q + lim X i * lim Y k ≤ 4294967295 := by
  have hx := hX.lim (b := D) (by decide) i
  have hy := hY.lim (b := D) (by decide) k
  have hz := h.dg.lim (b := D) (by decide) (i + k)
  have hz1 : lim zs (i + k) < 65536 := hz.2
  have hz0 := hz.1
  have hxy := mul_digits hx hy
  have hkl : i + k < zs.length := by rw [h.len]; omega
  have hq0 := h.q0
  have hq1 := h.q1
  refine ⟨⟨by rw [List.length_set, h.len], h.dg.set _ (by omega) (by show _ < 65536; omega), by omega, by omega, by omega, fun hc => ?_, fun j h1 h2 => ?_, ?_⟩, by omega, by omega⟩
  · have hy0 : lim Y k = 0 := lim_over Y k (by omega)
    have hzz := h.zero (i + k) (by omega) (by omega)
    rw [hy0, hzz, Int.mul_zero]
    omega
  · rw [lim_set _ _ _ _ hkl, if_neg (by omega)]
    exact h.zero j h1 (by omega)
  · rw [val_set D zs _ _ hkl, lo_succ, show i + (k + 1) = i + k + 1 from rfl, Q_succ]
    have hs := h.sum
    generalize hS : lim zs (i + k) + q + lim X i * lim Y k = s at *
    generalize lim zs (i + k) = z at *
    have e1 : s / 65536 * (Q D (i + k) * D) = s / 65536 * 65536 * Q D (i + k) := by rw [Int.mul_comm (Q D (i + k)), ← Int.mul_assoc]
    have e2 : s % 65536 - z = q + lim X i * lim Y k - s / 65536 * 65536 := by omega
    have e3 : lim X i * (lo D Y k + lim Y k * Q D k) * Q D i = lim X i * lo D Y k * Q D i + lim X i * lim Y k * Q D (i + k) := by
      rw [Int.mul_add, Int.add_mul, Q_add, ← Int.mul_assoc, Int.mul_right_comm (lim X i * lim Y k), Int.mul_assoc (lim X i * lim Y k)]
    rw [e1, e2, e3]
    simp only [Int.add_mul, Int.sub_mul]
    omega
theorem RMst.exit {X Y : List Int} {i k : Nat} {zs : List Int} (h : RMst X Y i k 0 zs) (hY : Dg D Y) (hk : Y.length ≤ k) : val D zs = lo D X (i + 1) * val D Y ∧ ∀ j, (i + 1) + Y.length ≤ j → lim zs j = 0 := by
  have hs := h.sum
  have hk1 := h.k1
  refine ⟨?_, fun j hj => h.zero j (by omega) (by omega)⟩
  rw [lo_all D Y k hk, Int.zero_mul, Int.add_zero] at hs
  rw [hs, lo_succ, Int.add_mul, Int.mul_right_comm (lim X i)]
end Go.Proofs.YtgahnchfefngeaaDoor
/- What the document's own Div of layer 3 (bit by bit) answers, over this translation. -/
namespace Go.Proofs.YtgahnchfefngeaaDoor
open Go.RowKit
set_option linter.unusedVariables false
set_option maxRecDepth 20000
open N
section
variable {w0 w w' : World} {S S' : List Ent} {A A' : Option Addr} {n c m d k k' K : Nat} {xs ys : List Int} {v u : Int}
theorem St.sub (h : St w0 w S) (hs : ∀ t ∈ S', t ∈ S) : St w0 w S' := ⟨h.1, fun t ht => h.2 t (hs t ht)⟩
/-- a result that is below the base to the power of K has at most K limbs -/
theorem St.outK (h : St w0 w S) {m : Nat} {r : Int} {e : Ending} (hr : 0 ≤ r) (hK : r < Q B K) (ho : Out w m r e w') : ∃ A n c, e = .returned (.slice A n c) ∧ St w0 w' (⟨A, n, c, K, limbs r, r⟩ :: S) := by
  obtain ⟨A, n, c, he, hn, hown, hb⟩ := ho
  exact ⟨A, n, c, he, (h.below hb).cons hown.sl (by rw [← hown.len]; exact (limbs_len_le hr K).2 hK) (limbs_val hr)⟩
end
theorem rdiv_bit {va vb q r t : Int} {j : Nat} (hb : 0 < vb) (h : q * vb + r = va / 2 ^ (j + 1)) (ht : va / 2 ^ j % 2 = t) : (q + q) * vb + (r + r + t) = va / 2 ^ j := by
  rw [W.div_div2] at h
  rw [Int.add_mul]
  omega
def RdInv (va vb : Int) (j : Nat) (q r : Int) : Prop := 0 ≤ q ∧ 0 ≤ r ∧ r < vb ∧ q * vb + r = va / 2 ^ j
theorem RdInv.bound {va vb q r : Int} {j K : Nat} (h : RdInv va vb j q r) (ha : 0 ≤ va) (hb : 0 < vb) (hK : va + va + vb + vb < Q B K) : q + q + 1 < Q B K ∧ r + r + 1 < Q B K := by
  obtain ⟨h1, h2, h3, h4⟩ := h
  have h5 : va / 2 ^ j ≤ va := (W.div_le va j ha).2
  have h6 : q * 1 ≤ q * vb := Int.mul_le_mul_of_nonneg_left (by omega) h1
  constructor <;> omega
theorem RdInv.no {va vb q r t : Int} {j : Nat} (h : RdInv va vb (j + 1) q r) (hb : 0 < vb) (ht : va / 2 ^ j % 2 = t) (ht0 : 0 ≤ t) (hlt : r + r + t < vb) : RdInv va vb j (q + q) (r + r + t) := by
  obtain ⟨h1, h2, h3, h4⟩ := h
  exact ⟨by omega, by omega, hlt, rdiv_bit hb h4 ht⟩
theorem RdInv.yes {va vb q r t : Int} {j : Nat} (h : RdInv va vb (j + 1) q r) (hb : 0 < vb) (ht : va / 2 ^ j % 2 = t) (ht1 : t ≤ 1) (hge : vb ≤ r + r + t) : RdInv va vb j (q + q + 1) (r + r + t - vb) := by
  obtain ⟨h1, h2, h3, h4⟩ := h
  have := rdiv_bit hb h4 ht
  refine ⟨by omega, by omega, by omega, ?_⟩
  rw [Int.add_mul, Int.one_mul]
  omega
end Go.Proofs.YtgahnchfefngeaaDoor
/- What the document's own Power, Shl and Shr of layer 2 answer, over this translation. -/
namespace Go.Proofs.YtgahnchfefngeaaDoor
open Go.RowKit
set_option linter.unusedVariables false
set_option maxRecDepth 20000
open N
theorem QD_two (k : Nat) : Q D k = 2 ^ (16 * k) := by
  unfold Q
  rw [Int.pow_mul]; rfl
theorem pow16 (n : Nat) : (2 : Int) ^ (n % 16) * Q D (n / 16) = 2 ^ n := by
  rw [QD_two, ← Int.pow_add]; congr 1; omega
theorem pow_small {k : Nat} (h : k ≤ 16) : (0 : Int) < 2 ^ k ∧ (2 : Int) ^ k ≤ 65536 := by
  refine ⟨W.pow_pos k, ?_⟩
  have : (2 : Nat) ^ k ≤ 2 ^ 16 := Nat.pow_le_pow_right (by omega) h
  have h2 := Int.ofNat_le.2 this
  rw [W.cast_pow] at h2
  exact h2
theorem mod_pow_succ (u : Int) (k : Nat) : u % 2 ^ (k + 1) = u % 2 ^ k + 2 ^ k * (u / 2 ^ k % 2) := by
  have hp := W.pow_pos k
  have h1 := Int.mul_ediv_add_emod u (2 ^ k)
  have h2 := Int.emod_nonneg u (show (2 : Int) ^ k ≠ 0 by omega)
  have h3 := Int.emod_lt_of_pos u hp
  rw [W.pow_succ]
  generalize (2 : Int) ^ k = p at *
  generalize u % p = r at *
  generalize hd : u / p = d at *
  have h4 : d = 2 * (d / 2) + d % 2 := by omega
  have h5 : u = r + p * (d % 2) + 2 * p * (d / 2) := by
    rw [← h1]
    have : p * d = p * (2 * (d / 2) + d % 2) := by rw [← h4]
    rw [this, Int.mul_add]
    have e : p * (2 * (d / 2)) = 2 * p * (d / 2) := by rw [← Int.mul_assoc, Int.mul_comm p 2]
    omega
  have h6 : d % 2 = 0 ∨ d % 2 = 1 := by omega
  rw [h5, Int.add_mul_emod_self_left]
  refine Int.emod_eq_of_lt ?_ ?_
  · rcases h6 with h | h <;> rw [h] <;> omega
  · rcases h6 with h | h <;> rw [h] <;> omega
/-- the row of a shift to the right, the places up to i - n done -/
structure RSst (v : Int) (n i dl : Nat) (zs : List Int) : Prop where
  len : zs.length = dl + 1
  dg : Dg D zs
  ni : n ≤ i
  sum : val D zs = v / 2 ^ n % 2 ^ (i - n)
theorem RSst.zero {v : Int} {n i dl : Nat} {zs : List Int} (h : RSst v n i dl zs) (hb : v / 2 ^ i % 2 = 0) : RSst v n (i + 1) dl zs := by
  have h1 := h.ni
  refine ⟨h.len, h.dg, by omega, ?_⟩
  rw [show i + 1 - n = i - n + 1 by omega, mod_pow_succ, Int.ediv_ediv_of_nonneg (Int.le_of_lt (W.pow_pos n)), ← Int.pow_add, show n + (i - n) = i by omega, hb, Int.mul_zero, Int.add_zero]
  exact h.sum
theorem RSst.small {v : Int} {n i dl : Nat} {zs : List Int} (h : RSst v n i dl zs) : 0 ≤ lim zs ((i - n) / 16) ∧ lim zs ((i - n) / 16) < 2 ^ ((i - n) % 16) := by
  have h0 := h.dg.lim (b := D) (by decide) ((i - n) / 16)
  refine ⟨h0.1, ?_⟩
  have hs := h.sum
  have hlt : val D zs < 2 ^ (i - n) := by rw [hs]; exact Int.emod_lt_of_pos _ (W.pow_pos _)
  rw [lim_div (by decide) h.dg]
  have hq := Q_pos (b := D) (by decide) ((i - n) / 16)
  have h1 : val D zs / Q D ((i - n) / 16) < 2 ^ ((i - n) % 16) := by
    refine Int.ediv_lt_of_lt_mul hq ?_
    rw [pow16]; exact hlt
  have h2 := Int.ediv_nonneg (val_nonneg (b := D) (by decide) h.dg) (Int.le_of_lt hq)
  have h3 := (pow_small (k := (i - n) % 16) (by omega)).2
  rw [Int.emod_eq_of_lt h2 (by show _ < 65536; omega)]
  exact h1
theorem RSst.one {v : Int} {n i dl : Nat} {zs : List Int} (h : RSst v n i dl zs) (hb : v / 2 ^ i % 2 = 1) (hk : (i - n) / 16 < dl + 1) :
    RSst v n (i + 1) dl (zs.set ((i - n) / 16) (lim zs ((i - n) / 16) + 2 ^ ((i - n) % 16))) := by
  have h1 := h.ni
  obtain ⟨s1, s2⟩ := h.small
  have hkl : (i - n) / 16 < zs.length := by rw [h.len]; exact hk
  have hp := W.pow_pos ((i - n) % 16)
  have h9 : 2 ^ ((i - n) % 16) * 2 ≤ (65536 : Int) := by
    have := (pow_small (k := (i - n) % 16 + 1) (by omega)).2
    rwa [Int.pow_succ] at this
  refine ⟨by rw [List.length_set]; exact h.len, h.dg.set _ (by omega) (by show _ < 65536; omega), by omega, ?_⟩
  rw [val_set D zs _ _ hkl, h.sum, show i + 1 - n = i - n + 1 by omega, mod_pow_succ, Int.ediv_ediv_of_nonneg (Int.le_of_lt (W.pow_pos n)), ← Int.pow_add, show n + (i - n) = i by omega, hb, Int.mul_one]
  rw [show lim zs ((i - n) / 16) + 2 ^ ((i - n) % 16) - lim zs ((i - n) / 16) = 2 ^ ((i - n) % 16) by omega, pow16]
end Go.Proofs.YtgahnchfefngeaaDoor
