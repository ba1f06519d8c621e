/- Plain arithmetic of groups of digits, the lowest one first, and of a number's end in 0s cut off. No program, no walk. -/
import Derived.Test.YtbadbjmhmadbmaaDoorDecMath
import Derived.Test.YtbadbjmhmadbmaaDoorNatMath2
import Derived.Lib.SlTrimSet
namespace Go.Proofs.YtbadbjmhmadbmaaDoor
set_option linter.unusedVariables false
set_option maxRecDepth 20000
namespace N
open Go.Lib (decDigits nDigits nDigits_small nDigits_big nDigits_pos lt_pow_nDigits decDigits_length)
theorem padD_split : ∀ (k j u : Nat), padD (j + k) u = padD j (u / 10 ^ k) ++ padD k u := by
  intro k; induction k with
  | zero => intro j u; simp [padD]
  | succ k ih =>
    intro j u
    show padD (j + k) (u / 10) ++ _ = _ ++ (padD k (u / 10) ++ _)
    rw [ih j (u / 10), List.append_assoc, Nat.div_div_eq_div_mul, Nat.pow_succ, Nat.mul_comm 10]
theorem padD_mod : ∀ (k u : Nat), padD k (u % 10 ^ k) = padD k u := by
  intro k; induction k with
  | zero => intro u; rfl
  | succ k ih =>
    intro u
    show padD k (u % 10 ^ (k + 1) / 10) ++ [UInt8.ofNat (48 + u % 10 ^ (k + 1) % 10)] = padD k (u / 10) ++ [UInt8.ofNat (48 + u % 10)]
    have e1 : u % 10 ^ (k + 1) / 10 = u / 10 % 10 ^ k := by rw [Nat.pow_succ, Nat.mul_comm, Nat.mod_mul_right_div_self]
    have e2 : u % 10 ^ (k + 1) % 10 = u % 10 := by rw [Nat.pow_succ, Nat.mul_comm, Nat.mod_mul_right_mod]
    rw [e1, e2, ih]
/-- the k lowest digits, the lowest one first -/
def lowD (k u : Nat) : List UInt8 := (padD k u).reverse
theorem lowD_zero (u : Nat) : lowD 0 u = [] := rfl
theorem lowD_length (k u : Nat) : (lowD k u).length = k := by unfold lowD; rw [List.length_reverse, padD_length]
theorem lowD_split (k j u : Nat) : lowD (j + k) u = lowD k u ++ lowD j (u / 10 ^ k) := by
  unfold lowD; rw [padD_split, List.reverse_append]
theorem lowD_mod (k u : Nat) : lowD k (u % 10 ^ k) = lowD k u := by unfold lowD; rw [padD_mod]
theorem lowD_succ (k u : Nat) : lowD (k + 1) u = lowD k u ++ [UInt8.ofNat (48 + u / 10 ^ k % 10)] := by
  rw [Nat.add_comm, lowD_split]; rfl
/-- the digits of words, the lowest one first, a group of 19 each -/
def gdI (xs : List Int) : List UInt8 := xs.flatMap fun x => lowD 19 x.toNat
theorem gdI_snoc (xs : List Int) (x : Int) : gdI (xs ++ [x]) = gdI xs ++ lowD 19 x.toNat := by unfold gdI; simp
theorem gdI_length (xs : List Int) : (gdI xs).length = 19 * xs.length := by
  unfold gdI
  induction xs with
  | nil => rfl
  | cons x t ih => rw [List.flatMap_cons, List.length_append, ih, lowD_length, List.length_cons]; omega
/-- the i lowest groups of a number -/
def gI (i u : Nat) : List Int := (List.range i).map fun j => ((u / 10 ^ (19 * j) % 10 ^ 19 : Nat) : Int)
theorem gI_length (i u : Nat) : (gI i u).length = i := by simp [gI]
theorem gI_succ (i u : Nat) : gI (i + 1) u = gI i u ++ [((u / 10 ^ (19 * i) % 10 ^ 19 : Nat) : Int)] := by
  unfold gI; rw [List.range_succ, List.map_append]; rfl
theorem gI_dg (i u : Nat) : Dg B (gI i u) := by
  induction i with
  | zero => exact Dg.nil
  | succ i ih =>
    rw [gI_succ]
    refine ih.append (Dg.one (by omega) ?_)
    have : u / 10 ^ (19 * i) % 10 ^ 19 < 10 ^ 19 := Nat.mod_lt _ (by decide)
    show _ < (18446744073709551616 : Int)
    omega
theorem gdI_gI (i u : Nat) : gdI (gI i u) = lowD (19 * i) u := by
  induction i with
  | zero => rfl
  | succ i ih =>
    rw [gI_succ, gdI_snoc, ih, Int.toNat_natCast, lowD_mod, Nat.mul_succ, Nat.add_comm, lowD_split]
theorem gI_pad (u i : Nat) (h : u / 10 ^ (19 * i) = 0) : ∀ d, gI (i + d) u = gI i u ++ List.replicate d 0 := by
  intro d; induction d with
  | zero => simp
  | succ d ih =>
    rw [← Nat.add_assoc, gI_succ, ih, List.append_assoc, List.replicate_succ', show u / 10 ^ (19 * (i + d)) = 0 by
      rw [Nat.mul_add, Nat.pow_add, ← Nat.div_div_eq_div_mul, h, Nat.zero_div]]
    rfl
theorem gI_take (i j u : Nat) (h : i ≤ j) : (gI j u).take i = gI i u := by
  unfold gI; rw [← List.map_take, List.take_range, Nat.min_eq_left h]
/-- one more group -/
theorem gI_set (i u d : Nat) : (gI i u ++ List.replicate (d + 1) 0).set i ((u / 10 ^ (19 * i) % 10 ^ 19 : Nat) : Int) = gI (i + 1) u ++ List.replicate d 0 := by
  rw [List.set_append_right _ _ (by rw [gI_length]; exact Nat.le_refl _), gI_length, Nat.sub_self, List.replicate_succ, List.set_cons_zero, gI_succ, List.append_assoc]
  rfl
/-- with the 0s at the end cut off, and turned about, the digits of a number that has no more are its own -/
theorem trim_lowD (K v : Nat) (h : v < 10 ^ K) : (Go.Lib.trimRightS (lowD K v) [48]).reverse = if v = 0 then [] else decDigits v := by
  unfold Go.Lib.trimRightS lowD
  rw [List.reverse_reverse, List.reverse_reverse]
  by_cases h0 : v = 0
  · rw [if_pos h0, h0, padD_zero]
    clear h
    induction K with
    | zero => rfl
    | succ K ih => rw [List.replicate_succ, List.dropWhile_cons, if_pos (by decide)]; exact ih
  · rw [if_neg h0]
    have hK : 1 ≤ K := by
      rcases Nat.eq_zero_or_pos K with e | e
      · subst e; simp at h; omega
      · exact e
    rw [(padD_dd K v h hK).2]
    generalize K - nDigits v = m
    induction m with
    | zero =>
      rw [List.replicate_zero, List.nil_append]
      cases e : decDigits v with
      | nil => exact absurd e (dd_ne v)
      | cons b t =>
        have hh := dd_head v (by omega)
        rw [e] at hh
        have hb : b ≠ 48 := fun e' => hh (by rw [e']; rfl)
        rw [List.dropWhile_cons, if_neg]
        simpa using hb
    | succ m ih => rw [List.replicate_succ, List.cons_append, List.dropWhile_cons, if_pos (by decide)]; exact ih
theorem trim_le (l cs : List UInt8) : (Go.Lib.trimRightS l cs).length ≤ l.length := by
  unfold Go.Lib.trimRightS
  rw [List.length_reverse]
  exact Nat.le_trans (List.dropWhile_sublist _).length_le (Nat.le_of_eq List.length_reverse)
/-- how many groups there may be, and their digits -/
def RM : Nat := 64
def KD : Nat := 19 * RM
theorem two_le_ten (m : Nat) : (2 : Nat) ^ (63 * m) ≤ 10 ^ (19 * m) := by
  rw [Nat.pow_mul, Nat.pow_mul]; exact Nat.pow_le_pow_left (by decide) m
theorem fits_core {v K R : Nat} (hR : R = 64) (hK : K = 19 * R) (h : W.len (v : Int) ≤ 4032) : v < 10 ^ K := by
  obtain ⟨k, hk, h1, _⟩ := len_spec (v : Int) (by omega)
  have h2 : v < 2 ^ k := by exact_mod_cast h1
  have h3 : 2 ^ k ≤ 2 ^ (63 * R) := Nat.pow_le_pow_right (by omega) (by omega)
  have h4 := two_le_ten R
  rw [← hK] at h4
  exact Nat.lt_of_lt_of_le h2 (Nat.le_trans h3 h4)
/-- a number of at most 4032 bits has no more digits than 64 groups -/
theorem fits_yes {v : Nat} (h : W.len (v : Int) ≤ 4032) : v < 10 ^ KD := fits_core (R := RM) rfl rfl h
theorem fits_no {v : Nat} (h : ¬ W.len (v : Int) ≤ 4032) : 0 < v := by
  rcases Nat.eq_zero_or_pos v with e | e
  · subst e; exact absurd (by rw [show ((0 : Nat) : Int) = 0 from rfl, len_0]; omega) h
  · exact e
theorem ten_ok : W.len (10 : Int) = 4 := len_of' 10 4 (by omega) (by decide) (.inr (by decide))
/-- the value of the first digits, and a group more -/
theorem dv_take_more (bs : List UInt8) (k n : Nat) : dv (bs.take (k + n)) = dv (bs.take k) * 10 ^ ((bs.drop k).take n).length + dv ((bs.drop k).take n) := by
  rw [← dv_append, List.take_add]
end N
end Go.Proofs.YtbadbjmhmadbmaaDoor
