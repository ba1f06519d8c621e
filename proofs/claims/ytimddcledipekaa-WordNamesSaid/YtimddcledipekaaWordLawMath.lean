/- Plain arithmetic under the laws of layer 1. -/
import Derived.Test.YtimddcledipekaaWordMath
import Derived.Test.YtimddcledipekaaWordDivMath
namespace Go.Proofs.Ytimddcledipekaa
set_option linter.unusedVariables false
namespace W
theorem back1 {a b c : Int} (ha : Wd a) (hb : Wd b) (hc : Wd c) : subS (addS a b c) b c = a ∧ subC (addS a b c) b c = addC a b c ∧ addS (subS a b c) b c = a ∧ addC (subS a b c) b c = subC a b c ∧ addC a b c ≤ 1 ∧ 0 ≤ addC a b c ∧ subC a b c ≤ 1 ∧ 0 ≤ subC a b c := by
  unfold Wd addS addC subS subC at *; omega
theorem back2 {a b c : Int} (ha : Wd a) (hb : Wd b) (hc : Wd c) : (a < b → subC a b c = 1) ∧ (b < a → subC a b c = 0) ∧ (0 < c → subC a a c = 1) ∧ subC a a 0 = 0 := by
  unfold Wd subC at *; omega
theorem ring1 (a b : Int) : addS b a 0 = addS a b 0 ∧ addC b a 0 = addC a b 0 ∧ mulH b a = mulH a b ∧ mulL b a = mulL a b := by
  unfold addS addC mulH mulL
  rw [Int.add_comm b a, Int.mul_comm b a]; exact ⟨rfl, rfl, rfl, rfl⟩
theorem ring2 {a : Int} (ha : Wd a) : mulH a 0 = 0 ∧ mulL a 0 = 0 ∧ mulH a 1 = 0 ∧ mulL a 1 = a := by
  unfold Wd mulH mulL at *; simp; omega
theorem ring3 {a b c : Int} (ha : Wd a) (hb : Wd b) (hc : Wd c) :
    addS (mulL a b) (mulL a c) 0 = mulL a (addS b c 0) ∧
    (addC b c 0 = 0 ∨ addC b c 0 = 1) ∧
    (addC b c 0 = 0 → addS (mulH a b) (mulH a c) (addC (mulL a b) (mulL a c) 0) = mulH a (addS b c 0) ∧ addC (mulH a b) (mulH a c) (addC (mulL a b) (mulL a c) 0) = 0) ∧
    (addC b c 0 = 1 → addS (mulH a b) (mulH a c) (addC (mulL a b) (mulL a c) 0) = addS (mulH a (addS b c 0)) a 0 ∧ addC (mulH a b) (mulH a c) (addC (mulL a b) (mulL a c) 0) = addC (mulH a (addS b c 0)) a 0) := by
  have p1 := mul_lt ha hb
  have p2 := mul_lt ha hc
  have hs := wd_addS b c 0
  have p3 := mul_lt ha hs
  have e : addS b c 0 = b + c - addC b c 0 * 18446744073709551616 := by unfold addS addC; omega
  have e2 : a * addS b c 0 = a * b + a * c - a * addC b c 0 * 18446744073709551616 := by rw [e]; grind
  have ho := addC_le hb hc wd_0
  rcases (show addC b c 0 = 0 ∨ addC b c 0 = 1 by omega) with h | h
  · rw [h] at e2 ⊢
    simp only [Int.mul_zero, Int.zero_mul, Int.sub_zero] at e2
    refine ⟨?_, Or.inl rfl, fun _ => ?_, fun h => absurd h (by omega)⟩
    · unfold mulL; rw [e2]; unfold addS; omega
    · rw [e2] at p3
      unfold mulH mulL
      rw [e2]
      generalize a * b = P at *
      generalize a * c = Q at *
      unfold addS addC; omega
  · rw [h] at e2 ⊢
    simp only [Int.mul_one] at e2
    refine ⟨?_, Or.inr rfl, fun h => absurd h (by omega), fun _ => ?_⟩
    · unfold mulL; rw [e2]; unfold addS; omega
    · rw [e2] at p3
      unfold mulH mulL
      rw [e2]
      unfold Wd at ha
      generalize a * b = P at *
      generalize a * c = Q at *
      unfold addS addC; omega
/-- a product, and a word more, as two words -/
theorem join {q d r : Int} (hq : Wd q) (hd : Wd d) (hr : 0 ≤ r) (hrd : r < d) :
    addS (mulH q d) 0 (addC (mulL q d) r 0) * 18446744073709551616 + addS (mulL q d) r 0 = q * d + r ∧ addC (mulH q d) 0 (addC (mulL q d) r 0) = 0 ∧ addS (mulH q d) 0 (addC (mulL q d) r 0) < d := by
  have p := mul_lt hq hd
  have p2 : q * d ≤ 18446744073709551615 * d := Int.mul_le_mul_of_nonneg_right (by unfold Wd at hq; omega) hd.1
  unfold Wd at hd
  unfold mulH mulL
  generalize q * d = P at *
  unfold addS addC; omega
theorem div1 {a b d : Int} (ha : Wd a) (hb : Wd b) (hd : Wd d) (h : a < d) :
    Wd (divQ a b d) ∧ 0 ≤ divR a b d ∧ divR a b d < d ∧ divQ a b d * d + divR a b d = a * 18446744073709551616 + b := by
  have h0 : 0 < d := by unfold Wd at *; omega
  have hT := two_lt ha.1 hb h
  have n0 : 0 ≤ a * 18446744073709551616 + b := by unfold Wd at *; omega
  unfold divQ divR
  generalize a * 18446744073709551616 + b = N at *
  have e := Int.mul_ediv_add_emod N d
  rw [Int.mul_comm] at e
  exact ⟨⟨Int.ediv_nonneg n0 (by omega), Int.ediv_lt_of_lt_mul h0 (by rw [Int.mul_comm]; exact hT)⟩, Int.emod_nonneg _ (by omega), Int.emod_lt_of_pos _ h0, e⟩
theorem wd_divQ {a b d : Int} (ha : Wd a) (hb : Wd b) (hd : Wd d) (h : a < d) : Wd (divQ a b d) := (div1 ha hb hd h).1
theorem wd_divR {a b d : Int} (ha : Wd a) (hb : Wd b) (hd : Wd d) (h : a < d) : Wd (divR a b d) := by
  have := div1 ha hb hd h; unfold Wd at *; omega
/-- the first half of the theorem: what was divided comes again -/
theorem div2 {a b d : Int} (ha : Wd a) (hb : Wd b) (hd : Wd d) (h : a < d) :
    addS (mulL (divQ a b d) d) (divR a b d) 0 = b ∧ addS (mulH (divQ a b d) d) 0 (addC (mulL (divQ a b d) d) (divR a b d) 0) = a ∧ addC (mulH (divQ a b d) d) 0 (addC (mulL (divQ a b d) d) (divR a b d) 0) = 0 := by
  obtain ⟨h1, h2, h3, h4⟩ := div1 ha hb hd h
  obtain ⟨g1, g2, g3⟩ := join h1 hd h2 h3
  rw [h4] at g1
  have w1 := wd_addS (mulL (divQ a b d) d) (divR a b d) 0
  generalize addS (mulL (divQ a b d) d) (divR a b d) 0 = x at *
  generalize addS (mulH (divQ a b d) d) 0 (addC (mulL (divQ a b d) d) (divR a b d) 0) = y at *
  unfold Wd at *
  refine ⟨by omega, by omega, g2⟩
/-- the second half: any quotient, anything that is left -/
theorem div3 {a b d : Int} (ha : Wd a) (hb : Wd b) (hd : Wd d) (h : 0 < d) :
    addC (mulH a d) 0 (addC (mulL a d) (b % d) 0) = 0 ∧ addS (mulH a d) 0 (addC (mulL a d) (b % d) 0) < d ∧
    divQ (addS (mulH a d) 0 (addC (mulL a d) (b % d) 0)) (addS (mulL a d) (b % d) 0) d = a ∧ divR (addS (mulH a d) 0 (addC (mulL a d) (b % d) 0)) (addS (mulL a d) (b % d) 0) d = b % d := by
  have r0 : 0 ≤ b % d := Int.emod_nonneg _ (by omega)
  have r1 : b % d < d := Int.emod_lt_of_pos _ h
  obtain ⟨g1, g2, g3⟩ := join ha hd r0 r1
  refine ⟨g2, g3, ?_, ?_⟩
  · unfold divQ; rw [g1]; exact (r_unique h rfl r0 r1).1.symm
  · unfold divR; rw [g1]; exact (r_unique h rfl r0 r1).2.symm
theorem emod_wd {b d : Int} (hd : Wd d) (h : 0 < d) : Wd (b % d) := by
  have r0 : 0 ≤ b % d := Int.emod_nonneg _ (by omega)
  have r1 : b % d < d := Int.emod_lt_of_pos _ h
  unfold Wd at *; omega
/-- lengths -/
theorem len_le {a : Int} (ha : Wd a) : 0 ≤ len a ∧ len a ≤ 64 := by
  have h := lenN_spec a.toNat
  unfold Wd at ha
  refine ⟨by unfold len; omega, ?_⟩
  unfold len
  have : ¬ 64 < lenN a.toNat := by
    intro hc
    rcases h.2 with h2 | h2
    · omega
    · have := Nat.pow_le_pow_right (show 0 < 2 by omega) (show 64 ≤ lenN a.toNat - 1 by omega); omega
  omega
theorem len_shr {a : Int} (ha : Wd a) : shr 0 a (len a) = 0 ∧ (0 < len a → shr 0 a (len a - 1) = 1) := by
  have h := lenN_spec a.toNat
  obtain ⟨a0, a1⟩ := ha
  obtain ⟨n, rfl⟩ := Int.eq_ofNat_of_zero_le a0
  unfold len shr
  rw [Int.toNat_natCast] at *
  rw [Int.toNat_natCast]
  generalize lenN n = k at *
  simp only [Int.zero_mul, Int.zero_add]
  refine ⟨?_, fun hk => ?_⟩
  · rw [Int.ediv_eq_zero_of_lt (by omega) (by rw [← cast_pow]; omega)]; rfl
  · rw [show ((k : Int) - 1).toNat = k - 1 by omega]
    have hp := pow_pos (k - 1)
    have e : (2 : Nat) ^ k = 2 * 2 ^ (k - 1) := by rw [show k = k - 1 + 1 by omega, Nat.pow_succ]; simp; omega
    have h1 : (2 : Int) ^ (k - 1) ≤ n := by rw [← cast_pow]; rcases h.2 with h2 | h2 <;> omega
    have h2 : (n : Int) < 2 * 2 ^ (k - 1) := by rw [← cast_pow]; omega
    have : (n : Int) / 2 ^ (k - 1) = 1 := by
      have l1 : 1 ≤ (n : Int) / 2 ^ (k - 1) := (Int.le_ediv_iff_mul_le hp).2 (by omega)
      have l2 : (n : Int) / 2 ^ (k - 1) < 2 := Int.ediv_lt_of_lt_mul hp h2
      omega
    rw [this]; rfl
theorem len_zero {a : Int} (ha : Wd a) : len a = 0 ↔ a = 0 := by
  have h := lenN_spec a.toNat
  obtain ⟨a0, a1⟩ := ha
  unfold len
  constructor
  · intro e
    have e' : lenN a.toNat = 0 := by omega
    rw [e'] at h
    omega
  · intro e; subst e; rfl
theorem len_mono {a b : Int} (ha : Wd a) (hb : Wd b) (h : a ≤ b) : len a ≤ len b := by
  have h1 := lenN_spec a.toNat
  have h2 := lenN_spec b.toNat
  obtain ⟨a0, a1⟩ := ha
  unfold len
  have : ¬ lenN b.toNat < lenN a.toNat := by
    intro hc
    rcases h1.2 with g | g
    · omega
    · have := Nat.pow_le_pow_right (show 0 < 2 by omega) (show lenN b.toNat ≤ lenN a.toNat - 1 by omega); omega
  omega

theorem shr_div (b n : Int) (hb : Wd b) : shr 0 b n = b / 2 ^ n.toNat := by
  unfold shr Wd at *
  have := div_le b n.toNat hb.1
  simp only [Int.zero_mul, Int.zero_add]
  omega
theorem turn1 {a k : Int} (ha : Wd a) : shr (shlH a k) (shlL a k) k = a := by
  unfold shr shlH shlL
  have e : a * 2 ^ k.toNat / 18446744073709551616 * 18446744073709551616 + a * 2 ^ k.toNat % 18446744073709551616 = a * 2 ^ k.toNat := by omega
  rw [e, Int.mul_ediv_cancel _ (Int.ne_of_gt (pow_pos _))]
  unfold Wd at ha; omega
theorem turn2 {a k : Int} : mulH a (2 ^ k.toNat) = shlH a k ∧ mulL a (2 ^ k.toNat) = shlL a k := ⟨rfl, rfl⟩
theorem turn64 {a : Int} (ha : Wd a) : shlH a 64 = a ∧ shlL a 64 = 0 := by
  unfold shlH shlL
  have e : (2 : Int) ^ (Int.toNat 64) = 18446744073709551616 := rfl
  rw [e]; omega
theorem turn3 {a b k : Int} (hb : Wd b) (h0 : 0 ≤ k) (h1 : k ≤ 64) : shr 0 b k + shlL a (64 - k) = shr a b k := by
  have := (shr_eq a b k hb h0 h1).1
  rw [this, shr_div b k hb]
  unfold shlL
  omega
theorem turn3' {a k : Int} (ha : Wd a) (h0 : 0 ≤ k) (h1 : k ≤ 64) : shlH a (64 - k) ≤ a := by
  rw [shlH_eq a (64 - k) (by omega) (by omega), show (64 - (64 - k)) = k by omega]
  exact (div_le a _ ha.1).2
theorem turn4 {a k l : Int} (ha : Wd a) (h0 : 0 ≤ k) (h1 : 0 ≤ l) : shr 0 (shr 0 a k) l = shr 0 a (k + l) := by
  rw [shr_div a k ha, shr_div a (k + l) ha, shr_div _ l (by have := div_le a k.toNat ha.1; unfold Wd at *; omega), show (k + l).toNat = k.toNat + l.toNat by omega, Int.pow_add, Int.ediv_ediv_of_nonneg (Int.le_of_lt (pow_pos _))]
theorem two_pow_wd {k : Int} (h0 : 0 ≤ k) (h1 : k < 64) : Wd (2 ^ k.toNat) := by
  have h := pow_split k.toNat (by omega)
  have p := pow_pos k.toNat
  have q : (2 : Int) ≤ 2 ^ (64 - k.toNat) := by
    rw [show 64 - k.toNat = (63 - k.toNat) + 1 by omega, Int.pow_succ]
    have := pow_pos (63 - k.toNat)
    omega
  have := Int.mul_le_mul_of_nonneg_right q (Int.le_of_lt p)
  unfold Wd; omega
end W
end Go.Proofs.Ytimddcledipekaa
