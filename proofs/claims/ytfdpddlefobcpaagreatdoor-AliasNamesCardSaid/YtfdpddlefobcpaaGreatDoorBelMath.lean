/- Drawing a number below a bound of a string of bits: what it tells, how it hangs together, how often it tells each number, how much it reads. No function of the program. -/
import Derived.Test.YtfdpddlefobcpaaGreatDoorCurMath
import Derived.Test.YtfdpddlefobcpaaGreatDoorGMath
namespace Go.Proofs.YtfdpddlefobcpaaGreatDoor
open Go.RowKit
set_option linter.unusedVariables false
set_option linter.unusedSimpArgs false
namespace N
/-- the width of a number -/
def wd (m : Nat) : Nat := W.lenN (m - 1)
theorem wd_le (m : Nat) : m ≤ 2 ^ wd m := by
  have := (W.lenN_spec (m - 1)).1
  unfold wd; omega
theorem wd_pos {m : Nat} (h : 1 < m) : 0 < wd m ∧ 2 ^ (wd m - 1) < m := by
  have h1 := W.lenN_spec (m - 1)
  have h0 : W.lenN (m - 1) ≠ 0 := fun e => by rw [e] at h1; have := h1.1; omega
  unfold wd
  rcases h1.2 with h2 | h2
  · exact absurd h2 h0
  · exact ⟨Nat.pos_of_ne_zero h0, by omega⟩
theorem wd_zero {m : Nat} (h : wd m = 0) : m ≤ 1 := by
  rcases Nat.lt_or_ge 1 m with h1 | h1
  · have := (wd_pos h1).1; omega
  · exact h1
theorem wd_64 {m : Nat} (h : m < 18446744073709551616) : wd m ≤ 64 := by
  by_cases h1 : 1 < m
  · obtain ⟨h2, h3⟩ := wd_pos h1
    rcases Nat.lt_or_ge 64 (wd m) with h4 | h4
    · have h5 := Nat.pow_le_pow_right (show 0 < 2 by decide) (show 64 ≤ wd m - 1 by omega)
      have h6 : (2 : Nat) ^ 64 = 18446744073709551616 := by decide
      omega
    · exact h4
  · have : m = 0 ∨ m = 1 := by omega
    rcases this with rfl | rfl <;> decide
/-- from a on, by at most so many tries: the number, whether there is one, where it stands then, whether it is over -/
def drF (l : List UInt8) (b m : Nat) : Nat → Nat → Nat × Bool × Nat × Bool
  | 0, a => (0, false, a, true)
  | k + 1, a => if l.length < a + b then (0, false, a, true) else if numB ((l.drop a).take b) < m then (numB ((l.drop a).take b), true, a + b, false) else drF l b m k (a + b)
def dr (l : List UInt8) (a : Nat) (o : Bool) (m : Nat) : Nat × Bool × Nat × Bool := if m = 0 ∨ o = true then (0, false, a, o) else drF l (wd m) m (l.length + 1) a
section
variable {l l' : List UInt8} {b m k k' a a2 v : Nat} {gd o o2 : Bool}
theorem drF_over (h : l.length < a + b) : drF l b m (k + 1) a = (0, false, a, true) := by rw [drF, if_pos h]
theorem drF_hit (h : a + b ≤ l.length) (hv : numB ((l.drop a).take b) < m) : drF l b m (k + 1) a = (numB ((l.drop a).take b), true, a + b, false) := by rw [drF, if_neg (by omega), if_pos hv]
theorem drF_miss (h : a + b ≤ l.length) (hv : ¬ numB ((l.drop a).take b) < m) : drF l b m (k + 1) a = drF l b m k (a + b) := by rw [drF, if_neg (by omega), if_neg hv]
theorem dr_no (h : m = 0 ∨ o = true) : dr l a o m = (0, false, a, o) := by unfold dr; rw [if_pos h]
theorem dr_in (h : m ≠ 0) : dr l a false m = drF l (wd m) m (l.length + 1) a := by unfold dr; rw [if_neg (by simp [h])]
theorem drF_ways (h : drF l b m k a = (v, gd, a2, o2)) : a ≤ a2 ∧ (a ≤ l.length → a2 ≤ l.length) ∧ ((gd = true ∧ v < m ∧ o2 = false) ∨ (gd = false ∧ v = 0 ∧ o2 = true)) := by
  induction k generalizing a with
  | zero => rw [drF] at h; injection h with h1 h; injection h with h2 h; injection h with h3 h4; subst h1 h2 h3 h4; exact ⟨Nat.le_refl _, id, .inr ⟨rfl, rfl, rfl⟩⟩
  | succ k ih =>
    by_cases h1 : l.length < a + b
    · rw [drF_over h1] at h; injection h with h1 h; injection h with h2 h; injection h with h3 h4; subst h1 h2 h3 h4; exact ⟨Nat.le_refl _, id, .inr ⟨rfl, rfl, rfl⟩⟩
    · by_cases h2 : numB ((l.drop a).take b) < m
      · rw [drF_hit (by omega) h2] at h; injection h with h1 h; injection h with h2 h; injection h with h3 h4; subst h1 h2 h3 h4; exact ⟨by omega, fun _ => by omega, .inl ⟨rfl, by assumption, rfl⟩⟩
      · rw [drF_miss (by omega) h2] at h
        obtain ⟨g1, g2, g3⟩ := ih h
        exact ⟨by omega, fun _ => g2 (by omega), g3⟩
theorem dr_ways (h : dr l a o m = (v, gd, a2, o2)) : a ≤ a2 ∧ (a ≤ l.length → a2 ≤ l.length) ∧ ((gd = true ∧ v < m ∧ o2 = false ∧ m ≠ 0) ∨ (gd = false ∧ v = 0 ∧ (o2 = true ∨ m = 0))) := by
  by_cases h1 : m = 0 ∨ o = true
  · rw [dr_no h1] at h; injection h with e1 h; injection h with e2 h; injection h with e3 e4; subst e1 e2 e3 e4
    exact ⟨Nat.le_refl _, id, .inr ⟨rfl, rfl, h1.symm⟩⟩
  · obtain rfl : o = false := by cases o with | false => rfl | true => exact absurd (.inr rfl) h1
    rw [dr_in (fun e => h1 (.inl e))] at h
    obtain ⟨g1, g2, g3⟩ := drF_ways h
    exact ⟨g1, g2, g3.imp (fun ⟨x, y, z⟩ => ⟨x, y, z, fun e => h1 (.inl e)⟩) (fun ⟨x, y, z⟩ => ⟨x, y, .inl z⟩)⟩
/-- enough tries are as good as more -/
theorem drF_fuel (h0 : 0 < b ∨ 0 < m) (h1 : l.length < a + k) (h2 : l.length < a + k') (ha : a ≤ l.length) : drF l b m k a = drF l b m k' a := by
  induction k generalizing a k' with
  | zero => omega
  | succ k ih =>
    obtain ⟨k', rfl⟩ : ∃ j, k' = j + 1 := ⟨k' - 1, by omega⟩
    by_cases h3 : l.length < a + b
    · rw [drF_over h3, drF_over h3]
    · by_cases h4 : numB ((l.drop a).take b) < m
      · rw [drF_hit (by omega) h4, drF_hit (by omega) h4]
      · rw [drF_miss (by omega) h4, drF_miss (by omega) h4]
        rcases Nat.eq_zero_or_pos b with e | e
        · subst e
          exact absurd (show numB ((l.drop a).take 0) < m by rw [List.take_zero, numB]; omega) h4
        · exact ih (by omega) (by omega) (by omega)
theorem take_same {a b c : Nat} {l l' : List UInt8} (h : l.take c = l'.take c) (hc : a + b ≤ c) : (l.drop a).take b = (l'.drop a).take b := by
  have e : ∀ q : List UInt8, (q.drop a).take b = ((q.take c).drop a).take b := fun q => by
    rw [List.drop_take, List.take_take, Nat.min_eq_left (by omega)]
  rw [e l, e l', h]
/-- it hangs on the bits that are read alone -/
theorem drF_front (h : drF l b m k a = (v, true, a2, o2)) (hl : a2 ≤ l.length) (hl' : a2 ≤ l'.length) (ht : l.take a2 = l'.take a2) (hk : k ≤ k') : drF l' b m k' a = (v, true, a2, o2) := by
  induction k generalizing a k' with
  | zero => rw [drF] at h; injection h with h1 h; injection h with h2 h; cases h2
  | succ k ih =>
    obtain ⟨k', rfl⟩ : ∃ j, k' = j + 1 := ⟨k' - 1, by omega⟩
    by_cases h1 : l.length < a + b
    · rw [drF_over h1] at h; injection h with h1 h; injection h with h2 h; cases h2
    · by_cases h2 : numB ((l.drop a).take b) < m
      · have h0 := h
        rw [drF_hit (by omega) h2] at h0
        injection h0 with e1 h0; injection h0 with e2 h0; injection h0 with e3 e4
        have hs := take_same (a := a) (b := b) ht (by omega)
        rw [drF_hit (by omega) (by rw [← hs]; exact h2), ← hs, ← e1, ← e3, ← e4]
      · rw [drF_miss (by omega) h2] at h
        have hge := (drF_ways h).1
        have hs := take_same (a := a) (b := b) ht (by omega)
        rw [drF_miss (by omega) (by rw [← hs]; exact h2)]
        exact ih h (by omega)
end
/-! all strings of n bits, by their numbers -/
def dN (b m : Nat) : Nat → Nat → Nat → Nat × Bool × Nat
  | 0, _, _ => (0, false, 0)
  | k + 1, n, j => if n < b then (0, false, 0) else if j / 2 ^ (n - b) < m then (j / 2 ^ (n - b), true, b) else ((dN b m k (n - b) (j % 2 ^ (n - b))).1, (dN b m k (n - b) (j % 2 ^ (n - b))).2.1, (dN b m k (n - b) (j % 2 ^ (n - b))).2.2 + b)
theorem ofB_drop (w j a : Nat) (h : a ≤ w) : (ofB w j).drop a = ofB (w - a) j := by
  induction a with
  | zero => simp
  | succ a ih =>
    obtain ⟨n, hn⟩ : ∃ n, w - a = n + 1 := ⟨w - a - 1, by omega⟩
    rw [← List.drop_drop, ih (by omega), hn, ofB_front]
    simp only [List.drop_succ_cons, List.drop_zero]
    congr 1; omega
theorem ofB_take (n j b : Nat) (h : b ≤ n) : (ofB n j).take b = ofB b (j / 2 ^ (n - b)) := by
  obtain ⟨c, rfl⟩ : ∃ c, n = b + c := ⟨n - b, by omega⟩
  rw [show b + c - b = c by omega]
  clear h
  induction c generalizing j with
  | zero => simp [List.take_of_length_le, ofB_length]
  | succ c ih =>
    rw [← Nat.add_assoc, ofB, List.take_append_of_le_length (by rw [ofB_length]; omega), ih, Nat.div_div_eq_div_mul, ← Nat.pow_succ']
theorem num_part (n j b : Nat) (h : b ≤ n) : numB ((ofB n j).take b) = j % 2 ^ n / 2 ^ (n - b) := by
  rw [ofB_take n j b h, ofB_num, show 2 ^ n = 2 ^ (n - b) * 2 ^ b by rw [← Nat.pow_add]; congr 1; omega, Nat.mod_mul_right_div_self]
theorem drF_ofB (w J b m k a : Nat) (h : a ≤ w) : drF (ofB w J) b m k a = ((dN b m k (w - a) (J % 2 ^ (w - a))).1, (dN b m k (w - a) (J % 2 ^ (w - a))).2.1, a + (dN b m k (w - a) (J % 2 ^ (w - a))).2.2, !(dN b m k (w - a) (J % 2 ^ (w - a))).2.1) := by
  induction k generalizing a with
  | zero => simp [drF, dN]
  | succ k ih =>
    by_cases h1 : w < a + b
    · rw [drF_over (by rw [ofB_length]; exact h1), dN, if_pos (by omega)]; rfl
    · have hnum : numB (((ofB w J).drop a).take b) = J % 2 ^ (w - a) / 2 ^ (w - a - b) := by
        rw [ofB_drop w J a h, num_part _ _ _ (by omega)]
      by_cases h2 : numB (((ofB w J).drop a).take b) < m
      · rw [drF_hit (by rw [ofB_length]; omega) h2, dN, if_neg (by omega), if_pos (by rw [← hnum]; exact h2), hnum]; rfl
      · rw [drF_miss (by rw [ofB_length]; omega) h2, dN, if_neg (by omega), if_neg (by rw [← hnum]; exact h2), ih (a + b) (by omega)]
        have hd : w - (a + b) = w - a - b := by omega
        have hmm : J % 2 ^ (w - a) % 2 ^ (w - a - b) = J % 2 ^ (w - a - b) := Nat.mod_mod_of_dvd _ (Nat.pow_dvd_pow 2 (by omega))
        rw [hd, hmm]
        simp only [Prod.mk.injEq, true_and, and_true]
        omega
/-- a sum over the first numbers -/
def sumN (f : Nat → Nat) : Nat → Nat
  | 0 => 0
  | n + 1 => sumN f n + f n
theorem sumN_congr {f g : Nat → Nat} {n : Nat} (h : ∀ j, j < n → f j = g j) : sumN f n = sumN g n := by
  induction n with
  | zero => rfl
  | succ n ih => rw [sumN, sumN, ih (fun j hj => h j (by omega)), h n (by omega)]
theorem sumN_le {f g : Nat → Nat} {n : Nat} (h : ∀ j, j < n → f j ≤ g j) : sumN f n ≤ sumN g n := by
  induction n with
  | zero => exact Nat.le_refl _
  | succ n ih => have := ih (fun j hj => h j (by omega)); have := h n (by omega); simp only [sumN]; omega
theorem sumN_const (c n : Nat) : sumN (fun _ => c) n = n * c := by
  induction n with
  | zero => simp [sumN]
  | succ n ih => rw [sumN, ih, Nat.add_mul]; omega
theorem sumN_plus (f g : Nat → Nat) (n : Nat) : sumN (fun j => f j + g j) n = sumN f n + sumN g n := by
  induction n with
  | zero => rfl
  | succ n ih => simp only [sumN, ih]; omega
theorem sumN_times (c : Nat) (f : Nat → Nat) (n : Nat) : sumN (fun j => f j * c) n = sumN f n * c := by
  induction n with
  | zero => simp [sumN]
  | succ n ih => simp only [sumN, ih, Nat.add_mul]
theorem sumN_add (f : Nat → Nat) (a b : Nat) : sumN f (a + b) = sumN f a + sumN (fun r => f (a + r)) b := by
  induction b with
  | zero => rfl
  | succ b ih => rw [← Nat.add_assoc, sumN, ih, sumN]; omega
theorem sumN_mul (f : Nat → Nat) (A B : Nat) : sumN f (A * B) = sumN (fun t => sumN (fun r => f (t * B + r)) B) A := by
  induction A with
  | zero => simp [sumN]
  | succ A ih => rw [Nat.add_mul, Nat.one_mul, sumN_add, ih, sumN]
/-- below m alone, and from m on -/
theorem sumN_two {g : Nat → Nat} {m C D : Nat} (hm : m ≤ D) : sumN (fun t => if t < m then g t else C) D = sumN g m + (D - m) * C := by
  obtain ⟨c, rfl⟩ : ∃ c, D = m + c := ⟨D - m, by omega⟩
  rw [sumN_add, sumN_congr (f := fun t => if t < m then g t else C) (g := g) (fun j hj => by simp [hj]), show m + c - m = c by omega]
  congr 1
  rw [← sumN_const]
  exact sumN_congr fun j _ => by rw [if_neg (by omega)]
theorem sumN_one (x B m : Nat) : sumN (fun t => if t = x then B else 0) m = if x < m then B else 0 := by
  induction m with
  | zero => simp [sumN]
  | succ m ih =>
    rw [sumN, ih]
    by_cases h : m = x
    · subst h; simp
    · by_cases h1 : x < m
      · simp [h, h1, show x < m + 1 by omega]
      · simp [h, h1, show ¬ x < m + 1 by omega]
/-- a sum over all strings of n bits: over the first b of them, and over the others -/
theorem sumN_bits (f : Nat → Nat) {n b : Nat} (h : b ≤ n) : sumN f (2 ^ n) = sumN (fun t => sumN (fun r => f (t * 2 ^ (n - b) + r)) (2 ^ (n - b))) (2 ^ b) := by
  rw [← sumN_mul, ← Nat.pow_add]; congr 2; omega
section
variable {b m k n x : Nat}
theorem dN_part {t r : Nat} (h : b ≤ n) (hr : r < 2 ^ (n - b)) : dN b m (k + 1) n (t * 2 ^ (n - b) + r) = if t < m then (t, true, b) else ((dN b m k (n - b) r).1, (dN b m k (n - b) r).2.1, (dN b m k (n - b) r).2.2 + b) := by
  have e1 : (t * 2 ^ (n - b) + r) / 2 ^ (n - b) = t := by rw [Nat.mul_comm, Nat.mul_add_div (Nat.two_pow_pos _), Nat.div_eq_of_lt hr, Nat.add_zero]
  have e2 : (t * 2 ^ (n - b) + r) % 2 ^ (n - b) = r := by rw [Nat.mul_comm, Nat.mul_add_mod, Nat.mod_eq_of_lt hr]
  rw [dN, if_neg (by omega), e1, e2]
/-- how many strings of n bits tell x -/
def cntN (b m x k n : Nat) : Nat := sumN (fun j => if (dN b m k n j).2.1 = true ∧ (dN b m k n j).1 = x then 1 else 0) (2 ^ n)
/-- as the words say -/
def wayN (b m : Nat) : Nat → Nat → Nat
  | 0, _ => 0
  | k + 1, n => if n < b then 0 else 2 ^ (n - b) + (2 ^ b - m) * wayN b m k (n - b)
theorem cntN_way (hx : x < m) (hm : m ≤ 2 ^ b) : cntN b m x k n = wayN b m k n := by
  induction k generalizing n with
  | zero =>
    unfold cntN
    rw [wayN, sumN_congr (g := fun _ => 0) (fun j _ => by simp [dN]), sumN_const, Nat.mul_zero]
  | succ k ih =>
    by_cases h : n < b
    · unfold cntN
      rw [wayN, if_pos h, sumN_congr (g := fun _ => 0) (fun j _ => by rw [dN, if_pos h]; simp), sumN_const, Nat.mul_zero]
    · have hb : b ≤ n := by omega
      rw [wayN, if_neg h, ← ih (n := n - b)]
      unfold cntN
      rw [sumN_bits _ hb, sumN_congr (g := fun t => if t < m then (if t = x then 2 ^ (n - b) else 0) else cntN b m x k (n - b)) ?_, sumN_two hm, sumN_one, if_pos hx]
      · rfl
      · intro t _
        show sumN _ _ = _
        by_cases ht : t < m
        · rw [if_pos ht]
          by_cases hx2 : t = x
          · rw [if_pos hx2, sumN_congr (g := fun _ => 1) (fun r hr => by rw [dN_part hb hr, if_pos ht]; simp [hx2]), sumN_const, Nat.mul_one]
          · rw [if_neg hx2, sumN_congr (g := fun _ => 0) (fun r hr => by rw [dN_part hb hr, if_pos ht]; simp [hx2]), sumN_const, Nat.mul_zero]
        · rw [if_neg ht]
          unfold cntN
          exact sumN_congr fun r hr => by rw [dN_part hb hr, if_neg ht]
theorem wayN_fuel {k' : Nat} (hb : 0 < b) (h1 : n < k) (h2 : n < k') : wayN b m k n = wayN b m k' n := by
  induction k generalizing n k' with
  | zero => omega
  | succ k ih =>
    obtain ⟨k', rfl⟩ : ∃ j, k' = j + 1 := ⟨k' - 1, by omega⟩
    rw [wayN, wayN]
    by_cases h : n < b
    · rw [if_pos h, if_pos h]
    · rw [if_neg h, if_neg h, ih (n := n - b) (k' := k') (by omega) (by omega)]
theorem wayN_le (hm : m ≤ 2 ^ b) (h0 : 0 < m) : wayN b m k n ≤ 2 ^ n := by
  induction k generalizing n with
  | zero => exact Nat.zero_le _
  | succ k ih =>
    rw [wayN]
    split
    · exact Nat.zero_le _
    · rename_i h
      have h1 := ih (n := n - b)
      have h2 : 2 ^ n = 2 ^ b * 2 ^ (n - b) := by rw [← Nat.pow_add]; congr 1; omega
      have h3 : (2 ^ b - m) * wayN b m k (n - b) ≤ (2 ^ b - 1) * 2 ^ (n - b) := Nat.mul_le_mul (by omega) h1
      have h4 : 2 ^ (n - b) + (2 ^ b - 1) * 2 ^ (n - b) = 2 ^ b * 2 ^ (n - b) := by
        have : 2 ^ b = 1 + (2 ^ b - 1) := by have := Nat.two_pow_pos b; omega
        rw [show 2 ^ b * 2 ^ (n - b) = (1 + (2 ^ b - 1)) * 2 ^ (n - b) by rw [← this], Nat.add_mul, Nat.one_mul]
      omega
theorem wayN_zero (hm : m = 1) : wayN 0 m (k + 1) n = 2 ^ n := by subst hm; rw [wayN]; simp
/-- how many bits all strings of n bits read, n for those that need more -/
def readN (b m k n : Nat) : Nat := sumN (fun j => if (dN b m k n j).2.1 = true then (dN b m k n j).2.2 else n) (2 ^ n)
def moreN (b m k n : Nat) : Nat := sumN (fun j => if (dN b m k n j).2.1 = true then 0 else 1) (2 ^ n)
theorem moreN_read : moreN b m k n * n ≤ readN b m k n := by
  unfold moreN readN
  rw [← sumN_times]
  exact sumN_le fun j _ => by split <;> simp
theorem readN_short (h : n < b) : readN b m (k + 1) n = 2 ^ n * n := by
  unfold readN
  rw [sumN_congr (g := fun _ => n) (fun j _ => by rw [dN, if_pos h]; simp), sumN_const]
theorem readN_long (h : b ≤ n) (hm : m ≤ 2 ^ b) : readN b m (k + 1) n = 2 ^ n * b + (2 ^ b - m) * readN b m k (n - b) := by
  have h2 : 2 ^ n = 2 ^ b * 2 ^ (n - b) := by rw [← Nat.pow_add]; congr 1; omega
  have e : readN b m (k + 1) n = sumN (fun t => if t < m then 2 ^ (n - b) * b else 2 ^ (n - b) * b + readN b m k (n - b)) (2 ^ b) := by
    unfold readN
    rw [sumN_bits _ h]
    refine sumN_congr fun t _ => ?_
    show sumN _ _ = _
    by_cases ht : t < m
    · rw [if_pos ht, sumN_congr (g := fun _ => b) (fun r hr => by rw [dN_part h hr, if_pos ht]; simp), sumN_const]
    · rw [if_neg ht, ← sumN_const b (2 ^ (n - b)), ← sumN_plus]
      exact sumN_congr fun r hr => by
        rw [dN_part h hr, if_neg ht]
        by_cases hg : (dN b m k (n - b) r).2.1 = true
        · simp [hg]; omega
        · simp [hg]; omega
  rw [e, sumN_two hm, sumN_const, h2, Nat.mul_add, ← Nat.add_assoc, ← Nat.add_mul, show m + (2 ^ b - m) = 2 ^ b by omega, Nat.mul_assoc]
theorem readN_cost (hb : 0 < b) (hm : m ≤ 2 ^ b) (hk : n < k) : readN b m k n * m ≤ b * 2 ^ b * 2 ^ n := by
  induction k generalizing n with
  | zero => omega
  | succ k ih =>
    by_cases h : n < b
    · rw [readN_short h, Nat.mul_comm (2 ^ n) n, Nat.mul_assoc, Nat.mul_assoc, Nat.mul_comm (2 ^ n) m]
      exact Nat.mul_le_mul (by omega) (Nat.mul_le_mul_right _ hm)
    · have hbn : b ≤ n := by omega
      have h2 : 2 ^ n = 2 ^ b * 2 ^ (n - b) := by rw [← Nat.pow_add]; congr 1; omega
      have h1 := ih (n := n - b) (by omega)
      rw [readN_long hbn hm]
      have h3 : (2 ^ b - m) * readN b m k (n - b) * m ≤ (2 ^ b - m) * (b * 2 ^ n) := by
        rw [Nat.mul_assoc]
        refine Nat.mul_le_mul_left _ ?_
        rw [h2, ← Nat.mul_assoc]; exact h1
      rw [Nat.add_mul]
      refine Nat.le_trans (Nat.add_le_add_left h3 _) ?_
      rw [Nat.mul_comm (2 ^ n) b, Nat.mul_comm (b * 2 ^ n) m, ← Nat.add_mul, show m + (2 ^ b - m) = 2 ^ b by omega, Nat.mul_comm b (2 ^ b), Nat.mul_assoc]
      exact Nat.le_refl _
theorem readN_one (hm : m = 1) : readN 0 m (k + 1) n = 0 := by
  subst hm
  rw [readN_long (Nat.zero_le _) (by simp)]; simp
end
end N
end Go.Proofs.YtfdpddlefobcpaaGreatDoor
