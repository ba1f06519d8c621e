/- Plain arithmetic on rows of digits to a base (Int): values, what is cut at the end, the canonical digits. No program, no walk. -/
import Derived.Test.YtbadbjmhmadbmaaDoorWordMath
namespace Go.Proofs.YtbadbjmhmadbmaaDoor
set_option linter.unusedVariables false
set_option maxRecDepth 20000
namespace N
/-- the place j of a row; 0 beyond it -/
def lim (xs : List Int) (j : Nat) : Int := xs.getD j 0
def Q (b : Int) (i : Nat) : Int := b ^ i
/-- the value of a row to the base b -/
def val (b : Int) : List Int → Int
  | [] => 0
  | x :: t => x + b * val b t
/-- each place is a digit -/
def Dg (b : Int) (xs : List Int) : Prop := ∀ x ∈ xs, 0 ≤ x ∧ x < b
/-- how many places are left without 0s at the end -/
def nn : List Int → Nat
  | [] => 0
  | x :: t => if x = 0 ∧ nn t = 0 then 0 else nn t + 1
/-- the value of the i lowest places -/
def lo (b : Int) (xs : List Int) (i : Nat) : Int := val b (xs.take i)

theorem Q_zero (b : Int) : Q b 0 = 1 := by simp [Q]
theorem Q_succ (b : Int) (i : Nat) : Q b (i + 1) = Q b i * b := Int.pow_succ ..
theorem Q_succ' (b : Int) (i : Nat) : Q b (i + 1) = b * Q b i := by rw [Q_succ, Int.mul_comm]
theorem Q_add (b : Int) (i j : Nat) : Q b (i + j) = Q b i * Q b j := Int.pow_add ..
theorem Q_pos {b : Int} (hb : 0 < b) (i : Nat) : 0 < Q b i := Int.pow_pos hb
theorem lim_nil (j : Nat) : lim [] j = 0 := by simp [lim]
theorem lim_cons_zero (x : Int) (t : List Int) : lim (x :: t) 0 = x := by simp [lim]
theorem lim_cons_succ (x : Int) (t : List Int) (j : Nat) : lim (x :: t) (j + 1) = lim t j := by simp [lim]
theorem lim_over (xs : List Int) (j : Nat) (h : xs.length ≤ j) : lim xs j = 0 := by simp [lim, List.getD, List.getElem?_eq_none h]
theorem lim_lt (xs : List Int) (j : Nat) (h : j < xs.length) : lim xs j = xs[j] := by simp [lim, List.getD, List.getElem?_eq_getElem h]
theorem lim_get? (xs : List Int) (j : Nat) (h : j < xs.length) : xs[j]? = some (lim xs j) := by rw [lim_lt xs j h, List.getElem?_eq_getElem h]
theorem Dg.lim {b : Int} {xs : List Int} (hb : 0 < b) (h : Dg b xs) (j : Nat) : 0 ≤ lim xs j ∧ lim xs j < b := by
  by_cases hj : j < xs.length
  · rw [lim_lt xs j hj]; exact h _ (List.getElem_mem hj)
  · rw [lim_over xs j (by omega)]; omega
theorem Dg.nil {b : Int} : Dg b [] := by intro x hx; cases hx
theorem Dg.cons {b x : Int} {t : List Int} (h0 : 0 ≤ x) (h1 : x < b) (h : Dg b t) : Dg b (x :: t) := by
  intro y hy
  rcases List.mem_cons.1 hy with e | e
  · subst e; exact ⟨h0, h1⟩
  · exact h y e
theorem Dg.of_cons {b x : Int} {t : List Int} (h : Dg b (x :: t)) : (0 ≤ x ∧ x < b) ∧ Dg b t := ⟨h x (by simp), fun y hy => h y (by simp [hy])⟩
theorem Dg.set {b : Int} {xs : List Int} (h : Dg b xs) (k : Nat) {v : Int} (h0 : 0 ≤ v) (h1 : v < b) : Dg b (xs.set k v) := by
  intro y hy
  rcases List.mem_or_eq_of_mem_set hy with e | e
  · exact h y e
  · subst e; exact ⟨h0, h1⟩
theorem Dg.take {b : Int} {xs : List Int} (h : Dg b xs) (k : Nat) : Dg b (xs.take k) := fun y hy => h y (List.mem_of_mem_take hy)
theorem Dg.drop {b : Int} {xs : List Int} (h : Dg b xs) (k : Nat) : Dg b (xs.drop k) := fun y hy => h y (List.mem_of_mem_drop hy)
theorem Dg.append {b : Int} {xs ys : List Int} (h : Dg b xs) (h' : Dg b ys) : Dg b (xs ++ ys) := by
  intro y hy
  rcases List.mem_append.1 hy with e | e
  · exact h y e
  · exact h' y e
theorem Dg.zeros {b : Int} (hb : 0 < b) (n : Nat) : Dg b (List.replicate n 0) := by
  intro y hy; rw [List.eq_of_mem_replicate hy]; omega
theorem Dg.one {b v : Int} (h0 : 0 ≤ v) (h1 : v < b) : Dg b [v] := Dg.cons h0 h1 Dg.nil

theorem val_nonneg {b : Int} (hb : 0 < b) : ∀ {xs : List Int}, Dg b xs → 0 ≤ val b xs
  | [], _ => by simp [val]
  | x :: t, h => by
    have h1 := h.of_cons
    have h2 := val_nonneg hb h1.2
    have h3 : 0 ≤ b * val b t := Int.mul_nonneg (by omega) h2
    unfold val; omega
theorem val_lt {b : Int} (hb : 0 < b) : ∀ {xs : List Int}, Dg b xs → val b xs < Q b xs.length
  | [], _ => by simp [val, Q]
  | x :: t, h => by
    have h1 := h.of_cons
    have h2 := val_lt hb h1.2
    have h3 : b * val b t ≤ b * (Q b t.length - 1) := Int.mul_le_mul_of_nonneg_left (by omega) (by omega)
    rw [Int.mul_sub, Int.mul_one] at h3
    rw [List.length_cons, Q_succ']
    unfold val; omega
theorem val_append (b : Int) : ∀ xs ys : List Int, val b (xs ++ ys) = val b xs + Q b xs.length * val b ys
  | [], ys => by simp [val, Q]
  | x :: t, ys => by
    rw [List.cons_append]
    show x + b * val b (t ++ ys) = x + b * val b t + Q b (x :: t).length * val b ys
    rw [val_append b t ys, List.length_cons, Q_succ', Int.mul_add, Int.mul_assoc]; omega
theorem val_zeros (b : Int) : ∀ n, val b (List.replicate n 0) = 0
  | 0 => rfl
  | n + 1 => by rw [List.replicate_succ]; unfold val; rw [val_zeros b n]; simp
theorem val_set (b : Int) : ∀ (xs : List Int) (k : Nat) (v : Int), k < xs.length → val b (xs.set k v) = val b xs + (v - lim xs k) * Q b k
  | [], k, v, h => by simp at h
  | x :: t, 0, v, h => by rw [List.set_cons_zero, lim_cons_zero, Q_zero]; unfold val; omega
  | x :: t, k + 1, v, h => by
    rw [List.set_cons_succ, lim_cons_succ, Q_succ']; unfold val
    rw [val_set b t k v (by simpa using h), Int.mul_add]
    rw [show b * ((v - lim t k) * Q b k) = (v - lim t k) * (b * Q b k) by rw [Int.mul_left_comm]]; omega
theorem lim_set (xs : List Int) (k j : Nat) (v : Int) (hk : k < xs.length) : lim (xs.set k v) j = if j = k then v else lim xs j := by
  unfold lim
  simp only [List.getD, List.getElem?_set]
  split <;> rename_i h
  · subst h; simp
  · rw [if_neg (by omega)]
theorem lim_zeros (n j : Nat) : lim (List.replicate n 0) j = 0 := by
  unfold lim
  simp only [List.getD, List.getElem?_replicate]
  split <;> rfl
theorem lim_take (xs : List Int) (i j : Nat) : lim (xs.take i) j = if j < i then lim xs j else 0 := by
  unfold lim
  simp only [List.getD, List.getElem?_take]
  split <;> rfl
theorem lim_drop (xs : List Int) (i j : Nat) : lim (xs.drop i) j = lim xs (i + j) := by
  unfold lim; simp only [List.getD, List.getElem?_drop]
theorem lim_append (xs ys : List Int) (j : Nat) : lim (xs ++ ys) j = if j < xs.length then lim xs j else lim ys (j - xs.length) := by
  unfold lim
  simp only [List.getD]
  split <;> rename_i h
  · rw [List.getElem?_append_left h]
  · rw [List.getElem?_append_right (by omega)]
theorem take_all (xs : List Int) (i : Nat) (h : xs.length ≤ i) : xs.take i = xs := List.take_of_length_le h
theorem lo_zero (b : Int) (xs : List Int) : lo b xs 0 = 0 := by simp [lo, val]
theorem lo_all (b : Int) (xs : List Int) (i : Nat) (h : xs.length ≤ i) : lo b xs i = val b xs := by rw [lo, take_all xs i h]
theorem lo_succ (b : Int) (xs : List Int) (i : Nat) : lo b xs (i + 1) = lo b xs i + lim xs i * Q b i := by
  unfold lo
  by_cases h : i < xs.length
  · rw [List.take_succ_eq_append_getElem h, val_append, lim_lt xs i h, List.length_take, Nat.min_eq_left (by omega)]
    simp only [val]; rw [Int.mul_zero, Int.add_zero, Int.mul_comm]
  · rw [take_all xs (i + 1) (by omega), take_all xs i (by omega), lim_over xs i (by omega)]; omega
theorem val_split (b : Int) (xs : List Int) (i : Nat) : val b xs = lo b xs i + Q b i * val b (xs.drop i) := by
  by_cases h : i ≤ xs.length
  · have e : val b xs = val b (xs.take i ++ xs.drop i) := by rw [List.take_append_drop]
    rw [e, val_append, List.length_take, Nat.min_eq_left h]; rfl
  · rw [lo_all b xs i (by omega), List.drop_of_length_le (by omega)]; simp [val]
theorem val_div {b : Int} (hb : 0 < b) {xs : List Int} (h : Dg b xs) (i : Nat) : val b xs / Q b i = val b (xs.drop i) ∧ val b xs % Q b i = lo b xs i := by
  have hq := Q_pos hb i
  have h0 : 0 ≤ lo b xs i := val_nonneg hb (h.take i)
  have h1 : lo b xs i < Q b i := by
    have := val_lt hb (h.take i)
    by_cases hi : i ≤ xs.length
    · rw [List.length_take, Nat.min_eq_left hi] at this; exact this
    · have e := val_lt hb h
      rw [lo_all b xs i (by omega)]
      have h2 : Q b i = Q b xs.length * Q b (i - xs.length) := by rw [← Q_add]; congr 1; omega
      have h3 := Q_pos hb (i - xs.length)
      have h4 : Q b xs.length * 1 ≤ Q b xs.length * Q b (i - xs.length) := Int.mul_le_mul_of_nonneg_left (by omega) (Int.le_of_lt (Q_pos hb _))
      rw [h2]; omega
  rw [val_split b xs i]
  constructor
  · rw [Int.add_mul_ediv_left _ _ (by omega), Int.ediv_eq_zero_of_lt h0 h1]; omega
  · rw [Int.add_mul_emod_self_left, Int.emod_eq_of_lt h0 h1]
theorem lo_lt {b : Int} (hb : 0 < b) {xs : List Int} (h : Dg b xs) (i : Nat) : 0 ≤ lo b xs i ∧ lo b xs i < Q b i := by
  rw [← (val_div hb h i).2]
  exact ⟨Int.emod_nonneg _ (by have := Q_pos hb i; omega), Int.emod_lt_of_pos _ (Q_pos hb i)⟩
theorem lim_div {b : Int} (hb : 0 < b) {xs : List Int} (h : Dg b xs) (i : Nat) : lim xs i = val b xs / Q b i % b := by
  rw [(val_div hb h i).1]
  have e : lim xs i = lim (xs.drop i) 0 := by rw [lim_drop]; rfl
  have hd := h.drop i
  rw [e]
  generalize xs.drop i = ys at hd
  cases ys with
  | nil => simp [lim_nil, val]
  | cons x t =>
    have := hd.of_cons
    rw [lim_cons_zero]; unfold val
    rw [Int.add_mul_emod_self_left, Int.emod_eq_of_lt this.1.1 this.1.2]

theorem nn_le : ∀ xs : List Int, nn xs ≤ xs.length
  | [] => by simp [nn]
  | x :: t => by have := nn_le t; unfold nn; split <;> simp <;> omega
theorem nn_zero : ∀ (xs : List Int) (k : Nat), nn xs ≤ k → lim xs k = 0
  | [], k, _ => lim_nil k
  | x :: t, k, h => by
    unfold nn at h
    split at h <;> rename_i hc
    · cases k with
      | zero => rw [lim_cons_zero]; exact hc.1
      | succ k => rw [lim_cons_succ]; exact nn_zero t k (by omega)
    · cases k with
      | zero => omega
      | succ k => rw [lim_cons_succ]; exact nn_zero t k (by omega)
theorem nn_top : ∀ (xs : List Int), 0 < nn xs → lim xs (nn xs - 1) ≠ 0
  | [], h => by simp [nn] at h
  | x :: t, h => by
    unfold nn at h ⊢
    split at h <;> rename_i hc
    · omega
    · rw [if_neg hc]
      by_cases h0 : nn t = 0
      · rw [h0]; show lim (x :: t) 0 ≠ 0
        rw [lim_cons_zero]; intro hx; exact hc ⟨hx, h0⟩
      · have := nn_top t (by omega)
        rw [show nn t + 1 - 1 = (nn t - 1) + 1 by omega, lim_cons_succ]; exact this
/-- a place that is not 0: the row reaches beyond it -/
theorem lt_nn (xs : List Int) (k : Nat) (h : lim xs k ≠ 0) : k < nn xs := by
  apply Classical.byContradiction; intro hk; exact h (nn_zero xs k (by omega))
theorem nn_eq (xs : List Int) (k : Nat) (h : nn xs ≤ k) (h0 : k = 0 ∨ lim xs (k - 1) ≠ 0) : nn xs = k := by
  rcases h0 with h0 | h0
  · omega
  · have := lt_nn xs _ h0; omega
theorem nn_step (xs : List Int) (k : Nat) (h : nn xs ≤ k + 1) (h0 : lim xs k = 0) : nn xs ≤ k := by
  apply Classical.byContradiction; intro hk
  have e : nn xs = k + 1 := by omega
  have := nn_top xs (by omega)
  rw [e] at this; exact this h0
def tr (xs : List Int) : List Int := xs.take (nn xs)
theorem tr_length (xs : List Int) : (tr xs).length = nn xs := by unfold tr; rw [List.length_take, Nat.min_eq_left (nn_le xs)]
theorem lim_tr (xs : List Int) (j : Nat) : lim (tr xs) j = lim xs j := by
  unfold tr; rw [lim_take]
  split
  · rfl
  · rw [nn_zero xs j (by omega)]
/-- two rows of the same length with the same places are the same -/
theorem ext_lim {xs ys : List Int} (hl : xs.length = ys.length) (h : ∀ j, lim xs j = lim ys j) : xs = ys := by
  apply List.ext_getElem hl
  intro i h1 h2
  rw [← lim_lt xs i h1, ← lim_lt ys i h2]; exact h i
theorem nn_of_lim {xs ys : List Int} (h : ∀ j, lim xs j = lim ys j) : nn xs = nn ys := by
  apply Nat.le_antisymm
  · apply Classical.byContradiction; intro hc
    have := nn_top xs (by omega)
    rw [h] at this; exact this (nn_zero ys _ (by omega))
  · apply Classical.byContradiction; intro hc
    have := nn_top ys (by omega)
    rw [← h] at this; exact this (nn_zero xs _ (by omega))
/-- rows of digits with the same value have the same places -/
theorem tr_of_val {b : Int} (hb : 0 < b) {xs ys : List Int} (hx : Dg b xs) (hy : Dg b ys) (h : val b xs = val b ys) : tr xs = tr ys := by
  have e : ∀ j, lim xs j = lim ys j := fun j => by rw [lim_div hb hx, lim_div hb hy, h]
  apply ext_lim
  · rw [tr_length, tr_length, nn_of_lim e]
  · intro j; rw [lim_tr, lim_tr]; exact e j
theorem val_tr (b : Int) : ∀ xs : List Int, val b (tr xs) = val b xs := by
  intro xs
  have h1 := val_split b xs (nn xs)
  have h2 : ∀ ys : List Int, (∀ j, lim ys j = 0) → val b ys = 0 := by
    intro ys
    induction ys with
    | nil => intro _; rfl
    | cons y t ih =>
      intro h
      unfold val
      have := h 0
      rw [lim_cons_zero] at this
      rw [this, ih (fun j => by have := h (j + 1); rwa [lim_cons_succ] at this)]; simp
  rw [h2 (xs.drop (nn xs)) (fun j => by rw [lim_drop]; exact nn_zero xs _ (by omega))] at h1
  rw [h1]; unfold lo tr; simp
/-- the canonical digits of a natural -/
def cnN (b : Nat) (hb : 1 < b) (n : Nat) : List Int :=
  if h : n = 0 then [] else ((n % b : Nat) : Int) :: cnN b hb (n / b)
termination_by n
decreasing_by exact Nat.div_lt_self (by omega) hb
theorem cnN_zero (b : Nat) (hb : 1 < b) : cnN b hb 0 = [] := by unfold cnN; simp
theorem cnN_pos (b : Nat) (hb : 1 < b) (n : Nat) (h : n ≠ 0) : cnN b hb n = ((n % b : Nat) : Int) :: cnN b hb (n / b) := by rw [cnN.eq_1 b hb n, dif_neg h]
theorem cnN_dg (b : Nat) (hb : 1 < b) (n : Nat) : Dg b (cnN b hb n) := by
  induction n using Nat.strongRecOn with
  | ind n ih =>
    by_cases h : n = 0
    · subst h; rw [cnN_zero]; exact Dg.nil
    · rw [cnN_pos b hb n h]
      have := Nat.mod_lt n (show 0 < b by omega)
      exact Dg.cons (by omega) (by omega) (ih _ (Nat.div_lt_self (by omega) hb))
theorem cnN_val (b : Nat) (hb : 1 < b) (n : Nat) : val b (cnN b hb n) = n := by
  induction n using Nat.strongRecOn with
  | ind n ih =>
    by_cases h : n = 0
    · subst h; rw [cnN_zero]; rfl
    · rw [cnN_pos b hb n h]; unfold val
      rw [ih _ (Nat.div_lt_self (by omega) hb)]
      have := Nat.mod_add_div n b
      rw [← Int.natCast_mul, ← Int.natCast_add, this]
theorem cnN_nn (b : Nat) (hb : 1 < b) (n : Nat) : nn (cnN b hb n) = (cnN b hb n).length := by
  induction n using Nat.strongRecOn with
  | ind n ih =>
    by_cases h : n = 0
    · subst h; rw [cnN_zero]; rfl
    · have ih' := ih _ (Nat.div_lt_self (show 0 < n by omega) hb)
      rw [cnN_pos b hb n h, List.length_cons]; unfold nn
      rw [if_neg ?_, ih']
      intro ⟨h1, h2⟩
      rw [ih'] at h2
      have h3 : n / b = 0 := by
        apply Classical.byContradiction; intro hc
        rw [cnN_pos b hb _ hc] at h2; simp at h2
      have := Nat.mod_add_div n b
      rw [h3] at this
      omega
/-- the canonical digits of a natural, to the base 2 to the power of 64, and of 16 -/
def limbs (n : Int) : List Int := cnN 18446744073709551616 (by omega) n.toNat
def digs (n : Int) : List Int := cnN 65536 (by omega) n.toNat
abbrev B : Int := 18446744073709551616
abbrev D : Int := 65536
theorem limbs_dg (n : Int) : Dg B (limbs n) := cnN_dg 18446744073709551616 (by omega) _
theorem digs_dg (n : Int) : Dg D (digs n) := cnN_dg 65536 (by omega) _
theorem limbs_val {n : Int} (h : 0 ≤ n) : val B (limbs n) = n := by
  have := cnN_val 18446744073709551616 (by omega) n.toNat
  unfold limbs; rw [Int.toNat_of_nonneg h] at this; exact this
theorem digs_val {n : Int} (h : 0 ≤ n) : val D (digs n) = n := by
  have := cnN_val 65536 (by omega) n.toNat
  unfold digs; rw [Int.toNat_of_nonneg h] at this; exact this
theorem limbs_nn (n : Int) : nn (limbs n) = (limbs n).length := cnN_nn _ _ _
theorem digs_nn (n : Int) : nn (digs n) = (digs n).length := cnN_nn _ _ _
theorem tr_full {xs : List Int} (h : nn xs = xs.length) : tr xs = xs := by unfold tr; rw [h, List.take_length]
theorem limbs_of {xs : List Int} (h : Dg B xs) : limbs (val B xs) = tr xs := by
  rw [← tr_full (limbs_nn (val B xs))]
  exact tr_of_val (by decide) (limbs_dg _) h (limbs_val (val_nonneg (by decide) h))
theorem digs_of {xs : List Int} (h : Dg D xs) : digs (val D xs) = tr xs := by
  rw [← tr_full (digs_nn (val D xs))]
  exact tr_of_val (by decide) (digs_dg _) h (digs_val (val_nonneg (by decide) h))
theorem limbs_inj {a b : Int} (ha : 0 ≤ a) (hb : 0 ≤ b) : limbs a = limbs b ↔ a = b := by
  constructor
  · intro h; rw [← limbs_val ha, ← limbs_val hb, h]
  · intro h; rw [h]
theorem len_le_iff {b : Int} (hb : 1 < b) {xs : List Int} (h : Dg b xs) (hn : nn xs = xs.length) (k : Nat) : xs.length ≤ k ↔ val b xs < Q b k := by
  have hq := Q_pos (show 0 < b by omega) k
  have hd := val_div (show 0 < b by omega) h k
  constructor
  · intro hk
    have e := Int.mul_ediv_add_emod (val b xs) (Q b k)
    rw [hd.1, List.drop_of_length_le hk] at e
    have := Int.emod_lt_of_pos (val b xs) hq
    simp only [val] at e; rw [Int.mul_zero] at e; omega
  · intro hk
    apply Classical.byContradiction; intro hc
    have ht := nn_top xs (by omega)
    have e : lim xs (nn xs - 1) = lim (xs.drop k) (nn xs - 1 - k) := by rw [lim_drop]; congr 1; omega
    have h0 : val b xs / Q b k = 0 := Int.ediv_eq_zero_of_lt (val_nonneg (by omega) h) hk
    rw [e, lim_div (by omega) (h.drop k), ← hd.1, h0] at ht
    simp at ht
theorem limbs_len_le {n : Int} (hn : 0 ≤ n) (k : Nat) : (limbs n).length ≤ k ↔ n < Q B k := by
  have := len_le_iff (b := B) (by decide) (limbs_dg n) (limbs_nn n) k
  rwa [limbs_val hn] at this
theorem digs_len_le {n : Int} (hn : 0 ≤ n) (k : Nat) : (digs n).length ≤ k ↔ n < Q D k := by
  have := len_le_iff (b := D) (by decide) (digs_dg n) (digs_nn n) k
  rwa [digs_val hn] at this
theorem limbs_zero : limbs 0 = [] := cnN_zero _ _
theorem limbs_lit (xs : List Int) (n : Int) (h : Dg B xs) (h1 : nn xs = xs.length) (h2 : val B xs = n) : limbs n = xs := by
  rw [← h2, limbs_of h, tr_full h1]
end N
end Go.Proofs.YtbadbjmhmadbmaaDoor
