/- Plain arithmetic of a long division: the row that is left, the row of the quotient, round by round. No program, no walk. -/
import Derived.Test.YtbadbjmhmadbmaaDoorQuoMath
namespace Go.Proofs.YtbadbjmhmadbmaaDoor
set_option linter.unusedVariables false
set_option maxRecDepth 20000
namespace N
theorem val_lt_nn' {xs : List Int} (h : Dg B xs) {k : Nat} (hk : nn xs ≤ k) : val B xs < Q B k := by
  have := (limbs_len_le (val_nonneg (by decide) h) k).1
  rw [← nn_limbs h] at this
  exact this hk
theorem val_of_lim' (b : Int) {xs ys : List Int} (h : ∀ j, lim xs j = lim ys j) : val b xs = val b ys := by
  rw [← val_tr b xs, ← val_tr b ys]
  congr 1
  apply ext_lim
  · rw [tr_length, tr_length, nn_of_lim h]
  · intro j; rw [lim_tr, lim_tr]; exact h j
theorem lo_congr (b : Int) {xs ys : List Int} : ∀ (i : Nat), (∀ j, j < i → lim xs j = lim ys j) → lo b xs i = lo b ys i
  | 0, _ => by rw [lo_zero, lo_zero]
  | i + 1, h => by rw [lo_succ, lo_succ, lo_congr b i (fun j hj => h j (by omega)), h i (by omega)]
/-- a divisor, shifted so that its highest place is at the top of its highest limb -/
theorem normal {ys : List Int} {n : Nat} (hy : Dg B ys) (hn : nn ys = n) (h0 : 0 < n) : ∃ k : Nat, k ≤ 63 ∧ 64 - W.len (lim ys (n - 1)) = (k : Int) ∧ val B ys * 2 ^ k < Q B n ∧ Q B n ≤ 2 * (val B ys * 2 ^ k) := by
  subst hn
  have ht := nn_top ys h0
  have hg := hy.lim (b := B) (by decide) (nn ys - 1)
  have hv := val_top B ys h0
  have hl := lo_lt (by decide) hy (nn ys - 1)
  have hx : lim ys (nn ys - 1) < 18446744073709551616 := hg.2
  obtain ⟨j, e1, e2, e3⟩ := len_spec _ hg.1
  have hj : j ≤ 64 := by
    apply Classical.byContradiction; intro hc
    have e4 : 2 ^ (j - 1) ≤ lim ys (nn ys - 1) := by rcases e3 with e3 | e3; omega; exact e3
    have e5 : (2 : Int) ^ 64 ≤ 2 ^ (j - 1) := by rw [← W.cast_pow, ← W.cast_pow]; exact Int.ofNat_le.2 (Nat.pow_le_pow_right (by omega) (by omega))
    have : (2 : Int) ^ 64 = 18446744073709551616 := by decide
    omega
  have hj0 : j ≠ 0 := by rintro rfl; simp at e2; omega
  have e3' : 2 ^ (j - 1) ≤ lim ys (nn ys - 1) := by rcases e3 with e3 | e3; exact absurd e3 hj0; exact e3
  rw [e1]
  refine ⟨64 - j, by omega, by omega, ?_, ?_⟩
  all_goals
    have hq : Q B (nn ys) = 2 ^ (64 - j) * (2 ^ j * Q B (nn ys - 1)) := by
      rw [← Int.mul_assoc, ← Int.pow_add, show 64 - j + j = 64 by omega]
      have : Q B (nn ys) = Q B (nn ys - 1 + 1) := by congr 1; omega
      rw [this, Q_succ']; rfl
    rw [hv, hq, Int.mul_comm _ (2 ^ (64 - j))]
    generalize lim ys (nn ys - 1) = x at *
    have hp := W.pow_pos (64 - j)
    have hqq := Q_pos (b := B) (by decide) (nn ys - 1)
    generalize Q B (nn ys - 1) = q at *
    generalize lo B ys (nn ys - 1) = l at *
  · refine Int.mul_lt_mul_of_pos_left ?_ hp
    have : (x + 1) * q ≤ 2 ^ j * q := Int.mul_le_mul_of_nonneg_right (by omega) (by omega)
    rw [Int.add_mul, Int.one_mul] at this
    omega
  · have e6 : (2 : Int) ^ j = 2 * 2 ^ (j - 1) := by rw [← W.pow_succ]; congr 1; omega
    rw [show 2 * (2 ^ (64 - j) * (l + x * q)) = 2 ^ (64 - j) * (2 * (l + x * q)) from Int.mul_left_comm ..]
    refine Int.mul_le_mul_of_nonneg_left ?_ (by omega)
    have : 2 ^ (j - 1) * q ≤ x * q := Int.mul_le_mul_of_nonneg_right (by omega) (by omega)
    rw [e6, Int.mul_assoc]
    omega
theorem two_limbs {u : Int} (hu : 0 ≤ u) (i : Nat) : u / Q B (i + 1) * 18446744073709551616 + u / Q B i % 18446744073709551616 = u / Q B i := by
  rw [Q_succ, ← Int.ediv_ediv_of_nonneg (Int.le_of_lt (Q_pos (by decide) i))]
  generalize u / Q B i = t
  show t / 18446744073709551616 * 18446744073709551616 + t % 18446744073709551616 = t
  omega
/-- an estimate over rows: right, or one too much -/
theorem est_rows {ys ps : List Int} {n k : Nat} (hy : Dg B ys) (hp : Dg B ps) (hn : 2 ≤ n) (hk : k ≤ 63) (h1 : val B ys * 2 ^ k < Q B n) (h2 : Q B n ≤ 2 * (val B ys * 2 ^ k)) (hlt : val B ps < 18446744073709551616 * val B ys) :
    estD (shd ps n k * 18446744073709551616 + shd ps (n - 1) k) (shd ys (n - 1) k) (shd ys (n - 2) k) * val B ys ≤ val B ps + val B ys ∧
    val B ps < (estD (shd ps n k * 18446744073709551616 + shd ps (n - 1) k) (shd ys (n - 1) k) (shd ys (n - 2) k) + 1) * val B ys := by
  obtain ⟨m, rfl⟩ : ∃ m, n = m + 2 := ⟨n - 2, by omega⟩
  rw [show m + 2 - 1 = m + 1 by omega, show m + 2 - 2 = m by omega]
  have hw := wd_shd ys m k
  have e0 := shd_eq hy m k (by omega)
  rw [shd_eq hp (m + 2) k (by omega), shd_eq hp (m + 1) k (by omega), shd_eq hy (m + 1) k (by omega)]
  have hV := val_nonneg (b := B) (by decide) hy
  have hU := val_nonneg (b := B) (by decide) hp
  generalize val B ys = V at *
  generalize val B ps = U at *
  have hpp := W.pow_pos k
  have hu : 0 ≤ U * 2 ^ k := Int.mul_nonneg hU (by omega)
  have hlt' : U * 2 ^ k < 18446744073709551616 * (V * 2 ^ k) := by
    rw [← Int.mul_assoc]; exact Int.mul_lt_mul_of_pos_right hlt hpp
  have hR := Q_pos (b := B) (by decide) m
  have hQ1 : Q B (m + 1) = Q B m * 18446744073709551616 := Q_succ ..
  have hQ2 : Q B (m + 2) = Q B m * 18446744073709551616 * 18446744073709551616 := by rw [show m + 2 = m + 1 + 1 from rfl, Q_succ, hQ1]
  have f1 : U * 2 ^ k / Q B (m + 2) % B = U * 2 ^ k / Q B (m + 2) := by
    refine Int.emod_eq_of_lt (Int.ediv_nonneg hu (by omega)) (Int.ediv_lt_of_lt_mul (by omega) ?_)
    show _ < 18446744073709551616 * _
    omega
  have f2 : V * 2 ^ k / Q B (m + 1) % B = V * 2 ^ k / Q B (m + 1) := by
    refine Int.emod_eq_of_lt (Int.ediv_nonneg (Int.mul_nonneg hV (by omega)) (by omega)) (Int.ediv_lt_of_lt_mul (by omega) ?_)
    show _ < 18446744073709551616 * _
    omega
  rw [f1, f2]
  rw [two_limbs hu (m + 1)]
  have hy0 : 0 ≤ V * 2 ^ k := Int.mul_nonneg hV (by omega)
  have t1 := two_limbs hy0 m
  have e0' : V * 2 ^ k / Q B m % 18446744073709551616 = shd ys m k := e0.symm
  rw [e0'] at t1
  generalize shd ys m k = w at *
  have g1 := Int.mul_ediv_add_emod (U * 2 ^ k) (Q B (m + 1))
  have g2 := Int.emod_nonneg (U * 2 ^ k) (show Q B (m + 1) ≠ 0 by omega)
  have g3 := Int.emod_lt_of_pos (U * 2 ^ k) (show 0 < Q B (m + 1) by omega)
  have g4 := Int.mul_ediv_add_emod (V * 2 ^ k) (Q B m)
  have g5 := Int.emod_nonneg (V * 2 ^ k) (show Q B m ≠ 0 by omega)
  have g6 := Int.emod_lt_of_pos (V * 2 ^ k) hR
  have g7 := Int.mul_ediv_add_emod (V * 2 ^ k) (Q B (m + 1))
  have g8 := Int.emod_lt_of_pos (V * 2 ^ k) (show 0 < Q B (m + 1) by omega)
  have g9 := Int.emod_nonneg (V * 2 ^ k) (show Q B (m + 1) ≠ 0 by omega)
  have hT := Int.ediv_nonneg hu (show 0 ≤ Q B (m + 1) by omega)
  rw [hQ1] at g1 g2 g3 g7 g8 g9 hT t1 ⊢
  rw [hQ2] at h1 h2
  rw [← t1, Int.mul_comm (Q B m)] at g4
  have hv : 9223372036854775808 ≤ V * 2 ^ k / (Q B m * 18446744073709551616) := by
    refine (Int.le_ediv_iff_mul_le (by omega)).2 ?_
    omega
  rw [Int.mul_comm (Q B m * 18446744073709551616), ← Int.mul_assoc] at g1
  have e := est_ok (u := U * 2 ^ k) (y := V * 2 ^ k) (T := U * 2 ^ k / (Q B m * 18446744073709551616)) (v := V * 2 ^ k / (Q B m * 18446744073709551616)) (w := w) (R := Q B m) hR hT hv hw.1 hw.2 (by omega) (by omega)
    (by rw [Int.add_mul, Int.mul_right_comm] at g4; omega) (by rw [Int.add_mul, Int.mul_right_comm] at g4; omega) hlt'
  generalize estD _ _ _ = d at *
  obtain ⟨e1, e2⟩ := e
  rw [← Int.mul_assoc] at e1 e2
  rw [← Int.add_mul] at e1
  exact ⟨Int.le_of_mul_le_mul_right e1 hpp, Int.lt_of_mul_lt_mul_right e2 (Int.le_of_lt hpp)⟩
/-- a row's limbs from place i on, of a row whose other limbs stay -/
theorem seg_eq {R R' : List Int} {i : Nat} {t : Int} (hlo : ∀ j, j < i → lim R' j = lim R j) (hv : val B R' = val B R + t * Q B i) : val B (R'.drop i) = val B (R.drop i) + t := by
  have hq := Q_pos (b := B) (by decide) i
  rw [val_split B R' i, val_split B R i, lo_congr B i hlo, Int.mul_comm t] at hv
  refine Int.eq_of_mul_eq_mul_left (Int.ne_of_gt hq) ?_
  rw [Int.mul_add]; omega
theorem seg_lt {R R' : List Int} {i m : Nat} (hd : Dg B R) (hd' : Dg B R') (h : val B (R.drop i) < Q B m) (hhi : ∀ j, i + m ≤ j → lim R' j = lim R j) : 0 ≤ val B (R'.drop i) ∧ val B (R'.drop i) < Q B m := by
  refine ⟨val_nonneg (by decide) (hd'.drop i), ?_⟩
  have e1 := (val_div (by decide) (hd.drop i) m).1
  rw [Int.ediv_eq_zero_of_lt (val_nonneg (by decide) (hd.drop i)) h, List.drop_drop] at e1
  have e2 : val B (R'.drop (i + m)) = val B (R.drop (i + m)) := val_of_lim' B (fun j => by rw [lim_drop, lim_drop]; exact hhi _ (by omega))
  rw [val_split B (R'.drop i) m, List.drop_drop, e2, ← e1, Int.mul_zero, Int.add_zero]
  exact (lo_lt (by decide) (hd'.drop i) m).2
/-- what holds when m rounds are over: the quotient's row so far, and what is left -/
structure LInv (V a : Int) (lq m : Nat) (qs R : List Int) : Prop where
  sum : val B qs * V + val B R = a
  low : val B (R.drop (lq - m)) < V
  zero : ∀ j, j < lq - m → lim qs j = 0
theorem LInv.part {V a : Int} {lq m : Nat} {qs R : List Int} (h : LInv V a lq m qs R) (hm : m < lq) (hd : Dg B R) : val B (R.drop (lq - 1 - m)) < 18446744073709551616 * V := by
  have hl := h.low
  have e : lq - m = lq - 1 - m + 1 := by omega
  rw [e] at hl
  have h1 := hd.lim (b := B) (by decide) (lq - 1 - m)
  have h2 : lim R (lq - 1 - m) < 18446744073709551616 := h1.2
  have h3 := val_split B (R.drop (lq - 1 - m)) 1
  rw [List.drop_drop, lo_succ, lo_zero, lim_drop, Q_zero, Nat.add_zero, show Q B 1 = 18446744073709551616 by unfold Q; rfl] at h3
  omega
theorem LInv.just {V a d : Int} {lq m n : Nat} {qs R R' : List Int} (h : LInv V a lq m qs R) (hm : m < lq) (hl : lq - 1 - m < qs.length) (hd : Dg B R) (hd' : Dg B R') (hV : V < Q B n)
    (hq1 : val B (R.drop (lq - 1 - m)) < (d + 1) * V) (hlo : ∀ j, j < lq - 1 - m → lim R' j = lim R j)
    (hv : val B R' = val B R - V * d * Q B (lq - 1 - m)) : LInv V a lq (m + 1) (qs.set (lq - 1 - m) d) R' := by
  have hp := h.part hm hd
  have hs := seg_eq (t := -(V * d)) hlo (by rw [hv, Int.neg_mul]; omega)
  refine ⟨?_, ?_, fun j hj => ?_⟩
  · rw [val_set B qs _ _ hl, h.zero _ (by omega), Int.sub_zero, Int.add_mul, hv, ← h.sum, Int.mul_right_comm d, Int.mul_comm V d]; omega
  · rw [show lq - (m + 1) = lq - 1 - m by omega, hs]
    rw [Int.add_mul, Int.one_mul, Int.mul_comm d] at hq1
    omega
  · rw [lim_set _ _ _ _ hl, if_neg (by omega)]; exact h.zero j (by omega)
theorem LInv.less {V a d c : Int} {lq m n : Nat} {qs R R' R2 : List Int} (h : LInv V a lq m qs R) (hm : m < lq) (hl : lq - 1 - m < qs.length) (hd : Dg B R) (hd' : Dg B R') (hd2 : Dg B R2) (hV : V < Q B n)
    (hq1 : d * V ≤ val B (R.drop (lq - 1 - m)) + V) (hq2 : val B (R.drop (lq - 1 - m)) < (d + 1) * V)
    (hlo : ∀ j, j < lq - 1 - m → lim R' j = lim R j) (hhi : ∀ j, lq - 1 - m + (n + 1) ≤ j → lim R' j = lim R j)
    (hlo2 : ∀ j, j < lq - 1 - m → lim R2 j = lim R' j) (hhi2 : ∀ j, lq - 1 - m + (n + 1) ≤ j → lim R2 j = lim R' j)
    (hv : val B R' = val B R - V * d * Q B (lq - 1 - m) + Q B (lq - 1 - m + (n + 1)))
    (hc : c = 0 ∨ c = 1) (hv2 : val B R2 = val B R' + V * Q B (lq - 1 - m) - c * Q B (lq - 1 - m + (n + 1))) : LInv V a lq (m + 1) ((qs.set (lq - 1 - m) d).set (lq - 1 - m) (d - 1)) R2 := by
  have hp := h.part hm hd
  rw [List.set_set]
  generalize hi : lq - 1 - m = i at *
  have hQ : Q B (i + (n + 1)) = Q B (n + 1) * Q B i := by rw [Q_add, Int.mul_comm]
  have hQn : Q B (n + 1) = Q B n * 18446744073709551616 := Q_succ ..
  have hs := seg_eq (t := -(V * d) + Q B (n + 1)) hlo (by rw [hv, hQ, Int.add_mul, Int.neg_mul]; omega)
  have hs2 := seg_eq (t := V - c * Q B (n + 1)) hlo2 (by rw [hv2, hQ, Int.sub_mul, Int.mul_assoc c]; omega)
  have hlt := seg_lt (m := n + 1) hd hd' (by omega) hhi
  have hlt2 := seg_lt (m := n + 1) hd' hd2 hlt.2 hhi2
  rw [Int.add_mul, Int.one_mul, Int.mul_comm d] at hq2
  rw [Int.mul_comm d] at hq1
  have hc1 : c = 1 := by
    rcases hc with hc | hc
    · subst hc; omega
    · exact hc
  subst hc1
  refine ⟨?_, ?_, fun j hj => ?_⟩
  · rw [val_set B qs _ _ hl, h.zero _ (by omega), Int.sub_zero, Int.add_mul, hv2, hv, ← h.sum, Int.sub_mul, Int.sub_mul, Int.one_mul, Int.one_mul, Int.mul_right_comm d, Int.mul_comm V d, Int.mul_comm (Q B i) V]; omega
  · rw [show lq - (m + 1) = i by omega, hs2, hs]
    omega
  · rw [lim_set _ _ _ _ hl, if_neg (by omega)]; exact h.zero j (by omega)
theorem LInv.done {V a : Int} {lq : Nat} {qs R : List Int} (h : LInv V a lq lq qs R) (hd : Dg B R) : val B qs = a / V ∧ val B R = a % V := by
  have h1 := h.low
  rw [Nat.sub_self, List.drop_zero] at h1
  have h0 := val_nonneg (b := B) (by decide) hd
  have hs := h.sum
  have hV : 0 < V := by omega
  rw [← hs, Int.add_comm]
  constructor
  · rw [Int.add_mul_ediv_right _ _ (by omega), Int.ediv_eq_zero_of_lt h0 h1]; omega
  · rw [Int.add_mul_emod_self_right, Int.emod_eq_of_lt h0 h1]
theorem LInv.start {V a : Int} {lq n : Nat} {xs : List Int} (hx : Dg B xs) (ha : val B xs = a) (hl : xs.length = lq + n - 1) (hn : 1 ≤ n) (hV : Q B (n - 1) ≤ V) : LInv V a lq 0 (List.replicate lq 0) (xs ++ [0]) := by
  refine ⟨?_, ?_, fun j _ => lim_zeros _ _⟩
  · rw [val_zeros, Int.zero_mul, val_append, ha]; simp [val]
  · have e : (xs ++ [0]).drop (lq - 0) = xs.drop lq ++ [0] := by rw [Nat.sub_zero, List.drop_append_of_le_length (by omega)]
    rw [e, val_append]
    simp only [val, Int.mul_zero, Int.add_zero]
    have := val_lt (b := B) (by decide) (hx.drop lq)
    rw [List.length_drop, hl, show lq + n - 1 - lq = n - 1 by omega] at this
    omega
theorem top_le {ys : List Int} {n : Nat} (hy : Dg B ys) (hn : nn ys = n) (h0 : 0 < n) : Q B (n - 1) ≤ val B ys := by
  subst hn
  have ht := nn_top ys h0
  have hg := hy.lim (b := B) (by decide) (nn ys - 1)
  rw [val_top B ys h0]
  have hl := lo_lt (by decide) hy (nn ys - 1)
  have hq := Q_pos (b := B) (by decide) (nn ys - 1)
  have : 1 * Q B (nn ys - 1) ≤ lim ys (nn ys - 1) * Q B (nn ys - 1) := Int.mul_le_mul_of_nonneg_right (by omega) (by omega)
  omega
end N
end Go.Proofs.YtbadbjmhmadbmaaDoor
