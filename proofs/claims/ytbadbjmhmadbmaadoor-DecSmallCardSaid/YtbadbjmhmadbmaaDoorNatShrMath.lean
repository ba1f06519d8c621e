/- Plain mathematics of a shift to the right that goes from the highest limb down. -/
import Derived.Test.YtbadbjmhmadbmaaDoorNatRange
import Derived.Test.YtbadbjmhmadbmaaDoorNatCmp
namespace Go.Proofs.YtbadbjmhmadbmaaDoor
set_option linter.unusedVariables false
set_option maxRecDepth 20000
namespace N
/-- the row, and the limb above, behind one round -/
def stStep (ys : List Int) (r : Int) {ln : Nat} (s : List Int × Int) (x : Fin ln) : List Int × Int := (s.1.set x.val (W.shr s.2 (lim ys x.val) r), lim ys x.val)
def st (ys : List Int) (r : Int) (ln : Nat) (pre : List (Fin ln)) : List Int × Int := pre.foldl (stStep ys r) (List.replicate ln 0, 0)
theorem st_snoc (ys : List Int) (r : Int) (ln : Nat) (pre : List (Fin ln)) (x : Fin ln) : st ys r ln (pre ++ [x]) = stStep ys r (st ys r ln pre) x := by simp [st, List.foldl_append]
theorem st_ok {ys : List Int} (hy : Dg B ys) (r : Int) (ln : Nat) : ∀ (pre : List (Fin ln)) (s : List Int × Int), s.1.length = ln → Dg B s.1 → W.Wd s.2 →
    (pre.foldl (stStep ys r) s).1.length = ln ∧ Dg B (pre.foldl (stStep ys r) s).1 ∧ W.Wd (pre.foldl (stStep ys r) s).2
  | [], s, h1, h2, h3 => ⟨h1, h2, h3⟩
  | x :: t, s, h1, h2, h3 => by
    rw [List.foldl_cons]
    have hw := W.wd_shr s.2 (lim ys x.val) r
    exact st_ok hy r ln t _ (by simp [stStep, h1]) (h2.set _ hw.1 hw.2) (hy.lim (by decide) _)
theorem st_ok' {ys : List Int} (hy : Dg B ys) (r : Int) (ln : Nat) (pre : List (Fin ln)) : (st ys r ln pre).1.length = ln ∧ Dg B (st ys r ln pre).1 ∧ W.Wd (st ys r ln pre).2 :=
  st_ok hy r ln pre _ (by simp) (Dg.zeros (by decide) _) W.wd_0
theorem st_dn {ys : List Int} (hy : Dg B ys) (r : Int) (ln : Nat) (h0 : lim ys ln = 0) : ∀ (k : Nat) (pre : List (Fin ln)), k ≤ ln → pre.map Fin.val = dn ln k →
    (st ys r ln pre).2 = lim ys (ln - k) ∧ ∀ j, lim (st ys r ln pre).1 j = if ln - k ≤ j ∧ j < ln then W.shr (lim ys (j + 1)) (lim ys j) r else 0 := by
  intro k
  induction k with
  | zero =>
    intro pre _ hp
    have : pre = [] := by simpa [dn, upto] using hp
    subst this
    refine ⟨h0.symm, fun j => ?_⟩
    rw [if_neg (by omega)]
    exact lim_zeros _ _
  | succ k ih =>
    intro pre hk hp
    rcases List.eq_nil_or_concat pre with e | ⟨ini, last, e⟩
    · subst e
      have := congrArg List.length hp
      rw [dn, upto_length] at this; simp at this
    · subst e
      rw [List.concat_eq_append, dn_succ, List.map_append] at hp
      obtain ⟨e1, e2⟩ := List.append_inj' hp rfl
      have e3 : last.val = ln - 1 - k := by simpa using e2
      obtain ⟨i1, i2⟩ := ih ini (by omega) e1
      have hl := (st_ok' hy r ln ini).1
      rw [List.concat_eq_append, st_snoc]
      unfold stStep
      refine ⟨by show lim ys last.val = _; rw [e3, show ln - 1 - k = ln - (k + 1) by omega], fun j => ?_⟩
      show lim ((st ys r ln ini).1.set last.val _) j = _
      rw [lim_set _ _ _ _ (by rw [hl]; exact last.2), i1, i2 j, e3]
      by_cases hj : j = ln - 1 - k
      · rw [if_pos hj, if_pos (by omega), hj, show ln - 1 - k + 1 = ln - k by omega]
      · rw [if_neg hj]
        by_cases hj2 : ln - k ≤ j ∧ j < ln
        · rw [if_pos hj2, if_pos (by omega)]
        · rw [if_neg hj2, if_neg (by omega)]
theorem shr_zero (r : Int) : W.shr 0 0 r = 0 := by unfold W.shr; simp
/-- a limb of a value over 2 to the power of r, by two limbs of the value -/
theorem shr_lim {ys : List Int} (hy : Dg B ys) (r : Nat) (hr : r < 64) (j : Nat) : W.shr (lim ys (j + 1)) (lim ys j) (r : Int) = val B ys / 2 ^ r / Q B j % B := by
  have hq := Q_pos (b := B) (by decide) j
  have hp := W.pow_pos r
  have e1 : val B ys / 2 ^ r / Q B j = val B ys / Q B j / 2 ^ r := by
    rw [Int.ediv_ediv_of_nonneg (by omega), Int.ediv_ediv_of_nonneg (by omega), Int.mul_comm]
  have e2 : lim ys (j + 1) = val B ys / Q B j / 18446744073709551616 % 18446744073709551616 := by
    rw [lim_div (by decide) hy, Q_succ, ← Int.ediv_ediv_of_nonneg (by omega)]
  have e3 : lim ys j = val B ys / Q B j % 18446744073709551616 := lim_div (by decide) hy j
  rw [e1, e2, e3]
  unfold W.shr
  rw [Int.toNat_natCast]
  show _ = val B ys / Q B j / 2 ^ r % 18446744073709551616
  have hv : 0 ≤ val B ys / Q B j := Int.ediv_nonneg (val_nonneg (by decide) hy) (by omega)
  generalize val B ys / Q B j = v at *
  have hs := W.pow_split r (by omega)
  generalize hpp : (2 : Int) ^ r = p at *
  generalize (2 : Int) ^ (64 - r) = s at *
  have e4 : v = (v / 18446744073709551616 % 18446744073709551616 * 18446744073709551616 + v % 18446744073709551616) + p * (s * 18446744073709551616 * (v / 18446744073709551616 / 18446744073709551616)) := by
    have : p * (s * 18446744073709551616 * (v / 18446744073709551616 / 18446744073709551616)) = (s * p) * (18446744073709551616 * (v / 18446744073709551616 / 18446744073709551616)) := by
      rw [Int.mul_assoc s, ← Int.mul_assoc p, Int.mul_comm p s]
    rw [this, ← hs]
    omega
  generalize hu : v / 18446744073709551616 % 18446744073709551616 * 18446744073709551616 + v % 18446744073709551616 = u at *
  rw [e4, Int.add_mul_ediv_left _ _ (by omega)]
  rw [Int.mul_right_comm, Int.mul_comm (s * _), Int.add_mul_emod_self_left]
theorem lim_limbs {n : Int} (hn : 0 ≤ n) (j : Nat) : lim (limbs n) j = n / Q B j % B := by
  rw [lim_div (by decide) (limbs_dg n), limbs_val hn]
theorem shr_done {ys : List Int} (hy : Dg B ys) (r : Nat) (hr : r < 64) (ln : Nat) (h0 : ∀ j, ln ≤ j → lim ys j = 0) (pre : List (Fin ln)) (hp : pre.map Fin.val = dn ln ln) :
    val B (st ys r ln pre).1 = val B ys / 2 ^ r := by
  have h := (st_dn hy r ln (h0 ln (Nat.le_refl _)) ln pre (Nat.le_refl _) hp).2
  have hv : 0 ≤ val B ys / 2 ^ r := Int.ediv_nonneg (val_nonneg (by decide) hy) (Int.le_of_lt (W.pow_pos r))
  rw [← limbs_val hv]
  refine val_of_lim B (fun j => ?_)
  rw [lim_limbs hv, ← shr_lim hy r hr, h j]
  by_cases hj : j < ln
  · rw [if_pos ⟨by omega, hj⟩]
  · rw [if_neg (by omega), h0 j (by omega), h0 (j + 1) (by omega), shr_zero]
end N
end Go.Proofs.YtbadbjmhmadbmaaDoor
