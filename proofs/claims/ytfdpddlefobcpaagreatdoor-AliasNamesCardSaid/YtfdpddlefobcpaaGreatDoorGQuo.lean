/- Gathered: QuoLong, QuoDiv64, QuoTell, QuoTake, QuoShort, QuoRange, QuoLongC, QuoDivC, QuoPow, QuoGcd, QuoSame, QuoState, QuoTail. -/
import Derived.Test.YtfdpddlefobcpaaGreatDoorGMath
import Derived.Test.YtfdpddlefobcpaaGreatDoorGMem
import Derived.Test.YtfdpddlefobcpaaGreatDoorGNatA
import Derived.Test.YtfdpddlefobcpaaGreatDoorGNatB
import Derived.Test.YtfdpddlefobcpaaGreatDoorShelf
import Derived.Lib.ItoaNum
import Derived.Deep.DeepCutAuto
import Derived.Deep.CutBlock
import Derived.Deep.RegionWith
import Derived.Deep.QuietTactic
import Derived.BigQuiet
import Derived.RangeFuncNested
import Derived.RangeFuncBound
import Derived.RegionIn
import Derived.Laws.EntriesVeiled
import Derived.Shelf.RegionOpen
import Derived.Deep.RegionHeld3
import Derived.Outline
import Derived.ScopeJumps
import Derived.WalkMore
/- Plain arithmetic of a long division: the row that is left, the row of the quotient, round by round. No program, no walk. -/
namespace Go.Proofs.YtfdpddlefobcpaaGreatDoor
set_option linter.unusedVariables false
set_option maxRecDepth 20000
namespace N
theorem val_lt_nn' {xs : List Int} (h : Dg B xs) {k : Nat} (hk : nn xs ≤ k) : val B xs < Q B k := by
  have := (limbs_len_le (val_nonneg (by decide) h) k).1
  rw [← nn_limbs h] at this
  exact this hk
theorem val_of_lim' (b : Int) {xs ys : List Int} (h : ∀ j, lim xs j = lim ys j) : val b xs = val b ys := by
  rw [← val_tr b xs, ← val_tr b ys]
  congr 1
  apply ext_lim
  · rw [tr_length, tr_length, nn_of_lim h]
  · intro j; rw [lim_tr, lim_tr]; exact h j
theorem lo_congr (b : Int) {xs ys : List Int} : ∀ (i : Nat), (∀ j, j < i → lim xs j = lim ys j) → lo b xs i = lo b ys i
  | 0, _ => by rw [lo_zero, lo_zero]
  | i + 1, h => by rw [lo_succ, lo_succ, lo_congr b i (fun j hj => h j (by omega)), h i (by omega)]
/-- a divisor, shifted so that its highest place is at the top of its highest limb -/
theorem normal {ys : List Int} {n : Nat} (hy : Dg B ys) (hn : nn ys = n) (h0 : 0 < n) : ∃ k : Nat, k ≤ 63 ∧ 64 - W.len (lim ys (n - 1)) = (k : Int) ∧ val B ys * 2 ^ k < Q B n ∧ Q B n ≤ 2 * (val B ys * 2 ^ k) := by
  subst hn
  have ht := nn_top ys h0
  have hg := hy.lim (b := B) (by decide) (nn ys - 1)
  have hv := val_top B ys h0
  have hl := lo_lt (by decide) hy (nn ys - 1)
  have hx : lim ys (nn ys - 1) < 18446744073709551616 := hg.2
  obtain ⟨j, e1, e2, e3⟩ := len_spec _ hg.1
  have hj : j ≤ 64 := by
    apply Classical.byContradiction; intro hc
    have e4 : 2 ^ (j - 1) ≤ lim ys (nn ys - 1) := by rcases e3 with e3 | e3; omega; exact e3
    have e5 : (2 : Int) ^ 64 ≤ 2 ^ (j - 1) := by rw [← W.cast_pow, ← W.cast_pow]; exact Int.ofNat_le.2 (Nat.pow_le_pow_right (by omega) (by omega))
    have : (2 : Int) ^ 64 = 18446744073709551616 := by decide
    omega
  have hj0 : j ≠ 0 := by rintro rfl; simp at e2; omega
  have e3' : 2 ^ (j - 1) ≤ lim ys (nn ys - 1) := by rcases e3 with e3 | e3; exact absurd e3 hj0; exact e3
  rw [e1]
  refine ⟨64 - j, by omega, by omega, ?_, ?_⟩
  all_goals
    have hq : Q B (nn ys) = 2 ^ (64 - j) * (2 ^ j * Q B (nn ys - 1)) := by
      rw [← Int.mul_assoc, ← Int.pow_add, show 64 - j + j = 64 by omega]
      have : Q B (nn ys) = Q B (nn ys - 1 + 1) := by congr 1; omega
      rw [this, Q_succ']; rfl
    rw [hv, hq, Int.mul_comm _ (2 ^ (64 - j))]
    generalize lim ys (nn ys - 1) = x at *
    have hp := W.pow_pos (64 - j)
    have hqq := Q_pos (b := B) (by decide) (nn ys - 1)
    generalize Q B (nn ys - 1) = q at *
    generalize lo B ys (nn ys - 1) = l at *
  · refine Int.mul_lt_mul_of_pos_left ?_ hp
    have : (x + 1) * q ≤ 2 ^ j * q := Int.mul_le_mul_of_nonneg_right (by omega) (by omega)
    rw [Int.add_mul, Int.one_mul] at this
    omega
  · have e6 : (2 : Int) ^ j = 2 * 2 ^ (j - 1) := by rw [← W.pow_succ]; congr 1; omega
    rw [show 2 * (2 ^ (64 - j) * (l + x * q)) = 2 ^ (64 - j) * (2 * (l + x * q)) from Int.mul_left_comm ..]
    refine Int.mul_le_mul_of_nonneg_left ?_ (by omega)
    have : 2 ^ (j - 1) * q ≤ x * q := Int.mul_le_mul_of_nonneg_right (by omega) (by omega)
    rw [e6, Int.mul_assoc]
    omega
theorem two_limbs {u : Int} (hu : 0 ≤ u) (i : Nat) : u / Q B (i + 1) * 18446744073709551616 + u / Q B i % 18446744073709551616 = u / Q B i := by
  rw [Q_succ, ← Int.ediv_ediv_of_nonneg (Int.le_of_lt (Q_pos (by decide) i))]
  generalize u / Q B i = t
  show t / 18446744073709551616 * 18446744073709551616 + t % 18446744073709551616 = t
  omega
/-- an estimate over rows: right, or one too much -/
theorem est_rows {ys ps : List Int} {n k : Nat} (hy : Dg B ys) (hp : Dg B ps) (hn : 2 ≤ n) (hk : k ≤ 63) (h1 : val B ys * 2 ^ k < Q B n) (h2 : Q B n ≤ 2 * (val B ys * 2 ^ k)) (hlt : val B ps < 18446744073709551616 * val B ys) :
    estD (shd ps n k * 18446744073709551616 + shd ps (n - 1) k) (shd ys (n - 1) k) (shd ys (n - 2) k) * val B ys ≤ val B ps + val B ys ∧
    val B ps < (estD (shd ps n k * 18446744073709551616 + shd ps (n - 1) k) (shd ys (n - 1) k) (shd ys (n - 2) k) + 1) * val B ys := by
  obtain ⟨m, rfl⟩ : ∃ m, n = m + 2 := ⟨n - 2, by omega⟩
  rw [show m + 2 - 1 = m + 1 by omega, show m + 2 - 2 = m by omega]
  have hw := wd_shd ys m k
  have e0 := shd_eq hy m k (by omega)
  rw [shd_eq hp (m + 2) k (by omega), shd_eq hp (m + 1) k (by omega), shd_eq hy (m + 1) k (by omega)]
  have hV := val_nonneg (b := B) (by decide) hy
  have hU := val_nonneg (b := B) (by decide) hp
  generalize val B ys = V at *
  generalize val B ps = U at *
  have hpp := W.pow_pos k
  have hu : 0 ≤ U * 2 ^ k := Int.mul_nonneg hU (by omega)
  have hlt' : U * 2 ^ k < 18446744073709551616 * (V * 2 ^ k) := by
    rw [← Int.mul_assoc]; exact Int.mul_lt_mul_of_pos_right hlt hpp
  have hR := Q_pos (b := B) (by decide) m
  have hQ1 : Q B (m + 1) = Q B m * 18446744073709551616 := Q_succ ..
  have hQ2 : Q B (m + 2) = Q B m * 18446744073709551616 * 18446744073709551616 := by rw [show m + 2 = m + 1 + 1 from rfl, Q_succ, hQ1]
  have f1 : U * 2 ^ k / Q B (m + 2) % B = U * 2 ^ k / Q B (m + 2) := by
    refine Int.emod_eq_of_lt (Int.ediv_nonneg hu (by omega)) (Int.ediv_lt_of_lt_mul (by omega) ?_)
    show _ < 18446744073709551616 * _
    omega
  have f2 : V * 2 ^ k / Q B (m + 1) % B = V * 2 ^ k / Q B (m + 1) := by
    refine Int.emod_eq_of_lt (Int.ediv_nonneg (Int.mul_nonneg hV (by omega)) (by omega)) (Int.ediv_lt_of_lt_mul (by omega) ?_)
    show _ < 18446744073709551616 * _
    omega
  rw [f1, f2]
  rw [two_limbs hu (m + 1)]
  have hy0 : 0 ≤ V * 2 ^ k := Int.mul_nonneg hV (by omega)
  have t1 := two_limbs hy0 m
  have e0' : V * 2 ^ k / Q B m % 18446744073709551616 = shd ys m k := e0.symm
  rw [e0'] at t1
  generalize shd ys m k = w at *
  have g1 := Int.mul_ediv_add_emod (U * 2 ^ k) (Q B (m + 1))
  have g2 := Int.emod_nonneg (U * 2 ^ k) (show Q B (m + 1) ≠ 0 by omega)
  have g3 := Int.emod_lt_of_pos (U * 2 ^ k) (show 0 < Q B (m + 1) by omega)
  have g4 := Int.mul_ediv_add_emod (V * 2 ^ k) (Q B m)
  have g5 := Int.emod_nonneg (V * 2 ^ k) (show Q B m ≠ 0 by omega)
  have g6 := Int.emod_lt_of_pos (V * 2 ^ k) hR
  have g7 := Int.mul_ediv_add_emod (V * 2 ^ k) (Q B (m + 1))
  have g8 := Int.emod_lt_of_pos (V * 2 ^ k) (show 0 < Q B (m + 1) by omega)
  have g9 := Int.emod_nonneg (V * 2 ^ k) (show Q B (m + 1) ≠ 0 by omega)
  have hT := Int.ediv_nonneg hu (show 0 ≤ Q B (m + 1) by omega)
  rw [hQ1] at g1 g2 g3 g7 g8 g9 hT t1 ⊢
  rw [hQ2] at h1 h2
  rw [← t1, Int.mul_comm (Q B m)] at g4
  have hv : 9223372036854775808 ≤ V * 2 ^ k / (Q B m * 18446744073709551616) := by
    refine (Int.le_ediv_iff_mul_le (by omega)).2 ?_
    omega
  rw [Int.mul_comm (Q B m * 18446744073709551616), ← Int.mul_assoc] at g1
  have e := est_ok (u := U * 2 ^ k) (y := V * 2 ^ k) (T := U * 2 ^ k / (Q B m * 18446744073709551616)) (v := V * 2 ^ k / (Q B m * 18446744073709551616)) (w := w) (R := Q B m) hR hT hv hw.1 hw.2 (by omega) (by omega)
    (by rw [Int.add_mul, Int.mul_right_comm] at g4; omega) (by rw [Int.add_mul, Int.mul_right_comm] at g4; omega) hlt'
  generalize estD _ _ _ = d at *
  obtain ⟨e1, e2⟩ := e
  rw [← Int.mul_assoc] at e1 e2
  rw [← Int.add_mul] at e1
  exact ⟨Int.le_of_mul_le_mul_right e1 hpp, Int.lt_of_mul_lt_mul_right e2 (Int.le_of_lt hpp)⟩
/-- a row's limbs from place i on, of a row whose other limbs stay -/
theorem seg_eq {R R' : List Int} {i : Nat} {t : Int} (hlo : ∀ j, j < i → lim R' j = lim R j) (hv : val B R' = val B R + t * Q B i) : val B (R'.drop i) = val B (R.drop i) + t := by
  have hq := Q_pos (b := B) (by decide) i
  rw [val_split B R' i, val_split B R i, lo_congr B i hlo, Int.mul_comm t] at hv
  refine Int.eq_of_mul_eq_mul_left (Int.ne_of_gt hq) ?_
  rw [Int.mul_add]; omega
theorem seg_lt {R R' : List Int} {i m : Nat} (hd : Dg B R) (hd' : Dg B R') (h : val B (R.drop i) < Q B m) (hhi : ∀ j, i + m ≤ j → lim R' j = lim R j) : 0 ≤ val B (R'.drop i) ∧ val B (R'.drop i) < Q B m := by
  refine ⟨val_nonneg (by decide) (hd'.drop i), ?_⟩
  have e1 := (val_div (by decide) (hd.drop i) m).1
  rw [Int.ediv_eq_zero_of_lt (val_nonneg (by decide) (hd.drop i)) h, List.drop_drop] at e1
  have e2 : val B (R'.drop (i + m)) = val B (R.drop (i + m)) := val_of_lim' B (fun j => by rw [lim_drop, lim_drop]; exact hhi _ (by omega))
  rw [val_split B (R'.drop i) m, List.drop_drop, e2, ← e1, Int.mul_zero, Int.add_zero]
  exact (lo_lt (by decide) (hd'.drop i) m).2
/-- what holds when m rounds are over: the quotient's row so far, and what is left -/
structure LInv (V a : Int) (lq m : Nat) (qs R : List Int) : Prop where
  sum : val B qs * V + val B R = a
  low : val B (R.drop (lq - m)) < V
  zero : ∀ j, j < lq - m → lim qs j = 0
theorem LInv.part {V a : Int} {lq m : Nat} {qs R : List Int} (h : LInv V a lq m qs R) (hm : m < lq) (hd : Dg B R) : val B (R.drop (lq - 1 - m)) < 18446744073709551616 * V := by
  have hl := h.low
  have e : lq - m = lq - 1 - m + 1 := by omega
  rw [e] at hl
  have h1 := hd.lim (b := B) (by decide) (lq - 1 - m)
  have h2 : lim R (lq - 1 - m) < 18446744073709551616 := h1.2
  have h3 := val_split B (R.drop (lq - 1 - m)) 1
  rw [List.drop_drop, lo_succ, lo_zero, lim_drop, Q_zero, Nat.add_zero, show Q B 1 = 18446744073709551616 by unfold Q; rfl] at h3
  omega
theorem LInv.just {V a d : Int} {lq m n : Nat} {qs R R' : List Int} (h : LInv V a lq m qs R) (hm : m < lq) (hl : lq - 1 - m < qs.length) (hd : Dg B R) (hd' : Dg B R') (hV : V < Q B n)
    (hq1 : val B (R.drop (lq - 1 - m)) < (d + 1) * V) (hlo : ∀ j, j < lq - 1 - m → lim R' j = lim R j)
    (hv : val B R' = val B R - V * d * Q B (lq - 1 - m)) : LInv V a lq (m + 1) (qs.set (lq - 1 - m) d) R' := by
  have hp := h.part hm hd
  have hs := seg_eq (t := -(V * d)) hlo (by rw [hv, Int.neg_mul]; omega)
  refine ⟨?_, ?_, fun j hj => ?_⟩
  · rw [val_set B qs _ _ hl, h.zero _ (by omega), Int.sub_zero, Int.add_mul, hv, ← h.sum, Int.mul_right_comm d, Int.mul_comm V d]; omega
  · rw [show lq - (m + 1) = lq - 1 - m by omega, hs]
    rw [Int.add_mul, Int.one_mul, Int.mul_comm d] at hq1
    omega
  · rw [lim_set _ _ _ _ hl, if_neg (by omega)]; exact h.zero j (by omega)
theorem LInv.less {V a d c : Int} {lq m n : Nat} {qs R R' R2 : List Int} (h : LInv V a lq m qs R) (hm : m < lq) (hl : lq - 1 - m < qs.length) (hd : Dg B R) (hd' : Dg B R') (hd2 : Dg B R2) (hV : V < Q B n)
    (hq1 : d * V ≤ val B (R.drop (lq - 1 - m)) + V) (hq2 : val B (R.drop (lq - 1 - m)) < (d + 1) * V)
    (hlo : ∀ j, j < lq - 1 - m → lim R' j = lim R j) (hhi : ∀ j, lq - 1 - m + (n + 1) ≤ j → lim R' j = lim R j)
    (hlo2 : ∀ j, j < lq - 1 - m → lim R2 j = lim R' j) (hhi2 : ∀ j, lq - 1 - m + (n + 1) ≤ j → lim R2 j = lim R' j)
    (hv : val B R' = val B R - V * d * Q B (lq - 1 - m) + Q B (lq - 1 - m + (n + 1)))
    (hc : c = 0 ∨ c = 1) (hv2 : val B R2 = val B R' + V * Q B (lq - 1 - m) - c * Q B (lq - 1 - m + (n + 1))) : LInv V a lq (m + 1) ((qs.set (lq - 1 - m) d).set (lq - 1 - m) (d - 1)) R2 := by
  have hp := h.part hm hd
  rw [List.set_set]
  generalize hi : lq - 1 - m = i at *
  have hQ : Q B (i + (n + 1)) = Q B (n + 1) * Q B i := by rw [Q_add, Int.mul_comm]
  have hQn : Q B (n + 1) = Q B n * 18446744073709551616 := Q_succ ..
  have hs := seg_eq (t := -(V * d) + Q B (n + 1)) hlo (by rw [hv, hQ, Int.add_mul, Int.neg_mul]; omega)
  have hs2 := seg_eq (t := V - c * Q B (n + 1)) hlo2 (by rw [hv2, hQ, Int.sub_mul, Int.mul_assoc c]; omega)
  have hlt := seg_lt (m := n + 1) hd hd' (by omega) hhi
  have hlt2 := seg_lt (m := n + 1) hd' hd2 hlt.2 hhi2
  rw [Int.add_mul, Int.one_mul, Int.mul_comm d] at hq2
  rw [Int.mul_comm d] at hq1
  have hc1 : c = 1 := by
    rcases hc with hc | hc
    · subst hc; omega
    · exact hc
  subst hc1
  refine ⟨?_, ?_, fun j hj => ?_⟩
  · rw [val_set B qs _ _ hl, h.zero _ (by omega), Int.sub_zero, Int.add_mul, hv2, hv, ← h.sum, Int.sub_mul, Int.sub_mul, Int.one_mul, Int.one_mul, Int.mul_right_comm d, Int.mul_comm V d, Int.mul_comm (Q B i) V]; omega
  · rw [show lq - (m + 1) = i by omega, hs2, hs]
    omega
  · rw [lim_set _ _ _ _ hl, if_neg (by omega)]; exact h.zero j (by omega)
theorem LInv.done {V a : Int} {lq : Nat} {qs R : List Int} (h : LInv V a lq lq qs R) (hd : Dg B R) : val B qs = a / V ∧ val B R = a % V := by
  have h1 := h.low
  rw [Nat.sub_self, List.drop_zero] at h1
  have h0 := val_nonneg (b := B) (by decide) hd
  have hs := h.sum
  have hV : 0 < V := by omega
  rw [← hs, Int.add_comm]
  constructor
  · rw [Int.add_mul_ediv_right _ _ (by omega), Int.ediv_eq_zero_of_lt h0 h1]; omega
  · rw [Int.add_mul_emod_self_right, Int.emod_eq_of_lt h0 h1]
theorem LInv.start {V a : Int} {lq n : Nat} {xs : List Int} (hx : Dg B xs) (ha : val B xs = a) (hl : xs.length = lq + n - 1) (hn : 1 ≤ n) (hV : Q B (n - 1) ≤ V) : LInv V a lq 0 (List.replicate lq 0) (xs ++ [0]) := by
  refine ⟨?_, ?_, fun j _ => lim_zeros _ _⟩
  · rw [val_zeros, Int.zero_mul, val_append, ha]; simp [val]
  · have e : (xs ++ [0]).drop (lq - 0) = xs.drop lq ++ [0] := by rw [Nat.sub_zero, List.drop_append_of_le_length (by omega)]
    rw [e, val_append]
    simp only [val, Int.mul_zero, Int.add_zero]
    have := val_lt (b := B) (by decide) (hx.drop lq)
    rw [List.length_drop, hl, show lq + n - 1 - lq = n - 1 by omega] at this
    omega
theorem top_le {ys : List Int} {n : Nat} (hy : Dg B ys) (hn : nn ys = n) (h0 : 0 < n) : Q B (n - 1) ≤ val B ys := by
  subst hn
  have ht := nn_top ys h0
  have hg := hy.lim (b := B) (by decide) (nn ys - 1)
  rw [val_top B ys h0]
  have hl := lo_lt (by decide) hy (nn ys - 1)
  have hq := Q_pos (b := B) (by decide) (nn ys - 1)
  have : 1 * Q B (nn ys - 1) ≤ lim ys (nn ys - 1) * Q B (nn ys - 1) := Int.mul_le_mul_of_nonneg_right (by omega) (by omega)
  omega
end N
end Go.Proofs.YtfdpddlefobcpaaGreatDoor
/- What math/bits.Div64 and the program's Div answer: contracts over this translation. -/
namespace Go.Proofs.YtfdpddlefobcpaaGreatDoor
open Go.RowKit
set_option linter.unusedVariables false
set_option maxRecDepth 20000
theorem bitLen_lenN (n : Nat) (h : n < 18446744073709551616) (h0 : n ≠ 0) : Lib.bitLen n = W.lenN n := by
  have g := Lib.bitLenAux_bounds 64 n (by omega) h0
  exact (W.lenN_of n _ g.2.2 (Or.inr g.2.1)).symm
theorem lz_any (y : Int) (s : Nat) (h0 : 0 < y) (hy : y < 18446744073709551616) (hs : W.len y = 64 - s) (w : World) :
    Calls Tryz.prog 161 #[.int .u64 y] w fun e w' => e = .returned (.int .i64 (s : Int)) ∧ w' = w := by
  obtain ⟨n, rfl⟩ := Int.eq_ofNat_of_zero_le (Int.le_of_lt h0)
  refine (Tryz.bits_LeadingZeros64 n w (by omega) (by omega)).mono fun e w' ⟨h1, h2⟩ => ⟨?_, h2⟩
  rw [h1, Int.toNat_natCast, bitLen_lenN n (by omega) (by omega)]
  unfold W.len at hs
  rw [Int.toNat_natCast] at hs
  exact ret1 (by omega)
set_option maxHeartbeats 1000000 in
theorem div64_low (l d : Int) (hl : W.Wd l) (hd : W.Wd d) (h : 0 < d) (w : World) :
    Calls Tryz.prog 157 #[.int .u64 0, .int .u64 l, .int .u64 d] w fun e w' => e = .returned (.tuple #[.int .u64 (W.divQ 0 l d), .int .u64 (W.divR 0 l d)]) ∧ ∃ k, w' = w.drewN k := by
  obtain ⟨l0, l1⟩ := hl
  obtain ⟨d0, d1⟩ := hd
  have e1 : (d == 0) = false := by rw [beq_eq_false_iff_ne]; omega
  have hq := W.div_le' l d l0 h
  go_enter Tryz.func157, Tryz.ntmps157
  go_wp2
  go_quiet (fail)
  go_wp2
  go_ret2
  refine ⟨ret2 ?_ ?_, _, rfl⟩
  · unfold W.divQ; simp
  · unfold W.divR; simp
set_option maxHeartbeats 1000000 in
theorem div64_high (h l d : Int) (hh : W.Wd h) (hl : W.Wd l) (hd : W.Wd d) (hlt : h < d) (h0 : 0 < h) (w : World) :
    Calls Tryz.prog 157 #[.int .u64 h, .int .u64 l, .int .u64 d] w fun e w' => e = .returned (.tuple #[.int .u64 (W.divQ h l d), .int .u64 (W.divR h l d)]) ∧ ∃ k, w' = w.drewN k := by
  obtain ⟨l0, l1⟩ := id hl
  obtain ⟨d0, d1⟩ := hd
  obtain ⟨_, h1⟩ := hh
  obtain ⟨s, hs, hs63, hn0, hn1⟩ := W.d_norm (y := d) (by omega) d1
  have HS := Lib.hid hs
  clear hs
  have HF := W.d_shift (hi := h) (lo := l) (y := d) hs63 (by omega) hl hlt hn1
  have e1 : (d == 0) = false := by rw [beq_eq_false_iff_ne]; omega
  have e2 : (h == 0) = false := by rw [beq_eq_false_iff_ne]; omega
  obtain ⟨Y, eY⟩ : ∃ Y, d * 2 ^ s = Y := ⟨_, rfl⟩
  rw [eY] at hn0 hn1 HF
  obtain ⟨f1, f2, f3, ⟨x, z, f4, f4', f4''⟩, f5, f6⟩ := HF
  have eU0 : bits .or .u64 (h * 2 ^ s) (l / 2 ^ (64 - s)) = h * 2 ^ s + l / 2 ^ (64 - s) := by
    rw [f4, f4'] at f5 ⊢
    rw [f4] at f2
    rw [bits_or_u64_nat _ _ (by omega) (by omega), Nat.or_comm, W.nat_or _ _ _ f4'']
    rfl
  obtain ⟨U, eU⟩ : ∃ U, h * 2 ^ s + l / 2 ^ (64 - s) = U := ⟨_, rfl⟩
  rw [eU] at eU0 f5 f6
  have hU0 : 0 ≤ U := by omega
  clear f4 f4' f4'' x z
  obtain ⟨Z, eZ⟩ : ∃ Z, l * 2 ^ s % 18446744073709551616 = Z := ⟨_, rfl⟩
  rw [eZ] at f6
  have hZ0 : 0 ≤ Z := by omega
  have hZ1 : Z < 18446744073709551616 := by omega
  have eZ' : IntKind.u64.wrap (l * 2 ^ s) = Z := by rw [IntKind.wrap_u64]; exact eZ
  obtain ⟨y1, eY1⟩ : ∃ y, Y / 4294967296 = y := ⟨_, rfl⟩
  obtain ⟨y0, eY0⟩ : ∃ y, Y % 4294967296 = y := ⟨_, rfl⟩
  obtain ⟨z1, eZ1⟩ : ∃ y, Z / 4294967296 = y := ⟨_, rfl⟩
  obtain ⟨z0, eZ0⟩ : ∃ y, Z % 4294967296 = y := ⟨_, rfl⟩
  have eYa : bits .and .u64 Y 4294967295 = y0 := by rw [and_low32 Y (by omega) hn1]; exact eY0
  have eZa : bits .and .u64 Z 4294967295 = z0 := by rw [and_low32 Z hZ0 hZ1]; exact eZ0
  have hy1 : 2147483648 ≤ y1 ∧ y1 < 4294967296 := by omega
  have hy0 : 0 ≤ y0 ∧ y0 < 4294967296 := by omega
  have hz1 : 0 ≤ z1 ∧ z1 < 4294967296 := by omega
  have hz0 : 0 ≤ z0 ∧ z0 < 4294967296 := by omega
  have eYs : Y = y1 * 4294967296 + y0 := by omega
  have hq := W.div_le' U y1 hU0 (by omega)
  have hqm : 0 ≤ U / y1 * y1 ∧ U / y1 * y1 ≤ U := ⟨Int.mul_nonneg hq.1 (by omega), Int.ediv_mul_le U (by omega)⟩
  -- the first guess is not too low
  obtain ⟨Q1, eQ1⟩ : ∃ Q, Q = (U * 4294967296 + z1) / (y1 * 4294967296 + y0) := ⟨_, rfl⟩
  have gs1 := W.d_start hU0 hz1.1 hz1.2 hy1.1 hy0.1 (by omega) eQ1
  have EQ1 := Lib.hid eQ1; clear eQ1
  have EYs := Lib.hid eYs; clear eYs
  have F6 := Lib.hid f6; clear f6
  have EZ := Lib.hid eZ; clear eZ
  have EY0 := Lib.hid eY0; clear eY0
  have EZ0 := Lib.hid eZ0; clear eZ0
  have GM : Hid (U / y1 * y1 + (U - U / y1 * y1) = U) := Lib.hid (by omega)
  have GR : 0 ≤ U - U / y1 * y1 ∧ U - U / y1 * y1 < 4294967296 := by
    have a := Int.mul_ediv_add_emod U y1
    have b := Int.emod_lt_of_pos U (show 0 < y1 by omega)
    have c := Int.emod_nonneg U (show y1 ≠ 0 by omega)
    rw [Int.mul_comm] at a
    omega
  go_enter Tryz.func157, Tryz.ntmps157
  go_upto_block 0 with (go_at_call 161; refine (lz_any d s (by omega) d1 HS.out _).mono ?_; rintro e w' ⟨rfl, rfl⟩)
  go_cut [15] (fun q wx => q = .int .u64 Q1 ∧ w' = wx)
  case first =>
    clear eY eU0 eU eZ' eY1 eZ1 eYa eZa f1 f2 f3 hl hlt h0 l0 l1 d0 d1 h1 e1 e2
    go_wp2
    go_loop [15, 16] (fun v u => ∃ q r : Int, v = .int .u64 q ∧ u = .int .u64 r ∧ 0 ≤ r ∧ r < 4294967296 ∧ Q1 ≤ q ∧ q < 18446744073709551616 ∧ Hid (q * y1 + r = U)) (fun _ u => (4294967296 - intOf u).toNat)
    case atStart => exact ⟨_, _, rfl, rfl, GR.1, GR.2, gs1.1, by omega, GM⟩
    case round =>
      obtain ⟨q, r, rfl, rfl, hr0, hr1, hq0, hq1, HE⟩ := hrel
      have hQ0 := gs1.2.1
      by_cases hK : 4294967296 ≤ q
      · by_cases hB : 4294967296 ≤ r + y1
        · go_wp2
          go_meet
          case rel => exact ⟨congrArg _ (W.d_break hz1.1 hy1.1 hy0.1 hy0.2 EQ1.out (by rw [Int.sub_mul, Int.one_mul]; have := HE.out; omega) hQ0 (by omega) (by have := EYs.out; omega) hB), rfl⟩
        · go_wp2
          go_round
          case rel => exact ⟨q - 1, r + y1, rfl, rfl, by omega, by omega, by omega, by omega, Lib.hid (by rw [Int.sub_mul, Int.one_mul]; have := HE.out; omega)⟩
          case measure => simp [intOf]; omega
      · have hp := W.d_small (q := q) (by omega) (by omega) hy0.1 hy0.2
        by_cases hT : 4294967296 * r + z1 < q * y0
        · have hD := W.d_down hy1.1 hy0.1 EQ1.out HE.out hT
          by_cases hB : 4294967296 ≤ r + y1
          · go_wp2
            go_meet
            case rel => exact ⟨congrArg _ (W.d_break hz1.1 hy1.1 hy0.1 hy0.2 EQ1.out (by rw [Int.sub_mul, Int.one_mul]; have := HE.out; omega) hQ0 hD (by have := EYs.out; omega) hB), rfl⟩
          · go_wp2
            go_round
            case rel => exact ⟨q - 1, r + y1, rfl, rfl, by omega, by omega, hD, by omega, Lib.hid (by rw [Int.sub_mul, Int.one_mul]; have := HE.out; omega)⟩
            case measure => simp [intOf]; omega
        · have HD := Lib.hid (W.d_stop hy1.1 hy0.1 EQ1.out HE.out hq0 (by omega))
          go_wp2
          go_meet
          case rel => exact ⟨congrArg _ HD.out, rfl⟩
  case rest =>
    obtain ⟨rfl, rfl⟩ := hcut
    have hY := EYs.out
    obtain ⟨R1, eR1⟩ : ∃ R, U * 4294967296 + z1 - Q1 * Y = R := ⟨_, rfl⟩
    have gr := W.d_rest (u := U) (v := z1) (Y := Y) (Q := Q1) (by omega) (by rw [hY]; exact EQ1.out)
    rw [eR1] at gr
    have hR0 := gr.2.1
    have hR1 := gr.2.2
    clear gr
    have eR1w : IntKind.u64.wrap (IntKind.u64.wrap (IntKind.u64.wrap (U * 4294967296) + z1) - IntKind.u64.wrap (Q1 * Y)) = R1 := by
      simp only [IntKind.wrap_u64]
      generalize Q1 * Y = A at *
      omega
    have ER1 := Lib.hid eR1; clear eR1
    have hq' := W.div_le' R1 y1 hR0 (by omega)
    have hqm' : 0 ≤ R1 / y1 * y1 ∧ R1 / y1 * y1 ≤ R1 := ⟨Int.mul_nonneg hq'.1 (by omega), Int.ediv_mul_le R1 (by omega)⟩
    obtain ⟨Q0, eQ0⟩ : ∃ Q, Q = (R1 * 4294967296 + z0) / (y1 * 4294967296 + y0) := ⟨_, rfl⟩
    have gs0 := W.d_start hR0 hz0.1 hz0.2 hy1.1 hy0.1 (by omega) eQ0
    have EQ0 := Lib.hid eQ0; clear eQ0
    have GM2 : Hid (R1 / y1 * y1 + (R1 - R1 / y1 * y1) = R1) := Lib.hid (by omega)
    have GR2 : 0 ≤ R1 - R1 / y1 * y1 ∧ R1 - R1 / y1 * y1 < 4294967296 := by
      have a := Int.mul_ediv_add_emod R1 y1
      have b := Int.emod_lt_of_pos R1 (show 0 < y1 by omega)
      have c := Int.emod_nonneg R1 (show y1 ≠ 0 by omega)
      rw [Int.mul_comm] at a
      omega
    clear hY
    go_upto_block 2 with (fail)
    go_cut [18] (fun q wx => q = .int .u64 Q0 ∧ w' = wx)
    case first =>
      clear eY eU0 eU eZ' eY1 eZ1 eYa eZa f1 f2 f3 hl hlt h0 l0 l1 d0 d1 h1 e1 e2 eR1w
      go_wp2
      go_loop [18, 16] (fun v u => ∃ q r : Int, v = .int .u64 q ∧ u = .int .u64 r ∧ 0 ≤ r ∧ r < 4294967296 ∧ Q0 ≤ q ∧ q < 18446744073709551616 ∧ Hid (q * y1 + r = R1)) (fun _ u => (4294967296 - intOf u).toNat)
      case atStart => exact ⟨_, _, rfl, rfl, GR2.1, GR2.2, gs0.1, by omega, GM2⟩
      case round =>
        obtain ⟨q, r, rfl, rfl, hr0, hr1, hq0, hq1, HE⟩ := hrel
        have hQ0 := gs0.2.1
        by_cases hK : 4294967296 ≤ q
        · by_cases hB : 4294967296 ≤ r + y1
          · go_wp2
            go_meet
            case rel => exact ⟨congrArg _ (W.d_break hz0.1 hy1.1 hy0.1 hy0.2 EQ0.out (by rw [Int.sub_mul, Int.one_mul]; have := HE.out; omega) hQ0 (by omega) (by have := EYs.out; omega) hB), rfl⟩
          · go_wp2
            go_round
            case rel => exact ⟨q - 1, r + y1, rfl, rfl, by omega, by omega, by omega, by omega, Lib.hid (by rw [Int.sub_mul, Int.one_mul]; have := HE.out; omega)⟩
            case measure => simp [intOf]; omega
        · have hp := W.d_small (q := q) (by omega) (by omega) hy0.1 hy0.2
          by_cases hT : 4294967296 * r + z0 < q * y0
          · have hD := W.d_down hy1.1 hy0.1 EQ0.out HE.out hT
            by_cases hB : 4294967296 ≤ r + y1
            · go_wp2
              go_meet
              case rel => exact ⟨congrArg _ (W.d_break hz0.1 hy1.1 hy0.1 hy0.2 EQ0.out (by rw [Int.sub_mul, Int.one_mul]; have := HE.out; omega) hQ0 hD (by have := EYs.out; omega) hB), rfl⟩
            · go_wp2
              go_round
              case rel => exact ⟨q - 1, r + y1, rfl, rfl, by omega, by omega, hD, by omega, Lib.hid (by rw [Int.sub_mul, Int.one_mul]; have := HE.out; omega)⟩
              case measure => simp [intOf]; omega
          · have HD := Lib.hid (W.d_stop hy1.1 hy0.1 EQ0.out HE.out hq0 (by omega))
            go_wp2
            go_meet
            case rel => exact ⟨congrArg _ HD.out, rfl⟩
    case rest =>
      obtain ⟨rfl, rfl⟩ := hcut
      have hY := EYs.out
      have gr := W.d_rest (u := R1) (v := z0) (Y := Y) (Q := Q0) (by omega) (by rw [hY]; exact EQ0.out)
      clear hY
      obtain ⟨R0, eR0⟩ : ∃ R, R1 * 4294967296 + z0 - Q0 * Y = R := ⟨_, rfl⟩
      rw [eR0] at gr
      have hr0 := gr.2.1
      have hr1 := gr.2.2
      clear gr
      have eR0w : IntKind.u64.wrap (IntKind.u64.wrap (IntKind.u64.wrap (R1 * 4294967296) + z0) - IntKind.u64.wrap (Q0 * Y)) = R0 := by
        simp only [IntKind.wrap_u64]
        generalize Q0 * Y = A at *
        omega
      have ER0 := Lib.hid eR0; clear eR0
      have hfin : Hid (Q1 * 4294967296 + Q0 = (h * 18446744073709551616 + l) / d ∧ R0 / 2 ^ s = (h * 18446744073709551616 + l) % d) := Lib.hid (by
        have g1 := ER1.out
        have g0 := ER0.out
        rw [← eY] at g1 g0
        refine W.d_all (by omega) (W.pow_pos s) ?_ g1 g0 hr0 (by rw [eY]; exact hr1)
        rw [F6.out]
        have := EZ0.out
        omega)
      go_wp2
      go_ret2
      exact ⟨ret2 hfin.out.1 hfin.out.2, 0, rfl⟩
theorem div64_any (h l d : Int) (hh : W.Wd h) (hl : W.Wd l) (hd : W.Wd d) (hlt : h < d) (w : World) :
    Calls Tryz.prog 157 #[.int .u64 h, .int .u64 l, .int .u64 d] w fun e w' => e = .returned (.tuple #[.int .u64 (W.divQ h l d), .int .u64 (W.divR h l d)]) ∧ ∃ k, w' = w.drewN k := by
  by_cases h0 : h = 0
  · subst h0; exact div64_low l d hl hd hlt w
  · exact div64_high h l d hh hl hd hlt (by unfold W.Wd at hh; omega) w
theorem div_zero (h l : Int) (hh : W.Wd h) (hl : W.Wd l) (w : World) :
    Calls Tryz.prog 144 #[.int .u64 h, .int .u64 l, .int .u64 0] w fun e w' => e = .returned (.tuple #[.int .u64 0, .int .u64 0, .int .i64 7]) ∧ w' = w := by
  go_enter Tryz.func144, Tryz.ntmps144
  go_wp2
  go_ret3
  exact ⟨rfl, rfl⟩
theorem div_long (h l d : Int) (hh : W.Wd h) (hl : W.Wd l) (hd : W.Wd d) (h0 : 0 < d) (hle : d ≤ h) (w : World) :
    Calls Tryz.prog 144 #[.int .u64 h, .int .u64 l, .int .u64 d] w fun e w' => e = .returned (.tuple #[.int .u64 0, .int .u64 0, .int .i64 5]) ∧ w' = w := by
  have e1 : (d == 0) = false := by rw [beq_eq_false_iff_ne]; omega
  go_enter Tryz.func144, Tryz.ntmps144
  go_wp2
  go_ret3
  exact ⟨rfl, rfl⟩
theorem div_any (h l d : Int) (hh : W.Wd h) (hl : W.Wd l) (hd : W.Wd d) (hlt : h < d) (w : World) :
    Calls Tryz.prog 144 #[.int .u64 h, .int .u64 l, .int .u64 d] w fun e w' => e = .returned (.tuple #[.int .u64 (W.divQ h l d), .int .u64 (W.divR h l d), .int .i64 0]) ∧ ∃ k, w' = w.drewN k := by
  have h0 : 0 ≤ h := hh.1
  have e1 : (d == 0) = false := by rw [beq_eq_false_iff_ne]; omega
  go_enter Tryz.func144, Tryz.ntmps144
  go_wp2_with (go_at_call 157; refine (div64_any h l d hh hl hd hlt _).mono ?_; rintro e w' ⟨rfl, k, rfl⟩)
  go_ret3
  exact ⟨rfl, _, rfl⟩
end Go.Proofs.YtfdpddlefobcpaaGreatDoor
/- What bare, shifted, frontOf and estimate of layer 3 answer, over this translation. -/
namespace Go.Proofs.YtfdpddlefobcpaaGreatDoor
open Go.RowKit
set_option linter.unusedVariables false
set_option maxRecDepth 20000
open N
namespace N
theorem bdn {B : Nat} {a w : World} (h : Below B a w) (n : Nat) : Below B a (w.drewN n) := h.trans ⟨rfl, rfl, rfl, Nat.le_refl _, fun _ _ => rfl⟩
theorem limbs_count {xs : List Int} (h : Dg B xs) : (W.len (val B xs) + 64 - 1) / 64 = (nn xs : Int) ∧ 0 ≤ W.len (val B xs) ∧ W.len (val B xs) ≤ 64 * (nn xs : Int) := by
  by_cases h0 : nn xs = 0
  · rw [(nn_zero_iff h).1 h0, len_0, h0]; decide
  · rw [len_top h (by omega)]
    have hg := h.lim (b := B) (by decide) (nn xs - 1)
    have hx : lim xs (nn xs - 1) < 18446744073709551616 := hg.2
    have ht := nn_top xs (by omega)
    obtain ⟨j, e1, e2, e3⟩ := len_spec _ hg.1
    have hj : j ≤ 64 := by
      apply Classical.byContradiction; intro hc
      have e4 : 2 ^ (j - 1) ≤ lim xs (nn xs - 1) := by rcases e3 with e3 | e3; omega; exact e3
      have e5 : (2 : Int) ^ 64 ≤ 2 ^ (j - 1) := by rw [← W.cast_pow, ← W.cast_pow]; exact Int.ofNat_le.2 (Nat.pow_le_pow_right (by omega) (by omega))
      have : (2 : Int) ^ 64 = 18446744073709551616 := by decide
      omega
    have hj0 : j ≠ 0 := by rintro rfl; simp at e2; omega
    rw [e1]; omega
end N
theorem qbare_any (w : World) (A : Option Addr) (n c : Nat) (xs : List Int) (h : Sl w A n c xs) (hn : n ≤ 1099511627776) :
    Calls Tryz.prog 125 #[.slice A n c] w fun e w' => e = .returned (.slice A (nn xs) c) ∧ w' = w := by
  have hl := h.len
  have hc := h.cap
  have hm := h.max
  have hnn := nn_le xs
  rw [hl] at hnn
  unfold maxLen at hm
  obtain ⟨h1, h2, h3⟩ := limbs_count h.dg
  have H1 := Lib.hid h1
  have HL := Lib.hid hl
  clear hl h1
  generalize hL : W.len (val B xs) = L at *
  have HLe := Lib.hid hL
  clear hL
  have e1 : ((L + 64 - 1) / 64).toNat = nn xs := by have := H1.out; omega
  have e2 : 0 ≤ (L + 64 - 1) / 64 := by omega
  have e3 : (L + 64 - 1) / 64 ≤ c := by have := H1.out; omega
  go_enter Tryz.func125, Tryz.ntmps125
  go_wp2_with (go_at_call 140; refine (nlen_any _ _ _ _ xs h hn).mono ?_; rw [HLe.out]; rintro e w' ⟨rfl, rfl⟩)
  go_ret
  exact ⟨rfl, rfl⟩
theorem shifted_any (w : World) (A : Option Addr) (n c : Nat) (xs : List Int) (h : Sl w A n c xs) (i : Nat) (hi : i < n) (k : Int) (h0 : 0 ≤ k) (h1 : k ≤ 64) :
    Calls Tryz.prog 158 #[.slice A n c, .int .i64 i, .int .i64 k] w fun e w' => e = .returned (.int .u64 (shd xs i k)) ∧ ∃ q, w' = w.drewN q := by
  have hl := h.len
  have hc := h.cap
  have hm := h.max
  unfold maxLen at hm
  obtain ⟨ad, rfl, _, hcell⟩ := h.cell hi
  have hx : W.Wd (lim xs i) := h.dg.lim (by decide) i
  have HL := Lib.hid hl
  clear hl
  have HB : Hid (shd xs i k = W.shr (lim xs i) (bel xs i) (64 - k)) := Lib.hid rfl
  by_cases h2 : 0 < i
  · obtain ⟨ad', e, _, hcell2⟩ := h.cell (k := i - 1) (by omega)
    cases e
    have hy : W.Wd (lim xs (i - 1)) := h.dg.lim (by decide) _
    have e1 : ((i : Int) - 1).toNat = i - 1 := by omega
    have HE := Lib.hid (show bel xs i = lim xs (i - 1) by have := bel_succ xs (i - 1); rwa [show i - 1 + 1 = i by omega] at this)
    rw [HE.out] at HB
    go_enter Tryz.func158, Tryz.ntmps158
    go_wp2_with (go_at_call 162; refine (shr_yes _ _ _ hx hy (by omega) (by omega) _).mono ?_; rintro e w' ⟨rfl, q, rfl⟩)
    go_ret
    refine ⟨?_, _, rfl⟩
    rw [HB.out]
    rfl
  · have HE := Lib.hid (show bel xs i = 0 by rw [show i = 0 by omega]; exact bel_zero xs)
    rw [HE.out] at HB
    have h2 : i ≤ 0 := by omega
    go_enter Tryz.func158, Tryz.ntmps158
    go_wp2_with (go_at_call 162; refine (shr_yes _ _ _ hx W.wd_0 (by omega) (by omega) _).mono ?_; rintro e w' ⟨rfl, q, rfl⟩)
    go_ret
    refine ⟨?_, _, rfl⟩
    rw [HB.out]
    rfl
theorem frontOf_len (w : World) (A : Option Addr) (n c : Nat) (xs : List Int) (h : Sl w A n c xs) (hn : 2 ≤ n) (k L : Int) (hb : W.len (lim xs (n - 1)) = L) (hk : 64 - L = k) (h0 : 0 ≤ L) (h1 : L ≤ 64) :
    Calls Tryz.prog 145 #[.slice A n c] w fun e w' => e = .returned (.agg #[.int .i64 k, .int .u64 (shd xs (n - 1) k), .int .u64 (shd xs (n - 2) k)]) ∧ Below w.heap.size w w' := by
  have hl := h.len
  have hc := h.cap
  have hm := h.max
  unfold maxLen at hm
  obtain ⟨ad, rfl, hlt, hcell⟩ := h.cell (k := n - 1) (by omega)
  have hx : W.Wd (lim xs (n - 1)) := h.dg.lim (by decide) _
  have HL := Lib.hid hl
  clear hl
  have e1 : ((n : Int) - 1).toNat = n - 1 := by omega
  have E1 := Lib.hid (show ((n : Int) - 1) = ((n - 1 : Nat) : Int) by omega)
  have E2 := Lib.hid (show ((n : Int) - 2) = ((n - 2 : Nat) : Int) by omega)
  subst hk
  have HB := Lib.hid hb
  clear hb
  have hsh : ∀ (W : World) (i : Nat), Sl W (some ad) n c xs → i < n → ∀ j : Int, j = (i : Int) → Calls Tryz.prog 158 #[.slice (some ad) n c, .int .i64 j, .int .i64 (64 - L)] W fun e w' => e = .returned (.int .u64 (shd xs i (64 - L))) ∧ ∃ q, w' = W.drewN q := by
    rintro W i hW hi j rfl
    exact shifted_any W _ n c xs hW i hi (64 - L) (by omega) (by omega)
  have HS := Lib.hid hsh
  clear hsh
  have hA : ∀ o q, Sl ((w.alloc o).drewN q) (some ad) n c xs := fun o q => (h.below ((Below.refl _ w).alloc (Nat.le_refl _) o)).drewN q
  have HA := Lib.hid hA
  have HA0 : Hid (∀ o, Sl (w.alloc o) (some ad) n c xs) := Lib.hid fun o => h.below ((Below.refl _ w).alloc (Nat.le_refl _) o)
  clear hA
  have hcell1 : ∀ o, (w.alloc o).cell? (ad.add (n - 1)) = some (.int .u64 (lim xs (n - 1))) := fun o => by rw [((Below.refl _ w).alloc (Nat.le_refl _) o).cell (by rw [add_block]; exact hlt)]; exact hcell
  clear hcell
  go_enter Tryz.func145, Tryz.ntmps145
  go_wp2_with (first
    | (go_at_call 75; refine (len_any _ hx _).mono ?_; rw [HB.out]; rintro e w' ⟨rfl, rfl⟩)
    | (go_at_call 158; (with_reducible refine (HS.out _ (n - 1) (HA0.out _) (by omega) ((n : Int) - 1) (by omega)).mono ?_); rintro e w' ⟨rfl, q, rfl⟩)
    | (go_at_call 158; (with_reducible refine (HS.out _ (n - 2) (HA.out _ _) (by omega) ((n : Int) - 2) (by omega)).mono ?_); rintro e w' ⟨rfl, q2, rfl⟩))
  refine bodyPost_ret (v := .agg #[.int .i64 (64 - L), .int .u64 (shd xs (n - 1) (64 - L)), .int .u64 (shd xs (n - 2) (64 - L))]) (by simp [results, Tryz.f145, go_sem]) rfl ⟨rfl, ?_⟩
  exact ((((bdn ((Below.refl _ w).alloc (Nat.le_refl _) _) _).setCell (by simp) _).setCell (by simp) _).setCell (by simp) _)
set_option maxRecDepth 100000 in
theorem estimate_any (w : World) (A : Option Addr) (n c : Nat) (xs : List Int) (h : Sl w A (n + 1) c xs) (hn : 1 ≤ n) (k v u : Int) (h0 : 0 ≤ k) (h1 : k ≤ 64) (hv : W.Wd v) (hu : W.Wd u) (hv0 : 0 < v) :
    Calls Tryz.prog 146 #[.agg #[.int .i64 k, .int .u64 v, .int .u64 u], .slice A (n + 1) c] w fun e w' =>
      e = .returned (.int .u64 (estD (shd xs n k * 18446744073709551616 + shd xs (n - 1) k) v u)) ∧ Below w.heap.size w w' := by
  have hl := h.len
  have hc := h.cap
  have hm := h.max
  unfold maxLen at hm
  have HL := Lib.hid hl
  clear hl
  have hsh : ∀ (W : World) (i : Nat), Sl W A (n + 1) c xs → i < n + 1 → ∀ j : Int, j = (i : Int) → Calls Tryz.prog 158 #[.slice A (n + 1) c, .int .i64 j, .int .i64 k] W fun e w' => e = .returned (.int .u64 (shd xs i k)) ∧ ∃ q, w' = W.drewN q := by
    rintro W i hW hi j rfl
    exact shifted_any W _ (n + 1) c xs hW i hi k h0 h1
  have HS := Lib.hid hsh
  clear hsh
  have hA : ∀ o q, Sl ((w.alloc o).drewN q) A (n + 1) c xs := fun o q => (h.below ((Below.refl _ w).alloc (Nat.le_refl _) o)).drewN q
  have HA := Lib.hid hA
  clear hA
  have w1 := wd_shd xs n k
  have w0 := wd_shd xs (n - 1) k
  have e1 : (((n + 1 : Nat) : Int) - 1) = (n : Int) := by omega
  by_cases ht : v ≤ shd xs n k
  · have HE := Lib.hid (estD_top (T := shd xs n k * 18446744073709551616 + shd xs (n - 1) k) (w := u) (by unfold W.Wd at *; omega : v ≤ _))
    go_enter Tryz.func146, Tryz.ntmps146
    go_wp2
    go_quiet (first
      | (go_at_call 158; with_reducible exact Calls.quiet_of (HS.out _ n (HA.out _ _) (by omega) (n : Int) rfl))
      | (go_at_call 158; with_reducible exact Calls.quiet_of (HS.out _ (n - 1) (HA.out _ _) (by omega) ((n : Int) - 1) (by omega)))
      | (go_at_call 144; exact Calls.quiet_of_same (div_long _ _ _ w1 w0 hv hv0 ht _)))
    go_wp2
    go_ret
    exact ⟨by rw [HE.out]; rfl, bdn ((Below.refl _ w).alloc (Nat.le_refl _) _) _⟩
  · have hT : 0 ≤ shd xs n k * 18446744073709551616 + shd xs (n - 1) k := by unfold W.Wd at *; omega
    have hd : shd xs n k < v := by omega
    have ht' : ¬ v ≤ (shd xs n k * 18446744073709551616 + shd xs (n - 1) k) / 18446744073709551616 := by unfold W.Wd at *; omega
    obtain ⟨q1, q2, q3, q4, q5⟩ := div_lt_B hT ht'
    have hD : W.Wd (W.divQ (shd xs n k) (shd xs (n - 1) k) v) := ⟨q2, q3⟩
    have hv' := hv.2
    have hR : W.Wd (W.divR (shd xs n k) (shd xs (n - 1) k) v) := ⟨q4, Int.lt_trans q5 hv'⟩
    by_cases h6 : W.divR (shd xs n k) (shd xs (n - 1) k) v < W.mulH (W.divQ (shd xs n k) (shd xs (n - 1) k) v) u
    · have HE := Lib.hid (estD_less ht' h6)
      have h7 : 0 < W.divQ (shd xs n k) (shd xs (n - 1) k) v := less_pos hu.1 hT ht' h6
      have h8 := hD.2
      clear ht' q1 q2 q3 q4 q5 hT
      go_enter Tryz.func146, Tryz.ntmps146
      go_wp2
      go_quiet (first
        | (go_at_call 158; with_reducible exact Calls.quiet_of (HS.out _ n (HA.out _ _) (by omega) (n : Int) rfl))
        | (go_at_call 158; with_reducible exact Calls.quiet_of (HS.out _ (n - 1) (HA.out _ _) (by omega) ((n : Int) - 1) (by omega)))
        | (go_at_call 144; exact Calls.quiet_of (div_any _ _ _ w1 w0 hv hd _)))
      go_wp2_with (go_at_call 135; refine (mul_any _ _ hD hu _).mono ?_; rintro e w' ⟨rfl, rfl⟩)
      go_ret
      exact ⟨by rw [HE.out]; rfl, bdn ((Below.refl _ w).alloc (Nat.le_refl _) _) _⟩
    · have HE := Lib.hid (estD_just ht' h6)
      clear ht' q1 q2 q3 q4 q5 hT
      go_enter Tryz.func146, Tryz.ntmps146
      go_wp2
      go_quiet (first
        | (go_at_call 158; with_reducible exact Calls.quiet_of (HS.out _ n (HA.out _ _) (by omega) (n : Int) rfl))
        | (go_at_call 158; with_reducible exact Calls.quiet_of (HS.out _ (n - 1) (HA.out _ _) (by omega) ((n : Int) - 1) (by omega)))
        | (go_at_call 144; exact Calls.quiet_of (div_any _ _ _ w1 w0 hv hd _)))
      go_wp2_with (go_at_call 135; refine (mul_any _ _ hD hu _).mono ?_; rintro e w' ⟨rfl, rfl⟩)
      go_ret
      exact ⟨by rw [HE.out]; rfl, bdn ((Below.refl _ w).alloc (Nat.le_refl _) _) _⟩
end Go.Proofs.YtfdpddlefobcpaaGreatDoor
/- What take and giveBack of layer 3 answer, over this translation. -/
namespace Go.Proofs.YtfdpddlefobcpaaGreatDoor
open Go.RowKit
set_option linter.unusedVariables false
set_option maxRecDepth 20000
open N
namespace N
def tkL (y d c : Int) : Int := W.addS (W.mulL y d) c 0
def tkH (y d c : Int) : Int := W.mulH y d + W.addC (W.mulL y d) c 0
theorem tk_eq {y d c : Int} (hy : W.Wd y) (hd : W.Wd d) (hc : W.Wd c) : tkL y d c + tkH y d c * 18446744073709551616 = y * d + c ∧ W.Wd (tkL y d c) ∧ W.Wd (tkH y d c) := by
  have h := W.mul_lt hy hd
  unfold tkL tkH W.addS W.addC W.mulL W.mulH W.Wd at *
  generalize y * d = p at *
  omega
theorem tk_zero (y : Int) : tkL y 0 0 = 0 ∧ tkH y 0 0 = 0 := by
  unfold tkL tkH W.addS W.addC W.mulL W.mulH; rw [Int.mul_zero]; decide
theorem sub_eq {z l b : Int} (hz : W.Wd z) (hl : W.Wd l) (h0 : 0 ≤ b) (h1 : b ≤ 1) : W.subS z l b - W.subC z l b * 18446744073709551616 = z - l - b ∧ 0 ≤ W.subC z l b ∧ W.subC z l b ≤ 1 := by
  unfold W.subS W.subC W.Wd at *; rw [Int.min_eq_left h1]; omega
theorem add_eq {z l b : Int} (hz : W.Wd z) (hl : W.Wd l) (h0 : 0 ≤ b) (h1 : b ≤ 1) : W.addS z l b + W.addC z l b * 18446744073709551616 = z + l + b ∧ 0 ≤ W.addC z l b ∧ W.addC z l b ≤ 1 := by
  unfold W.addS W.addC W.Wd at *; rw [Int.min_eq_left h1]; omega
/-- where digit times the divisor is taken from the row R from place i on, and k places are done -/
structure TkSt (R ys : List Int) (i k : Nat) (d cy bo : Int) (R' : List Int) : Prop where
  len : R'.length = R.length
  dg : Dg B R'
  cy0 : W.Wd cy
  bo0 : 0 ≤ bo
  bo1 : bo ≤ 1
  rest : ∀ j, j < i ∨ i + k ≤ j → lim R' j = lim R j
  sum : val B R' = val B R - lo B ys k * d * Q B i + (cy + bo) * Q B (i + k)
  none : d = 0 → cy = 0 ∧ bo = 0
theorem TkSt.start {R ys : List Int} {i : Nat} {d : Int} (h : Dg B R) : TkSt R ys i 0 d 0 0 R :=
  ⟨rfl, h, W.wd_0, by omega, by omega, fun _ _ => rfl, by rw [lo_zero, Int.zero_mul, Int.zero_mul, Int.add_zero, Int.zero_mul]; omega, fun _ => ⟨rfl, rfl⟩⟩
theorem TkSt.step {R ys : List Int} {i k : Nat} {d cy bo : Int} {R' : List Int} (h : TkSt R ys i k d cy bo R') (hy : Dg B ys) (hd : W.Wd d) (hk : i + k < R.length) :
    TkSt R ys i (k + 1) d (tkH (lim ys k) d cy) (W.subC (lim R' (i + k)) (tkL (lim ys k) d cy) bo) (R'.set (i + k) (W.subS (lim R' (i + k)) (tkL (lim ys k) d cy) bo)) := by
  have hyk := hy.lim (b := B) (by decide) k
  have hz := h.dg.lim (b := B) (by decide) (i + k)
  obtain ⟨t1, t2, t3⟩ := tk_eq (y := lim ys k) hyk hd h.cy0
  obtain ⟨s1, s2, s3⟩ := sub_eq (z := lim R' (i + k)) hz t2 h.bo0 h.bo1
  have hw := W.wd_subS (lim R' (i + k)) (tkL (lim ys k) d cy) bo
  have hkl : i + k < R'.length := by rw [h.len]; exact hk
  refine ⟨by rw [List.length_set, h.len], h.dg.set _ hw.1 hw.2, t3, s2, s3, fun j hj => ?_, ?_, fun h0 => ?_⟩
  · rw [lim_set _ _ _ _ hkl, if_neg (by omega)]; exact h.rest j (by omega)
  · rw [val_set B R' _ _ hkl, h.sum, lo_succ, show i + (k + 1) = i + k + 1 from rfl, Q_succ]
    generalize W.subS (lim R' (i + k)) (tkL (lim ys k) d cy) bo = zn at *
    generalize W.subC (lim R' (i + k)) (tkL (lim ys k) d cy) bo = bn at *
    generalize tkL (lim ys k) d cy = l at *
    generalize tkH (lim ys k) d cy = hh at *
    generalize lim R' (i + k) = z at *
    generalize lim ys k = y at *
    have e1 : (lo B ys k + y * Q B k) * d * Q B i = lo B ys k * d * Q B i + y * d * Q B (i + k) := by
      rw [Q_add, Int.add_mul, Int.add_mul]
      congr 1
      rw [Int.mul_right_comm y, Int.mul_assoc (y * d), Int.mul_comm (Q B k)]
    rw [e1]
    have e2 : (hh + bn) * (Q B (i + k) * B) = (hh * 18446744073709551616 + bn * 18446744073709551616) * Q B (i + k) := by
      rw [Int.mul_comm (Q B (i + k)), ← Int.mul_assoc, Int.add_mul hh bn]
    rw [e2]
    have e3 : zn - z = -l - bo + bn * 18446744073709551616 := by omega
    have e4 : hh * 18446744073709551616 = y * d + cy - l := by omega
    rw [e3, e4]
    simp only [Int.add_mul, Int.sub_mul, Int.neg_mul]
    omega
  · subst h0
    obtain ⟨c0, b0⟩ := h.none rfl
    subst c0 b0
    rw [(tk_zero _).1, (tk_zero _).2]
    refine ⟨rfl, ?_⟩
    have hz1 : lim R' (i + k) < 18446744073709551616 := hz.2
    have hz0 := hz.1
    unfold W.subC
    rw [Int.min_eq_left (by omega)]
    generalize lim R' (i + k) = z at *
    omega
/-- the place above: what is left when all is done -/
def TkOut (R ys : List Int) (i n : Nat) (d b : Int) (R' : List Int) : Prop :=
  R'.length = R.length ∧ Dg B R' ∧ (∀ j, j < i ∨ i + (n + 1) ≤ j → lim R' j = lim R j) ∧ val B R' = val B R - val B ys * d * Q B i + b * Q B (i + (n + 1)) ∧ (b = 0 ∨ b = 1) ∧ (d = 0 → b = 0)
theorem TkSt.top {R ys : List Int} {i n : Nat} {d cy bo : Int} {R' : List Int} (h : TkSt R ys i n d cy bo R') (hn : nn ys ≤ n) (hy : Dg B ys) (hk : i + n < R.length) :
    TkOut R ys i n d (W.subC (lim R' (i + n)) cy bo) (R'.set (i + n) (W.subS (lim R' (i + n)) cy bo)) := by
  have hz := h.dg.lim (b := B) (by decide) (i + n)
  have hz1 : lim R' (i + n) < 18446744073709551616 := hz.2
  obtain ⟨s1, s2, s3⟩ := sub_eq (z := lim R' (i + n)) hz h.cy0 h.bo0 h.bo1
  have hw := W.wd_subS (lim R' (i + n)) cy bo
  have hkl : i + n < R'.length := by rw [h.len]; exact hk
  have hV : lo B ys n = val B ys := by
    rw [← (val_div (by decide) hy n).2]
    exact Int.emod_eq_of_lt (val_nonneg (by decide) hy) (val_lt_nn' hy hn)
  refine ⟨by rw [List.length_set, h.len], h.dg.set _ hw.1 hw.2, fun j hj => ?_, ?_, by omega, fun h0 => ?_⟩
  · rw [lim_set _ _ _ _ hkl, if_neg (by omega)]; exact h.rest j (by omega)
  · rw [val_set B R' _ _ hkl, h.sum, hV, show i + (n + 1) = i + n + 1 from rfl, Q_succ]
    generalize W.subS (lim R' (i + n)) cy bo = zn at *
    generalize W.subC (lim R' (i + n)) cy bo = bn at *
    generalize lim R' (i + n) = z at *
    have e2 : bn * (Q B (i + n) * B) = bn * 18446744073709551616 * Q B (i + n) := by
      rw [Int.mul_comm (Q B (i + n)), ← Int.mul_assoc]
    have e3 : zn - z = -cy - bo + bn * 18446744073709551616 := by omega
    rw [e2, e3]
    simp only [Int.add_mul, Int.sub_mul, Int.neg_mul]
    omega
  · obtain ⟨c0, b0⟩ := h.none h0
    subst c0 b0
    have hz0 := hz.1
    unfold W.subC
    rw [Int.min_eq_left (by omega)]
    generalize lim R' (i + n) = z at *
    omega
end N
theorem take_any (w : World) (g e i n c : Nat) (R : List Int) (A : Option Addr) (d0 : Nat) (ys : List Int) (d : Int) (hR : ArP w g e R) (hd : Dg B R) (hi : i + (n + 1) ≤ R.length) (hc : n + 1 ≤ c) (hcm : c ≤ maxLen) (hrl : R.length ≤ 2199023255552)
    (hy : Sl w A n d0 ys) (ha : Aw A g) (hdw : W.Wd d) :
    Calls Tryz.prog 147 #[.slice (some ⟨g, i, none⟩) (n + 1) c, .slice A n d0, .int .u64 d] w fun e' w' =>
      ∃ (b : Int) (R' : List Int), e' = .returned (.bool (b != 0)) ∧ TkOut R ys i n d b R' ∧ ArP w' g e R' ∧ w.grownBy w' (some g) := by
  have hyc := hy.cap
  have hym := hy.max
  unfold maxLen at hcm hym
  have HY := Lib.hid hy
  have HD := Lib.hid hd
  have HR := Lib.hid hR
  clear hy hd hR
  go_enter Tryz.func147, Tryz.ntmps147
  go_wp2
  go_loopw [7, 8, 17] (fun cs bs is wr => ∃ (k : Nat) (cy bo : Int) (R' : List Int), k ≤ n ∧ is = .int .i64 k ∧ cs = .int .u64 cy ∧ bs = .int .u64 bo ∧ TkSt R ys i k d cy bo R' ∧ ArP wr g e R' ∧ w.grownBy wr (some g)) (fun _ _ is _ => n - (intOf is).toNat)
  case atStart => exact ⟨0, 0, 0, R, Nat.zero_le _, rfl, rfl, rfl, TkSt.start HD.out, HR.out, World.grownBy.refl _ _⟩
  case round =>
    obtain ⟨k, cy, bo, R', hk, rfl, rfl, rfl, hT, hA, hg⟩ := hrel
    obtain ⟨wo, rfl⟩ : ∃ wo : World, wo = wr := ⟨_, rfl⟩
    have hlen := hT.len
    by_cases hlt : k < n
    · have hyk := HY.out.dg.lim (b := B) (by decide) k
      obtain ⟨ad, rfl, _, hcy⟩ := (HY.out.grow hg ha).cell hlt
      have hz := hT.dg.lim (b := B) (by decide) (i + k)
      have hcell := hA.cell (k := i + k) (by omega)
      have hfz := hA.frozen (i + k)
      obtain ⟨t1, t2, t3⟩ := tk_eq (y := lim ys k) hyk hdw hT.cy0
      have hml := W.wd_mulL (lim ys k) d
      have hmh := W.wd_mulH (b := d) hyk hdw
      have hS := Lib.hid (hT.step HY.out.dg hdw (by omega : i + k < R.length))
      have hA1 := Lib.hid (hA.set (i + k) (W.subS (lim R' (i + k)) (tkL (lim ys k) d cy) bo) (by omega))
      have hbw : W.Wd bo := by have := hT.bo0; have := hT.bo1; unfold W.Wd; omega
      have hcw := hT.cy0
      have hs1 : W.mulH (lim ys k) d + W.addC (W.mulL (lim ys k) d) cy 0 < 18446744073709551616 := t3.2
      have hs0 : 0 ≤ W.mulH (lim ys k) d := hmh.1
      have hs2 := W.addC_le hml hcw W.wd_0
      have HG := Lib.hid hg
      have HT := Lib.hid hT
      have HL := Lib.hid hlen
      clear hg hT t1 hlen
      go_wp2_with (first
        | (go_at_call 135; refine (mul_any _ _ hyk hdw _).mono ?_; rintro e w3 ⟨rfl, rfl⟩)
        | (go_at_call 130; refine (add_any _ _ _ hml hcw W.wd_0 _).mono ?_; rintro e w3 ⟨rfl, rfl⟩)
        | (go_at_call 149; refine (sub_any _ _ _ hz t2 hbw _).mono ?_; rintro e w3 ⟨rfl, rfl⟩))
      go_roundw
      case rel => exact ⟨k + 1, _, _, _, by omega, by go_num, rfl, rfl, hS.out, hA1.out, grow_trans HG.out (grow_set _ _ _ _)⟩
      case measure => simp [intOf]; omega
    · obtain rfl : k = n := by omega
      have hz := hT.dg.lim (b := B) (by decide) (i + k)
      have hcell := hA.cell (k := i + k) (by omega)
      have hfz := hA.frozen (i + k)
      have hS := Lib.hid (hT.top (by rw [← HY.out.len]; exact nn_le ys) HY.out.dg (by omega))
      have hA1 := Lib.hid (hA.set (i + k) (W.subS (lim R' (i + k)) cy bo) (by omega))
      have hbw : W.Wd bo := by have := hT.bo0; have := hT.bo1; unfold W.Wd; omega
      have hcw := hT.cy0
      have HG := Lib.hid hg
      have HT := Lib.hid hT
      have HL := Lib.hid hlen
      clear hg hT hlen
      go_wp2_with (first
        | (go_at_call 149; refine (sub_any _ _ _ hz hcw hbw _).mono ?_; rintro e w3 ⟨rfl, rfl⟩))
      go_ret
      exact ⟨_, _, rfl, hS.out, hA1.out, grow_trans HG.out (grow_set _ _ _ _)⟩
namespace N
/-- where the divisor is added to the row R from place i on, and k places are done -/
structure GbSt (R ys : List Int) (i k : Nat) (cy : Int) (R' : List Int) : Prop where
  len : R'.length = R.length
  dg : Dg B R'
  cy0 : 0 ≤ cy
  cy1 : cy ≤ 1
  rest : ∀ j, j < i ∨ i + k ≤ j → lim R' j = lim R j
  sum : val B R' = val B R + lo B ys k * Q B i - cy * Q B (i + k)
theorem GbSt.start {R ys : List Int} {i : Nat} (h : Dg B R) : GbSt R ys i 0 0 R :=
  ⟨rfl, h, by omega, by omega, fun _ _ => rfl, by rw [lo_zero, Int.zero_mul, Int.zero_mul]; omega⟩
theorem GbSt.step {R ys : List Int} {i k : Nat} {cy : Int} {R' : List Int} (h : GbSt R ys i k cy R') (hy : Dg B ys) (hk : i + k < R.length) :
    GbSt R ys i (k + 1) (W.addC (lim R' (i + k)) (lim ys k) cy) (R'.set (i + k) (W.addS (lim R' (i + k)) (lim ys k) cy)) := by
  have hyk := hy.lim (b := B) (by decide) k
  have hz := h.dg.lim (b := B) (by decide) (i + k)
  obtain ⟨s1, s2, s3⟩ := add_eq (z := lim R' (i + k)) (l := lim ys k) hz hyk h.cy0 h.cy1
  have hw := W.wd_addS (lim R' (i + k)) (lim ys k) cy
  have hkl : i + k < R'.length := by rw [h.len]; exact hk
  refine ⟨by rw [List.length_set, h.len], h.dg.set _ hw.1 hw.2, s2, s3, fun j hj => ?_, ?_⟩
  · rw [lim_set _ _ _ _ hkl, if_neg (by omega)]; exact h.rest j (by omega)
  · rw [val_set B R' _ _ hkl, h.sum, lo_succ, show i + (k + 1) = i + k + 1 from rfl, Q_succ]
    generalize W.addS (lim R' (i + k)) (lim ys k) cy = zn at *
    generalize W.addC (lim R' (i + k)) (lim ys k) cy = bn at *
    generalize lim R' (i + k) = z at *
    generalize lim ys k = y at *
    have e1 : y * Q B k * Q B i = y * Q B (i + k) := by rw [Int.mul_assoc, Q_add, Int.mul_comm (Q B k)]
    have e2 : bn * (Q B (i + k) * B) = bn * 18446744073709551616 * Q B (i + k) := by
      rw [Int.mul_comm (Q B (i + k)), ← Int.mul_assoc]
    have e3 : zn - z = y + cy - bn * 18446744073709551616 := by omega
    rw [e2, e3]
    simp only [Int.add_mul, Int.sub_mul, e1]
    omega
def GbOut (R ys : List Int) (i n : Nat) (c : Int) (R' : List Int) : Prop :=
  R'.length = R.length ∧ Dg B R' ∧ (∀ j, j < i ∨ i + (n + 1) ≤ j → lim R' j = lim R j) ∧ val B R' = val B R + val B ys * Q B i - c * Q B (i + (n + 1)) ∧ (c = 0 ∨ c = 1)
theorem GbSt.top {R ys : List Int} {i n : Nat} {cy : Int} {R' : List Int} (h : GbSt R ys i n cy R') (hn : nn ys ≤ n) (hy : Dg B ys) (hk : i + n < R.length) :
    GbOut R ys i n ((lim R' (i + n) + cy) / 18446744073709551616) (R'.set (i + n) ((lim R' (i + n) + cy) % 18446744073709551616)) := by
  have hz := h.dg.lim (b := B) (by decide) (i + n)
  have hz1 : lim R' (i + n) < 18446744073709551616 := hz.2
  have hz0 := hz.1
  have hc0 := h.cy0
  have hc1 := h.cy1
  have hkl : i + n < R'.length := by rw [h.len]; exact hk
  have hV : lo B ys n = val B ys := by
    rw [← (val_div (by decide) hy n).2]
    exact Int.emod_eq_of_lt (val_nonneg (by decide) hy) (val_lt_nn' hy hn)
  refine ⟨by rw [List.length_set, h.len], h.dg.set _ (by omega) (by show _ < 18446744073709551616; omega), fun j hj => ?_, ?_, by omega⟩
  · rw [lim_set _ _ _ _ hkl, if_neg (by omega)]; exact h.rest j (by omega)
  · rw [val_set B R' _ _ hkl, h.sum, hV, show i + (n + 1) = i + n + 1 from rfl, Q_succ]
    generalize lim R' (i + n) = z at *
    have e3 : (z + cy) % 18446744073709551616 - z = cy - (z + cy) / 18446744073709551616 * 18446744073709551616 := by omega
    generalize (z + cy) / 18446744073709551616 = bn at *
    have e2 : bn * (Q B (i + n) * B) = bn * 18446744073709551616 * Q B (i + n) := by
      rw [Int.mul_comm (Q B (i + n)), ← Int.mul_assoc]
    rw [e2, e3]
    simp only [Int.sub_mul]
    omega
end N
theorem giveBack_any (w : World) (g e i n c : Nat) (R : List Int) (A : Option Addr) (d0 : Nat) (ys : List Int) (hR : ArP w g e R) (hd : Dg B R) (hi : i + (n + 1) ≤ R.length) (hc : n + 1 ≤ c) (hcm : c ≤ maxLen) (hrl : R.length ≤ 2199023255552)
    (hy : Sl w A n d0 ys) (ha : Aw A g) :
    Calls Tryz.prog 148 #[.slice (some ⟨g, i, none⟩) (n + 1) c, .slice A n d0] w fun e' w' =>
      ∃ (b : Int) (R' : List Int), (∃ v, e' = .returned v) ∧ GbOut R ys i n b R' ∧ ArP w' g e R' ∧ w.grownBy w' (some g) := by
  have hyc := hy.cap
  have hym := hy.max
  unfold maxLen at hcm hym
  have HY := Lib.hid hy
  have HD := Lib.hid hd
  have HR := Lib.hid hR
  clear hy hd hR
  go_enter Tryz.func148, Tryz.ntmps148
  go_wp2
  go_loopw [4, 9] (fun cs is wr => ∃ (k : Nat) (cy : Int) (R' : List Int), k ≤ n ∧ is = .int .i64 k ∧ cs = .int .u64 cy ∧ GbSt R ys i k cy R' ∧ ArP wr g e R' ∧ w.grownBy wr (some g)) (fun _ is _ => n - (intOf is).toNat)
  case atStart => exact ⟨0, 0, R, Nat.zero_le _, rfl, rfl, GbSt.start HD.out, HR.out, World.grownBy.refl _ _⟩
  case round =>
    obtain ⟨k, cy, R', hk, rfl, rfl, hT, hA, hg⟩ := hrel
    obtain ⟨wo, rfl⟩ : ∃ wo : World, wo = wr := ⟨_, rfl⟩
    have hlen := hT.len
    by_cases hlt : k < n
    · have hyk := HY.out.dg.lim (b := B) (by decide) k
      obtain ⟨ad, rfl, _, hcy⟩ := (HY.out.grow hg ha).cell hlt
      have hz := hT.dg.lim (b := B) (by decide) (i + k)
      have hcell := hA.cell (k := i + k) (by omega)
      have hfz := hA.frozen (i + k)
      have hS := Lib.hid (hT.step HY.out.dg (by omega : i + k < R.length))
      have hA1 := Lib.hid (hA.set (i + k) (W.addS (lim R' (i + k)) (lim ys k) cy) (by omega))
      have hbw : W.Wd cy := by have := hT.cy0; have := hT.cy1; unfold W.Wd; omega
      have HG := Lib.hid hg
      have HT := Lib.hid hT
      have HL := Lib.hid hlen
      clear hg hT hlen
      go_wp2_with (first
        | (go_at_call 130; refine (add_any _ _ _ hz hyk hbw _).mono ?_; rintro e w3 ⟨rfl, rfl⟩))
      go_roundw
      case rel => exact ⟨k + 1, _, _, by omega, by go_num, rfl, hS.out, hA1.out, grow_trans HG.out (grow_set _ _ _ _)⟩
      case measure => simp [intOf]; omega
    · obtain rfl : k = n := by omega
      have hz := hT.dg.lim (b := B) (by decide) (i + k)
      have hcell := hA.cell (k := i + k) (by omega)
      have hfz := hA.frozen (i + k)
      have hS := Lib.hid (hT.top (by rw [← HY.out.len]; exact nn_le ys) HY.out.dg (by omega))
      have hA1 := Lib.hid (hA.set (i + k) ((lim R' (i + k) + cy) % 18446744073709551616) (by omega))
      have HG := Lib.hid hg
      have HT := Lib.hid hT
      have HL := Lib.hid hlen
      clear hg hT hlen hz
      go_wp2
      go_end0
      refine ⟨_, _, ⟨_, rfl⟩, hS.out, ?_, grow_trans HG.out (grow_set _ _ _ _)⟩
      rw [IntKind.wrap_u64]
      exact hA1.out
end Go.Proofs.YtfdpddlefobcpaaGreatDoor
/- What short of layer 3 answers, over this translation. -/
namespace Go.Proofs.YtfdpddlefobcpaaGreatDoor
open Go.RowKit Go.Shelf
set_option linter.unusedVariables false
set_option maxRecDepth 20000
open N
attribute [local go_sem] Oper.semAt_some
namespace N
theorem dn_length (len k : Nat) : (dn len k).length = k := upto_length _ _
theorem dn_split {len : Nat} {pre : List (Fin len)} {x : Fin len} (h : (pre ++ [x]).map Fin.val = dn len (pre.length + 1)) : pre.map Fin.val = dn len pre.length ∧ x.val = len - 1 - pre.length := by
  rw [dn_succ, List.map_append] at h
  obtain ⟨e1, e2⟩ := List.append_inj' h rfl
  exact ⟨e1, by simpa using e2⟩
theorem dn_full {len : Nat} {pre : List (Fin len)} {k : Nat} (h : pre.map Fin.val = dn len k) : pre.length = k := by
  have := congrArg List.length h
  rwa [List.length_map, dn_length] at this
theorem drop_one (b : Int) (xs : List Int) (i : Nat) : val b (xs.drop i) = lim xs i + b * val b (xs.drop (i + 1)) := by
  have h3 := val_split b (xs.drop i) 1
  rw [List.drop_drop, lo_succ, lo_zero, lim_drop, Q_zero, Nat.add_zero, show Q b 1 = b by rw [show (1 : Nat) = 0 + 1 from rfl, Q_succ, Q_zero, Int.one_mul]] at h3
  omega
/-- what holds when m rounds are over, from the highest place on -/
def SInv (xs : List Int) (d : Int) (ln m : Nat) (zs : List Int) (rest : Int) : Prop := val B (xs.drop (ln - m)) = val B (zs.drop (ln - m)) * d + rest
theorem SInv.start {xs : List Int} {d : Int} {ln : Nat} (h : xs.length = ln) : SInv xs d ln 0 (List.replicate ln 0) 0 := by
  unfold SInv
  rw [Nat.sub_zero, List.drop_of_length_le (by omega), List.drop_of_length_le (by simp)]
  show (0 : Int) = 0 * d + 0
  omega
theorem SInv.step {xs : List Int} {d : Int} {ln m : Nat} {zs : List Int} {rest : Int} (h : SInv xs d ln m zs rest) (hm : m < ln) (hl : zs.length = ln) (hd : 0 < d) :
    SInv xs d ln (m + 1) (zs.set (ln - 1 - m) (W.divQ rest (lim xs (ln - 1 - m)) d)) (W.divR rest (lim xs (ln - 1 - m)) d) := by
  unfold SInv at *
  rw [show ln - (m + 1) = ln - 1 - m by omega]
  rw [show ln - m = ln - 1 - m + 1 by omega] at h
  generalize hi : ln - 1 - m = i at *
  rw [drop_one, h, drop_one B (zs.set i _), lim_set _ _ _ _ (by omega), if_pos rfl]
  have e : val B ((zs.set i (W.divQ rest (lim xs i) d)).drop (i + 1)) = val B (zs.drop (i + 1)) := val_of_lim' B (fun j => by
    rw [lim_drop, lim_drop, lim_set _ _ _ _ (by omega), if_neg (by omega)])
  rw [e]
  have e2 := Int.mul_ediv_add_emod (rest * 18446744073709551616 + lim xs i) d
  unfold W.divQ W.divR
  generalize (rest * 18446744073709551616 + lim xs i) / d = q at *
  generalize (rest * 18446744073709551616 + lim xs i) % d = r at *
  rw [Int.add_mul, Int.mul_add, Int.mul_assoc B, Int.mul_comm q d]
  have : B * rest = rest * 18446744073709551616 := Int.mul_comm ..
  omega
end N
/-- the blocks of a division by one limb, from block S on -/
structure ShSt (w : World) (S ln : Nat) (d : Int) (zs : List Int) (rest : Int) (W : World) : Prop where
  db : W.cell? ⟨S, 0, none⟩ = some (.int .u64 d)
  qb : W.cell? ⟨S + 1, 0, none⟩ = some (.slice (some ⟨S + 1 + 1, 0, none⟩) ln ln)
  qf : W.frozen? ⟨S + 1, 0, none⟩ = false
  arr : Arr W (S + 1 + 1) zs
  rb : W.cell? ⟨S + 1 + 1 + 1, 0, none⟩ = some (.int .u64 rest)
  rf : W.frozen? ⟨S + 1 + 1 + 1, 0, none⟩ = false
  bl : Below S w W
  sz : S + 5 ≤ W.heap.size
theorem ShSt.below {w : World} {S ln : Nat} {d : Int} {zs : List Int} {rest : Int} {W W' : World} (h : ShSt w S ln d zs rest W) (hb : Below (S + 5) W W') : ShSt w S ln d zs rest W' :=
  ⟨(hb.cell (p := ⟨S, 0, none⟩) (by show S < S + 5; omega)).trans h.db, (hb.cell (p := ⟨S + 1, 0, none⟩) (by show S + 1 < S + 5; omega)).trans h.qb, (hb.frozen (p := ⟨S + 1, 0, none⟩) (by show S + 1 < S + 5; omega)).trans h.qf,
   h.arr.below hb (by omega), (hb.cell (p := ⟨S + 1 + 1 + 1, 0, none⟩) (by show S + 1 + 1 + 1 < S + 5; omega)).trans h.rb, (hb.frozen (p := ⟨S + 1 + 1 + 1, 0, none⟩) (by show S + 1 + 1 + 1 < S + 5; omega)).trans h.rf,
   h.bl.trans (hb.mono (by omega)), Nat.le_trans h.sz hb.size⟩
theorem ShSt.round {w : World} {S ln : Nat} {d : Int} {zs : List Int} {rest : Int} {W : World} (h : ShSt w S ln d zs rest W) (q k : Nat) (v r : Int) :
    ShSt w S ln d (zs.set k v) r (((W.drewN q).setCell ⟨S + 1 + 1, k, none⟩ (.int .u64 v)).setCell ⟨S + 1 + 1 + 1, 0, none⟩ (.int .u64 r)) := by
  have ne : ∀ b : Nat, b ≠ S + 1 + 1 → b ≠ S + 1 + 1 + 1 → ∀ u, W.cell? ⟨b, 0, none⟩ = some u → (((W.drewN q).setCell ⟨S + 1 + 1, k, none⟩ (.int .u64 v)).setCell ⟨S + 1 + 1 + 1, 0, none⟩ (.int .u64 r)).cell? ⟨b, 0, none⟩ = some u := fun b h1 h2 u hu =>
    (World.cell?_setCell_other _ _ _ _ (fun e => h2 (congrArg Addr.block e).symm)).trans ((World.cell?_setCell_other _ _ _ _ (fun e => h1 (congrArg Addr.block e).symm)).trans hu)
  refine ⟨ne _ (by omega) (by omega) _ h.db, ne _ (by omega) (by omega) _ h.qb, by rw [World.frozen?_setCell, World.frozen?_setCell]; exact h.qf, ((h.arr.drewN q).set k v).far (by show S + 1 + 1 ≠ S + 1 + 1 + 1; omega) _, ?_, by rw [World.frozen?_setCell, World.frozen?_setCell]; exact h.rf,
    ((bdn h.bl q).setCell (by show S ≤ S + 1 + 1; omega) _).setCell (by show S ≤ S + 1 + 1 + 1; omega) _, by rw [World.size_setCell, World.size_setCell]; exact h.sz⟩
  refine World.cell?_setCell_same' _ _ _ ?_
  rw [World.cell?_setCell_other _ _ _ _ (fun e => absurd (congrArg Addr.block e) (by show ¬ S + 1 + 1 = S + 1 + 1 + 1; omega))]
  show (W.cell? _).isSome = true
  rw [h.rb]; rfl
theorem ShSt.start (w : World) (ln : Nat) (d : Int) (V : Value) (L : World)
    (hL : L = ((((w.alloc (.cells #[.int .u64 d] 72)).alloc (.cells #[.slice (some ⟨w.heap.size + 1 + 1, 0, none⟩) ln ln] 58)).alloc (.cells (madeCells #[.int .u64 0] ln) 72)).alloc (.cells #[.int .u64 0] 72)).alloc (.cells #[V] 58)) :
    ShSt w w.heap.size ln d (List.replicate ln 0) 0 L ∧ L.cell? ⟨w.heap.size + 1 + 1 + 1 + 1, 0, none⟩ = some V ∧ L.heap.size = w.heap.size + 5 := by
  refine ⟨⟨?_, ?_, ?_, ?_, ?_, ?_, ?_, ?_⟩, ?_, ?_⟩
  · rw [hL]; go_simp
  · rw [hL]; go_simp
  · rw [hL]; go_simp
  · have := Arr.made ((w.alloc (.cells #[.int .u64 d] 72)).alloc (.cells #[.slice (some ⟨w.heap.size + 1 + 1, 0, none⟩) ln ln] 58)) ln
    rw [World.size_alloc, World.size_alloc] at this
    rw [hL]
    exact (this.alloc _).alloc _
  · rw [hL]; go_simp
  · rw [hL]; go_simp
  · rw [hL]; exact (((((Below.refl _ w).alloc (Nat.le_refl _) _).alloc (by simp) _).alloc (by simp; omega) _).alloc (by simp; omega) _).alloc (by simp; omega) _
  · rw [hL]; simp
  · rw [hL]; go_simp
  · rw [hL]; simp
/-- what a division tells: both naturals in memory of the call's own, in two blocks -/
def OutQ (W : World) (m1 m2 : Nat) (q r : Int) (e : Ending) (w' : World) : Prop :=
  ∃ A n c A' n' c', e = .returned (.tuple #[.slice A n c, .slice A' n' c']) ∧ n ≤ m1 ∧ n' ≤ m2 ∧ N.Own w' W.heap.size A n c (limbs q) ∧ N.Own w' W.heap.size A' n' c' (limbs r) ∧ (∀ g, rowOf A = some g → rowOf A' ≠ some g) ∧ Below W.heap.size W w'
set_option maxRecDepth 100000 in
set_option maxHeartbeats 2000000 in
theorem short_any (w : World) (A : Option Addr) (n c : Nat) (xs : List Int) (hx : Sl w A n c xs) (hn : n ≤ 1099511627776) (d : Int) (hd : W.Wd d) (hd0 : 0 < d) :
    Calls Tryz.prog 127 #[.slice A n c, .int .u64 d] w (OutQ w n 1 (val B xs / d) (val B xs % d)) := by
  have hmk : ∀ W : World, (Instr.makeSlice 58 (.int .i64 (n : Nat)) (.int .i64 (n : Nat))).run Tryz.prog W = .ok (.slice (some ⟨W.heap.size, 0, none⟩) n n) (W.alloc (.cells (madeCells #[.int .u64 0] n) 72)) := fun W => make_run _ slNat n (by omega) W
  have hro : Fence.wide.round = none := rfl
  refine calls_of_wp_q 6 Tryz.func127 rfl ?_
  simp only [Tryz.ntmps127, List.size_toArray, List.length_cons, List.length_nil, Nat.reduceAdd, Nat.reduceSub, Array.replicate_succ, Array.replicate_zero, List.push_toArray, List.append_toArray, List.nil_append, List.cons_append]
  go_wp2_with (first
    | (go_at_call 142; refine ((callsIn_wide (n := 5)).1 (back_in _ _ trivial rfl _ _ _ _)).mono ?_; rintro e w4 ⟨rfl, rfl⟩))
  obtain ⟨L, hL⟩ : ∃ L : World, L = ((((w.alloc (.cells #[.int .u64 d] 72)).alloc (.cells #[.slice (some ⟨w.heap.size + 1 + 1, 0, none⟩) n n] 58)).alloc (.cells (madeCells #[.int .u64 0] n) 72)).alloc (.cells #[.int .u64 0] 72)).alloc (.cells #[.slice A n c] 58) := ⟨_, rfl⟩
  obtain ⟨hst, hsv, hsz⟩ := ShSt.start w n d _ L hL
  rw [← hL]
  clear hL hmk
  refine (wpIn_wide (n := 6)).1 ?_
  refine wpIn_rangeFunc_ownG (F := Fence.wide) (n := 6) hro (by omega) (gf := 155) (lb := #[.pointer (some ⟨w.heap.size + 1 + 1 + 1 + 1, 0, none⟩)]) rfl trivial (enters_of Tryz.func155 (by kernel_rfl) rfl)
    (back_stops Fence.wide 5 trivial rfl (by omega) (w.heap.size + 1 + 1 + 1 + 1) w.heap.size A n c xs (by omega) L (by omega) hst.bl.size hsv (hx.rd.below hst.bl))
    KpB.trans (KpB.put hst.bl.size (by omega)) (Below.refl _ _) (fun _ => rfl)
    (fun pre W => ∃ zs rest, ShSt w w.heap.size n d zs rest W ∧ zs.length = n ∧ Dg B zs ∧ 0 ≤ rest ∧ rest < d ∧ (pre.map Fin.val = dn n pre.length → SInv xs d n pre.length zs rest))
    (fun _ _ _ => False)
    (ownFrom_of_below (fun s W W' h hb => by obtain ⟨zs, rest, h1, h2⟩ := h; exact ⟨zs, rest, h1.below (by rw [hsz] at hb; exact hb), h2⟩) (fun s W h => by obtain ⟨zs, rest, h1, h2⟩ := h; rw [hsz]; exact h1.sz))
    (fun _ _ _ _ _ hs _ _ => hs)
    ⟨_, _, hst, by simp, Dg.zeros (by decide) _, by omega, hd0, fun _ => SInv.start hx.len⟩
    (fun x => { tmps := #[.slice A n c, .int .u64 d, undef, .pointer (some ⟨w.heap.size, 0, none⟩), .pointer (some ⟨w.heap.size + 1, 0, none⟩), .slice none 0 0, .pointer (some ⟨w.heap.size + 1 + 1 + 1, 0, none⟩), .int .i64 ((x.val : Nat) : Int), .int .u64 (lim xs x.val),
      .slice A n c, .int .i64 n, .slice (some ⟨w.heap.size + 1 + 1, 0, none⟩) n n, .slice A n c, .func (.func 155) #[] #[.pointer (some ⟨w.heap.size + 1 + 1 + 1 + 1, 0, none⟩)], .int .i64 ((x.val : Nat) : Int), .int .u64 (lim xs x.val),
      undef, undef, undef, undef, undef, undef, undef, undef, undef, undef, undef, undef, undef, undef, undef], defers := [] }) ?assign ?body ?done ?stop
  case assign =>
    intro l x W K hK
    gi_wp2
    exact hK
  case body =>
    rintro l pre x V ⟨zs, rest, h, hzl, hzd, hr0, hr1, hI⟩ hpl
    have hxk : W.Wd (lim xs x.val) := hx.dg.lim (by decide) _
    have hrw : W.Wd rest := by unfold W.Wd at *; omega
    have hxl := x.2
    have h2 : 1 ≤ 6 - 1 - 1 := by omega
    have hmx : Tryz.prog.follows .mixedOrders = true := by kernel_rfl
    have hcell : V.cell? ⟨w.heap.size + 1 + 1, x.val, none⟩ = some (.int .u64 (lim zs x.val)) := h.arr.cell (by rw [hzl]; exact x.2)
    have hfz := h.arr.frozen x.val
    have g1 := h.db
    have g2 := h.qb
    have g3 := h.rb
    have g4 := h.rf
    have HC : Hid (∀ V1 : World, Calls Tryz.prog 144 #[.int .u64 rest, .int .u64 (lim xs x.val), .int .u64 d] V1 fun e w' => e = .returned (.tuple #[.int .u64 (W.divQ rest (lim xs x.val) d), .int .u64 (W.divR rest (lim xs x.val) d), .int .i64 0]) ∧ ∃ k, w' = V1.drewN k) :=
      Lib.hid (fun W => div_any rest (lim xs x.val) d hrw hxk hd hr1 W)
    have HH := Lib.hid h
    have HQ := Lib.hid (div_lt_B (T := rest * 18446744073709551616 + lim xs x.val) (v := d) (by unfold W.Wd at *; omega) (by unfold W.Wd at *; omega))
    have HI := Lib.hid hI
    have HZ := Lib.hid hzl
    have HP := Lib.hid hpl
    have HZD := Lib.hid hzd
    refine wpIn_mono (Q := fun e a w' => e = .normal ∧ ∃ q, w' = ((V.drewN q).setCell ⟨w.heap.size + 1 + 1, x.val, none⟩ (.int .u64 (W.divQ rest (lim xs x.val) d))).setCell ⟨w.heap.size + 1 + 1 + 1, 0, none⟩ (.int .u64 (W.divR rest (lim xs x.val) d))) ?_ ?_
    · skip
      clear hst hsv h hI hzl hpl hzd HH hsz hr0 hr1 hd hd0 hn hx
      generalize W.divQ rest (lim xs x.val) d = q0 at *
      generalize W.divR rest (lim xs x.val) d = r0 at *
      generalize lim xs x.val = x0 at *
      generalize lim zs x.val = z0 at *
      gi_wp2
      refine Rd.held_round (S := fun w' => w'.cell? ⟨w.heap.size, 0, none⟩ = some (.int .u64 d) ∧ w'.cell? ⟨w.heap.size + 1, 0, none⟩ = some (.slice (some ⟨w.heap.size + 1 + 1, 0, none⟩) n n)) hmx (by kernel_rfl) (by rintro ⟨_, _, h, _⟩; cases h) ⟨by simp [*], by simp [*]⟩ (fun hHeld => ?_)
      refine wpAnyH_take (i := 0) (oi := { dst := _, op := _, type := _, pos := _, after := _, guard := _ }) (v := ?_) rfl (by kernel_rfl) (by kernel_rfl) (by kernel_rfl) (fun _ _ _ h => h) (Or.inl ⟨by rfl, ?_⟩) (by assumption) ?_
      rotate_left 1
      · intro w1 hS1
        try dsimp only at hS1
        go_simp
        try with_reducible rfl
      try simp only [Act.put, List.setIfInBounds_toArray, List.set_cons_zero, List.set_cons_succ]
      refine wpAnyH_take (i := 1) (oi := { dst := _, op := _, type := _, pos := _, after := _, guard := _ }) (v := ?_) rfl (by kernel_rfl) (by kernel_rfl) (by kernel_rfl) (fun _ _ _ h => h) (Or.inl ⟨by rfl, ?_⟩) (by assumption) ?_
      rotate_left 1
      · intro w1 hS1
        try dsimp only at hS1
        go_simp
        try with_reducible rfl
      try simp only [Act.put, List.setIfInBounds_toArray, List.set_cons_zero, List.set_cons_succ]
      refine wpAnyH_take (i := 3) (oi := { dst := _, op := _, type := _, pos := _, after := _, guard := _ }) (v := ?_) rfl (by kernel_rfl) (by kernel_rfl) (by kernel_rfl) (fun _ _ _ h => h) (Or.inl ⟨by rfl, ?_⟩) (by assumption) ?_
      rotate_left 1
      · intro w1 hS1
        try dsimp only at hS1
        go_simp
        try with_reducible rfl
      try simp only [Act.put, List.setIfInBounds_toArray, List.set_cons_zero, List.set_cons_succ]
      refine wpAnyH_take (i := 4) (oi := { dst := _, op := _, type := _, pos := _, after := _, guard := _ }) (v := ?_) rfl (by kernel_rfl) (by kernel_rfl) (by kernel_rfl) (fun _ _ _ h => h) (Or.inl ⟨by rfl, ?_⟩) (by assumption) ?_
      rotate_left 1
      · intro w1 hS1
        try dsimp only at hS1
        go_simp
        try with_reducible rfl
      try simp only [Act.put, List.setIfInBounds_toArray, List.set_cons_zero, List.set_cons_succ]
      refine wpAnyH_ready (rs := [2]) (by kernel_rfl) (by simp) ?_
      refine AllReadyH.cons (o := { dst := _, op := _, type := _, pos := _, after := _, guard := _ }) rfl (fun K hK => ?_) AllReadyH.nil
      go_simp
      refine hK.out _ _ ?_ (fun hHeld => ?_)
      · refine ⟨?_, ?_⟩ <;> first | (simp [*]; done) | (rw [World.cell?_setCell_far _ _ _ _ (by dsimp only; omega)]; simp [*]; done) | (rw [World.cell?_setCell_far _ _ _ _ (by dsimp only; omega), World.cell?_setCell_far _ _ _ _ (by dsimp only; omega)]; simp [*]; done)
      clear hK K
      try simp only [Act.put, List.setIfInBounds_toArray, List.set_cons_zero, List.set_cons_succ]
      refine wpAnyH_ready (rs := [5]) (by kernel_rfl) (by simp) ?_
      refine AllReadyH.cons (o := { dst := _, op := _, type := _, pos := _, after := _, guard := _ }) rfl (fun K hK => ?_) AllReadyH.nil
      go_simp
      (go_at_call 144; refine (HC.out _).mono ?_; rintro e w4 ⟨rfl, q, rfl⟩)
      refine hK.out _ _ ?_ (fun hHeld => ?_)
      · refine ⟨?_, ?_⟩ <;> first | (simp [*]; done) | (rw [World.cell?_setCell_far _ _ _ _ (by dsimp only; omega)]; simp [*]; done) | (rw [World.cell?_setCell_far _ _ _ _ (by dsimp only; omega), World.cell?_setCell_far _ _ _ _ (by dsimp only; omega)]; simp [*]; done)
      clear hK K
      try simp only [Act.put, List.setIfInBounds_toArray, List.set_cons_zero, List.set_cons_succ]
      refine wpAnyH_take (i := 6) (oi := { dst := _, op := _, type := _, pos := _, after := _, guard := _ }) (v := ?_) rfl (by kernel_rfl) (by kernel_rfl) (by kernel_rfl) (fun _ _ _ h => h) (Or.inl ⟨by rfl, ?_⟩) (by assumption) ?_
      rotate_left 1
      · intro w1 hS1
        try dsimp only at hS1
        go_simp
        try with_reducible rfl
      try simp only [Act.put, List.setIfInBounds_toArray, List.set_cons_zero, List.set_cons_succ]
      refine wpAnyH_take (i := 7) (oi := { dst := _, op := _, type := _, pos := _, after := _, guard := _ }) (v := ?_) rfl (by kernel_rfl) (by kernel_rfl) (by kernel_rfl) (fun _ _ _ h => h) (Or.inl ⟨by rfl, ?_⟩) (by assumption) ?_
      rotate_left 1
      · intro w1 hS1
        try dsimp only at hS1
        go_simp
        try with_reducible rfl
      try simp only [Act.put, List.setIfInBounds_toArray, List.set_cons_zero, List.set_cons_succ]
      refine wpAnyH_take (i := 8) (oi := { dst := _, op := _, type := _, pos := _, after := _, guard := _ }) (v := ?_) rfl (by kernel_rfl) (by kernel_rfl) (by kernel_rfl) (fun _ _ _ h => h) (Or.inl ⟨by rfl, ?_⟩) (by assumption) ?_
      rotate_left 1
      · intro w1 hS1
        try dsimp only at hS1
        go_simp
        try with_reducible rfl
      try simp only [Act.put, List.setIfInBounds_toArray, List.set_cons_zero, List.set_cons_succ]
      refine wpAnyH_take (i := 9) (oi := { dst := _, op := _, type := _, pos := _, after := _, guard := _ }) (v := ?_) rfl (by kernel_rfl) (by kernel_rfl) (by kernel_rfl) (fun _ _ _ h => h) (Or.inl ⟨by rfl, ?_⟩) (by assumption) ?_
      rotate_left 1
      · intro w1 hS1
        try dsimp only at hS1
        go_simp
        try with_reducible rfl
      try simp only [Act.put, List.setIfInBounds_toArray, List.set_cons_zero, List.set_cons_succ]
      refine wpAnyH_take (i := 10) (oi := { dst := _, op := _, type := _, pos := _, after := _, guard := _ }) (v := ?_) rfl (by kernel_rfl) (by kernel_rfl) (by kernel_rfl) (fun _ _ _ h => h) (Or.inl ⟨by rfl, ?_⟩) (by assumption) ?_
      rotate_left 1
      · intro w1 hS1
        try dsimp only at hS1
        go_simp
        try with_reducible rfl
      try simp only [Act.put, List.setIfInBounds_toArray, List.set_cons_zero, List.set_cons_succ]
      refine wpAnyH_ready (rs := [11]) (by kernel_rfl) (by simp) ?_
      refine AllReadyH.cons (o := { dst := _, op := _, type := _, pos := _, after := _, guard := _ }) rfl (fun K hK => ?_) AllReadyH.nil
      go_simp
      refine hK.out _ _ ?_ (fun hHeld => ?_)
      · refine ⟨?_, ?_⟩ <;> first | (simp [*]; done) | (rw [World.cell?_setCell_far _ _ _ _ (by dsimp only; omega)]; simp [*]; done) | (rw [World.cell?_setCell_far _ _ _ _ (by dsimp only; omega), World.cell?_setCell_far _ _ _ _ (by dsimp only; omega)]; simp [*]; done)
      clear hK K
      try simp only [Act.put, List.setIfInBounds_toArray, List.set_cons_zero, List.set_cons_succ]
      refine wpAnyH_ready (rs := [12]) (by kernel_rfl) (by simp) ?_
      refine AllReadyH.cons (o := { dst := _, op := _, type := _, pos := _, after := _, guard := _ }) rfl (fun K hK => ?_) AllReadyH.nil
      go_simp
      refine hK.out _ _ ?_ (fun hHeld => ?_)
      · refine ⟨?_, ?_⟩ <;> first | (simp [*]; done) | (rw [World.cell?_setCell_far _ _ _ _ (by dsimp only; omega)]; simp [*]; done) | (rw [World.cell?_setCell_far _ _ _ _ (by dsimp only; omega), World.cell?_setCell_far _ _ _ _ (by dsimp only; omega)]; simp [*]; done)
      clear hK K
      try simp only [Act.put, List.setIfInBounds_toArray, List.set_cons_zero, List.set_cons_succ]
      exact wpAnyH_done (by kernel_rfl) ⟨rfl, _, rfl⟩ _
    · skip
      rintro e a w' ⟨rfl, q, rfl⟩
      have hQ := HQ.out
      refine ⟨KeepsOthers.from ((⟨Nat.le_refl _, fun _ _ h _ => h⟩ : KeepsOthers V (V.drewN q)).trans ((KeepsOthers.setCell _ _ _).trans (KeepsOthers.setCell _ _ _))) _,
        KpB.trans (⟨⟨rfl, rfl, rfl, Nat.le_refl _, fun _ _ => rfl⟩, rfl⟩ : KpB _ _ V (V.drewN q)) (KpB.trans (KpB.set _ (by dsimp only; omega) (by dsimp only; omega) _) (KpB.set _ (by dsimp only; omega) (by dsimp only; omega) _)),
        zs.set x.val (W.divQ rest (lim xs x.val) d), W.divR rest (lim xs x.val) d, HH.out.round q x.val _ _, by rw [List.length_set]; exact HZ.out, HZD.out.set _ hQ.2.1 hQ.2.2.1, hQ.2.2.2.1, hQ.2.2.2.2, fun ho => ?_⟩
      rw [List.length_append] at ho ⊢
      obtain ⟨o1, o2⟩ := dn_split ho
      have := (HI.out o1).step (by have := HP.out; omega) HZ.out hd0
      rw [← o2] at this
      exact this
  case done =>
    rintro D pre V hD hS ⟨zs, rest, h, hzl, hzd, hr0, hr1, hI⟩ hK
    have hp := dn_full hS
    have hI := hI (by rw [hp]; exact hS)
    rw [hp] at hI
    unfold SInv at hI
    rw [Nat.sub_self, List.drop_zero, List.drop_zero] at hI
    have e1 : val B zs = val B xs / d := by rw [hI, Int.add_comm, Int.add_mul_ediv_right _ _ (by omega), Int.ediv_eq_zero_of_lt hr0 hr1]; omega
    have e2 : rest = val B xs % d := by rw [hI, Int.add_comm, Int.add_mul_emod_self_right, Int.emod_eq_of_lt hr0 hr1]
    have hrw : W.Wd rest := by unfold W.Wd at *; omega
    have hmax := hx.max
    have hcap := hx.cap
    unfold maxLen at hmax
    have hSl := h.arr.sl hzl (by unfold maxLen; omega) hzd
    have hnz := nn_le zs
    rw [hzl] at hnz
    have hsV := h.sz
    have E1 := Lib.hid e1
    have E2 := Lib.hid e2
    have HH := Lib.hid h
    have HZ := Lib.hid hzl
    have HZD := Lib.hid hzd
    have g2 := h.qb
    have g3 := h.rb
    have g4 := h.qf
    clear hI hst hsv hzl hzd hS h e1 e2
    go_wp2
    refine wp_region_held_drew (S := fun w' => w'.cell? ⟨w.heap.size + 1 + 1 + 1, 0, none⟩ = some (.int .u64 rest)) (by kernel_rfl) g3 (fun hHeld => ?_)
    refine wpAnyH_take (i := 2) (oi := { dst := _, op := _, type := _, pos := _, after := _, guard := _ }) (v := ?_) rfl (by kernel_rfl) (by kernel_rfl) (by kernel_rfl) (fun _ _ _ h => h) (Or.inl ⟨by rfl, ?_⟩) (by assumption) ?_
    rotate_left 1
    · intro w1 hS1
      try dsimp only at hS1
      go_simp
      try with_reducible rfl
    try simp only [Act.put, List.setIfInBounds_toArray, List.set_cons_zero, List.set_cons_succ]
    refine wpAnyH_ready (rs := [0]) (by kernel_rfl) (by simp) ?_
    refine AllReadyH.cons (o := { dst := _, op := _, type := _, pos := _, after := _, guard := _ }) rfl (fun K hK => ?_) AllReadyH.nil
    go_simp
    refine hK.out _ _ ?_ (fun hHeld => ?_)
    · simp [*]
    clear hK K
    try simp only [Act.put, List.setIfInBounds_toArray, List.set_cons_zero, List.set_cons_succ]
    refine wpAnyH_ready (rs := [1]) (by kernel_rfl) (by simp) ?_
    refine AllReadyH.cons (o := { dst := _, op := _, type := _, pos := _, after := _, guard := _ }) rfl (fun K hK => ?_) AllReadyH.nil
    go_simp
    (go_at_call 125; refine (qbare_any _ _ _ _ zs hSl.drew hn).mono ?_; rintro e w3 ⟨rfl, rfl⟩)
    refine hK.out _ _ ?_ (fun hHeld => ?_)
    · simp [*]
    clear hK K
    try simp only [Act.put, List.setIfInBounds_toArray, List.set_cons_zero, List.set_cons_succ]
    refine wpAnyH_ready (rs := [3]) (by kernel_rfl) (by simp) ?_
    refine AllReadyH.cons (o := { dst := _, op := _, type := _, pos := _, after := _, guard := _ }) rfl (fun K hK => ?_) AllReadyH.nil
    go_simp
    (go_at_call 56; refine (of_any _ rest hrw).mono ?_; rintro e w3 ⟨Ar, nr, cr, rfl, hnr, hor, hbr⟩)
    have k1 : w3.cell? ⟨w.heap.size + 1 + 1 + 1, 0, none⟩ = some (.int .u64 rest) := (hbr.cell (p := ⟨w.heap.size + 1 + 1 + 1, 0, none⟩) (by show w.heap.size + 1 + 1 + 1 < V.heap.size; omega)).trans g3
    have k2 := (hbr.cell (p := ⟨w.heap.size + 1, 0, none⟩) (by show w.heap.size + 1 < V.heap.size; omega)).trans g2
    have k3 := (hbr.frozen (p := ⟨w.heap.size + 1, 0, none⟩) (by show w.heap.size + 1 < V.heap.size; omega)).trans g4
    have HB := Lib.hid hbr
    have HO := Lib.hid hor
    clear hbr hor
    refine hK.out _ _ ?_ (fun hHeld => ?_)
    · exact k1
    clear hK K
    try simp only [Act.put, List.setIfInBounds_toArray, List.set_cons_zero, List.set_cons_succ]
    refine wpAnyH_ready (rs := [4]) (by kernel_rfl) (by simp) ?_
    refine AllReadyH.cons (o := { dst := _, op := _, type := _, pos := _, after := _, guard := _ }) rfl (fun K hK => ?_) AllReadyH.nil
    go_simp
    refine hK.out _ _ ?_ (fun hHeld => ?_)
    · rw [World.cell?_setCell_far _ _ _ _ (by dsimp only; omega)]; exact k1
    clear hK K
    try simp only [Act.put, List.setIfInBounds_toArray, List.set_cons_zero, List.set_cons_succ]
    refine wpAnyH_take (i := 5) (oi := { dst := _, op := _, type := _, pos := _, after := _, guard := _ }) (v := ?_) rfl (by kernel_rfl) (by kernel_rfl) (by kernel_rfl) (fun _ _ _ h => h) (Or.inl ⟨by rfl, ?_⟩) (by assumption) ?_
    rotate_left 1
    · intro w1 hS1
      try dsimp only at hS1
      go_simp
      try with_reducible rfl
    try simp only [Act.put, List.setIfInBounds_toArray, List.set_cons_zero, List.set_cons_succ]
    refine wpAnyH_done (by kernel_rfl) ?_ _
    go_wp2
    have hDV : D < V.heap.size := (Array.getElem?_eq_some_iff.1 hK).1
    rw [hsz] at hD
    have hK3 : w3.heap[D]? = some (.deferred (some [])) := (HB.out.block D hDV).trans hK
    have hK5 : (w3.setCell ⟨w.heap.size + 1, 0, none⟩ (.slice (some ⟨w.heap.size + 1 + 1, 0, none⟩) (nn zs) n)).heap[D]? = some (.deferred (some [])) := (Below.heap_setCell w3 _ _ D (by dsimp only; omega)).trans hK3
    refine ⟨by simp, .inl ⟨_, _, rfl, run_takeDeferred hK5, ?_⟩⟩
    have hc5 := cell_kept (World.cell?_setCell_same' w3 ⟨w.heap.size + 1, 0, none⟩ (.slice (some ⟨w.heap.size + 1 + 1, 0, none⟩) (nn zs) n) (by rw [k2]; rfl)) (grownBy_putObj' _ D (.deferred none)) (fun r e => by cases e; exact ⟨_, hK5, rfl⟩)
    have hg1 := grow_set w3 (w.heap.size + 1) 0 (.slice (some ⟨w.heap.size + 1 + 1, 0, none⟩) (nn zs) n)
    have hg2 := grownBy_putObj' (w3.setCell ⟨w.heap.size + 1, 0, none⟩ (.slice (some ⟨w.heap.size + 1 + 1, 0, none⟩) (nn zs) n)) D (.deferred none)
    have hA3 : Arr w3 (w.heap.size + 1 + 1) zs := HH.out.arr.drew.below HB.out (by show w.heap.size + 1 + 1 < V.heap.size; omega)
    have hbl := belowK_b (n₀ := w.heap.size + 5) (w := L) (by omega) _ D _ (.deferred none) (by omega) hK5 rfl rfl
    refine ⟨.tuple #[.slice (some ⟨w.heap.size + 1 + 1, 0, none⟩) (nn zs) n, .slice Ar nr cr], by simp [results, Tryz.f127, go_sem, hc5], _, _, _, _, _, _, rfl, hnz, hnr, ?_, ?_, ?_, ?_⟩
    · rw [← E1.out, limbs_of HZD.out]
      refine (⟨Arr.own (base := w.heap.size) (((hA3.far (by dsimp only; omega) _)).below hbl (by omega)) (by omega) HZ.out (by unfold maxLen; omega) hnz, HZD.out.take _⟩ : N.Own _ _ _ _ _ _)
    · rw [← E2.out]
      exact ((HO.out.keep hg1 (fun k e => by cases e; show w.heap.size + 1 < V.heap.size; omega)).keep hg2 (fun k e => by cases e; exact hDV)).mono (by show w.heap.size ≤ V.heap.size; omega)
    · intro g hg hg'
      cases hg
      have := (HO.out.row.lt _ (by rw [ownBlock_eq]; exact hg')).1
      have h9 : V.heap.size ≤ w.heap.size + 1 + 1 := this
      omega
    · exact ((HH.out.bl.drew.trans (HB.out.mono (by show w.heap.size ≤ V.heap.size; omega))).setCell (by dsimp only; omega) _).trans (hbl.mono (by omega))
  case stop =>
    rintro D c pre W _ _ h _
    exact h.elim
end Go.Proofs.YtfdpddlefobcpaaGreatDoor
/- slices.Backward over a row that the loop's own body writes: what it hands its loop, over this translation. -/
namespace Go.Proofs.YtfdpddlefobcpaaGreatDoor
open Go.RowKit Go.Shelf
set_option linter.unusedVariables false
set_option maxRecDepth 20000
open N
attribute [local go_sem] Oper.semAt_some
namespace N
/-- what a round keeps: the block Bs, and that block gq is a row of len words -/
def KpQ (Bs gq len : Nat) (W W' : World) : Prop := W'.heap[Bs]? = W.heap[Bs]? ∧ ∀ zs, Arr W gq zs → zs.length = len → ∃ zs', Arr W' gq zs' ∧ zs'.length = len
theorem KpQ.refl (Bs gq len : Nat) (W : World) : KpQ Bs gq len W W := ⟨rfl, fun zs h hl => ⟨zs, h, hl⟩⟩
theorem KpQ.trans {Bs gq len : Nat} {A C D : World} (h : KpQ Bs gq len A C) (k : KpQ Bs gq len C D) : KpQ Bs gq len A D :=
  ⟨k.1.trans h.1, fun zs hz hl => by obtain ⟨z1, h1, l1⟩ := h.2 zs hz hl; exact k.2 z1 h1 l1⟩
theorem KpQ.put {Bs gq len : Nat} {w : World} (hB : Bs < w.heap.size) (hq : gq < w.heap.size) (W : World) (l : Nat) (o o' : Obj) (hl : w.heap.size ≤ l) (h : W.heap[l]? = some o) (h1 : o.isCells = false) (h2 : o.isWalk = false) :
    KpQ Bs gq len W (W.putObj l o') := by
  have hl' := (Array.getElem?_eq_some_iff.1 h).1
  exact ⟨(grownBy_putObj' W l o').block Bs (by omega) (fun e => by cases e; omega), fun zs hz hn => ⟨zs, ((grownBy_putObj' W l o').block gq (by omega) (fun e => by cases e; omega)).trans hz, hn⟩⟩
theorem KpQ.cell {Bs gq len : Nat} {W W' : World} (h : KpQ Bs gq len W W') : W'.cell? ⟨Bs, 0, none⟩ = W.cell? ⟨Bs, 0, none⟩ := World.cell?_of_block (w := W) h.1
/-- the places of what has come -/
def pl {len : Nat} (pre : List (Fin len × Int)) : List Nat := pre.map fun p => p.1.val
end N
set_option maxRecDepth 100000 in
set_option maxHeartbeats 2000000 in
theorem backq_in (F : Fence) (n : Nat) (h7 : F.fn 155) (hro : F.round = none) (hn : 1 ≤ n) (l Bs gq : Nat) (len cap : Nat) (hreach : len ≤ 1099511627776) (J Jx : List (Fin len × Int) → World → Prop)
    (hY : ∀ pre x W, J pre W → pre.length < len → YieldAt F (n - 1) Tryz.prog l #[.int .i64 ((x.1.val : Nat) : Int), .int .u64 x.2] W fun e W' =>
      (e = .returned (.bool true) ∧ J (pre ++ [x]) W' ∧ KpQ Bs gq len W W') ∨ (e = .returned (.bool false) ∧ Jx (pre ++ [x]) W'))
    (W : World) (hBs : W.cell? ⟨Bs, 0, none⟩ = some (.slice (some ⟨gq, 0, none⟩) len cap)) (zs0 : List Int) (hc : Arr W gq zs0) (hzl : zs0.length = len) (h0 : J [] W) :
    CallsIn F n Tryz.prog 155 #[.func (.yield l) #[] #[], .pointer (some ⟨Bs, 0, none⟩)] W fun e W' => (∃ v, e = .returned v) ∧
      ((∃ ys, pl ys = dn len len ∧ J ys W') ∨ (∃ pre, (∃ k, k ≤ len ∧ pl pre = dn len k) ∧ Jx pre W')) := by
  refine callsIn_of_wp Tryz.func155 rfl h7 ?_ hro
  simp only [Tryz.ntmps155, List.size_toArray, List.length_cons, List.length_nil, Nat.reduceAdd, Nat.reduceSub, Array.replicate_succ, Array.replicate_zero, List.push_toArray, List.append_toArray, List.nil_append, List.cons_append]
  gi_wp2
  gi_loopw [3] (fun i wr => ∃ (m : Nat) (pre : List (Fin len × Int)) (zs : List Int), m ≤ len ∧ pl pre = dn len m ∧ i = .int .i64 ((len : Int) - 1 - m) ∧ J pre wr ∧ wr.heap[Bs]? = W.heap[Bs]? ∧ Arr wr gq zs ∧ zs.length = len)
    (fun i _ => (intOf i + 1).toNat)
  case atStart => exact ⟨0, [], zs0, Nat.zero_le _, rfl, by simp, h0, rfl, hc, hzl⟩
  case round =>
    obtain ⟨m, pre, zs, hm, hpre, rfl, hJs, hbk, hA, hzn⟩ := hrel
    have hBs' : wr.cell? ⟨Bs, 0, none⟩ = some (.slice (some ⟨gq, 0, none⟩) len cap) := (World.cell?_of_block (w := W) hbk).trans hBs
    have HP := Lib.hid hpre
    have hpl : pre.length = m := by have := congrArg List.length hpre; unfold pl at this; rwa [List.length_map, dn, upto_length] at this
    clear hpre
    by_cases hlt : m < len
    · obtain ⟨r, hr⟩ : ∃ r : Nat, (len : Int) - 1 - m = r := ⟨len - 1 - m, by omega⟩
      have hrl : r < len := by omega
      have hcx := hA.cell (k := r) (by omega)
      obtain ⟨fn, tmps, assign, body, hy, hR⟩ := hY pre (⟨r, hrl⟩, lim zs r) wr hJs (by rw [hpl]; exact hlt)
      dsimp only at hy
      have HL := Lib.hid hpl
      have HR := Lib.hid hr
      have HZ := Lib.hid hzn
      have HA := Lib.hid hA
      have HK := Lib.hid hbk
      rw [hr]
      clear hr hpl hzn hA hbk hc hzl
      gi_wp2
      refine hR.mono ?_
      rintro e W3 (⟨rfl, hJ3, hk3⟩ | ⟨rfl, hJx3⟩)
      · have hz3 := hk3.2 zs HA.out HZ.out
        have HK3 := Lib.hid (hk3.1.trans HK.out)
        have HZ3 := Lib.hid hz3
        clear hk3 hz3
        gi_wp2
        go_roundw
        case rel =>
          obtain ⟨zs', hA', hn'⟩ := HZ3.out
          exact ⟨m + 1, pre ++ [(⟨r, hrl⟩, lim zs r)], zs', by omega, by
            have h1 := HR.out
            have h2 := HP.out
            unfold pl at h2 ⊢
            rw [List.map_append, h2]; unfold dn; rw [upto_succ]; simp; omega, by have := HR.out; congr 1; omega, hJ3, HK3.out, hA', hn'⟩
        case measure => simp [intOf]
      · gi_wp2
        refine bodyPost_ret (results_none rfl _ _ _) rfl ?_
        exact ⟨⟨_, rfl⟩, .inr ⟨_, ⟨m + 1, by omega, by
          have h1 := HR.out
          have h2 := HP.out
          unfold pl at h2 ⊢
          rw [List.map_append, h2]; unfold dn; rw [upto_succ]; simp; omega⟩, hJx3⟩⟩
    · obtain rfl : m = len := by omega
      gi_wp2
      go_end0
      exact ⟨⟨_, rfl⟩, .inl ⟨_, HP.out, hJs⟩⟩
theorem backq_stops (F : Fence) (n : Nat) (h7 : F.fn 155) (hro : F.round = none) (hn : 1 ≤ n) (Bs gq : Nat) (len cap : Nat) (hreach : len ≤ 1099511627776) (w : World)
    (hBn : Bs < w.heap.size) (hc : w.cell? ⟨Bs, 0, none⟩ = some (.slice (some ⟨gq, 0, none⟩) len cap)) (zs : List Int) (hA : Arr w gq zs) (hzl : zs.length = len) :
    SeqStopsK F n Tryz.prog 155 #[.pointer (some ⟨Bs, 0, none⟩)] (fun x : Fin len × Int => #[Value.int .i64 ((x.1.val : Nat) : Int), Value.int .u64 x.2]) (KpQ Bs gq len) (fun ys => pl ys = dn len len)
      (fun pre => ∃ k, k ≤ len ∧ pl pre = dn len k) len w := fun l J Jx W hW _ _ hY h0 =>
  backq_in F n h7 hro hn l Bs gq len cap hreach J Jx hY W ((hW.cell (p := ⟨Bs, 0, none⟩) hBn).trans hc) zs (hA.below hW hA.lt) hzl h0
end Go.Proofs.YtfdpddlefobcpaaGreatDoor
/- What long of layer 3 answers, over this translation. -/
namespace Go.Proofs.YtfdpddlefobcpaaGreatDoor
open Go.RowKit Go.Shelf
set_option linter.unusedVariables false
set_option maxRecDepth 20000
open N
attribute [local go_sem] Oper.semAt_some
namespace N
theorem front_pos {ys : List Int} {n k : Nat} (hy : Dg B ys) (hn : 2 ≤ n) (hk : k ≤ 63) (h1 : val B ys * 2 ^ k < Q B n) (h2 : Q B n ≤ 2 * (val B ys * 2 ^ k)) : 0 < shd ys (n - 1) k := by
  obtain ⟨m, rfl⟩ : ∃ m, n = m + 1 := ⟨n - 1, by omega⟩
  rw [show m + 1 - 1 = m by omega, shd_eq hy m k (by omega)]
  have hq := Q_pos (b := B) (by decide) m
  have hQ1 : Q B (m + 1) = Q B m * 18446744073709551616 := Q_succ ..
  have hV := val_nonneg (b := B) (by decide) hy
  have hpp := W.pow_pos k
  have hy0 : 0 ≤ val B ys * 2 ^ k := Int.mul_nonneg hV (by omega)
  have f2 : val B ys * 2 ^ k / Q B m % B = val B ys * 2 ^ k / Q B m := by
    refine Int.emod_eq_of_lt (Int.ediv_nonneg hy0 (by omega)) (Int.ediv_lt_of_lt_mul (by omega) ?_)
    show _ < 18446744073709551616 * _
    omega
  rw [f2]
  have : 1 ≤ val B ys * 2 ^ k / Q B m := (Int.le_ediv_iff_mul_le hq).2 (by omega)
  omega
end N
namespace N
theorem pl_split {len : Nat} {pre : List (Fin len × Int)} {x : Fin len × Int} (h : pl (pre ++ [x]) = dn len (pre.length + 1)) : pl pre = dn len pre.length ∧ x.1.val = len - 1 - pre.length := by
  unfold pl at h ⊢
  rw [dn_succ, List.map_append] at h
  obtain ⟨e1, e2⟩ := List.append_inj' h rfl
  exact ⟨e1, by simpa using e2⟩
theorem pl_full {len : Nat} {pre : List (Fin len × Int)} {k : Nat} (h : pl pre = dn len k) : pre.length = k := by
  have := congrArg List.length h
  unfold pl at this
  rwa [List.length_map, dn_length] at this
/-- the digit that is estimated at place i -/
def dgt (ys R : List Int) (n k i : Nat) : Int :=
  estD (shd ((R.drop i).take (n + 1)) n k * 18446744073709551616 + shd ((R.drop i).take (n + 1)) (n - 1) k) (shd ys (n - 1) k) (shd ys (n - 2) k)
theorem wd_dgt (ys R : List Int) (n k i : Nat) : W.Wd (dgt ys R n k i) := by
  have h1 := wd_shd ((R.drop i).take (n + 1)) n k
  have h2 := wd_shd ((R.drop i).take (n + 1)) (n - 1) k
  have h3 := wd_shd ys (n - 2) k
  exact wd_estD (by unfold W.Wd at *; omega) h3.1
theorem est_place {ys R : List Int} {n k i : Nat} (hy : Dg B ys) (hd : Dg B R) (hn : 2 ≤ n) (hk : k ≤ 63) (h1 : val B ys * 2 ^ k < Q B n) (h2 : Q B n ≤ 2 * (val B ys * 2 ^ k)) (hV : val B ys < Q B n)
    (hlt : val B (R.drop i) < 18446744073709551616 * val B ys) : dgt ys R n k i * val B ys ≤ val B (R.drop i) + val B ys ∧ val B (R.drop i) < (dgt ys R n k i + 1) * val B ys := by
  have hQ : Q B (n + 1) = Q B n * 18446744073709551616 := Q_succ ..
  have e : val B ((R.drop i).take (n + 1)) = val B (R.drop i) := by
    show lo B (R.drop i) (n + 1) = _
    rw [← (val_div (by decide) (hd.drop i) (n + 1)).2]
    exact Int.emod_eq_of_lt (val_nonneg (by decide) (hd.drop i)) (by omega)
  have := est_rows (ys := ys) (ps := (R.drop i).take (n + 1)) (n := n) (k := k) hy ((hd.drop i).take (n + 1)) hn hk h1 h2 (by rw [e]; exact hlt)
  rw [e] at this
  exact this
end N
/-- the boxes of a long division: the divisor, the quotient's slice, how many limbs, the front -/
structure LgA (w : World) (F : Nat) (VB V4 : Value) (n : Nat) (k v1 v2 : Int) (W : World) : Prop where
  b3 : W.cell? ⟨w.heap.size, 0, none⟩ = some VB
  b4 : W.cell? ⟨w.heap.size + 1, 0, none⟩ = some V4
  f4 : W.frozen? ⟨w.heap.size + 1, 0, none⟩ = false
  b6 : W.cell? ⟨w.heap.size + 1 + 1, 0, none⟩ = some (.int .i64 n)
  p0 : W.cell? ⟨F, 0, none⟩ = some (.int .i64 k)
  p1 : W.cell? ⟨F, 1, none⟩ = some (.int .u64 v1)
  p2 : W.cell? ⟨F, 2, none⟩ = some (.int .u64 v2)
  bl : Below w.heap.size w W
  fs : w.heap.size + 3 ≤ F
  sz : F < W.heap.size
theorem LgA.under {w : World} {F : Nat} {VB V4 : Value} {n : Nat} {k v1 v2 : Int} {W W' : World} (h : LgA w F VB V4 n k v1 v2 W) {b : Nat} (hb : Below b W W') (hF : F < b) : LgA w F VB V4 n k v1 v2 W' := by
  have hs := h.fs
  have hz := h.sz
  have ne : ∀ x o u, x ≤ F → W.cell? ⟨x, o, none⟩ = some u → W'.cell? ⟨x, o, none⟩ = some u := fun x o u hx hu => (hb.cell (p := ⟨x, o, none⟩) (by show x < b; omega)).trans hu
  exact ⟨ne _ _ _ (by omega) h.b3, ne _ _ _ (by omega) h.b4, (hb.frozen (p := ⟨w.heap.size + 1, 0, none⟩) (by show w.heap.size + 1 < b; omega)).trans h.f4, ne _ _ _ (by omega) h.b6, ne _ _ _ (by omega) h.p0, ne _ _ _ (by omega) h.p1, ne _ _ _ (by omega) h.p2,
    h.bl.trans (hb.mono (by omega)), hs, Nat.lt_of_lt_of_le hz hb.size⟩
theorem LgA.grow {w : World} {F : Nat} {VB V4 : Value} {n : Nat} {k v1 v2 : Int} {W W' : World} (h : LgA w F VB V4 n k v1 v2 W) {r : Option Nat} (hg : W.grownBy W' r) (hr : ∀ g, r = some g → F < g) : LgA w F VB V4 n k v1 v2 W' :=
  h.under (b := F + 1) (below_grow hg h.sz (fun k e => hr k e)) (by omega)
theorem LgA.below {w : World} {F : Nat} {VB V4 : Value} {n : Nat} {k v1 v2 : Int} {W W' : World} (h : LgA w F VB V4 n k v1 v2 W) (hb : Below W.heap.size W W') : LgA w F VB V4 n k v1 v2 W' :=
  h.grow (r := none) (grow_below hb none) (fun g e => by cases e)
theorem LgA.put {w : World} {F : Nat} {VB V4 : Value} {n : Nat} {k v1 v2 : Int} {W : World} (h : LgA w F VB V4 n k v1 v2 W) (V : Value) : LgA w F VB V n k v1 v2 (W.setCell ⟨w.heap.size + 1, 0, none⟩ V) := by
  have hs := h.fs
  have ne : ∀ b o u, b ≠ w.heap.size + 1 → W.cell? ⟨b, o, none⟩ = some u → (W.setCell ⟨w.heap.size + 1, 0, none⟩ V).cell? ⟨b, o, none⟩ = some u := fun b o u hb hu =>
    (World.cell?_setCell_other _ _ _ _ (fun e => hb (congrArg Addr.block e).symm)).trans hu
  exact ⟨ne _ _ _ (by omega) h.b3, World.cell?_setCell_same' _ _ _ (by rw [h.b4]; rfl), by rw [World.frozen?_setCell]; exact h.f4, ne _ _ _ (by omega) h.b6, ne _ _ _ (by omega) h.p0, ne _ _ _ (by omega) h.p1, ne _ _ _ (by omega) h.p2,
    h.bl.setCell (by dsimp only; omega) _, hs, by rw [World.size_setCell]; exact h.sz⟩
/-- the state of a long division's loop -/
structure LgSt (w : World) (F G H er la cr lq n : Nat) (VB : Value) (k v1 v2 : Int) (qs R : List Int) (W : World) : Prop where
  a : LgA w F VB (.slice (some ⟨H + 1, 0, none⟩) lq lq) n k v1 v2 W
  b8 : W.cell? ⟨H, 0, none⟩ = some (.slice (some ⟨G, 0, none⟩) (la + 1) cr)
  arr : Arr W (H + 1) qs
  row : ArP W G er R
  sz : H + 3 ≤ W.heap.size
  fg : F < G
  gh : G < H
section
variable {w : World} {F G H er la cr lq n : Nat} {VB : Value} {k v1 v2 : Int} {qs R : List Int} {W W' : World}
theorem LgSt.below (h : LgSt w F G H er la cr lq n VB k v1 v2 qs R W) (hb : Below (H + 3) W W') : LgSt w F G H er la cr lq n VB k v1 v2 qs R W' := by
  have h1 := h.fg
  have h2 := h.gh
  exact ⟨h.a.under hb (by omega), (hb.cell (p := ⟨H, 0, none⟩) (by show H < H + 3; omega)).trans h.b8, h.arr.below hb (by omega), h.row.below hb (by omega), Nat.le_trans h.sz hb.size, h1, h2⟩
theorem LgSt.new (h : LgSt w F G H er la cr lq n VB k v1 v2 qs R W) (hb : Below W.heap.size W W') : LgSt w F G H er la cr lq n VB k v1 v2 qs R W' := h.below (hb.mono h.sz)
theorem LgSt.store (h : LgSt w F G H er la cr lq n VB k v1 v2 qs R W) (j : Nat) (v : Int) : LgSt w F G H er la cr lq n VB k v1 v2 (qs.set j v) R (W.setCell ⟨H + 1, j, none⟩ (.int .u64 v)) := by
  have h1 := h.fg
  have h2 := h.gh
  have h3 := h.sz
  exact ⟨h.a.grow (grow_set W (H + 1) j _) (fun g e => by cases e; omega), (World.cell?_setCell_other _ _ _ _ (fun e => absurd (congrArg Addr.block e) (by show ¬ H + 1 = H; omega))).trans h.b8,
    h.arr.set j v, h.row.far (by show G ≠ H + 1; omega) _, by rw [World.size_setCell]; exact h3, h1, h2⟩
theorem LgSt.turn (h : LgSt w F G H er la cr lq n VB k v1 v2 qs R W) {R' : List Int} (hr : ArP W' G er R') (hg : W.grownBy W' (some G)) : LgSt w F G H er la cr lq n VB k v1 v2 qs R' W' := by
  have h1 := h.fg
  have h2 := h.gh
  have h3 := h.sz
  exact ⟨h.a.grow hg (fun g e => by cases e; omega), hg.cell h.b8 (by intro e; injection e with e; have e' : H = G := e; omega), (hg.block _ (by omega) (by intro e; injection e with e; omega)).trans h.arr, hr, Nat.le_trans h3 hg.size, h1, h2⟩
end
theorem LgSt.drew {w : World} {F G H er la cr lq n : Nat} {VB : Value} {k v1 v2 : Int} {qs R : List Int} {W : World} (h : LgSt w F G H er la cr lq n VB k v1 v2 qs R W) : LgSt w F G H er la cr lq n VB k v1 v2 qs R W.drew :=
  h.below ⟨rfl, rfl, rfl, Nat.le_refl _, fun _ _ => rfl⟩
/-- of what lay there the blocks G and K alone have turned -/
structure Two (G K : Nat) (W W' : World) : Prop where
  os : W'.os = W.os
  tape : W'.tape = W.tape
  output : W'.output = W.output
  size : W.heap.size ≤ W'.heap.size
  block : ∀ j, j < W.heap.size → j ≠ G → j ≠ K → W'.heap[j]? = W.heap[j]?
theorem Two.of {G K : Nat} {W W' : World} {r : Option Nat} (h : W.grownBy W' r) (hr : ∀ g, r = some g → g = G ∨ g = K) : Two G K W W' :=
  ⟨h.os, h.tape, h.output, h.size, fun j hj h1 h2 => h.block j hj (fun e => by rcases hr j e.symm with e | e <;> omega)⟩
theorem Two.trans {G K : Nat} {A C D : World} (h : Two G K A C) (k : Two G K C D) : Two G K A D :=
  ⟨k.os.trans h.os, k.tape.trans h.tape, k.output.trans h.output, Nat.le_trans h.size k.size, fun j hj h1 h2 => (k.block j (Nat.lt_of_lt_of_le hj h.size) h1 h2).trans (h.block j hj h1 h2)⟩
theorem Two.drew (G K : Nat) (W : World) : Two G K W W.drew := ⟨rfl, rfl, rfl, Nat.le_refl _, fun _ _ _ _ => rfl⟩
theorem Two.kpq {G K Bs len : Nat} {W W' : World} (h : Two G K W W') (hB : Bs < W.heap.size) (h1 : Bs ≠ G) (h2 : Bs ≠ K) {zs : List Int} (hA : Arr W' K zs) (hl : zs.length = len) : KpQ Bs K len W W' :=
  ⟨h.block Bs hB h1 h2, fun _ _ _ => ⟨zs, hA, hl⟩⟩
theorem Two.keeps {G K B : Nat} {W W' : World} (h : Two G K W W') (hG : G < B) (hK : K < B) : KeepsFrom B W W' :=
  ⟨h.size, fun j o hB hj _ => (h.block j (Array.getElem?_eq_some_iff.1 hj).1 (by omega) (by omega)).trans hj⟩
set_option maxRecDepth 100000 in
set_option maxHeartbeats 2000000 in
theorem long_any (w : World) (A A' : Option Addr) (la c n d0 : Nat) (xs ys : List Int) (hx : Sl w A la c xs) (hy : Sl w A' n d0 ys) (hn : 2 ≤ n) (hnn : nn ys = n) (hle : n ≤ la) (hla : la ≤ 1099511627775) (hxn : nn xs = la) :
    Calls Tryz.prog 128 #[.slice A la c, .slice A' n d0] w (OutQ w la la (val B xs / val B ys) (val B xs % val B ys)) := by
  obtain ⟨k, hk63, hkL, hk1, hk2⟩ := normal hy.dg hnn (by omega)
  obtain ⟨lq, hlq, hlq1⟩ : ∃ lq : Nat, ((la : Int) - (n : Int) + 1) = (lq : Int) ∧ lq + n = la + 1 := ⟨la - n + 1, by omega, by omega⟩
  have hmk : ∀ W : World, (Instr.makeSlice 58 (.int .i64 (lq : Nat)) (.int .i64 (lq : Nat))).run Tryz.prog W = .ok (.slice (some ⟨W.heap.size, 0, none⟩) lq lq) (W.alloc (.cells (madeCells #[.int .u64 0] lq) 72)) := fun W => make_run _ slNat lq (by omega) W
  have hl1 : ∀ o, Sl (w.alloc o) A' n d0 ys := fun o => hy.below ((Below.refl _ w).alloc (Nat.le_refl _) o)
  have hro : Fence.wide.round = none := rfl
  refine calls_of_wp_q 6 Tryz.func128 rfl ?_
  simp only [Tryz.ntmps128, List.size_toArray, List.length_cons, List.length_nil, Nat.reduceAdd, Nat.reduceSub, Array.replicate_succ, Array.replicate_zero, List.push_toArray, List.append_toArray, List.nil_append, List.cons_append]
  go_wp2_with fail
  obtain ⟨W0, hW0⟩ : ∃ W0 : World, W0 = ((w.alloc (.cells #[.slice A' n d0] 58)).alloc (.cells #[.slice none 0 0] 58)).alloc (.cells #[.int .i64 n] 3) := ⟨_, rfl⟩
  have z0 : W0.heap.size = w.heap.size + 3 := by rw [hW0]; simp
  have b0 : Below w.heap.size w W0 := by rw [hW0]; exact (((Below.refl _ w).alloc (Nat.le_refl _) _).alloc (by simp) _).alloc (by simp; omega) _
  have c3 : W0.cell? ⟨w.heap.size, 0, none⟩ = some (.slice A' n d0) := by rw [hW0]; go_simp
  have c4 : W0.cell? ⟨w.heap.size + 1, 0, none⟩ = some (.slice none 0 0) := by rw [hW0]; go_simp
  have c6 : W0.cell? ⟨w.heap.size + 1 + 1, 0, none⟩ = some (.int .i64 n) := by rw [hW0]; go_simp
  have f4 : W0.frozen? ⟨w.heap.size + 1, 0, none⟩ = false := by rw [hW0]; go_simp
  rw [← hW0]
  clear hW0
  have hl64 : 0 ≤ W.len (lim ys (n - 1)) ∧ W.len (lim ys (n - 1)) ≤ 64 := by have := len_nonneg (lim ys (n - 1)); omega
  refine (frontOf_len _ A' n d0 ys (hy.below b0) hn k _ rfl hkL hl64.1 hl64.2).mono ?_
  rintro e w1 ⟨rfl, b1⟩
  have b01 := b0.trans (b1.mono (by omega))
  have hA : LgA w w1.heap.size (.slice A' n d0) (.slice none 0 0) n k (shd ys (n - 1) k) (shd ys (n - 2) k) (w1.alloc (.cells #[.int .i64 k, .int .u64 (shd ys (n - 1) k), .int .u64 (shd ys (n - 2) k)] 178)) := by
    have c3' := (b1.cell (p := ⟨w.heap.size, 0, none⟩) (by show w.heap.size < _; omega)).trans c3
    have c4' := (b1.cell (p := ⟨w.heap.size + 1, 0, none⟩) (by show w.heap.size + 1 < _; omega)).trans c4
    have c6' := (b1.cell (p := ⟨w.heap.size + 1 + 1, 0, none⟩) (by show w.heap.size + 1 + 1 < _; omega)).trans c6
    have f4' := (b1.frozen (p := ⟨w.heap.size + 1, 0, none⟩) (by show w.heap.size + 1 < _; omega)).trans f4
    have z1 := b1.size
    have al : ∀ o, Below w1.heap.size w1 (w1.alloc o) := fun o => (Below.refl _ w1).alloc (Nat.le_refl _) o
    exact ⟨((al _).cell (p := ⟨w.heap.size, 0, none⟩) (by show w.heap.size < _; omega)).trans c3', ((al _).cell (p := ⟨w.heap.size + 1, 0, none⟩) (by show w.heap.size + 1 < _; omega)).trans c4',
      ((al _).frozen (p := ⟨w.heap.size + 1, 0, none⟩) (by show w.heap.size + 1 < _; omega)).trans f4', ((al _).cell (p := ⟨w.heap.size + 1 + 1, 0, none⟩) (by show w.heap.size + 1 + 1 < _; omega)).trans c6',
      by go_simp, by go_simp, by go_simp, b01.trans ((al _).mono b01.size), by omega, by simp⟩
  clear c3 c4 c6 f4
  have hF0 := b01.size
  have hF : w.heap.size + 3 ≤ w1.heap.size := by have := b1.size; omega
  clear b1 b01
  go_wp2_with fail
  obtain ⟨W1, hW1⟩ : ∃ W1 : World, W1 = w1.alloc (.cells #[.int .i64 k, .int .u64 (shd ys (n - 1) k), .int .u64 (shd ys (n - 2) k)] 178) := ⟨_, rfl⟩
  have zW1 : W1.heap.size = w1.heap.size + 1 := by rw [hW1]; simp
  rw [← hW1] at hA ⊢
  clear hW1
  refine (trim_any W1 A la c xs (hx.below hA.bl) (by omega)).mono ?_
  rintro e w2 ⟨At, nt, ct, rfl, hnt, hot, hb2⟩
  have hA2 := hA.below hb2
  have hnt2 : nt = la := by rw [← hot.len, ← hxn, nn_limbs hx.dg]
  subst hnt2
  have hlit := Sl.lit w2 [0] #[.int .u64 0] 1 rfl (Dg.one (by omega) (by decide)) rfl (by omega)
  have hot2 := hot.below ((Below.refl _ w2).alloc (Nat.le_refl _) (.cells #[.int .u64 0] 72))
  have hlim : limbs (val B xs) = xs := by rw [limbs_of hx.dg]; unfold tr; rw [hxn, ← hx.len, List.take_length]
  rw [hlim] at hot2
  have HLM := Lib.hid hlim
  have HX := Lib.hid hx
  have HXN := Lib.hid hxn
  have HNN := Lib.hid hnn
  have HHL := Lib.hid hkL
  have HZ1 := Lib.hid zW1
  have HZ0 := Lib.hid z0
  clear hlim hx hxn hnn hkL zW1 hot hA z0
  go_wp2_with (first
    | (at_builtin; refine wp_app rfl _ _ _ rfl slNat W1.heap.size rfl hot2 rfl hlit (by omega) (by omega) (by have := hb2.size; simp; omega) ?_; intro A2 c2 w4 hown4 hg4 hat4 hb4
       have hA4 := (hA2.below ((Below.refl _ w2).alloc (Nat.le_refl _) _)).under hb4 (by have := HZ1.out; omega)
       have k6 := hA4.b6
       have k4 := hA4.b4
       have kf4 := hA4.f4
       have s6 : w.heap.size + 1 + 1 < w4.heap.size := by have := hA4.sz; omega
       have s4 : w.heap.size + 1 < w4.heap.size := by omega
       have al2 : ∀ o o', Below w4.heap.size w4 ((w4.alloc o).alloc o') := fun o o' => ((Below.refl _ w4).alloc (Nat.le_refl _) o).alloc (by simp) o'
       have kA : ∀ o o', ((w4.alloc o).alloc o').cell? ⟨w.heap.size + 1, 0, none⟩ = some (.slice none 0 0) := fun o o' => ((al2 o o').cell (p := ⟨w.heap.size + 1, 0, none⟩) s4).trans k4
       have kF : ∀ o o', ((w4.alloc o).alloc o').frozen? ⟨w.heap.size + 1, 0, none⟩ = false := fun o o' => ((al2 o o').frozen (p := ⟨w.heap.size + 1, 0, none⟩) s4).trans kf4
       clear al2
       have HA4 := Lib.hid hA4
       have HO4 := Lib.hid hown4
       have HG4 := Lib.hid hg4
       have HT4 := Lib.hid hat4
       have HB4 := Lib.hid hb4
       clear hA4 hown4 hg4 hat4 hb4)
    | (go_at_call 142; refine ((callsIn_wide (n := 5)).1 (back_in _ _ trivial rfl _ _ _ _)).mono ?_; rintro e w5 ⟨rfl, rfl⟩))
  obtain ⟨G, hG0, hG1, hG2, hG3, hrow⟩ := HO4.out.arp (by omega)
  subst hG0
  have hGl := hrow.lt
  have hFG : w1.heap.size < G := by have := HZ1.out; omega
  obtain ⟨L, hL⟩ : ∃ L : World, L = (((w4.alloc (.cells #[.slice (some ⟨G, 0, none⟩) (nt + 1) c2] 58)).alloc (.cells (madeCells #[.int .u64 0] lq) 72)).setCell ⟨w.heap.size + 1, 0, none⟩ (.slice (some ⟨w4.heap.size + 1, 0, none⟩) lq lq)).alloc
    (.cells #[.slice (some ⟨w4.heap.size + 1, 0, none⟩) lq lq] 58) := ⟨_, rfl⟩
  have hst : LgSt w w1.heap.size G w4.heap.size (c2 - (nt + 1)) nt c2 lq n (.slice A' n d0) k (shd ys (n - 1) k) (shd ys (n - 2) k) (List.replicate lq 0) (xs ++ [0]) L ∧ L.cell? ⟨w4.heap.size + 1 + 1, 0, none⟩ = some (.slice (some ⟨w4.heap.size + 1, 0, none⟩) lq lq) ∧ L.heap.size = w4.heap.size + 3 := by
    have al2 : ∀ o o', Below w4.heap.size w4 ((w4.alloc o).alloc o') := fun o o' => ((Below.refl _ w4).alloc (Nat.le_refl _) o).alloc (by simp) o'
    have q1 := ((HA4.out.below (al2 (.cells #[.slice (some ⟨G, 0, none⟩) (nt + 1) c2] 58) (.cells (madeCells #[.int .u64 0] lq) 72))).put (.slice (some ⟨w4.heap.size + 1, 0, none⟩) lq lq)).below ((Below.refl _ _).alloc (Nat.le_refl _) (.cells #[.slice (some ⟨w4.heap.size + 1, 0, none⟩) lq lq] 58))
    have q2 : Arr ((w4.alloc (.cells #[.slice (some ⟨G, 0, none⟩) (nt + 1) c2] 58)).alloc (.cells (madeCells #[.int .u64 0] lq) 72)) (w4.heap.size + 1) (List.replicate lq 0) := by
      have := Arr.made (w4.alloc (.cells #[.slice (some ⟨G, 0, none⟩) (nt + 1) c2] 58)) lq
      rwa [World.size_alloc] at this
    have hws : w.heap.size + 1 < G := by omega
    rw [← hL] at q1
    refine ⟨⟨q1, ?_, ?_, ?_, by rw [hL]; simp, hFG, hGl⟩, ?_, by rw [hL]; simp⟩
    · have h9 : ((w4.alloc (.cells #[.slice (some ⟨G, 0, none⟩) (nt + 1) c2] 58)).alloc (.cells (madeCells #[.int .u64 0] lq) 72)).cell? ⟨w4.heap.size, 0, none⟩ = some (.slice (some ⟨G, 0, none⟩) (nt + 1) c2) := by go_simp
      rw [hL, World.cell?_alloc_lt _ _ _ (by rw [World.size_setCell]; simp; omega), World.cell?_setCell_other _ _ _ _ (fun e => absurd (congrArg Addr.block e) (by show ¬ w.heap.size + 1 = w4.heap.size; omega))]
      exact h9
    · rw [hL]; exact (q2.far (by show w4.heap.size + 1 ≠ w.heap.size + 1; omega) _).alloc _
    · rw [hL]; exact (((hrow.alloc _).alloc _).far (by show G ≠ w.heap.size + 1; omega) _).alloc _
    · rw [hL]; go_simp
  obtain ⟨hst, hsv, hsz⟩ := hst
  rw [← hL]
  clear hL kA kF k6 k4 kf4 hmk
  have hV0 : val B ys < Q B n := val_lt_nn' hy.dg (by rw [HNN.out]; exact Nat.le_refl _)
  refine (wpIn_wide (n := 6)).1 ?_
  refine wpIn_rangeFunc_ownG (F := Fence.wide) (n := 6) hro (by omega) (gf := 155) (lb := #[.pointer (some ⟨w4.heap.size + 1 + 1, 0, none⟩)]) rfl trivial (enters_of Tryz.func155 (by kernel_rfl) rfl)
    (backq_stops Fence.wide 5 trivial rfl (by omega) (w4.heap.size + 1 + 1) (w4.heap.size + 1) lq lq (by omega) L (by omega) hsv _ hst.arr (by simp))
    KpQ.trans (KpQ.put (by omega) (by omega)) (Below.refl _ _) (fun _ => rfl)
    (fun pre W => ∃ qs R, LgSt w w1.heap.size G w4.heap.size (c2 - (nt + 1)) nt c2 lq n (.slice A' n d0) k (shd ys (n - 1) k) (shd ys (n - 2) k) qs R W ∧ qs.length = lq ∧ Dg B qs ∧ R.length = nt + 1 ∧ Dg B R ∧ (pl pre = dn lq pre.length → LInv (val B ys) (val B xs) lq pre.length qs R))
    (fun _ _ _ => False)
    (ownFrom_of_below (fun s W W' h hb => by obtain ⟨qs, R, h1, h2⟩ := h; exact ⟨qs, R, h1.below (by rw [hsz] at hb; exact hb), h2⟩) (fun s W h => by obtain ⟨qs, R, h1, h2⟩ := h; rw [hsz]; exact h1.sz))
    (fun _ _ _ _ _ hs _ _ => hs)
    ⟨_, _, hst, by simp, Dg.zeros (by decide) _, by rw [List.length_append, HX.out.len]; rfl, HX.out.dg.append (Dg.one (by omega) (by decide)), fun _ => LInv.start HX.out.dg rfl (by rw [HX.out.len]; omega) (by omega) (top_le hy.dg HNN.out (by omega))⟩
    (fun x => { tmps := #[.slice A nt c, .slice A' n d0, undef, .pointer (some ⟨w.heap.size, 0, none⟩), .pointer (some ⟨w.heap.size + 1, 0, none⟩), .slice none 0 0, .pointer (some ⟨w.heap.size + 1 + 1, 0, none⟩), .pointer (some ⟨w1.heap.size, 0, none⟩), .pointer (some ⟨w4.heap.size, 0, none⟩), .int .i64 ((x.1.val : Nat) : Int), undef,
      .slice A' n d0, .int .i64 n, .slice A' n d0, .agg #[.int .i64 k, .int .u64 (shd ys (n - 1) k), .int .u64 (shd ys (n - 2) k)], .slice A nt c, .slice At nt ct, .slice (some ⟨w2.heap.size, 0, none⟩) 1 1, .slice (some ⟨G, 0, none⟩) (nt + 1) c2, .slice A nt c, .int .i64 nt, .int .i64 n, .int .i64 ((nt : Int) - n), .int .i64 lq,
      .slice (some ⟨w4.heap.size + 1, 0, none⟩) lq lq, .slice (some ⟨w4.heap.size + 1, 0, none⟩) lq lq, .func (.func 155) #[] #[.pointer (some ⟨w4.heap.size + 1 + 1, 0, none⟩)], .int .i64 ((x.1.val : Nat) : Int), .int .u64 x.2,
      undef, undef, undef, undef, undef, undef, undef, undef, undef, undef, undef, undef, undef, undef, undef, undef, undef, undef, undef, undef, undef, undef, undef, undef, undef, undef, undef, undef, undef, undef, undef, undef, undef], defers := [] }) ?assign ?body ?done ?stop
  case assign =>
    intro l x W K hK
    gi_wp2
    exact hK
  case body =>
    rintro l pre x V ⟨qs, R, h, hql, hqd, hRl, hRd, hI⟩ hpl
    have hxl := x.1.2
    have h2 : 1 ≤ 6 - 1 - 1 := by omega
    have hmx : Tryz.prog.follows .mixedOrders = true := by kernel_rfl
    have g8 := h.b8
    have g6 := h.a.b6
    have HH := Lib.hid h
    have HI := Lib.hid hI
    have HQL := Lib.hid hql
    have HQD := Lib.hid hqd
    have HRL := Lib.hid hRl
    have HRD := Lib.hid hRd
    have HPL := Lib.hid hpl
    have HST := Lib.hid hst
    have HSZ := Lib.hid hsz
    clear hst hsv hsz h hI hql hqd hRl hRd hpl
    generalize hxi : x.1.val = xi at *
    have HXI := Lib.hid hxi
    clear hxi
    have i1 : (xi : Int) + (n : Int) + 1 ≤ (c2 : Int) := by omega
    have i2 : (0 : Int) ≤ (xi : Int) := by omega
    have i3 : xi + n + 1 ≤ nt + 1 := by omega
    have i4 : c2 ≤ 9223372036854775807 := by unfold maxLen at hG3; omega
    have i5 : xi + n + 1 - xi = n + 1 := by omega
    have i6 : (xi : Int) < (lq : Int) := by omega
    have i7 : xi + (n + 1) ≤ R.length := by rw [HRL.out]; omega
    obtain ⟨dd, hdd⟩ : ∃ dd : Int, dgt ys R n k xi = dd := ⟨_, rfl⟩
    have hdw : W.Wd dd := by rw [← hdd]; exact wd_dgt ys R n k xi
    have HDD := Lib.hid hdd
    clear hdd
    have hes : Hid (∀ V1 : World, LgSt w w1.heap.size G w4.heap.size (c2 - (nt + 1)) nt c2 lq n (.slice A' n d0) k (shd ys (n - 1) k) (shd ys (n - 2) k) qs R V1 → Calls Tryz.prog 146 #[.agg #[.int .i64 k, .int .u64 (shd ys (n - 1) k), .int .u64 (shd ys (n - 2) k)], .slice (some ⟨G, xi, none⟩) (n + 1) (c2 - xi)] V1 fun e w' => e = .returned (.int .u64 dd) ∧ Below V1.heap.size V1 w') := Lib.hid (fun V1 hV1 => by
      have := estimate_any V1 (some ⟨G, xi, none⟩) n (c2 - xi) _ (hV1.row.part HRD.out i7 (by omega) (by omega)) (by omega) k (shd ys (n - 1) k) (shd ys (n - 2) k) (by omega) (by omega) (wd_shd _ _ _) (wd_shd _ _ _) (front_pos hy.dg hn hk63 hk1 hk2)
      rw [← HDD.out]
      exact this)
    have hy' : Hid (∀ V1 : World, Below w.heap.size w V1 → Sl V1 A' n d0 ys) := Lib.hid (fun V1 hb => hy.below hb)
    gi_wp2
    refine Rd.held_round (S := fun w' => w'.cell? ⟨w.heap.size + 1, 0, none⟩ = some (.slice (some ⟨w4.heap.size + 1, 0, none⟩) lq lq) ∧ w'.cell? ⟨w1.heap.size, 0, none⟩ = some (.int .i64 k) ∧ w'.cell? ⟨w1.heap.size, 1, none⟩ = some (.int .u64 (shd ys (n - 1) k)) ∧ w'.cell? ⟨w1.heap.size, 2, none⟩ = some (.int .u64 (shd ys (n - 2) k)))
      hmx (by kernel_rfl) (by rintro ⟨_, _, h⟩; exact (h : False)) ⟨HH.out.a.b4, HH.out.a.p0, HH.out.a.p1, HH.out.a.p2⟩ (fun hHeld => ?_)
    refine wpAnyH_take (i := 0) (oi := { dst := _, op := _, type := _, pos := _, after := _, guard := _ }) (v := ?_) rfl (by kernel_rfl) (by kernel_rfl) (by kernel_rfl) (fun _ _ _ h => h) (Or.inl ⟨by rfl, ?_⟩) (by assumption) ?_
    rotate_left 1
    · intro w1 hS1
      try dsimp only at hS1
      go_simp
      try with_reducible rfl
    try simp only [Act.put, List.setIfInBounds_toArray, List.set_cons_zero, List.set_cons_succ]
    refine wpAnyH_take (i := 1) (oi := { dst := _, op := _, type := _, pos := _, after := _, guard := _ }) (v := ?_) rfl (by kernel_rfl) (by kernel_rfl) (by kernel_rfl) (fun _ _ _ h => h) (Or.inl ⟨by rfl, ?_⟩) (by assumption) ?_
    rotate_left 1
    · intro w1 hS1
      try dsimp only at hS1
      go_simp
      try with_reducible rfl
    try simp only [Act.put, List.setIfInBounds_toArray, List.set_cons_zero, List.set_cons_succ]
    refine wpAnyH_take (i := 2) (oi := { dst := _, op := _, type := _, pos := _, after := _, guard := _ }) (v := ?_) rfl (by kernel_rfl) (by kernel_rfl) (by kernel_rfl) (fun _ _ _ h => h) (Or.inl ⟨by rfl, ?_⟩) (by assumption) ?_
    rotate_left 1
    · intro w1 hS1
      try dsimp only at hS1
      go_simp
      try with_reducible rfl
    try simp only [Act.put, List.setIfInBounds_toArray, List.set_cons_zero, List.set_cons_succ]
    refine wpAnyH_take (i := 3) (oi := { dst := _, op := _, type := _, pos := _, after := _, guard := _ }) (v := ?_) rfl (by kernel_rfl) (by kernel_rfl) (by kernel_rfl) (fun _ _ _ h => h) (Or.inl ⟨by rfl, ?_⟩) (by assumption) ?_
    rotate_left 1
    · intro w1 hS1
      try dsimp only at hS1
      go_simp
      try with_reducible rfl
    try simp only [Act.put, List.setIfInBounds_toArray, List.set_cons_zero, List.set_cons_succ]
    refine wpAnyH_ready (rs := [4]) (by kernel_rfl) (by simp) ?_
    refine AllReadyH.cons (o := { dst := _, op := _, type := _, pos := _, after := _, guard := _ }) rfl (fun K hK => ?_) AllReadyH.nil
    go_simp
    (go_at_call 146; refine (hes.out _ HH.out.drew).mono ?_; rintro e w5 ⟨rfl, hb5⟩)
    have h5 := Lib.hid (HH.out.drew.new hb5)
    have t5 := Lib.hid ((Two.drew G (w4.heap.size + 1) V).trans (Two.of (grow_below hb5 none) (fun g e => by cases e)))
    have qc5 := h5.out.arr.cell (k := xi) (by rw [HQL.out]; omega)
    have qf5 := h5.out.arr.frozen xi
    clear hb5
    refine hK.out _ _ ?_ (fun hHeld2 => ?_)
    · exact ⟨h5.out.a.b4, h5.out.a.p0, h5.out.a.p1, h5.out.a.p2⟩
    clear hK K
    try simp only [Act.put, List.setIfInBounds_toArray, List.set_cons_zero, List.set_cons_succ]
    refine wpAnyH_take (i := 5) (oi := { dst := _, op := _, type := _, pos := _, after := _, guard := _ }) (v := ?_) rfl (by kernel_rfl) (by kernel_rfl) (by kernel_rfl) (fun _ _ _ h => h) (Or.inl ⟨by rfl, ?_⟩) (by assumption) ?_
    rotate_left 1
    · intro w1 hS1
      try dsimp only at hS1
      go_simp
      try with_reducible rfl
    try simp only [Act.put, List.setIfInBounds_toArray, List.set_cons_zero, List.set_cons_succ]
    refine wpAnyH_ready (rs := [6]) (by kernel_rfl) (by simp) ?_
    refine AllReadyH.cons (o := { dst := _, op := _, type := _, pos := _, after := _, guard := _ }) rfl (fun K hK => ?_) AllReadyH.nil
    go_simp
    have h6 := Lib.hid (h5.out.store xi dd)
    have t6 := Lib.hid (t5.out.trans (Two.of (grow_set w5 (w4.heap.size + 1) xi (.int .u64 dd)) (fun g e => by cases e; exact .inr rfl)))
    refine hK.out _ _ ?_ (fun hHeld3 => ?_)
    · exact ⟨h6.out.a.b4, h6.out.a.p0, h6.out.a.p1, h6.out.a.p2⟩
    clear hK K
    try simp only [Act.put, List.setIfInBounds_toArray, List.set_cons_zero, List.set_cons_succ]
    refine wpAnyH_done (by kernel_rfl) ?_ _
    obtain ⟨W6, hW6⟩ : ∃ W6 : World, W6 = w5.setCell ⟨w4.heap.size + 1, xi, none⟩ (.int .u64 dd) := ⟨_, rfl⟩
    rw [← hW6] at h6 t6 ⊢
    clear hW6 qc5 qf5 h5 t5 hHeld hHeld2 hHeld3
    have hq6 : (qs.set xi dd).length = lq := by rw [List.length_set]; exact HQL.out
    have c6 := h6.out.arr.cell (k := xi) (by rw [hq6]; omega)
    have e6 : lim (qs.set xi dd) xi = dd := by rw [lim_set _ _ _ _ (by rw [HQL.out]; omega), if_pos rfl]
    rw [e6] at c6
    have HQ6 := Lib.hid hq6
    clear e6 hq6
    have ha : Aw A' G := by
      obtain ⟨ad, e1, e2, _⟩ := hy.cell (k := 0) (by omega)
      intro a e
      rw [e1] at e
      cases e
      omega
    gi_wp2
    refine Rd.held_round (S := fun w' => w'.cell? ⟨w.heap.size, 0, none⟩ = some (.slice A' n d0) ∧ w'.cell? ⟨w.heap.size + 1, 0, none⟩ = some (.slice (some ⟨w4.heap.size + 1, 0, none⟩) lq lq) ∧ w'.cell? ⟨w4.heap.size + 1, xi, none⟩ = some (.int .u64 dd))
      hmx (by kernel_rfl) (by rintro ⟨_, _, h⟩; exact (h : False)) ⟨h6.out.a.b3, h6.out.a.b4, c6⟩ (fun hHeld => ?_)
    refine wpAnyH_take (i := 0) (oi := { dst := _, op := _, type := _, pos := _, after := _, guard := _ }) (v := ?_) rfl (by kernel_rfl) (by kernel_rfl) (by kernel_rfl) (fun _ _ _ h => h) (Or.inl ⟨by rfl, ?_⟩) (by assumption) ?_
    rotate_left 1
    · intro w1 hS1
      try dsimp only at hS1
      go_simp
      try with_reducible rfl
    try simp only [Act.put, List.setIfInBounds_toArray, List.set_cons_zero, List.set_cons_succ]
    refine wpAnyH_take (i := 1) (oi := { dst := _, op := _, type := _, pos := _, after := _, guard := _ }) (v := ?_) rfl (by kernel_rfl) (by kernel_rfl) (by kernel_rfl) (fun _ _ _ h => h) (Or.inl ⟨by rfl, ?_⟩) (by assumption) ?_
    rotate_left 1
    · intro w1 hS1
      try dsimp only at hS1
      go_simp
      try with_reducible rfl
    try simp only [Act.put, List.setIfInBounds_toArray, List.set_cons_zero, List.set_cons_succ]
    refine wpAnyH_take (i := 2) (oi := { dst := _, op := _, type := _, pos := _, after := _, guard := _ }) (v := ?_) rfl (by kernel_rfl) (by kernel_rfl) (by kernel_rfl) (fun _ _ _ h => h) (Or.inl ⟨by rfl, ?_⟩) (by assumption) ?_
    rotate_left 1
    · intro w1 hS1
      try dsimp only at hS1
      go_simp
      try with_reducible rfl
    try simp only [Act.put, List.setIfInBounds_toArray, List.set_cons_zero, List.set_cons_succ]
    refine wpAnyH_take (i := 3) (oi := { dst := _, op := _, type := _, pos := _, after := _, guard := _ }) (v := ?_) rfl (by kernel_rfl) (by kernel_rfl) (by kernel_rfl) (fun _ _ _ h => h) (Or.inl ⟨by rfl, ?_⟩) (by assumption) ?_
    rotate_left 1
    · intro w1 hS1
      try dsimp only at hS1
      go_simp
      try with_reducible rfl
    try simp only [Act.put, List.setIfInBounds_toArray, List.set_cons_zero, List.set_cons_succ]
    refine wpAnyH_take (i := 4) (oi := { dst := _, op := _, type := _, pos := _, after := _, guard := _ }) (v := ?_) rfl (by kernel_rfl) (by kernel_rfl) (by kernel_rfl) (fun _ _ _ h => h) (Or.inl ⟨by rfl, ?_⟩) (by assumption) ?_
    rotate_left 1
    · intro w1 hS1
      try dsimp only at hS1
      go_simp
      try with_reducible rfl
    try simp only [Act.put, List.setIfInBounds_toArray, List.set_cons_zero, List.set_cons_succ]
    refine wpAnyH_take (i := 5) (oi := { dst := _, op := _, type := _, pos := _, after := _, guard := _ }) (v := ?_) rfl (by kernel_rfl) (by kernel_rfl) (by kernel_rfl) (fun _ _ _ h => h) (Or.inl ⟨by rfl, ?_⟩) (by assumption) ?_
    rotate_left 1
    · intro w1 hS1
      try dsimp only at hS1
      go_simp
      try with_reducible rfl
    try simp only [Act.put, List.setIfInBounds_toArray, List.set_cons_zero, List.set_cons_succ]
    refine wpAnyH_ready (rs := [6]) (by kernel_rfl) (by simp) ?_
    refine AllReadyH.cons (o := { dst := _, op := _, type := _, pos := _, after := _, guard := _ }) rfl (fun K hK => ?_) AllReadyH.nil
    go_simp
    (go_at_call 147; refine (take_any W6.drew G (c2 - (nt + 1)) xi n (c2 - xi) R A' d0 ys dd h6.out.drew.row HRD.out i7 (by omega) (by omega) (by rw [HRL.out]; omega) (hy'.out _ h6.out.a.bl.drew) ha hdw).mono ?_; rintro e w7 ⟨b, R', rfl, hT, hA7, hg7⟩)
    have h7 := Lib.hid (h6.out.drew.turn hA7 hg7)
    have t7 := Lib.hid (t6.out.trans ((Two.drew G (w4.heap.size + 1) W6).trans (Two.of hg7 (fun g e => by cases e; exact .inl rfl))))
    have c7 : w7.cell? ⟨w4.heap.size + 1, xi, none⟩ = some (.int .u64 dd) := hg7.cell (a := ⟨w4.heap.size + 1, xi, none⟩) c6 (by intro e; injection e with e; have e' : w4.heap.size + 1 = G := e; omega)
    have HT := Lib.hid hT
    clear hT hA7 hg7
    refine hK.out _ _ ?_ (fun hHeld2 => ?_)
    · exact ⟨h7.out.a.b3, h7.out.a.b4, c7⟩
    clear hK K
    try simp only [Act.put, List.setIfInBounds_toArray, List.set_cons_zero, List.set_cons_succ]
    refine wpAnyH_done (by kernel_rfl) ?_ _
    clear hHeld hHeld2 c6 hes h6 t6
    obtain ⟨r1, r2, r3, r4, r5, r6⟩ := HT.out
    rcases r5 with rfl | rfl
    · have HV := Lib.hid r4
      have HR1 := Lib.hid r1
      have HR3 := Lib.hid r3
      clear HT r4 r1 r3 r6
      gi_wp2
      refine ⟨t7.out.keeps (by rw [HSZ.out]; omega) (by rw [HSZ.out]; omega), t7.out.kpq (by have := HH.out.sz; omega) (by omega) (by omega) h7.out.arr HQ6.out, qs.set xi dd, R', h7.out, HQ6.out, HQD.out.set xi hdw.1 hdw.2, HR1.out.trans HRL.out, r2, fun ho => ?_⟩
      rw [List.length_append] at ho ⊢
      obtain ⟨o1, o2⟩ := pl_split ho
      rw [HXI.out] at o2
      have hL := HI.out o1
      have hm := HPL.out
      have hp := hL.part hm HRD.out
      rw [← o2] at hp
      have he := est_place hy.dg HRD.out hn hk63 hk1 hk2 hV0 hp
      rw [HDD.out] at he
      have hv := HV.out
      have := hL.just (n := n) (d := dd) (R' := R') hm (by rw [HQL.out]; omega) HRD.out r2 hV0 (by rw [← o2]; exact he.2) (fun j hj => HR3.out j (.inl (by omega))) (by rw [← o2]; omega)
      rw [← o2] at this
      exact this
    · have d1 : 1 ≤ dd := by have := hdw.1; apply Classical.byContradiction; intro hc; have := r6 (by omega); omega
      have HV := Lib.hid r4
      have HR1 := Lib.hid r1
      have HR2 := Lib.hid r2
      have HR3 := Lib.hid r3
      have qf7 := h7.out.arr.frozen xi
      have qb7 := h7.out.a.b4
      clear HT r4 r1 r3 r2 r6
      have h8 := Lib.hid (h7.out.store xi (dd - 1))
      have t8 := Lib.hid (t7.out.trans (Two.of (grow_set w7 (w4.heap.size + 1) xi (.int .u64 (dd - 1))) (fun g e => by cases e; exact .inr rfl)))
      have b8 := h8.out.a.b3
      have hgb : Hid (Calls Tryz.prog 148 #[.slice (some ⟨G, xi, none⟩) (n + 1) (c2 - xi), .slice A' n d0] (w7.setCell ⟨w4.heap.size + 1, xi, none⟩ (.int .u64 (dd - 1))) fun e' w' => ∃ (b : Int) (R2 : List Int), (∃ v, e' = .returned v) ∧ GbOut R' ys xi n b R2 ∧ ArP w' G (c2 - (nt + 1)) R2 ∧ (w7.setCell ⟨w4.heap.size + 1, xi, none⟩ (.int .u64 (dd - 1))).grownBy w' (some G)) :=
        Lib.hid (giveBack_any _ G (c2 - (nt + 1)) xi n (c2 - xi) R' A' d0 ys h8.out.row HR2.out (by rw [HR1.out]; exact i7) (by omega) (by omega) (by rw [HR1.out, HRL.out]; omega) (hy'.out _ h8.out.a.bl) ha)
      have hd2 := hdw.2
      gi_wp2_with fail
      refine ⟨trivial, ?_⟩
      refine (CallsIn.inRound l (callsIn_wide.2 hgb.out)).mono ?_
      rintro e w9 ⟨c, R2, ⟨v, rfl⟩, hG9, hA9, hg9⟩
      have h9 := Lib.hid (h8.out.turn hA9 hg9)
      have t9 := Lib.hid (t8.out.trans (Two.of hg9 (fun g e => by cases e; exact .inl rfl)))
      have HG9 := Lib.hid hG9
      clear hG9 hA9 hg9
      gi_wp2
      obtain ⟨s1, s2, s3, s4, s5⟩ := HG9.out
      refine ⟨t9.out.keeps (by rw [HSZ.out]; omega) (by rw [HSZ.out]; omega), t9.out.kpq (by have := HH.out.sz; omega) (by omega) (by omega) h9.out.arr (by rw [List.length_set]; exact HQ6.out), (qs.set xi dd).set xi (dd - 1), R2, h9.out, by rw [List.length_set]; exact HQ6.out, (HQD.out.set xi hdw.1 hdw.2).set xi (by omega) (by show dd - 1 < 18446744073709551616; omega), s1.trans (HR1.out.trans HRL.out), s2, fun ho => ?_⟩
      rw [List.length_append] at ho ⊢
      obtain ⟨o1, o2⟩ := pl_split ho
      rw [HXI.out] at o2
      have hL := HI.out o1
      have hm := HPL.out
      have hp := hL.part hm HRD.out
      rw [← o2] at hp
      have he := est_place hy.dg HRD.out hn hk63 hk1 hk2 hV0 hp
      rw [HDD.out] at he
      have hv := HV.out
      have := hL.less (n := n) (d := dd) (c := c) (R' := R') (R2 := R2) hm (by rw [HQL.out]; omega) HRD.out HR2.out s2 hV0 (by rw [← o2]; exact he.1) (by rw [← o2]; exact he.2)
        (fun j hj => HR3.out j (.inl (by omega))) (fun j hj => HR3.out j (.inr (by omega))) (fun j hj => s3 j (.inl (by omega))) (fun j hj => s3 j (.inr (by omega))) (by rw [← o2]; omega) s5 (by rw [← o2]; exact s4)
      rw [← o2] at this
      exact this
  case done =>
    rintro D pre V hD hS ⟨qs, R, h, hql, hqd, hRl, hRd, hI⟩ hK
    have hp := pl_full hS
    have hI := hI (by rw [hp]; exact hS)
    rw [hp] at hI
    obtain ⟨e1, e2⟩ := hI.done hRd
    have hVV := hI.low
    rw [Nat.sub_self, List.drop_zero] at hVV
    have hnR : nn R ≤ nt := by
      have hVV2 : val B R < Q B n := by omega
      have := (limbs_len_le (val_nonneg (by decide) hRd) n).2 hVV2
      rw [← nn_limbs hRd] at this
      omega
    have hnq := nn_le qs
    rw [hql] at hnq
    have hoR := h.row.own (base := w.heap.size) (n := nt + 1) (c := c2) (by have := h.a.fs; omega) hRl (by omega) hG3 hRd
    have hSq := h.arr.sl hql (by unfold maxLen; omega) hqd
    have hSR := hoR.sl
    have hsV := h.sz
    have E1 := Lib.hid e1
    have E2 := Lib.hid e2
    have HH := Lib.hid h
    have HQL := Lib.hid hql
    have HQD := Lib.hid hqd
    have HRD := Lib.hid hRd
    have HRL := Lib.hid hRl
    have g4 := h.a.b4
    have gf := h.a.f4
    have g8 := h.b8
    clear hI hst hsv hql hqd hRl hRd hS h e1 e2 hVV hoR
    go_wp2
    refine wp_region_held_drew (S := fun w' => w'.cell? ⟨w4.heap.size, 0, none⟩ = some (.slice (some ⟨G, 0, none⟩) (nt + 1) c2)) (by kernel_rfl) g8 (fun hHeld => ?_)
    refine wpAnyH_take (i := 2) (oi := { dst := _, op := _, type := _, pos := _, after := _, guard := _ }) (v := ?_) rfl (by kernel_rfl) (by kernel_rfl) (by kernel_rfl) (fun _ _ _ h => h) (Or.inl ⟨by rfl, ?_⟩) (by assumption) ?_
    rotate_left 1
    · intro w1 hS1
      try dsimp only at hS1
      go_simp
      try with_reducible rfl
    try simp only [Act.put, List.setIfInBounds_toArray, List.set_cons_zero, List.set_cons_succ]
    refine wpAnyH_ready (rs := [0]) (by kernel_rfl) (by simp) ?_
    refine AllReadyH.cons (o := { dst := _, op := _, type := _, pos := _, after := _, guard := _ }) rfl (fun K hK => ?_) AllReadyH.nil
    go_simp
    refine hK.out _ _ ?_ (fun hHeld => ?_)
    · exact g8
    clear hK K
    try simp only [Act.put, List.setIfInBounds_toArray, List.set_cons_zero, List.set_cons_succ]
    refine wpAnyH_ready (rs := [1]) (by kernel_rfl) (by simp) ?_
    refine AllReadyH.cons (o := { dst := _, op := _, type := _, pos := _, after := _, guard := _ }) rfl (fun K hK => ?_) AllReadyH.nil
    go_simp
    (go_at_call 125; refine (qbare_any _ _ _ _ qs hSq.drew (by omega)).mono ?_; rintro e w3 ⟨rfl, rfl⟩)
    refine hK.out _ _ ?_ (fun hHeld => ?_)
    · exact g8
    clear hK K
    try simp only [Act.put, List.setIfInBounds_toArray, List.set_cons_zero, List.set_cons_succ]
    refine wpAnyH_ready (rs := [3]) (by kernel_rfl) (by simp) ?_
    refine AllReadyH.cons (o := { dst := _, op := _, type := _, pos := _, after := _, guard := _ }) rfl (fun K hK => ?_) AllReadyH.nil
    go_simp
    (go_at_call 125; refine (qbare_any _ _ _ _ R hSR.drew (by omega)).mono ?_; rintro e w3 ⟨rfl, rfl⟩)
    refine hK.out _ _ ?_ (fun hHeld => ?_)
    · exact g8
    clear hK K
    try simp only [Act.put, List.setIfInBounds_toArray, List.set_cons_zero, List.set_cons_succ]
    refine wpAnyH_ready (rs := [4]) (by kernel_rfl) (by simp) ?_
    refine AllReadyH.cons (o := { dst := _, op := _, type := _, pos := _, after := _, guard := _ }) rfl (fun K hK => ?_) AllReadyH.nil
    go_simp
    refine hK.out _ _ ?_ (fun hHeld => ?_)
    · exact (World.cell?_setCell_far V _ _ _ (by have := HH.out.a.fs; show ¬ w.heap.size + 1 = w4.heap.size; omega)).trans g8
    clear hK K
    try simp only [Act.put, List.setIfInBounds_toArray, List.set_cons_zero, List.set_cons_succ]
    refine wpAnyH_take (i := 5) (oi := { dst := _, op := _, type := _, pos := _, after := _, guard := _ }) (v := ?_) rfl (by kernel_rfl) (by kernel_rfl) (by kernel_rfl) (fun _ _ _ h => h) (Or.inl ⟨by rfl, ?_⟩) (by assumption) ?_
    rotate_left 1
    · intro w1 hS1
      try dsimp only at hS1
      go_simp
      try with_reducible rfl
    try simp only [Act.put, List.setIfInBounds_toArray, List.set_cons_zero, List.set_cons_succ]
    refine wpAnyH_done (by kernel_rfl) ?_ _
    go_wp2
    have hDV : D < V.heap.size := (Array.getElem?_eq_some_iff.1 hK).1
    rw [hsz] at hD
    have hfs := HH.out.a.fs
    have hK5 : (V.setCell ⟨w.heap.size + 1, 0, none⟩ (.slice (some ⟨w4.heap.size + 1, 0, none⟩) (nn qs) lq)).drew.heap[D]? = some (.deferred (some [])) := (Below.heap_setCell V _ _ D (by dsimp only; omega)).trans hK
    refine ⟨by simp, .inl ⟨_, _, rfl, run_takeDeferred hK5, ?_⟩⟩
    have hc5 := cell_kept (show (V.setCell ⟨w.heap.size + 1, 0, none⟩ (.slice (some ⟨w4.heap.size + 1, 0, none⟩) (nn qs) lq)).drew.cell? ⟨w.heap.size + 1, 0, none⟩ = some (.slice (some ⟨w4.heap.size + 1, 0, none⟩) (nn qs) lq) from World.cell?_setCell_same' V _ _ (by rw [g4]; rfl)) (grownBy_putObj' _ D (.deferred none)) (fun r e => by cases e; exact ⟨_, hK5, rfl⟩)
    have hbl := belowK_b (n₀ := w4.heap.size + 3) (w := L) (by omega) _ D _ (.deferred none) (by omega) hK5 rfl rfl
    have hA6 := (HH.out.arr.far (p := ⟨w.heap.size + 1, 0, none⟩) (by dsimp only; omega) (.slice (some ⟨w4.heap.size + 1, 0, none⟩) (nn qs) lq)).drew.below hbl (by omega)
    have hR6 := (HH.out.row.far (p := ⟨w.heap.size + 1, 0, none⟩) (by dsimp only; omega) (.slice (some ⟨w4.heap.size + 1, 0, none⟩) (nn qs) lq)).drew.below hbl (by omega)
    refine ⟨.tuple #[.slice (some ⟨w4.heap.size + 1, 0, none⟩) (nn qs) lq, .slice (some ⟨G, 0, none⟩) (nn R) c2], by simp [results, Tryz.f128, go_sem, hc5], _, _, _, _, _, _, rfl, by omega, hnR, ?_, ?_, ?_, ?_⟩
    · rw [← E1.out, limbs_of HQD.out]
      exact (⟨Arr.own (base := w.heap.size) hA6 (by omega) HQL.out (by unfold maxLen; omega) hnq, HQD.out.take _⟩ : N.Own _ _ _ _ _ _)
    · rw [← E2.out, limbs_of HRD.out]
      exact (hR6.own (base := w.heap.size) (by omega) HRL.out (by omega) hG3 HRD.out).tr
    · intro g hg hg'
      cases hg
      injection hg' with hg'
      have h9 : G = w4.heap.size + 1 := hg'
      omega
    · exact ((HH.out.a.bl.setCell (p := ⟨w.heap.size + 1, 0, none⟩) (by dsimp only; omega) (.slice (some ⟨w4.heap.size + 1, 0, none⟩) (nn qs) lq)).drew).trans (hbl.mono (by omega))
  case stop =>
    rintro D c pre W _ _ h _
    exact h.elim
end Go.Proofs.YtfdpddlefobcpaaGreatDoor
/- What Div of layer 3 answers, over this translation. -/
namespace Go.Proofs.YtfdpddlefobcpaaGreatDoor
open Go.RowKit
set_option linter.unusedVariables false
set_option maxRecDepth 20000
open N
/-- what Div tells: both naturals in memory of the call's own, in two blocks, beside an error's number -/
def OutD3 (W : World) (m : Nat) (q r : Int) (k : Int) (e : Ending) (w' : World) : Prop :=
  ∃ A n c A' n' c', e = .returned (.tuple #[.slice A n c, .slice A' n' c', .int .i64 k]) ∧ n ≤ m ∧ n' ≤ m ∧ N.Own w' W.heap.size A n c (limbs q) ∧ N.Own w' W.heap.size A' n' c' (limbs r) ∧ (∀ g, rowOf A = some g → rowOf A' ≠ some g) ∧ Below W.heap.size W w'
namespace N
theorem nn_tr (xs : List Int) : nn (tr xs) = nn xs := by
  have h1 := nn_le (tr xs)
  rw [tr_length] at h1
  apply Nat.le_antisymm h1
  apply Classical.byContradiction; intro hc
  have h2 := nn_top xs (by omega)
  rw [← lim_tr] at h2
  exact h2 (nn_zero (tr xs) _ (by omega))
end N
theorem qdiv_zero (w : World) (A A' : Option Addr) (n c m d : Nat) (xs ys : List Int) (hx : Sl w A n c xs) (hy : Sl w A' m d ys) (hn : n ≤ 1099511627775) (hm : m ≤ 1099511627775) (hv : val B ys = 0) :
    Calls Tryz.prog 108 #[.slice A n c, .slice A' m d] w fun e w' => e = .returned (.tuple #[.slice none 0 0, .slice none 0 0, .int .i64 7]) ∧ w' = w := by
  have h0 := (nn_zero_iff hy.dg).2 hv
  have e1 : (((nn ys : Nat) : Int) == 0) = true := by simp [h0]
  have H0 := Lib.hid h0
  clear h0 hv
  go_enter Tryz.func108, Tryz.ntmps108
  go_wp2_with (first
    | (go_at_call_of 125 (Value.slice A n c); refine (qbare_any _ _ _ _ xs hx (by omega)).mono ?_; rintro e w' ⟨rfl, rfl⟩)
    | (go_at_call_of 125 (Value.slice A' m d); refine (qbare_any _ _ _ _ ys hy (by omega)).mono ?_; rintro e w' ⟨rfl, rfl⟩))
  go_ret3
  exact ⟨rfl, rfl⟩
set_option maxHeartbeats 1000000 in
theorem qdiv_any (w : World) (A A' : Option Addr) (n c m d : Nat) (xs ys : List Int) (hx : Sl w A n c xs) (hy : Sl w A' m d ys) (hn : n ≤ 1099511627775) (hm : m ≤ 1099511627775) (hv : 0 < val B ys) :
    Calls Tryz.prog 108 #[.slice A n c, .slice A' m d] w (OutD3 w n (val B xs / val B ys) (val B xs % val B ys) 0) := by
  have hnx := nn_le xs
  have hny := nn_le ys
  rw [hx.len] at hnx
  rw [hy.len] at hny
  have hx1 := hx.tr
  have hy1 := hy.tr
  have h0 : 0 < nn ys := by have := nn_zero_iff hy.dg; omega
  have e1 : (((nn ys : Nat) : Int) == 0) = false := by simp; omega
  have hvx := val_nonneg (b := B) (by decide) hx.dg
  have hcm := fun W (hb : Below w.heap.size w W) => ncmp_any W A A' (nn xs) c (nn ys) d (tr xs) (tr ys) (hx1.below hb) (hy1.below hb) (by omega) (by omega)
  rw [val_tr, val_tr] at hcm
  by_cases hlt : val B xs < val B ys
  · have HC := Lib.hid (cmpI_lt hlt)
    have HE := Lib.hid (⟨Int.ediv_eq_zero_of_lt hvx hlt, Int.emod_eq_of_lt hvx hlt⟩ : val B xs / val B ys = 0 ∧ val B xs % val B ys = val B xs)
    have HCM := Lib.hid hcm
    have ht := fun W (hb : Below w.heap.size w W) => trim_any W A (nn xs) c (tr xs) (hx1.below hb) (by omega)
    rw [val_tr] at ht
    have HT := Lib.hid ht
    clear hcm ht hlt hvx
    go_enter Tryz.func108, Tryz.ntmps108
    go_wp2_with (first
      | (go_at_call_of 125 (Value.slice A n c); refine (qbare_any _ _ _ _ xs hx (by omega)).mono ?_; rintro e w' ⟨rfl, rfl⟩)
      | (go_at_call_of 125 (Value.slice A' m d); refine (qbare_any _ _ _ _ ys hy (by omega)).mono ?_; rintro e w' ⟨rfl, rfl⟩)
      | (go_at_call 126; refine (HCM.out _ (Below.refl _ _)).mono ?_; rw [HC.out]; rintro e w1 ⟨rfl, hb1⟩)
      | (go_at_call 82; refine (HT.out _ hb1).mono ?_; rintro e w2 ⟨Ar, nr, cr, rfl, hnr, hor, hbr⟩))
    go_ret3
    rw [HE.out.1, HE.out.2]
    exact ⟨none, 0, 0, Ar, nr, cr, rfl, by omega, by omega, by rw [limbs_zero]; exact Own.nil_ _ _, hor.mono hb1.size, (fun g e => by cases e), hb1.trans (hbr.mono hb1.size)⟩
  · obtain ⟨cc, hcc, hc0⟩ : ∃ cc : Int, cmpI (val B xs) (val B ys) = cc ∧ 0 ≤ cc := by
      rcases Int.lt_or_eq_of_le (show val B ys ≤ val B xs by omega) with h | h
      · exact ⟨1, cmpI_gt h, by omega⟩
      · exact ⟨0, cmpI_eq h.symm, by omega⟩
    have HC := Lib.hid hcc
    have HCM := Lib.hid hcm
    have hle : nn ys ≤ nn xs := by
      apply Classical.byContradiction; intro hc
      have := lt_of_nn hx.dg hy.dg (by omega)
      omega
    clear hcc hcm
    by_cases h1 : nn ys = 1
    · have e2 : (((nn ys : Nat) : Int) == 1) = true := by simp [h1]
      obtain ⟨ad, rfl, _, hcell⟩ := hy.cell (k := 0) (by omega)
      have hv1 : lim ys 0 = val B ys := lim_zero hy.dg ((nn_one_iff hy.dg).1 (by omega))
      rw [hv1] at hcell
      have hcb : ∀ W, Below w.heap.size w W → W.cell? ad = some (.int .u64 (val B ys)) := fun W hb => by
        obtain ⟨ad', e, _, h⟩ := (hy.below hb).cell (k := 0) (by omega)
        cases e
        rw [hv1, N.add_zero] at h
        exact h
      have hw : W.Wd (val B ys) := by rw [← hv1]; exact hy.dg.lim (by decide) 0
      have hs := fun W (hb : Below w.heap.size w W) => short_any W A (nn xs) c (tr xs) (hx1.below hb) (by omega) (val B ys) hw hv
      rw [val_tr] at hs
      have HS := Lib.hid hs
      have H1 := Lib.hid h1
      have HV1 := Lib.hid hv1
      have HCB := Lib.hid hcb
      clear hs h1 hv1 hcb hcell
      go_enter Tryz.func108, Tryz.ntmps108
      go_wp2_with (first
        | (go_at_call_of 125 (Value.slice A n c); refine (qbare_any _ _ _ _ xs hx (by omega)).mono ?_; rintro e w' ⟨rfl, rfl⟩)
        | (go_at_call_of 125 (Value.slice (some ad) m d); refine (qbare_any _ _ _ _ ys hy (by omega)).mono ?_; rintro e w' ⟨rfl, rfl⟩)
        | (go_at_call 126; refine (HCM.out _ (Below.refl _ _)).mono ?_; rw [HC.out]; rintro e w1 ⟨rfl, hb1⟩; have hc1 := HCB.out _ hb1; have HB1 := Lib.hid hb1; clear hb1)
        | (go_at_call 127; refine (HS.out _ HB1.out).mono ?_; rintro e w2 ⟨Aq, nq, cq, Ar, nr, cr, rfl, hnq, hnr, hoq, hor, hne, hbr⟩))
      go_ret3
      exact ⟨Aq, nq, cq, Ar, nr, cr, rfl, by omega, by have := H1.out; omega, hoq.mono HB1.out.size, hor.mono HB1.out.size, hne, HB1.out.trans (hbr.mono HB1.out.size)⟩
    · have e2 : (((nn ys : Nat) : Int) == 1) = false := by simp; omega
      have hs := fun W (hb : Below w.heap.size w W) => long_any W A A' (nn xs) c (nn ys) d (tr xs) (tr ys) (hx1.below hb) (hy1.below hb) (by omega) (nn_tr ys) hle (by omega) (nn_tr xs)
      rw [val_tr, val_tr] at hs
      have HS := Lib.hid hs
      have H1 := Lib.hid h1
      clear hs h1
      go_enter Tryz.func108, Tryz.ntmps108
      go_wp2_with (first
        | (go_at_call_of 125 (Value.slice A n c); refine (qbare_any _ _ _ _ xs hx (by omega)).mono ?_; rintro e w' ⟨rfl, rfl⟩)
        | (go_at_call_of 125 (Value.slice A' m d); refine (qbare_any _ _ _ _ ys hy (by omega)).mono ?_; rintro e w' ⟨rfl, rfl⟩)
        | (go_at_call 126; refine (HCM.out _ (Below.refl _ _)).mono ?_; rw [HC.out]; rintro e w1 ⟨rfl, hb1⟩; have HB1 := Lib.hid hb1; clear hb1)
        | (go_at_call 128; refine (HS.out _ HB1.out).mono ?_; rintro e w2 ⟨Aq, nq, cq, Ar, nr, cr, rfl, hnq, hnr, hoq, hor, hne, hbr⟩))
      go_ret3
      exact ⟨Aq, nq, cq, Ar, nr, cr, rfl, by omega, by omega, hoq.mono HB1.out.size, hor.mono HB1.out.size, hne, HB1.out.trans (hbr.mono HB1.out.size)⟩
end Go.Proofs.YtfdpddlefobcpaaGreatDoor
/- What Pow of layer 3 answers, over this translation. -/
namespace Go.Proofs.YtfdpddlefobcpaaGreatDoor
open Go.RowKit
set_option linter.unusedVariables false
set_option maxRecDepth 20000
open N
namespace N
theorem and_one_i64 (a : Nat) (ha : a < 18446744073709551616) : bits .and .i64 (a : Int) 1 = ((a % 2 : Nat) : Int) := by
  have h1 : (BitVec.ofInt 64 (a : Int)).toNat = a := by
    rw [BitVec.ofInt_natCast, BitVec.toNat_ofNat]; exact Nat.mod_eq_of_lt (by omega)
  have h2 : (BitVec.ofInt 64 (1 : Int)).toNat = 1 := by decide
  show IntKind.i64.wrap ((BitVec.ofInt 64 (a : Int) &&& BitVec.ofInt 64 (1 : Int)).toNat : Int) = _
  rw [BitVec.toNat_and, h1, h2, Nat.and_one_is_mod]
  have : a % 2 = 0 ∨ a % 2 = 1 := by omega
  rcases this with h | h <;> rw [h] <;> decide
theorem bit_yes {q i : Nat} (hq : q ≤ 9223372036854775807) (h : q / 2 ^ i % 2 = 1) : (bits .and .i64 ((q : Int) / 2 ^ i) 1 == 1) = true := by
  have h9 : q / 2 ^ i ≤ q := Nat.div_le_self _ _
  rw [← W.cast_pow, ← Int.natCast_ediv, and_one_i64 _ (by omega), h]; rfl
theorem bit_no {q i : Nat} (hq : q ≤ 9223372036854775807) (h : ¬ q / 2 ^ i % 2 = 1) : (bits .and .i64 ((q : Int) / 2 ^ i) 1 == 1) = false := by
  have h9 : q / 2 ^ i ≤ q := Nat.div_le_self _ _
  rw [← W.cast_pow, ← Int.natCast_ediv, and_one_i64 _ (by omega), show q / 2 ^ i % 2 = 0 by omega]; rfl
/-- may the power be reckoned? -/
def PowOk (v : Int) (n : Nat) : Prop := v = 0 ∨ (n : Int) ≤ 1048576 / W.len v
theorem pow_le_two {m k e T : Nat} (h : m ≤ 2 ^ k) (hT : k * e ≤ T) : ((m : Int)) ^ e ≤ 2 ^ T := by
  have h1 : m ^ e ≤ (2 ^ k) ^ e := Nat.pow_le_pow_left h e
  rw [← Nat.pow_mul] at h1
  have h2 : 2 ^ (k * e) ≤ 2 ^ T := Nat.pow_le_pow_right (by omega) hT
  rw [← W.cast_pow, ← Int.natCast_pow]
  exact Int.ofNat_le.2 (Nat.le_trans h1 h2)
theorem len_zero_top {q K : Nat} (h : W.len (q : Int) = K) : q / 2 ^ K = 0 := by
  obtain ⟨k, e1, e2, _⟩ := len_spec (q : Int) (by omega)
  have : k = K := by omega
  subst this
  rw [← W.cast_pow] at e2
  exact Nat.div_eq_of_lt (by omega)
theorem len_le_63 {q K : Nat} (hq : q ≤ 9223372036854775807) (h : W.len (q : Int) = K) : K ≤ 63 := by
  obtain ⟨k, e1, e2, e3⟩ := len_spec (q : Int) (by omega)
  have : k = K := by omega
  subst this
  apply Classical.byContradiction; intro hk
  have e4 : 2 ^ (k - 1) ≤ (q : Int) := by rcases e3 with e3 | e3; omega; exact e3
  rw [← W.cast_pow] at e4
  have e5 : 2 ^ 63 ≤ 2 ^ (k - 1) := Nat.pow_le_pow_right (by omega) (by omega)
  omega
theorem pow_lt {v : Int} (h0 : 0 ≤ v) {n : Nat} (h : PowOk v n) {e : Nat} (he : e ≤ n) : 0 ≤ v ^ e ∧ v ^ e < Q B 16385 := by
  refine ⟨Int.pow_nonneg h0, ?_⟩
  have hQ : ∀ T : Nat, (2 : Int) ^ T < 2 ^ (T + 64) := by
    intro T
    rw [Int.pow_add]
    have hp := W.pow_pos T
    generalize (2 : Int) ^ T = p at *
    have : (2 : Int) ^ 64 = 18446744073709551616 := by decide
    rw [this]; omega
  rw [Q_two, show 64 * 16385 = 1048576 + 64 by omega]
  refine Int.lt_of_le_of_lt ?_ (hQ 1048576)
  obtain ⟨m, rfl⟩ := Int.eq_ofNat_of_zero_le h0
  rcases h with h | h
  · have hm : m = 0 := by omega
    subst hm
    exact pow_le_two (k := 0) (by omega) (by omega)
  · obtain ⟨k, e1, e2, e3⟩ := len_spec _ h0
    rw [e1] at h
    refine pow_le_two (k := k) ?_ ?_
    · rw [← W.cast_pow] at e2; omega
    · by_cases hk : k = 0
      · subst hk; omega
      · have h1 : (e : Int) ≤ 1048576 / (k : Int) := by omega
        have h2 := (Int.le_ediv_iff_mul_le (show (0 : Int) < k by omega)).1 h1
        have h3 : (e : Int) * k = ((k * e : Nat) : Int) := by rw [Int.natCast_mul, Int.mul_comm]
        omega
theorem pow_bit0 (v : Int) (n j : Nat) (h : n / 2 ^ j % 2 = 0) : v ^ (n / 2 ^ (j + 1)) * v ^ (n / 2 ^ (j + 1)) = v ^ (n / 2 ^ j) := by
  rw [← Int.pow_add]; congr 1
  rw [Nat.pow_succ, ← Nat.div_div_eq_div_mul]; omega
theorem pow_bit1 (v : Int) (n j : Nat) (h : n / 2 ^ j % 2 = 1) : v ^ (n / 2 ^ (j + 1)) * v ^ (n / 2 ^ (j + 1)) * v = v ^ (n / 2 ^ j) := by
  rw [← Int.pow_add, ← Int.pow_succ]; congr 1
  rw [Nat.pow_succ, ← Nat.div_div_eq_div_mul]; omega
end N
end Go.Proofs.YtfdpddlefobcpaaGreatDoor
/- What Gcd of layer 3 answers, over this translation. -/
namespace Go.Proofs.YtfdpddlefobcpaaGreatDoor
open Go.RowKit
set_option linter.unusedVariables false
set_option maxRecDepth 20000
open N
namespace N
/-- the greatest common divisor -/
def gI (a b : Int) : Int := ((Nat.gcd a.toNat b.toNat : Nat) : Int)
theorem gI_zero {a : Int} (h : 0 ≤ a) : gI a 0 = a := by unfold gI; rw [show (0 : Int).toNat = 0 from rfl, Nat.gcd_zero_right]; exact Int.toNat_of_nonneg h
theorem gI_step {a b : Int} (ha : 0 ≤ a) (hb : 0 < b) : gI b (a % b) = gI a b := by
  obtain ⟨m, rfl⟩ := Int.eq_ofNat_of_zero_le ha
  obtain ⟨n, rfl⟩ := Int.eq_ofNat_of_zero_le (Int.le_of_lt hb)
  unfold gI
  rw [← Int.natCast_emod, Int.toNat_natCast, Int.toNat_natCast, Int.toNat_natCast, Nat.gcd_comm m n, Nat.gcd_rec n m, Nat.gcd_comm]
theorem gI_nonneg (a b : Int) : 0 ≤ gI a b := by unfold gI; omega
theorem Sl.unique {w : World} {A : Option Addr} {n c : Nat} {xs ys : List Int} (h : Sl w A n c xs) (h' : Sl w A n c ys) : xs = ys := by
  apply ext_lim (h.len.trans h'.len.symm)
  intro j
  by_cases hj : j < n
  · obtain ⟨ad, e, _, h1⟩ := h.cell hj
    obtain ⟨ad', e', _, h2⟩ := h'.cell hj
    rw [e] at e'
    cases e'
    rw [h1] at h2
    injection h2 with h2
    injection h2
  · rw [lim_over xs j (by rw [h.len]; omega), lim_over ys j (by rw [h'.len]; omega)]
open Classical in
/-- the value of a slice in a world -/
noncomputable def vOf (v : Value) (w : World) : Nat := if h : ∃ k : Nat, ∃ A n c xs, v = .slice A n c ∧ Sl w A n c xs ∧ (val B xs).toNat = k then Classical.choose h else 0
theorem vOf_eq {w : World} {A : Option Addr} {n c : Nat} {xs : List Int} (h : Sl w A n c xs) : vOf (.slice A n c) w = (val B xs).toNat := by
  have he : ∃ k : Nat, ∃ A' n' c' xs', Value.slice A n c = .slice A' n' c' ∧ Sl w A' n' c' xs' ∧ (val B xs').toNat = k := ⟨_, A, n, c, xs, rfl, h, rfl⟩
  unfold vOf
  rw [dif_pos he]
  obtain ⟨A', n', c', xs', e, h', ek⟩ := Classical.choose_spec he
  cases e
  rw [← ek, Sl.unique h h']
end N
def GJ (w : World) (M : Nat) (g : Int) (a' : Act) (w' : World) : Prop :=
  ∃ (A : Option Addr) (n c : Nat) (xs : List Int) (A' : Option Addr) (m d : Nat) (ys : List Int) (u5 u6 u7 u8 u9 u10 u11 u12 u13 u14 u15 u16 u17 u18 u19 u20 : Value),
    a' = { tmps := #[.slice A n c, .slice A' m d, undef, undef, .slice none 0 0, u5, u6, u7, u8, u9, u10, u11, u12, u13, u14, u15, u16, u17, u18, u19, u20], defers := [] } ∧
    Sl w' A n c xs ∧ Sl w' A' m d ys ∧ n ≤ M ∧ m ≤ M ∧ gI (val B xs) (val B ys) = g ∧ Below w.heap.size w w'
set_option maxHeartbeats 1000000 in
theorem qgcd_any (w : World) (A A' : Option Addr) (n c m d M : Nat) (xs ys : List Int) (hx : Sl w A n c xs) (hy : Sl w A' m d ys) (hn : n ≤ M) (hm : m ≤ M) (hM : M ≤ 1099511627775) :
    Calls Tryz.prog 80 #[.slice A n c, .slice A' m d] w (Out w M (gI (val B xs) (val B ys))) := by
  obtain ⟨g, hg⟩ : ∃ g, gI (val B xs) (val B ys) = g := ⟨_, rfl⟩
  have HG := Lib.hid hg.symm
  have HB := Lib.hid (Below.refl w.heap.size w)
  rw [hg]
  clear hg
  go_enter Tryz.func80, Tryz.ntmps80
  go_wp2
  refine wp_scope_jumps 0 (GJ w M g) (fun a' w' => vOf (a'.tmps.getD 1 undef) w') rfl ?_ ?_
  · go_wp2
    go_step3
    have hz0 := val_nonneg (b := B) (by decide) hx.dg
    have hz1 := val_nonneg (b := B) (by decide) hy.dg
    by_cases hz : val B ys = 0
    · have HZ := Lib.hid hz
      clear hz
      go_wp2_with (first
        | (go_at_call 79; refine (zero_yes _ _ _ _ ys hy HZ.out).mono ?_; rintro e w1 ⟨rfl, rfl⟩)
        | (go_at_call 82; refine (trim_any _ _ _ _ xs hx (by omega)).mono ?_; rintro e w2 ⟨Ar, nr, cr, rfl, hnr, hor, hbr⟩))
      change bodyPost Tryz.prog Tryz.f80 (Out _ M g) Exit.ret _ _
      go_ret
      rw [HG.out, HZ.out, gI_zero hz0]
      exact Out.lift HB.out ⟨Ar, nr, cr, rfl, by omega, hor, hbr⟩
    · have hz2 : 0 < val B ys := by omega
      have HZ := Lib.hid hz2
      clear hz hz2
      go_wp2_with (first
        | (go_at_call 79; refine (zero_no _ _ _ _ ys hy HZ.out).mono ?_; rintro e w1 ⟨rfl, rfl⟩)
        | (go_at_call 108; refine (qdiv_any _ _ _ _ _ _ _ xs ys hx hy (by omega) (by omega) HZ.out).mono ?_; rintro e w2 ⟨Aq, nq, cq, Ar, nr, cr, rfl, hnq, hnr, hoq, hor, hne, hbr⟩))
      go_step3
      have hlv := limbs_val (Int.emod_nonneg (val B xs) (show val B ys ≠ 0 by have := HZ.out; omega))
      refine ⟨rfl, ⟨_, _, _, _, _, _, _, _, _, _, _, _, _, _, _, _, _, _, _, _, _, _, _, _, rfl, hy.below hbr, hor.sl, hm, by omega, by rw [hlv, HG.out]; exact gI_step hz0 HZ.out, HB.out.trans (hbr.mono HB.out.size)⟩⟩
  · clear HG HB hx hy hn hm
    rintro a' w1 ⟨A, n, c, xs, A', m, d, ys, u5, u6, u7, u8, u9, u10, u11, u12, u13, u14, u15, u16, u17, u18, u19, u20, rfl, hx, hy, hn, hm, hg, hb⟩
    have HG := Lib.hid hg.symm
    have HB := Lib.hid hb
    clear hg hb
    have hz0 := val_nonneg (b := B) (by decide) hx.dg
    have hz1 := val_nonneg (b := B) (by decide) hy.dg
    by_cases hz : val B ys = 0
    · have HZ := Lib.hid hz
      clear hz
      go_wp2_with (first
        | (go_at_call 79; refine (zero_yes _ _ _ _ ys hy HZ.out).mono ?_; rintro e w1 ⟨rfl, rfl⟩)
        | (go_at_call 82; refine (trim_any _ _ _ _ xs hx (by omega)).mono ?_; rintro e w2 ⟨Ar, nr, cr, rfl, hnr, hor, hbr⟩))
      change bodyPost Tryz.prog Tryz.f80 (Out _ M g) Exit.ret _ _
      go_ret
      rw [HG.out, HZ.out, gI_zero hz0]
      exact Out.lift HB.out ⟨Ar, nr, cr, rfl, by omega, hor, hbr⟩
    · have hz2 : 0 < val B ys := by omega
      have HZ := Lib.hid hz2
      clear hz hz2
      go_wp2_with (first
        | (go_at_call 79; refine (zero_no _ _ _ _ ys hy HZ.out).mono ?_; rintro e w1 ⟨rfl, rfl⟩)
        | (go_at_call 108; refine (qdiv_any _ _ _ _ _ _ _ xs ys hx hy (by omega) (by omega) HZ.out).mono ?_; rintro e w2 ⟨Aq, nq, cq, Ar, nr, cr, rfl, hnq, hnr, hoq, hor, hne, hbr⟩))
      go_step3
      have hlv := limbs_val (Int.emod_nonneg (val B xs) (show val B ys ≠ 0 by have := HZ.out; omega))
      refine ⟨rfl, ⟨_, _, _, _, _, _, _, _, _, _, _, _, _, _, _, _, _, _, _, _, _, _, _, _, rfl, hy.below hbr, hor.sl, hm, by omega, by rw [hlv, HG.out]; exact gI_step hz0 HZ.out, HB.out.trans (hbr.mono HB.out.size)⟩, ?_⟩
      show vOf (.slice Ar nr cr) w2 < vOf (.slice A' m d) w1
      rw [vOf_eq hor.sl, vOf_eq hy, hlv]
      have := Int.emod_lt_of_pos (val B xs) HZ.out
      have := Int.emod_nonneg (val B xs) (show val B ys ≠ 0 by have := HZ.out; omega)
      omega
end Go.Proofs.YtfdpddlefobcpaaGreatDoor
/- What the statements' own helpers same, long, spoil of layer 3 answer, over this translation. -/
namespace Go.Proofs.YtfdpddlefobcpaaGreatDoor
open Go.RowKit
set_option linter.unusedVariables false
set_option maxRecDepth 20000
open N
end Go.Proofs.YtfdpddlefobcpaaGreatDoor
/- Division, common divisors, powers over what a statement has at hand; the statements' own helpers. -/
namespace Go.Proofs.YtfdpddlefobcpaaGreatDoor
open Go.RowKit
set_option linter.unusedVariables false
set_option maxRecDepth 20000
open N
section
variable {w0 w w' : World} {S : List Ent} {A A' : Option Addr} {n c m d k k' : Nat} {xs ys : List Int} {v u : Int}
theorem div_s (h : St w0 w S) (h1 : (⟨A, n, c, k, xs, v⟩ : Ent) ∈ S) (h2 : (⟨A', m, d, k', ys, u⟩ : Ent) ∈ S) (hk : k ≤ 1099511627775) (hk' : k' ≤ 1099511627775) (hu : 0 < u) :
    Calls Tryz.prog 108 #[.slice A n c, .slice A' m d] w fun e w' => ∃ A n c A' n' c', e = .returned (.tuple #[.slice A n c, .slice A' n' c', .int .i64 0]) ∧
      St w0 w' (⟨A', n', c', k, limbs (v % u), v % u⟩ :: ⟨A, n, c, k, limbs (v / u), v / u⟩ :: S) := by
  obtain ⟨a1, a2, rfl⟩ := h.get h1
  obtain ⟨b1, b2, rfl⟩ := h.get h2
  refine (qdiv_any w A A' n c m d xs ys a1 b1 (by omega) (by omega) hu).mono fun e w' ho => ?_
  obtain ⟨A, n, c, A', n', c', he, hn, hn', hq, hr, _, hb⟩ := ho
  have hv := val_nonneg (b := B) (by decide) a1.dg
  exact ⟨A, n, c, A', n', c', he, ((h.below hb).cons hq.sl (by omega) (limbs_val (Int.ediv_nonneg hv (by omega)))).cons hr.sl (by omega) (limbs_val (Int.emod_nonneg _ (by omega)))⟩
theorem div_z (h : St w0 w S) (h1 : (⟨A, n, c, k, xs, v⟩ : Ent) ∈ S) (h2 : (⟨A', m, d, k', ys, u⟩ : Ent) ∈ S) (hk : k ≤ 1099511627775) (hk' : k' ≤ 1099511627775) (hu : u = 0) :
    Calls Tryz.prog 108 #[.slice A n c, .slice A' m d] w fun e w' => e = .returned (.tuple #[.slice none 0 0, .slice none 0 0, .int .i64 7]) ∧ St w0 w' S := by
  obtain ⟨a1, a2, rfl⟩ := h.get h1
  obtain ⟨b1, b2, rfl⟩ := h.get h2
  exact (qdiv_zero w A A' n c m d xs ys a1 b1 (by omega) (by omega) hu).mono fun e w' ⟨he, hb⟩ => ⟨he, by rw [hb]; exact h⟩
theorem gcd_s (h : St w0 w S) (h1 : (⟨A, n, c, k, xs, v⟩ : Ent) ∈ S) (h2 : (⟨A', m, d, k', ys, u⟩ : Ent) ∈ S) (hk : k + k' ≤ 1099511627775) :
    Calls Tryz.prog 80 #[.slice A n c, .slice A' m d] w fun e w' => ∃ A n c, e = .returned (.slice A n c) ∧ St w0 w' (⟨A, n, c, k + k', limbs (gI v u), gI v u⟩ :: S) := by
  obtain ⟨a1, a2, rfl⟩ := h.get h1
  obtain ⟨b1, b2, rfl⟩ := h.get h2
  refine (qgcd_any w A A' n c m d (k + k') xs ys a1 b1 (by omega) (by omega) (by omega)).mono fun e w' ho => ?_
  obtain ⟨A, n, c, he, hn, hown, hb⟩ := ho
  exact h.out (gI_nonneg _ _) ⟨A, n, c, he, by omega, hown, hb⟩
/-- two literals of one statement -/
theorem St.two (h : St w0 w S) (xs ys : List Int) (hx : Dg B xs) (hy : Dg B ys) (hl : xs.length ≤ 1000) (hl' : ys.length ≤ 1000) {n m : Nat} (hn : xs.length = n) (hm : ys.length = m) {v u : Int} (hv : val B xs = v) (hu : val B ys = u) :
    St w0 ((w.alloc (.cells (uv xs).toArray 72)).alloc (.cells (uv ys).toArray 72)) (⟨some ⟨w.heap.size + 1, 0, none⟩, m, m, m, ys, u⟩ :: ⟨some ⟨w.heap.size, 0, none⟩, n, n, n, xs, v⟩ :: S) := by
  have h1 := (h.lit xs hx hl).lit ys hy hl'
  rw [World.size_alloc, hn, hm, hv, hu] at h1
  exact h1
theorem St.lit11 (h : St w0 w S) (x y : Int) (hx : 0 ≤ x ∧ x < 18446744073709551616) (hy : 0 ≤ y ∧ y < 18446744073709551616) :
    St w0 ((w.alloc (.cells #[.int .u64 x] 72)).alloc (.cells #[.int .u64 y] 72)) (⟨some ⟨w.heap.size + 1, 0, none⟩, 1, 1, 1, [y], y⟩ :: ⟨some ⟨w.heap.size, 0, none⟩, 1, 1, 1, [x], x⟩ :: S) :=
  h.two [x] [y] (Dg.one hx.1 hx.2) (Dg.one hy.1 hy.2) (by simp) (by simp) rfl rfl (by simp [val]) (by simp [val])
theorem St.lit21 (h : St w0 w S) (x z y : Int) (hx : 0 ≤ x ∧ x < 18446744073709551616) (hz : 0 ≤ z ∧ z < 18446744073709551616) (hy : 0 ≤ y ∧ y < 18446744073709551616) :
    St w0 ((w.alloc (.cells #[.int .u64 x, .int .u64 z] 72)).alloc (.cells #[.int .u64 y] 72)) (⟨some ⟨w.heap.size + 1, 0, none⟩, 1, 1, 1, [y], y⟩ :: ⟨some ⟨w.heap.size, 0, none⟩, 2, 2, 2, [x, z], x + 18446744073709551616 * z⟩ :: S) :=
  h.two [x, z] [y] (Dg.cons hx.1 hx.2 (Dg.one hz.1 hz.2)) (Dg.one hy.1 hy.2) (by simp) (by simp) rfl rfl (by simp [val]) (by simp [val])
end
end Go.Proofs.YtfdpddlefobcpaaGreatDoor
/- append of made 0s, how many being a number of 8 bits, and of a natural onto a fresh literal, over this translation. -/
namespace Go.Proofs.YtfdpddlefobcpaaGreatDoor
open Go.RowKit
set_option linter.unusedVariables false
set_option maxRecDepth 20000
open N
theorem u8K : Tryz.prog.underlying 5 = some (.int .u8) := Tryz.underlying5
/-- append of m made 0s onto a row of the call's own -/
theorem run_zeros8 {w : World} (base : Nat) (ty : TypeId) {A : Option Addr} {n c : Nat} {xs : List Int} (hown : N.Own w base A n c xs) (m : Nat) (hn : n ≤ 1099511627776) (hm : m ≤ 200) (hbase : base ≤ w.heap.size) :
    ∃ A'' c'' w', (Builtin.append_ #[58, 5] ty #[.slice A n c, .int .u8 (m : Int)]).run Tryz.prog w = .ok (.slice A'' (n + m) c'') w' ∧ N.Own w' base A'' (n + m) c'' (xs ++ List.replicate m 0) ∧ Below base w w' := by
  obtain ⟨i0, hi, hz0, hz1, hz2⟩ := info_parts infoU
  have hw : IntKind.i64.wrap (m : Int) = m := IntWalk.i64_in _ (by omega)
  have hneg : ¬ ((m : Int) < 0) := by omega
  have hbig : ¬ ((281474976710656 : Int) < (m : Int) * 8) := by omega
  have hsmall : n + m ≤ 9223372036854775807 := by omega
  have hl : (uv (xs ++ List.replicate m 0)).length = (n + m) * 1 := by rw [uv_length, List.length_append, List.length_replicate, hown.len, Nat.mul_one]
  have hdg := hown.dg.append (Dg.zeros (b := B) (by decide) m)
  have grown : ∀ (old : Nat), old < n + m →
      Own' (w.drew.alloc (.cells ((uv xs).toArray ++ (uv (List.replicate m 0)).toArray ++ Builtin.zeroCells #[Value.int .u64 0] (grownCap w (n + m) old 72 - (n + m))) 72)) base (some ⟨w.heap.size, 0, none⟩) (n + m) (grownCap w (n + m) old 72) (xs ++ List.replicate m 0) ∧
      Below base w (w.drew.alloc (.cells ((uv xs).toArray ++ (uv (List.replicate m 0)).toArray ++ Builtin.zeroCells #[Value.int .u64 0] (grownCap w (n + m) old 72 - (n + m))) 72)) := by
    intro old ho
    have hge := grownCap_ge w (n + m) old 72
    have hcm := grownCap_le_maxLen w (n + m) old 72 (by unfold maxLen; omega)
    refine ⟨⟨⟨hl, .inr ⟨w.heap.size, _, _, rfl, hbase, heap_alloc_new w.drew _, hge, hcm, ?_, ?_⟩⟩, hdg⟩, (Below.refl base w).drew.alloc hbase _⟩
    · simp only [Array.size_append, List.size_toArray, size_zeroCells, uv_length, List.length_replicate, hown.len]
      simp
      omega
    · simp only [Array.toList_append, List.append_assoc]
      rw [← hl, ← List.append_assoc, ← uv_append]
      exact List.take_left
  have hz0' : i0.zero = some (.int .u64 0) := hz0
  have hcell : (Value.int .u64 0).cells = #[Value.int .u64 0] := rfl
  by_cases hm0 : m = 0
  · subst hm0
    have hw0 : IntKind.i64.wrap 0 = 0 := by decide
    refine ⟨A, c, w, ?_, by simpa using hown, Below.refl _ _⟩
    have hnc := hown.sl.cap
    cases A with
    | none => simp [Builtin.append_, run_underlying slNat, run_underlying u8K, sizeOf, typeInfo, hi, asInt, asIntOf, hw0, hnc]
    | some ad => simp [Builtin.append_, run_underlying slNat, run_underlying u8K, sizeOf, typeInfo, hi, asInt, asIntOf, hw0, hnc, storeCells]
  rcases hown.row.2 with ⟨e, e0⟩ | ⟨g, cap, cur, e, hbg, hg, hnc, hcm, hcs, htake⟩
  · cases e
    have hx : xs = [] := List.eq_nil_of_length_eq_zero hown.len
    subst hx
    have hgr := grown 0 (by omega)
    have hne : ¬ (0 + m ≤ 0) := by omega
    have h63' : ¬ ((9223372036854775807 : Int) < (m : Int)) := by omega
    have h48' : ¬ (281474976710656 < Builtin.nextslicecap m 0 * 8) := by rw [nextslicecap_zero (by omega)]; omega
    refine ⟨_, _, _, ?_, hgr.1, hgr.2⟩
    simp [Builtin.append_, run_underlying slNat, run_underlying u8K, sizeOf, typeInfo, zeroValue, hi, hz0', hz1, hz2, asInt, asIntOf, hw, hneg, hbig, hm0, h63', h48', Question.forced, Builtin.firstCells, newRow, grownCap]
    rw [hcell, zeroCells_uv, zeroCells_uv]
    simp [uv]
  · cases e
    have hcu : cur.size = c := by omega
    have htk : cur.toList.take n = uv xs := by rw [← htake, Nat.mul_one]
    by_cases hroom : n + m ≤ c
    · have hst := run_storeCells_at Tryz.prog g n 72 (uv (List.replicate m 0)) 0 cur w hg (by rw [uv_length, List.length_replicate]; omega) (uv_one _)
      simp only [Nat.add_zero] at hst
      refine ⟨some ⟨g, 0, none⟩, c, w.setRow g (cur.toList.take n ++ uv (List.replicate m 0) ++ cur.toList.drop (n + (uv (List.replicate m 0)).length)).toArray, ?_,
        ⟨⟨hl, .inr ⟨g, c, _, rfl, hbg, setRow_heap w g cur _ _ _ hg, hroom, hcm, ?_, ?_⟩⟩, hdg⟩, ⟨rfl, rfl, rfl, by simp, fun k hk => setRow_other w g k _ (by omega)⟩⟩
      · simp [Builtin.append_, run_underlying slNat, run_underlying u8K, sizeOf, typeInfo, zeroValue, hi, hz0', hz1, hz2, asInt, asIntOf, hw, hneg, hbig, hm0, hroom, Addr.add_lit]
        rw [hcell, zeroCells_uv]
        simp [hst]
      · simp only [List.size_toArray, List.length_append, List.length_take, List.length_drop, Array.length_toList, uv_length, List.length_replicate]
        omega
      · rw [htk, ← hl, ← uv_append]
        exact List.take_left
    · have hgr := grown c (by omega)
      have holds : ∀ j u, (uv xs)[j]? = some u → w.cell? ((⟨g, 0, none⟩ : Addr).add j) = some u := hown.row.cells (g := g) rfl
      have hfo := run_firstCells_some (P := Tryz.prog) w.drew 1 n ⟨g, 0, none⟩ n c (uv xs) (by rw [uv_length, hown.len, Nat.mul_one]) (by simpa using holds)
      have h63' : ¬ ((9223372036854775807 : Int) < (n : Int) + (m : Int)) := by omega
      have h48' : ¬ (281474976710656 < Builtin.nextslicecap (n + m) c * 8) := by
        have := growslice_fits (need := n + m) (old := c) (bytes := 8) (by omega) (by omega)
        omega
      refine ⟨_, _, _, ?_, hgr.1, hgr.2⟩
      simp [Builtin.append_, run_underlying slNat, run_underlying u8K, sizeOf, typeInfo, zeroValue, hi, hz0', hz1, hz2, asInt, asIntOf, hw, hneg, hbig, hm0, hroom, h63', h48', Question.forced, hfo, newRow, grownCap]
      rw [hcell, zeroCells_uv, zeroCells_uv]
      congr 2
      apply Array.ext'
      simp [List.append_assoc]
theorem wp_zeros8 {w : World} {ops : Array Oper} {rest : List Oper} {o : Oper} {a : Act} {Q : Exit → Act → World → Prop} (hgd : o.guard = none) (s x : Operand)
    (ho : o.op = .call { callee := .builtin .append, args := #[s, x], argTypes := #[58, 5] })
    (base : Nat) {A : Option Addr} {n c : Nat} {xs : List Int} (hs : a.eval s = .slice A n c) (hown : N.Own w base A n c xs) (m : Nat) (hx : a.eval x = .int .u8 (m : Int)) (hn : n ≤ 1099511627776) (hm : m ≤ 200) (hbase : base ≤ w.heap.size)
    (h : ∀ A'' c'' w', N.Own w' base A'' (n + m) c'' (xs ++ List.replicate m 0) → Below base w w' → wpList Tryz.prog ops Q rest (a.put o.dst (.slice A'' (n + m) c'')) w') : wpList Tryz.prog ops Q (o :: rest) a w := by
  obtain ⟨A'', c'', w', hr, h1, h2⟩ := run_zeros8 base o.type hown m hn hm hbase
  refine wpList_plain hgd fun K hK => ?_
  unfold Oper.wp execOp
  simp only [ho, resolve, invoke, builtin, Sem.run_bind, Sem.run_pure, Result.andThen_ok, List.map_toArray, List.map_cons, List.map_nil, hs, hx, hr]
  exact hK _ _ (h A'' c'' w' h1 h2)
section
variable {w0 w1 w2 : World} {S : List Ent} {A A' : Option Addr} {n c m d k k' : Nat} {xs ys : List Int} {v u : Int}
/-- append onto a fresh literal of no limbs -/
theorem wp_copy (h : St w0 w1 S) (h1 : (⟨A, n, c, k, xs, v⟩ : Ent) ∈ S) (hk : k ≤ 1000) {ops : Array Oper} {rest : List Oper} {o : Oper} {a : Act} {Q : Exit → Act → World → Prop} (hgd : o.guard = none) (s x : Operand)
    (ho : o.op = .call { callee := .builtin .append, args := #[s, x], argTypes := #[58, 58] }) (hs : a.eval s = .slice (some ⟨w1.heap.size, 0, none⟩) 0 0) (hx : a.eval x = .slice A n c)
    (K : ∀ A'' c'' w2, N.Own w2 w1.heap.size A'' n c'' xs → Below w1.heap.size w1 w2 → wpList Tryz.prog ops Q rest (a.put o.dst (.slice A'' n c'')) w2) : wpList Tryz.prog ops Q (o :: rest) a (w1.alloc (.cells #[] 72)) := by
  obtain ⟨a1, a2, rfl⟩ := h.get h1
  have h0 : N.Own (w1.alloc (.cells #[] 72)) w1.heap.size (some ⟨w1.heap.size, 0, none⟩) 0 0 [] := ⟨(Arr.lit w1 [] #[] rfl).own (Nat.le_refl _) rfl (Nat.zero_le _) (Nat.le_refl _), Dg.nil⟩
  have hb0 : Below w1.heap.size w1 (w1.alloc (.cells #[] 72)) := (Below.refl _ w1).alloc (Nat.le_refl _) _
  refine wp_app hgd s x _ ho slNat w1.heap.size hs h0 hx (a1.below hb0) (by omega) (by omega) hb0.size ?_
  intro A2 c2 w2 hown2 _ _ hb2
  simp only [Nat.zero_add, List.nil_append] at hown2 ⊢
  exact K A2 c2 w2 hown2 (hb0.trans hb2)
/-- .. and made 0s onto that -/
theorem wp_tail (h : St w0 w1 S) (hown : N.Own w2 w1.heap.size A n c xs) (hb : Below w1.heap.size w1 w2) (hn : n ≤ 1000) (hv : val B xs = v) (m : Nat) (hm : m ≤ 200)
    {ops : Array Oper} {rest : List Oper} {o : Oper} {a : Act} {Q : Exit → Act → World → Prop} (hgd : o.guard = none) (s x : Operand)
    (ho : o.op = .call { callee := .builtin .append, args := #[s, x], argTypes := #[58, 5] }) (hs : a.eval s = .slice A n c) (hx : a.eval x = .int .u8 (m : Int))
    (K : ∀ A'' c'' w3, St w0 w3 (⟨A'', n + m, c'', n + m, xs ++ List.replicate m 0, v⟩ :: S) → wpList Tryz.prog ops Q rest (a.put o.dst (.slice A'' (n + m) c'')) w3) : wpList Tryz.prog ops Q (o :: rest) a w2 := by
  refine wp_zeros8 hgd s x ho w1.heap.size hs hown m hx (by omega) hm hb.size ?_
  intro A3 c3 w3 hown3 hb3
  exact K A3 c3 w3 ((h.below (hb.trans hb3)).cons hown3.sl (Nat.le_refl _) (by rw [val_zeros_behind]; exact hv))
end
end Go.Proofs.YtfdpddlefobcpaaGreatDoor
