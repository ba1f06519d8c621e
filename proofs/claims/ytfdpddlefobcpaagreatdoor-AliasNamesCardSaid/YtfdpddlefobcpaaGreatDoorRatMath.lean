/- Fractions, plain: their values (Lean's own Rat), how they stand to each other, their halves and powers. No program, no walk. -/
import Derived.Test.YtfdpddlefobcpaaGreatDoorGWhole
import Derived.Test.YtfdpddlefobcpaaGreatDoorGQuo
namespace Go.Proofs.YtfdpddlefobcpaaGreatDoor
open Go.RowKit
set_option linter.unusedVariables false
set_option maxRecDepth 20000
namespace N
/-- the value of a fraction: of a sign, a magnitude, a denominator -/
def rv (b : Bool) (v d : Int) : Rat := mkRat (iv b v) d.toNat
theorem rv_0 (b : Bool) (v : Int) : rv b v 0 = 0 := Rat.mkRat_zero _
theorem iv_ediv {b : Bool} {v g : Int} (h : g ∣ v) : iv b v / g = iv b (v / g) := by
  cases b
  · rfl
  · show -v / g = -(v / g); exact Int.neg_ediv_of_dvd h
theorem gI_dvd_l {v d : Int} (hv : 0 ≤ v) : gI v d ∣ v := by
  have h : ((Nat.gcd v.toNat d.toNat : Nat) : Int) ∣ ((v.toNat : Nat) : Int) := Int.natCast_dvd_natCast.2 (Nat.gcd_dvd_left _ _)
  rw [Int.toNat_of_nonneg hv] at h; exact h
theorem gI_dvd_r {v d : Int} (hd : 0 ≤ d) : gI v d ∣ d := by
  have h : ((Nat.gcd v.toNat d.toNat : Nat) : Int) ∣ ((d.toNat : Nat) : Int) := Int.natCast_dvd_natCast.2 (Nat.gcd_dvd_right _ _)
  rw [Int.toNat_of_nonneg hd] at h; exact h
theorem gI_pos {v d : Int} (hd : 0 < d) : 0 < gI v d := by
  have h : 0 < Nat.gcd v.toNat d.toNat := Nat.gcd_pos_of_pos_right _ (by omega)
  unfold gI; omega
theorem rv_nd {b : Bool} {v d : Int} (hv : 0 ≤ v) (hd : 0 < d) : (rv b v d).num = iv b (v / gI v d) ∧ ((rv b v d).den : Int) = d / gI v d := by
  have hne : d.toNat ≠ 0 := by omega
  have h1 : rv b v d = Rat.normalize (iv b v) d.toNat hne := by unfold rv; rw [Rat.mkRat_def, dif_neg hne]
  rw [h1, Rat.normalize_eq]
  constructor
  · show iv b v / ((iv b v).natAbs.gcd d.toNat : Nat) = _
    rw [abs_iv hv]
    exact iv_ediv (gI_dvd_l hv)
  · show ((d.toNat / (iv b v).natAbs.gcd d.toNat : Nat) : Int) = _
    rw [abs_iv hv, Int.natCast_ediv, Int.toNat_of_nonneg (Int.le_of_lt hd)]
    rfl
theorem rv_self (r : Rat) : rv (sg r.num) (mg r.num) r.den = r := by
  unfold rv
  have : iv (sg r.num) (mg r.num) = r.num := by
    unfold iv sg mg
    by_cases h : r.num < 0
    · rw [decide_eq_true h, if_pos rfl]; omega
    · rw [decide_eq_false h, if_neg (by decide)]; omega
  rw [this, Int.toNat_natCast, Rat.mkRat_self]
theorem rden_pos (r : Rat) : (0 : Int) < r.den := by have := r.den_nz; omega
theorem rden_lt {b : Bool} {v d : Int} (hv : 0 ≤ v) (hd : 0 < d) : mg (rv b v d).num ≤ v ∧ ((rv b v d).den : Int) ≤ d := by
  obtain ⟨h1, h2⟩ := rv_nd (b := b) hv hd
  have hg := gI_pos (v := v) hd
  rw [h1, h2, mg_iv (Int.ediv_nonneg hv (Int.le_of_lt hg))]
  exact ⟨Int.ediv_le_self _ hv, Int.ediv_le_self _ (Int.le_of_lt hd)⟩
theorem rv_mul (b b' : Bool) (v d v' d' : Int) (hd : 0 ≤ d) (hd' : 0 ≤ d') : mkRat (iv b v * iv b' v') (d * d').toNat = rv b v d * rv b' v' d' := by
  unfold rv; rw [Rat.mkRat_mul_mkRat, Int.toNat_mul hd hd']
theorem rv_add (b b' : Bool) (v d v' d' : Int) (hd : 0 < d) (hd' : 0 < d') : mkRat (iv b v * d' + iv b' v' * d) (d * d').toNat = rv b v d + rv b' v' d' := by
  unfold rv; rw [Rat.mkRat_add_mkRat _ _ (by omega) (by omega), Int.toNat_mul (Int.le_of_lt hd) (Int.le_of_lt hd'), Int.toNat_of_nonneg (Int.le_of_lt hd), Int.toNat_of_nonneg (Int.le_of_lt hd')]
theorem rv_neg (z : Int) (d : Nat) : mkRat (-z) d = -mkRat z d := (Rat.neg_mkRat _ _).symm
/-- a fraction's sign -/
def rs (r : Rat) : Int := sgn r.num
theorem num_lt {r : Rat} : r.num < 0 ↔ r < 0 := by
  have := @Rat.num_nonneg r
  constructor
  · intro h; have : ¬ 0 ≤ r := fun e => by have := Rat.num_nonneg.2 e; omega
    exact Rat.not_le.1 this
  · intro h; have h1 : ¬ 0 ≤ r := Rat.not_le.2 h
    have : ¬ 0 ≤ r.num := fun e => h1 (Rat.num_nonneg.1 e)
    omega
theorem num_0 {r : Rat} : r.num = 0 ↔ r = 0 := Rat.num_eq_zero
theorem rs_cases (r : Rat) : (r < 0 ∧ rs r = -1) ∨ (r = 0 ∧ rs r = 0) ∨ (0 < r ∧ rs r = 1) := by
  rcases sgn_cases r.num with ⟨h, e⟩ | ⟨h, e⟩ | ⟨h, e⟩
  · exact .inl ⟨num_lt.1 h, e⟩
  · exact .inr (.inl ⟨num_0.1 h, e⟩)
  · refine .inr (.inr ⟨?_, e⟩)
    have h1 : ¬ r < 0 := fun h' => by have := num_lt.2 h'; omega
    have h2 : r ≠ 0 := fun h' => by have := num_0.2 h'; omega
    grind
theorem rs_neg (r : Rat) : rs (-r) = -rs r := by
  rcases rs_cases r with ⟨h, e⟩ | ⟨h, e⟩ | ⟨h, e⟩ <;> rcases rs_cases (-r) with ⟨h', e'⟩ | ⟨h', e'⟩ | ⟨h', e'⟩ <;> grind
theorem rs_mul (r q : Rat) : rs (r * q) = rs r * rs q := by
  rcases rs_cases r with ⟨h, e⟩ | ⟨h, e⟩ | ⟨h, e⟩ <;> rcases rs_cases q with ⟨h', e'⟩ | ⟨h', e'⟩ | ⟨h', e'⟩ <;> rcases rs_cases (r * q) with ⟨h2, e2⟩ | ⟨h2, e2⟩ | ⟨h2, e2⟩ <;> rw [e, e', e2] <;> first
    | rfl
    | (exfalso; have h3 := Rat.mul_pos (a := r) (b := q) (by grind) (by grind); grind)
    | (exfalso; have h3 := Rat.mul_pos (a := -r) (b := q) (by grind) (by grind); grind)
    | (exfalso; have h3 := Rat.mul_pos (a := r) (b := -q) (by grind) (by grind); grind)
    | (exfalso; have h3 := Rat.mul_pos (a := -r) (b := -q) (by grind) (by grind); grind)
    | (exfalso; grind)
theorem rs_of_pos {r : Rat} (h : 0 < r) : rs r = 1 := by rcases rs_cases r with ⟨h', e'⟩ | ⟨h', e'⟩ | ⟨h', e'⟩ <;> grind
theorem rs_of_neg {r : Rat} (h : r < 0) : rs r = -1 := by rcases rs_cases r with ⟨h', e'⟩ | ⟨h', e'⟩ | ⟨h', e'⟩ <;> grind
theorem rs_mk {z d : Int} (hd : 0 < d) : rs (mkRat z d.toNat) = sgn z := by
  have hz : (0 : Rat) < (d.toNat : Rat) := by
    have : (0 : Int) < (d.toNat : Int) := by omega
    exact_mod_cast this
  have he : mkRat z d.toNat * (d.toNat : Rat) = (z : Rat) := by
    rw [Rat.mkRat_eq_div, Rat.div_mul_cancel (by grind)]
  have h1 : rs (mkRat z d.toNat) * rs (d.toNat : Rat) = rs (z : Rat) := by rw [← rs_mul, he]
  rw [rs_of_pos hz, Int.mul_one] at h1
  rw [h1]; unfold rs; rw [Rat.num_intCast]
theorem rs_sub (b b' : Bool) {v d v' d' : Int} (hd : 0 < d) (hd' : 0 < d') : sgn (iv b v * d' - iv b' v' * d) = rs (rv b v d - rv b' v' d') := by
  have h1 : rv b v d - rv b' v' d' = mkRat (iv b v * d' - iv b' v' * d) (d * d').toNat := by
    have h2 : rv b' v' d' = -mkRat (-iv b' v') d'.toNat := by unfold rv; rw [Rat.neg_mkRat, Int.neg_neg]
    rw [h2, Rat.sub_eq_add_neg, Rat.neg_neg]
    unfold rv
    rw [Rat.mkRat_add_mkRat _ _ (by omega) (by omega), Int.toNat_mul (Int.le_of_lt hd) (Int.le_of_lt hd'), Int.toNat_of_nonneg (Int.le_of_lt hd), Int.toNat_of_nonneg (Int.le_of_lt hd'), Int.neg_mul, Int.sub_eq_add_neg]
  rw [h1, rs_mk (Int.mul_pos hd hd')]
theorem toNat_ne {d : Int} (h : 0 < d) : ((d.toNat : Nat) : Rat) ≠ 0 := by
  have : d.toNat ≠ 0 := by omega
  exact_mod_cast this
theorem rv_div (b : Bool) (v d : Int) : rv b v d = ((iv b v : Int) : Rat) / ((d.toNat : Nat) : Rat) := Rat.mkRat_eq_div _ _
theorem toNat_rat {d : Int} (h : 0 ≤ d) : ((d.toNat : Nat) : Rat) = ((d : Int) : Rat) := by
  have h1 : ((d.toNat : Nat) : Int) = d := Int.toNat_of_nonneg h
  have h2 : (((d.toNat : Nat) : Int) : Rat) = ((d : Int) : Rat) := congrArg _ h1
  rw [← h2]; rfl
theorem int_ne {d : Int} (h : 0 < d) : ((d : Int) : Rat) ≠ 0 := by
  have : d ≠ 0 := by omega
  exact_mod_cast this
theorem mk_div (z : Int) {d : Int} (h : 0 ≤ d) : mkRat z d.toNat = (z : Rat) / (d : Rat) := by rw [Rat.mkRat_eq_div, toNat_rat h]
theorem iv_rat (b : Bool) (v : Int) : ((iv b v : Int) : Rat) = (if b then -1 else 1) * (v : Rat) := by cases b <;> simp [iv, Rat.intCast_neg] <;> grind
theorem rv_quo (b b' : Bool) {v d v' d' : Int} (hd : 0 < d) (hv : 0 < v') (hd' : 0 < d') : mkRat (iv b v * iv b' d') (d * v').toNat = rv b v d / rv b' v' d' := by
  unfold rv
  rw [mk_div _ (Int.le_of_lt (Int.mul_pos hd hv)), mk_div _ (Int.le_of_lt hd), mk_div _ (Int.le_of_lt hd'), Rat.intCast_mul, Rat.intCast_mul]
  have h1 := int_ne hd
  have h2 := int_ne hd'
  have h3 := int_ne hv
  rw [iv_rat b' d', iv_rat b' v']
  cases b' <;> simp <;> grind
theorem rv_sum {num den : Int} (b : Bool) {v d m c : Int} (hden : 0 < den) (hd : 0 < d) (hc : 0 < c) (h1 : d = m * c) (k : Int) (h2 : den = k * c) : mkRat (num * m + iv b v * k) (den * m).toNat = mkRat num den.toNat + rv b v d := by
  unfold rv
  have hm : 0 < m := by
    apply Classical.byContradiction; intro h
    have h5 : m * c ≤ 0 := Int.mul_nonpos_of_nonpos_of_nonneg (by omega) (by omega)
    omega
  have hk : 0 < k := by
    apply Classical.byContradiction; intro h
    have h5 : k * c ≤ 0 := Int.mul_nonpos_of_nonpos_of_nonneg (by omega) (by omega)
    omega
  rw [mk_div _ (Int.le_of_lt (Int.mul_pos hden hm)), mk_div _ (Int.le_of_lt hden), mk_div _ (Int.le_of_lt hd)]
  simp only [Rat.intCast_mul, Rat.intCast_add]
  have e1 : (d : Rat) = (m : Rat) * (c : Rat) := by rw [h1, Rat.intCast_mul]
  have e2 : (den : Rat) = (k : Rat) * (c : Rat) := by rw [h2, Rat.intCast_mul]
  have h3 := int_ne hm
  have h4 := int_ne hk
  have h5 := int_ne hc
  rw [e1, e2]
  grind
theorem rv_cross {b : Bool} {v d : Int} (hv : 0 ≤ v) (hd : 0 < d) : mg (rv b v d).num * d = v * (rv b v d).den := by
  obtain ⟨h1, h2⟩ := rv_nd (b := b) hv hd
  have hg := gI_pos (v := v) hd
  rw [h1, h2, mg_iv (Int.ediv_nonneg hv (Int.le_of_lt hg))]
  obtain ⟨p, hp⟩ := gI_dvd_l (d := d) hv
  obtain ⟨q, hq⟩ := gI_dvd_r (v := v) (Int.le_of_lt hd)
  generalize gI v d = g at *
  subst hp hq
  rw [Int.mul_ediv_cancel_left _ (by omega), Int.mul_ediv_cancel_left _ (by omega)]
  grind
theorem rv_gcd (r : Rat) : gI (mg r.num) r.den = 1 := by
  have := r.reduced
  unfold gI mg
  rw [Int.toNat_natCast, Int.toNat_natCast]
  exact_mod_cast this
theorem rv_sg {b : Bool} {v d : Int} (hv : 0 ≤ v) (hd : 0 < d) : sg (rv b v d).num = (b && decide (0 < v)) := by
  obtain ⟨h1, h2⟩ := rv_nd (b := b) hv hd
  have hg := gI_pos (v := v) hd
  obtain ⟨p, hp⟩ := gI_dvd_l (d := d) hv
  rw [h1]
  generalize gI v d = g at *
  subst hp
  rw [Int.mul_ediv_cancel_left _ (by omega)]
  have h3 : 0 < g * p ↔ 0 < p := by
    constructor
    · intro h; exact Int.pos_of_mul_pos_right h hg
    · intro h; exact Int.mul_pos hg h
  cases b
  · rw [Bool.false_and]; unfold sg iv; rw [if_neg (by decide)]
    have : ¬ p < 0 := fun h => by have := Int.mul_neg_of_pos_of_neg hg h; omega
    exact decide_eq_false this
  · rw [Bool.true_and]; unfold sg iv; rw [if_pos rfl]
    exact decide_eq_decide.2 (by rw [h3]; omega)
/-- 1 over 2 to the power of n -/
def rh (n : Nat) : Rat := mkRat 1 (2 ^ n)
theorem pow2_ne (n : Nat) : ((2 : Rat)) ^ n ≠ 0 := by
  induction n with
  | zero => rw [Rat.pow_zero]; decide
  | succ n ih => rw [Rat.pow_succ]; grind
theorem rh_eq (n : Nat) : rh n = 1 / 2 ^ n := by unfold rh; rw [Rat.mkRat_eq_div, Rat.natCast_pow]; rfl
theorem rh_nd (n : Nat) : (rh n).num = 1 ∧ (rh n).den = 2 ^ n := by
  have hne : (2 : Nat) ^ n ≠ 0 := by have := Nat.two_pow_pos n; omega
  unfold rh
  rw [← Rat.mk_eq_mkRat 1 (2 ^ n) hne (by simp)]
  exact ⟨rfl, rfl⟩
theorem rh_mul (n m : Nat) : rh n * rh m = rh (n + m) := by
  have hp : ∀ k : Nat, (2 : Rat) ^ (n + k) = 2 ^ n * 2 ^ k := by
    intro k
    induction k with
    | zero => rw [Rat.pow_zero, Rat.mul_one]; rfl
    | succ k ih => rw [← Nat.add_assoc, Rat.pow_succ, ih, Rat.pow_succ, Rat.mul_assoc]
  rw [rh_eq, rh_eq, rh_eq, hp]
  have := pow2_ne n; have := pow2_ne m
  grind
theorem rh_two (n : Nat) : rh (n + 1) + rh (n + 1) = rh n := by
  rw [rh_eq, rh_eq, Rat.pow_succ]
  have := pow2_ne n
  grind
theorem rh_lt (n : Nat) : rs (rh (n + 1) - rh n) = -1 := by
  have h : rh (n + 1) - rh n = -rh (n + 1) := by have := rh_two n; grind
  rw [h, rs_neg]
  unfold rs
  rw [(rh_nd _).1]; rfl
theorem rh_pow (n : Nat) : (rh 1) ^ n = rh n := by
  induction n with
  | zero => rw [Rat.pow_zero]; rfl
  | succ n ih => rw [Rat.pow_succ, ih, rh_mul]
theorem r_pow_num (r : Rat) (n : Nat) : (r ^ n).num = r.num ^ n ∧ (r ^ n).den = r.den ^ n := ⟨Rat.num_pow _ _, Rat.den_pow _ _⟩
theorem iv_pow (z : Int) (n : Nat) : iv (sg z && decide (n % 2 = 1)) (mg z ^ n) = z ^ n := by
  have key : ∀ n : Nat, (-z) ^ n = if n % 2 = 1 then -(z ^ n) else z ^ n := by
    intro n
    induction n with
    | zero => simp
    | succ n ih =>
      rw [Int.pow_succ, ih, Int.pow_succ]
      rcases Nat.mod_two_eq_zero_or_one n with h | h
      · rw [if_neg (by omega), if_pos (by omega)]; grind
      · rw [if_pos (by omega), if_neg (by omega)]; grind
  by_cases hz : z < 0
  · have h1 : mg z = -z := by unfold mg; omega
    have h2 : sg z = true := decide_eq_true hz
    rw [h1, h2, Bool.true_and, key]
    unfold iv
    by_cases h : n % 2 = 1
    · rw [if_pos h, decide_eq_true h, if_pos rfl, Int.neg_neg]
    · rw [if_neg h, decide_eq_false h, if_neg (by decide)]
  · have h1 : mg z = z := by unfold mg; omega
    have h2 : sg z = false := decide_eq_false hz
    rw [h1, h2, Bool.false_and]; rfl
theorem r_told_inj {r q : Rat} (h1 : sg r.num = sg q.num) (h2 : mg r.num = mg q.num) (h3 : r.den = q.den) : r = q := Rat.ext (wn_inj h1 h2) h3
end N
end Go.Proofs.YtfdpddlefobcpaaGreatDoor
