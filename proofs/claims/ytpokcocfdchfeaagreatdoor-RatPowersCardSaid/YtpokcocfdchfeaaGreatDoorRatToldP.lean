/- What the program and the document tell of a power, in one form for what is told and what is refused. -/
import Derived.Test.YtpokcocfdchfeaaGreatDoorRefRatP
import Derived.Test.YtpokcocfdchfeaaGreatDoorRatTold
namespace Go.Proofs.YtpokcocfdchfeaaGreatDoor
open Go.RowKit
set_option linter.unusedVariables false
set_option linter.unusedSimpArgs false
set_option maxRecDepth 20000
open N
theorem powOk_w {v : Int} (h0 : 0 ≤ v) {L q : Nat} (hv : v < 2 ^ L) (h : L * q ≤ 1048576) : PowOk v q := by
  by_cases hz : v = 0
  · exact .inl hz
  · right
    obtain ⟨k, e1, e2, e3⟩ := len_spec v h0
    have hk0 : k ≠ 0 := by rintro rfl; simp at e2; omega
    have e3' : 2 ^ (k - 1) ≤ v := by rcases e3 with e3 | e3; exact absurd e3 hk0; exact e3
    have hkL : k ≤ L := by
      apply Classical.byContradiction; intro hc
      have e5 : (2 : Int) ^ L ≤ 2 ^ (k - 1) := by rw [← W.cast_pow, ← W.cast_pow]; exact Int.ofNat_le.2 (Nat.pow_le_pow_right (by omega) (by omega))
      omega
    rw [e1]
    refine (Int.le_ediv_iff_mul_le (show (0 : Int) < k by omega)).2 ?_
    have h1 : k * q ≤ L * q := Nat.mul_le_mul_right q hkL
    have h2 : (q : Int) * k = ((k * q : Nat) : Int) := by rw [Int.natCast_mul, Int.mul_comm]
    omega
section
variable {w : World} {b : Bool} {A A' : Option Addr} {n c n' c' : Nat} {xs ys : List Int} {r : Rat}
theorem frm_bd (h : Frm w b A n c xs A' n' c' ys 6 r) : 0 ≤ mg r.num ∧ mg r.num < 2 ^ 384 ∧ (r.den : Int) < 2 ^ 384 := by
  have e1 := h.num.nn0
  have e2 := h.num.lt
  have e3 := h.den.nn0
  have e4 := h.den.lt
  have e5 : Q B n ≤ Q B 6 := Q_mono (by decide) h.ln
  have e6 : Q B n' ≤ Q B 6 := Q_mono (by decide) h.ld
  have e7 : Q B 6 = 2 ^ 384 := by decide +kernel
  rw [e7] at e5 e6
  have hv := h.val
  refine ⟨mg_nn _, ?_⟩
  by_cases hz : val B ys = 0
  · rw [hz] at hv
    have hr : r = 0 := by rw [← hv]; exact Rat.mkRat_zero _
    rw [hr]
    exact ⟨by decide +kernel, by decide +kernel⟩
  · have e8 := rden_lt (b := b) e1 (show 0 < val B ys by omega)
    rw [hv] at e8
    exact ⟨Int.lt_of_le_of_lt e8.1 (Int.lt_of_lt_of_le e2 e5), Int.lt_of_le_of_lt e8.2 (Int.lt_of_lt_of_le e4 e6)⟩
theorem fpow_12 (w : World) (h : Frm w b A n c xs A' n' c' ys 6 r) {q : Nat} (hq : q ≤ 12) :
    Calls Tryz.prog 7 #[.agg #[.bool b, .slice A n c, .slice A' n' c'], .int .i64 (q : Int)] w (OutRE w 16385 (r ^ q) 0) := by
  obtain ⟨b1, b2, b3⟩ := frm_bd h
  exact fpow_any w h (by decide) (by decide) (by omega) (powOk_w b1 b2 (by omega)) (powOk_w (by omega) b3 (by omega))
theorem pw1 : ∀ k, k < 13 → (1 : Rat) ^ (min k (2 + k % 2)) = 1 ^ k := by decide +kernel
theorem pwm : ∀ k, k < 13 → (-1 : Rat) ^ (min k (2 + k % 2)) = (-1) ^ k := by decide +kernel
theorem pw0 : ∀ k, k < 13 → (0 : Rat) ^ (min k (2 + k % 2)) = 0 ^ k := by decide +kernel
theorem r6pow_12 (w : World) (h : Frm w b A n c xs A' n' c' ys 6 r) {q : Nat} (hq : q ≤ 12) :
    Calls Tryz.prog 6 #[.agg #[.bool b, .slice A n c, .slice A' n' c'], .int .i64 (q : Int)] w (OutRE w 73 (r ^ q) 0) := by
  obtain ⟨b1, b2, b3⟩ := frm_bd h
  have o1 : PowOk (mg r.num) q := powOk_w b1 b2 (by omega)
  have o2 : PowOk (r.den : Int) q := powOk_w (by omega) b3 (by omega)
  have ev : val B [1] = 1 := by decide +kernel
  have h1 := limbs_val b1
  have h2 := limbs_val (n := (r.den : Int)) (by omega)
  by_cases s1 : limbs (mg r.num) = [1]
  · have m1 : mg r.num = 1 := by rw [s1, ev] at h1; exact h1.symm
    by_cases s2 : limbs (r.den : Int) = [1]
    · have d1 : (r.den : Int) = 1 := by rw [s2, ev] at h2; exact h2.symm
      have hr : r = 1 ∨ r = -1 := by
        have h9 := rv_self r
        rw [m1, d1] at h9
        cases hs : sg r.num <;> rw [hs] at h9
        · left; rw [← h9]; decide +kernel
        · right; rw [← h9]; decide +kernel
      have hpow : r ^ (min q (2 + q % 2)) = r ^ q := by
        rcases hr with e | e <;> rw [e]
        · exact pw1 q (by omega)
        · exact pwm q (by omega)
      exact r6pow_A w h (by decide) (by decide) hq o1 o2 (decide_eq_true s1) (decide_eq_true s2) rfl hpow
    · exact r6pow_B w h (by decide) (by decide) hq o1 o2 (decide_eq_true s1) (decide_eq_false s2) (by omega) rfl rfl
  · by_cases hz : mg r.num = 0
    · have hr : r = 0 := Rat.num_eq_zero.1 (mg_eq0.1 hz)
      have hpow : r ^ (min q (2 + q % 2)) = r ^ q := by
        rw [hr]
        exact pw0 q (by omega)
      exact r6pow_C w h (by decide) (by decide) hq o1 o2 (decide_eq_false s1) hz rfl hpow
    · exact r6pow_D w h (by decide) (by decide) hq o1 o2 (decide_eq_false s1) hz rfl rfl
theorem fpow_big (w : World) (h : Frm w b A n c xs A' n' c' ys 6 r) {q : Int} (hq : 1048576 < q) (hq2 : q ≤ 9223372036854775807) :
    Calls Tryz.prog 7 #[.agg #[.bool b, .slice A n c, .slice A' n' c'], .int .i64 q] w (OutRZ w 5) := by
  by_cases hz : mg r.num = 0
  · obtain ⟨k, rfl⟩ : ∃ k : Nat, q = (k : Int) := ⟨q.toNat, by omega⟩
    have hl : 0 < W.len (r.den : Int) := by
      have e1 := len_nonneg (r.den : Int)
      have e2 := rden_pos r
      have e3 : W.len (r.den : Int) ≠ 0 := fun e => by have := len_zero_p (Int.le_of_lt e2) e; omega
      omega
    have h1 : 1048576 / W.len (r.den : Int) ≤ 1048576 := Int.ediv_le_self _ (by decide)
    exact fpow_ld w h (by decide) (by decide) (by omega) (.inl hz) hl (by omega)
  · have hl : 0 < W.len (mg r.num) := by
      have e1 := len_nonneg (mg r.num)
      have e3 : W.len (mg r.num) ≠ 0 := fun e => hz (len_zero_p (mg_nn _) e)
      omega
    have h1 : 1048576 / W.len (mg r.num) ≤ 1048576 := Int.ediv_le_self _ (by decide)
    exact fpow_ln w h (by decide) (by decide) (by omega) hl (by omega)
end
theorem pows_t (b : Bool) (x y : List Int) (q : Int) (hq : q ≤ 12 ∨ 1048576 < q) (hq2 : q ≤ 9223372036854775807) : ∃ sb xs ys j, (1048576 < q → j = 5) ∧
    (∀ (w : World) (A : Option Addr) (n c : Nat) (A' : Option Addr) (m d : Nat), Sl w A n c x → Sl w A' m d y → n ≤ 6 → m ≤ 6 → Calls Tryz.prog 7 #[.agg #[.bool b, .slice A n c, .slice A' m d], .int .i64 q] w (ToldE w 16385 sb xs ys j)) ∧
    (∀ (w : World) (A : Option Addr) (n c : Nat) (A' : Option Addr) (m d : Nat), Sl w A n c x → Sl w A' m d y → n ≤ 6 → m ≤ 6 → Calls Tryz.prog 6 #[.agg #[.bool b, .slice A n c, .slice A' m d], .int .i64 q] w (ToldE w 73 sb xs ys j)) := by
  by_cases hn : q < 0
  · exact ⟨_, _, _, _, fun h => absurd h (by omega), fun w A n c A' m d h h' h1 h2 => (fpow_neg w ⟨h, h', h1, h2, rfl⟩ (by decide) (by decide) hn).mono fun e w' ho => ToldE.z ho,
      fun w A n c A' m d h h' h1 h2 => (r6pow_neg w ⟨h, h', h1, h2, rfl⟩ (by decide) (by decide) hn).mono fun e w' ho => ToldE.z ho⟩
  · by_cases hb : 1048576 < q
    · exact ⟨_, _, _, _, fun h => rfl, fun w A n c A' m d h h' h1 h2 => (fpow_big w ⟨h, h', h1, h2, rfl⟩ hb hq2).mono fun e w' ho => ToldE.z ho,
        fun w A n c A' m d h h' h1 h2 => (r6pow_big w ⟨h, h', h1, h2, rfl⟩ (by decide) (by decide) hb).mono fun e w' ho => ToldE.z ho⟩
    · obtain ⟨k, rfl⟩ : ∃ k : Nat, q = (k : Int) := ⟨q.toNat, by omega⟩
      exact ⟨_, _, _, _, fun h => absurd h hb, fun w A n c A' m d h h' h1 h2 => (fpow_12 w ⟨h, h', h1, h2, rfl⟩ (by omega)).mono fun e w' ho => ToldE.of ho,
        fun w A n c A' m d h h' h1 h2 => (r6pow_12 w ⟨h, h', h1, h2, rfl⟩ (by omega)).mono fun e w' ho => ToldE.of ho⟩
end Go.Proofs.YtpokcocfdchfeaaGreatDoor
