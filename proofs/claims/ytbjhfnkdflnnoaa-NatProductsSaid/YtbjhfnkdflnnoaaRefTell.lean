/- What the document's own Small, Len and Bit answer, over this translation. -/
import Derived.Test.YtbjhfnkdflnnoaaRefAdd
namespace Go.Proofs.Ytbjhfnkdflnnoaa
open Go.RowKit
set_option linter.unusedVariables false
open N
namespace N
theorem Q_twoD (k : Nat) : Q D k = 2 ^ (16 * k) := by
  unfold Q
  rw [Int.pow_mul]; rfl
theorem nn_zeroD {n : Int} (h0 : 0 ≤ n) : (digs n).length = 0 ↔ n = 0 := by
  have := digs_len_le h0 0
  rw [Q_zero] at this
  omega
/-- the length of a value by its digits -/
theorem len_topD {v : Int} (h0 : 0 ≤ v) (h : 0 < (digs v).length) : W.len v = (((digs v).length - 1 : Nat) : Int) * 16 + W.len (lim (digs v) ((digs v).length - 1)) := by
  have hd := digs_dg v
  have hv := val_top D (digs v) (by rw [digs_nn]; exact h)
  have hl := lo_lt (by decide) hd ((digs v).length - 1)
  have ht := nn_top (digs v) (by rw [digs_nn]; exact h)
  rw [digs_nn] at hv ht
  rw [digs_val h0] at hv
  have hg := hd.lim (by decide) ((digs v).length - 1)
  generalize lim (digs v) ((digs v).length - 1) = x at *
  generalize (digs v).length - 1 = t at *
  obtain ⟨k, hk, h1, h2⟩ := len_spec x hg.1
  have hk0 : k ≠ 0 := by
    rintro rfl
    simp at h1; omega
  have h2' : 2 ^ (k - 1) ≤ x := by rcases h2 with h2 | h2; exact absurd h2 hk0; exact h2
  have hq := Q_pos (b := D) (by decide) t
  rw [hk, len_of' v (16 * t + k) h0]
  · omega
  · rw [hv, Int.pow_add, ← Q_twoD]
    have : (x + 1) * Q D t ≤ 2 ^ k * Q D t := Int.mul_le_mul_of_nonneg_right (by omega) (by omega)
    rw [Int.add_mul, Int.one_mul] at this
    rw [Int.mul_comm (Q D t)]; omega
  · right
    rw [hv, show 16 * t + k - 1 = 16 * t + (k - 1) by omega, Int.pow_add, ← Q_twoD, Int.mul_comm (Q D t)]
    have : 2 ^ (k - 1) * Q D t ≤ x * Q D t := Int.mul_le_mul_of_nonneg_right h2' (by omega)
    omega
/-- a place of a value, by its digit -/
theorem bit_limD {v : Int} (h0 : 0 ≤ v) (n : Nat) : lim (digs v) (n / 16) / 2 ^ (n % 16) % 2 = v / 2 ^ n % 2 := by
  rw [lim_div (by decide) (digs_dg v), Q_twoD, digs_val h0]
  have e : (2 : Int) ^ n = 2 ^ (16 * (n / 16)) * 2 ^ (n % 16) := by rw [← Int.pow_add]; congr 1; omega
  rw [e, ← Int.ediv_ediv_of_nonneg (Int.le_of_lt (W.pow_pos _))]
  generalize v / 2 ^ (16 * (n / 16)) = v
  have hr : n % 16 < 16 := Nat.mod_lt _ (by omega)
  generalize n % 16 = r at *
  have e2 : (D : Int) = 2 ^ r * (2 * 2 ^ (15 - r)) := by
    rw [← W.pow_succ, ← Int.pow_add, show r + (15 - r + 1) = 16 by omega]; rfl
  rw [e2]
  have hp := W.pow_pos r
  generalize (2 : Int) ^ (15 - r) = s
  generalize (2 : Int) ^ r = p at *
  have e3 := Int.mul_ediv_add_emod v (p * (2 * s))
  generalize v % (p * (2 * s)) = m at *
  generalize v / (p * (2 * s)) = q at *
  rw [← e3, show p * (2 * s) * q + m = m + p * (2 * (s * q)) by rw [Int.mul_assoc, Int.mul_assoc]; omega, Int.add_mul_ediv_left _ _ (by omega)]
  omega
end N
theorem rlen_any (w : World) (A : Option Addr) (n c : Nat) (xs : List Int) (h : Sl w A n c xs) (hn : n ≤ 1000000) :
    Calls Try.prog 20 #[.slice A n c] w fun e w' => e = .returned (.int .i64 (W.len (val B xs))) ∧ Below w.heap.size w w' := by
  have hg := val_nonneg (b := B) (by decide) h.dg
  obtain ⟨v, hV⟩ : ∃ v, val B xs = v := ⟨_, rfl⟩
  rw [hV] at hg ⊢
  have HV := Lib.hid hV
  clear hV
  by_cases h0 : (digs v).length = 0
  · have H2 := Lib.hid (by rw [(nn_zeroD hg).1 h0]; exact len_0 : W.len v = 0)
    have H0 := Lib.hid h0
    clear h0
    go_enter Try.func20, Try.ntmps20
    go_wp2_with (go_at_call 46; refine (digits_any _ _ _ _ xs h (by omega)).mono ?_; rintro e w1 ⟨A1, n1, c1, rfl, hn1, ho1, hb1⟩; rw [HV.out] at ho1; obtain rfl : n1 = 0 := by { have := ho1.len; have := H0.out; omega })
    go_ret
    exact ⟨ret1 H2.out.symm, hb1⟩
  · have H2 := Lib.hid (len_topD hg (by omega))
    have H0 := Lib.hid h0
    have HD := Lib.hid (digs_dg v)
    clear h0
    go_enter Try.func20, Try.ntmps20
    go_wp2_with (go_at_call 46; refine (digits_any _ _ _ _ xs h (by omega)).mono ?_; rintro e w1 ⟨A1, n1, c1, rfl, hn1, ho1, hb1⟩; rw [HV.out] at ho1; have hn0 : 0 < n1 := by { have := ho1.len; have := H0.out; omega }; obtain ⟨ad, rfl, _, hcell⟩ := ho1.sl.cell (k := n1 - 1) (by omega); have e1 : ((n1 : Int) - 1).toNat = n1 - 1 := by omega)
    obtain rfl : (digs v).length = n1 := ho1.len
    obtain ⟨t, hT⟩ : ∃ t, lim (digs v) ((digs v).length - 1) = t := ⟨_, rfl⟩
    have ht := HD.out.lim (by decide) ((digs v).length - 1)
    rw [hT] at H2 hcell ht
    rw [hT]
    have ht1 : t < 65536 := ht.2
    have ht0 := ht.1
    have htw : W.Wd t := ⟨ht0, by omega⟩
    obtain ⟨m, hM⟩ : ∃ m, (digs v).length = m := ⟨_, rfl⟩
    rw [hM] at hn0 hn1 H2 e1
    rw [hM]
    clear ht hT hM ho1 H0 HD hcell
    go_loop [4, 5] (fun l x => ∃ k : Nat, k ≤ 64 ∧ l = .int .i64 (16 * ((m : Int) - 1) + k) ∧ x = .int .u64 (t / 2 ^ k) ∧ (k = 0 ∨ 0 < t / 2 ^ (k - 1))) (fun _ x => (intOf x).toNat)
    case atStart => exact ⟨0, Nat.zero_le _, by simp, by simp, Or.inl rfl⟩
    case round =>
      obtain ⟨k, hk, rfl, rfl, hp⟩ := hrel
      have hd := W.div_le t k ht0
      have HD : Hid (t / 2 ^ (k + 1) = t / 2 ^ k / 2) := Lib.hid (W.div_div2 t k)
      have HP := Lib.hid hp
      clear hp
      by_cases h0 : 0 < t / 2 ^ k
      · have := W.div_pos_lt t k htw h0
        go_wp2
        go_round
        case rel => exact ⟨k + 1, by omega, by go_num, by rw [HD.out], Or.inr h0⟩
        case measure => first | (simp [intOf]; done) | (simp [intOf]; omega)
      · have HE : Hid (t / 2 ^ k = 0) := Lib.hid (by omega)
        go_wp2
        go_ret
        refine ⟨ret1 ?_, hb1⟩
        rw [H2.out, W.len_of t k ht0 HE.out HP.out]
        omega
theorem rbit_neg (w : World) (A : Option Addr) (n c : Nat) (xs : List Int) (h : Sl w A n c xs) (hn : n ≤ 1000000) (i : Int) (hi : i < 0) :
    Calls Try.prog 38 #[.slice A n c, .int .i64 i] w fun e w' => e = .returned (.bool false) ∧ Below w.heap.size w w' := by
  go_enter Try.func38, Try.ntmps38
  go_wp2_with (go_at_call 46; refine (digits_any _ _ _ _ xs h (by omega)).mono ?_; rintro e w1 ⟨A1, n1, c1, rfl, hn1, ho1, hb1⟩)
  go_ret
  exact ⟨rfl, hb1⟩
theorem rbit_any (w : World) (A : Option Addr) (n c : Nat) (xs : List Int) (h : Sl w A n c xs) (hn : n ≤ 1000000) (i : Nat) (hi : i ≤ 9223372036854775807) :
    Calls Try.prog 38 #[.slice A n c, .int .i64 i] w fun e w' => e = .returned (.bool (val B xs / 2 ^ i % 2 == 1)) ∧ Below w.heap.size w w' := by
  have hg := val_nonneg (b := B) (by decide) h.dg
  obtain ⟨v, hV⟩ : ∃ v, val B xs = v := ⟨_, rfl⟩
  rw [hV] at hg ⊢
  have HV := Lib.hid hV
  have HB := Lib.hid (bit_limD hg i)
  have HD := Lib.hid (digs_dg v)
  clear hV
  by_cases h0 : (digs v).length ≤ i / 16
  · have H0 := Lib.hid h0
    have H2 := Lib.hid (lim_over (digs v) (i / 16) h0)
    clear h0
    go_enter Try.func38, Try.ntmps38
    go_wp2_with (go_at_call 46; refine (digits_any _ _ _ _ xs h (by omega)).mono ?_; rintro e w1 ⟨A1, n1, c1, rfl, hn1, ho1, hb1⟩; rw [HV.out] at ho1; have h1 : n1 ≤ i / 16 := by { have := ho1.len; have := H0.out; omega })
    go_ret
    have hz : (v / 2 ^ i % 2 == 1) = false := by rw [← HB.out, H2.out]; simp
    rw [hz]
    exact ⟨rfl, hb1⟩
  · have H0 := Lib.hid h0
    have e1 : ((i : Int) / 16).toNat = i / 16 := by omega
    clear h0
    go_enter Try.func38, Try.ntmps38
    go_wp2_with (go_at_call 46; refine (digits_any _ _ _ _ xs h (by omega)).mono ?_; rintro e w1 ⟨A1, n1, c1, rfl, hn1, ho1, hb1⟩; rw [HV.out] at ho1; have h1 : i / 16 < n1 := by { have := ho1.len; have := H0.out; omega }; obtain ⟨ad, rfl, _, hcell⟩ := ho1.sl.cell (k := i / 16) h1)
    obtain ⟨t, hT⟩ : ∃ t, lim (digs v) (i / 16) = t := ⟨_, rfl⟩
    have ht := HD.out.lim (by decide) (i / 16)
    rw [hT] at HB hcell ht
    rw [hT]
    have ht1 : t < 65536 := ht.2
    have ht0 := ht.1
    clear ht hT ho1 H0 HD hcell
    go_loop [6, 7] (fun x j => ∃ k : Nat, k ≤ i % 16 ∧ j = .int .i64 k ∧ x = .int .u64 (t / 2 ^ k)) (fun _ j => i % 16 - (intOf j).toNat)
    case atStart => exact ⟨0, Nat.zero_le _, rfl, by simp⟩
    case round =>
      obtain ⟨k, hk, rfl, rfl⟩ := hrel
      have hd := W.div_le t k ht0
      have HD : Hid (t / 2 ^ (k + 1) = t / 2 ^ k / 2) := Lib.hid (W.div_div2 t k)
      by_cases hk2 : k < i % 16
      · go_wp2
        go_round
        case rel => exact ⟨k + 1, by omega, by go_num, by rw [HD.out]⟩
        case measure => first | (simp [intOf]; done) | (simp [intOf]; omega)
      · have HK : Hid (k = i % 16) := Lib.hid (by omega)
        go_wp2
        go_ret
        refine ⟨?_, hb1⟩
        rw [← HB.out, HK.out]
        rfl
end Go.Proofs.Ytbjhfnkdflnnoaa
