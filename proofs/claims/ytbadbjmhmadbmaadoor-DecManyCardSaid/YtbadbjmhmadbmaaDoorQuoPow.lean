/- What Pow of layer 3 answers, over this translation. -/
import Derived.Test.YtbadbjmhmadbmaaDoorQuoDivC
import Derived.Test.YtbadbjmhmadbmaaDoorNatMul
namespace Go.Proofs.YtbadbjmhmadbmaaDoor
open Go.RowKit
set_option linter.unusedVariables false
set_option maxRecDepth 20000
open N
namespace N
theorem and_one_i64 (a : Nat) (ha : a < 18446744073709551616) : bits .and .i64 (a : Int) 1 = ((a % 2 : Nat) : Int) := by
  have h1 : (BitVec.ofInt 64 (a : Int)).toNat = a := by
    rw [BitVec.ofInt_natCast, BitVec.toNat_ofNat]; exact Nat.mod_eq_of_lt (by omega)
  have h2 : (BitVec.ofInt 64 (1 : Int)).toNat = 1 := by decide
  show IntKind.i64.wrap ((BitVec.ofInt 64 (a : Int) &&& BitVec.ofInt 64 (1 : Int)).toNat : Int) = _
  rw [BitVec.toNat_and, h1, h2, Nat.and_one_is_mod]
  have : a % 2 = 0 ∨ a % 2 = 1 := by omega
  rcases this with h | h <;> rw [h] <;> decide
theorem bit_yes {q i : Nat} (hq : q ≤ 9223372036854775807) (h : q / 2 ^ i % 2 = 1) : (bits .and .i64 ((q : Int) / 2 ^ i) 1 == 1) = true := by
  have h9 : q / 2 ^ i ≤ q := Nat.div_le_self _ _
  rw [← W.cast_pow, ← Int.natCast_ediv, and_one_i64 _ (by omega), h]; rfl
theorem bit_no {q i : Nat} (hq : q ≤ 9223372036854775807) (h : ¬ q / 2 ^ i % 2 = 1) : (bits .and .i64 ((q : Int) / 2 ^ i) 1 == 1) = false := by
  have h9 : q / 2 ^ i ≤ q := Nat.div_le_self _ _
  rw [← W.cast_pow, ← Int.natCast_ediv, and_one_i64 _ (by omega), show q / 2 ^ i % 2 = 0 by omega]; rfl
/-- may the power be reckoned? -/
def PowOk (v : Int) (n : Nat) : Prop := v = 0 ∨ (n : Int) ≤ 1048576 / W.len v
theorem pow_le_two {m k e T : Nat} (h : m ≤ 2 ^ k) (hT : k * e ≤ T) : ((m : Int)) ^ e ≤ 2 ^ T := by
  have h1 : m ^ e ≤ (2 ^ k) ^ e := Nat.pow_le_pow_left h e
  rw [← Nat.pow_mul] at h1
  have h2 : 2 ^ (k * e) ≤ 2 ^ T := Nat.pow_le_pow_right (by omega) hT
  rw [← W.cast_pow, ← Int.natCast_pow]
  exact Int.ofNat_le.2 (Nat.le_trans h1 h2)
theorem len_zero_top {q K : Nat} (h : W.len (q : Int) = K) : q / 2 ^ K = 0 := by
  obtain ⟨k, e1, e2, _⟩ := len_spec (q : Int) (by omega)
  have : k = K := by omega
  subst this
  rw [← W.cast_pow] at e2
  exact Nat.div_eq_of_lt (by omega)
theorem len_le_63 {q K : Nat} (hq : q ≤ 9223372036854775807) (h : W.len (q : Int) = K) : K ≤ 63 := by
  obtain ⟨k, e1, e2, e3⟩ := len_spec (q : Int) (by omega)
  have : k = K := by omega
  subst this
  apply Classical.byContradiction; intro hk
  have e4 : 2 ^ (k - 1) ≤ (q : Int) := by rcases e3 with e3 | e3; omega; exact e3
  rw [← W.cast_pow] at e4
  have e5 : 2 ^ 63 ≤ 2 ^ (k - 1) := Nat.pow_le_pow_right (by omega) (by omega)
  omega
theorem pow_lt {v : Int} (h0 : 0 ≤ v) {n : Nat} (h : PowOk v n) {e : Nat} (he : e ≤ n) : 0 ≤ v ^ e ∧ v ^ e < Q B 16385 := by
  refine ⟨Int.pow_nonneg h0, ?_⟩
  have hQ : ∀ T : Nat, (2 : Int) ^ T < 2 ^ (T + 64) := by
    intro T
    rw [Int.pow_add]
    have hp := W.pow_pos T
    generalize (2 : Int) ^ T = p at *
    have : (2 : Int) ^ 64 = 18446744073709551616 := by decide
    rw [this]; omega
  rw [Q_two, show 64 * 16385 = 1048576 + 64 by omega]
  refine Int.lt_of_le_of_lt ?_ (hQ 1048576)
  obtain ⟨m, rfl⟩ := Int.eq_ofNat_of_zero_le h0
  rcases h with h | h
  · have hm : m = 0 := by omega
    subst hm
    exact pow_le_two (k := 0) (by omega) (by omega)
  · obtain ⟨k, e1, e2, e3⟩ := len_spec _ h0
    rw [e1] at h
    refine pow_le_two (k := k) ?_ ?_
    · rw [← W.cast_pow] at e2; omega
    · by_cases hk : k = 0
      · subst hk; omega
      · have h1 : (e : Int) ≤ 1048576 / (k : Int) := by omega
        have h2 := (Int.le_ediv_iff_mul_le (show (0 : Int) < k by omega)).1 h1
        have h3 : (e : Int) * k = ((k * e : Nat) : Int) := by rw [Int.natCast_mul, Int.mul_comm]
        omega
theorem pow_bit0 (v : Int) (n j : Nat) (h : n / 2 ^ j % 2 = 0) : v ^ (n / 2 ^ (j + 1)) * v ^ (n / 2 ^ (j + 1)) = v ^ (n / 2 ^ j) := by
  rw [← Int.pow_add]; congr 1
  rw [Nat.pow_succ, ← Nat.div_div_eq_div_mul]; omega
theorem pow_bit1 (v : Int) (n j : Nat) (h : n / 2 ^ j % 2 = 1) : v ^ (n / 2 ^ (j + 1)) * v ^ (n / 2 ^ (j + 1)) * v = v ^ (n / 2 ^ j) := by
  rw [← Int.pow_add, ← Int.pow_succ]; congr 1
  rw [Nat.pow_succ, ← Nat.div_div_eq_div_mul]; omega
end N
theorem qpow_neg (w : World) (A : Option Addr) (n c : Nat) (q : Int) (h : q < 0) :
    Calls Tryd.prog 49 #[.slice A n c, .int .i64 q] w fun e w' => e = .returned (.tuple #[.slice none 0 0, .int .i64 1]) ∧ w' = w := by
  go_enter Tryd.func49, Tryd.ntmps49
  go_wp2
  go_ret2
  exact ⟨rfl, rfl⟩
theorem qpow_long (w : World) (A : Option Addr) (n c : Nat) (xs : List Int) (h : Sl w A n c xs) (hn : n ≤ 1099511627776) (q : Int) (h0 : 0 ≤ q) (h1 : 0 < W.len (val B xs)) (h2 : 1048576 / W.len (val B xs) < q) :
    Calls Tryd.prog 49 #[.slice A n c, .int .i64 q] w fun e w' => e = .returned (.tuple #[.slice none 0 0, .int .i64 5]) ∧ w' = w := by
  obtain ⟨L, hL⟩ : ∃ L, W.len (val B xs) = L := ⟨_, rfl⟩
  rw [hL] at h1 h2
  have HL := Lib.hid hL
  clear hL
  go_enter Tryd.func49, Tryd.ntmps49
  go_wp2_with (go_at_call 65; refine (nlen_any _ _ _ _ xs h hn).mono ?_; rw [HL.out]; rintro e w' ⟨rfl, rfl⟩)
  go_ret2
  exact ⟨rfl, rfl⟩
theorem qpow_any (w : World) (A : Option Addr) (n c : Nat) (xs : List Int) (h : Sl w A n c xs) (hn : n ≤ 1099511627775) (q : Nat) (hq : q ≤ 9223372036854775807) (hok : PowOk (val B xs) q) :
    Calls Tryd.prog 49 #[.slice A n c, .int .i64 q] w (Out2 w 16385 (val B xs ^ q) 0) := by
  have hv := val_nonneg (b := B) (by decide) h.dg
  obtain ⟨v, hvv⟩ : ∃ v, val B xs = v := ⟨_, rfl⟩
  obtain ⟨L, hL⟩ : ∃ L, W.len (val B xs) = L := ⟨_, rfl⟩
  have hL0 := len_nonneg (val B xs)
  have hpw := fun e he => pow_lt (e := e) hv hok he
  have HL := Lib.hid hL
  have HV := Lib.hid hvv
  have hqw : W.Wd (q : Int) := by unfold W.Wd; omega
  obtain ⟨K, hK⟩ : ∃ K : Nat, W.len (q : Int) = K := ⟨(W.len (q : Int)).toNat, by have := len_nonneg (q : Int); omega⟩
  have HK := Lib.hid hK
  have hcond : L = 0 ∨ (0 < L ∧ (q : Int) ≤ 1048576 / L) := by
    rcases hok with h' | h'
    · left; rw [← hL, h', len_0]
    · rw [hL] at h' hL0
      by_cases h0 : L = 0
      · exact .inl h0
      · exact .inr ⟨by omega, h'⟩
  rcases hcond with h0 | ⟨h0, h1⟩
  all_goals
    have HP := Lib.hid hpw
    have HVN := Lib.hid hv
    have hK63 := len_le_63 hq hK
    have HK2 := Lib.hid (len_zero_top hK)
    clear hpw hv hL hvv hK hok hL0
    go_enter Tryd.func49, Tryd.ntmps49
    go_wp2_with (first
      | (go_at_call 65; refine (nlen_any _ _ _ _ xs h (by omega)).mono ?_; rw [HL.out]; rintro e w' ⟨rfl, rfl⟩)
      | (go_at_call 29; refine (of_any _ 1 W.wd_1).mono ?_; rintro e w1 ⟨A1, n1, c1, rfl, hn1, ho1, hb1⟩)
      | (go_at_call 66; refine (len_any _ hqw _).mono ?_; rw [HK.out]; rintro e w2 ⟨rfl, rfl⟩))
    have HO1 := Lib.hid ho1
    have HB1 := Lib.hid hb1
    clear ho1 hb1
    go_loopw [7, 8] (fun ps is wr => ∃ (j : Nat) (t : Int) (A2 : Option Addr) (n2 c2 : Nat), t + 1 = (j : Int) ∧ j ≤ 63 ∧ is = .int .i64 t ∧ ps = .slice A2 n2 c2 ∧ N.Own wr w'.heap.size A2 n2 c2 (limbs (v ^ (q / 2 ^ j))) ∧ Below w'.heap.size w' wr) (fun _ is _ => (intOf is + 1).toNat)
    case atStart => exact ⟨K, _, A1, n1, c1, by omega, hK63, rfl, rfl, by rw [HK2.out, Int.pow_zero]; exact HO1.out, HB1.out⟩
    case round =>
      obtain ⟨j, t, A2, n2, c2, ht, hj, rfl, rfl, ho, hb⟩ := hrel
      obtain ⟨wo, rfl⟩ : ∃ wo : World, wo = wr := ⟨_, rfl⟩
      have hpe := HP.out (q / 2 ^ j) (Nat.div_le_self _ _)
      rw [HV.out] at hpe
      have hn2 : n2 ≤ 16385 := by rw [← ho.len]; exact (limbs_len_le hpe.1 16385).2 hpe.2
      have HLV := Lib.hid (limbs_val hpe.1)
      have hsl := ho.sl
      by_cases h0t : 0 ≤ t
      · obtain ⟨i, rfl⟩ := Int.eq_ofNat_of_zero_le h0t
        obtain rfl : j = i + 1 := by omega
        have HB := Lib.hid hb
        have hpe0 := hpe.1
        clear hb ht hpe h0t ho
        have hxs := h.below HB.out
        have hpi := HP.out (q / 2 ^ i) (Nat.div_le_self _ _)
        rw [HV.out] at hpi
        by_cases hbit : q / 2 ^ i % 2 = 1
        · have ht := bit_yes hq hbit
          have HW := Lib.hid (pow_bit1 v q i hbit)
          clear hbit
          go_wp2_with (first
            | (go_at_call_of 27 (Value.slice A2 n2 c2); refine (nmul_any _ A2 A2 n2 c2 n2 c2 _ _ hsl hsl (by omega) (by omega)).mono ?_; rw [HLV.out]; rintro e w3 ⟨A3, n3, c3, rfl, hn3, ho3, hb3⟩; have hs3 := ho3.sl; have hx3 := hxs.below hb3; have HB3 := Lib.hid hb3; clear hb3)
            | (go_at_call_of 27 (Value.slice A3 n3 c3); refine (nmul_any _ A3 A n3 c3 n c _ xs hs3 hx3 (by omega) (by omega)).mono ?_; rw [limbs_val (Int.mul_nonneg hpe0 hpe0), HV.out, HW.out]; rintro e w4 ⟨A4, n4, c4, rfl, hn4, ho4, hb4⟩; have HB4 := Lib.hid hb4; clear hb4))
          go_roundw
          case rel => exact ⟨i, _, A4, n4, c4, by omega, by omega, rfl, rfl, ho4.mono (Nat.le_trans HB.out.size HB3.out.size), HB.out.trans ((HB3.out.trans (HB4.out.mono HB3.out.size)).mono HB.out.size)⟩
          case measure => simp [intOf]
        · have ht := bit_no hq hbit
          have HW := Lib.hid (pow_bit0 v q i (by omega))
          clear hbit
          go_wp2_with (first
            | (go_at_call_of 27 (Value.slice A2 n2 c2); refine (nmul_any _ A2 A2 n2 c2 n2 c2 _ _ hsl hsl (by omega) (by omega)).mono ?_; rw [HLV.out, HW.out]; rintro e w3 ⟨A3, n3, c3, rfl, hn3, ho3, hb3⟩; have HB3 := Lib.hid hb3; clear hb3))
          go_roundw
          case rel => exact ⟨i, _, A3, n3, c3, by omega, by omega, rfl, rfl, ho3.mono HB.out.size, HB.out.trans (HB3.out.mono HB.out.size)⟩
          case measure => simp [intOf]
      · obtain rfl : j = 0 := by omega
        obtain rfl : t = -1 := by omega
        clear ht h0t hsl
        have HO := Lib.hid ho
        have HB := Lib.hid hb
        clear ho hb hpe
        go_wp2
        go_ret2
        refine ⟨A2, n2, c2, rfl, hn2, ?_, HB.out⟩
        have := HO.out
        rw [Nat.pow_zero, Nat.div_one, ← HV.out] at this
        exact this
end Go.Proofs.YtbadbjmhmadbmaaDoor
