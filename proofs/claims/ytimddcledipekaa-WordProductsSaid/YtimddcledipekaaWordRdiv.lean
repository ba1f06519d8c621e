/- What the document's Div answers: contracts over this translation. -/
import Derived.Test.YtimddcledipekaaWordMul
import Derived.Test.YtimddcledipekaaWordDivMath
namespace Go.Proofs.Ytimddcledipekaa
open Go.RowKit
set_option linter.unusedVariables false
theorem rdiv_zero (h l : Int) (hh : W.Wd h) (hl : W.Wd l) (w : World) :
    Calls Try.prog 20 #[.int .u64 h, .int .u64 l, .int .u64 0] w fun e w' => e = .returned (.tuple #[.int .u64 0, .int .u64 0, .int .i64 7]) ∧ w' = w := by
  go_enter Try.func20, Try.ntmps20
  go_wp2
  go_ret3
  exact ⟨rfl, rfl⟩
theorem rdiv_long (h l d : Int) (hh : W.Wd h) (hl : W.Wd l) (hd : W.Wd d) (h0 : 0 < d) (hle : d ≤ h) (w : World) :
    Calls Try.prog 20 #[.int .u64 h, .int .u64 l, .int .u64 d] w fun e w' => e = .returned (.tuple #[.int .u64 0, .int .u64 0, .int .i64 5]) ∧ w' = w := by
  have e1 : (d == 0) = false := by rw [beq_eq_false_iff_ne]; omega
  go_enter Try.func20, Try.ntmps20
  go_wp2
  go_ret3
  exact ⟨rfl, rfl⟩
set_option maxHeartbeats 1000000 in
theorem rdiv_any (h l d : Int) (hh : W.Wd h) (hl : W.Wd l) (hd : W.Wd d) (hlt : h < d) (w : World) :
    Calls Try.prog 20 #[.int .u64 h, .int .u64 l, .int .u64 d] w fun e w' => e = .returned (.tuple #[.int .u64 (W.divQ h l d), .int .u64 (W.divR h l d), .int .i64 0]) ∧ w' = w := by
  have h0 : 0 ≤ h := hh.1
  have hd1 : d < 18446744073709551616 := hd.2
  have hd0 : 0 < d := by omega
  have e1 : (d == 0) = false := by rw [beq_eq_false_iff_ne]; omega
  have HT : Hid (h * 18446744073709551616 + l < d * 18446744073709551616) := Lib.hid (W.two_lt h0 hl hlt)
  go_enter Try.func20, Try.ntmps20
  go_wp2
  go_loop [9, 10, 11] (fun x y i => ∃ (k : Nat) (q r : Int), k ≤ 64 ∧ i = .int .i64 ((k : Int) - 1) ∧ x = .int .u64 q ∧ y = .int .u64 r ∧ 0 ≤ r ∧ r < d ∧ 0 ≤ q ∧ Hid (q * d + r = (h * 18446744073709551616 + l) / 2 ^ k)) (fun _ _ i => (intOf i + 1).toNat)
  case atStart => exact ⟨64, 0, h, by omega, rfl, rfl, rfl, h0, hlt, by omega, Lib.hid (by obtain ⟨l0, l1⟩ := hl; have e : (h * 18446744073709551616 + l) / 2 ^ 64 = h := by { show (h * 18446744073709551616 + l) / 18446744073709551616 = h; omega }; rw [e]; omega)⟩
  case round =>
    obtain ⟨k, q, r, hk, rfl, rfl, rfl, hr0, hr1, hq0, HE⟩ := hrel
    by_cases hk0 : k = 0
    · subst hk0
      have e := W.r_unique hd0 HE.out hr0 hr1
      rw [Int.pow_zero, Int.ediv_one] at e
      have E := Lib.hid e
      clear e
      go_wp2
      go_ret3
      exact ⟨ret3 E.out.1 E.out.2 rfl, rfl⟩
    · obtain ⟨j, rfl⟩ : ∃ j, k = j + 1 := ⟨k - 1, by omega⟩
      have ej : ((j + 1 : Nat) : Int) - 1 = (j : Int) := by omega
      rw [ej]
      have hr : W.Wd r := by unfold W.Wd; omega
      have hNj : (h * 18446744073709551616 + l) / 2 ^ j ≤ h * 18446744073709551616 + l := (W.div_le _ j (by have := hl.1; omega)).2
      have HNj := Lib.hid hNj
      clear hNj
      by_cases hbit : l / 2 ^ j % 2 = 1
      · have HB := Lib.hid hbit
        have HN := Lib.hid (W.r_bit h l j (by omega) 1 hbit)
        clear hbit
        by_cases hge : d ≤ 2 * r + 1
        · have hq' := W.r_lt hd0 (by omega) (W.r_yes hd0 (by omega) HE.out HN.out hge) HNj.out HT.out
          have HR : Hid (W.subS (W.addS r r 1) d 0 = 2 * r + 1 - d) := Lib.hid ((W.r_out hr0 hr1 hd1 (by omega)).2.1 hge)
          have HE' := Lib.hid (W.r_yes hd0 (by omega) HE.out HN.out hge)
          by_cases hov : 18446744073709551616 ≤ 2 * r + 1
          · have ho := (W.r_out hr0 hr1 hd1 (c := 1) (by omega)).2.2.1 hov
            go_wp2_with (first | (go_at_call 32; refine (rbit_yes _ _ hl (by omega) (by omega) (by rw [Int.toNat_natCast]; exact HB.out) _).mono ?_; rintro e w' ⟨rfl, rfl⟩) | (go_at_call 13; refine (radd_any r r 1 hr hr W.wd_1 _).mono ?_; rintro e w' ⟨rfl, rfl⟩) | (go_at_call 15; refine (rsub_any _ _ _ (W.wd_addS _ _ _) hd W.wd_0 _).mono ?_; rintro e w' ⟨rfl, rfl⟩))
            go_round
            case rel => exact ⟨j, 2 * q + 1, 2 * r + 1 - d, by omega, rfl, rfl, by rw [HR.out], by omega, by omega, by omega, HE'⟩
            case measure => first | (simp [intOf]; done) | (simp [intOf]; omega)
          · obtain ⟨hs, ho⟩ := (W.r_out hr0 hr1 hd1 (c := 1) (by omega)).2.2.2 (by omega)
            have hs' : d ≤ W.addS r r 1 := by omega
            clear hs
            go_wp2_with (first | (go_at_call 32; refine (rbit_yes _ _ hl (by omega) (by omega) (by rw [Int.toNat_natCast]; exact HB.out) _).mono ?_; rintro e w' ⟨rfl, rfl⟩) | (go_at_call 13; refine (radd_any r r 1 hr hr W.wd_1 _).mono ?_; rintro e w' ⟨rfl, rfl⟩) | (go_at_call 15; refine (rsub_any _ _ _ (W.wd_addS _ _ _) hd W.wd_0 _).mono ?_; rintro e w' ⟨rfl, rfl⟩))
            go_round
            case rel => exact ⟨j, 2 * q + 1, 2 * r + 1 - d, by omega, rfl, rfl, by rw [HR.out], by omega, by omega, by omega, HE'⟩
            case measure => first | (simp [intOf]; done) | (simp [intOf]; omega)
        · have hq' := W.r_lt hd0 (by omega) (W.r_no HE.out HN.out) HNj.out HT.out
          obtain ⟨hs, ho, hn⟩ := (W.r_out hr0 hr1 hd1 (c := 1) (by omega)).1 (by omega)
          have HR := Lib.hid hs; clear hs
          have HE' := Lib.hid (W.r_no (c := 1) HE.out HN.out)
          go_wp2_with (first | (go_at_call 32; refine (rbit_yes _ _ hl (by omega) (by omega) (by rw [Int.toNat_natCast]; exact HB.out) _).mono ?_; rintro e w' ⟨rfl, rfl⟩) | (go_at_call 13; refine (radd_any r r 1 hr hr W.wd_1 _).mono ?_; rintro e w' ⟨rfl, rfl⟩))
          go_round
          case rel => exact ⟨j, 2 * q, 2 * r + 1, by omega, rfl, rfl, by rw [HR.out], by omega, by omega, by omega, HE'⟩
          case measure => first | (simp [intOf]; done) | (simp [intOf]; omega)
      · have hbit0 : l / 2 ^ j % 2 = 0 := by omega
        have HB := Lib.hid hbit0
        have HN := Lib.hid (W.r_bit h l j (by omega) 0 hbit0)
        clear hbit hbit0
        by_cases hge : d ≤ 2 * r + 0
        · have hq' := W.r_lt hd0 (by omega) (W.r_yes hd0 (by omega) HE.out HN.out hge) HNj.out HT.out
          have HR : Hid (W.subS (W.addS r r 0) d 0 = 2 * r + 0 - d) := Lib.hid ((W.r_out hr0 hr1 hd1 (by omega)).2.1 hge)
          have HE' := Lib.hid (W.r_yes hd0 (by omega) HE.out HN.out hge)
          by_cases hov : 18446744073709551616 ≤ 2 * r + 0
          · have ho := (W.r_out hr0 hr1 hd1 (c := 0) (by omega)).2.2.1 hov
            go_wp2_with (first | (go_at_call 32; refine (rbit_no _ _ hl (by omega) (by omega) (by rw [Int.toNat_natCast]; exact HB.out) _).mono ?_; rintro e w' ⟨rfl, rfl⟩) | (go_at_call 13; refine (radd_any r r 0 hr hr W.wd_0 _).mono ?_; rintro e w' ⟨rfl, rfl⟩) | (go_at_call 15; refine (rsub_any _ _ _ (W.wd_addS _ _ _) hd W.wd_0 _).mono ?_; rintro e w' ⟨rfl, rfl⟩))
            go_round
            case rel => exact ⟨j, 2 * q + 1, 2 * r + 0 - d, by omega, rfl, rfl, by rw [HR.out], by omega, by omega, by omega, HE'⟩
            case measure => first | (simp [intOf]; done) | (simp [intOf]; omega)
          · obtain ⟨hs, ho⟩ := (W.r_out hr0 hr1 hd1 (c := 0) (by omega)).2.2.2 (by omega)
            have hs' : d ≤ W.addS r r 0 := by omega
            clear hs
            go_wp2_with (first | (go_at_call 32; refine (rbit_no _ _ hl (by omega) (by omega) (by rw [Int.toNat_natCast]; exact HB.out) _).mono ?_; rintro e w' ⟨rfl, rfl⟩) | (go_at_call 13; refine (radd_any r r 0 hr hr W.wd_0 _).mono ?_; rintro e w' ⟨rfl, rfl⟩) | (go_at_call 15; refine (rsub_any _ _ _ (W.wd_addS _ _ _) hd W.wd_0 _).mono ?_; rintro e w' ⟨rfl, rfl⟩))
            go_round
            case rel => exact ⟨j, 2 * q + 1, 2 * r + 0 - d, by omega, rfl, rfl, by rw [HR.out], by omega, by omega, by omega, HE'⟩
            case measure => first | (simp [intOf]; done) | (simp [intOf]; omega)
        · have hq' := W.r_lt hd0 (by omega) (W.r_no HE.out HN.out) HNj.out HT.out
          obtain ⟨hs, ho, hn⟩ := (W.r_out hr0 hr1 hd1 (c := 0) (by omega)).1 (by omega)
          have HR := Lib.hid hs; clear hs
          have HE' := Lib.hid (W.r_no (c := 0) HE.out HN.out)
          go_wp2_with (first | (go_at_call 32; refine (rbit_no _ _ hl (by omega) (by omega) (by rw [Int.toNat_natCast]; exact HB.out) _).mono ?_; rintro e w' ⟨rfl, rfl⟩) | (go_at_call 13; refine (radd_any r r 0 hr hr W.wd_0 _).mono ?_; rintro e w' ⟨rfl, rfl⟩))
          go_round
          case rel => exact ⟨j, 2 * q, 2 * r + 0, by omega, rfl, rfl, by rw [HR.out], by omega, by omega, by omega, HE'⟩
          case measure => first | (simp [intOf]; done) | (simp [intOf]; omega)
end Go.Proofs.Ytimddcledipekaa
