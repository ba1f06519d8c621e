/- What math/bits.Div64 and the program's Div answer: contracts over this translation. -/
import Derived.Test.YtbadbjmhmadbmaaDoorNatWord
import Derived.Test.YtbadbjmhmadbmaaDoorWordDivMath
import Derived.Test.YtbadbjmhmadbmaaDoorShelf
import Derived.Lib.ItoaNum
import Derived.Deep.DeepCutAuto
import Derived.Deep.CutBlock
namespace Go.Proofs.YtbadbjmhmadbmaaDoor
open Go.RowKit
set_option linter.unusedVariables false
set_option maxRecDepth 20000
theorem bitLen_lenN (n : Nat) (h : n < 18446744073709551616) (h0 : n ≠ 0) : Lib.bitLen n = W.lenN n := by
  have g := Lib.bitLenAux_bounds 64 n (by omega) h0
  exact (W.lenN_of n _ g.2.2 (Or.inr g.2.1)).symm
theorem lz_any (y : Int) (s : Nat) (h0 : 0 < y) (hy : y < 18446744073709551616) (hs : W.len y = 64 - s) (w : World) :
    Calls Tryd.prog 85 #[.int .u64 y] w fun e w' => e = .returned (.int .i64 (s : Int)) ∧ w' = w := by
  obtain ⟨n, rfl⟩ := Int.eq_ofNat_of_zero_le (Int.le_of_lt h0)
  refine (Tryd.bits_LeadingZeros64 n w (by omega) (by omega)).mono fun e w' ⟨h1, h2⟩ => ⟨?_, h2⟩
  rw [h1, Int.toNat_natCast, bitLen_lenN n (by omega) (by omega)]
  unfold W.len at hs
  rw [Int.toNat_natCast] at hs
  exact ret1 (by omega)
set_option maxHeartbeats 1000000 in
theorem div64_low (l d : Int) (hl : W.Wd l) (hd : W.Wd d) (h : 0 < d) (w : World) :
    Calls Tryd.prog 81 #[.int .u64 0, .int .u64 l, .int .u64 d] w fun e w' => e = .returned (.tuple #[.int .u64 (W.divQ 0 l d), .int .u64 (W.divR 0 l d)]) ∧ ∃ k, w' = w.drewN k := by
  obtain ⟨l0, l1⟩ := hl
  obtain ⟨d0, d1⟩ := hd
  have e1 : (d == 0) = false := by rw [beq_eq_false_iff_ne]; omega
  have hq := W.div_le' l d l0 h
  go_enter Tryd.func81, Tryd.ntmps81
  go_wp2
  go_quiet (fail)
  go_wp2
  go_ret2
  refine ⟨ret2 ?_ ?_, _, rfl⟩
  · unfold W.divQ; simp
  · unfold W.divR; simp
set_option maxHeartbeats 1000000 in
theorem div64_high (h l d : Int) (hh : W.Wd h) (hl : W.Wd l) (hd : W.Wd d) (hlt : h < d) (h0 : 0 < h) (w : World) :
    Calls Tryd.prog 81 #[.int .u64 h, .int .u64 l, .int .u64 d] w fun e w' => e = .returned (.tuple #[.int .u64 (W.divQ h l d), .int .u64 (W.divR h l d)]) ∧ ∃ k, w' = w.drewN k := by
  obtain ⟨l0, l1⟩ := id hl
  obtain ⟨d0, d1⟩ := hd
  obtain ⟨_, h1⟩ := hh
  obtain ⟨s, hs, hs63, hn0, hn1⟩ := W.d_norm (y := d) (by omega) d1
  have HS := Lib.hid hs
  clear hs
  have HF := W.d_shift (hi := h) (lo := l) (y := d) hs63 (by omega) hl hlt hn1
  have e1 : (d == 0) = false := by rw [beq_eq_false_iff_ne]; omega
  have e2 : (h == 0) = false := by rw [beq_eq_false_iff_ne]; omega
  obtain ⟨Y, eY⟩ : ∃ Y, d * 2 ^ s = Y := ⟨_, rfl⟩
  rw [eY] at hn0 hn1 HF
  obtain ⟨f1, f2, f3, ⟨x, z, f4, f4', f4''⟩, f5, f6⟩ := HF
  have eU0 : bits .or .u64 (h * 2 ^ s) (l / 2 ^ (64 - s)) = h * 2 ^ s + l / 2 ^ (64 - s) := by
    rw [f4, f4'] at f5 ⊢
    rw [f4] at f2
    rw [bits_or_u64_nat _ _ (by omega) (by omega), Nat.or_comm, W.nat_or _ _ _ f4'']
    rfl
  obtain ⟨U, eU⟩ : ∃ U, h * 2 ^ s + l / 2 ^ (64 - s) = U := ⟨_, rfl⟩
  rw [eU] at eU0 f5 f6
  have hU0 : 0 ≤ U := by omega
  clear f4 f4' f4'' x z
  obtain ⟨Z, eZ⟩ : ∃ Z, l * 2 ^ s % 18446744073709551616 = Z := ⟨_, rfl⟩
  rw [eZ] at f6
  have hZ0 : 0 ≤ Z := by omega
  have hZ1 : Z < 18446744073709551616 := by omega
  have eZ' : IntKind.u64.wrap (l * 2 ^ s) = Z := by rw [IntKind.wrap_u64]; exact eZ
  obtain ⟨y1, eY1⟩ : ∃ y, Y / 4294967296 = y := ⟨_, rfl⟩
  obtain ⟨y0, eY0⟩ : ∃ y, Y % 4294967296 = y := ⟨_, rfl⟩
  obtain ⟨z1, eZ1⟩ : ∃ y, Z / 4294967296 = y := ⟨_, rfl⟩
  obtain ⟨z0, eZ0⟩ : ∃ y, Z % 4294967296 = y := ⟨_, rfl⟩
  have eYa : bits .and .u64 Y 4294967295 = y0 := by rw [and_low32 Y (by omega) hn1]; exact eY0
  have eZa : bits .and .u64 Z 4294967295 = z0 := by rw [and_low32 Z hZ0 hZ1]; exact eZ0
  have hy1 : 2147483648 ≤ y1 ∧ y1 < 4294967296 := by omega
  have hy0 : 0 ≤ y0 ∧ y0 < 4294967296 := by omega
  have hz1 : 0 ≤ z1 ∧ z1 < 4294967296 := by omega
  have hz0 : 0 ≤ z0 ∧ z0 < 4294967296 := by omega
  have eYs : Y = y1 * 4294967296 + y0 := by omega
  have hq := W.div_le' U y1 hU0 (by omega)
  have hqm : 0 ≤ U / y1 * y1 ∧ U / y1 * y1 ≤ U := ⟨Int.mul_nonneg hq.1 (by omega), Int.ediv_mul_le U (by omega)⟩
  -- the first guess is not too low
  obtain ⟨Q1, eQ1⟩ : ∃ Q, Q = (U * 4294967296 + z1) / (y1 * 4294967296 + y0) := ⟨_, rfl⟩
  have gs1 := W.d_start hU0 hz1.1 hz1.2 hy1.1 hy0.1 (by omega) eQ1
  have EQ1 := Lib.hid eQ1; clear eQ1
  have EYs := Lib.hid eYs; clear eYs
  have F6 := Lib.hid f6; clear f6
  have EZ := Lib.hid eZ; clear eZ
  have EY0 := Lib.hid eY0; clear eY0
  have EZ0 := Lib.hid eZ0; clear eZ0
  have GM : Hid (U / y1 * y1 + (U - U / y1 * y1) = U) := Lib.hid (by omega)
  have GR : 0 ≤ U - U / y1 * y1 ∧ U - U / y1 * y1 < 4294967296 := by
    have a := Int.mul_ediv_add_emod U y1
    have b := Int.emod_lt_of_pos U (show 0 < y1 by omega)
    have c := Int.emod_nonneg U (show y1 ≠ 0 by omega)
    rw [Int.mul_comm] at a
    omega
  go_enter Tryd.func81, Tryd.ntmps81
  go_upto_block 0 with (go_at_call 85; refine (lz_any d s (by omega) d1 HS.out _).mono ?_; rintro e w' ⟨rfl, rfl⟩)
  go_cut [15] (fun q wx => q = .int .u64 Q1 ∧ w' = wx)
  case first =>
    clear eY eU0 eU eZ' eY1 eZ1 eYa eZa f1 f2 f3 hl hlt h0 l0 l1 d0 d1 h1 e1 e2
    go_wp2
    go_loop [15, 16] (fun v u => ∃ q r : Int, v = .int .u64 q ∧ u = .int .u64 r ∧ 0 ≤ r ∧ r < 4294967296 ∧ Q1 ≤ q ∧ q < 18446744073709551616 ∧ Hid (q * y1 + r = U)) (fun _ u => (4294967296 - intOf u).toNat)
    case atStart => exact ⟨_, _, rfl, rfl, GR.1, GR.2, gs1.1, by omega, GM⟩
    case round =>
      obtain ⟨q, r, rfl, rfl, hr0, hr1, hq0, hq1, HE⟩ := hrel
      have hQ0 := gs1.2.1
      by_cases hK : 4294967296 ≤ q
      · by_cases hB : 4294967296 ≤ r + y1
        · go_wp2
          go_meet
          case rel => exact ⟨congrArg _ (W.d_break hz1.1 hy1.1 hy0.1 hy0.2 EQ1.out (by rw [Int.sub_mul, Int.one_mul]; have := HE.out; omega) hQ0 (by omega) (by have := EYs.out; omega) hB), rfl⟩
        · go_wp2
          go_round
          case rel => exact ⟨q - 1, r + y1, rfl, rfl, by omega, by omega, by omega, by omega, Lib.hid (by rw [Int.sub_mul, Int.one_mul]; have := HE.out; omega)⟩
          case measure => simp [intOf]; omega
      · have hp := W.d_small (q := q) (by omega) (by omega) hy0.1 hy0.2
        by_cases hT : 4294967296 * r + z1 < q * y0
        · have hD := W.d_down hy1.1 hy0.1 EQ1.out HE.out hT
          by_cases hB : 4294967296 ≤ r + y1
          · go_wp2
            go_meet
            case rel => exact ⟨congrArg _ (W.d_break hz1.1 hy1.1 hy0.1 hy0.2 EQ1.out (by rw [Int.sub_mul, Int.one_mul]; have := HE.out; omega) hQ0 hD (by have := EYs.out; omega) hB), rfl⟩
          · go_wp2
            go_round
            case rel => exact ⟨q - 1, r + y1, rfl, rfl, by omega, by omega, hD, by omega, Lib.hid (by rw [Int.sub_mul, Int.one_mul]; have := HE.out; omega)⟩
            case measure => simp [intOf]; omega
        · have HD := Lib.hid (W.d_stop hy1.1 hy0.1 EQ1.out HE.out hq0 (by omega))
          go_wp2
          go_meet
          case rel => exact ⟨congrArg _ HD.out, rfl⟩
  case rest =>
    obtain ⟨rfl, rfl⟩ := hcut
    have hY := EYs.out
    obtain ⟨R1, eR1⟩ : ∃ R, U * 4294967296 + z1 - Q1 * Y = R := ⟨_, rfl⟩
    have gr := W.d_rest (u := U) (v := z1) (Y := Y) (Q := Q1) (by omega) (by rw [hY]; exact EQ1.out)
    rw [eR1] at gr
    have hR0 := gr.2.1
    have hR1 := gr.2.2
    clear gr
    have eR1w : IntKind.u64.wrap (IntKind.u64.wrap (IntKind.u64.wrap (U * 4294967296) + z1) - IntKind.u64.wrap (Q1 * Y)) = R1 := by
      simp only [IntKind.wrap_u64]
      generalize Q1 * Y = A at *
      omega
    have ER1 := Lib.hid eR1; clear eR1
    have hq' := W.div_le' R1 y1 hR0 (by omega)
    have hqm' : 0 ≤ R1 / y1 * y1 ∧ R1 / y1 * y1 ≤ R1 := ⟨Int.mul_nonneg hq'.1 (by omega), Int.ediv_mul_le R1 (by omega)⟩
    obtain ⟨Q0, eQ0⟩ : ∃ Q, Q = (R1 * 4294967296 + z0) / (y1 * 4294967296 + y0) := ⟨_, rfl⟩
    have gs0 := W.d_start hR0 hz0.1 hz0.2 hy1.1 hy0.1 (by omega) eQ0
    have EQ0 := Lib.hid eQ0; clear eQ0
    have GM2 : Hid (R1 / y1 * y1 + (R1 - R1 / y1 * y1) = R1) := Lib.hid (by omega)
    have GR2 : 0 ≤ R1 - R1 / y1 * y1 ∧ R1 - R1 / y1 * y1 < 4294967296 := by
      have a := Int.mul_ediv_add_emod R1 y1
      have b := Int.emod_lt_of_pos R1 (show 0 < y1 by omega)
      have c := Int.emod_nonneg R1 (show y1 ≠ 0 by omega)
      rw [Int.mul_comm] at a
      omega
    clear hY
    go_upto_block 2 with (fail)
    go_cut [18] (fun q wx => q = .int .u64 Q0 ∧ w' = wx)
    case first =>
      clear eY eU0 eU eZ' eY1 eZ1 eYa eZa f1 f2 f3 hl hlt h0 l0 l1 d0 d1 h1 e1 e2 eR1w
      go_wp2
      go_loop [18, 16] (fun v u => ∃ q r : Int, v = .int .u64 q ∧ u = .int .u64 r ∧ 0 ≤ r ∧ r < 4294967296 ∧ Q0 ≤ q ∧ q < 18446744073709551616 ∧ Hid (q * y1 + r = R1)) (fun _ u => (4294967296 - intOf u).toNat)
      case atStart => exact ⟨_, _, rfl, rfl, GR2.1, GR2.2, gs0.1, by omega, GM2⟩
      case round =>
        obtain ⟨q, r, rfl, rfl, hr0, hr1, hq0, hq1, HE⟩ := hrel
        have hQ0 := gs0.2.1
        by_cases hK : 4294967296 ≤ q
        · by_cases hB : 4294967296 ≤ r + y1
          · go_wp2
            go_meet
            case rel => exact ⟨congrArg _ (W.d_break hz0.1 hy1.1 hy0.1 hy0.2 EQ0.out (by rw [Int.sub_mul, Int.one_mul]; have := HE.out; omega) hQ0 (by omega) (by have := EYs.out; omega) hB), rfl⟩
          · go_wp2
            go_round
            case rel => exact ⟨q - 1, r + y1, rfl, rfl, by omega, by omega, by omega, by omega, Lib.hid (by rw [Int.sub_mul, Int.one_mul]; have := HE.out; omega)⟩
            case measure => simp [intOf]; omega
        · have hp := W.d_small (q := q) (by omega) (by omega) hy0.1 hy0.2
          by_cases hT : 4294967296 * r + z0 < q * y0
          · have hD := W.d_down hy1.1 hy0.1 EQ0.out HE.out hT
            by_cases hB : 4294967296 ≤ r + y1
            · go_wp2
              go_meet
              case rel => exact ⟨congrArg _ (W.d_break hz0.1 hy1.1 hy0.1 hy0.2 EQ0.out (by rw [Int.sub_mul, Int.one_mul]; have := HE.out; omega) hQ0 hD (by have := EYs.out; omega) hB), rfl⟩
            · go_wp2
              go_round
              case rel => exact ⟨q - 1, r + y1, rfl, rfl, by omega, by omega, hD, by omega, Lib.hid (by rw [Int.sub_mul, Int.one_mul]; have := HE.out; omega)⟩
              case measure => simp [intOf]; omega
          · have HD := Lib.hid (W.d_stop hy1.1 hy0.1 EQ0.out HE.out hq0 (by omega))
            go_wp2
            go_meet
            case rel => exact ⟨congrArg _ HD.out, rfl⟩
    case rest =>
      obtain ⟨rfl, rfl⟩ := hcut
      have hY := EYs.out
      have gr := W.d_rest (u := R1) (v := z0) (Y := Y) (Q := Q0) (by omega) (by rw [hY]; exact EQ0.out)
      clear hY
      obtain ⟨R0, eR0⟩ : ∃ R, R1 * 4294967296 + z0 - Q0 * Y = R := ⟨_, rfl⟩
      rw [eR0] at gr
      have hr0 := gr.2.1
      have hr1 := gr.2.2
      clear gr
      have eR0w : IntKind.u64.wrap (IntKind.u64.wrap (IntKind.u64.wrap (R1 * 4294967296) + z0) - IntKind.u64.wrap (Q0 * Y)) = R0 := by
        simp only [IntKind.wrap_u64]
        generalize Q0 * Y = A at *
        omega
      have ER0 := Lib.hid eR0; clear eR0
      have hfin : Hid (Q1 * 4294967296 + Q0 = (h * 18446744073709551616 + l) / d ∧ R0 / 2 ^ s = (h * 18446744073709551616 + l) % d) := Lib.hid (by
        have g1 := ER1.out
        have g0 := ER0.out
        rw [← eY] at g1 g0
        refine W.d_all (by omega) (W.pow_pos s) ?_ g1 g0 hr0 (by rw [eY]; exact hr1)
        rw [F6.out]
        have := EZ0.out
        omega)
      go_wp2
      go_ret2
      exact ⟨ret2 hfin.out.1 hfin.out.2, 0, rfl⟩
theorem div64_any (h l d : Int) (hh : W.Wd h) (hl : W.Wd l) (hd : W.Wd d) (hlt : h < d) (w : World) :
    Calls Tryd.prog 81 #[.int .u64 h, .int .u64 l, .int .u64 d] w fun e w' => e = .returned (.tuple #[.int .u64 (W.divQ h l d), .int .u64 (W.divR h l d)]) ∧ ∃ k, w' = w.drewN k := by
  by_cases h0 : h = 0
  · subst h0; exact div64_low l d hl hd hlt w
  · exact div64_high h l d hh hl hd hlt (by unfold W.Wd at hh; omega) w
theorem div_zero (h l : Int) (hh : W.Wd h) (hl : W.Wd l) (w : World) :
    Calls Tryd.prog 74 #[.int .u64 h, .int .u64 l, .int .u64 0] w fun e w' => e = .returned (.tuple #[.int .u64 0, .int .u64 0, .int .i64 7]) ∧ w' = w := by
  go_enter Tryd.func74, Tryd.ntmps74
  go_wp2
  go_ret3
  exact ⟨rfl, rfl⟩
theorem div_long (h l d : Int) (hh : W.Wd h) (hl : W.Wd l) (hd : W.Wd d) (h0 : 0 < d) (hle : d ≤ h) (w : World) :
    Calls Tryd.prog 74 #[.int .u64 h, .int .u64 l, .int .u64 d] w fun e w' => e = .returned (.tuple #[.int .u64 0, .int .u64 0, .int .i64 5]) ∧ w' = w := by
  have e1 : (d == 0) = false := by rw [beq_eq_false_iff_ne]; omega
  go_enter Tryd.func74, Tryd.ntmps74
  go_wp2
  go_ret3
  exact ⟨rfl, rfl⟩
theorem div_any (h l d : Int) (hh : W.Wd h) (hl : W.Wd l) (hd : W.Wd d) (hlt : h < d) (w : World) :
    Calls Tryd.prog 74 #[.int .u64 h, .int .u64 l, .int .u64 d] w fun e w' => e = .returned (.tuple #[.int .u64 (W.divQ h l d), .int .u64 (W.divR h l d), .int .i64 0]) ∧ ∃ k, w' = w.drewN k := by
  have h0 : 0 ≤ h := hh.1
  have e1 : (d == 0) = false := by rw [beq_eq_false_iff_ne]; omega
  go_enter Tryd.func74, Tryd.ntmps74
  go_wp2_with (go_at_call 81; refine (div64_any h l d hh hl hd hlt _).mono ?_; rintro e w' ⟨rfl, k, rfl⟩)
  go_ret3
  exact ⟨rfl, _, rfl⟩
end Go.Proofs.YtbadbjmhmadbmaaDoor
