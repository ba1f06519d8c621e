/- What the program's Mul, and the document's Bit and Mul, answer: contracts over this translation. -/
import Derived.Test.YtimddcledipekaaWordAdd
import Derived.Test.YtimddcledipekaaShelf
namespace Go.Proofs.Ytimddcledipekaa
open Go.RowKit
set_option linter.unusedVariables false
theorem mul64_any (a b : Int) (ha : W.Wd a) (hb : W.Wd b) (w : World) :
    Calls Try.prog 31 #[.int .u64 a, .int .u64 b] w fun e w' => e = .returned (.tuple #[.int .u64 (W.mulH a b), .int .u64 (W.mulL a b)]) ∧ w' = w := by
  obtain ⟨ha, ha'⟩ := ha; obtain ⟨hb, hb'⟩ := hb
  obtain ⟨a, rfl⟩ := Int.eq_ofNat_of_zero_le ha
  obtain ⟨b, rfl⟩ := Int.eq_ofNat_of_zero_le hb
  refine (Try.bits_Mul64 a b (by omega) (by omega) w).mono fun e w' h => ?_
  obtain ⟨rfl, rfl⟩ := h
  refine ⟨ret2 ?_ ?_, rfl⟩
  · unfold W.mulH; rw [Int.natCast_ediv, Int.natCast_mul]; rfl
  · unfold W.mulL; rw [Int.natCast_emod, Int.natCast_mul]; rfl
theorem mul_any (a b : Int) (ha : W.Wd a) (hb : W.Wd b) (w : World) :
    Calls Try.prog 17 #[.int .u64 a, .int .u64 b] w fun e w' => e = .returned (.tuple #[.int .u64 (W.mulH a b), .int .u64 (W.mulL a b)]) ∧ w' = w := by
  go_enter Try.func17, Try.ntmps17
  go_wp2_with (go_at_call 31; refine (mul64_any a b ha hb _).mono ?_; rintro e w' ⟨rfl, rfl⟩)
  go_ret2
  exact ⟨rfl, rfl⟩
/-- Bit: is the place n of a word 1? -/
theorem rbit_any (a n : Int) (ha : W.Wd a) (h0 : 0 ≤ n) (hn : n ≤ 64) (w : World) :
    Calls Try.prog 32 #[.int .u64 a, .int .i64 n] w fun e w' => e = .returned (.bool (a / 2 ^ n.toNat % 2 == 1)) ∧ w' = w := by
  obtain ⟨ha, ha'⟩ := ha
  obtain ⟨n, rfl⟩ := Int.eq_ofNat_of_zero_le h0
  rw [Int.toNat_natCast]
  go_enter Try.func32, Try.ntmps32
  go_wp2
  go_loop [0, 5] (fun v i => ∃ k : Nat, k ≤ n ∧ i = .int .i64 k ∧ v = .int .u64 (a / 2 ^ k)) (fun _ i => n - (intOf i).toNat)
  case atStart => exact ⟨0, Nat.zero_le _, rfl, by simp⟩
  case round =>
    obtain ⟨k, hk, rfl, rfl⟩ := hrel
    have hd := W.div_le a k ha
    have HD : Hid (a / 2 ^ (k + 1) = a / 2 ^ k / 2) := Lib.hid (W.div_div2 a k)
    by_cases hlt : k < n
    · go_wp2
      go_round
      case rel => exact ⟨k + 1, by omega, by go_num, by rw [HD.out]⟩
      case measure => first | (simp [intOf]; done) | (simp [intOf]; omega)
    · obtain rfl : k = n := by omega
      go_wp2
      go_ret
      exact ⟨rfl, rfl⟩
theorem rbit_yes (a n : Int) (ha : W.Wd a) (h0 : 0 ≤ n) (hn : n ≤ 64) (h : a / 2 ^ n.toNat % 2 = 1) (w : World) :
    Calls Try.prog 32 #[.int .u64 a, .int .i64 n] w fun e w' => e = .returned (.bool true) ∧ w' = w :=
  (rbit_any a n ha h0 hn w).mono fun e w' ⟨h1, h2⟩ => ⟨by rw [h1, h]; rfl, h2⟩
theorem rbit_no (a n : Int) (ha : W.Wd a) (h0 : 0 ≤ n) (hn : n ≤ 64) (h : a / 2 ^ n.toNat % 2 = 0) (w : World) :
    Calls Try.prog 32 #[.int .u64 a, .int .i64 n] w fun e w' => e = .returned (.bool false) ∧ w' = w :=
  (rbit_any a n ha h0 hn w).mono fun e w' ⟨h1, h2⟩ => ⟨by rw [h1, h]; rfl, h2⟩
/-- the document's Mul: from the highest bit on -/
theorem rmul_any (a b : Int) (ha : W.Wd a) (hb : W.Wd b) (w : World) :
    Calls Try.prog 18 #[.int .u64 a, .int .u64 b] w fun e w' => e = .returned (.tuple #[.int .u64 (W.mulH a b), .int .u64 (W.mulL a b)]) ∧ w' = w := by
  go_enter Try.func18, Try.ntmps18
  go_wp2
  go_loop [6, 7, 8] (fun hi lo i => ∃ (k : Nat) (h l : Int), k ≤ 64 ∧ i = .int .i64 ((k : Int) - 1) ∧ hi = .int .u64 h ∧ lo = .int .u64 l ∧ W.Wd h ∧ W.Wd l ∧ Hid (h * 18446744073709551616 + l = a * (b / 2 ^ k))) (fun _ _ i => (intOf i + 1).toNat)
  case atStart => exact ⟨64, 0, 0, by omega, rfl, rfl, rfl, W.wd_0, W.wd_0, Lib.hid (by have e : b / 2 ^ 64 = 0 := by { obtain ⟨h0, h1⟩ := hb; omega }; rw [e]; omega)⟩
  case round =>
    obtain ⟨k, h, l, hk, rfl, rfl, rfl, hh, hl, HT⟩ := hrel
    by_cases hk0 : k = 0
    · subst hk0
      go_wp2
      go_ret2
      have e := W.two_words hl (show h * 18446744073709551616 + l = a * b by have := HT.out; simpa using this)
      exact ⟨ret2 e.1 e.2, rfl⟩
    · obtain ⟨j, rfl⟩ : ∃ j, k = j + 1 := ⟨k - 1, by omega⟩
      have ej : ((j + 1 : Nat) : Int) - 1 = (j : Int) := by omega
      rw [ej]
      have hm := W.mul_lt ha (b := b / 2 ^ j) (by obtain ⟨h0, h1⟩ := hb; have := W.div_le b j h0; unfold W.Wd; omega)
      have HM : Hid (0 ≤ a * (b / 2 ^ j) ∧ a * (b / 2 ^ j) ≤ 340282366920938463426481119284349108225) := Lib.hid hm
      clear hm
      by_cases hbit : b / 2 ^ j % 2 = 1
      · have HB := Lib.hid hbit
        clear hbit
        go_wp2_with (first | (go_at_call 13; refine (radd_any _ _ _ (by first | assumption | exact W.wd_addS _ _ _) (by first | assumption | exact W.wd_addS _ _ _ | exact W.wd_0) (by first | exact W.wd_0 | exact W.wd_addC (by assumption) (by assumption) W.wd_0 | exact W.wd_addC (W.wd_addS _ _ _) (by assumption) W.wd_0) _).mono ?_; rintro e w' ⟨rfl, rfl⟩) | (go_at_call 32; refine (rbit_yes _ _ hb (by omega) (by omega) (by rw [Int.toNat_natCast]; exact HB.out) _).mono ?_; rintro e w' ⟨rfl, rfl⟩))
        have h1 := HM.out
        have h2 := W.mul_bit1 a b j HB.out
        have h3 := HT.out
        go_round
        case rel => exact ⟨j, _, _, by omega, rfl, rfl, rfl, W.wd_addS _ _ _, W.wd_addS _ _ _, Lib.hid (by
          have ha0 := ha
          unfold W.Wd at ha0
          rw [h2]; exact W.plus (W.wd_addS _ _ _) (W.wd_addS _ _ _) ha (W.dbl hh hl h3 (by omega)) (by omega))⟩
        case measure => first | (simp [intOf]; done) | (simp [intOf]; omega)
      · have HB : Hid (b / 2 ^ j % 2 = 0) := Lib.hid (by omega)
        clear hbit
        go_wp2_with (first | (go_at_call 13; refine (radd_any _ _ _ (by first | assumption | exact W.wd_addS _ _ _) (by first | assumption | exact W.wd_addS _ _ _ | exact W.wd_0) (by first | exact W.wd_0 | exact W.wd_addC (by assumption) (by assumption) W.wd_0 | exact W.wd_addC (W.wd_addS _ _ _) (by assumption) W.wd_0) _).mono ?_; rintro e w' ⟨rfl, rfl⟩) | (go_at_call 32; refine (rbit_no _ _ hb (by omega) (by omega) (by rw [Int.toNat_natCast]; exact HB.out) _).mono ?_; rintro e w' ⟨rfl, rfl⟩))
        have h1 := HM.out
        have h2 := W.mul_bit0 a b j HB.out
        have h3 := HT.out
        go_round
        case rel => exact ⟨j, _, _, by omega, rfl, rfl, rfl, W.wd_addS _ _ _, W.wd_addS _ _ _, Lib.hid (by
          rw [h2]; exact W.dbl hh hl h3 (by omega))⟩
        case measure => first | (simp [intOf]; done) | (simp [intOf]; omega)
end Go.Proofs.Ytimddcledipekaa
