/- What the program's Shl and Shr, and the document's, answer: contracts over this translation. -/
import Derived.Test.YtimddcledipekaaWordAdd
namespace Go.Proofs.Ytimddcledipekaa
open Go.RowKit
set_option linter.unusedVariables false
theorem within_yes (n : Int) (h0 : 0 ≤ n) (h1 : n ≤ 64) (w : World) :
    Calls Try.prog 34 #[.int .i64 n] w fun e w' => e = .returned (.bool true) ∧ w' = w := by
  go_enter Try.func34, Try.ntmps34
  go_wp2
  go_ret
  exact ⟨rfl, rfl⟩
theorem within_no (n : Int) (h : n < 0 ∨ 64 < n) (w : World) :
    Calls Try.prog 34 #[.int .i64 n] w fun e w' => e = .returned (.bool false) ∧ w' = w := by
  by_cases h0 : 0 ≤ n
  · have h1 : 64 < n := by omega
    clear h
    go_enter Try.func34, Try.ntmps34
    go_wp2
    go_ret
    exact ⟨retb (by simp; omega), rfl⟩
  · have h1 : n < 0 := by omega
    clear h h0
    go_enter Try.func34, Try.ntmps34
    go_wp2
    go_ret
    exact ⟨rfl, rfl⟩
theorem shl_no (a n : Int) (h : n < 0 ∨ 64 < n) (w : World) :
    Calls Try.prog 21 #[.int .u64 a, .int .i64 n] w fun e w' => e = .returned (.tuple #[.int .u64 0, .int .u64 0, .int .i64 1]) ∧ w' = w := by
  have H := Lib.hid h
  clear h
  go_enter Try.func21, Try.ntmps21
  go_wp2_with (go_at_call 34; refine (within_no n H.out _).mono ?_; rintro e w' ⟨rfl, rfl⟩)
  go_ret3
  exact ⟨rfl, rfl⟩
theorem shl_yes (a n : Int) (ha : W.Wd a) (h0 : 0 ≤ n) (h1 : n ≤ 64) (w : World) :
    Calls Try.prog 21 #[.int .u64 a, .int .i64 n] w fun e w' => e = .returned (.tuple #[.int .u64 (W.shlH a n), .int .u64 (W.shlL a n), .int .i64 0]) ∧ ∃ k, w' = w.drewN k := by
  obtain ⟨ha, ha'⟩ := id ha
  go_enter Try.func21, Try.ntmps21
  go_wp2_with (go_at_call 34; refine (within_yes n h0 h1 _).mono ?_; rintro e w' ⟨rfl, rfl⟩)
  go_quiet (fail)
  go_wp2
  go_ret3
  exact ⟨ret3 (W.shlH_eq a n h0 h1).symm (by unfold W.shlL; rw [IntKind.wrap_u64]) rfl, _, rfl⟩
theorem shr_no (a b n : Int) (h : n < 0 ∨ 64 < n) (w : World) :
    Calls Try.prog 23 #[.int .u64 a, .int .u64 b, .int .i64 n] w fun e w' => e = .returned (.tuple #[.int .u64 0, .int .i64 1]) ∧ w' = w := by
  have H := Lib.hid h
  clear h
  go_enter Try.func23, Try.ntmps23
  go_wp2_with (go_at_call 34; refine (within_no n H.out _).mono ?_; rintro e w' ⟨rfl, rfl⟩)
  go_ret2
  exact ⟨rfl, rfl⟩
theorem shr_yes (a b n : Int) (ha : W.Wd a) (hb : W.Wd b) (h0 : 0 ≤ n) (h1 : n ≤ 64) (w : World) :
    Calls Try.prog 23 #[.int .u64 a, .int .u64 b, .int .i64 n] w fun e w' => e = .returned (.tuple #[.int .u64 (W.shr a b n), .int .i64 0]) ∧ ∃ k, w' = w.drewN k := by
  obtain ⟨ha, ha'⟩ := id ha
  obtain ⟨hb, hb'⟩ := id hb
  have HS := Lib.hid (W.shr_eq a b n ⟨hb, hb'⟩ h0 h1)
  go_enter Try.func23, Try.ntmps23
  go_wp2_with (go_at_call 34; refine (within_yes n h0 h1 _).mono ?_; rintro e w' ⟨rfl, rfl⟩)
  go_quiet (fail)
  go_wp2
  go_ret2
  obtain ⟨e1, x, y, k, e2, e3, e4, e5⟩ := HS.out
  refine ⟨ret2' ?_ rfl, _, rfl⟩
  have hx : x * 2 ^ k < 18446744073709551616 := by omega
  rw [IntKind.wrap_u64, e1, e2, e3, bits_or_u64_nat _ _ (by omega) hx, W.nat_or _ _ _ e4]
  rfl
/-- the document's Shl: so many times twice -/
theorem rshl_no (a n : Int) (h : n < 0 ∨ 64 < n) (w : World) :
    Calls Try.prog 22 #[.int .u64 a, .int .i64 n] w fun e w' => e = .returned (.tuple #[.int .u64 0, .int .u64 0, .int .i64 1]) ∧ w' = w := by
  by_cases h0 : n < 0
  · clear h
    go_enter Try.func22, Try.ntmps22
    go_wp2
    go_ret3
    exact ⟨rfl, rfl⟩
  · have h1 : 64 < n := by omega
    clear h
    go_enter Try.func22, Try.ntmps22
    go_wp2
    go_ret3
    exact ⟨rfl, rfl⟩
theorem rshr_no (a b n : Int) (h : n < 0 ∨ 64 < n) (w : World) :
    Calls Try.prog 24 #[.int .u64 a, .int .u64 b, .int .i64 n] w fun e w' => e = .returned (.tuple #[.int .u64 0, .int .i64 1]) ∧ w' = w := by
  by_cases h0 : n < 0
  · clear h
    go_enter Try.func24, Try.ntmps24
    go_wp2
    go_ret2
    exact ⟨rfl, rfl⟩
  · have h1 : 64 < n := by omega
    clear h
    go_enter Try.func24, Try.ntmps24
    go_wp2
    go_ret2
    exact ⟨rfl, rfl⟩
theorem rshl_yes (a n : Int) (ha : W.Wd a) (h0 : 0 ≤ n) (h1 : n ≤ 64) (w : World) :
    Calls Try.prog 22 #[.int .u64 a, .int .i64 n] w fun e w' => e = .returned (.tuple #[.int .u64 (W.shlH a n), .int .u64 (W.shlL a n), .int .i64 0]) ∧ w' = w := by
  obtain ⟨n, rfl⟩ := Int.eq_ofNat_of_zero_le h0
  have HB : Hid (∀ k : Nat, k ≤ 64 → 0 ≤ a * 2 ^ k ∧ a * 2 ^ k < 340282366920938463463374607431768211456) := Lib.hid (W.shl_lt a ha)
  go_enter Try.func22, Try.ntmps22
  go_wp2
  go_loop [7, 8, 9] (fun hi lo i => ∃ (k : Nat) (h l : Int), k ≤ n ∧ i = .int .i64 k ∧ hi = .int .u64 h ∧ lo = .int .u64 l ∧ W.Wd h ∧ W.Wd l ∧ Hid (h * 18446744073709551616 + l = a * 2 ^ k)) (fun _ _ i => n - (intOf i).toNat)
  case atStart => exact ⟨0, 0, a, Nat.zero_le _, rfl, rfl, rfl, W.wd_0, ha, Lib.hid (by simp)⟩
  case round =>
    obtain ⟨k, h, l, hk, rfl, rfl, rfl, hh, hl, HT⟩ := hrel
    by_cases hlt : k < n
    · go_wp2_with (go_at_call 13; refine (radd_any _ _ _ (by assumption) (by assumption) (by first | exact W.wd_0 | exact W.wd_addC (by assumption) (by assumption) W.wd_0) _).mono ?_; rintro e w' ⟨rfl, rfl⟩)
      have g := HB.out (k + 1) (by omega)
      rw [Int.pow_succ, ← Int.mul_assoc] at g
      go_round
      case rel => exact ⟨k + 1, _, _, by omega, by go_num, rfl, rfl, W.wd_addS _ _ _, W.wd_addS _ _ _, Lib.hid (by
        rw [Int.pow_succ, ← Int.mul_assoc, Int.mul_comm _ 2]; exact W.dbl hh hl HT.out (by omega))⟩
      case measure => first | (simp [intOf]; done) | (simp [intOf]; omega)
    · obtain rfl : k = n := by omega
      have e := W.two_words hl HT.out
      have E := Lib.hid e
      clear e
      go_wp2
      go_ret3
      exact ⟨ret3 (by unfold W.shlH; rw [Int.toNat_natCast]; exact E.out.1) (by unfold W.shlL; rw [Int.toNat_natCast]; exact E.out.2) rfl, rfl⟩
theorem rshr_yes (a b n : Int) (ha : W.Wd a) (hb : W.Wd b) (h0 : 0 ≤ n) (h1 : n ≤ 64) (w : World) :
    Calls Try.prog 24 #[.int .u64 a, .int .u64 b, .int .i64 n] w fun e w' => e = .returned (.tuple #[.int .u64 (W.shr a b n), .int .i64 0]) ∧ w' = w := by
  obtain ⟨n, rfl⟩ := Int.eq_ofNat_of_zero_le h0
  obtain ⟨ha, ha'⟩ := ha
  go_enter Try.func24, Try.ntmps24
  go_wp2
  go_loop [0, 1, 8] (fun hi lo i => ∃ (k : Nat), k ≤ n ∧ i = .int .i64 k ∧ hi = .int .u64 (a / 2 ^ k) ∧ lo = .int .u64 (W.shr a b k)) (fun _ _ i => n - (intOf i).toNat)
  case atStart => exact ⟨0, Nat.zero_le _, rfl, by simp, by unfold W.shr W.Wd at *; simp; omega⟩
  case round =>
    obtain ⟨k, hk, rfl, rfl, rfl⟩ := hrel
    have hd := W.div_le a k ha
    obtain ⟨hs0, hs1⟩ := W.wd_shr a b k
    have HD : Hid (a / 2 ^ (k + 1) = a / 2 ^ k / 2) := Lib.hid (W.div_div2 a k)
    have HS := Lib.hid (W.shr_step a b k hb)
    by_cases hlt : k < n
    · go_wp2
      go_round
      case rel => exact ⟨k + 1, by omega, by go_num, by rw [HD.out], by rw [HS.out]⟩
      case measure => first | (simp [intOf]; done) | (simp [intOf]; omega)
    · obtain rfl : k = n := by omega
      go_wp2
      go_ret2
      exact ⟨rfl, rfl⟩
end Go.Proofs.Ytimddcledipekaa
