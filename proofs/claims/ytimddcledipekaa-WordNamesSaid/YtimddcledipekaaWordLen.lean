/- What the program's Len, and the document's, answer: contracts over this translation. -/
import Derived.Test.YtimddcledipekaaWordAdd
namespace Go.Proofs.Ytimddcledipekaa
open Go.RowKit
set_option linter.unusedVariables false
theorem rlen_any (a : Int) (hw : W.Wd a) (w : World) :
    Calls Try.prog 26 #[.int .u64 a] w fun e w' => e = .returned (.int .i64 (W.len a)) ∧ w' = w := by
  obtain ⟨ha, ha'⟩ := id hw
  go_enter Try.func26, Try.ntmps26
  go_wp2
  go_loop [0, 3] (fun v i => ∃ k : Nat, k ≤ 64 ∧ i = .int .i64 k ∧ v = .int .u64 (a / 2 ^ k) ∧ (k = 0 ∨ 0 < a / 2 ^ (k - 1))) (fun _ i => 64 - (intOf i).toNat)
  case atStart => exact ⟨0, Nat.zero_le _, rfl, by simp, Or.inl rfl⟩
  case round =>
    obtain ⟨k, hk, rfl, rfl, hp⟩ := hrel
    have hd := W.div_le a k ha
    have HD : Hid (a / 2 ^ (k + 1) = a / 2 ^ k / 2) := Lib.hid (W.div_div2 a k)
    have HP := Lib.hid hp
    clear hp
    by_cases h0 : 0 < a / 2 ^ k
    · have := W.div_pos_lt a k hw h0
      go_wp2
      go_round
      case rel => exact ⟨k + 1, by omega, by go_num, by rw [HD.out], Or.inr h0⟩
      case measure => first | (simp [intOf]; done) | (simp [intOf]; omega)
    · have HE : Hid (a / 2 ^ k = 0) := Lib.hid (by omega)
      go_wp2
      go_ret
      exact ⟨ret1 (W.len_of a k ha HE.out HP.out).symm, rfl⟩
theorem len_any (a : Int) (hw : W.Wd a) (w : World) :
    Calls Try.prog 25 #[.int .u64 a] w fun e w' => e = .returned (.int .i64 (W.len a)) ∧ w' = w := by
  obtain ⟨ha, ha'⟩ := id hw
  go_enter Try.func25, Try.ntmps25
  go_wp2
  go_step3
  go_wp2
  go_step3
  go_wp2
  go_loop [0, 3] (fun v i => ∃ k : Nat, k ≤ 64 ∧ i = .int .i64 k ∧ v = .int .u64 (a / 2 ^ k) ∧ (k = 0 ∨ 0 < a / 2 ^ (k - 1))) (fun _ i => 64 - (intOf i).toNat)
  case atStart => exact ⟨0, Nat.zero_le _, rfl, by simp, Or.inl rfl⟩
  case round =>
    obtain ⟨k, hk, rfl, rfl, hp⟩ := hrel
    have hd := W.div_le a k ha
    have HD : Hid (a / 2 ^ (k + 1) = a / 2 ^ k / 2) := Lib.hid (W.div_div2 a k)
    have HP := Lib.hid hp
    clear hp
    by_cases h0 : 0 < a / 2 ^ k
    · have := W.div_pos_lt a k hw h0
      by_cases h1 : a / 2 ^ k < 256
      · go_wp2
        go_round
        case rel => exact ⟨k + 1, by omega, by go_num, by rw [HD.out], Or.inr h0⟩
        case measure => first | (simp [intOf]; done) | (simp [intOf]; omega)
      · have h7 : 0 < a / 2 ^ (k + 7) := by rw [W.div_div128]; omega
        have := W.div_pos_lt a _ hw h7
        have H7 : Hid (0 < a / 2 ^ (k + 7)) := Lib.hid h7
        clear h7
        go_wp2
        go_round
        case rel => exact ⟨k + 8, by omega, by go_num, by rw [W.div_div256], Or.inr H7.out⟩
        case measure => first | (simp [intOf]; done) | (simp [intOf]; omega)
    · have HE : Hid (a / 2 ^ k = 0) := Lib.hid (by omega)
      go_wp2
      go_ret
      exact ⟨ret1 (W.len_of a k ha HE.out HP.out).symm, rfl⟩
end Go.Proofs.Ytimddcledipekaa
