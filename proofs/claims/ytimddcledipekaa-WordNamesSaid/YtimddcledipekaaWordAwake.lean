/- The examples of the document hold of the program: what each statement asks first. -/
import Derived.Test.YtimddcledipekaaWordMul
import Derived.Test.YtimddcledipekaaWordDiv
import Derived.Test.YtimddcledipekaaWordShift
import Derived.Test.YtimddcledipekaaWordLen
import Derived.Deep.Draws
namespace Go.Proofs.Ytimddcledipekaa
open Go.RowKit
set_option linter.unusedVariables false
theorem aw_add (w : World) : Calls Try.prog 12 #[.int .u64 18446744073709551615, .int .u64 1, .int .u64 0] w fun e w' => e = .returned (.tuple #[.int .u64 0, .int .u64 1]) ∧ ∃ k, w' = w.drewN k := by
  refine (add_any _ _ _ (by unfold W.Wd; omega) (by unfold W.Wd; omega) (by unfold W.Wd; omega) w).mono fun e w' ⟨h1, h2⟩ => ⟨?_, 0, h2⟩
  rw [h1]; exact ret2 (by unfold W.addS; omega) (by unfold W.addC; omega)
theorem aw_sub (w : World) : Calls Try.prog 14 #[.int .u64 0, .int .u64 1, .int .u64 0] w fun e w' => e = .returned (.tuple #[.int .u64 18446744073709551615, .int .u64 1]) ∧ ∃ k, w' = w.drewN k := by
  refine (sub_any _ _ _ (by unfold W.Wd; omega) (by unfold W.Wd; omega) (by unfold W.Wd; omega) w).mono fun e w' ⟨h1, h2⟩ => ⟨?_, 0, h2⟩
  rw [h1]; exact ret2 (by unfold W.subS; omega) (by unfold W.subC; omega)
theorem aw_mul (w : World) : Calls Try.prog 17 #[.int .u64 18446744073709551615, .int .u64 18446744073709551615] w fun e w' => e = .returned (.tuple #[.int .u64 18446744073709551614, .int .u64 1]) ∧ ∃ k, w' = w.drewN k := by
  refine (mul_any _ _ (by unfold W.Wd; omega) (by unfold W.Wd; omega) w).mono fun e w' ⟨h1, h2⟩ => ⟨?_, 0, h2⟩
  rw [h1]; exact ret2 (by unfold W.mulH; omega) (by unfold W.mulL; omega)
theorem aw_div2 (w : World) : Calls Try.prog 19 #[.int .u64 1, .int .u64 0, .int .u64 2] w fun e w' => e = .returned (.tuple #[.int .u64 9223372036854775808, .int .u64 0, .int .i64 0]) ∧ ∃ k, w' = w.drewN k := by
  refine (div_any _ _ _ (by unfold W.Wd; omega) (by unfold W.Wd; omega) (by unfold W.Wd; omega) (by omega) w).mono fun e w' ⟨h1, h2⟩ => ⟨?_, h2⟩
  rw [h1]; exact ret3 (by unfold W.divQ; omega) (by unfold W.divR; omega) rfl
theorem aw_div1 (w : World) : Calls Try.prog 19 #[.int .u64 1, .int .u64 0, .int .u64 1] w fun e w' => e = .returned (.tuple #[.int .u64 0, .int .u64 0, .int .i64 5]) ∧ ∃ k, w' = w.drewN k := by
  refine (div_long _ _ _ (by unfold W.Wd; omega) (by unfold W.Wd; omega) (by unfold W.Wd; omega) (by omega) (by omega) w).mono fun e w' ⟨h1, h2⟩ => ⟨?_, 0, h2⟩
  exact h1
theorem aw_div0 (w : World) : Calls Try.prog 19 #[.int .u64 1, .int .u64 0, .int .u64 0] w fun e w' => e = .returned (.tuple #[.int .u64 0, .int .u64 0, .int .i64 7]) ∧ ∃ k, w' = w.drewN k := by
  refine (div_zero _ _ (by unfold W.Wd; omega) (by unfold W.Wd; omega) w).mono fun e w' ⟨h1, h2⟩ => ⟨?_, 0, h2⟩
  exact h1
theorem aw_shl (w : World) : Calls Try.prog 21 #[.int .u64 3, .int .i64 63] w fun e w' => e = .returned (.tuple #[.int .u64 1, .int .u64 9223372036854775808, .int .i64 0]) ∧ ∃ k, w' = w.drewN k := by
  refine (shl_yes _ _ (by unfold W.Wd; omega) (by omega) (by omega) w).mono fun e w' ⟨h1, h2⟩ => ⟨?_, h2⟩
  rw [h1]; exact ret3 (by decide) (by decide) rfl
theorem aw_shr (w : World) : Calls Try.prog 23 #[.int .u64 1, .int .u64 9223372036854775808, .int .i64 63] w fun e w' => e = .returned (.tuple #[.int .u64 3, .int .i64 0]) ∧ ∃ k, w' = w.drewN k := by
  refine (shr_yes _ _ _ (by unfold W.Wd; omega) (by unfold W.Wd; omega) (by omega) (by omega) w).mono fun e w' ⟨h1, h2⟩ => ⟨?_, h2⟩
  rw [h1]; exact ret2' (by decide) rfl
theorem aw_shl65 (w : World) : Calls Try.prog 21 #[.int .u64 1, .int .i64 65] w fun e w' => e = .returned (.tuple #[.int .u64 0, .int .u64 0, .int .i64 1]) ∧ ∃ k, w' = w.drewN k := by
  refine (shl_no _ _ (by omega) w).mono fun e w' ⟨h1, h2⟩ => ⟨?_, 0, h2⟩
  exact h1
theorem aw_len0 (w : World) : Calls Try.prog 25 #[.int .u64 0] w fun e w' => e = .returned (.int .i64 0) ∧ ∃ k, w' = w.drewN k := by
  refine (len_any _ (by unfold W.Wd; omega) w).mono fun e w' ⟨h1, h2⟩ => ⟨?_, 0, h2⟩
  rw [h1]; exact ret1 (by decide +kernel)
theorem aw_len8 (w : World) : Calls Try.prog 25 #[.int .u64 255] w fun e w' => e = .returned (.int .i64 8) ∧ ∃ k, w' = w.drewN k := by
  refine (len_any _ (by unfold W.Wd; omega) w).mono fun e w' ⟨h1, h2⟩ => ⟨?_, 0, h2⟩
  rw [h1]; exact ret1 (by decide +kernel)
theorem aw_len9 (w : World) : Calls Try.prog 25 #[.int .u64 256] w fun e w' => e = .returned (.int .i64 9) ∧ ∃ k, w' = w.drewN k := by
  refine (len_any _ (by unfold W.Wd; omega) w).mono fun e w' ⟨h1, h2⟩ => ⟨?_, 0, h2⟩
  rw [h1]; exact ret1 (by decide +kernel)
theorem aw_len64 (w : World) : Calls Try.prog 25 #[.int .u64 18446744073709551615] w fun e w' => e = .returned (.int .i64 64) ∧ ∃ k, w' = w.drewN k := by
  refine (len_any _ (by unfold W.Wd; omega) w).mono fun e w' ⟨h1, h2⟩ => ⟨?_, 0, h2⟩
  rw [h1]; exact ret1 (by decide +kernel)
set_option maxRecDepth 100000 in
set_option maxHeartbeats 1000000 in
theorem awake_any (w : World) : Calls Try.prog 16 #[] w fun e w' => e = .returned (.bool true) ∧ ∃ k, w' = w.drewN k := by
  go_enter Try.func16, Try.ntmps16
  go_wp2_with (first | (go_at_call 12; with_reducible refine (aw_add _).mono ?_; rintro e w' ⟨rfl, k, rfl⟩) | (go_at_call 14; with_reducible refine (aw_sub _).mono ?_; rintro e w' ⟨rfl, k, rfl⟩) | (go_at_call 17; with_reducible refine (aw_mul _).mono ?_; rintro e w' ⟨rfl, k, rfl⟩) | (go_at_call 19; with_reducible refine (aw_div2 _).mono ?_; rintro e w' ⟨rfl, k, rfl⟩) | (go_at_call 19; with_reducible refine (aw_div1 _).mono ?_; rintro e w' ⟨rfl, k, rfl⟩) | (go_at_call 19; with_reducible refine (aw_div0 _).mono ?_; rintro e w' ⟨rfl, k, rfl⟩) | (go_at_call 21; with_reducible refine (aw_shl _).mono ?_; rintro e w' ⟨rfl, k, rfl⟩) | (go_at_call 21; with_reducible refine (aw_shl65 _).mono ?_; rintro e w' ⟨rfl, k, rfl⟩) | (go_at_call 23; with_reducible refine (aw_shr _).mono ?_; rintro e w' ⟨rfl, k, rfl⟩) | (go_at_call 25; with_reducible refine (aw_len0 _).mono ?_; rintro e w' ⟨rfl, k, rfl⟩) | (go_at_call 25; with_reducible refine (aw_len8 _).mono ?_; rintro e w' ⟨rfl, k, rfl⟩) | (go_at_call 25; with_reducible refine (aw_len9 _).mono ?_; rintro e w' ⟨rfl, k, rfl⟩) | (go_at_call 25; with_reducible refine (aw_len64 _).mono ?_; rintro e w' ⟨rfl, k, rfl⟩))
  go_ret
  exact ⟨rfl, _, rfl⟩
end Go.Proofs.Ytimddcledipekaa
