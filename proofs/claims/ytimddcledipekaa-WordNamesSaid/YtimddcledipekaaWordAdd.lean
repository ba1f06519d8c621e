/- What the program's Add and Sub, and the document's, answer: contracts over this translation. -/
import Derived.Test.YtimddcledipekaaRows
import Derived.Test.YtimddcledipekaaWordMath
import Derived.WalkKit
import Derived.WalkLawsBesides
import Derived.ProofKit
import Derived.OpenShut
import Derived.Outline
import Derived.Lib.Hide
import Derived.Shelf.Spec.BitsCarry
import Derived.Deep.QuietTactic
import Derived.BigQuiet
import Derived.WalkMore
namespace Go.Proofs.Ytimddcledipekaa
open Go.RowKit
set_option linter.unusedVariables false
theorem ret1 {k : IntKind} {a b : Int} (h : a = b) : Ending.returned (.int k a) = .returned (.int k b) := by rw [h]
theorem ret2 {k : IntKind} {a b c d : Int} (h : a = b) (h' : c = d) : Ending.returned (.tuple #[.int k a, .int k c]) = .returned (.tuple #[.int k b, .int k d]) := by rw [h, h']

theorem ret3 {k j : IntKind} {a b c d e f : Int} (h : a = b) (h' : c = d) (h'' : e = f) : Ending.returned (.tuple #[.int k a, .int k c, .int j e]) = .returned (.tuple #[.int k b, .int k d, .int j f]) := by rw [h, h', h'']
theorem ret2' {k j : IntKind} {a b e f : Int} (h : a = b) (h'' : e = f) : Ending.returned (.tuple #[.int k a, .int j e]) = .returned (.tuple #[.int k b, .int j f]) := by rw [h, h'']
theorem retb {a b : Bool} (h : a = b) : Ending.returned (.bool a) = .returned (.bool b) := by rw [h]

theorem wd_of {a : Int} (h : (Lit.int .u64 a).wf = true) : W.Wd a := by
  have := bounds_u64 h; unfold W.Wd; omega

theorem one_any (c : Int) (h0 : 0 ≤ c) (hc : c < 18446744073709551616) (w : World) :
    Calls Try.prog 28 #[.int .u64 c] w fun e w' => e = .returned (.int .u64 (min c 1)) ∧ w' = w := by
  go_enter Try.func28, Try.ntmps28
  go_wp2
  all_goals go_ret
  all_goals exact ⟨ret1 (by omega), rfl⟩
theorem rone_any (c : Int) (h0 : 0 ≤ c) (hc : c < 18446744073709551616) (w : World) :
    Calls Try.prog 29 #[.int .u64 c] w fun e w' => e = .returned (.int .u64 (min c 1)) ∧ w' = w := by
  go_enter Try.func29, Try.ntmps29
  go_wp2
  all_goals go_ret
  all_goals exact ⟨ret1 (by omega), rfl⟩
theorem add64 (x y c : Int) (hx : 0 ≤ x) (hx' : x < 18446744073709551616) (hy : 0 ≤ y) (hy' : y < 18446744073709551616) (hc : 0 ≤ c) (w : World) :
    (callFunc 27 #[.int .u64 x, .int .u64 y, .int .u64 (min c 1)]).run Try.prog w = .ok (.value (.tuple #[.int .u64 (W.addS x y c), .int .u64 (W.addC x y c)])) w := by
  rw [run_callFunc_extern Try.func27 (by kernel_rfl) (by kernel_rfl) (by kernel_rfl) (e := add64Entry) (by kernel_rfl), run_add64 x y (min c 1) (by omega) (by omega) (by omega) (by omega)]
  simp only [Result.andThen]
  unfold W.addS W.addC
  congr 5 <;> omega
theorem sub64 (x y c : Int) (hx : 0 ≤ x) (hx' : x < 18446744073709551616) (hy : 0 ≤ y) (hy' : y < 18446744073709551616) (hc : 0 ≤ c) (w : World) :
    (callFunc 30 #[.int .u64 x, .int .u64 y, .int .u64 (min c 1)]).run Try.prog w = .ok (.value (.tuple #[.int .u64 (W.subS x y c), .int .u64 (W.subC x y c)])) w := by
  obtain ⟨x, rfl⟩ := Int.eq_ofNat_of_zero_le hx
  obtain ⟨y, rfl⟩ := Int.eq_ofNat_of_zero_le hy
  obtain ⟨c, rfl⟩ := Int.eq_ofNat_of_zero_le hc
  have e : (min (c : Int) 1) = ((min c 1 : Nat) : Int) := by omega
  rw [e, run_callFunc_extern Try.func30 (by kernel_rfl) (by kernel_rfl) (by kernel_rfl) (e := sub64Entry) (by kernel_rfl), run_sub64 x y (min c 1) (by omega)]
  simp only [Result.andThen]
  unfold W.subS W.subC
  have e1 : (((x + 18446744073709551616 - y - min c 1) % 18446744073709551616 : Nat) : Int) = ((x : Int) - y - min (c : Int) 1) % 18446744073709551616 := by omega
  have e2 : ((if x < y + min c 1 then 1 else 0 : Nat) : Int) = -(((x : Int) - y - min (c : Int) 1) / 18446744073709551616) := by split <;> omega
  rw [← e1, ← e2]
theorem add_any (a b c : Int) (ha : W.Wd a) (hb : W.Wd b) (hc : W.Wd c) (w : World) :
    Calls Try.prog 12 #[.int .u64 a, .int .u64 b, .int .u64 c] w fun e w' => e = .returned (.tuple #[.int .u64 (W.addS a b c), .int .u64 (W.addC a b c)]) ∧ w' = w := by
  obtain ⟨ha, ha'⟩ := ha; obtain ⟨hb, hb'⟩ := hb; obtain ⟨hc, hc'⟩ := hc
  go_enter Try.func12, Try.ntmps12
  go_wp2_with (first | (go_at_call 28; refine (one_any c hc hc' _).mono ?_; rintro e w' ⟨rfl, rfl⟩) | simp only [add64 a b c ha ha' hb hb' hc])
  go_ret2
  exact ⟨rfl, rfl⟩
theorem sub_any (a b c : Int) (ha : W.Wd a) (hb : W.Wd b) (hc : W.Wd c) (w : World) :
    Calls Try.prog 14 #[.int .u64 a, .int .u64 b, .int .u64 c] w fun e w' => e = .returned (.tuple #[.int .u64 (W.subS a b c), .int .u64 (W.subC a b c)]) ∧ w' = w := by
  obtain ⟨ha, ha'⟩ := ha; obtain ⟨hb, hb'⟩ := hb; obtain ⟨hc, hc'⟩ := hc
  go_enter Try.func14, Try.ntmps14
  go_wp2_with (first | (go_at_call 28; refine (one_any c hc hc' _).mono ?_; rintro e w' ⟨rfl, rfl⟩) | simp only [sub64 a b c ha ha' hb hb' hc])
  go_ret2
  exact ⟨rfl, rfl⟩
theorem radd_any (a b c : Int) (ha : W.Wd a) (hb : W.Wd b) (hc : W.Wd c) (w : World) :
    Calls Try.prog 13 #[.int .u64 a, .int .u64 b, .int .u64 c] w fun e w' => e = .returned (.tuple #[.int .u64 (W.addS a b c), .int .u64 (W.addC a b c)]) ∧ w' = w := by
  obtain ⟨ha, ha'⟩ := ha; obtain ⟨hb, hb'⟩ := hb; obtain ⟨hc, hc'⟩ := hc
  go_enter Try.func13, Try.ntmps13
  go_wp2_with (go_at_call 29; refine (rone_any c hc hc' _).mono ?_; rintro e w' ⟨rfl, rfl⟩)
  go_ret2
  exact ⟨ret2 (by unfold W.addS; omega) (by unfold W.addC; omega), rfl⟩
theorem rsub_any (a b c : Int) (ha : W.Wd a) (hb : W.Wd b) (hc : W.Wd c) (w : World) :
    Calls Try.prog 15 #[.int .u64 a, .int .u64 b, .int .u64 c] w fun e w' => e = .returned (.tuple #[.int .u64 (W.subS a b c), .int .u64 (W.subC a b c)]) ∧ w' = w := by
  obtain ⟨ha, ha'⟩ := ha; obtain ⟨hb, hb'⟩ := hb; obtain ⟨hc, hc'⟩ := hc
  go_enter Try.func15, Try.ntmps15
  go_wp2_with (go_at_call 29; refine (rone_any c hc hc' _).mono ?_; rintro e w' ⟨rfl, rfl⟩)
  all_goals go_ret2
  all_goals exact ⟨ret2 (by unfold W.subS; omega) (by unfold W.subC; omega), rfl⟩
end Go.Proofs.Ytimddcledipekaa
