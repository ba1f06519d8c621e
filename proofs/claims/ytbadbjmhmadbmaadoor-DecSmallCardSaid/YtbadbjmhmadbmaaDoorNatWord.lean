/- Contracts of the calls of layer 1 (word) over this translation: joined by program from wip/word, without what speaks of the document's own answers. -/
import Derived.Test.YtbadbjmhmadbmaaDoorWordMath
import Derived.Test.YtbadbjmhmadbmaaDoorRows
import Derived.WalkKit
import Derived.WalkLawsBesides
import Derived.ProofKit
import Derived.OpenShut
import Derived.Outline
import Derived.Lib.Hide
import Derived.Shelf.Spec.BitsCarry
import Derived.Deep.QuietTactic
import Derived.BigQuiet
import Derived.WalkMore
import Derived.Test.YtbadbjmhmadbmaaDoorShelf
namespace Go.Proofs.YtbadbjmhmadbmaaDoor
open Go.RowKit
set_option linter.unusedVariables false
set_option maxRecDepth 20000
theorem ret1 {k : IntKind} {a b : Int} (h : a = b) : Ending.returned (.int k a) = .returned (.int k b) := by rw [h]
theorem ret2 {k : IntKind} {a b c d : Int} (h : a = b) (h' : c = d) : Ending.returned (.tuple #[.int k a, .int k c]) = .returned (.tuple #[.int k b, .int k d]) := by rw [h, h']

theorem ret3 {k j : IntKind} {a b c d e f : Int} (h : a = b) (h' : c = d) (h'' : e = f) : Ending.returned (.tuple #[.int k a, .int k c, .int j e]) = .returned (.tuple #[.int k b, .int k d, .int j f]) := by rw [h, h', h'']
theorem ret2' {k j : IntKind} {a b e f : Int} (h : a = b) (h'' : e = f) : Ending.returned (.tuple #[.int k a, .int j e]) = .returned (.tuple #[.int k b, .int j f]) := by rw [h, h'']
theorem retb {a b : Bool} (h : a = b) : Ending.returned (.bool a) = .returned (.bool b) := by rw [h]

theorem wd_of {a : Int} (h : (Lit.int .u64 a).wf = true) : W.Wd a := by
  have := bounds_u64 h; unfold W.Wd; omega

theorem one_any (c : Int) (h0 : 0 ≤ c) (hc : c < 18446744073709551616) (w : World) :
    Calls Tryd.prog 59 #[.int .u64 c] w fun e w' => e = .returned (.int .u64 (min c 1)) ∧ w' = w := by
  go_enter Tryd.func59, Tryd.ntmps59
  go_wp2
  all_goals go_ret
  all_goals exact ⟨ret1 (by omega), rfl⟩
theorem add64 (x y c : Int) (hx : 0 ≤ x) (hx' : x < 18446744073709551616) (hy : 0 ≤ y) (hy' : y < 18446744073709551616) (hc : 0 ≤ c) (w : World) :
    (callFunc 58 #[.int .u64 x, .int .u64 y, .int .u64 (min c 1)]).run Tryd.prog w = .ok (.value (.tuple #[.int .u64 (W.addS x y c), .int .u64 (W.addC x y c)])) w := by
  rw [run_callFunc_extern Tryd.func58 (by kernel_rfl) (by kernel_rfl) (by kernel_rfl) (e := add64Entry) (by kernel_rfl), run_add64 x y (min c 1) (by omega) (by omega) (by omega) (by omega)]
  simp only [Result.andThen]
  unfold W.addS W.addC
  congr 5 <;> omega
theorem sub64 (x y c : Int) (hx : 0 ≤ x) (hx' : x < 18446744073709551616) (hy : 0 ≤ y) (hy' : y < 18446744073709551616) (hc : 0 ≤ c) (w : World) :
    (callFunc 87 #[.int .u64 x, .int .u64 y, .int .u64 (min c 1)]).run Tryd.prog w = .ok (.value (.tuple #[.int .u64 (W.subS x y c), .int .u64 (W.subC x y c)])) w := by
  obtain ⟨x, rfl⟩ := Int.eq_ofNat_of_zero_le hx
  obtain ⟨y, rfl⟩ := Int.eq_ofNat_of_zero_le hy
  obtain ⟨c, rfl⟩ := Int.eq_ofNat_of_zero_le hc
  have e : (min (c : Int) 1) = ((min c 1 : Nat) : Int) := by omega
  rw [e, run_callFunc_extern Tryd.func87 (by kernel_rfl) (by kernel_rfl) (by kernel_rfl) (e := sub64Entry) (by kernel_rfl), run_sub64 x y (min c 1) (by omega)]
  simp only [Result.andThen]
  unfold W.subS W.subC
  have e1 : (((x + 18446744073709551616 - y - min c 1) % 18446744073709551616 : Nat) : Int) = ((x : Int) - y - min (c : Int) 1) % 18446744073709551616 := by omega
  have e2 : ((if x < y + min c 1 then 1 else 0 : Nat) : Int) = -(((x : Int) - y - min (c : Int) 1) / 18446744073709551616) := by split <;> omega
  rw [← e1, ← e2]
theorem add_any (a b c : Int) (ha : W.Wd a) (hb : W.Wd b) (hc : W.Wd c) (w : World) :
    Calls Tryd.prog 43 #[.int .u64 a, .int .u64 b, .int .u64 c] w fun e w' => e = .returned (.tuple #[.int .u64 (W.addS a b c), .int .u64 (W.addC a b c)]) ∧ w' = w := by
  obtain ⟨ha, ha'⟩ := ha; obtain ⟨hb, hb'⟩ := hb; obtain ⟨hc, hc'⟩ := hc
  go_enter Tryd.func43, Tryd.ntmps43
  go_wp2_with (first | (go_at_call 59; refine (one_any c hc hc' _).mono ?_; rintro e w' ⟨rfl, rfl⟩) | simp only [add64 a b c ha ha' hb hb' hc])
  go_ret2
  exact ⟨rfl, rfl⟩
theorem sub_any (a b c : Int) (ha : W.Wd a) (hb : W.Wd b) (hc : W.Wd c) (w : World) :
    Calls Tryd.prog 83 #[.int .u64 a, .int .u64 b, .int .u64 c] w fun e w' => e = .returned (.tuple #[.int .u64 (W.subS a b c), .int .u64 (W.subC a b c)]) ∧ w' = w := by
  obtain ⟨ha, ha'⟩ := ha; obtain ⟨hb, hb'⟩ := hb; obtain ⟨hc, hc'⟩ := hc
  go_enter Tryd.func83, Tryd.ntmps83
  go_wp2_with (first | (go_at_call 59; refine (one_any c hc hc' _).mono ?_; rintro e w' ⟨rfl, rfl⟩) | simp only [sub64 a b c ha ha' hb hb' hc])
  go_ret2
  exact ⟨rfl, rfl⟩
theorem mul64_any (a b : Int) (ha : W.Wd a) (hb : W.Wd b) (w : World) :
    Calls Tryd.prog 73 #[.int .u64 a, .int .u64 b] w fun e w' => e = .returned (.tuple #[.int .u64 (W.mulH a b), .int .u64 (W.mulL a b)]) ∧ w' = w := by
  obtain ⟨ha, ha'⟩ := ha; obtain ⟨hb, hb'⟩ := hb
  obtain ⟨a, rfl⟩ := Int.eq_ofNat_of_zero_le ha
  obtain ⟨b, rfl⟩ := Int.eq_ofNat_of_zero_le hb
  refine (Tryd.bits_Mul64 a b (by omega) (by omega) w).mono fun e w' h => ?_
  obtain ⟨rfl, rfl⟩ := h
  refine ⟨ret2 ?_ ?_, rfl⟩
  · unfold W.mulH; rw [Int.natCast_ediv, Int.natCast_mul]; rfl
  · unfold W.mulL; rw [Int.natCast_emod, Int.natCast_mul]; rfl
theorem mul_any (a b : Int) (ha : W.Wd a) (hb : W.Wd b) (w : World) :
    Calls Tryd.prog 61 #[.int .u64 a, .int .u64 b] w fun e w' => e = .returned (.tuple #[.int .u64 (W.mulH a b), .int .u64 (W.mulL a b)]) ∧ w' = w := by
  go_enter Tryd.func61, Tryd.ntmps61
  go_wp2_with (go_at_call 73; refine (mul64_any a b ha hb _).mono ?_; rintro e w' ⟨rfl, rfl⟩)
  go_ret2
  exact ⟨rfl, rfl⟩
theorem within_yes (n : Int) (h0 : 0 ≤ n) (h1 : n ≤ 64) (w : World) :
    Calls Tryd.prog 89 #[.int .i64 n] w fun e w' => e = .returned (.bool true) ∧ w' = w := by
  go_enter Tryd.func89, Tryd.ntmps89
  go_wp2
  go_ret
  exact ⟨rfl, rfl⟩
theorem within_no (n : Int) (h : n < 0 ∨ 64 < n) (w : World) :
    Calls Tryd.prog 89 #[.int .i64 n] w fun e w' => e = .returned (.bool false) ∧ w' = w := by
  by_cases h0 : 0 ≤ n
  · have h1 : 64 < n := by omega
    clear h
    go_enter Tryd.func89, Tryd.ntmps89
    go_wp2
    go_ret
    exact ⟨retb (by simp; omega), rfl⟩
  · have h1 : n < 0 := by omega
    clear h h0
    go_enter Tryd.func89, Tryd.ntmps89
    go_wp2
    go_ret
    exact ⟨rfl, rfl⟩
theorem shr_no (a b n : Int) (h : n < 0 ∨ 64 < n) (w : World) :
    Calls Tryd.prog 86 #[.int .u64 a, .int .u64 b, .int .i64 n] w fun e w' => e = .returned (.tuple #[.int .u64 0, .int .i64 1]) ∧ w' = w := by
  have H := Lib.hid h
  clear h
  go_enter Tryd.func86, Tryd.ntmps86
  go_wp2_with (go_at_call 89; refine (within_no n H.out _).mono ?_; rintro e w' ⟨rfl, rfl⟩)
  go_ret2
  exact ⟨rfl, rfl⟩
theorem shr_yes (a b n : Int) (ha : W.Wd a) (hb : W.Wd b) (h0 : 0 ≤ n) (h1 : n ≤ 64) (w : World) :
    Calls Tryd.prog 86 #[.int .u64 a, .int .u64 b, .int .i64 n] w fun e w' => e = .returned (.tuple #[.int .u64 (W.shr a b n), .int .i64 0]) ∧ ∃ k, w' = w.drewN k := by
  obtain ⟨ha, ha'⟩ := id ha
  obtain ⟨hb, hb'⟩ := id hb
  have HS := Lib.hid (W.shr_eq a b n ⟨hb, hb'⟩ h0 h1)
  go_enter Tryd.func86, Tryd.ntmps86
  go_wp2_with (go_at_call 89; refine (within_yes n h0 h1 _).mono ?_; rintro e w' ⟨rfl, rfl⟩)
  go_quiet (fail)
  go_wp2
  go_ret2
  obtain ⟨e1, x, y, k, e2, e3, e4, e5⟩ := HS.out
  refine ⟨ret2' ?_ rfl, _, rfl⟩
  have hx : x * 2 ^ k < 18446744073709551616 := by omega
  rw [IntKind.wrap_u64, e1, e2, e3, bits_or_u64_nat _ _ (by omega) hx, W.nat_or _ _ _ e4]
  rfl
theorem len_any (a : Int) (hw : W.Wd a) (w : World) :
    Calls Tryd.prog 66 #[.int .u64 a] w fun e w' => e = .returned (.int .i64 (W.len a)) ∧ w' = w := by
  obtain ⟨ha, ha'⟩ := id hw
  go_enter Tryd.func66, Tryd.ntmps66
  go_wp2
  go_step3
  go_wp2
  go_step3
  go_wp2
  go_loop [0, 3] (fun v i => ∃ k : Nat, k ≤ 64 ∧ i = .int .i64 k ∧ v = .int .u64 (a / 2 ^ k) ∧ (k = 0 ∨ 0 < a / 2 ^ (k - 1))) (fun _ i => 64 - (intOf i).toNat)
  case atStart => exact ⟨0, Nat.zero_le _, rfl, by simp, Or.inl rfl⟩
  case round =>
    obtain ⟨k, hk, rfl, rfl, hp⟩ := hrel
    have hd := W.div_le a k ha
    have HD : Hid (a / 2 ^ (k + 1) = a / 2 ^ k / 2) := Lib.hid (W.div_div2 a k)
    have HP := Lib.hid hp
    clear hp
    by_cases h0 : 0 < a / 2 ^ k
    · have := W.div_pos_lt a k hw h0
      by_cases h1 : a / 2 ^ k < 256
      · go_wp2
        go_round
        case rel => exact ⟨k + 1, by omega, by go_num, by rw [HD.out], Or.inr h0⟩
        case measure => first | (simp [intOf]; done) | (simp [intOf]; omega)
      · have h7 : 0 < a / 2 ^ (k + 7) := by rw [W.div_div128]; omega
        have := W.div_pos_lt a _ hw h7
        have H7 : Hid (0 < a / 2 ^ (k + 7)) := Lib.hid h7
        clear h7
        go_wp2
        go_round
        case rel => exact ⟨k + 8, by omega, by go_num, by rw [W.div_div256], Or.inr H7.out⟩
        case measure => first | (simp [intOf]; done) | (simp [intOf]; omega)
    · have HE : Hid (a / 2 ^ k = 0) := Lib.hid (by omega)
      go_wp2
      go_ret
      exact ⟨ret1 (W.len_of a k ha HE.out HP.out).symm, rfl⟩

end Go.Proofs.YtbadbjmhmadbmaaDoor
