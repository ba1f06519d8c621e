/-
  PROVED: the statement NatShifts (tombolalaw02.NatShifts) about the landed commit: for every input the law returns true and leaves its arguments as they were. Conditions: none beyond those that the given row itself prints.
-/
import Derived.Test.YtahokobifikcdaaRows
import Derived.WalkKit
import Derived.ProofKit
import Derived.OpenShut
import Derived.RowKit3
import Derived.Test.YtahokobifikcdaaLawFrame
import Derived.Test.YtahokobifikcdaaNatOpen
import Derived.Test.YtahokobifikcdaaNatAwake
import Derived.Test.YtahokobifikcdaaNatState2
namespace Go.Proofs.Ytahokobifikcdaa.natShifts
open Go.ChangeShapes Go.WideShapes Go.ChangeAt Go.RowKit
set_option linter.unusedVariables false
open N
theorem own : ownKnob Try.prog.godebug = none := by kernel_rfl
section
variable {w0 w w' : World} {S : List Ent} {A A' : Option Addr} {n c m d k k' : Nat} {xs ys : List Int} {v u : Int}
theorem len_z (h : St w0 w S) (h1 : (⟨A, n, c, k, xs, v⟩ : Ent) ∈ S) (hk : k ≤ 1099511627776) (hv : v = 0) :
    Calls Try.prog 26 #[.slice A n c] w fun e w' => e = .returned (.int .i64 0) ∧ St w0 w' S := by
  refine (len_s h h1 hk).mono fun e w' ⟨he, hs⟩ => ⟨?_, hs⟩
  rw [he, hv, len_0]
theorem len_mul {a : Int} (ha : 0 < a) (q : Nat) : W.len (a * 2 ^ q) = W.len a + q := by
  obtain ⟨k, h1, h2, h3⟩ := len_spec a (by omega)
  have hk0 : k ≠ 0 := by
    rintro rfl
    simp at h2; omega
  have h3' : 2 ^ (k - 1) ≤ a := by rcases h3 with h3 | h3; exact absurd h3 hk0; exact h3
  have hq := W.pow_pos q
  rw [h1, len_of' (a * 2 ^ q) (k + q) (Int.mul_nonneg (by omega) (by omega))]
  · omega
  · rw [Int.pow_add]; exact Int.mul_lt_mul_of_pos_right h2 hq
  · right
    rw [show k + q - 1 = k - 1 + q by omega, Int.pow_add]
    exact Int.mul_le_mul_of_nonneg_right h3' (by omega)
theorem len_sh (h : St w0 w S) {q : Int} (h1 : (⟨A, n, c, k, xs, u * 2 ^ q.toNat⟩ : Ent) ∈ S) (hk : k ≤ 1099511627776) (hu : 0 < u) (hq : 0 ≤ q) :
    Calls Try.prog 26 #[.slice A n c] w fun e w' => e = .returned (.int .i64 (W.len u + q)) ∧ St w0 w' S := by
  refine (len_s h h1 hk).mono fun e w' ⟨he, hs⟩ => ⟨?_, hs⟩
  rw [he, len_mul hu, Int.toNat_of_nonneg hq]
theorem bit_is (h : St w0 w S) (h1 : (⟨A, n, c, k, xs, v⟩ : Ent) ∈ S) {q : Int} (h0 : 0 ≤ q) (hq : q ≤ 9223372036854775807) {b : Bool} (hb : (v / 2 ^ q.toNat % 2 == 1) = b) :
    Calls Try.prog 27 #[.slice A n c, .int .i64 q] w fun e w' => e = .returned (.bool b) ∧ St w0 w' S := by
  rw [← hb]; exact bit_s h h1 h0 hq
end
theorem bits_hi (a : Int) {N K : Nat} (h : N ≤ K) : a / 2 ^ N * 2 ^ N / 2 ^ K = a / 2 ^ K := by
  have hp := W.pow_pos N
  have e : (2 : Int) ^ K = 2 ^ N * 2 ^ (K - N) := by rw [← Int.pow_add]; congr 1; omega
  rw [e, ← Int.ediv_ediv_of_nonneg (by omega), ← Int.ediv_ediv_of_nonneg (by omega), Int.mul_ediv_cancel _ (by omega)]
theorem bits_lo (a : Int) {N K : Nat} (h : K < N) : a / 2 ^ N * 2 ^ N / 2 ^ K % 2 = 0 := by
  have hp := W.pow_pos K
  have e : (2 : Int) ^ N = 2 ^ (N - K - 1) * 2 * 2 ^ K := by rw [← Int.pow_succ, ← Int.pow_add]; congr 1; omega
  generalize a / 2 ^ N = t
  rw [e, ← Int.mul_assoc, Int.mul_ediv_cancel _ (by omega), ← Int.mul_assoc]
  omega
theorem bits_up (a : Int) (N K : Nat) : a * 2 ^ N / 2 ^ (K + N) = a / 2 ^ K := by
  have hp := W.pow_pos N
  rw [Int.pow_add, Int.mul_ediv_mul_of_pos_left _ _ hp]
theorem bits_down (a : Int) (N K : Nat) : a / 2 ^ N / 2 ^ K = a / 2 ^ (K + N) := by
  rw [Int.ediv_ediv_of_nonneg (Int.le_of_lt (W.pow_pos N)), ← Int.pow_add, Nat.add_comm]
theorem len_small {xs : List Int} (hd : Dg B xs) (hl : xs.length ≤ 24) : W.len (val B xs) ≤ 1600 := by
  by_cases h : 0 < nn xs
  · rw [len_top hd h]
    have hx := hd.lim (by decide) (nn xs - 1)
    have hn := nn_le xs
    obtain ⟨k, h1, h2, h3⟩ := len_spec _ hx.1
    rw [h1]
    have : k ≤ 64 := by
      apply Classical.byContradiction; intro hk
      have e4 : 2 ^ (k - 1) ≤ lim xs (nn xs - 1) := by rcases h3 with e3 | e3; omega; exact e3
      have e5 : (2 : Int) ^ 64 ≤ 2 ^ (k - 1) := by rw [← W.cast_pow, ← W.cast_pow]; exact Int.ofNat_le.2 (Nat.pow_le_pow_right (by omega) (by omega))
      have h6 : lim xs (nn xs - 1) < 18446744073709551616 := hx.2
      omega
    omega
  · rw [(nn_zero_iff hd).1 (by omega), len_0]; omega
set_option maxRecDepth 100000 in
set_option maxHeartbeats 4000000 in
theorem walk (w : World) (A0 : Option Addr) (n0 c0 : Nat) (xs0 : List Int) (h0 : Sl w A0 n0 c0 xs0) (a1 : Int) (w1 : (Lit.int .u16 a1).wf = true) (a2 : Int) (w2 : (Lit.int .u16 a2).wf = true) :
    Calls Try.prog 10 #[.slice A0 n0 c0, .int .u16 a1, .int .u16 a2] w fun e w' => e = .returned (.bool true) ∧ Below w.heap.size w w' := by
  have hc0 := h0.cap
  have hm0 := h0.max
  unfold maxLen at hm0
  have b1 := bounds_u16 w1
  have b2 := bounds_u16 w2
  obtain ⟨N, hN⟩ : ∃ N : Nat, a1 % 400 = (N : Int) := ⟨(a1 % 400).toNat, by omega⟩
  obtain ⟨K, hK⟩ : ∃ K : Nat, a2 % 2000 = (K : Int) := ⟨(a2 % 2000).toNat, by omega⟩
  have hN4 : N < 400 := by omega
  have hK2 : K < 2000 := by omega
  obtain ⟨va, hva⟩ : ∃ v : Int, val B xs0 = v := ⟨_, rfl⟩
  have ga : 0 ≤ va := by rw [← hva]; exact val_nonneg (by decide) h0.dg
  by_cases hl : n0 ≤ 24
  · have l0 := hl
    rcases Int.lt_or_eq_of_le ga with hz | hz
    · by_cases hNK : N ≤ K
      · have hlb : W.len va ≤ 1600 := by rw [← hva]; exact len_small h0.dg (by rw [h0.len]; exact l0)
        have hl0 := len_nonneg va
        obtain ⟨bA, hbA⟩ : ∃ b : Bool, (va / 2 ^ K % 2 == 1) = b := ⟨_, rfl⟩
        obtain ⟨bB, hbB⟩ : ∃ b : Bool, (va / 2 ^ (K + N) % 2 == 1) = b := ⟨_, rfl⟩
        have HA1 : Hid ((va / 2 ^ (K : Int).toNat % 2 == 1) = bA) := Lib.hid (by rw [Int.toNat_natCast]; exact hbA)
        have HA2 : Hid ((va / 2 ^ ((K : Int) + (N : Int)).toNat % 2 == 1) = bB) := Lib.hid (by rw [show ((K : Int) + (N : Int)).toNat = K + N by omega]; exact hbB)
        have HX : Hid ((va * 2 ^ (N : Int).toNat / 2 ^ ((K : Int) + (N : Int)).toNat % 2 == 1) = bA) := Lib.hid (by rw [show ((K : Int) + (N : Int)).toNat = K + N by omega, Int.toNat_natCast, bits_up]; exact hbA)
        have HZ : Hid ((va / 2 ^ (N : Int).toNat / 2 ^ (K : Int).toNat % 2 == 1) = bB) := Lib.hid (by rw [Int.toNat_natCast, Int.toNat_natCast, bits_down]; exact hbB)
        have HW : Hid ((va / 2 ^ (N : Int).toNat * 2 ^ (N : Int).toNat / 2 ^ (K : Int).toNat % 2 == 1) = bA) := Lib.hid (by rw [Int.toNat_natCast, Int.toNat_natCast, bits_hi va hNK]; exact hbA)
        have hS0 := ((St.nil_ w).zero.cons h0 l0 hva)
        have hS := Lib.hid hS0
        clear hS0 hva h0 hbA hbB
        go_enter Try.func10, Try.ntmps10
        go_wp2_with (first
            | (go_at_call 12; (with_reducible refine (long1_n hS.out _ _ _ (by omega)).mono ?_); rintro e w' ⟨rfl, h1⟩; clear hS; have hS := Lib.hid h1; clear h1)
            | (go_at_call 13; (with_reducible refine (awake_s hS.out ).mono ?_); rintro e w' ⟨rfl, h1⟩; clear hS; have hS := Lib.hid h1; clear h1)
            | (go_at_call 37; (with_reducible refine (shl_s hS.out (by repeat (first | exact List.mem_cons_self | apply List.mem_cons_of_mem)) (by omega) (by omega) (by omega)).mono ?_); rintro e w' ⟨B1, m1, d1, rfl, h1⟩; clear hS; have hS := Lib.hid h1; clear h1)
            | (go_at_call 37; (with_reducible refine (shl_s (hS.out.lit1 1 (by omega)) (by repeat (first | exact List.mem_cons_self | apply List.mem_cons_of_mem)) (by omega) (by omega) (by omega)).mono ?_); rintro e w' ⟨B2, m2, d2, rfl, h1⟩; clear hS; have hS := Lib.hid h1; clear h1)
            | (go_at_call 38; (with_reducible refine (shr_s hS.out (by repeat (first | exact List.mem_cons_self | apply List.mem_cons_of_mem)) (by omega) (by omega) (by omega)).mono ?_); rintro e w' ⟨B3, m3, d3, rfl, h1⟩; clear hS; have hS := Lib.hid h1; clear h1)
            | (go_at_call 36; (with_reducible refine (mul_s hS.out (by repeat (first | exact List.mem_cons_self | apply List.mem_cons_of_mem)) (by repeat (first | exact List.mem_cons_self | apply List.mem_cons_of_mem)) (by omega) (by omega)).mono ?_); rintro e w' ⟨B4, m4, d4, rfl, h1⟩; clear hS; have hS := Lib.hid h1; clear h1)
            | (go_at_call 16; (with_reducible refine (trim_s hS.out (by repeat (first | exact List.mem_cons_self | apply List.mem_cons_of_mem)) (by omega)).mono ?_); rintro e w' ⟨B5, m5, d5, rfl, h1⟩; clear hS; have hS := Lib.hid h1; clear h1)
            | (go_at_call 18; (with_reducible refine (same_s hS.out (by repeat (first | exact List.mem_cons_self | apply List.mem_cons_of_mem)) (by repeat (first | exact List.mem_cons_self | apply List.mem_cons_of_mem)) (by first | rfl | (congr 1; simp; done) | (congr 1; exact Int.mul_ediv_cancel _ (Int.ne_of_gt (W.pow_pos _))))).mono ?_); rintro e w' ⟨rfl, h1⟩; clear hS; have hS := Lib.hid h1; clear h1)
            | (go_at_call 27; (with_reducible refine (bit_is hS.out (by repeat (first | exact List.mem_cons_self | apply List.mem_cons_of_mem)) (by omega) (by omega) HW.out).mono ?_); rintro e w' ⟨rfl, h1⟩; clear hS; have hS := Lib.hid h1; clear h1)
            | (go_at_call 27; (with_reducible refine (bit_is hS.out (by repeat (first | exact List.mem_cons_self | apply List.mem_cons_of_mem)) (by omega) (by omega) HA1.out).mono ?_); rintro e w' ⟨rfl, h1⟩; clear hS; have hS := Lib.hid h1; clear h1)
            | (go_at_call 27; (with_reducible refine (bit_is hS.out (by repeat (first | exact List.mem_cons_self | apply List.mem_cons_of_mem)) (by omega) (by omega) HX.out).mono ?_); rintro e w' ⟨rfl, h1⟩; clear hS; have hS := Lib.hid h1; clear h1)
            | (go_at_call 27; (with_reducible refine (bit_is hS.out (by repeat (first | exact List.mem_cons_self | apply List.mem_cons_of_mem)) (by omega) (by omega) HZ.out).mono ?_); rintro e w' ⟨rfl, h1⟩; clear hS; have hS := Lib.hid h1; clear h1)
            | (go_at_call 27; (with_reducible refine (bit_is hS.out (by repeat (first | exact List.mem_cons_self | apply List.mem_cons_of_mem)) (by omega) (by omega) HA2.out).mono ?_); rintro e w' ⟨rfl, h1⟩; clear hS; have hS := Lib.hid h1; clear h1)
            | (go_at_call 22; (with_reducible refine (zero_n hS.out (by repeat (first | exact List.mem_cons_self | apply List.mem_cons_of_mem)) (by omega)).mono ?_); rintro e w' ⟨rfl, h1⟩; clear hS; have hS := Lib.hid h1; clear h1)
            | (go_at_call 26; (with_reducible refine (len_sh hS.out (by repeat (first | exact List.mem_cons_self | apply List.mem_cons_of_mem)) (by omega) (by omega) (by omega)).mono ?_); rintro e w' ⟨rfl, h1⟩; clear hS; have hS := Lib.hid h1; clear h1)
            | (go_at_call 26; (with_reducible refine (len_s hS.out (by repeat (first | exact List.mem_cons_self | apply List.mem_cons_of_mem)) (by omega)).mono ?_); rintro e w' ⟨rfl, h1⟩; clear hS; have hS := Lib.hid h1; clear h1))
        all_goals go_ret
        all_goals exact ⟨rfl, hS.out.1⟩
      · have hlb : W.len va ≤ 1600 := by rw [← hva]; exact len_small h0.dg (by rw [h0.len]; exact l0)
        have hl0 := len_nonneg va
        obtain ⟨bA, hbA⟩ : ∃ b : Bool, (va / 2 ^ K % 2 == 1) = b := ⟨_, rfl⟩
        obtain ⟨bB, hbB⟩ : ∃ b : Bool, (va / 2 ^ (K + N) % 2 == 1) = b := ⟨_, rfl⟩
        have HA1 : Hid ((va / 2 ^ (K : Int).toNat % 2 == 1) = bA) := Lib.hid (by rw [Int.toNat_natCast]; exact hbA)
        have HA2 : Hid ((va / 2 ^ ((K : Int) + (N : Int)).toNat % 2 == 1) = bB) := Lib.hid (by rw [show ((K : Int) + (N : Int)).toNat = K + N by omega]; exact hbB)
        have HX : Hid ((va * 2 ^ (N : Int).toNat / 2 ^ ((K : Int) + (N : Int)).toNat % 2 == 1) = bA) := Lib.hid (by rw [show ((K : Int) + (N : Int)).toNat = K + N by omega, Int.toNat_natCast, bits_up]; exact hbA)
        have HZ : Hid ((va / 2 ^ (N : Int).toNat / 2 ^ (K : Int).toNat % 2 == 1) = bB) := Lib.hid (by rw [Int.toNat_natCast, Int.toNat_natCast, bits_down]; exact hbB)
        have HW : Hid ((va / 2 ^ (N : Int).toNat * 2 ^ (N : Int).toNat / 2 ^ (K : Int).toNat % 2 == 1) = false) := Lib.hid (by rw [Int.toNat_natCast, Int.toNat_natCast, bits_lo va (by omega)]; rfl)
        have hS0 := ((St.nil_ w).zero.cons h0 l0 hva)
        have hS := Lib.hid hS0
        clear hS0 hva h0 hbA hbB
        go_enter Try.func10, Try.ntmps10
        go_wp2_with (first
            | (go_at_call 12; (with_reducible refine (long1_n hS.out _ _ _ (by omega)).mono ?_); rintro e w' ⟨rfl, h1⟩; clear hS; have hS := Lib.hid h1; clear h1)
            | (go_at_call 13; (with_reducible refine (awake_s hS.out ).mono ?_); rintro e w' ⟨rfl, h1⟩; clear hS; have hS := Lib.hid h1; clear h1)
            | (go_at_call 37; (with_reducible refine (shl_s hS.out (by repeat (first | exact List.mem_cons_self | apply List.mem_cons_of_mem)) (by omega) (by omega) (by omega)).mono ?_); rintro e w' ⟨B1, m1, d1, rfl, h1⟩; clear hS; have hS := Lib.hid h1; clear h1)
            | (go_at_call 37; (with_reducible refine (shl_s (hS.out.lit1 1 (by omega)) (by repeat (first | exact List.mem_cons_self | apply List.mem_cons_of_mem)) (by omega) (by omega) (by omega)).mono ?_); rintro e w' ⟨B2, m2, d2, rfl, h1⟩; clear hS; have hS := Lib.hid h1; clear h1)
            | (go_at_call 38; (with_reducible refine (shr_s hS.out (by repeat (first | exact List.mem_cons_self | apply List.mem_cons_of_mem)) (by omega) (by omega) (by omega)).mono ?_); rintro e w' ⟨B3, m3, d3, rfl, h1⟩; clear hS; have hS := Lib.hid h1; clear h1)
            | (go_at_call 36; (with_reducible refine (mul_s hS.out (by repeat (first | exact List.mem_cons_self | apply List.mem_cons_of_mem)) (by repeat (first | exact List.mem_cons_self | apply List.mem_cons_of_mem)) (by omega) (by omega)).mono ?_); rintro e w' ⟨B4, m4, d4, rfl, h1⟩; clear hS; have hS := Lib.hid h1; clear h1)
            | (go_at_call 16; (with_reducible refine (trim_s hS.out (by repeat (first | exact List.mem_cons_self | apply List.mem_cons_of_mem)) (by omega)).mono ?_); rintro e w' ⟨B5, m5, d5, rfl, h1⟩; clear hS; have hS := Lib.hid h1; clear h1)
            | (go_at_call 18; (with_reducible refine (same_s hS.out (by repeat (first | exact List.mem_cons_self | apply List.mem_cons_of_mem)) (by repeat (first | exact List.mem_cons_self | apply List.mem_cons_of_mem)) (by first | rfl | (congr 1; simp; done) | (congr 1; exact Int.mul_ediv_cancel _ (Int.ne_of_gt (W.pow_pos _))))).mono ?_); rintro e w' ⟨rfl, h1⟩; clear hS; have hS := Lib.hid h1; clear h1)
            | (go_at_call 27; (with_reducible refine (bit_is hS.out (by repeat (first | exact List.mem_cons_self | apply List.mem_cons_of_mem)) (by omega) (by omega) HW.out).mono ?_); rintro e w' ⟨rfl, h1⟩; clear hS; have hS := Lib.hid h1; clear h1)
            | (go_at_call 27; (with_reducible refine (bit_is hS.out (by repeat (first | exact List.mem_cons_self | apply List.mem_cons_of_mem)) (by omega) (by omega) HA1.out).mono ?_); rintro e w' ⟨rfl, h1⟩; clear hS; have hS := Lib.hid h1; clear h1)
            | (go_at_call 27; (with_reducible refine (bit_is hS.out (by repeat (first | exact List.mem_cons_self | apply List.mem_cons_of_mem)) (by omega) (by omega) HX.out).mono ?_); rintro e w' ⟨rfl, h1⟩; clear hS; have hS := Lib.hid h1; clear h1)
            | (go_at_call 27; (with_reducible refine (bit_is hS.out (by repeat (first | exact List.mem_cons_self | apply List.mem_cons_of_mem)) (by omega) (by omega) HZ.out).mono ?_); rintro e w' ⟨rfl, h1⟩; clear hS; have hS := Lib.hid h1; clear h1)
            | (go_at_call 27; (with_reducible refine (bit_is hS.out (by repeat (first | exact List.mem_cons_self | apply List.mem_cons_of_mem)) (by omega) (by omega) HA2.out).mono ?_); rintro e w' ⟨rfl, h1⟩; clear hS; have hS := Lib.hid h1; clear h1)
            | (go_at_call 22; (with_reducible refine (zero_n hS.out (by repeat (first | exact List.mem_cons_self | apply List.mem_cons_of_mem)) (by omega)).mono ?_); rintro e w' ⟨rfl, h1⟩; clear hS; have hS := Lib.hid h1; clear h1)
            | (go_at_call 26; (with_reducible refine (len_sh hS.out (by repeat (first | exact List.mem_cons_self | apply List.mem_cons_of_mem)) (by omega) (by omega) (by omega)).mono ?_); rintro e w' ⟨rfl, h1⟩; clear hS; have hS := Lib.hid h1; clear h1)
            | (go_at_call 26; (with_reducible refine (len_s hS.out (by repeat (first | exact List.mem_cons_self | apply List.mem_cons_of_mem)) (by omega)).mono ?_); rintro e w' ⟨rfl, h1⟩; clear hS; have hS := Lib.hid h1; clear h1))
        all_goals go_ret
        all_goals exact ⟨rfl, hS.out.1⟩
    · obtain rfl : va = 0 := hz.symm
      by_cases hNK : N ≤ K
      · have hlb : W.len (0 : Int) ≤ 1600 := by rw [← hva]; exact len_small h0.dg (by rw [h0.len]; exact l0)
        have hl0 := len_nonneg (0 : Int)
        obtain ⟨bA, hbA⟩ : ∃ b : Bool, ((0 : Int) / 2 ^ K % 2 == 1) = b := ⟨_, rfl⟩
        obtain ⟨bB, hbB⟩ : ∃ b : Bool, ((0 : Int) / 2 ^ (K + N) % 2 == 1) = b := ⟨_, rfl⟩
        have HA1 : Hid (((0 : Int) / 2 ^ (K : Int).toNat % 2 == 1) = bA) := Lib.hid (by rw [Int.toNat_natCast]; exact hbA)
        have HA2 : Hid (((0 : Int) / 2 ^ ((K : Int) + (N : Int)).toNat % 2 == 1) = bB) := Lib.hid (by rw [show ((K : Int) + (N : Int)).toNat = K + N by omega]; exact hbB)
        have HX : Hid (((0 : Int) * 2 ^ (N : Int).toNat / 2 ^ ((K : Int) + (N : Int)).toNat % 2 == 1) = bA) := Lib.hid (by rw [show ((K : Int) + (N : Int)).toNat = K + N by omega, Int.toNat_natCast, bits_up]; exact hbA)
        have HZ : Hid (((0 : Int) / 2 ^ (N : Int).toNat / 2 ^ (K : Int).toNat % 2 == 1) = bB) := Lib.hid (by rw [Int.toNat_natCast, Int.toNat_natCast, bits_down]; exact hbB)
        have HW : Hid (((0 : Int) / 2 ^ (N : Int).toNat * 2 ^ (N : Int).toNat / 2 ^ (K : Int).toNat % 2 == 1) = bA) := Lib.hid (by rw [Int.toNat_natCast, Int.toNat_natCast, bits_hi (0 : Int) hNK]; exact hbA)
        have hS0 := ((St.nil_ w).zero.cons h0 l0 hva)
        have hS := Lib.hid hS0
        clear hS0 hva h0 hbA hbB
        go_enter Try.func10, Try.ntmps10
        go_wp2_with (first
            | (go_at_call 12; (with_reducible refine (long1_n hS.out _ _ _ (by omega)).mono ?_); rintro e w' ⟨rfl, h1⟩; clear hS; have hS := Lib.hid h1; clear h1)
            | (go_at_call 13; (with_reducible refine (awake_s hS.out ).mono ?_); rintro e w' ⟨rfl, h1⟩; clear hS; have hS := Lib.hid h1; clear h1)
            | (go_at_call 37; (with_reducible refine (shl_s hS.out (by repeat (first | exact List.mem_cons_self | apply List.mem_cons_of_mem)) (by omega) (by omega) (by omega)).mono ?_); rintro e w' ⟨B1, m1, d1, rfl, h1⟩; clear hS; have hS := Lib.hid h1; clear h1)
            | (go_at_call 37; (with_reducible refine (shl_s (hS.out.lit1 1 (by omega)) (by repeat (first | exact List.mem_cons_self | apply List.mem_cons_of_mem)) (by omega) (by omega) (by omega)).mono ?_); rintro e w' ⟨B2, m2, d2, rfl, h1⟩; clear hS; have hS := Lib.hid h1; clear h1)
            | (go_at_call 38; (with_reducible refine (shr_s hS.out (by repeat (first | exact List.mem_cons_self | apply List.mem_cons_of_mem)) (by omega) (by omega) (by omega)).mono ?_); rintro e w' ⟨B3, m3, d3, rfl, h1⟩; clear hS; have hS := Lib.hid h1; clear h1)
            | (go_at_call 36; (with_reducible refine (mul_s hS.out (by repeat (first | exact List.mem_cons_self | apply List.mem_cons_of_mem)) (by repeat (first | exact List.mem_cons_self | apply List.mem_cons_of_mem)) (by omega) (by omega)).mono ?_); rintro e w' ⟨B4, m4, d4, rfl, h1⟩; clear hS; have hS := Lib.hid h1; clear h1)
            | (go_at_call 16; (with_reducible refine (trim_s hS.out (by repeat (first | exact List.mem_cons_self | apply List.mem_cons_of_mem)) (by omega)).mono ?_); rintro e w' ⟨B5, m5, d5, rfl, h1⟩; clear hS; have hS := Lib.hid h1; clear h1)
            | (go_at_call 18; (with_reducible refine (same_s hS.out (by repeat (first | exact List.mem_cons_self | apply List.mem_cons_of_mem)) (by repeat (first | exact List.mem_cons_self | apply List.mem_cons_of_mem)) (by first | rfl | (congr 1; simp; done) | (congr 1; exact Int.mul_ediv_cancel _ (Int.ne_of_gt (W.pow_pos _))))).mono ?_); rintro e w' ⟨rfl, h1⟩; clear hS; have hS := Lib.hid h1; clear h1)
            | (go_at_call 27; (with_reducible refine (bit_is hS.out (by repeat (first | exact List.mem_cons_self | apply List.mem_cons_of_mem)) (by omega) (by omega) HW.out).mono ?_); rintro e w' ⟨rfl, h1⟩; clear hS; have hS := Lib.hid h1; clear h1)
            | (go_at_call 27; (with_reducible refine (bit_is hS.out (by repeat (first | exact List.mem_cons_self | apply List.mem_cons_of_mem)) (by omega) (by omega) HA1.out).mono ?_); rintro e w' ⟨rfl, h1⟩; clear hS; have hS := Lib.hid h1; clear h1)
            | (go_at_call 27; (with_reducible refine (bit_is hS.out (by repeat (first | exact List.mem_cons_self | apply List.mem_cons_of_mem)) (by omega) (by omega) HX.out).mono ?_); rintro e w' ⟨rfl, h1⟩; clear hS; have hS := Lib.hid h1; clear h1)
            | (go_at_call 27; (with_reducible refine (bit_is hS.out (by repeat (first | exact List.mem_cons_self | apply List.mem_cons_of_mem)) (by omega) (by omega) HZ.out).mono ?_); rintro e w' ⟨rfl, h1⟩; clear hS; have hS := Lib.hid h1; clear h1)
            | (go_at_call 27; (with_reducible refine (bit_is hS.out (by repeat (first | exact List.mem_cons_self | apply List.mem_cons_of_mem)) (by omega) (by omega) HA2.out).mono ?_); rintro e w' ⟨rfl, h1⟩; clear hS; have hS := Lib.hid h1; clear h1)
            | (go_at_call 22; (with_reducible refine (zero_s hS.out (by repeat (first | exact List.mem_cons_self | apply List.mem_cons_of_mem)) (by first | rfl | omega)).mono ?_); rintro e w' ⟨rfl, h1⟩; clear hS; have hS := Lib.hid h1; clear h1)
            | (go_at_call 26; (with_reducible refine (len_z hS.out (by repeat (first | exact List.mem_cons_self | apply List.mem_cons_of_mem)) (by omega) (by simp)).mono ?_); rintro e w' ⟨rfl, h1⟩; clear hS; have hS := Lib.hid h1; clear h1))
        all_goals go_ret
        all_goals exact ⟨rfl, hS.out.1⟩
      · have hlb : W.len (0 : Int) ≤ 1600 := by rw [← hva]; exact len_small h0.dg (by rw [h0.len]; exact l0)
        have hl0 := len_nonneg (0 : Int)
        obtain ⟨bA, hbA⟩ : ∃ b : Bool, ((0 : Int) / 2 ^ K % 2 == 1) = b := ⟨_, rfl⟩
        obtain ⟨bB, hbB⟩ : ∃ b : Bool, ((0 : Int) / 2 ^ (K + N) % 2 == 1) = b := ⟨_, rfl⟩
        have HA1 : Hid (((0 : Int) / 2 ^ (K : Int).toNat % 2 == 1) = bA) := Lib.hid (by rw [Int.toNat_natCast]; exact hbA)
        have HA2 : Hid (((0 : Int) / 2 ^ ((K : Int) + (N : Int)).toNat % 2 == 1) = bB) := Lib.hid (by rw [show ((K : Int) + (N : Int)).toNat = K + N by omega]; exact hbB)
        have HX : Hid (((0 : Int) * 2 ^ (N : Int).toNat / 2 ^ ((K : Int) + (N : Int)).toNat % 2 == 1) = bA) := Lib.hid (by rw [show ((K : Int) + (N : Int)).toNat = K + N by omega, Int.toNat_natCast, bits_up]; exact hbA)
        have HZ : Hid (((0 : Int) / 2 ^ (N : Int).toNat / 2 ^ (K : Int).toNat % 2 == 1) = bB) := Lib.hid (by rw [Int.toNat_natCast, Int.toNat_natCast, bits_down]; exact hbB)
        have HW : Hid (((0 : Int) / 2 ^ (N : Int).toNat * 2 ^ (N : Int).toNat / 2 ^ (K : Int).toNat % 2 == 1) = false) := Lib.hid (by rw [Int.toNat_natCast, Int.toNat_natCast, bits_lo (0 : Int) (by omega)]; rfl)
        have hS0 := ((St.nil_ w).zero.cons h0 l0 hva)
        have hS := Lib.hid hS0
        clear hS0 hva h0 hbA hbB
        go_enter Try.func10, Try.ntmps10
        go_wp2_with (first
            | (go_at_call 12; (with_reducible refine (long1_n hS.out _ _ _ (by omega)).mono ?_); rintro e w' ⟨rfl, h1⟩; clear hS; have hS := Lib.hid h1; clear h1)
            | (go_at_call 13; (with_reducible refine (awake_s hS.out ).mono ?_); rintro e w' ⟨rfl, h1⟩; clear hS; have hS := Lib.hid h1; clear h1)
            | (go_at_call 37; (with_reducible refine (shl_s hS.out (by repeat (first | exact List.mem_cons_self | apply List.mem_cons_of_mem)) (by omega) (by omega) (by omega)).mono ?_); rintro e w' ⟨B1, m1, d1, rfl, h1⟩; clear hS; have hS := Lib.hid h1; clear h1)
            | (go_at_call 37; (with_reducible refine (shl_s (hS.out.lit1 1 (by omega)) (by repeat (first | exact List.mem_cons_self | apply List.mem_cons_of_mem)) (by omega) (by omega) (by omega)).mono ?_); rintro e w' ⟨B2, m2, d2, rfl, h1⟩; clear hS; have hS := Lib.hid h1; clear h1)
            | (go_at_call 38; (with_reducible refine (shr_s hS.out (by repeat (first | exact List.mem_cons_self | apply List.mem_cons_of_mem)) (by omega) (by omega) (by omega)).mono ?_); rintro e w' ⟨B3, m3, d3, rfl, h1⟩; clear hS; have hS := Lib.hid h1; clear h1)
            | (go_at_call 36; (with_reducible refine (mul_s hS.out (by repeat (first | exact List.mem_cons_self | apply List.mem_cons_of_mem)) (by repeat (first | exact List.mem_cons_self | apply List.mem_cons_of_mem)) (by omega) (by omega)).mono ?_); rintro e w' ⟨B4, m4, d4, rfl, h1⟩; clear hS; have hS := Lib.hid h1; clear h1)
            | (go_at_call 16; (with_reducible refine (trim_s hS.out (by repeat (first | exact List.mem_cons_self | apply List.mem_cons_of_mem)) (by omega)).mono ?_); rintro e w' ⟨B5, m5, d5, rfl, h1⟩; clear hS; have hS := Lib.hid h1; clear h1)
            | (go_at_call 18; (with_reducible refine (same_s hS.out (by repeat (first | exact List.mem_cons_self | apply List.mem_cons_of_mem)) (by repeat (first | exact List.mem_cons_self | apply List.mem_cons_of_mem)) (by first | rfl | (congr 1; simp; done) | (congr 1; exact Int.mul_ediv_cancel _ (Int.ne_of_gt (W.pow_pos _))))).mono ?_); rintro e w' ⟨rfl, h1⟩; clear hS; have hS := Lib.hid h1; clear h1)
            | (go_at_call 27; (with_reducible refine (bit_is hS.out (by repeat (first | exact List.mem_cons_self | apply List.mem_cons_of_mem)) (by omega) (by omega) HW.out).mono ?_); rintro e w' ⟨rfl, h1⟩; clear hS; have hS := Lib.hid h1; clear h1)
            | (go_at_call 27; (with_reducible refine (bit_is hS.out (by repeat (first | exact List.mem_cons_self | apply List.mem_cons_of_mem)) (by omega) (by omega) HA1.out).mono ?_); rintro e w' ⟨rfl, h1⟩; clear hS; have hS := Lib.hid h1; clear h1)
            | (go_at_call 27; (with_reducible refine (bit_is hS.out (by repeat (first | exact List.mem_cons_self | apply List.mem_cons_of_mem)) (by omega) (by omega) HX.out).mono ?_); rintro e w' ⟨rfl, h1⟩; clear hS; have hS := Lib.hid h1; clear h1)
            | (go_at_call 27; (with_reducible refine (bit_is hS.out (by repeat (first | exact List.mem_cons_self | apply List.mem_cons_of_mem)) (by omega) (by omega) HZ.out).mono ?_); rintro e w' ⟨rfl, h1⟩; clear hS; have hS := Lib.hid h1; clear h1)
            | (go_at_call 27; (with_reducible refine (bit_is hS.out (by repeat (first | exact List.mem_cons_self | apply List.mem_cons_of_mem)) (by omega) (by omega) HA2.out).mono ?_); rintro e w' ⟨rfl, h1⟩; clear hS; have hS := Lib.hid h1; clear h1)
            | (go_at_call 22; (with_reducible refine (zero_s hS.out (by repeat (first | exact List.mem_cons_self | apply List.mem_cons_of_mem)) (by first | rfl | omega)).mono ?_); rintro e w' ⟨rfl, h1⟩; clear hS; have hS := Lib.hid h1; clear h1)
            | (go_at_call 26; (with_reducible refine (len_z hS.out (by repeat (first | exact List.mem_cons_self | apply List.mem_cons_of_mem)) (by omega) (by simp)).mono ?_); rintro e w' ⟨rfl, h1⟩; clear hS; have hS := Lib.hid h1; clear h1))
        all_goals go_ret
        all_goals exact ⟨rfl, hS.out.1⟩
  · have hS0 := St.nil_ w
    have hS := Lib.hid hS0
    have HL := Lib.hid hl
    clear hS0 hva h0 hl
    go_enter Try.func10, Try.ntmps10
    go_wp2_with (first
      | (go_at_call 12; (with_reducible refine (long1_y hS.out _ _ _ (by omega) HL.out).mono ?_); rintro e w' ⟨rfl, h1⟩; clear hS; have hS := Lib.hid h1; clear h1)
      | (go_at_call 13; (with_reducible refine (awake_s hS.out ).mono ?_); rintro e w' ⟨rfl, h1⟩; clear hS; have hS := Lib.hid h1; clear h1))
    go_ret
    exact ⟨rfl, hS.out.1⟩
set_option maxRecDepth 100000 in
theorem lifted (os : Os) (started : os.Started) (H : Type) (enc : TypeId × Value → H) :
    ReturnsInHanded {} Try.checked os 10 .any (Rows.natShiftsSpec.pre6 enc Try.prog Try.f10 Rows.natShiftsRow.domain false) (Rows.natShiftsSpec.post enc Try.prog Try.f10 false true false false) := by
  refine returnsInHanded_of_change (C := Try.checked) own started (by kernel_rfl) Try.func10
    (ChangeSpec.witness6 (enc := enc) (C := Try.checked) false ⟨#[], #[.slice none 0 0, .int .u16 0, .int .u16 0], []⟩ 8 (by kernel_rfl) (by kernel_rfl) (by kernel_rfl) (by kernel_rfl)) ?_
  intro W base args ds gs before hval0 hW hcnd _
  have hval : ∀ (j : Nat) t v, Try.f10.params[j]? = some t → args[j]? = some v → Value.okWide Try.prog W .any base t v := hval0
  have hW' := hW
  obtain ⟨p, q, hA0, hV, hpq, hfz, hnd⟩ := hW
  have hA : DataW.TrodAll enc Try.prog W 0 (fun _ => true) true Try.f10.params.toList args.toList ds p := hA0
  rw [Try.params10] at hA hval
  obtain ⟨v0, vs0, d0, ds0, p0, q0, hargs, rfl, rfl, h0, r0⟩ := trodAll_cons hA
  obtain ⟨v1, vs1, d1, ds1, p1, q1, rfl, rfl, rfl, h1, r1⟩ := trodAll_cons r0
  obtain ⟨v2, vs2, d2, ds2, p2, q2, rfl, rfl, rfl, h2, r2⟩ := trodAll_cons r1
  obtain ⟨rfl, rfl, rfl⟩ := trodAll_nil r2
  obtain rfl : args = #[v0, v1, v2] := by cases args; simp_all
  obtain ⟨rfl, rfl⟩ := trodVars_none hV
  obtain ⟨A0, n0, c0, xs0, rfl, s0⟩ := open_natural (hval 0 23 v0 rfl rfl) h0
  obtain ⟨a1, rfl, rfl, rfl, w1⟩ := open_int Try.underlying45 (hval 1 45 v1 rfl rfl) h1
  obtain ⟨a2, rfl, rfl, rfl, w2⟩ := open_int Try.underlying45 (hval 2 45 v2 rfl rfl) h2
  refine (walk W A0 n0 c0 xs0 s0 a1 w1 a2 w2).mono fun e W' ⟨he, hb⟩ => ?_
  subst he
  exact ⟨_, rfl, Frame.close laidOut hW' rfl rfl rfl Try.underlying4 (fun t ht => by rw [Try.params10] at ht; simp at ht; first | exact ht.elim | (rcases ht with rfl | rfl <;> exact ⟨by kernel_rfl, of_decide_eq_true (by kernel_rfl)⟩)) hb⟩
theorem over : Rows.natShiftsRow.holds Try.pinned (OpenSpec.ofChange Rows.natShiftsSpec) :=
  OpenClaim.holds_of_wide 10 Try.f10 rfl rfl rfl rfl rfl rfl rfl ⟨rfl, rfl, rfl, rfl, rfl⟩ rfl rfl rfl rfl rfl (by kernel_rfl) Try.func10 (by kernel_rfl)
    (of_decide_eq_true (by kernel_rfl)) (by unfold Func.isWrapper; first | (rw [if_pos (by decide +kernel)]; kernel_rfl) | (rw [if_neg (by decide +kernel)]; exact ⟨rfl, rfl⟩))
    (fun os started H enc _ => lifted os started H enc)
/-- the statement -/
theorem proved : Rows.NatShiftsSaid :=
  over
#print axioms proved
end Go.Proofs.Ytahokobifikcdaa.natShifts
