/-
  PROVED: the statement NatNames (tombolalaw02.NatNames) about the landed commit: for every input the law returns true and leaves its arguments as they were. Conditions: none beyond those that the given row itself prints.
-/
import Derived.Test.YtahokobifikcdaaRows
import Derived.WalkKit
import Derived.ProofKit
import Derived.OpenShut
import Derived.RowKit3
import Derived.Test.YtahokobifikcdaaLawFrame
import Derived.Test.YtahokobifikcdaaNatOpen
import Derived.Test.YtahokobifikcdaaNatAwake
import Derived.Test.YtahokobifikcdaaNatState2
namespace Go.Proofs.Ytahokobifikcdaa.natNames
open Go.ChangeShapes Go.WideShapes Go.ChangeAt Go.RowKit
set_option linter.unusedVariables false
open N
theorem own : ownKnob Try.prog.godebug = none := by kernel_rfl
section
variable {w0 w w' : World} {S : List Ent} {A A' : Option Addr} {n c m d k k' : Nat} {xs ys : List Int} {v u : Int}
theorem lit_1 (h : St w0 w S) (x0 : Int) (hd : Dg B [x0]) : St w0 (w.alloc (.cells #[.int .u64 x0] 24)) (⟨some ⟨w.heap.size, 0, none⟩, 1, 1, 1, [x0], val B [x0]⟩ :: S) :=
  h.lit [x0] hd (by simp)
theorem at_1 (h : St w0 w S) (x0 : Int) (hd : Dg B [x0]) {b : Nat} (hb : w.heap.size = b) : St w0 (w.alloc (.cells #[.int .u64 x0] 24)) (⟨some ⟨b, 0, none⟩, 1, 1, 1, [x0], val B [x0]⟩ :: S) := by
  subst hb; exact lit_1 h x0 hd
theorem lit_2 (h : St w0 w S) (x0 x1 : Int) (hd : Dg B [x0, x1]) : St w0 (w.alloc (.cells #[.int .u64 x0, .int .u64 x1] 24)) (⟨some ⟨w.heap.size, 0, none⟩, 2, 2, 2, [x0, x1], val B [x0, x1]⟩ :: S) :=
  h.lit [x0, x1] hd (by simp)
theorem at_2 (h : St w0 w S) (x0 x1 : Int) (hd : Dg B [x0, x1]) {b : Nat} (hb : w.heap.size = b) : St w0 (w.alloc (.cells #[.int .u64 x0, .int .u64 x1] 24)) (⟨some ⟨b, 0, none⟩, 2, 2, 2, [x0, x1], val B [x0, x1]⟩ :: S) := by
  subst hb; exact lit_2 h x0 x1 hd
theorem lit_3 (h : St w0 w S) (x0 x1 x2 : Int) (hd : Dg B [x0, x1, x2]) : St w0 (w.alloc (.cells #[.int .u64 x0, .int .u64 x1, .int .u64 x2] 24)) (⟨some ⟨w.heap.size, 0, none⟩, 3, 3, 3, [x0, x1, x2], val B [x0, x1, x2]⟩ :: S) :=
  h.lit [x0, x1, x2] hd (by simp)
theorem at_3 (h : St w0 w S) (x0 x1 x2 : Int) (hd : Dg B [x0, x1, x2]) {b : Nat} (hb : w.heap.size = b) : St w0 (w.alloc (.cells #[.int .u64 x0, .int .u64 x1, .int .u64 x2] 24)) (⟨some ⟨b, 0, none⟩, 3, 3, 3, [x0, x1, x2], val B [x0, x1, x2]⟩ :: S) := by
  subst hb; exact lit_3 h x0 x1 x2 hd
theorem lit_4 (h : St w0 w S) (x0 x1 x2 x3 : Int) (hd : Dg B [x0, x1, x2, x3]) : St w0 (w.alloc (.cells #[.int .u64 x0, .int .u64 x1, .int .u64 x2, .int .u64 x3] 24)) (⟨some ⟨w.heap.size, 0, none⟩, 4, 4, 4, [x0, x1, x2, x3], val B [x0, x1, x2, x3]⟩ :: S) :=
  h.lit [x0, x1, x2, x3] hd (by simp)
theorem at_4 (h : St w0 w S) (x0 x1 x2 x3 : Int) (hd : Dg B [x0, x1, x2, x3]) {b : Nat} (hb : w.heap.size = b) : St w0 (w.alloc (.cells #[.int .u64 x0, .int .u64 x1, .int .u64 x2, .int .u64 x3] 24)) (⟨some ⟨b, 0, none⟩, 4, 4, 4, [x0, x1, x2, x3], val B [x0, x1, x2, x3]⟩ :: S) := by
  subst hb; exact lit_4 h x0 x1 x2 x3 hd
theorem lit_5 (h : St w0 w S) (x0 x1 x2 x3 x4 : Int) (hd : Dg B [x0, x1, x2, x3, x4]) : St w0 (w.alloc (.cells #[.int .u64 x0, .int .u64 x1, .int .u64 x2, .int .u64 x3, .int .u64 x4] 24)) (⟨some ⟨w.heap.size, 0, none⟩, 5, 5, 5, [x0, x1, x2, x3, x4], val B [x0, x1, x2, x3, x4]⟩ :: S) :=
  h.lit [x0, x1, x2, x3, x4] hd (by simp)
theorem at_5 (h : St w0 w S) (x0 x1 x2 x3 x4 : Int) (hd : Dg B [x0, x1, x2, x3, x4]) {b : Nat} (hb : w.heap.size = b) : St w0 (w.alloc (.cells #[.int .u64 x0, .int .u64 x1, .int .u64 x2, .int .u64 x3, .int .u64 x4] 24)) (⟨some ⟨b, 0, none⟩, 5, 5, 5, [x0, x1, x2, x3, x4], val B [x0, x1, x2, x3, x4]⟩ :: S) := by
  subst hb; exact lit_5 h x0 x1 x2 x3 x4 hd
theorem lit_6 (h : St w0 w S) (x0 x1 x2 x3 x4 x5 : Int) (hd : Dg B [x0, x1, x2, x3, x4, x5]) : St w0 (w.alloc (.cells #[.int .u64 x0, .int .u64 x1, .int .u64 x2, .int .u64 x3, .int .u64 x4, .int .u64 x5] 24)) (⟨some ⟨w.heap.size, 0, none⟩, 6, 6, 6, [x0, x1, x2, x3, x4, x5], val B [x0, x1, x2, x3, x4, x5]⟩ :: S) :=
  h.lit [x0, x1, x2, x3, x4, x5] hd (by simp)
theorem at_6 (h : St w0 w S) (x0 x1 x2 x3 x4 x5 : Int) (hd : Dg B [x0, x1, x2, x3, x4, x5]) {b : Nat} (hb : w.heap.size = b) : St w0 (w.alloc (.cells #[.int .u64 x0, .int .u64 x1, .int .u64 x2, .int .u64 x3, .int .u64 x4, .int .u64 x5] 24)) (⟨some ⟨b, 0, none⟩, 6, 6, 6, [x0, x1, x2, x3, x4, x5], val B [x0, x1, x2, x3, x4, x5]⟩ :: S) := by
  subst hb; exact lit_6 h x0 x1 x2 x3 x4 x5 hd
theorem bit_is (h : St w0 w S) (h1 : (⟨A, n, c, k, xs, v⟩ : Ent) ∈ S) {q : Int} (h0 : 0 ≤ q) (hq : q ≤ 9223372036854775807) {b : Bool} (hb : (v / 2 ^ q.toNat % 2 == 1) = b) :
    Calls Try.prog 27 #[.slice A n c, .int .i64 q] w fun e w' => e = .returned (.bool b) ∧ St w0 w' S := by
  rw [← hb]; exact bit_s h h1 h0 hq
theorem cmp_gt (h : St w0 w S) (h1 : (⟨A, n, c, k, xs, v⟩ : Ent) ∈ S) (h2 : (⟨A', m, d, k', ys, u⟩ : Ent) ∈ S) (hk : k ≤ 1099511627776) (hk' : k' ≤ 1099511627776) (hv : u < v) :
    Calls Try.prog 24 #[.slice A n c, .slice A' m d] w fun e w' => e = .returned (.int .i64 1) ∧ St w0 w' S := by
  rw [← cmpI_gt hv]; exact cmp_s h h1 h2 hk hk'
theorem cmp_eq (h : St w0 w S) (h1 : (⟨A, n, c, k, xs, v⟩ : Ent) ∈ S) (h2 : (⟨A', m, d, k', ys, u⟩ : Ent) ∈ S) (hk : k ≤ 1099511627776) (hk' : k' ≤ 1099511627776) (hv : v = u) :
    Calls Try.prog 24 #[.slice A n c, .slice A' m d] w fun e w' => e = .returned (.int .i64 0) ∧ St w0 w' S := by
  rw [← cmpI_eq hv]; exact cmp_s h h1 h2 hk hk'
theorem len_is' (h : St w0 w S) (h1 : (⟨A, n, c, k, xs, v⟩ : Ent) ∈ S) (hk : k ≤ 1099511627776) {q : Int} (hq : W.len v = q) :
    Calls Try.prog 26 #[.slice A n c] w fun e w' => e = .returned (.int .i64 q) ∧ St w0 w' S := by
  rw [← hq]; exact len_s h h1 hk
/-- how many limbs there are -/
theorem St.count (h : St w0 w S) (h1 : (⟨A, n, c, k, xs, v⟩ : Ent) ∈ S) : xs.length = n := (h.get h1).1.len
theorem zero_len {v : Int} (h : v = 0) : (limbs v).length = 0 := by rw [h, limbs_zero]; rfl
end
/-- 2 to the power of 65536, not to be reckoned -/
def big : Int := 2 ^ 65536
theorem big_pos : 0 < big := W.pow_pos _
theorem big_len : (limbs big).length = 1025 := by
  have h0 : (0 : Int) ≤ big := Int.le_of_lt big_pos
  have h1 := (limbs_len_le h0 1025).2 (by
    rw [Q_two]; unfold big
    have e : (2 : Int) ^ (64 * 1025) = 2 ^ 65536 * 2 ^ 64 := by rw [← Int.pow_add]
    have := W.pow_pos 65536
    have h64 : (2 : Int) ^ 64 = 18446744073709551616 := by decide
    rw [e, h64]; omega)
  have h2 : ¬ (limbs big).length ≤ 1024 := by
    rw [limbs_len_le h0 1024, Q_two]; unfold big
    have e : (2 : Int) ^ (64 * 1024) = 2 ^ 65536 := rfl
    omega
  omega
theorem big_bits : W.len big = 65537 := by
  have := len_of' big 65537 (Int.le_of_lt big_pos) (by
    unfold big
    have e : (2 : Int) ^ 65537 = 2 ^ 65536 * 2 := Int.pow_succ ..
    have := W.pow_pos 65536
    rw [e]; omega) (.inr (by unfold big; exact Int.le_refl _))
  simpa using this
theorem big_div : big / big = 1 := Int.ediv_self (Int.ne_of_gt big_pos)
theorem big_half : big / 2 ^ 65535 = 2 := by
  unfold big
  have e : (2 : Int) ^ 65536 = 2 * 2 ^ 65535 := by rw [Int.mul_comm]; exact Int.pow_succ ..
  rw [e]
  exact Int.mul_ediv_cancel _ (Int.ne_of_gt (W.pow_pos _))
theorem pow_le_nat (a b : Nat) (h : a ≤ b) : (2 : Int) ^ a ≤ 2 ^ b := by
  rw [← W.cast_pow, ← W.cast_pow]; exact Int.ofNat_le.2 (Nat.pow_le_pow_right (by omega) h)
theorem big_beyond (n : Nat) (h : 65537 ≤ n) : big / 2 ^ n = 0 := by
  refine Int.ediv_eq_zero_of_lt (Int.le_of_lt big_pos) ?_
  have h1 := pow_le_nat 65537 n h
  have e : (2 : Int) ^ 65537 = 2 ^ 65536 * 2 := Int.pow_succ ..
  have := W.pow_pos 65536
  unfold big
  rw [e] at h1
  omega
section
variable {w0 w w' : World} {S : List Ent} {A A' : Option Addr} {n c m d k k' : Nat} {xs ys : List Int} {v u : Int}
theorem shl_big (h : St w0 w S) (h1 : (⟨A, n, c, k, xs, val B [1]⟩ : Ent) ∈ S) (hk : k ≤ 1099511627776) :
    Calls Try.prog 37 #[.slice A n c, .int .i64 65536] w fun e w' => ∃ A c, e = .returned (.tuple #[.slice A 1025 c, .int .i64 0]) ∧ St w0 w' (⟨A, 1025, c, k + 1025, limbs big, big⟩ :: S) := by
  refine (shl_s h h1 hk (q := 65536) (by omega) (by omega)).mono fun e w' hh => ?_
  obtain ⟨A, n, c, he, hs⟩ := hh
  have e1 : val B [1] * 2 ^ (65536 : Int).toNat = big := by
    show val B [1] * 2 ^ 65536 = big
    rw [show val B [1] = 1 by simp [val], Int.one_mul]; rfl
  rw [e1] at hs
  have hn := (hs.2 _ List.mem_cons_self).1.len
  rw [big_len] at hn
  subst hn
  exact ⟨A, c, he, hs⟩
theorem shr_big (h : St w0 w S) (h1 : (⟨A, n, c, k, xs, big⟩ : Ent) ∈ S) (hk : k ≤ 1099511627776) :
    Calls Try.prog 38 #[.slice A n c, .int .i64 65536] w fun e w' => ∃ A n c, e = .returned (.tuple #[.slice A n c, .int .i64 0]) ∧ St w0 w' (⟨A, n, c, k, limbs 1, 1⟩ :: S) := by
  refine (shr_s h h1 hk (q := 65536) (by omega) (by omega)).mono fun e w' hh => ?_
  have e1 : big / 2 ^ (65536 : Int).toNat = 1 := big_div
  rw [e1] at hh
  exact hh
theorem shr_half (h : St w0 w S) (h1 : (⟨A, n, c, k, xs, big⟩ : Ent) ∈ S) (hk : k ≤ 1099511627776) :
    Calls Try.prog 38 #[.slice A n c, .int .i64 65535] w fun e w' => ∃ A n c, e = .returned (.tuple #[.slice A n c, .int .i64 0]) ∧ St w0 w' (⟨A, n, c, k, limbs 2, 2⟩ :: S) := by
  refine (shr_s h h1 hk (q := 65535) (by omega) (by omega)).mono fun e w' hh => ?_
  have e1 : big / 2 ^ (65535 : Int).toNat = 2 := big_half
  rw [e1] at hh
  exact hh
theorem len_big (h : St w0 w S) (h1 : (⟨A, n, c, k, xs, big⟩ : Ent) ∈ S) (hk : k ≤ 1099511627776) :
    Calls Try.prog 26 #[.slice A n c] w fun e w' => e = .returned (.int .i64 65537) ∧ St w0 w' S := len_is' h h1 hk big_bits
theorem bit_big (h : St w0 w S) (h1 : (⟨A, n, c, k, xs, big⟩ : Ent) ∈ S) :
    Calls Try.prog 27 #[.slice A n c, .int .i64 65536] w fun e w' => e = .returned (.bool true) ∧ St w0 w' S :=
  bit_is h h1 (by omega) (by omega) (by
    have e1 : big / 2 ^ (65536 : Int).toNat = 1 := big_div
    rw [e1]; rfl)
theorem bit_half (h : St w0 w S) (h1 : (⟨A, n, c, k, xs, big⟩ : Ent) ∈ S) :
    Calls Try.prog 27 #[.slice A n c, .int .i64 65535] w fun e w' => e = .returned (.bool false) ∧ St w0 w' S :=
  bit_is h h1 (by omega) (by omega) (by
    have e1 : big / 2 ^ (65535 : Int).toNat = 2 := big_half
    rw [e1]; rfl)
theorem bit_far (h : St w0 w S) (h1 : (⟨A, n, c, k, xs, big⟩ : Ent) ∈ S) {q : Int} (hq : 65537 ≤ q) (hq' : q ≤ 9223372036854775807) :
    Calls Try.prog 27 #[.slice A n c, .int .i64 q] w fun e w' => e = .returned (.bool false) ∧ St w0 w' S :=
  bit_is h h1 (by omega) hq' (by rw [big_beyond _ (by omega)]; rfl)
/-- a difference, and a product, that is 0: no limbs -/
theorem sub_0 (h : St w0 w S) (h1 : (⟨A, n, c, k, xs, v⟩ : Ent) ∈ S) (h2 : (⟨A', m, d, k', ys, u⟩ : Ent) ∈ S) (hk : k ≤ 1099511627776) (hk' : k' ≤ 1099511627776) (he : v = u) :
    Calls Try.prog 32 #[.slice A n c, .slice A' m d] w fun e w' => ∃ A c, e = .returned (.tuple #[.slice A 0 c, .int .i64 0]) ∧ St w0 w' S := by
  refine (sub_s h h1 h2 hk hk' (by omega)).mono fun e w' hh => ?_
  obtain ⟨A, n, c, he', hs⟩ := hh
  have hn := (hs.2 _ List.mem_cons_self).1.len
  rw [zero_len (by omega)] at hn
  subst hn
  exact ⟨A, c, he', hs.1, fun t ht => hs.2 t (List.mem_cons_of_mem _ ht)⟩
theorem mul_0 (h : St w0 w S) (h1 : (⟨A, n, c, k, xs, v⟩ : Ent) ∈ S) (h2 : (⟨A', m, d, k', ys, u⟩ : Ent) ∈ S) (hk : k ≤ 1099511627776) (hk' : k' ≤ 1099511627776) (he : u = 0) :
    Calls Try.prog 36 #[.slice A n c, .slice A' m d] w fun e w' => ∃ A c, e = .returned (.slice A 0 c) ∧ St w0 w' S := by
  refine (mul_s h h1 h2 hk hk').mono fun e w' hh => ?_
  obtain ⟨A, n, c, he', hs⟩ := hh
  have hn := (hs.2 _ List.mem_cons_self).1.len
  rw [zero_len (by rw [he]; simp)] at hn
  subst hn
  exact ⟨A, c, he', hs.1, fun t ht => hs.2 t (List.mem_cons_of_mem _ ht)⟩
/-- a number of one limb, told -/
theorem small_is (h : St w0 w S) (h1 : (⟨A, n, c, k, xs, v⟩ : Ent) ∈ S) {q : Int} (hv : v = q) (hq : q < 18446744073709551616) :
    Calls Try.prog 14 #[.slice A n c] w fun e w' => e = .returned (.tuple #[.int .u64 q, .bool true]) ∧ St w0 w' S := by
  rw [← hv] at hq ⊢; exact small_s h h1 hq
end
set_option maxRecDepth 100000 in
set_option maxHeartbeats 4000000 in
theorem walk (w : World)  :
    Calls Try.prog 6 #[] w fun e w' => e = .returned (.bool true) ∧ Below w.heap.size w w' := by
  have hS0 := (St.nil_ w).zero
  have hS := Lib.hid hS0
  clear hS0
  go_enter Try.func6, Try.ntmps6
  go_wp2_with (first
      | (go_at_call 13; (with_reducible refine (awake_s hS.out ).mono ?_); rintro e w' ⟨rfl, h1⟩; clear hS; have hS := Lib.hid h1; clear h1)
      | (go_at_call 31; (with_reducible refine (add_s (at_1 (lit_4 hS.out 18446744073709551615 18446744073709551615 18446744073709551615 18446744073709551615 (by unfold Dg B; decide +kernel)) 1 (by unfold Dg B; decide +kernel) (World.size_alloc _ _)) (by repeat (first | exact List.mem_cons_self | apply List.mem_cons_of_mem)) (by repeat (first | exact List.mem_cons_self | apply List.mem_cons_of_mem)) (by omega) (by omega)).mono ?_); rintro e w' ⟨B1, m1, d1, rfl, h1⟩; clear hS; have hS := Lib.hid h1; clear h1)
      | (go_at_call 32; (with_reducible refine (sub_s (lit_1 hS.out 1 (by unfold Dg B; decide +kernel)) (by repeat (first | exact List.mem_cons_self | apply List.mem_cons_of_mem)) (by repeat (first | exact List.mem_cons_self | apply List.mem_cons_of_mem)) (by omega) (by omega) (by decide +kernel)).mono ?_); rintro e w' ⟨B2, m2, d2, rfl, h1⟩; clear hS; have hS := Lib.hid h1; clear h1)
      | (go_at_call 32; (with_reducible refine (sub_0 (lit_6 hS.out 18446744073709551615 18446744073709551615 18446744073709551615 18446744073709551615 0 0 (by unfold Dg B; decide +kernel)) (by repeat (first | exact List.mem_cons_self | apply List.mem_cons_of_mem)) (by repeat (first | exact List.mem_cons_self | apply List.mem_cons_of_mem)) (by omega) (by omega) (by decide +kernel)).mono ?_); rintro e w' ⟨B3, d3, rfl, h1⟩; clear hS; have hS := Lib.hid h1; clear h1)
      | (go_at_call 37; (with_reducible refine (shl_big (lit_1 hS.out 1 (by unfold Dg B; decide +kernel)) (by repeat (first | exact List.mem_cons_self | apply List.mem_cons_of_mem)) (by omega)).mono ?_); rintro e w' ⟨B4, d4, rfl, h1⟩; clear hS; have hS := Lib.hid h1; clear h1)
      | (go_at_call 38; (with_reducible refine (shr_big hS.out (by repeat (first | exact List.mem_cons_self | apply List.mem_cons_of_mem)) (by omega)).mono ?_); rintro e w' ⟨B5, m5, d5, rfl, h1⟩; clear hS; have hS := Lib.hid h1; clear h1)
      | (go_at_call 38; (with_reducible refine (shr_n hS.out (by repeat (first | exact List.mem_cons_self | apply List.mem_cons_of_mem)) (by omega)).mono ?_); rintro e w' ⟨rfl, h1⟩; clear hS; have hS := Lib.hid h1; clear h1)
      | (go_at_call 38; (with_reducible refine (shr_half hS.out (by repeat (first | exact List.mem_cons_self | apply List.mem_cons_of_mem)) (by omega)).mono ?_); rintro e w' ⟨B6, m6, d6, rfl, h1⟩; clear hS; have hS := Lib.hid h1; clear h1)
      | (go_at_call 14; (with_reducible refine (small_is (lit_3 hS.out 5 0 0 (by unfold Dg B; decide +kernel)) (by repeat (first | exact List.mem_cons_self | apply List.mem_cons_of_mem)) (q := 5) (by decide +kernel) (by omega)).mono ?_); rintro e w' ⟨rfl, h1⟩; clear hS; have hS := Lib.hid h1; clear h1)
      | (go_at_call 14; (with_reducible refine (small_n hS.out (by repeat (first | exact List.mem_cons_self | apply List.mem_cons_of_mem)) (by decide +kernel)).mono ?_); rintro e w' ⟨rfl, h1⟩; clear hS; have hS := Lib.hid h1; clear h1)
      | (go_at_call 14; (with_reducible refine (small_is hS.out (by repeat (first | exact List.mem_cons_self | apply List.mem_cons_of_mem)) (q := 0) (by first | rfl | decide +kernel) (by omega)).mono ?_); rintro e w' ⟨rfl, h1⟩; clear hS; have hS := Lib.hid h1; clear h1)
      | (go_at_call 18; (with_reducible refine (same_s (lit_5 hS.out 0 0 0 0 1 (by unfold Dg B; decide +kernel)) (by repeat (first | exact List.mem_cons_self | apply List.mem_cons_of_mem)) (by repeat (first | exact List.mem_cons_self | apply List.mem_cons_of_mem)) (by first | rfl | exact limbs_is _ (by decide +kernel) (by unfold Dg B; decide +kernel) (by decide +kernel))).mono ?_); rintro e w' ⟨rfl, h1⟩; clear hS; have hS := Lib.hid h1; clear h1)
      | (go_at_call 18; (with_reducible refine (same_s hS.out (by repeat (first | exact List.mem_cons_self | apply List.mem_cons_of_mem)) (by repeat (first | exact List.mem_cons_self | apply List.mem_cons_of_mem)) (by first | rfl | exact limbs_is _ (by decide +kernel) (by unfold Dg B; decide +kernel) (by decide +kernel))).mono ?_); rintro e w' ⟨rfl, h1⟩; clear hS; have hS := Lib.hid h1; clear h1)
      | (go_at_call 18; (with_reducible refine (same_s (lit_1 hS.out 1 (by unfold Dg B; decide +kernel)) (by repeat (first | exact List.mem_cons_self | apply List.mem_cons_of_mem)) (by repeat (first | exact List.mem_cons_self | apply List.mem_cons_of_mem)) (by first | rfl | exact limbs_is _ (by decide +kernel) (by unfold Dg B; decide +kernel) (by decide +kernel))).mono ?_); rintro e w' ⟨rfl, h1⟩; clear hS; have hS := Lib.hid h1; clear h1)
      | (go_at_call 18; (with_reducible refine (same_s (lit_1 hS.out 2 (by unfold Dg B; decide +kernel)) (by repeat (first | exact List.mem_cons_self | apply List.mem_cons_of_mem)) (by repeat (first | exact List.mem_cons_self | apply List.mem_cons_of_mem)) (by first | rfl | exact limbs_is _ (by decide +kernel) (by unfold Dg B; decide +kernel) (by decide +kernel))).mono ?_); rintro e w' ⟨rfl, h1⟩; clear hS; have hS := Lib.hid h1; clear h1)
      | (go_at_call 26; (with_reducible refine (len_big hS.out (by repeat (first | exact List.mem_cons_self | apply List.mem_cons_of_mem)) (by omega)).mono ?_); rintro e w' ⟨rfl, h1⟩; clear hS; have hS := Lib.hid h1; clear h1)
      | (go_at_call 27; (with_reducible refine (bit_big hS.out (by repeat (first | exact List.mem_cons_self | apply List.mem_cons_of_mem))).mono ?_); rintro e w' ⟨rfl, h1⟩; clear hS; have hS := Lib.hid h1; clear h1)
      | (go_at_call 27; (with_reducible refine (bit_half hS.out (by repeat (first | exact List.mem_cons_self | apply List.mem_cons_of_mem))).mono ?_); rintro e w' ⟨rfl, h1⟩; clear hS; have hS := Lib.hid h1; clear h1)
      | (go_at_call 27; (with_reducible refine (bit_n hS.out (by repeat (first | exact List.mem_cons_self | apply List.mem_cons_of_mem)) (by omega)).mono ?_); rintro e w' ⟨rfl, h1⟩; clear hS; have hS := Lib.hid h1; clear h1)
      | (go_at_call 27; (with_reducible refine (bit_far hS.out (by repeat (first | exact List.mem_cons_self | apply List.mem_cons_of_mem)) (by omega) (by omega)).mono ?_); rintro e w' ⟨rfl, h1⟩; clear hS; have hS := Lib.hid h1; clear h1)
      | (go_at_call 22; (with_reducible refine (zero_s hS.out (by repeat (first | exact List.mem_cons_self | apply List.mem_cons_of_mem)) (by first | rfl | decide +kernel)).mono ?_); rintro e w' ⟨rfl, h1⟩; clear hS; have hS := Lib.hid h1; clear h1)
      | (go_at_call 22; (with_reducible refine (zero_s (lit_2 hS.out 0 0 (by unfold Dg B; decide +kernel)) (by repeat (first | exact List.mem_cons_self | apply List.mem_cons_of_mem)) (by decide +kernel)).mono ?_); rintro e w' ⟨rfl, h1⟩; clear hS; have hS := Lib.hid h1; clear h1)
      | (go_at_call 22; (with_reducible refine (zero_n (lit_2 hS.out 0 1 (by unfold Dg B; decide +kernel)) (by repeat (first | exact List.mem_cons_self | apply List.mem_cons_of_mem)) (by decide +kernel)).mono ?_); rintro e w' ⟨rfl, h1⟩; clear hS; have hS := Lib.hid h1; clear h1)
      | (go_at_call 24; (with_reducible refine (cmp_gt (at_1 (lit_2 hS.out 0 1 (by unfold Dg B; decide +kernel)) 18446744073709551615 (by unfold Dg B; decide +kernel) (World.size_alloc _ _)) (by repeat (first | exact List.mem_cons_self | apply List.mem_cons_of_mem)) (by repeat (first | exact List.mem_cons_self | apply List.mem_cons_of_mem)) (by omega) (by omega) (by decide +kernel)).mono ?_); rintro e w' ⟨rfl, h1⟩; clear hS; have hS := Lib.hid h1; clear h1)
      | (go_at_call 24; (with_reducible refine (cmp_eq (at_1 (lit_2 hS.out 3 0 (by unfold Dg B; decide +kernel)) 3 (by unfold Dg B; decide +kernel) (World.size_alloc _ _)) (by repeat (first | exact List.mem_cons_self | apply List.mem_cons_of_mem)) (by repeat (first | exact List.mem_cons_self | apply List.mem_cons_of_mem)) (by omega) (by omega) (by decide +kernel)).mono ?_); rintro e w' ⟨rfl, h1⟩; clear hS; have hS := Lib.hid h1; clear h1)
      | (go_at_call 36; (with_reducible refine (mul_0 (lit_1 hS.out 0 (by unfold Dg B; decide +kernel)) (by repeat (first | exact List.mem_cons_self | apply List.mem_cons_of_mem)) (by repeat (first | exact List.mem_cons_self | apply List.mem_cons_of_mem)) (by omega) (by omega) (by decide +kernel)).mono ?_); rintro e w' ⟨B7, d7, rfl, h1⟩; clear hS; have hS := Lib.hid h1; clear h1))
  go_ret
  exact ⟨rfl, hS.out.1⟩
set_option maxRecDepth 100000 in
theorem lifted (os : Os) (started : os.Started) (H : Type) (enc : TypeId × Value → H) :
    ReturnsInHanded {} Try.checked os 6 .any (Rows.natNamesSpec.pre6 enc Try.prog Try.f6 Rows.natNamesRow.domain false) (Rows.natNamesSpec.post enc Try.prog Try.f6 false true false false) := by
  refine returnsInHanded_of_change (C := Try.checked) own started (by kernel_rfl) Try.func6
    (ChangeSpec.witness6 (enc := enc) (C := Try.checked) false ⟨#[], #[], []⟩ 8 (by kernel_rfl) (by kernel_rfl) (by kernel_rfl) (by kernel_rfl)) ?_
  intro W base args ds gs before hval0 hW hcnd _
  have hval : ∀ (j : Nat) t v, Try.f6.params[j]? = some t → args[j]? = some v → Value.okWide Try.prog W .any base t v := hval0
  have hW' := hW
  obtain ⟨p, q, hA0, hV, hpq, hfz, hnd⟩ := hW
  have hA : DataW.TrodAll enc Try.prog W 0 (fun _ => true) true Try.f6.params.toList args.toList ds p := hA0
  rw [Try.params6] at hA hval
  obtain ⟨hargs, rfl, rfl⟩ := trodAll_nil hA
  obtain rfl : args = #[] := by cases args; simp_all
  obtain ⟨rfl, rfl⟩ := trodVars_none hV
  refine (walk W ).mono fun e W' ⟨he, hb⟩ => ?_
  subst he
  exact ⟨_, rfl, Frame.close laidOut hW' rfl rfl rfl Try.underlying4 (fun t ht => by rw [Try.params6] at ht; cases ht) hb⟩
theorem over : Rows.natNamesRow.holds Try.pinned (OpenSpec.ofChange Rows.natNamesSpec) :=
  OpenClaim.holds_of_wide 6 Try.f6 rfl rfl rfl rfl rfl rfl rfl ⟨rfl, rfl, rfl, rfl, rfl⟩ rfl rfl rfl rfl rfl (by kernel_rfl) Try.func6 (by kernel_rfl)
    (of_decide_eq_true (by kernel_rfl)) (by unfold Func.isWrapper; first | (rw [if_pos (by decide +kernel)]; kernel_rfl) | (rw [if_neg (by decide +kernel)]; exact ⟨rfl, rfl⟩))
    (fun os started H enc _ => lifted os started H enc)
/-- the statement -/
theorem proved : Rows.NatNamesSaid :=
  over
#print axioms proved
end Go.Proofs.Ytahokobifikcdaa.natNames
