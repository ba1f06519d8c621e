/- Division, common divisors, powers over what a statement has at hand; the statements' own helpers. -/
import Derived.Test.YtbjhfnkdflnnoaaNatState
import Derived.Test.YtbjhfnkdflnnoaaNatAwake
import Derived.Test.YtbjhfnkdflnnoaaQuoDivC
import Derived.Test.YtbjhfnkdflnnoaaQuoGcd
import Derived.Test.YtbjhfnkdflnnoaaQuoPow
import Derived.Test.YtbjhfnkdflnnoaaQuoSame
namespace Go.Proofs.Ytbjhfnkdflnnoaa
open Go.RowKit
set_option linter.unusedVariables false
open N
section
variable {w0 w w' : World} {S : List Ent} {A A' : Option Addr} {n c m d k k' : Nat} {xs ys : List Int} {v u : Int}
theorem div_s (h : St w0 w S) (h1 : (⟨A, n, c, k, xs, v⟩ : Ent) ∈ S) (h2 : (⟨A', m, d, k', ys, u⟩ : Ent) ∈ S) (hk : k ≤ 1099511627775) (hk' : k' ≤ 1099511627775) (hu : 0 < u) :
    Calls Try.prog 15 #[.slice A n c, .slice A' m d] w fun e w' => ∃ A n c A' n' c', e = .returned (.tuple #[.slice A n c, .slice A' n' c', .int .i64 0]) ∧
      St w0 w' (⟨A', n', c', k, limbs (v % u), v % u⟩ :: ⟨A, n, c, k, limbs (v / u), v / u⟩ :: S) := by
  obtain ⟨a1, a2, rfl⟩ := h.get h1
  obtain ⟨b1, b2, rfl⟩ := h.get h2
  refine (qdiv_any w A A' n c m d xs ys a1 b1 (by omega) (by omega) hu).mono fun e w' ho => ?_
  obtain ⟨A, n, c, A', n', c', he, hn, hn', hq, hr, _, hb⟩ := ho
  have hv := val_nonneg (b := B) (by decide) a1.dg
  exact ⟨A, n, c, A', n', c', he, ((h.below hb).cons hq.sl (by omega) (limbs_val (Int.ediv_nonneg hv (by omega)))).cons hr.sl (by omega) (limbs_val (Int.emod_nonneg _ (by omega)))⟩
theorem div_z (h : St w0 w S) (h1 : (⟨A, n, c, k, xs, v⟩ : Ent) ∈ S) (h2 : (⟨A', m, d, k', ys, u⟩ : Ent) ∈ S) (hk : k ≤ 1099511627775) (hk' : k' ≤ 1099511627775) (hu : u = 0) :
    Calls Try.prog 15 #[.slice A n c, .slice A' m d] w fun e w' => e = .returned (.tuple #[.slice none 0 0, .slice none 0 0, .int .i64 7]) ∧ St w0 w' S := by
  obtain ⟨a1, a2, rfl⟩ := h.get h1
  obtain ⟨b1, b2, rfl⟩ := h.get h2
  exact (qdiv_zero w A A' n c m d xs ys a1 b1 (by omega) (by omega) hu).mono fun e w' ⟨he, hb⟩ => ⟨he, by rw [hb]; exact h⟩
theorem gcd_s (h : St w0 w S) (h1 : (⟨A, n, c, k, xs, v⟩ : Ent) ∈ S) (h2 : (⟨A', m, d, k', ys, u⟩ : Ent) ∈ S) (hk : k + k' ≤ 1099511627775) :
    Calls Try.prog 19 #[.slice A n c, .slice A' m d] w fun e w' => ∃ A n c, e = .returned (.slice A n c) ∧ St w0 w' (⟨A, n, c, k + k', limbs (gI v u), gI v u⟩ :: S) := by
  obtain ⟨a1, a2, rfl⟩ := h.get h1
  obtain ⟨b1, b2, rfl⟩ := h.get h2
  refine (qgcd_any w A A' n c m d (k + k') xs ys a1 b1 (by omega) (by omega) (by omega)).mono fun e w' ho => ?_
  obtain ⟨A, n, c, he, hn, hown, hb⟩ := ho
  exact h.out (gI_nonneg _ _) ⟨A, n, c, he, by omega, hown, hb⟩
theorem pow_s (h : St w0 w S) (h1 : (⟨A, n, c, k, xs, v⟩ : Ent) ∈ S) (hk : k ≤ 1099511627775) {q : Nat} (hq : q ≤ 9223372036854775807) (hok : PowOk v q) :
    Calls Try.prog 22 #[.slice A n c, .int .i64 q] w fun e w' => ∃ A n c, e = .returned (.tuple #[.slice A n c, .int .i64 0]) ∧ St w0 w' (⟨A, n, c, 16385, limbs (v ^ q), v ^ q⟩ :: S) := by
  obtain ⟨a1, a2, rfl⟩ := h.get h1
  refine (qpow_any w A n c xs a1 (by omega) q hq hok).mono fun e w' ho => ?_
  exact h.out2 (Int.pow_nonneg (val_nonneg (b := B) (by decide) a1.dg)) ho
theorem pow_i (h : St w0 w S) (h1 : (⟨A, n, c, k, xs, v⟩ : Ent) ∈ S) (hk : k ≤ 1099511627775) {q : Int} (h0 : 0 ≤ q) (hq : q ≤ 9223372036854775807) (hok : PowOk v q.toNat) :
    Calls Try.prog 22 #[.slice A n c, .int .i64 q] w fun e w' => ∃ A n c, e = .returned (.tuple #[.slice A n c, .int .i64 0]) ∧ St w0 w' (⟨A, n, c, 16385, limbs (v ^ q.toNat), v ^ q.toNat⟩ :: S) := by
  obtain ⟨q, rfl⟩ := Int.eq_ofNat_of_zero_le h0
  rw [Int.toNat_natCast] at hok ⊢
  exact pow_s h h1 hk (by omega) hok
theorem qsame_s (h : St w0 w S) (h1 : (⟨A, n, c, k, xs, v⟩ : Ent) ∈ S) (h2 : (⟨A', m, d, k', ys, u⟩ : Ent) ∈ S) (he : xs = ys) :
    Calls Try.prog 16 #[.slice A n c, .slice A' m d] w fun e w' => e = .returned (.bool true) ∧ St w0 w' S := by
  obtain ⟨a1, a2, _⟩ := h.get h1
  obtain ⟨b1, b2, _⟩ := h.get h2
  refine (qsame_any w A A' n c m d xs ys a1 b1).mono fun e w' ⟨h1, q, h2⟩ => ⟨?_, by rw [h2]; exact h.drewN q⟩
  rw [h1, decide_eq_true he]
theorem qlong2_n (h : St w0 w S) (A A' : Option Addr) (n c m d : Nat) (hn : n ≤ 12) (hm : m ≤ 12) :
    Calls Try.prog 12 #[.slice (some ⟨w.heap.size, 0, none⟩) 2 2] (w.alloc (.cells #[.slice A n c, .slice A' m d] 23)) fun e w' => e = .returned (.bool false) ∧ St w0 w' S :=
  (qlong_no _ w.heap.size [(A, n, c), (A', m, d)] (nats_lit w _ _ rfl) (by simp) (by simp; omega)).mono fun e w' ⟨he, hb⟩ => ⟨he, by rw [hb]; exact h.alloc _⟩
theorem qlong2_y (h : St w0 w S) (A A' : Option Addr) (n c m d : Nat) (hx : n ≤ 9223372036854775807) (hy : m ≤ 9223372036854775807) (hl : ¬ (n ≤ 12 ∧ m ≤ 12)) :
    Calls Try.prog 12 #[.slice (some ⟨w.heap.size, 0, none⟩) 2 2] (w.alloc (.cells #[.slice A n c, .slice A' m d] 23)) fun e w' => e = .returned (.bool true) ∧ St w0 w' S :=
  (qlong_yes _ w.heap.size [(A, n, c), (A', m, d)] (nats_lit w _ _ rfl) (by simp) (by simp; omega) (by simp; omega)).mono fun e w' ⟨he, hb⟩ => ⟨he, by rw [hb]; exact h.alloc _⟩
theorem qlong3_n (h : St w0 w S) (A A' A3 : Option Addr) (n c m d p q : Nat) (hn : n ≤ 12) (hm : m ≤ 12) (hp : p ≤ 12) :
    Calls Try.prog 12 #[.slice (some ⟨w.heap.size, 0, none⟩) 3 3] (w.alloc (.cells #[.slice A n c, .slice A' m d, .slice A3 p q] 23)) fun e w' => e = .returned (.bool false) ∧ St w0 w' S :=
  (qlong_no _ w.heap.size [(A, n, c), (A', m, d), (A3, p, q)] (nats_lit w _ _ rfl) (by simp) (by simp; omega)).mono fun e w' ⟨he, hb⟩ => ⟨he, by rw [hb]; exact h.alloc _⟩
theorem qlong3_y (h : St w0 w S) (A A' A3 : Option Addr) (n c m d p q : Nat) (hx : n ≤ 9223372036854775807) (hy : m ≤ 9223372036854775807) (hz : p ≤ 9223372036854775807) (hl : ¬ (n ≤ 12 ∧ m ≤ 12 ∧ p ≤ 12)) :
    Calls Try.prog 12 #[.slice (some ⟨w.heap.size, 0, none⟩) 3 3] (w.alloc (.cells #[.slice A n c, .slice A' m d, .slice A3 p q] 23)) fun e w' => e = .returned (.bool true) ∧ St w0 w' S :=
  (qlong_yes _ w.heap.size [(A, n, c), (A', m, d), (A3, p, q)] (nats_lit w _ _ rfl) (by simp) (by simp; omega) (by simp; omega)).mono fun e w' ⟨he, hb⟩ => ⟨he, by rw [hb]; exact h.alloc _⟩
theorem qlong1_n (h : St w0 w S) (A : Option Addr) (n c : Nat) (hn : n ≤ 12) :
    Calls Try.prog 12 #[.slice (some ⟨w.heap.size, 0, none⟩) 1 1] (w.alloc (.cells #[.slice A n c] 23)) fun e w' => e = .returned (.bool false) ∧ St w0 w' S :=
  (qlong_no _ w.heap.size [(A, n, c)] (nats_lit w _ _ rfl) (by simp) (by simp; omega)).mono fun e w' ⟨he, hb⟩ => ⟨he, by rw [hb]; exact h.alloc _⟩
theorem qlong1_y (h : St w0 w S) (A : Option Addr) (n c : Nat) (hx : n ≤ 9223372036854775807) (hl : ¬ n ≤ 12) :
    Calls Try.prog 12 #[.slice (some ⟨w.heap.size, 0, none⟩) 1 1] (w.alloc (.cells #[.slice A n c] 23)) fun e w' => e = .returned (.bool true) ∧ St w0 w' S :=
  (qlong_yes _ w.heap.size [(A, n, c)] (nats_lit w _ _ rfl) (by simp) (by simp; omega) (by simp; omega)).mono fun e w' ⟨he, hb⟩ => ⟨he, by rw [hb]; exact h.alloc _⟩
/-- two literals of one statement -/
theorem St.two (h : St w0 w S) (xs ys : List Int) (hx : Dg B xs) (hy : Dg B ys) (hl : xs.length ≤ 1000) (hl' : ys.length ≤ 1000) {n m : Nat} (hn : xs.length = n) (hm : ys.length = m) {v u : Int} (hv : val B xs = v) (hu : val B ys = u) :
    St w0 ((w.alloc (.cells (uv xs).toArray 40)).alloc (.cells (uv ys).toArray 40)) (⟨some ⟨w.heap.size + 1, 0, none⟩, m, m, m, ys, u⟩ :: ⟨some ⟨w.heap.size, 0, none⟩, n, n, n, xs, v⟩ :: S) := by
  have h1 := (h.lit xs hx hl).lit ys hy hl'
  rw [World.size_alloc, hn, hm, hv, hu] at h1
  exact h1
theorem St.lit11 (h : St w0 w S) (x y : Int) (hx : 0 ≤ x ∧ x < 18446744073709551616) (hy : 0 ≤ y ∧ y < 18446744073709551616) :
    St w0 ((w.alloc (.cells #[.int .u64 x] 40)).alloc (.cells #[.int .u64 y] 40)) (⟨some ⟨w.heap.size + 1, 0, none⟩, 1, 1, 1, [y], y⟩ :: ⟨some ⟨w.heap.size, 0, none⟩, 1, 1, 1, [x], x⟩ :: S) :=
  h.two [x] [y] (Dg.one hx.1 hx.2) (Dg.one hy.1 hy.2) (by simp) (by simp) rfl rfl (by simp [val]) (by simp [val])
theorem St.lit21 (h : St w0 w S) (x z y : Int) (hx : 0 ≤ x ∧ x < 18446744073709551616) (hz : 0 ≤ z ∧ z < 18446744073709551616) (hy : 0 ≤ y ∧ y < 18446744073709551616) :
    St w0 ((w.alloc (.cells #[.int .u64 x, .int .u64 z] 40)).alloc (.cells #[.int .u64 y] 40)) (⟨some ⟨w.heap.size + 1, 0, none⟩, 1, 1, 1, [y], y⟩ :: ⟨some ⟨w.heap.size, 0, none⟩, 2, 2, 2, [x, z], x + 18446744073709551616 * z⟩ :: S) :=
  h.two [x, z] [y] (Dg.cons hx.1 hx.2 (Dg.one hz.1 hz.2)) (Dg.one hy.1 hy.2) (by simp) (by simp) rfl rfl (by simp [val]) (by simp [val])
end
end Go.Proofs.Ytbjhfnkdflnnoaa
