/- What is known of the naturals that a statement has at hand, carried from call to call. -/
import Derived.Test.YtbadbjmhmadbmaaDoorNatSame
import Derived.Test.YtbadbjmhmadbmaaDoorNatAdd
import Derived.Test.YtbadbjmhmadbmaaDoorNatSub
import Derived.Test.YtbadbjmhmadbmaaDoorNatMul
import Derived.Test.YtbadbjmhmadbmaaDoorNatShl
namespace Go.Proofs.YtbadbjmhmadbmaaDoor
open Go.RowKit
set_option linter.unusedVariables false
set_option maxRecDepth 20000
open N
/-- a natural at hand: its slice value, how many limbs it has at most, its limbs, its value -/
structure Ent where
  A : Option Addr
  n : Nat
  c : Nat
  k : Nat
  xs : List Int
  v : Int
def Ok (w : World) (t : Ent) : Prop := Sl w t.A t.n t.c t.xs ∧ t.n ≤ t.k ∧ val B t.xs = t.v
/-- since w0 nothing of what was there has turned, and each natural at hand reads as it did -/
def St (w0 w : World) (S : List Ent) : Prop := Below w0.heap.size w0 w ∧ ∀ t ∈ S, Ok w t
section
variable {w0 w w' : World} {S : List Ent}
theorem St.below (h : St w0 w S) (hb : Below w.heap.size w w') : St w0 w' S := ⟨h.1.trans (hb.mono h.1.size), fun t ht => ⟨(h.2 t ht).1.below hb, (h.2 t ht).2⟩⟩
theorem St.alloc (h : St w0 w S) (o : Obj) : St w0 (w.alloc o) S := h.below ((Below.refl _ _).alloc (Nat.le_refl _) _)
theorem St.drewN (h : St w0 w S) (k : Nat) : St w0 (w.drewN k) S := h.below ⟨rfl, rfl, rfl, Nat.le_refl _, fun _ _ => rfl⟩
theorem St.drew (h : St w0 w S) : St w0 w.drew S := h.below ⟨rfl, rfl, rfl, Nat.le_refl _, fun _ _ => rfl⟩
theorem St.get (h : St w0 w S) {A : Option Addr} {n c k : Nat} {xs : List Int} {v : Int} (hm : (⟨A, n, c, k, xs, v⟩ : Ent) ∈ S) : Sl w A n c xs ∧ n ≤ k ∧ val B xs = v := h.2 _ hm
theorem St.cons (h : St w0 w S) {A : Option Addr} {n c k : Nat} {xs : List Int} {v : Int} (h1 : Sl w A n c xs) (h2 : n ≤ k) (h3 : val B xs = v) : St w0 w (⟨A, n, c, k, xs, v⟩ :: S) :=
  ⟨h.1, fun t ht => by
    rcases List.mem_cons.1 ht with e | e
    · subst e; exact ⟨h1, h2, h3⟩
    · exact h.2 t e⟩
theorem St.nil_ (w : World) : St w w [] := ⟨Below.refl _ _, fun t ht => by cases ht⟩
theorem St.zero (h : St w0 w S) : St w0 w (⟨none, 0, 0, 0, [], 0⟩ :: S) := h.cons Sl.none (Nat.le_refl _) rfl
/-- a literal natural, just made -/
theorem St.lit (h : St w0 w S) (xs : List Int) (hd : Dg B xs) (hl : xs.length ≤ 1000) : St w0 (w.alloc (.cells (uv xs).toArray 33)) (⟨some ⟨w.heap.size, 0, none⟩, xs.length, xs.length, xs.length, xs, val B xs⟩ :: S) :=
  (h.alloc _).cons (Sl.lit w xs _ xs.length rfl hd rfl (by omega)) (Nat.le_refl _) rfl
theorem St.out (h : St w0 w S) {m : Nat} {r : Int} {e : Ending} (hr : 0 ≤ r) (ho : Out w m r e w') : ∃ A n c, e = .returned (.slice A n c) ∧ St w0 w' (⟨A, n, c, m, limbs r, r⟩ :: S) := by
  obtain ⟨A, n, c, he, hn, hown, hb⟩ := ho
  exact ⟨A, n, c, he, (h.below hb).cons hown.sl hn (limbs_val hr)⟩
theorem St.out2 (h : St w0 w S) {m : Nat} {r q : Int} {e : Ending} (hr : 0 ≤ r) (ho : Out2 w m r q e w') : ∃ A n c, e = .returned (.tuple #[.slice A n c, .int .i64 q]) ∧ St w0 w' (⟨A, n, c, m, limbs r, r⟩ :: S) := by
  obtain ⟨A, n, c, he, hn, hown, hb⟩ := ho
  exact ⟨A, n, c, he, (h.below hb).cons hown.sl hn (limbs_val hr)⟩
theorem Ok.nonneg {t : Ent} (h : Ok w t) : 0 ≤ t.v := by rw [← h.2.2]; exact val_nonneg (by decide) h.1.dg
variable {A A' : Option Addr} {n c m d k k' : Nat} {xs ys : List Int} {v u : Int}
theorem add_s (h : St w0 w S) (h1 : (⟨A, n, c, k, xs, v⟩ : Ent) ∈ S) (h2 : (⟨A', m, d, k', ys, u⟩ : Ent) ∈ S) (hk : k ≤ 1099511627776) (hk' : k' ≤ 1099511627776) :
    Calls Tryd.prog 26 #[.slice A n c, .slice A' m d] w fun e w' => ∃ A n c, e = .returned (.slice A n c) ∧ St w0 w' (⟨A, n, c, k + k' + 1, limbs (v + u), v + u⟩ :: S) := by
  obtain ⟨a1, a2, rfl⟩ := h.get h1
  obtain ⟨b1, b2, rfl⟩ := h.get h2
  refine (nadd_any w A A' n c m d xs ys a1 b1 (by omega) (by omega)).mono fun e w' ho => ?_
  obtain ⟨A, n, c, he, hn, hown, hb⟩ := ho
  exact h.out (by have := val_nonneg (b := B) (by decide) a1.dg; have := val_nonneg (b := B) (by decide) b1.dg; omega) ⟨A, n, c, he, by omega, hown, hb⟩
theorem mul_s (h : St w0 w S) (h1 : (⟨A, n, c, k, xs, v⟩ : Ent) ∈ S) (h2 : (⟨A', m, d, k', ys, u⟩ : Ent) ∈ S) (hk : k ≤ 1099511627776) (hk' : k' ≤ 1099511627776) :
    Calls Tryd.prog 27 #[.slice A n c, .slice A' m d] w fun e w' => ∃ A n c, e = .returned (.slice A n c) ∧ St w0 w' (⟨A, n, c, k + k', limbs (v * u), v * u⟩ :: S) := by
  obtain ⟨a1, a2, rfl⟩ := h.get h1
  obtain ⟨b1, b2, rfl⟩ := h.get h2
  refine (nmul_any w A A' n c m d xs ys a1 b1 (by omega) (by omega)).mono fun e w' ho => ?_
  obtain ⟨A, n, c, he, hn, hown, hb⟩ := ho
  exact h.out (Int.mul_nonneg (val_nonneg (b := B) (by decide) a1.dg) (val_nonneg (b := B) (by decide) b1.dg)) ⟨A, n, c, he, by omega, hown, hb⟩
theorem trim_s (h : St w0 w S) (h1 : (⟨A, n, c, k, xs, v⟩ : Ent) ∈ S) (hk : k ≤ 1099511627776) :
    Calls Tryd.prog 24 #[.slice A n c] w fun e w' => ∃ A n c, e = .returned (.slice A n c) ∧ St w0 w' (⟨A, n, c, k, limbs v, v⟩ :: S) := by
  obtain ⟨a1, a2, rfl⟩ := h.get h1
  refine (trim_any w A n c xs a1 (by omega)).mono fun e w' ho => ?_
  obtain ⟨A, n, c, he, hn, hown, hb⟩ := ho
  exact h.out (val_nonneg (b := B) (by decide) a1.dg) ⟨A, n, c, he, by omega, hown, hb⟩
theorem cmp_s (h : St w0 w S) (h1 : (⟨A, n, c, k, xs, v⟩ : Ent) ∈ S) (h2 : (⟨A', m, d, k', ys, u⟩ : Ent) ∈ S) (hk : k ≤ 1099511627776) (hk' : k' ≤ 1099511627776) :
    Calls Tryd.prog 28 #[.slice A n c, .slice A' m d] w fun e w' => e = .returned (.int .i64 (cmpI v u)) ∧ St w0 w' S := by
  obtain ⟨a1, a2, rfl⟩ := h.get h1
  obtain ⟨b1, b2, rfl⟩ := h.get h2
  exact (ncmp_any w A A' n c m d xs ys a1 b1 (by omega) (by omega)).mono fun e w' ⟨he, hb⟩ => ⟨he, h.below hb⟩
theorem len_s (h : St w0 w S) (h1 : (⟨A, n, c, k, xs, v⟩ : Ent) ∈ S) (hk : k ≤ 1099511627776) :
    Calls Tryd.prog 65 #[.slice A n c] w fun e w' => e = .returned (.int .i64 (W.len v)) ∧ St w0 w' S := by
  obtain ⟨a1, a2, rfl⟩ := h.get h1
  exact (nlen_any w A n c xs a1 (by omega)).mono fun e w' ⟨he, hb⟩ => ⟨he, by rw [hb]; exact h⟩
theorem zero_s (h : St w0 w S) (h1 : (⟨A, n, c, k, xs, v⟩ : Ent) ∈ S) (hv : v = 0) :
    Calls Tryd.prog 25 #[.slice A n c] w fun e w' => e = .returned (.bool true) ∧ St w0 w' S := by
  obtain ⟨a1, a2, rfl⟩ := h.get h1
  exact (zero_yes w A n c xs a1 hv).mono fun e w' ⟨he, hb⟩ => ⟨he, by rw [hb]; exact h⟩
theorem zero_n (h : St w0 w S) (h1 : (⟨A, n, c, k, xs, v⟩ : Ent) ∈ S) (hv : 0 < v) :
    Calls Tryd.prog 25 #[.slice A n c] w fun e w' => e = .returned (.bool false) ∧ St w0 w' S := by
  obtain ⟨a1, a2, rfl⟩ := h.get h1
  exact (zero_no w A n c xs a1 hv).mono fun e w' ⟨he, hb⟩ => ⟨he, by rw [hb]; exact h⟩
theorem same_s (h : St w0 w S) (h1 : (⟨A, n, c, k, xs, v⟩ : Ent) ∈ S) (h2 : (⟨A', m, d, k', ys, u⟩ : Ent) ∈ S) (he : xs = ys) :
    Calls Tryd.prog 20 #[.slice A n c, .slice A' m d] w fun e w' => e = .returned (.bool true) ∧ St w0 w' S := by
  obtain ⟨a1, a2, _⟩ := h.get h1
  obtain ⟨b1, b2, _⟩ := h.get h2
  refine (same_any w A A' n c m d xs ys a1 b1).mono fun e w' ⟨h1, q, h2⟩ => ⟨?_, by rw [h2]; exact h.drewN q⟩
  rw [h1, decide_eq_true he]
theorem same_n (h : St w0 w S) (h1 : (⟨A, n, c, k, xs, v⟩ : Ent) ∈ S) (h2 : (⟨A', m, d, k', ys, u⟩ : Ent) ∈ S) (he : v ≠ u) :
    Calls Tryd.prog 20 #[.slice A n c, .slice A' m d] w fun e w' => e = .returned (.bool false) ∧ St w0 w' S := by
  obtain ⟨a1, a2, a3⟩ := h.get h1
  obtain ⟨b1, b2, b3⟩ := h.get h2
  refine (same_any w A A' n c m d xs ys a1 b1).mono fun e w' ⟨h1, q, h2⟩ => ⟨?_, by rw [h2]; exact h.drewN q⟩
  rw [h1, decide_eq_false (fun e => he (by rw [← a3, ← b3, e]))]
theorem small_s (h : St w0 w S) (h1 : (⟨A, n, c, k, xs, v⟩ : Ent) ∈ S) (hv : v < 18446744073709551616) :
    Calls Tryd.prog 21 #[.slice A n c] w fun e w' => e = .returned (.tuple #[.int .u64 v, .bool true]) ∧ St w0 w' S := by
  obtain ⟨a1, a2, rfl⟩ := h.get h1
  exact (small_yes w A n c xs a1 hv).mono fun e w' ⟨he, hb⟩ => ⟨he, by rw [hb]; exact h⟩
theorem small_n (h : St w0 w S) (h1 : (⟨A, n, c, k, xs, v⟩ : Ent) ∈ S) (hv : 18446744073709551616 ≤ v) :
    Calls Tryd.prog 21 #[.slice A n c] w fun e w' => e = .returned (.tuple #[.int .u64 0, .bool false]) ∧ St w0 w' S := by
  obtain ⟨a1, a2, rfl⟩ := h.get h1
  exact (small_no w A n c xs a1 hv).mono fun e w' ⟨he, hb⟩ => ⟨he, by rw [hb]; exact h⟩
theorem of_s (h : St w0 w S) {x : Int} (hx : W.Wd x) :
    Calls Tryd.prog 29 #[.int .u64 x] w fun e w' => ∃ A n c, e = .returned (.slice A n c) ∧ St w0 w' (⟨A, n, c, 1, limbs x, x⟩ :: S) :=
  (of_any w x hx).mono fun e w' ho => h.out hx.1 ho
end
end Go.Proofs.YtbadbjmhmadbmaaDoor
