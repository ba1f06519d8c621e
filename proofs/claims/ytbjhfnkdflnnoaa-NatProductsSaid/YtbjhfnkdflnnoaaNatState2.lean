/- The same for shifts to the right. -/
import Derived.Test.YtbjhfnkdflnnoaaNatState
import Derived.Test.YtbjhfnkdflnnoaaNatShr
namespace Go.Proofs.Ytbjhfnkdflnnoaa
open Go.RowKit
set_option linter.unusedVariables false
open N
section
variable {w0 w w' : World} {S : List Ent} {A A' : Option Addr} {n c m d k k' : Nat} {xs ys : List Int} {v u : Int}
theorem shr_s (h : St w0 w S) (h1 : (⟨A, n, c, k, xs, v⟩ : Ent) ∈ S) (hk : k ≤ 1099511627776) {q : Int} (h0 : 0 ≤ q) (hq : q ≤ 65536) :
    Calls Try.prog 34 #[.slice A n c, .int .i64 q] w fun e w' => ∃ A n c, e = .returned (.tuple #[.slice A n c, .int .i64 0]) ∧ St w0 w' (⟨A, n, c, k, limbs (v / 2 ^ q.toNat), v / 2 ^ q.toNat⟩ :: S) := by
  obtain ⟨a1, a2, rfl⟩ := h.get h1
  refine (nshr_any w A n c xs a1 (by omega) q h0 hq).mono fun e w' ho => ?_
  obtain ⟨A, n, c, he, hn, hown, hb⟩ := ho
  exact h.out2 (Int.ediv_nonneg (val_nonneg (b := B) (by decide) a1.dg) (Int.le_of_lt (W.pow_pos _))) ⟨A, n, c, he, by omega, hown, hb⟩
theorem shr_n (h : St w0 w S) (h1 : (⟨A, n, c, k, xs, v⟩ : Ent) ∈ S) {q : Int} (hq : q < 0 ∨ 65536 < q) :
    Calls Try.prog 34 #[.slice A n c, .int .i64 q] w fun e w' => e = .returned (.tuple #[.slice none 0 0, .int .i64 1]) ∧ St w0 w' S := by
  obtain ⟨a1, a2, rfl⟩ := h.get h1
  exact (nshr_no w A n c xs a1 q hq).mono fun e w' ⟨he, hb⟩ => ⟨he, by rw [hb]; exact h⟩
end
end Go.Proofs.Ytbjhfnkdflnnoaa
