/- Gathered: RefGcd, RefPow. -/
import Derived.Test.YtnebeffpidlgmaaGreatDoorGRefB
import Derived.Test.YtnebeffpidlgmaaGreatDoorGQuo
/- What the document's own Gcd of layer 3 answers, over this translation. -/
namespace Go.Proofs.YtnebeffpidlgmaaGreatDoor
open Go.RowKit
set_option linter.unusedVariables false
set_option maxRecDepth 20000
open N
theorem rtrim_v {w0 w : World} {S : List Ent} {A : Option Addr} {n c k K : Nat} {xs : List Int} {v : Int} (h : St w0 w S) (h1 : (⟨A, n, c, k, xs, v⟩ : Ent) ∈ S) (hk : k ≤ 1000000) (hK : v < Q B K) :
    Calls Tryz.prog 36 #[.slice A n c] w fun e w' => ∃ A n c, e = .returned (.slice A n c) ∧ St w0 w' (⟨A, n, c, K, limbs v, v⟩ :: S) := by
  obtain ⟨a1, a2, rfl⟩ := h.get h1
  exact (rtrim_any w A n c xs a1 (by omega)).mono fun e w' ho => h.outK (val_nonneg (by decide) a1.dg) hK ho
theorem St.tight {w0 w : World} {S : List Ent} {A : Option Addr} {n c k K : Nat} {v : Int} (h : St w0 w S) (h1 : (⟨A, n, c, k, limbs v, v⟩ : Ent) ∈ S) (h0 : 0 ≤ v) (hK : v < Q B K) : St w0 w (⟨A, n, c, K, limbs v, v⟩ :: S) := by
  obtain ⟨a1, a2, a3⟩ := h.get h1
  exact h.cons a1 (by rw [← a1.len]; exact (limbs_len_le h0 K).2 hK) a3
theorem limbs_some {n : Nat} {v : Int} (h : (limbs v).length = n) (h0 : 0 ≤ v) : n = 0 ↔ v = 0 := by
  have := limbs_len_le h0 0
  rw [h, Q_zero] at this
  omega
theorem four_ltR {a b : Int} {T : Nat} (ha : a < Q B T) (hb : b < Q B T) : a + a + b + b < Q B (T + 1) := by
  have hq := Q_pos (b := B) (by decide) T
  have : Q B (T + 1) = Q B T * 18446744073709551616 := Q_succ ..
  omega
end Go.Proofs.YtnebeffpidlgmaaGreatDoor
/- What the document's own Pow of layer 3 answers, over this translation. -/
namespace Go.Proofs.YtnebeffpidlgmaaGreatDoor
open Go.RowKit
set_option linter.unusedVariables false
set_option maxRecDepth 20000
open N
section
variable {w0 w w' : World} {S S' : List Ent} {A A' : Option Addr} {n c m d k k' K : Nat} {xs ys : List Int} {v u : Int}
theorem rmul_v (h : St w0 w S) (h1 : (⟨A, n, c, k, xs, v⟩ : Ent) ∈ S) (h2 : (⟨A', m, d, k', ys, u⟩ : Ent) ∈ S) (hk : k ≤ 1000000) (hk' : k' ≤ 1000000) (hK : v * u < Q B K) :
    Calls Tryz.prog 82 #[.slice A n c, .slice A' m d] w fun e w' => ∃ A n c, e = .returned (.slice A n c) ∧ St w0 w' (⟨A, n, c, K, limbs (v * u), v * u⟩ :: S) := by
  obtain ⟨a1, a2, rfl⟩ := h.get h1
  obtain ⟨b1, b2, rfl⟩ := h.get h2
  exact (rmul_any w A A' n c m d xs ys a1 b1 (by omega) (by omega)).mono fun e w' ho => h.outK (Int.mul_nonneg (val_nonneg (by decide) a1.dg) (val_nonneg (by decide) b1.dg)) hK ho
theorem len_one {v : Int} (h0 : 0 ≤ v) (h : W.len v = 1) : v = 1 := by
  obtain ⟨k, e1, e2, e3⟩ := len_spec v h0
  have : k = 1 := by omega
  subst this
  rcases e3 with e3 | e3
  · omega
  · simp at e2 e3; omega
theorem len_zero {v : Int} (h0 : 0 ≤ v) (h : W.len v = 0) : v = 0 := by
  obtain ⟨k, e1, e2, e3⟩ := len_spec v h0
  have : k = 0 := by omega
  subst this
  simp at e2; omega
end
end Go.Proofs.YtnebeffpidlgmaaGreatDoor
