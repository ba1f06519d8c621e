/- Gathered: RefGcd, RefPow. -/
import Derived.Test.YtgahnchfefngeaaDoorGRefB
import Derived.Test.YtgahnchfefngeaaDoorGQuo
/- What the document's own Gcd of layer 3 answers, over this translation. -/
namespace Go.Proofs.YtgahnchfefngeaaDoor
open Go.RowKit
set_option linter.unusedVariables false
set_option maxRecDepth 20000
open N
theorem St.tight {w0 w : World} {S : List Ent} {A : Option Addr} {n c k K : Nat} {v : Int} (h : St w0 w S) (h1 : (⟨A, n, c, k, limbs v, v⟩ : Ent) ∈ S) (h0 : 0 ≤ v) (hK : v < Q B K) : St w0 w (⟨A, n, c, K, limbs v, v⟩ :: S) := by
  obtain ⟨a1, a2, a3⟩ := h.get h1
  exact h.cons a1 (by rw [← a1.len]; exact (limbs_len_le h0 K).2 hK) a3
theorem limbs_some {n : Nat} {v : Int} (h : (limbs v).length = n) (h0 : 0 ≤ v) : n = 0 ↔ v = 0 := by
  have := limbs_len_le h0 0
  rw [h, Q_zero] at this
  omega
theorem four_ltR {a b : Int} {T : Nat} (ha : a < Q B T) (hb : b < Q B T) : a + a + b + b < Q B (T + 1) := by
  have hq := Q_pos (b := B) (by decide) T
  have : Q B (T + 1) = Q B T * 18446744073709551616 := Q_succ ..
  omega
end Go.Proofs.YtgahnchfefngeaaDoor
/- What the document's own Pow of layer 3 answers, over this translation. -/
namespace Go.Proofs.YtgahnchfefngeaaDoor
open Go.RowKit
set_option linter.unusedVariables false
set_option maxRecDepth 20000
open N
section
variable {w0 w w' : World} {S S' : List Ent} {A A' : Option Addr} {n c m d k k' K : Nat} {xs ys : List Int} {v u : Int}
theorem len_one {v : Int} (h0 : 0 ≤ v) (h : W.len v = 1) : v = 1 := by
  obtain ⟨k, e1, e2, e3⟩ := len_spec v h0
  have : k = 1 := by omega
  subst this
  rcases e3 with e3 | e3
  · omega
  · simp at e2 e3; omega
theorem len_zero {v : Int} (h0 : 0 ≤ v) (h : W.len v = 0) : v = 0 := by
  obtain ⟨k, e1, e2, e3⟩ := len_spec v h0
  have : k = 0 := by omega
  subst this
  simp at e2; omega
end
end Go.Proofs.YtgahnchfefngeaaDoor
