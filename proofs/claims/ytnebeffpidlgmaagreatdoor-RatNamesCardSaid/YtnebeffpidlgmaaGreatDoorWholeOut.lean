/- What the calls of layer 5 make, over a state: memory of their own. -/
import Derived.Test.YtnebeffpidlgmaaGreatDoorWholeState
namespace Go.Proofs.YtnebeffpidlgmaaGreatDoor
open Go.RowKit
set_option linter.unusedVariables false
set_option maxRecDepth 20000
open N
section
variable {w0 w w' : World} {S : List Ent} {T : List Bx} {A A' : Option Addr} {n c m d k k' : Nat} {xs ys : List Int} {v u z y : Int} {b b' : Bool}
theorem neg_o (h : SB w0 w S T) (h1 : (⟨A, n, c, k, xs, v⟩ : Ent) ∈ S) (hk : k ≤ 1000000) (hz : iv b v = z) :
    Calls Tryz.prog 47 #[.agg #[.bool b, .slice A n c]] w (OutI w k (-z)) := by
  obtain ⟨a1, a2, rfl⟩ := h.get h1
  subst hz
  exact (wneg_any w b a1 (by omega)).mono fun e w' ho => ho.le a2
theorem add_o (h : SB w0 w S T) (h1 : (⟨A, n, c, k, xs, v⟩ : Ent) ∈ S) (h2 : (⟨A', m, d, k', ys, u⟩ : Ent) ∈ S) (hk : k ≤ 1000000) (hk' : k' ≤ 1000000) (hz : iv b v = z) (hy : iv b' u = y) :
    Calls Tryz.prog 67 #[.agg #[.bool b, .slice A n c], .agg #[.bool b', .slice A' m d]] w (OutI w (k + k' + 1) (z + y)) := by
  obtain ⟨a1, a2, rfl⟩ := h.get h1
  obtain ⟨b1, b2, rfl⟩ := h.get h2
  subst hz hy
  exact (wadd_any w b a1 (by omega) b' b1 (by omega)).mono fun e w' ho => ho.le (by omega)
theorem mul_o (h : SB w0 w S T) (h1 : (⟨A, n, c, k, xs, v⟩ : Ent) ∈ S) (h2 : (⟨A', m, d, k', ys, u⟩ : Ent) ∈ S) (hk : k ≤ 1000000) (hk' : k' ≤ 1000000) (hz : iv b v = z) (hy : iv b' u = y) :
    Calls Tryz.prog 70 #[.agg #[.bool b, .slice A n c], .agg #[.bool b', .slice A' m d]] w (OutI w (k + k') (z * y)) := by
  obtain ⟨a1, a2, rfl⟩ := h.get h1
  obtain ⟨b1, b2, rfl⟩ := h.get h2
  subst hz hy
  exact (wmul_any w b a1 (by omega) b' b1 (by omega)).mono fun e w' ho => ho.le (by omega)
theorem N.OutI2.le {W w' : World} {m k : Nat} {z y q : Int} {e : Ending} (h : OutI2 W m z y q e w') (hk : m ≤ k) : OutI2 W k z y q e w' := by
  obtain ⟨A, n, c, A', n', c', he, h1, h2, h3⟩ := h
  exact ⟨A, n, c, A', n', c', he, Nat.le_trans h1 hk, Nat.le_trans h2 hk, h3⟩
end
end Go.Proofs.YtnebeffpidlgmaaGreatDoor
