/- What the calls of the document make, over a state: memory of their own. -/
import Derived.Test.YtnebeffpidlgmaaGreatDoorWholeOut
import Derived.Test.YtnebeffpidlgmaaGreatDoorRefWhole3
namespace Go.Proofs.YtnebeffpidlgmaaGreatDoor
open Go.RowKit
set_option linter.unusedVariables false
set_option maxRecDepth 20000
open N
section
variable {w0 w w' : World} {S : List Ent} {T : List Bx} {A A' : Option Addr} {n c m d k k' : Nat} {xs ys : List Int} {v u z y : Int} {b b' : Bool}
/-- what Div tells is one -/
theorem way_fix {z y q r e q' r' e' : Int} (h : Way z y q r e) (h' : Way z y q' r' e') : q = q' ∧ r = r' ∧ e = e' := by
  obtain ⟨p, s, hd, w1, w2, w3, w4⟩ := h
  obtain ⟨p', s', hd', v1, v2, v3, v4⟩ := h'
  obtain ⟨rfl, rfl, rfl⟩ : p = p' ∧ s = s' ∧ e = e' := by
    rcases hd with ⟨a1, a2, a3, a4⟩ | ⟨a1, a2, a3, a4⟩ <;> rcases hd' with ⟨b1, b2, b3, b4⟩ | ⟨b1, b2, b3, b4⟩
    · exact ⟨a2.trans b2.symm, a3.trans b3.symm, a4.trans b4.symm⟩
    · omega
    · omega
    · exact ⟨a2.trans b2.symm, a3.trans b3.symm, a4.trans b4.symm⟩
  by_cases hz : z < 0 <;> by_cases hy : y < 0
  · obtain ⟨x1, x2⟩ := w4 hz hy
    obtain ⟨y1, y2⟩ := v4 hz hy
    exact ⟨x1.trans y1.symm, x2.trans y2.symm, rfl⟩
  · obtain ⟨x1, x2⟩ := w3 hz (by omega)
    obtain ⟨y1, y2⟩ := v3 hz (by omega)
    exact ⟨x1.trans y1.symm, x2.trans y2.symm, rfl⟩
  · obtain ⟨x1, x2⟩ := w2 (by omega) hy
    obtain ⟨y1, y2⟩ := v2 (by omega) hy
    exact ⟨x1.trans y1.symm, x2.trans y2.symm, rfl⟩
  · obtain ⟨x1, x2⟩ := w1 (by omega) (by omega)
    obtain ⟨y1, y2⟩ := v1 (by omega) (by omega)
    exact ⟨x1.trans y1.symm, x2.trans y2.symm, rfl⟩
end
end Go.Proofs.YtnebeffpidlgmaaGreatDoor
