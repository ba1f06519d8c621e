/- The document's calls of layer 5 over a state. -/
import Derived.Test.YtnebeffpidlgmaaGreatDoorWholeState
import Derived.Test.YtnebeffpidlgmaaGreatDoorRefWhole2
namespace Go.Proofs.YtnebeffpidlgmaaGreatDoor
open Go.RowKit
set_option linter.unusedVariables false
set_option maxRecDepth 20000
open N
section
variable {w0 w w' : World} {S : List Ent} {T : List Bx} {A A' : Option Addr} {n c m d k k' : Nat} {xs ys : List Int} {v u z y : Int} {b b' : Bool}
theorem rmake_w (h : SB w0 w S T) (h1 : (⟨A, n, c, k, xs, v⟩ : Ent) ∈ S) (hk : k ≤ 1000000) (hz : iv b v = z) :
    Calls Tryz.prog 93 #[.bool b, .slice A n c] w fun e w' => ∃ A n c, e = .returned (.agg #[.bool (sg z), .slice A n c]) ∧ SB w0 w' (⟨A, n, c, k, limbs (mg z), mg z⟩ :: S) T := by
  obtain ⟨a1, a2, rfl⟩ := h.get h1
  subst hz
  exact (rmake_any w b a1 (by omega)).mono fun e w' ho => h.outI_le a2 ho
/-- what Small tells, of both -/
def SmOk (z q : Int) (is : Bool) : Prop := (-9223372036854775808 ≤ z ∧ z ≤ 9223372036854775807 ∧ q = z ∧ is = true) ∨ (¬ (-9223372036854775808 ≤ z ∧ z ≤ 9223372036854775807) ∧ q = 0 ∧ is = false)
theorem smOk (z : Int) : ∃ q is, SmOk z q is := by
  by_cases h : -9223372036854775808 ≤ z ∧ z ≤ 9223372036854775807
  · exact ⟨z, true, .inl ⟨h.1, h.2, rfl, rfl⟩⟩
  · exact ⟨0, false, .inr ⟨h, rfl, rfl⟩⟩
end
end Go.Proofs.YtnebeffpidlgmaaGreatDoor
