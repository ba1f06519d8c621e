/- What the document's own package of whole numbers answers, over this translation: Div. -/
import Derived.Test.YtnebeffpidlgmaaGreatDoorRefWhole2
import Derived.Test.YtnebeffpidlgmaaGreatDoorWholeProgD
import Derived.Test.YtnebeffpidlgmaaGreatDoorWholeRefState
namespace Go.Proofs.YtnebeffpidlgmaaGreatDoor
open Go.RowKit
set_option linter.unusedVariables false
set_option maxRecDepth 20000
open N
section
variable {w w' : World} {A A' : Option Addr} {n c m d : Nat} {xs ys : List Int}
/-- the results' blocks of a call with two whole numbers for arguments -/
theorem N.Held.r22 {w W : World} {a2 a3 : Nat × Array Value × TypeId} {g g' : Nat} (h : Held w [(g', #[.bool false, .slice none 0 0], 25), (g, #[.bool false, .slice none 0 0], 25), a2, a3] W) (hne : g ≠ g') : R2 w W.heap.size g g' W :=
  ⟨h.below, h.ge 1 rfl, h.ge 0 rfl, h.lt 1 rfl, h.lt 0 rfl, h.below.size, Nat.le_refl _, hne, ⟨_, _, _, _, h.row 1 rfl⟩, ⟨_, _, _, _, h.row 0 rfl⟩⟩
end
end Go.Proofs.YtnebeffpidlgmaaGreatDoor
