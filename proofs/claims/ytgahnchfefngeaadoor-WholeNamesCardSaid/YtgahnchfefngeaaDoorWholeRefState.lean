/- The document's calls of layer 5 over a state. -/
import Derived.Test.YtgahnchfefngeaaDoorWholeState
import Derived.Test.YtgahnchfefngeaaDoorRefWhole2
namespace Go.Proofs.YtgahnchfefngeaaDoor
open Go.RowKit
set_option linter.unusedVariables false
set_option maxRecDepth 20000
open N
section
variable {w0 w w' : World} {S : List Ent} {T : List Bx} {A A' : Option Addr} {n c m d k k' : Nat} {xs ys : List Int} {v u z y : Int} {b b' : Bool}
/-- what Small tells, of both -/
def SmOk (z q : Int) (is : Bool) : Prop := (-9223372036854775808 ≤ z ∧ z ≤ 9223372036854775807 ∧ q = z ∧ is = true) ∨ (¬ (-9223372036854775808 ≤ z ∧ z ≤ 9223372036854775807) ∧ q = 0 ∧ is = false)
theorem smOk (z : Int) : ∃ q is, SmOk z q is := by
  by_cases h : -9223372036854775808 ≤ z ∧ z ≤ 9223372036854775807
  · exact ⟨z, true, .inl ⟨h.1, h.2, rfl, rfl⟩⟩
  · exact ⟨0, false, .inr ⟨h, rfl, rfl⟩⟩
theorem small_g (h : SB w0 w S T) (h1 : (⟨A, n, c, k, xs, v⟩ : Ent) ∈ S) (hk : k ≤ 1000000) (hz : iv b v = z) {q : Int} {is : Bool} (hq : SmOk z q is) :
    Calls Tryd.prog 11 #[.agg #[.bool b, .slice A n c]] w fun e w' => e = .returned (.tuple #[.int .i64 q, .bool is]) ∧ SB w0 w' S T := by
  rcases hq with ⟨h2, h3, rfl, rfl⟩ | ⟨h2, rfl, rfl⟩
  · exact small_w h h1 hk hz h2 h3
  · exact small_x h h1 hk hz h2
end
end Go.Proofs.YtgahnchfefngeaaDoor
