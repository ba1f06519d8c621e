/- The document's calls of layer 5 over a state. -/
import Derived.Test.YtgahnchfefngeaaGreatDoorWholeState
import Derived.Test.YtgahnchfefngeaaGreatDoorRefWhole2
namespace Go.Proofs.YtgahnchfefngeaaGreatDoor
open Go.RowKit
set_option linter.unusedVariables false
set_option maxRecDepth 20000
open N
section
variable {w0 w w' : World} {S : List Ent} {T : List Bx} {A A' : Option Addr} {n c m d k k' : Nat} {xs ys : List Int} {v u z y : Int} {b b' : Bool}
theorem rmake_w (h : SB w0 w S T) (h1 : (⟨A, n, c, k, xs, v⟩ : Ent) ∈ S) (hk : k ≤ 1000000) (hz : iv b v = z) :
    Calls Tryz.prog 12 #[.bool b, .slice A n c] w fun e w' => ∃ A n c, e = .returned (.agg #[.bool (sg z), .slice A n c]) ∧ SB w0 w' (⟨A, n, c, k, limbs (mg z), mg z⟩ :: S) T := by
  obtain ⟨a1, a2, rfl⟩ := h.get h1
  subst hz
  exact (rmake_any w b a1 (by omega)).mono fun e w' ho => h.outI_le a2 ho
theorem rof_w (h : SB w0 w S T) (h1 : -9223372036854775808 ≤ z) (h2 : z ≤ 9223372036854775807) :
    Calls Tryz.prog 16 #[.int .i64 z] w fun e w' => ∃ A n c, e = .returned (.agg #[.bool (sg z), .slice A n c]) ∧ SB w0 w' (⟨A, n, c, 1, limbs (mg z), mg z⟩ :: S) T :=
  (rofi_any w z h1 h2).mono fun e w' ho => h.outI ho
theorem rmay_w (h : SB w0 w S T) (h1 : (⟨A, n, c, k, xs, v⟩ : Ent) ∈ S) (hk : k ≤ 1000000) {q : Bool} (hq : mayB b xs = q) :
    Calls Tryz.prog 14 #[.agg #[.bool b, .slice A n c]] w fun e w' => e = .returned (.bool q) ∧ SB w0 w' S T := by
  obtain ⟨a1, a2, rfl⟩ := h.get h1
  subst hq
  exact (rmay_any w b a1 (by omega)).mono fun e w' ⟨he, hb⟩ => ⟨he, h.below hb⟩
theorem rsign_w (h : SB w0 w S T) (h1 : (⟨A, n, c, k, xs, v⟩ : Ent) ∈ S) (hk : k ≤ 1000000) (hz : iv b v = z) {q : Int} (hq : sgn z = q) :
    Calls Tryz.prog 18 #[.agg #[.bool b, .slice A n c]] w fun e w' => e = .returned (.int .i64 q) ∧ SB w0 w' S T := by
  obtain ⟨a1, a2, rfl⟩ := h.get h1
  subst hz hq
  exact (rsign_any w b a1 (by omega)).mono fun e w' ⟨he, hb⟩ => ⟨he, h.below hb⟩
theorem rcmp_w (h : SB w0 w S T) (h1 : (⟨A, n, c, k, xs, v⟩ : Ent) ∈ S) (h2 : (⟨A', m, d, k', ys, u⟩ : Ent) ∈ S) (hk : k ≤ 1000000) (hk' : k' ≤ 1000000) (hz : iv b v = z) (hy : iv b' u = y) {q : Int} (hq : sgn (z - y) = q) :
    Calls Tryz.prog 20 #[.agg #[.bool b, .slice A n c], .agg #[.bool b', .slice A' m d]] w fun e w' => e = .returned (.int .i64 q) ∧ SB w0 w' S T := by
  obtain ⟨a1, a2, rfl⟩ := h.get h1
  obtain ⟨b1, b2, rfl⟩ := h.get h2
  subst hz hy hq
  exact (rcmp_i w b a1 (by omega) b' b1 (by omega)).mono fun e w' ⟨he, hb⟩ => ⟨he, h.below hb⟩
/-- what Small tells, of both -/
def SmOk (z q : Int) (is : Bool) : Prop := (-9223372036854775808 ≤ z ∧ z ≤ 9223372036854775807 ∧ q = z ∧ is = true) ∨ (¬ (-9223372036854775808 ≤ z ∧ z ≤ 9223372036854775807) ∧ q = 0 ∧ is = false)
theorem smOk (z : Int) : ∃ q is, SmOk z q is := by
  by_cases h : -9223372036854775808 ≤ z ∧ z ≤ 9223372036854775807
  · exact ⟨z, true, .inl ⟨h.1, h.2, rfl, rfl⟩⟩
  · exact ⟨0, false, .inr ⟨h, rfl, rfl⟩⟩
theorem rsmall_w (h : SB w0 w S T) (h1 : (⟨A, n, c, k, xs, v⟩ : Ent) ∈ S) (hk : k ≤ 1000000) (hz : iv b v = z) {q : Int} {is : Bool} (hq : SmOk z q is) :
    Calls Tryz.prog 9 #[.agg #[.bool b, .slice A n c]] w fun e w' => e = .returned (.tuple #[.int .i64 q, .bool is]) ∧ SB w0 w' S T := by
  obtain ⟨a1, a2, rfl⟩ := h.get h1
  exact (rsmall_i w b a1 (by omega) hz hq).mono fun e w' ⟨he, hb⟩ => ⟨he, h.below hb⟩
theorem small_g (h : SB w0 w S T) (h1 : (⟨A, n, c, k, xs, v⟩ : Ent) ∈ S) (hk : k ≤ 1000000) (hz : iv b v = z) {q : Int} {is : Bool} (hq : SmOk z q is) :
    Calls Tryz.prog 8 #[.agg #[.bool b, .slice A n c]] w fun e w' => e = .returned (.tuple #[.int .i64 q, .bool is]) ∧ SB w0 w' S T := by
  rcases hq with ⟨h2, h3, rfl, rfl⟩ | ⟨h2, rfl, rfl⟩
  · exact small_w h h1 hk hz h2 h3
  · exact small_x h h1 hk hz h2
end
end Go.Proofs.YtgahnchfefngeaaGreatDoor
