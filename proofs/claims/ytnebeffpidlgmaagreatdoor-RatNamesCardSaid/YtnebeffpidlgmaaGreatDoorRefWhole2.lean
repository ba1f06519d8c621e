/- What the document's own package of whole numbers answers, over this translation: May, Of, Small, Neg, Add, Sub, Cmp, Mul. -/
import Derived.Test.YtnebeffpidlgmaaGreatDoorRefWhole
import Derived.Test.YtnebeffpidlgmaaGreatDoorGRefC
import Derived.Test.YtnebeffpidlgmaaGreatDoorWholeProgB
namespace Go.Proofs.YtnebeffpidlgmaaGreatDoor
open Go.RowKit
set_option linter.unusedVariables false
set_option maxRecDepth 20000
open N
section
variable {w w' : World} {A A' : Option Addr} {n c m d : Nat} {xs ys : List Int}
/-- a natural of the call's own, made a whole number -/
theorem rmake_own {W w : World} {m : Nat} {v : Int} {z : Int} (b : Bool) (hv : 0 ≤ v) (hz : iv b v = z) (ho : N.Own w W.heap.size A n c (limbs v)) (hn : n ≤ 1099511627776) (hb : Below W.heap.size W w) (hm : mg z < Q B m) :
    Calls Tryz.prog 93 #[.bool b, .slice A n c] w (OutI W m z) := by
  have h1 := rmake_any w b ho.sl hn
  rw [limbs_val hv, hz] at h1
  exact h1.mono fun e w' h => ((h.from hb).tight hm)
/-- the same, where it is made -/
theorem rmake_at {w : World} {base m : Nat} {v : Int} {z : Int} (b : Bool) (hv : 0 ≤ v) (hz : iv b v = z) (ho : N.Own w base A n c (limbs v)) (hn : n ≤ 1099511627776) (hm : mg z < Q B m) :
    Calls Tryz.prog 93 #[.bool b, .slice A n c] w (OutI w m z) := by
  have h1 := rmake_any w b ho.sl hn
  rw [limbs_val hv, hz] at h1
  exact h1.mono fun e w' h => h.tight hm
end
end Go.Proofs.YtnebeffpidlgmaaGreatDoor
