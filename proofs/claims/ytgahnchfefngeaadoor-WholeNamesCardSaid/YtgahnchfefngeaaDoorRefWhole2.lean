/- What the document's own package of whole numbers answers, over this translation: May, Of, Small, Neg, Add, Sub, Cmp, Mul. -/
import Derived.Test.YtgahnchfefngeaaDoorRefWhole
import Derived.Test.YtgahnchfefngeaaDoorGRefC
import Derived.Test.YtgahnchfefngeaaDoorWholeProgB
namespace Go.Proofs.YtgahnchfefngeaaDoor
open Go.RowKit
set_option linter.unusedVariables false
set_option maxRecDepth 20000
open N
section
variable {w w' : World} {A A' : Option Addr} {n c m d : Nat} {xs ys : List Int}
end
end Go.Proofs.YtgahnchfefngeaaDoor
