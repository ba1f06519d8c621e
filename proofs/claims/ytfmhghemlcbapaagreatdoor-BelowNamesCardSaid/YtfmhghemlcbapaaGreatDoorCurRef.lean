/- What the document's own calls of layer 8 answer, over this translation (mk_cur.py). -/
import Derived.Test.YtfmhghemlcbapaaGreatDoorCurProg
import Derived.Test.YtfmhghemlcbapaaGreatDoorBitIdx
import Derived.Test.YtfmhghemlcbapaaGreatDoorRegG
namespace Go.Proofs.YtfmhghemlcbapaaGreatDoor
open Go.RowKit Go.Shelf
set_option linter.unusedVariables false
set_option linter.unusedSimpArgs false
set_option maxRecDepth 20000
open N
section
variable {w w' : World} {g a : Nat} {l : List UInt8} {o : Bool}
end
end Go.Proofs.YtfmhghemlcbapaaGreatDoor
