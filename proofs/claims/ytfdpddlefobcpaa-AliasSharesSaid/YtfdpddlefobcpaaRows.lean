/-
  No cell of these rows narrows 'for every input' (looked for: loops, veiled, ifaces, maps, wideKeys, modest, calm, conditions, laid).
  DERIVED. THE GIVEN ROWS OF THIS SEAT. 3 by the template 'for every input the law returns true; each argument reads behind the call as it read before'; 0 by the template 'total and deterministic' (their statements: YtfdpddlefobcpaaTotals.lean).
  GIVEN WITH THE SEED: the statements are not yours to turn. If you find one false, say at which input.
  Laid BY PROGRAM, IN A SANDBOX (cutbox-rows.mjs): the forced cells as the released guide's own fill.sh prints them over the translation 8aac9e66bb6823e2… (all of the seat's roots in one cut). By AI agents, Wed Nov 11 2026. No macro, syntax, notation, axiom, sorry.
-/
import Derived.Test.YtfdpddlefobcpaaChecked
import GoSem.Claim
import GoSem.ClaimJoined
import GoSem.ClaimMapViews
import Derived.JoinedTies
import Derived.KernelRfl
namespace Go.Proofs.Ytfdpddlefobcpaa
/- THE CELL 'sum', in the pinned program and in every row, IS THE sha256 OF THE DUMP (.gsa) THAT YtfdpddlefobcpaaProg.lean LOADS. Nothing in Lean hashes anything: it is a label: what it is worth is what the hold of that sum in a sandbox is worth. -/
noncomputable def Try.pinned : Pinned := { name := "ytfdpddlefobcpaa", sum := "8aac9e66bb6823e244996f45fadd959b2edac5c32b786dc578e829a2f5a09712", checked := Try.checked }
namespace Rows
def none {H : Type} : Left H := { results := [], args := [] }

/-- 'tombolalaw11.AliasShares': WHATEVER THE INPUT: true; the input reads as it did. -/
def aliasSharesSpec : ChangeSpec := { name := "aliasShares", fn := fun _ => fun
  | [d] => { results := [.lit (.bool true)], args := [d] }
  | _ => none }
def aliasSharesRow : OpenClaim := { program := "ytfdpddlefobcpaa", sum := "8aac9e66bb6823e244996f45fadd959b2edac5c32b786dc578e829a2f5a09712", func := "tombola/tombolalaw11.AliasShares", spec := "aliasShares", inPlace := ["math/bits.Add64", "math/bits.Sub64"], unfollowed := true, recurses := true, named := ["math/bits.divideError", "math/bits.overflowError"], apart := false }
def AliasSharesSaid : Prop := aliasSharesRow.holds Try.pinned (OpenSpec.ofChange aliasSharesSpec)

/-- ITS FALSE NEIGHBOUR: 'it returns false'. Refute it at one input. -/
def aliasSharesWrong : ChangeSpec := { name := "aliasShares", fn := fun _ => fun
  | [d] => { results := [.lit (.bool false)], args := [d] }
  | _ => none }
def AliasSharesWrongFalsely : Prop := aliasSharesRow.holds Try.pinned (OpenSpec.ofChange aliasSharesWrong)

/-- 'tombolalaw11.AliasTable': WHATEVER THE INPUT: true; the input reads as it did. -/
def aliasTableSpec : ChangeSpec := { name := "aliasTable", fn := fun _ => fun
  | [d1, d2] => { results := [.lit (.bool true)], args := [d1, d2] }
  | _ => none }
def aliasTableRow : OpenClaim := { program := "ytfdpddlefobcpaa", sum := "8aac9e66bb6823e244996f45fadd959b2edac5c32b786dc578e829a2f5a09712", func := "tombola/tombolalaw11.AliasTable", spec := "aliasTable", inPlace := ["math/bits.Add64", "math/bits.Sub64"], unfollowed := true, recurses := true, named := ["math/bits.divideError", "math/bits.overflowError"], apart := false }
def AliasTableSaid : Prop := aliasTableRow.holds Try.pinned (OpenSpec.ofChange aliasTableSpec)

/-- ITS FALSE NEIGHBOUR: 'it returns false'. Refute it at one input. -/
def aliasTableWrong : ChangeSpec := { name := "aliasTable", fn := fun _ => fun
  | [d1, d2] => { results := [.lit (.bool false)], args := [d1, d2] }
  | _ => none }
def AliasTableWrongFalsely : Prop := aliasTableRow.holds Try.pinned (OpenSpec.ofChange aliasTableWrong)

/-- 'tombolalaw11.AliasTimes': WHATEVER THE INPUT: true; the input reads as it did. -/
def aliasTimesSpec : ChangeSpec := { name := "aliasTimes", fn := fun _ => fun
  | [d1, d2] => { results := [.lit (.bool true)], args := [d1, d2] }
  | _ => none }
def aliasTimesRow : OpenClaim := { program := "ytfdpddlefobcpaa", sum := "8aac9e66bb6823e244996f45fadd959b2edac5c32b786dc578e829a2f5a09712", func := "tombola/tombolalaw11.AliasTimes", spec := "aliasTimes", inPlace := ["math/bits.Add64", "math/bits.Sub64"], unfollowed := true, recurses := true, named := ["math/bits.divideError", "math/bits.overflowError"], apart := false }
def AliasTimesSaid : Prop := aliasTimesRow.holds Try.pinned (OpenSpec.ofChange aliasTimesSpec)

/-- ITS FALSE NEIGHBOUR: 'it returns false'. Refute it at one input. -/
def aliasTimesWrong : ChangeSpec := { name := "aliasTimes", fn := fun _ => fun
  | [d1, d2] => { results := [.lit (.bool false)], args := [d1, d2] }
  | _ => none }
def AliasTimesWrongFalsely : Prop := aliasTimesRow.holds Try.pinned (OpenSpec.ofChange aliasTimesWrong)

/- THE SECOND FORM. 'bulk': how many values and letters a reading holds, each counted each time it is reached (what is shared counts as often as it is met; a slice's spare places count too). A statement '..UptoSaid' is the law's where the arguments, and the package variables that the reading takes, are together of bulk at most 1048576: NARROWER than '..Said'. Prove '..Said' where nothing that the law and all that it calls make is longer than what came in: it says more and counts as full. Else prove '..UptoSaid'. A law counts once. -/
mutual
def uptoBulk {H : Type} : DataW H → Nat
  | .lit (.string bytes) => bytes.length + 1
  | .lit _ => 1
  | .nil => 1
  | .ptr d => uptoBulk d + 1
  | .slice elems spare => uptoBulkAll elems + uptoBulkAll spare + 1
  | .agg parts => uptoBulkAll parts + 1
  | .iface _ d => uptoBulk d + 1
  | .map entries => uptoBulkEntries entries + 1
  | .held _ => 1
def uptoBulkAll {H : Type} : List (DataW H) → Nat
  | [] => 0
  | d :: r => uptoBulk d + uptoBulkAll r
def uptoBulkEntries {H : Type} : List (Lit × DataW H) → Nat
  | [] => 0
  | x :: r => uptoBulkEntry x + uptoBulkEntries r
def uptoBulkEntry {H : Type} : Lit × DataW H → Nat
  | (.string bytes, d) => bytes.length + uptoBulk d + 1
  | (_, d) => uptoBulk d + 1
 end
def uptoSmall : (H : Type) → List (DataW H) → Bool := fun _ ds => decide (uptoBulkAll ds ≤ 1048576)
def OpenSpec.upto (s : _root_.Go.ChangeSpec) : _root_.Go.OpenSpec := { _root_.Go.OpenSpec.ofChange s with cond := some uptoSmall }

/-- 'tombolalaw11.AliasShares', WHERE WHAT IT READS IS OF BULK AT MOST 1048576: true; the input reads as it did. -/
def aliasSharesUptoRow : OpenClaim := { program := "ytfdpddlefobcpaa", sum := "8aac9e66bb6823e244996f45fadd959b2edac5c32b786dc578e829a2f5a09712", func := "tombola/tombolalaw11.AliasShares", spec := "aliasShares", inPlace := ["math/bits.Add64", "math/bits.Sub64"], unfollowed := true, recurses := true, named := ["math/bits.divideError", "math/bits.overflowError"], apart := false, narrowed := true }
def AliasSharesUptoSaid : Prop := aliasSharesUptoRow.holds Try.pinned (OpenSpec.upto aliasSharesSpec)

/-- 'tombolalaw11.AliasTable', WHERE WHAT IT READS IS OF BULK AT MOST 1048576: true; the input reads as it did. -/
def aliasTableUptoRow : OpenClaim := { program := "ytfdpddlefobcpaa", sum := "8aac9e66bb6823e244996f45fadd959b2edac5c32b786dc578e829a2f5a09712", func := "tombola/tombolalaw11.AliasTable", spec := "aliasTable", inPlace := ["math/bits.Add64", "math/bits.Sub64"], unfollowed := true, recurses := true, named := ["math/bits.divideError", "math/bits.overflowError"], apart := false, narrowed := true }
def AliasTableUptoSaid : Prop := aliasTableUptoRow.holds Try.pinned (OpenSpec.upto aliasTableSpec)

/-- 'tombolalaw11.AliasTimes', WHERE WHAT IT READS IS OF BULK AT MOST 1048576: true; the input reads as it did. -/
def aliasTimesUptoRow : OpenClaim := { program := "ytfdpddlefobcpaa", sum := "8aac9e66bb6823e244996f45fadd959b2edac5c32b786dc578e829a2f5a09712", func := "tombola/tombolalaw11.AliasTimes", spec := "aliasTimes", inPlace := ["math/bits.Add64", "math/bits.Sub64"], unfollowed := true, recurses := true, named := ["math/bits.divideError", "math/bits.overflowError"], apart := false, narrowed := true }
def AliasTimesUptoSaid : Prop := aliasTimesUptoRow.holds Try.pinned (OpenSpec.upto aliasTimesSpec)

end Rows
end Go.Proofs.Ytfdpddlefobcpaa
